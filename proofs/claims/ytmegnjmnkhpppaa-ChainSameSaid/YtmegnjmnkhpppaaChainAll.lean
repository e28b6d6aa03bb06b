/-
  alive of layer 7: the chapter's first example holds; what two answers of Public and Recover have to do with each other.
-/
import Derived.Test.YtmegnjmnkhpppaaChainTop
import Derived.Lib.SlBytesConst
namespace Go.Proofs.Ytmegnjmnkhpppaa
open Go.RowKit Go.Shelf
set_option maxRecDepth 100000

def tabc : List UInt8 := [97, 98, 99]
def tsix : List UInt8 := [97, 32, 115, 101, 101, 100, 32, 111, 102, 32, 115, 105, 120, 116, 101, 101]
theorem texts_same (s t : List UInt8) (h : s = t) : ((strOf s).toList == (strOf t).toList) = true := by subst h; simp
/-- A constant's bytes, in new memory that is marked. -/
theorem const_bytes (w : World) (s : List UInt8) (n : Nat) (hs : s.length = n) (hn : n ≤ 1000) : ∃ w2, (convert 22 22 (.slice (some ⟨w.heap.size, 0, none⟩) n n)).run Try.prog (w.alloc (.cells (ar s) 5)) = .ok (.slice (some ⟨w.heap.size, 0, none⟩) n n) w2 ∧
    Bsl w2 w2.heap.size (some ⟨w.heap.size, 0, none⟩) n n s ∧ Below w.heap.size w w2 := by
  refine ⟨_, Lib.run_convert_bytes_const (P := Try.prog) w 22 5 (ar s) n n Try.underlying22 Try.underlying5, ?_, (Below.refl _ w).alloc (Nat.le_refl _) _⟩
  have y2 := heap_alloc_new w (.cells (ar s) 5 ((ar s).size, (ar s).size + 1))
  exact bsl_of_holds hs (Nat.le_refl _) (by unfold maxLen; omega) (Array.getElem?_eq_some_iff.1 y2).1 fun i hi => by rw [cell_of_row _ _ _ _ _ _ y2, ar_get s i hi]
/-- What is recovered of what was signed is the public key. -/
theorem rec_sign (sd : List UInt8) (l x : Nat) : pubL l (takenL l (digL x) (valsL sd l (digL x) 10) 10) = pubL l (valsL sd l lasts 10) := by
  rw [takenL_valsL sd l (digL x) (fun k h => digL_le x k h) 10 (Nat.le_refl _)]

set_option maxHeartbeats 2000000 in
theorem alive_chain (w : World) : Calls Try.prog 10 #[] w fun e W' => e = .returned (.bool true) ∧ Below w.heap.size w W' := by
  obtain ⟨w1, c1, x1, b1⟩ := const_bytes w tsix 16 rfl (by omega)
  have e1 : ar tsix = #[.int .u8 97, .int .u8 32, .int .u8 115, .int .u8 101, .int .u8 101, .int .u8 100, .int .u8 32, .int .u8 111, .int .u8 102, .int .u8 32, .int .u8 115, .int .u8 105, .int .u8 120, .int .u8 116, .int .u8 101, .int .u8 101] := rfl
  rw [e1] at c1
  clear e1
  have HP := Lib.hid (Public_ok _ _ _ 3 (by omega) w1 x1)
  obtain ⟨p, hp⟩ : ∃ p, pubL 3 (valsL tsix 3 lasts 10) = p := ⟨_, rfl⟩
  rw [hp] at HP
  have HPE := Lib.hid hp; clear hp
  have HX1 := Lib.hid x1; clear x1
  have HB1 := Lib.hid b1; clear b1
  go_enter Try.func10, Try.ntmps10
  go_wp2_with fail
  refine HP.out.mono ?_
  rintro e w2 ⟨g2, k2, rfl, _, h2, b2⟩
  obtain ⟨w3, c3, x3, b3⟩ := const_bytes w2 tabc 3 rfl (by omega)
  have e3 : ar tabc = #[.int .u8 97, .int .u8 98, .int .u8 99] := rfl
  rw [e3] at c3
  clear e3
  have HX3 := Lib.hid ((HX1.out.step b2).step b3)
  have HQ3 := Lib.hid (h2.step b3)
  have HB2 := Lib.hid (HB1.out.trans (b2.mono HB1.out.size))
  have HB3 := Lib.hid (HB2.out.trans (b3.mono HB2.out.size)); clear b2 b3 h2 HX1 HB1 HB2 HP c1
  have hsg := Sign_ok _ _ _ 3 (by omega) _ 3 _ tabc w3 HX3.out x3 (by omega)
  have hr := rec_sign tsix 3 (fourW tabc).a.toNat
  rw [HPE.out] at hr
  obtain ⟨S, hS⟩ : ∃ S, valsL tsix 3 (digL (fourW tabc).a.toNat) 10 = S := ⟨_, rfl⟩
  rw [hS] at hsg hr
  clear hS
  have HSG := Lib.hid hsg; clear hsg x3
  have HR := Lib.hid hr; clear hr
  go_wp2_with fail
  refine HSG.out.mono ?_
  rintro e w4 ⟨v4, rfl, h4, b4⟩
  obtain ⟨g4, k4, rfl, _, hgl, hgc, hgm, hgs, hgh⟩ := bsl_of_own h4 (by omega)
  obtain ⟨w5, c5, x5, b5⟩ := const_bytes w4 tabc 3 rfl (by omega)
  have e5 : ar tabc = #[.int .u8 97, .int .u8 98, .int .u8 99] := rfl
  rw [e5] at c5
  clear e5
  have HS5 := Lib.hid ((bsl_of_holds hgs hgc hgm hgl hgh).step b5)
  have HQ5 := Lib.hid ((HQ3.out.step b4).step b5)
  have HB4 := Lib.hid (HB3.out.trans (b4.mono HB3.out.size))
  have HB5 := Lib.hid (HB4.out.trans (b5.mono HB4.out.size)); clear b4 b5 h4 hgl hgc hgm hgs hgh HX3 HQ3 HB3 HB4 HSG c3
  have hrc := Recover_ok 3 (by omega) _ 3 _ tabc g4 0 k4 S w5 x5 (by omega) HS5.out
  rw [HR.out] at hrc
  have HRC := Lib.hid hrc; clear hrc x5
  go_wp2_with fail
  refine HRC.out.mono ?_
  rintro e w6 ⟨g6, k6, rfl, _, h6, b6⟩
  have v1 := (HQ5.out.step b6).conv
  have v2 := h6.conv
  have qs := texts_same p p rfl
  have HB6 := Lib.hid (HB5.out.trans (b6.mono HB5.out.size)); clear b6 h6 HQ5 HB5 HS5 HRC c5
  go_wp2_with fail
  go_ret
  exact ⟨rfl, HB6.out⟩
end Go.Proofs.Ytmegnjmnkhpppaa
