/-
  MacNestedSaid: for any key and two texts (a key that is none, and texts beyond 10,000 bytes, the law itself lets be) the tag is the sum of the key, a byte 2, and the key of the key, a byte 1 and the text; texts with one inner key have one tag. No condition.
-/
import Derived.Test.YtgididgijhpfpaaRows
import Derived.Test.YtgididgijhpfpaaIn
import Derived.Test.YtgididgijhpfpaaMacRow
namespace Go.Proofs.Ytgididgijhpfpaa
open Go.RowKit Go.Shelf
set_option maxRecDepth 100000

theorem macNested_far (a0 : Option Addr) (len0 cap0 : Nat) (a1 : Option Addr) (len1 cap1 : Nat) (a2 : Option Addr) (len2 cap2 : Nat) (w : World) (h : len0 ≠ 16 ∨ (len0 = 16 ∧ (10000 : Int) < len1) ∨ (len0 = 16 ∧ (len1 : Int) ≤ 10000 ∧ (10000 : Int) < len2)) (_hm : (len1 : Int) ≤ 9223372036854775807) (_hm2 : (len2 : Int) ≤ 9223372036854775807) :
    Calls Try.prog 5 #[.slice a0 len0 cap0, .slice a1 len1 cap1, .slice a2 len2 cap2] w fun e w' => e = .returned (.bool true) ∧ Below w.heap.size w w' := by
  rcases h with h | ⟨rfl, h⟩ | ⟨rfl, h1, h2⟩
  · have e : ((len0 : Int) == 16) = false := by simp; omega
    go_enter Try.func5, Try.ntmps5
    go_wp2_with fail
    refine (alive_mac _).mono ?_
    rintro e w1 ⟨rfl, b1⟩
    have HB := Lib.hid b1; clear b1
    go_wp2_with fail
    go_ret
    exact ⟨rfl, HB.out⟩
  all_goals
    go_enter Try.func5, Try.ntmps5
    go_wp2_with fail
    refine (alive_mac _).mono ?_
    rintro e w1 ⟨rfl, b1⟩
    have HB := Lib.hid b1; clear b1
    go_wp2_with fail
    go_ret
    exact ⟨rfl, HB.out⟩

set_option maxHeartbeats 8000000 in
theorem macNested_near (a0 : Option Addr) (cap0 : Nat) (k : List UInt8) (a1 : Option Addr) (len1 cap1 : Nat) (s : List UInt8) (a2 : Option Addr) (len2 cap2 : Nat) (t : List UInt8) (w : World) (hA : Bsl w w.heap.size a0 16 cap0 k) (hS : Bsl w w.heap.size a1 len1 cap1 s) (hT : Bsl w w.heap.size a2 len2 cap2 t) (hl1 : (len1 : Int) ≤ 10000) (hl2 : (len2 : Int) ≤ 10000) :
    Calls Try.prog 5 #[.slice a0 16 cap0, .slice a1 len1 cap1, .slice a2 len2 cap2] w fun e w' => e = .returned (.bool true) ∧ Below w.heap.size w w' := by
  have i0 : (0 : Int) ≤ len1 := by omega
  have i1 : (0 : Int) ≤ len2 := by omega
  obtain ⟨X, hX⟩ : ∃ X, fourW (k ++ 1 :: s) = X := ⟨_, rfl⟩
  obtain ⟨Y, hY⟩ : ∃ Y, fourW (k ++ 1 :: t) = Y := ⟨_, rfl⟩
  obtain ⟨x, hx⟩ : ∃ x, tagW k s = x := ⟨_, rfl⟩
  obtain ⟨y, hy⟩ : ∃ y, tagW k t = y := ⟨_, rfl⟩
  have hxX : (fourW (k ++ 2 :: bytesW X 4)).a = x := by rw [← hx, ← hX]; rfl
  have hsame : bytesW X 4 = bytesW Y 4 → x = y := fun h => by
    rw [← hx, ← hy]
    unfold tagW innerW
    rw [hX, hY, h]
  have HX := Lib.hid hX; clear hX
  have HY := Lib.hid hY; clear hY
  have Hx := Lib.hid hx; clear hx
  have Hy := Lib.hid hy; clear hy
  have HXX := Lib.hid hxX; clear hxX
  have HSM := Lib.hid hsame; clear hsame
  have HA := Lib.hid hA; clear hA
  have HS := Lib.hid hS; clear hS
  have HT := Lib.hid hT; clear hT
  go_enter Try.func5, Try.ntmps5
  go_wp2_with fail
  refine (alive_mac _).mono ?_
  rintro e w1 ⟨rfl, b1⟩
  have HA1 := Lib.hid (HA.out.step b1)
  have HS1 := Lib.hid (HS.out.step b1)
  have HT1 := Lib.hid (HT.out.step b1)
  have HE1 := Lib.hid b1; clear b1
  go_wp2_with fail
  refine (tag_any a0 cap0 k a1 len1 cap1 s w1 HA1.out HS1.out (by omega)).mono ?_
  rintro e w2 ⟨rfl, b2⟩
  rw [Hx.out]
  have HA2 := Lib.hid (HA1.out.step b2)
  have HS2 := Lib.hid (HS1.out.step b2)
  have HT2 := Lib.hid (HT1.out.step b2)
  have HE2 := Lib.hid (HE1.out.trans (b2.mono HE1.out.size)); clear b2
  go_wp2_with fail
  refine (tag_any a0 cap0 k a2 len2 cap2 t w2 HA2.out HT2.out (by omega)).mono ?_
  rintro e w3 ⟨rfl, b3⟩
  rw [Hy.out]
  have HA3 := Lib.hid (HA2.out.step b3)
  have HS3 := Lib.hid (HS2.out.step b3)
  have HT3 := Lib.hid (HT2.out.step b3)
  have HE3 := Lib.hid (HE2.out.trans (b3.mono HE2.out.size)); clear b3
  clear HA HS HT HA1 HS1 HT1 HA2 HS2 HT2 HE1 HE2
  have HZp := Lib.hid (Below.alloc (Below.refl w3.heap.size w3) (Nat.le_refl _) (.cells #[] 5))
  have HOp0 := Lib.hid (own_empty w3)
  have HAp0 := Lib.hid (HA3.out.step HZp.out)
  have tokp1 : True := trivial
  have tokp2 : True := trivial
  have tokp3 : True := trivial
  go_wp2_with (first
    | (at_builtin
       have _t := tokp1
       clear _t tokp1
       refine wpList_append_bsl rfl (.tmp 51) (.tmp 52) rfl w3.heap.size (.slice (some ⟨w3.heap.size, 0, none⟩) 0 0) 0 [] rfl HOp0.out _ a0 16 cap0 k rfl HAp0.out (by omega) HZp.out.size ?_
       intro vp1 wp1 hown1 hgr1
       simp only [Nat.zero_add, List.nil_append] at hown1
       have HBp1 := Lib.hid (app_below HZp.out HOp0.out hgr1 HZp.out.size); clear hgr1
       have HOp1 := Lib.hid (hown1.alloc (.cells #[.int .u8 ((1 : UInt8).toNat : Int)] 5)); clear hown1
       have HEp1 := Lib.hid (one_bsl wp1 1)
       have HBp2 := Lib.hid (HBp1.out.alloc HBp1.out.size (.cells #[.int .u8 ((1 : UInt8).toNat : Int)] 5)))
    | (at_builtin
       have _t := tokp2
       clear _t tokp2
       refine wpList_append_bsl rfl (.tmp 53) (.tmp 54) rfl w3.heap.size vp1 16 _ rfl HOp1.out _ (some ⟨wp1.heap.size, 0, none⟩) 1 1 [1] rfl HEp1.out (by omega) HBp2.out.size ?_
       intro vp2 wp2 hown2 hgr2
       have HBp3 := Lib.hid (app_below HBp2.out HOp1.out hgr2 HBp2.out.size); clear hgr2
       have HOp2 := Lib.hid hown2; clear hown2
       have HCp := Lib.hid (HS3.out.step HBp3.out))
    | (at_builtin
       have _t := tokp3
       clear _t tokp3
       refine wpList_append_bsl rfl (.tmp 55) (.tmp 56) rfl w3.heap.size vp2 (16 + 1) _ rfl HOp2.out _ a1 len1 cap1 s rfl HCp.out (by omega) HBp3.out.size ?_
       intro vp3 wp3 hown3 hgr3
       have HBp := Lib.hid (app_below HBp3.out HOp2.out hgr3 HBp3.out.size); clear hgr3
       obtain ⟨gp, capp, rfl, hgbp, hglp, hgcp, hgmp, hgsp, hghp⟩ := bsl_of_own hown3 (by omega)
       clear hown3
       have HHp := Lib.hid hghp; clear hghp
       have HSp := Lib.hid hgsp; clear hgsp))
  clear HOp0 HAp0 HZp HBp1 HOp1 HEp1 HBp2 HBp3 HOp2 HCp
  have hk := key_any (some ⟨gp, 0, none⟩) (16 + 1 + len1) capp (k ++ [1] ++ s) wp3 ⟨HSp.out, hgcp, hgmp, fun e => (by cases e), fun _ => ⟨gp, 0, rfl, hglp, fun i hi => by rw [Nat.zero_add]; exact HHp.out i hi⟩⟩ (by omega)
  rw [List.append_assoc] at hk
  have hk' : Calls Try.prog 10 #[.slice (some ⟨gp, 0, none⟩) (16 + 1 + len1) capp] wp3 (KeyPost (fourW (k ++ 1 :: s)) wp3) := hk
  rw [HX.out] at hk'
  have HKK := Lib.hid hk'; clear hk hk'
  refine HKK.out.mono ?_
  rintro e w4 ⟨go, co, rfl, o1, o2, o3, o4, oh, b4⟩
  have b34 := HBp.out.trans (b4.mono HBp.out.size)
  have hbs : Bsl w4 w4.heap.size (some ⟨go, 0, none⟩) 16 co (bytesW X 4) := ⟨bytesW_length _ _, o3, o4, fun e => (by cases e), fun _ => ⟨go, 0, rfl, o2, fun i hi => by rw [Nat.zero_add]; exact oh i hi⟩⟩
  have HI4 := Lib.hid hbs; clear hbs oh
  have HA4 := Lib.hid (HA3.out.step b34)
  have HT4 := Lib.hid (HT3.out.step b34)
  have HE4 := Lib.hid (HE3.out.trans (b34.mono HE3.out.size))
  clear b4 b34 HA3 HS3 HT3 HE3 HBp HHp HSp HKK hgbp hglp hgcp hgmp
  have HZq := Lib.hid (Below.alloc (Below.refl w4.heap.size w4) (Nat.le_refl _) (.cells #[] 5))
  have HOq0 := Lib.hid (own_empty w4)
  have HAq0 := Lib.hid (HA4.out.step HZq.out)
  have tokq1 : True := trivial
  have tokq2 : True := trivial
  have tokq3 : True := trivial
  go_wp2_with (first
    | (at_builtin
       have _t := tokq1
       clear _t tokq1
       refine wpList_append_bsl rfl (.tmp 59) (.tmp 60) rfl w4.heap.size (.slice (some ⟨w4.heap.size, 0, none⟩) 0 0) 0 [] rfl HOq0.out _ a0 16 cap0 k rfl HAq0.out (by omega) HZq.out.size ?_
       intro vq1 wq1 hown1 hgr1
       simp only [Nat.zero_add, List.nil_append] at hown1
       have HBq1 := Lib.hid (app_below HZq.out HOq0.out hgr1 HZq.out.size); clear hgr1
       have HOq1 := Lib.hid (hown1.alloc (.cells #[.int .u8 ((1 : UInt8).toNat : Int)] 5)); clear hown1
       have HEq1 := Lib.hid (one_bsl wq1 1)
       have HBq2 := Lib.hid (HBq1.out.alloc HBq1.out.size (.cells #[.int .u8 ((1 : UInt8).toNat : Int)] 5)))
    | (at_builtin
       have _t := tokq2
       clear _t tokq2
       refine wpList_append_bsl rfl (.tmp 61) (.tmp 62) rfl w4.heap.size vq1 16 _ rfl HOq1.out _ (some ⟨wq1.heap.size, 0, none⟩) 1 1 [1] rfl HEq1.out (by omega) HBq2.out.size ?_
       intro vq2 wq2 hown2 hgr2
       have HBq3 := Lib.hid (app_below HBq2.out HOq1.out hgr2 HBq2.out.size); clear hgr2
       have HOq2 := Lib.hid hown2; clear hown2
       have HCq := Lib.hid (HT4.out.step HBq3.out))
    | (at_builtin
       have _t := tokq3
       clear _t tokq3
       refine wpList_append_bsl rfl (.tmp 63) (.tmp 64) rfl w4.heap.size vq2 (16 + 1) _ rfl HOq2.out _ a2 len2 cap2 t rfl HCq.out (by omega) HBq3.out.size ?_
       intro vq3 wq3 hown3 hgr3
       have HBq := Lib.hid (app_below HBq3.out HOq2.out hgr3 HBq3.out.size); clear hgr3
       obtain ⟨gq, capq, rfl, hgbq, hglq, hgcq, hgmq, hgsq, hghq⟩ := bsl_of_own hown3 (by omega)
       clear hown3
       have HHq := Lib.hid hghq; clear hghq
       have HSq := Lib.hid hgsq; clear hgsq))
  clear HOq0 HAq0 HZq HBq1 HOq1 HEq1 HBq2 HBq3 HOq2 HCq
  have hk := key_any (some ⟨gq, 0, none⟩) (16 + 1 + len2) capq (k ++ [1] ++ t) wq3 ⟨HSq.out, hgcq, hgmq, fun e => (by cases e), fun _ => ⟨gq, 0, rfl, hglq, fun i hi => by rw [Nat.zero_add]; exact HHq.out i hi⟩⟩ (by omega)
  rw [List.append_assoc] at hk
  have hk' : Calls Try.prog 10 #[.slice (some ⟨gq, 0, none⟩) (16 + 1 + len2) capq] wq3 (KeyPost (fourW (k ++ 1 :: t)) wq3) := hk
  rw [HY.out] at hk'
  have HKK := Lib.hid hk'; clear hk hk'
  refine HKK.out.mono ?_
  rintro e w5 ⟨gt, ct, rfl, o1', o2', o3', o4', oh, b5⟩
  have b45 := HBq.out.trans (b5.mono HBq.out.size)
  have hbs : Bsl w5 w5.heap.size (some ⟨gt, 0, none⟩) 16 ct (bytesW Y 4) := ⟨bytesW_length _ _, o3', o4', fun e => (by cases e), fun _ => ⟨gt, 0, rfl, o2', fun i hi => by rw [Nat.zero_add]; exact oh i hi⟩⟩
  have HI5 := Lib.hid (HI4.out.step b45)
  have HA5 := Lib.hid (HA4.out.step b45)
  have HE5 := Lib.hid (HE4.out.trans (b45.mono HE4.out.size))
  have v1 := HI5.out.conv
  have v2 := hbs.conv
  clear b5 b45 oh hbs HA4 HI4 HT4 HE4 HBq HHq HSq HKK hgbq hglq hgcq hgmq
  obtain ⟨P, hP⟩ : ∃ P, bytesW X 4 = P := ⟨_, rfl⟩
  obtain ⟨Q, hQ⟩ : ∃ Q, bytesW Y 4 = Q := ⟨_, rfl⟩
  have hPl : P.length = 16 := by rw [← hP]; exact bytesW_length _ _
  rw [hP] at HSM HXX v1 HI5
  rw [hQ] at HSM v2
  have HPL := Lib.hid hPl; clear hPl hP hQ
  have s1 := strOf_toList P
  have s2 := strOf_toList Q
  obtain ⟨bl, hbl⟩ : ∃ bl : Bool, (P == Q) = bl := ⟨_, rfl⟩
  have hxy : bl = true → x = y := fun h => HSM.out (by rw [h] at hbl; exact eq_of_beq hbl)
  have hor : bl = false ∨ (bl = true ∧ x = y) := by cases bl <;> simp_all
  have HOR := Lib.hid hor; clear hor hxy HSM
  rcases HOR.out with rfl | ⟨rfl, rfl⟩
  all_goals
    clear HOR
    have HZr := Lib.hid (Below.alloc (Below.refl w5.heap.size w5) (Nat.le_refl _) (.cells #[] 5))
    have HOr0 := Lib.hid (own_empty w5)
    have HAr0 := Lib.hid (HA5.out.step HZr.out)
    have tokr1 : True := trivial
    have tokr2 : True := trivial
    have tokr3 : True := trivial
    go_wp2_with (first
      | (at_builtin
         have _t := tokr1
         clear _t tokr1
         refine wpList_append_bsl rfl (.tmp 78) (.tmp 79) rfl w5.heap.size (.slice (some ⟨w5.heap.size, 0, none⟩) 0 0) 0 [] rfl HOr0.out _ a0 16 cap0 k rfl HAr0.out (by omega) HZr.out.size ?_
         intro vr1 wr1 hown1 hgr1
         simp only [Nat.zero_add, List.nil_append] at hown1
         have HBr1 := Lib.hid (app_below HZr.out HOr0.out hgr1 HZr.out.size); clear hgr1
         have HOr1 := Lib.hid (hown1.alloc (.cells #[.int .u8 ((2 : UInt8).toNat : Int)] 5)); clear hown1
         have HEr1 := Lib.hid (one_bsl wr1 2)
         have HBr2 := Lib.hid (HBr1.out.alloc HBr1.out.size (.cells #[.int .u8 ((2 : UInt8).toNat : Int)] 5)))
      | (at_builtin
         have _t := tokr2
         clear _t tokr2
         refine wpList_append_bsl rfl (.tmp 80) (.tmp 81) rfl w5.heap.size vr1 16 _ rfl HOr1.out _ (some ⟨wr1.heap.size, 0, none⟩) 1 1 [2] rfl HEr1.out (by omega) HBr2.out.size ?_
         intro vr2 wr2 hown2 hgr2
         have HBr3 := Lib.hid (app_below HBr2.out HOr1.out hgr2 HBr2.out.size); clear hgr2
         have HOr2 := Lib.hid hown2; clear hown2
         have HCr := Lib.hid (HI5.out.step HBr3.out))
      | (at_builtin
         have _t := tokr3
         clear _t tokr3
         refine wpList_append_bsl rfl (.tmp 82) (.tmp 83) rfl w5.heap.size vr2 (16 + 1) _ rfl HOr2.out _ (some ⟨go, 0, none⟩) 16 co P rfl HCr.out (by omega) HBr3.out.size ?_
         intro vr3 wr3 hown3 hgr3
         have HBr := Lib.hid (app_below HBr3.out HOr2.out hgr3 HBr3.out.size); clear hgr3
         obtain ⟨gr, capr, rfl, hgbr, hglr, hgcr, hgmr, hgsr, hghr⟩ := bsl_of_own hown3 (by omega)
         clear hown3
         have HHr := Lib.hid hghr; clear hghr
         have HSr := Lib.hid hgsr; clear hgsr))
    clear HOr0 HAr0 HZr HBr1 HOr1 HEr1 HBr2 HBr3 HOr2 HCr
    have hk := sum_any (some ⟨gr, 0, none⟩) (16 + 1 + 16) capr (k ++ [2] ++ P) wr3 ⟨HSr.out, hgcr, hgmr, fun e => (by cases e), fun _ => ⟨gr, 0, rfl, hglr, fun i hi => by rw [Nat.zero_add]; exact HHr.out i hi⟩⟩ (by omega)
    rw [List.append_assoc] at hk
    have hk' : Calls Try.prog 11 #[.slice (some ⟨gr, 0, none⟩) (16 + 1 + 16) capr] wr3 fun e W' => e = .returned (.int .u32 ((fourW (k ++ 2 :: P)).a.toNat : Int)) ∧ Below wr3.heap.size wr3 W' := hk
    rw [HXX.out] at hk'
    have HKK := Lib.hid hk'; clear hk hk'
    refine HKK.out.mono ?_
    rintro e w6 ⟨rfl, b6⟩
    have HE6 := Lib.hid (HE5.out.trans ((HBr.out.trans (b6.mono HBr.out.size)).mono HE5.out.size)); clear b6
    go_wp2_with fail
    go_ret
    exact ⟨rfl, HE6.out⟩

theorem macNested_walk (a0 : Option Addr) (len0 cap0 : Nat) (s0 : List UInt8) (a1 : Option Addr) (len1 cap1 : Nat) (s1 : List UInt8) (a2 : Option Addr) (len2 cap2 : Nat) (s2 : List UInt8) (w : World) (h0 : Bsl w w.heap.size a0 len0 cap0 s0) (h1 : Bsl w w.heap.size a1 len1 cap1 s1) (h2 : Bsl w w.heap.size a2 len2 cap2 s2) :
    Calls Try.prog 5 #[.slice a0 len0 cap0, .slice a1 len1 cap1, .slice a2 len2 cap2] w fun e w' => e = .returned (.bool true) ∧ Below w.heap.size w w' := by
  by_cases hl : len0 ≠ 16 ∨ (len0 = 16 ∧ (10000 : Int) < len1) ∨ (len0 = 16 ∧ (len1 : Int) ≤ 10000 ∧ (10000 : Int) < len2)
  · have e1 := h1.2.1
    have e2 := h1.2.2.1
    have e3 := h2.2.1
    have e4 := h2.2.2.1
    unfold maxLen at e2 e4
    exact macNested_far a0 len0 cap0 a1 len1 cap1 a2 len2 cap2 w hl (by omega) (by omega)
  · obtain rfl : len0 = 16 := by omega
    exact macNested_near a0 cap0 s0 a1 len1 cap1 s1 a2 len2 cap2 s2 w h0 h1 h2 (by omega) (by omega)
end Go.Proofs.Ytgididgijhpfpaa

namespace Go.Proofs.Ytgididgijhpfpaa.macNested
open Go.ChangeShapes Go.WideShapes Go.ChangeAt Go.RowKit
set_option linter.unusedVariables false

theorem own : ownKnob Try.prog.godebug = none := by kernel_rfl
theorem laidOut : laidOutB Try.prog = true := by kernel_rfl

set_option maxRecDepth 100000 in
theorem lifted (os : Os) (started : os.Started) (H : Type) (enc : TypeId × Value → H) :
    ReturnsInHanded {} Try.checked os 5 .any (Rows.macNestedSpec.pre6 enc Try.prog Try.f5 Rows.macNestedRow.domain false) (Rows.macNestedSpec.post enc Try.prog Try.f5 false true false false) := by
  refine returnsInHanded_of_change (C := Try.checked) own started (by kernel_rfl) Try.func5
    (ChangeSpec.witness6 (enc := enc) (C := Try.checked) false ⟨#[], #[.slice none 0 0, .slice none 0 0, .slice none 0 0], []⟩ 8 (by kernel_rfl) (by kernel_rfl) (by kernel_rfl) (by kernel_rfl)) ?_
  intro W base args ds gs before hval0 hW hcnd _
  have hval : ∀ (j : Nat) t v, Try.f5.params[j]? = some t → args[j]? = some v → Value.okWide Try.prog W .any base t v := hval0
  have hW' := hW
  obtain ⟨p, q, hA0, hV, rfl, hfz, hnd⟩ := hW
  have hA : DataW.TrodAll enc Try.prog W 0 (fun _ => true) true Try.f5.params.toList args.toList ds p := hA0
  rw [Try.params5] at hA hval
  obtain ⟨v0, vs0, d0, ds0, p0, q0, hargs, rfl, rfl, h0, r0⟩ := trodAll_cons hA
  obtain ⟨v1, vs1, d1, ds1, p1, q1, rfl, rfl, rfl, h1, r1⟩ := trodAll_cons r0
  obtain ⟨v2, vs2, d2, ds2, p2, q2, rfl, rfl, rfl, h2, r2⟩ := trodAll_cons r1
  obtain ⟨rfl, rfl, rfl⟩ := trodAll_nil r2
  obtain rfl : args = #[v0, v1, v2] := by cases args; simp_all
  obtain ⟨rfl, rfl⟩ := trodVars_none hV
  obtain ⟨a0, len0, cap0, rfl⟩ := okWide_slice Try.underlying23 (hval 0 23 v0 rfl rfl)
  have k0 := h0
  have lt0 : ∀ x ∈ p0, x.block < W.heap.size := by obtain ⟨m, hm⟩ := k0; exact DataW.trod_lt m _ _ _ hm
  obtain ⟨z0, w0⟩ : ∃ zs, IsRow .u8 W a0 len0 cap0 zs := by
    obtain ⟨fuel, hf⟩ := h0
    rcases open_ints Try.underlying23 Try.underlying5 (by kernel_rfl) hf with ⟨hcs, _⟩ | ⟨x, l, c, zs, hcs, _, hl, hm, hz, _, hcell, hwz⟩
    · simp [Value.cells] at hcs
      obtain ⟨rfl, rfl, rfl⟩ := hcs
      exact ⟨[], .inl ⟨rfl, rfl, rfl, rfl⟩⟩
    · simp [Value.cells] at hcs
      obtain ⟨rfl, rfl, rfl⟩ := hcs
      exact ⟨zs, .inr ⟨_, rfl, hl, hm, by simpa using hz, hcell, hwz⟩⟩
  obtain ⟨a1, len1, cap1, rfl⟩ := okWide_slice Try.underlying23 (hval 1 23 v1 rfl rfl)
  have k1 := h1
  have lt1 : ∀ x ∈ p1, x.block < W.heap.size := by obtain ⟨m, hm⟩ := k1; exact DataW.trod_lt m _ _ _ hm
  obtain ⟨z1, w1⟩ : ∃ zs, IsRow .u8 W a1 len1 cap1 zs := by
    obtain ⟨fuel, hf⟩ := h1
    rcases open_ints Try.underlying23 Try.underlying5 (by kernel_rfl) hf with ⟨hcs, _⟩ | ⟨x, l, c, zs, hcs, _, hl, hm, hz, _, hcell, hwz⟩
    · simp [Value.cells] at hcs
      obtain ⟨rfl, rfl, rfl⟩ := hcs
      exact ⟨[], .inl ⟨rfl, rfl, rfl, rfl⟩⟩
    · simp [Value.cells] at hcs
      obtain ⟨rfl, rfl, rfl⟩ := hcs
      exact ⟨zs, .inr ⟨_, rfl, hl, hm, by simpa using hz, hcell, hwz⟩⟩
  obtain ⟨a2, len2, cap2, rfl⟩ := okWide_slice Try.underlying23 (hval 2 23 v2 rfl rfl)
  have k2 := h2
  have lt2 : ∀ x ∈ p2, x.block < W.heap.size := by obtain ⟨m, hm⟩ := k2; exact DataW.trod_lt m _ _ _ hm
  obtain ⟨z2, w2⟩ : ∃ zs, IsRow .u8 W a2 len2 cap2 zs := by
    obtain ⟨fuel, hf⟩ := h2
    rcases open_ints Try.underlying23 Try.underlying5 (by kernel_rfl) hf with ⟨hcs, _⟩ | ⟨x, l, c, zs, hcs, _, hl, hm, hz, _, hcell, hwz⟩
    · simp [Value.cells] at hcs
      obtain ⟨rfl, rfl, rfl⟩ := hcs
      exact ⟨[], .inl ⟨rfl, rfl, rfl, rfl⟩⟩
    · simp [Value.cells] at hcs
      obtain ⟨rfl, rfl, rfl⟩ := hcs
      exact ⟨zs, .inr ⟨_, rfl, hl, hm, by simpa using hz, hcell, hwz⟩⟩
  clear hA0 hval0
  refine (macNested_walk a0 len0 cap0 _ a1 len1 cap1 _ a2 len2 cap2 _ W (bsl_of_row w0) (bsl_of_row w1) (bsl_of_row w2)).mono fun e W' ⟨he, bel⟩ => ?_
  subst he
  exact ⟨_, rfl, _, _, _, [], _, [], hW', trodAll_mk1 (shut_bool Try.underlying4 _), (trodAll_cons_mk (Below.trod laidOut (by kernel_rfl) (of_decide_eq_true (by kernel_rfl)) k0 bel lt0) (trodAll_cons_mk (Below.trod laidOut (by kernel_rfl) (of_decide_eq_true (by kernel_rfl)) k1 bel lt1) (trodAll_cons_mk (Below.trod laidOut (by kernel_rfl) (of_decide_eq_true (by kernel_rfl)) k2 bel lt2) trodAll_mk0))), rfl, bel.frame _, fun h => by cases h⟩

theorem over : Rows.macNestedRow.holds Try.pinned (OpenSpec.ofChange Rows.macNestedSpec) :=
  OpenClaim.holds_of_wide 5 Try.f5 rfl rfl rfl rfl rfl rfl rfl ⟨rfl, rfl, rfl, rfl, rfl⟩ rfl rfl rfl rfl rfl (by kernel_rfl) Try.func5 (by kernel_rfl)
    (of_decide_eq_true (by kernel_rfl)) (by unfold Func.isWrapper; first | (rw [if_pos (by decide +kernel)]; kernel_rfl) | (rw [if_neg (by decide +kernel)]; exact ⟨rfl, rfl⟩))
    (fun os started H enc _ => lifted os started H enc)

/-- The statement. -/
theorem proved : Rows.MacNestedSaid := over
end Go.Proofs.Ytgididgijhpfpaa.macNested
