/-
  What the document's own Tag answers is what mac.Tag answers.
-/
import Derived.Test.YtomobnecdkachaaMixRefC
import Derived.Test.YtomobnecdkachaaMac
namespace Go.Proofs.Ytomobnecdkachaa
open Go.RowKit Go.Shelf
set_option maxRecDepth 100000

set_option maxHeartbeats 2000000 in
theorem rinner_any (a : Option Addr) (cap : Nat) (k : List UInt8) (b : Option Addr) (len capb : Nat) (s : List UInt8) (w : World) (hA : Bsl w w.heap.size a 16 cap k) (hB : Bsl w w.heap.size b len capb s) (hl : len ≤ 10000) :
    Calls Try.prog 35 #[.slice a 16 cap, .slice b len capb] w (KeyPost (fourW (k ++ 1 :: s)) w) := by
  have hks : k.length = 16 := hA.1
  have hss : s.length = len := hB.1
  have HA := Lib.hid hA; clear hA
  have HB := Lib.hid hB; clear hB
  have HK := Lib.hid hks; clear hks
  have HS := Lib.hid hss; clear hss
  have tok1 : True := trivial
  go_enter Try.func35, Try.ntmps35
  have tok2 : True := trivial
  have tok3 : True := trivial
  go_wp2_with (first
    | (at_builtin
       have _t := tok1
       clear _t tok1
       refine wpList_append_bsl rfl (.tmp 6) (.tmp 7) rfl w.heap.size (.slice none 0 0) 0 [] rfl (own_nil _ _) w.heap.size a 16 cap k rfl HA.out (by omega) (Nat.le_refl _) ?_
       intro v1 w1 hown1 hgr1
       simp only [Nat.zero_add, List.nil_append] at hown1
       have HB1 := Lib.hid (app_below (Below.refl _ w) (own_nil _ _) hgr1 (Nat.le_refl _)); clear hgr1
       have HO1 := Lib.hid (hown1.alloc (.cells #[.int .u8 ((1 : UInt8).toNat : Int)] 5)); clear hown1
       have HE1 := Lib.hid (one_bsl w1 1)
       have HB2 := Lib.hid (HB1.out.alloc HB1.out.size (.cells #[.int .u8 ((1 : UInt8).toNat : Int)] 5)))
    | (at_builtin
       have _t := tok2
       clear _t tok2
       refine wpList_append_bsl rfl (.tmp 9) (.tmp 10) rfl w.heap.size v1 16 _ rfl HO1.out _ (some ⟨w1.heap.size, 0, none⟩) 1 1 [1] rfl HE1.out (by omega) HB2.out.size ?_
       intro v2 w2 hown2 hgr2
       have HB3 := Lib.hid (app_below HB2.out HO1.out hgr2 HB2.out.size); clear hgr2
       have HO2 := Lib.hid hown2; clear hown2)
    | (at_builtin
       have _t := tok3
       clear _t tok3
       have HBB := Lib.hid ((HB.out.below HB3.out).more HB3.out.size)
       refine wpList_append_bsl rfl (.tmp 12) (.tmp 13) rfl w.heap.size v2 (16 + 1) _ rfl HO2.out _ b len capb s rfl HBB.out (by omega) HB3.out.size ?_
       intro v3 w3 hown3 hgr3
       have HB4 := Lib.hid (app_below HB3.out HO2.out hgr3 HB3.out.size); clear hgr3
       obtain ⟨g, cap', rfl, hgb, hgl, hgc, hgm, hgs, hgh⟩ := bsl_of_own hown3 (by omega)
       clear hown3
       have HH3 := Lib.hid hgh; clear hgh
       have HS3 := Lib.hid hgs; clear hgs))
  have hk := rkey_any (some ⟨g, 0, none⟩) (16 + 1 + len) cap' (k ++ [1] ++ s) w3 ⟨HS3.out, hgc, hgm, fun e => (by cases e), fun _ => ⟨g, 0, rfl, hgl, fun i hi => by rw [Nat.zero_add]; exact HH3.out i hi⟩⟩ (by omega)
  rw [List.append_assoc] at hk
  have hk' : Calls Try.prog 33 #[.slice (some ⟨g, 0, none⟩) (16 + 1 + len) cap'] w3 (KeyPost (fourW (k ++ 1 :: s)) w3) := hk
  have HKK := Lib.hid hk'; clear hk hk'
  refine HKK.out.mono ?_
  rintro e w4 ⟨g2, cap2, rfl, k1, k2, k3, k4, kh, b4⟩
  have HH := Lib.hid kh; clear kh
  have HB5 := Lib.hid (HB4.out.trans (b4.mono HB4.out.size)); clear b4
  go_wp2_with fail
  go_ret
  exact ⟨g2, cap2, rfl, Nat.le_trans HB4.out.size k1, k2, k3, k4, HH.out, HB5.out⟩

set_option maxHeartbeats 2000000 in
theorem rof_any (a : Option Addr) (cap : Nat) (k : List UInt8) (b : Option Addr) (len capb : Nat) (s : List UInt8) (w : World) (hA : Bsl w w.heap.size a 16 cap k) (hB : Bsl w w.heap.size b len capb s) (hl : len ≤ 10000) :
    Calls Try.prog 24 #[.slice a 16 cap, .slice b len capb] w fun e w' => e = .returned (.int .u32 ((tagW k s).toNat : Int)) ∧ Below w.heap.size w w' := by
  have hks : k.length = 16 := hA.1
  have HA := Lib.hid hA; clear hA
  have HB := Lib.hid hB; clear hB
  have HK := Lib.hid hks; clear hks
  obtain ⟨x, hx⟩ : ∃ x, fourW (k ++ 1 :: s) = x := ⟨_, rfl⟩
  have htg : tagW k s = (fourW (k ++ 2 :: bytesW x 4)).a := by unfold tagW innerW; rw [hx]
  have HX := Lib.hid hx; clear hx
  have HTG := Lib.hid htg; clear htg
  have tok1 : True := trivial
  go_enter Try.func24, Try.ntmps24
  have tok2 : True := trivial
  go_wp2_with (first
    | (at_builtin
       have _t := tok1
       clear _t tok1
       refine wpList_append_bsl rfl (.tmp 6) (.tmp 7) rfl w.heap.size (.slice none 0 0) 0 [] rfl (own_nil _ _) w.heap.size a 16 cap k rfl HA.out (by omega) (Nat.le_refl _) ?_
       intro v1 w1 hown1 hgr1
       simp only [Nat.zero_add, List.nil_append] at hown1
       have HB1 := Lib.hid (app_below (Below.refl _ w) (own_nil _ _) hgr1 (Nat.le_refl _)); clear hgr1
       have HO1 := Lib.hid (hown1.alloc (.cells #[.int .u8 ((2 : UInt8).toNat : Int)] 5)); clear hown1
       have HE1 := Lib.hid (one_bsl w1 2)
       have HB2 := Lib.hid (HB1.out.alloc HB1.out.size (.cells #[.int .u8 ((2 : UInt8).toNat : Int)] 5)))
    | (at_builtin
       have _t := tok2
       clear _t tok2
       refine wpList_append_bsl rfl (.tmp 9) (.tmp 10) rfl w.heap.size v1 16 _ rfl HO1.out _ (some ⟨w1.heap.size, 0, none⟩) 1 1 [2] rfl HE1.out (by omega) HB2.out.size ?_
       intro v2 w2 hown2 hgr2
       have HB3 := Lib.hid (app_below HB2.out HO1.out hgr2 HB2.out.size); clear hgr2
       have HO2 := Lib.hid hown2; clear hown2))
  have hi := rinner_any a cap k b len capb s w2 ((HA.out.below HB3.out).more HB3.out.size) ((HB.out.below HB3.out).more HB3.out.size) hl
  rw [HX.out] at hi
  have HI := Lib.hid hi; clear hi
  refine HI.out.mono ?_
  rintro e w3 ⟨g, cap1, rfl, k1, k2, k3, k4, kh, b3⟩
  have HO3 := Lib.hid (own_below HO2.out b3)
  have HB4 := Lib.hid (HB3.out.trans (b3.mono HB3.out.size)); clear b3
  have hbs : Bsl w3 w3.heap.size (some ⟨g, 0, none⟩) 16 cap1 (bytesW x 4) := ⟨bytesW_length _ _, k3, k4, fun e => (by cases e), fun _ => ⟨g, 0, rfl, k2, fun i hi => by rw [Nat.zero_add]; exact kh i hi⟩⟩
  have HBS := Lib.hid hbs; clear hbs kh
  have tok3 : True := trivial
  go_wp2_with (at_builtin
               have _t := tok3
               clear _t tok3
               refine wpList_append_bsl rfl (.tmp 12) (.tmp 15) rfl w.heap.size v2 (16 + 1) _ rfl HO3.out _ (some ⟨g, 0, none⟩) 16 cap1 (bytesW x 4) rfl HBS.out (by omega) HB4.out.size ?_
               intro v3 w4 hown3 hgr3
               have HB5 := Lib.hid (app_below HB4.out HO3.out hgr3 HB4.out.size); clear hgr3
               obtain ⟨g3, cap3, rfl, hgb, hgl, hgc, hgm, hgs, hgh⟩ := bsl_of_own hown3 (by omega)
               clear hown3
               have HH3 := Lib.hid hgh; clear hgh
               have HS3 := Lib.hid hgs; clear hgs)
  have hk := rsum_any (some ⟨g3, 0, none⟩) (16 + 1 + 16) cap3 (k ++ [2] ++ bytesW x 4) w4 ⟨HS3.out, hgc, hgm, fun e => (by cases e), fun _ => ⟨g3, 0, rfl, hgl, fun i hi => by rw [Nat.zero_add]; exact HH3.out i hi⟩⟩ (by omega)
  rw [List.append_assoc] at hk
  have hk' : Calls Try.prog 36 #[.slice (some ⟨g3, 0, none⟩) (16 + 1 + 16) cap3] w4 fun e W' => e = .returned (.int .u32 ((fourW (k ++ 2 :: bytesW x 4)).a.toNat : Int)) ∧ Below w4.heap.size w4 W' := hk
  rw [← HTG.out] at hk'
  have HKK := Lib.hid hk'; clear hk hk'
  refine HKK.out.mono ?_
  rintro e w5 ⟨rfl, b5⟩
  have HB6 := Lib.hid (HB5.out.trans (b5.mono HB5.out.size)); clear b5
  go_wp2_with fail
  go_ret
  exact ⟨rfl, HB6.out⟩

end Go.Proofs.Ytomobnecdkachaa
