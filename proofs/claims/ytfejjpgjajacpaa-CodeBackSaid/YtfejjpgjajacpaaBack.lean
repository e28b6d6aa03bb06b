/-
  CodeBackSaid: for every number, size, bytes around and place, what is put is got, whatever stands around it, and what is got is put as these bytes. No condition (beyond 1,000 bytes on a side the law itself answers true).
-/
import Derived.Test.YtfejjpgjajacpaaRows
import Derived.Test.YtfejjpgjajacpaaCode
import Derived.ProofKit
import Derived.OpenShut
import Derived.ShutString
import Derived.ChangeOld
import Derived.Below
namespace Go.Proofs.Ytfejjpgjajacpaa
open Go.RowKit Go.Shelf
set_option maxRecDepth 100000

/-- An empty slice reads as no bytes. -/
theorem bsl_nil (w : World) : Bsl w w.heap.size none 0 0 [] := ⟨rfl, Nat.le_refl _, by unfold maxLen; omega, fun _ => rfl, fun h => absurd h (by omega)⟩
theorem back_far2 (n s : Int) (a2 : Option Addr) (len2 cap2 : Nat) (a3 : Option Addr) (len3 cap3 : Nat) (i : Int) (w : World) (h : (1000 : Int) < len2) (_hl : (len2 : Int) ≤ 9223372036854775807) :
    Calls Try.prog 5 #[.int .i64 n, .int .i64 s, .slice a2 len2 cap2, .slice a3 len3 cap3, .int .i64 i] w fun e W' => e = .returned (.bool true) ∧ Below w.heap.size w W' := by
  go_enter Try.func5, Try.ntmps5
  go_wp2_with fail
  refine (alive_any _).mono ?_
  rintro e W1 ⟨rfl, b1⟩
  go_wp2_with fail
  go_ret
  exact ⟨rfl, b1⟩
theorem back_far3 (n s : Int) (a2 : Option Addr) (len2 cap2 : Nat) (a3 : Option Addr) (len3 cap3 : Nat) (i : Int) (w : World) (h2 : (len2 : Int) ≤ 1000) (h : (1000 : Int) < len3) (_hl : (len3 : Int) ≤ 9223372036854775807) :
    Calls Try.prog 5 #[.int .i64 n, .int .i64 s, .slice a2 len2 cap2, .slice a3 len3 cap3, .int .i64 i] w fun e W' => e = .returned (.bool true) ∧ Below w.heap.size w W' := by
  go_enter Try.func5, Try.ntmps5
  go_wp2_with fail
  refine (alive_any _).mono ?_
  rintro e W1 ⟨rfl, b1⟩
  go_wp2_with fail
  go_ret
  exact ⟨rfl, b1⟩
set_option maxHeartbeats 2000000 in
theorem back_bad_arg (n s : Int) (hn : -9223372036854775808 ≤ n ∧ n ≤ 9223372036854775807) (hP : PutBad n s) (a2 : Option Addr) (len2 cap2 : Nat) (s2 : List UInt8) (a3 : Option Addr) (len3 cap3 : Nat) (s3 : List UInt8) (w : World) (i : Int) (hG : (((s : Int) < 1 ∨ 4 < (s : Int)) ∨ (1 ≤ (s : Int) ∧ (s : Int) ≤ 4 ∧ (i < 0 ∨ len2 < i)))) (l2 : (len2 : Int) ≤ 1000) (l3 : (len3 : Int) ≤ 1000) (hA : Bsl w w.heap.size a2 len2 cap2 s2) (hA3 : Bsl w w.heap.size a3 len3 cap3 s3) :
    Calls Try.prog 5 #[.int .i64 n, .int .i64 s, .slice a2 len2 cap2, .slice a3 len3 cap3, .int .i64 i] w fun e W' => e = .returned (.bool true) ∧ Below w.heap.size w W' := by
  have HP := Lib.hid hP; clear hP
  have HA := Lib.hid hA; clear hA
  have HA3 := Lib.hid hA3; clear hA3
  have hlm : (len2 : Int) ≤ 9223372036854775807 := by omega
  have HG := Lib.hid hG; clear hG
  go_enter Try.func5, Try.ntmps5
  go_wp2_with fail
  refine (alive_any _).mono ?_
  rintro e W1 ⟨rfl, b1⟩
  go_wp2_with fail
  refine (put_bad _ _ HP.out hn.2 _).mono ?_
  rintro e W2 ⟨rfl, b2'⟩
  have HB3 := Lib.hid (b1.trans (b2'.mono b1.size))
  have HS2 := Lib.hid (HA.out.below HB3.out)
  clear b1 b2'
  go_wp2_with fail
  refine (get_arg _ _ _ _ _ HG.out _).mono ?_
  rintro e W9 ⟨rfl, rfl⟩
  go_wp2_with fail
  go_ret
  exact ⟨rfl, HB3.out⟩

set_option maxHeartbeats 2000000 in
theorem back_bad_short (n s : Int) (hn : -9223372036854775808 ≤ n ∧ n ≤ 9223372036854775807) (hP : PutBad n s) (a2 : Option Addr) (len2 cap2 : Nat) (s2 : List UInt8) (a3 : Option Addr) (len3 cap3 : Nat) (s3 : List UInt8) (w : World) (i : Int) (hG : 1 ≤ (s : Int) ∧ (s : Int) ≤ 4 ∧ 0 ≤ i ∧ i ≤ len2 ∧ len2 - i < (s : Int)) (l2 : (len2 : Int) ≤ 1000) (l3 : (len3 : Int) ≤ 1000) (hA : Bsl w w.heap.size a2 len2 cap2 s2) (hA3 : Bsl w w.heap.size a3 len3 cap3 s3) :
    Calls Try.prog 5 #[.int .i64 n, .int .i64 s, .slice a2 len2 cap2, .slice a3 len3 cap3, .int .i64 i] w fun e W' => e = .returned (.bool true) ∧ Below w.heap.size w W' := by
  have HP := Lib.hid hP; clear hP
  have HA := Lib.hid hA; clear hA
  have HA3 := Lib.hid hA3; clear hA3
  have hlm : (len2 : Int) ≤ 9223372036854775807 := by omega
  have HG := Lib.hid hG; clear hG
  go_enter Try.func5, Try.ntmps5
  go_wp2_with fail
  refine (alive_any _).mono ?_
  rintro e W1 ⟨rfl, b1⟩
  go_wp2_with fail
  refine (put_bad _ _ HP.out hn.2 _).mono ?_
  rintro e W2 ⟨rfl, b2'⟩
  have HB3 := Lib.hid (b1.trans (b2'.mono b1.size))
  have HS2 := Lib.hid (HA.out.below HB3.out)
  clear b1 b2'
  go_wp2_with fail
  refine (get_short _ _ _ (by omega) _ _ HG.out.1 HG.out.2.1 HG.out.2.2.1 HG.out.2.2.2.1 HG.out.2.2.2.2 _).mono ?_
  rintro e W9 ⟨rfl, rfl⟩
  go_wp2_with fail
  go_ret
  exact ⟨rfl, HB3.out⟩

set_option maxHeartbeats 2000000 in
theorem back_bad_ok (n : Int) (hn : -9223372036854775808 ≤ n ∧ n ≤ 9223372036854775807) (k : Nat) (hP : PutBad n k) (b2 off2 len2 cap2 : Nat) (s2 : List UInt8) (a3 : Option Addr) (len3 cap3 : Nat) (s3 : List UInt8) (w : World) (i : Nat) (g1 : 1 ≤ k) (g2 : k ≤ 4) (g3 : i + k ≤ len2) (l2 : (len2 : Int) ≤ 1000) (l3 : (len3 : Int) ≤ 1000) (hA : Bsl w w.heap.size (some ⟨b2, off2, none⟩) len2 cap2 s2) (hA3 : Bsl w w.heap.size a3 len3 cap3 s3) :
    Calls Try.prog 5 #[.int .i64 n, .int .i64 k, .slice (some ⟨b2, off2, none⟩) len2 cap2, .slice a3 len3 cap3, .int .i64 i] w fun e W' => e = .returned (.bool true) ∧ Below w.heap.size w W' := by
  have HP := Lib.hid hP; clear hP
  have HA := Lib.hid hA; clear hA
  have HA3 := Lib.hid hA3; clear hA3
  have hlm : (len2 : Int) ≤ 9223372036854775807 := by omega
  have hmx : Try.prog.follows Departure.mixedOrders = true := by kernel_rfl
  go_enter Try.func5, Try.ntmps5
  go_wp2_with fail
  refine (alive_any _).mono ?_
  rintro e W1 ⟨rfl, b1⟩
  go_wp2_with fail
  refine (put_bad _ _ HP.out hn.2 _).mono ?_
  rintro e W2 ⟨rfl, b2'⟩
  have HB3 := Lib.hid (b1.trans (b2'.mono b1.size))
  have HS2 := Lib.hid (HA.out.below HB3.out)
  clear b1 b2'
  go_wp2_with fail
  refine (get_bsl (HS2.out.more HB3.out.size) i k g1 g2 g3 ).mono ?_
  rintro e W4 ⟨rfl, b4⟩
  have hS4 := Lib.hid (HS2.out.below (b4.mono HB3.out.size))
  have HB4 := Lib.hid (HB3.out.trans (b4.mono HB3.out.size))
  clear b4
  go_wp2_with fail
  refine (put_ok (leN ((s2.drop i).take k)) k g1 g2 (by have := leN_lt ((s2.drop i).take k); rwa [win_length (by rw [HS2.out.1]; exact g3)] at this) _).mono ?_
  rintro e W5 ⟨rfl, h5, b5, s5⟩
  have HB5 := Lib.hid (HB4.out.trans (b5.mono HB4.out.size))
  have hS5 := Lib.hid (hS4.out.below (b5.mono HB4.out.size))
  have c1 := fun q => (h5.drewN q).conv (cap := k) (len := k) (leB_length _ _)
  have ew : leB k (leN ((s2.drop i).take k)) = (s2.drop i).take k := by
    have := leB_leN ((s2.drop i).take k)
    rwa [win_length (by rw [HS2.out.1]; exact g3)] at this
  rw [ew] at c1
  have c2 := fun W => slice_lh W b2 off2 len2 cap2 i k (by omega) (by have := HS2.out.2.1; omega)
  have c3 := fun q => conv_window (W := W5.drewN q) (b := b2) (off := off2) (cap := cap2 - i) (i := i) (k := k) (s := s2) (fun j hj => by
    obtain ⟨_, _, _, _, h5⟩ := hS5.out
    obtain ⟨b', off', e', _, hc⟩ := h5 (by omega)
    cases e'
    simpa using hc j hj) (by rw [HS2.out.1]; exact g3)
  have c4 : IntKind.i64.wrap ((i : Int) + k) = i + k := IntWalk.i64_in _ (by omega)
  clear h5 b5 ew
  go_wp2_with fail
  go_quiet (fail)
  go_wp2
  go_ret
  exact ⟨rfl, below_drewN HB5.out _⟩

set_option maxHeartbeats 2000000 in
theorem back_ok_arg (N k : Nat) (p1 : 1 ≤ k) (p2 : k ≤ 4) (hP : N < 256 ^ k) (a2 : Option Addr) (len2 cap2 : Nat) (s2 : List UInt8) (a3 : Option Addr) (len3 cap3 : Nat) (s3 : List UInt8) (w : World) (i : Int) (hG : (((k : Int) < 1 ∨ 4 < (k : Int)) ∨ (1 ≤ (k : Int) ∧ (k : Int) ≤ 4 ∧ (i < 0 ∨ len2 < i)))) (l2 : (len2 : Int) ≤ 1000) (l3 : (len3 : Int) ≤ 1000) (hA : Bsl w w.heap.size a2 len2 cap2 s2) (hA3 : Bsl w w.heap.size a3 len3 cap3 s3) :
    Calls Try.prog 5 #[.int .i64 N, .int .i64 k, .slice a2 len2 cap2, .slice a3 len3 cap3, .int .i64 i] w fun e W' => e = .returned (.bool true) ∧ Below w.heap.size w W' := by
  have HP := Lib.hid hP; clear hP
  have HA := Lib.hid hA; clear hA
  have HA3 := Lib.hid hA3; clear hA3
  have hlm : (len2 : Int) ≤ 9223372036854775807 := by omega
  have HG := Lib.hid hG; clear hG
  go_enter Try.func5, Try.ntmps5
  go_wp2_with fail
  refine (alive_any _).mono ?_
  rintro e W1 ⟨rfl, b1⟩
  go_wp2_with fail
  refine (put_ok N k p1 p2 HP.out _).mono ?_
  rintro e W2 ⟨rfl, h2', b2', s2'⟩
  have HB2 := Lib.hid (b1.trans (b2'.mono b1.size))
  have HS0 := Lib.hid (HA.out.below HB2.out)
  have HS1 := Lib.hid (HA3.out.below HB2.out)
  have hP2 : Bsl W2 W2.heap.size (some ⟨W1.heap.size + 1, 0, none⟩) k k (leB k N) := ⟨leB_length _ _, Nat.le_refl _, by unfold maxLen; omega, fun e => (by cases e), fun _ => ⟨_, _, rfl, s2', fun i hi => by rw [Nat.zero_add]; exact h2' i hi⟩⟩
  have HP2 := Lib.hid hP2
  have hb1s := b1.size
  clear b1 b2' h2' hP2
  have tok1 : True := trivial
  have tok2 : True := trivial
  have tok3 : True := trivial
  go_wp2_with (first
    | (at_builtin
       have _t := tok1
       clear _t tok1
       refine wpList_append_bsl rfl (.tmp 43) (.tmp 44) rfl W2.heap.size (.slice none 0 0) 0 [] rfl (World.ownsRow_nil _ _ _ _) w.heap.size _ len2 cap2 s2 rfl HS0.out (by omega) (Nat.le_refl _) ?_
       intro v1 W2a hown1 hg1
       simp only [Nat.zero_add, List.nil_append] at hown1
       have B1 : Below W2.heap.size W2 W2a := (Below.refl _ _).grown hg1 (Nat.le_refl _) (fun k e => by simp [Value.ownBlock] at e)
       have HO1 := Lib.hid hown1; clear hown1 hg1
       have HX1 := Lib.hid B1; clear B1)
    | (at_builtin
       have _t := tok2
       clear _t tok2
       refine wpList_append_bsl rfl (.tmp 46) (.tmp 47) rfl W2.heap.size v1 _ _ rfl HO1.out W2.heap.size (some ⟨W1.heap.size + 1, 0, none⟩) k k (leB k N) rfl (HP2.out.below HX1.out) (by omega) HX1.out.size ?_
       intro v2 W2b hown2 hg2
       have B1 : Below W2.heap.size W2 W2b := HX1.out.grown hg2 HX1.out.size (fun k e => (HO1.out.lt k e).1)
       have HO2 := Lib.hid hown2; clear hown2 hg2
       have HX2 := Lib.hid B1; clear B1)
    | (at_builtin
       have _t := tok3
       clear _t tok3
       refine wpList_append_bsl rfl (.tmp 49) (.tmp 50) rfl W2.heap.size v2 _ _ rfl HO2.out w.heap.size a3 len3 cap3 s3 rfl (HS1.out.below (HX2.out.mono HB2.out.size)) (by omega) HX2.out.size ?_
       intro v3 W2c hown3 hg3
       have B1 : Below W2.heap.size W2 W2c := HX2.out.grown hg3 HX2.out.size (fun k e => (HO2.out.lt k e).1)
       have HX3 := Lib.hid B1; clear B1
       obtain ⟨g, cap, rfl, hgb, hgl, hgc, hgm, hgs, hgh⟩ := bsl_of_own hown3 (by omega)
       clear hown3 hg3
       have HH := Lib.hid hgh; clear hgh
       have HLs := Lib.hid hgs; clear hgs))
  refine (get_ok g 0 (len2 + k + len3) cap len2 k _ HLs.out hgc (by unfold maxLen at hgm; omega) p1 p2 (by omega) _ hgl (fun i hi => by rw [Nat.zero_add]; exact HH.out i hi)).mono ?_
  rintro e W3 ⟨rfl, b3⟩
  have HB3 := Lib.hid ((HB2.out.trans (HX3.out.mono HB2.out.size)).trans (b3.mono (Nat.le_trans HB2.out.size HX3.out.size)))
  have HS2 := Lib.hid (HA.out.below HB3.out)
  have eN : leN (((s2 ++ leB k N) ++ s3).drop len2 |>.take k) = N := by
    have h2 : s2.length = len2 := HA.out.1
    rw [List.append_assoc, List.drop_left' h2, List.take_left' (leB_length _ _), leN_leB k N HP.out]
  rw [eN]
  clear b3 eN
  go_wp2_with fail
  refine (get_arg _ _ _ _ _ HG.out _).mono ?_
  rintro e W9 ⟨rfl, rfl⟩
  go_wp2_with fail
  go_ret
  exact ⟨rfl, HB3.out⟩

set_option maxHeartbeats 2000000 in
theorem back_ok_short (N k : Nat) (p1 : 1 ≤ k) (p2 : k ≤ 4) (hP : N < 256 ^ k) (a2 : Option Addr) (len2 cap2 : Nat) (s2 : List UInt8) (a3 : Option Addr) (len3 cap3 : Nat) (s3 : List UInt8) (w : World) (i : Int) (hG : 1 ≤ (k : Int) ∧ (k : Int) ≤ 4 ∧ 0 ≤ i ∧ i ≤ len2 ∧ len2 - i < (k : Int)) (l2 : (len2 : Int) ≤ 1000) (l3 : (len3 : Int) ≤ 1000) (hA : Bsl w w.heap.size a2 len2 cap2 s2) (hA3 : Bsl w w.heap.size a3 len3 cap3 s3) :
    Calls Try.prog 5 #[.int .i64 N, .int .i64 k, .slice a2 len2 cap2, .slice a3 len3 cap3, .int .i64 i] w fun e W' => e = .returned (.bool true) ∧ Below w.heap.size w W' := by
  have HP := Lib.hid hP; clear hP
  have HA := Lib.hid hA; clear hA
  have HA3 := Lib.hid hA3; clear hA3
  have hlm : (len2 : Int) ≤ 9223372036854775807 := by omega
  have HG := Lib.hid hG; clear hG
  go_enter Try.func5, Try.ntmps5
  go_wp2_with fail
  refine (alive_any _).mono ?_
  rintro e W1 ⟨rfl, b1⟩
  go_wp2_with fail
  refine (put_ok N k p1 p2 HP.out _).mono ?_
  rintro e W2 ⟨rfl, h2', b2', s2'⟩
  have HB2 := Lib.hid (b1.trans (b2'.mono b1.size))
  have HS0 := Lib.hid (HA.out.below HB2.out)
  have HS1 := Lib.hid (HA3.out.below HB2.out)
  have hP2 : Bsl W2 W2.heap.size (some ⟨W1.heap.size + 1, 0, none⟩) k k (leB k N) := ⟨leB_length _ _, Nat.le_refl _, by unfold maxLen; omega, fun e => (by cases e), fun _ => ⟨_, _, rfl, s2', fun i hi => by rw [Nat.zero_add]; exact h2' i hi⟩⟩
  have HP2 := Lib.hid hP2
  have hb1s := b1.size
  clear b1 b2' h2' hP2
  have tok1 : True := trivial
  have tok2 : True := trivial
  have tok3 : True := trivial
  go_wp2_with (first
    | (at_builtin
       have _t := tok1
       clear _t tok1
       refine wpList_append_bsl rfl (.tmp 43) (.tmp 44) rfl W2.heap.size (.slice none 0 0) 0 [] rfl (World.ownsRow_nil _ _ _ _) w.heap.size _ len2 cap2 s2 rfl HS0.out (by omega) (Nat.le_refl _) ?_
       intro v1 W2a hown1 hg1
       simp only [Nat.zero_add, List.nil_append] at hown1
       have B1 : Below W2.heap.size W2 W2a := (Below.refl _ _).grown hg1 (Nat.le_refl _) (fun k e => by simp [Value.ownBlock] at e)
       have HO1 := Lib.hid hown1; clear hown1 hg1
       have HX1 := Lib.hid B1; clear B1)
    | (at_builtin
       have _t := tok2
       clear _t tok2
       refine wpList_append_bsl rfl (.tmp 46) (.tmp 47) rfl W2.heap.size v1 _ _ rfl HO1.out W2.heap.size (some ⟨W1.heap.size + 1, 0, none⟩) k k (leB k N) rfl (HP2.out.below HX1.out) (by omega) HX1.out.size ?_
       intro v2 W2b hown2 hg2
       have B1 : Below W2.heap.size W2 W2b := HX1.out.grown hg2 HX1.out.size (fun k e => (HO1.out.lt k e).1)
       have HO2 := Lib.hid hown2; clear hown2 hg2
       have HX2 := Lib.hid B1; clear B1)
    | (at_builtin
       have _t := tok3
       clear _t tok3
       refine wpList_append_bsl rfl (.tmp 49) (.tmp 50) rfl W2.heap.size v2 _ _ rfl HO2.out w.heap.size a3 len3 cap3 s3 rfl (HS1.out.below (HX2.out.mono HB2.out.size)) (by omega) HX2.out.size ?_
       intro v3 W2c hown3 hg3
       have B1 : Below W2.heap.size W2 W2c := HX2.out.grown hg3 HX2.out.size (fun k e => (HO2.out.lt k e).1)
       have HX3 := Lib.hid B1; clear B1
       obtain ⟨g, cap, rfl, hgb, hgl, hgc, hgm, hgs, hgh⟩ := bsl_of_own hown3 (by omega)
       clear hown3 hg3
       have HH := Lib.hid hgh; clear hgh
       have HLs := Lib.hid hgs; clear hgs))
  refine (get_ok g 0 (len2 + k + len3) cap len2 k _ HLs.out hgc (by unfold maxLen at hgm; omega) p1 p2 (by omega) _ hgl (fun i hi => by rw [Nat.zero_add]; exact HH.out i hi)).mono ?_
  rintro e W3 ⟨rfl, b3⟩
  have HB3 := Lib.hid ((HB2.out.trans (HX3.out.mono HB2.out.size)).trans (b3.mono (Nat.le_trans HB2.out.size HX3.out.size)))
  have HS2 := Lib.hid (HA.out.below HB3.out)
  have eN : leN (((s2 ++ leB k N) ++ s3).drop len2 |>.take k) = N := by
    have h2 : s2.length = len2 := HA.out.1
    rw [List.append_assoc, List.drop_left' h2, List.take_left' (leB_length _ _), leN_leB k N HP.out]
  rw [eN]
  clear b3 eN
  go_wp2_with fail
  refine (get_short _ _ _ (by omega) _ _ HG.out.1 HG.out.2.1 HG.out.2.2.1 HG.out.2.2.2.1 HG.out.2.2.2.2 _).mono ?_
  rintro e W9 ⟨rfl, rfl⟩
  go_wp2_with fail
  go_ret
  exact ⟨rfl, HB3.out⟩

set_option maxHeartbeats 2000000 in
theorem back_ok_ok (N k : Nat) (p1 : 1 ≤ k) (p2 : k ≤ 4) (hP : N < 256 ^ k) (b2 off2 len2 cap2 : Nat) (s2 : List UInt8) (a3 : Option Addr) (len3 cap3 : Nat) (s3 : List UInt8) (w : World) (i : Nat) (g3 : i + k ≤ len2) (l2 : (len2 : Int) ≤ 1000) (l3 : (len3 : Int) ≤ 1000) (hA : Bsl w w.heap.size (some ⟨b2, off2, none⟩) len2 cap2 s2) (hA3 : Bsl w w.heap.size a3 len3 cap3 s3) :
    Calls Try.prog 5 #[.int .i64 N, .int .i64 k, .slice (some ⟨b2, off2, none⟩) len2 cap2, .slice a3 len3 cap3, .int .i64 i] w fun e W' => e = .returned (.bool true) ∧ Below w.heap.size w W' := by
  have HP := Lib.hid hP; clear hP
  have HA := Lib.hid hA; clear hA
  have HA3 := Lib.hid hA3; clear hA3
  have hlm : (len2 : Int) ≤ 9223372036854775807 := by omega
  have hmx : Try.prog.follows Departure.mixedOrders = true := by kernel_rfl
  have g1 := p1
  have g2 := p2
  go_enter Try.func5, Try.ntmps5
  go_wp2_with fail
  refine (alive_any _).mono ?_
  rintro e W1 ⟨rfl, b1⟩
  go_wp2_with fail
  refine (put_ok N k p1 p2 HP.out _).mono ?_
  rintro e W2 ⟨rfl, h2', b2', s2'⟩
  have HB2 := Lib.hid (b1.trans (b2'.mono b1.size))
  have HS0 := Lib.hid (HA.out.below HB2.out)
  have HS1 := Lib.hid (HA3.out.below HB2.out)
  have hP2 : Bsl W2 W2.heap.size (some ⟨W1.heap.size + 1, 0, none⟩) k k (leB k N) := ⟨leB_length _ _, Nat.le_refl _, by unfold maxLen; omega, fun e => (by cases e), fun _ => ⟨_, _, rfl, s2', fun i hi => by rw [Nat.zero_add]; exact h2' i hi⟩⟩
  have HP2 := Lib.hid hP2
  have hb1s := b1.size
  clear b1 b2' h2' hP2
  have tok1 : True := trivial
  have tok2 : True := trivial
  have tok3 : True := trivial
  go_wp2_with (first
    | (at_builtin
       have _t := tok1
       clear _t tok1
       refine wpList_append_bsl rfl (.tmp 43) (.tmp 44) rfl W2.heap.size (.slice none 0 0) 0 [] rfl (World.ownsRow_nil _ _ _ _) w.heap.size _ len2 cap2 s2 rfl HS0.out (by omega) (Nat.le_refl _) ?_
       intro v1 W2a hown1 hg1
       simp only [Nat.zero_add, List.nil_append] at hown1
       have B1 : Below W2.heap.size W2 W2a := (Below.refl _ _).grown hg1 (Nat.le_refl _) (fun k e => by simp [Value.ownBlock] at e)
       have HO1 := Lib.hid hown1; clear hown1 hg1
       have HX1 := Lib.hid B1; clear B1)
    | (at_builtin
       have _t := tok2
       clear _t tok2
       refine wpList_append_bsl rfl (.tmp 46) (.tmp 47) rfl W2.heap.size v1 _ _ rfl HO1.out W2.heap.size (some ⟨W1.heap.size + 1, 0, none⟩) k k (leB k N) rfl (HP2.out.below HX1.out) (by omega) HX1.out.size ?_
       intro v2 W2b hown2 hg2
       have B1 : Below W2.heap.size W2 W2b := HX1.out.grown hg2 HX1.out.size (fun k e => (HO1.out.lt k e).1)
       have HO2 := Lib.hid hown2; clear hown2 hg2
       have HX2 := Lib.hid B1; clear B1)
    | (at_builtin
       have _t := tok3
       clear _t tok3
       refine wpList_append_bsl rfl (.tmp 49) (.tmp 50) rfl W2.heap.size v2 _ _ rfl HO2.out w.heap.size a3 len3 cap3 s3 rfl (HS1.out.below (HX2.out.mono HB2.out.size)) (by omega) HX2.out.size ?_
       intro v3 W2c hown3 hg3
       have B1 : Below W2.heap.size W2 W2c := HX2.out.grown hg3 HX2.out.size (fun k e => (HO2.out.lt k e).1)
       have HX3 := Lib.hid B1; clear B1
       obtain ⟨g, cap, rfl, hgb, hgl, hgc, hgm, hgs, hgh⟩ := bsl_of_own hown3 (by omega)
       clear hown3 hg3
       have HH := Lib.hid hgh; clear hgh
       have HLs := Lib.hid hgs; clear hgs))
  refine (get_ok g 0 (len2 + k + len3) cap len2 k _ HLs.out hgc (by unfold maxLen at hgm; omega) p1 p2 (by omega) _ hgl (fun i hi => by rw [Nat.zero_add]; exact HH.out i hi)).mono ?_
  rintro e W3 ⟨rfl, b3⟩
  have HB3 := Lib.hid ((HB2.out.trans (HX3.out.mono HB2.out.size)).trans (b3.mono (Nat.le_trans HB2.out.size HX3.out.size)))
  have HS2 := Lib.hid (HA.out.below HB3.out)
  have eN : leN (((s2 ++ leB k N) ++ s3).drop len2 |>.take k) = N := by
    have h2 : s2.length = len2 := HA.out.1
    rw [List.append_assoc, List.drop_left' h2, List.take_left' (leB_length _ _), leN_leB k N HP.out]
  rw [eN]
  clear b3 eN
  go_wp2_with fail
  refine (get_bsl (HS2.out.more HB3.out.size) i k g1 g2 g3 ).mono ?_
  rintro e W4 ⟨rfl, b4⟩
  have hS4 := Lib.hid (HS2.out.below (b4.mono HB3.out.size))
  have HB4 := Lib.hid (HB3.out.trans (b4.mono HB3.out.size))
  clear b4
  go_wp2_with fail
  refine (put_ok (leN ((s2.drop i).take k)) k g1 g2 (by have := leN_lt ((s2.drop i).take k); rwa [win_length (by rw [HS2.out.1]; exact g3)] at this) _).mono ?_
  rintro e W5 ⟨rfl, h5, b5, s5⟩
  have HB5 := Lib.hid (HB4.out.trans (b5.mono HB4.out.size))
  have hS5 := Lib.hid (hS4.out.below (b5.mono HB4.out.size))
  have c1 := fun q => (h5.drewN q).conv (cap := k) (len := k) (leB_length _ _)
  have ew : leB k (leN ((s2.drop i).take k)) = (s2.drop i).take k := by
    have := leB_leN ((s2.drop i).take k)
    rwa [win_length (by rw [HS2.out.1]; exact g3)] at this
  rw [ew] at c1
  have c2 := fun W => slice_lh W b2 off2 len2 cap2 i k (by omega) (by have := HS2.out.2.1; omega)
  have c3 := fun q => conv_window (W := W5.drewN q) (b := b2) (off := off2) (cap := cap2 - i) (i := i) (k := k) (s := s2) (fun j hj => by
    obtain ⟨_, _, _, _, h5⟩ := hS5.out
    obtain ⟨b', off', e', _, hc⟩ := h5 (by omega)
    cases e'
    simpa using hc j hj) (by rw [HS2.out.1]; exact g3)
  have c4 : IntKind.i64.wrap ((i : Int) + k) = i + k := IntWalk.i64_in _ (by omega)
  clear h5 b5 ew
  go_wp2_with fail
  go_quiet (fail)
  go_wp2
  go_ret
  exact ⟨rfl, below_drewN HB5.out _⟩
end Go.Proofs.Ytfejjpgjajacpaa

namespace Go.Proofs.Ytfejjpgjajacpaa.codeBack
open Go.ChangeShapes Go.WideShapes Go.ChangeAt Go.RowKit
set_option linter.unusedVariables false

theorem own : ownKnob Try.prog.godebug = none := by kernel_rfl
theorem laidOut : laidOutB Try.prog = true := by kernel_rfl

/-- WHAT THE WALK IS TOLD OF A SLICE OF INTEGERS THAT CAME IN: it is nil; or it leads to a row of 'cap' cells, the numbers 'zs' (the first 'len' are its elements, the rest its spare room), each fitting its kind. -/
def IsRow (k : IntKind) (w : World) (a : Option Addr) (len cap : Nat) (zs : List Int) : Prop :=
  (a = none ∧ len = 0 ∧ cap = 0 ∧ zs = []) ∨
  ∃ x, a = some x ∧ len ≤ cap ∧ cap ≤ maxLen ∧ zs.length = cap ∧ (∀ i, i < zs.length → w.cell? (x.add i) = some (.int k (zs.getD i 0))) ∧ ∀ n ∈ zs, (Lit.int k n).wf = true

/-- A slice of bytes that came in reads as bytes. -/
theorem bsl_of_row {w : World} {a : Option Addr} {len cap : Nat} {zs : List Int} (h : IsRow .u8 w a len cap zs) : Bsl w w.heap.size a len cap ((zs.take len).map fun z => UInt8.ofNat z.toNat) := by
  rcases h with ⟨rfl, rfl, rfl, rfl⟩ | ⟨x, rfl, hl, hm, hz, hcell, hwf⟩
  · exact bsl_nil w
  · have hsz : ((zs.take len).map fun z => UInt8.ofNat z.toNat).length = len := by simp; omega
    refine ⟨hsz, hl, hm, fun e => (by cases e), fun h0 => ?_⟩
    obtain ⟨b, off, spot⟩ := x
    have h00 := hcell 0 (by omega)
    have hspot : spot = none := by simpa [Addr.add] using World.cell?_spot h00
    subst hspot
    have hadd : ∀ i, (⟨b, off, none⟩ : Addr).add i = ⟨b, off + i, none⟩ := fun i => by unfold Addr.add; split <;> simp_all
    obtain ⟨o, ho, _⟩ := cells_of_cell h00
    refine ⟨b, off, rfl, ?_, fun i hi => ?_⟩
    · rw [hadd] at ho
      exact (Array.getElem?_eq_some_iff.1 ho).1
    · rw [hsz] at hi
      have hc := hcell i (by omega)
      rw [hadd] at hc
      have hiz : i < zs.length := by omega
      rw [hc]
      have hw := hwf zs[i] (List.getElem_mem hiz)
      have hr : 0 ≤ zs[i] ∧ zs[i] ≤ 255 := by simpa [Lit.wf, IntKind.min, IntKind.max, IntKind.signed, IntKind.bits] using hw
      simp only [List.getD, List.getElem?_eq_getElem hiz, Option.getD_some, List.getElem_map, List.getElem_take]
      congr 2
      have : (UInt8.ofNat zs[i].toNat).toNat = zs[i].toNat := by simp; omega
      rw [this]
      omega
theorem walk (a0 : Int) (a1 : Int) (a2 : Option Addr) (len2 cap2 : Nat) (z2 : List Int) (a3 : Option Addr) (len3 cap3 : Nat) (z3 : List Int) (a4 : Int) (w : World) (w0 : (Lit.int .i64 a0).wf = true) (w1 : (Lit.int .i64 a1).wf = true) (w2 : IsRow .u8 w a2 len2 cap2 z2) (w3 : IsRow .u8 w a3 len3 cap3 z3) (w4 : (Lit.int .i64 a4).wf = true) :
    Calls Try.prog 5 #[.int .i64 a0, .int .i64 a1, .slice a2 len2 cap2, .slice a3 len3 cap3, .int .i64 a4] w fun e w' => e = .returned (.bool true) ∧ Below w.heap.size w w' := by
  have hA := bsl_of_row w2
  have hA3 := bsl_of_row w3
  have hl2 : (len2 : Int) ≤ 9223372036854775807 := by have h1 := hA.2.1; have h2 := hA.2.2.1; unfold maxLen at h2; omega
  have hl3 : (len3 : Int) ≤ 9223372036854775807 := by have h1 := hA3.2.1; have h2 := hA3.2.2.1; unfold maxLen at h2; omega
  have hn := wf_le w0
  by_cases g2 : (1000 : Int) < len2
  · exact back_far2 a0 a1 a2 len2 cap2 a3 len3 cap3 a4 w g2 hl2
  · by_cases g3 : (1000 : Int) < len3
    · exact back_far3 a0 a1 a2 len2 cap2 a3 len3 cap3 a4 w (by omega) g3 hl3
    · have l2 : (len2 : Int) ≤ 1000 := by omega
      have l3 : (len3 : Int) ≤ 1000 := by omega
      rcases putCase a0 a1 with ⟨N, k, rfl, rfl, p1, p2, hP⟩ | hP
      · rcases getCase len2 a4 k with ⟨i, k', rfl, hk, _, _, g⟩ | hG | hG
        · obtain rfl : k = k' := by omega
          obtain ⟨b, off, rfl, _, _⟩ := hA.2.2.2.2 (by omega)
          exact back_ok_ok N k p1 p2 hP b off len2 cap2 _ a3 len3 cap3 _ w i g l2 l3 hA hA3
        · exact back_ok_arg N k p1 p2 hP a2 len2 cap2 _ a3 len3 cap3 _ w a4 hG l2 l3 hA hA3
        · exact back_ok_short N k p1 p2 hP a2 len2 cap2 _ a3 len3 cap3 _ w a4 hG l2 l3 hA hA3
      · rcases getCase len2 a4 a1 with ⟨i, k, rfl, rfl, q1, q2, g⟩ | hG | hG
        · obtain ⟨b, off, rfl, _, _⟩ := hA.2.2.2.2 (by omega)
          exact back_bad_ok a0 hn k hP b off len2 cap2 _ a3 len3 cap3 _ w i q1 q2 g l2 l3 hA hA3
        · exact back_bad_arg a0 a1 hn hP a2 len2 cap2 _ a3 len3 cap3 _ w a4 hG l2 l3 hA hA3
        · exact back_bad_short a0 a1 hn hP a2 len2 cap2 _ a3 len3 cap3 _ w a4 hG l2 l3 hA hA3

set_option maxRecDepth 100000 in
theorem lifted (os : Os) (started : os.Started) (H : Type) (enc : TypeId × Value → H) :
    ReturnsInHanded {} Try.checked os 5 .any (Rows.codeBackSpec.pre6 enc Try.prog Try.f5 Rows.codeBackRow.domain false) (Rows.codeBackSpec.post enc Try.prog Try.f5 false true false false) := by
  refine returnsInHanded_of_change (C := Try.checked) own started (by kernel_rfl) Try.func5
    (ChangeSpec.witness6 (enc := enc) (C := Try.checked) false ⟨#[], #[.int .i64 0, .int .i64 0, .slice none 0 0, .slice none 0 0, .int .i64 0], []⟩ 8 (by kernel_rfl) (by kernel_rfl) (by kernel_rfl) (by kernel_rfl)) ?_
  intro W base args ds gs before hval0 hW hcnd _
  have hval : ∀ (j : Nat) t v, Try.f5.params[j]? = some t → args[j]? = some v → Value.okWide Try.prog W .any base t v := hval0
  have hW' := hW
  obtain ⟨p, q, hA0, hV, rfl, hfz, hnd⟩ := hW
  have hA : DataW.TrodAll enc Try.prog W 0 (fun _ => true) true Try.f5.params.toList args.toList ds p := hA0
  rw [Try.params5] at hA hval
  obtain ⟨v0, vs0, d0, ds0, p0, q0, hargs, rfl, rfl, h0, r0⟩ := trodAll_cons hA
  obtain ⟨v1, vs1, d1, ds1, p1, q1, rfl, rfl, rfl, h1, r1⟩ := trodAll_cons r0
  obtain ⟨v2, vs2, d2, ds2, p2, q2, rfl, rfl, rfl, h2, r2⟩ := trodAll_cons r1
  obtain ⟨v3, vs3, d3, ds3, p3, q3, rfl, rfl, rfl, h3, r3⟩ := trodAll_cons r2
  obtain ⟨v4, vs4, d4, ds4, p4, q4, rfl, rfl, rfl, h4, r4⟩ := trodAll_cons r3
  obtain ⟨rfl, rfl, rfl⟩ := trodAll_nil r4
  obtain rfl : args = #[v0, v1, v2, v3, v4] := by cases args; simp_all
  obtain ⟨rfl, rfl⟩ := trodVars_none hV
  obtain ⟨a0, rfl, rfl, rfl, w0⟩ := open_int Try.underlying3 (hval 0 3 v0 rfl rfl) h0
  obtain ⟨a1, rfl, rfl, rfl, w1⟩ := open_int Try.underlying3 (hval 1 3 v1 rfl rfl) h1
  obtain ⟨a2, len2, cap2, rfl⟩ := okWide_slice Try.underlying25 (hval 2 25 v2 rfl rfl)
  have k2 := h2
  have lt2 : ∀ x ∈ p2, x.block < W.heap.size := by obtain ⟨m, hm⟩ := k2; exact DataW.trod_lt m _ _ _ hm
  obtain ⟨z2, w2⟩ : ∃ zs, IsRow .u8 W a2 len2 cap2 zs := by
    obtain ⟨fuel, hf⟩ := h2
    rcases open_ints Try.underlying25 Try.underlying5 (by kernel_rfl) hf with ⟨hcs, _⟩ | ⟨x, l, c, zs, hcs, _, hl, hm, hz, _, hcell, hwz⟩
    · simp [Value.cells] at hcs
      obtain ⟨rfl, rfl, rfl⟩ := hcs
      exact ⟨[], .inl ⟨rfl, rfl, rfl, rfl⟩⟩
    · simp [Value.cells] at hcs
      obtain ⟨rfl, rfl, rfl⟩ := hcs
      exact ⟨zs, .inr ⟨_, rfl, hl, hm, by simpa using hz, hcell, hwz⟩⟩
  obtain ⟨a3, len3, cap3, rfl⟩ := okWide_slice Try.underlying25 (hval 3 25 v3 rfl rfl)
  have k3 := h3
  have lt3 : ∀ x ∈ p3, x.block < W.heap.size := by obtain ⟨m, hm⟩ := k3; exact DataW.trod_lt m _ _ _ hm
  obtain ⟨z3, w3⟩ : ∃ zs, IsRow .u8 W a3 len3 cap3 zs := by
    obtain ⟨fuel, hf⟩ := h3
    rcases open_ints Try.underlying25 Try.underlying5 (by kernel_rfl) hf with ⟨hcs, _⟩ | ⟨x, l, c, zs, hcs, _, hl, hm, hz, _, hcell, hwz⟩
    · simp [Value.cells] at hcs
      obtain ⟨rfl, rfl, rfl⟩ := hcs
      exact ⟨[], .inl ⟨rfl, rfl, rfl, rfl⟩⟩
    · simp [Value.cells] at hcs
      obtain ⟨rfl, rfl, rfl⟩ := hcs
      exact ⟨zs, .inr ⟨_, rfl, hl, hm, by simpa using hz, hcell, hwz⟩⟩
  obtain ⟨a4, rfl, rfl, rfl, w4⟩ := open_int Try.underlying3 (hval 4 3 v4 rfl rfl) h4
  clear hA0 hval0
  refine (walk a0 a1 a2 len2 cap2 z2 a3 len3 cap3 z3 a4 W w0 w1 w2 w3 w4).mono fun e W' ⟨he, bel⟩ => ?_
  subst he
  exact ⟨_, rfl, _, _, _, [], _, [], hW', trodAll_mk1 (shut_bool Try.underlying4 _), (trodAll_cons_mk (shut_int Try.underlying3 w0) (trodAll_cons_mk (shut_int Try.underlying3 w1) (trodAll_cons_mk (Below.trod laidOut (by kernel_rfl) (of_decide_eq_true (by kernel_rfl)) k2 bel lt2) (trodAll_cons_mk (Below.trod laidOut (by kernel_rfl) (of_decide_eq_true (by kernel_rfl)) k3 bel lt3) (trodAll_cons_mk (shut_int Try.underlying3 w4) trodAll_mk0))))), rfl, bel.frame _, fun h => by cases h⟩

theorem over : Rows.codeBackRow.holds Try.pinned (OpenSpec.ofChange Rows.codeBackSpec) :=
  OpenClaim.holds_of_wide 5 Try.f5 rfl rfl rfl rfl rfl rfl rfl ⟨rfl, rfl, rfl, rfl, rfl⟩ rfl rfl rfl rfl rfl (by kernel_rfl) Try.func5 (by kernel_rfl)
    (of_decide_eq_true (by kernel_rfl)) (by unfold Func.isWrapper; first | (rw [if_pos (by decide +kernel)]; kernel_rfl) | (rw [if_neg (by decide +kernel)]; exact ⟨rfl, rfl⟩))
    (fun os started H enc _ => lifted os started H enc)

/-- The statement. -/
theorem proved : Rows.CodeBackSaid := over
end Go.Proofs.Ytfejjpgjajacpaa.codeBack
