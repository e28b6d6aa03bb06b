/-
  What the document's own Seal and Open answer: the bytes sealed and their tag, the bytes opened, the errors.
-/
import Derived.Test.YtomobnecdkachaaSeal
import Derived.Test.YtomobnecdkachaaCipherRef
import Derived.Test.YtomobnecdkachaaMacRef
namespace Go.Proofs.Ytomobnecdkachaa
open Go.RowKit Go.Shelf
set_option maxRecDepth 100000

theorem asked_key (a : Option Addr) (len cap : Nat) (h : len ≠ 16) (u : Value) (w : World) : Calls Try.prog 15 #[.slice a len cap, u] w fun e w' => e = .returned (.int .i64 2) ∧ w = w' := by
  have h1 : ((len : Int) != 16) = true := by simp; omega
  go_enter Try.func15, Try.ntmps15
  go_wp2_with fail
  go_ret
  exact ⟨rfl, rfl⟩
theorem asked_text (a : Option Addr) (cap : Nat) (b : Option Addr) (len capb : Nat) (h : 256 < len) (w : World) : Calls Try.prog 15 #[.slice a 16 cap, .slice b len capb] w fun e w' => e = .returned (.int .i64 3) ∧ w = w' := by
  have h0 : (256 : Int) < len := by omega
  go_enter Try.func15, Try.ntmps15
  go_wp2_with fail
  go_ret
  exact ⟨rfl, rfl⟩
theorem asked_no (a : Option Addr) (cap : Nat) (b : Option Addr) (len capb : Nat) (h : len ≤ 256) (w : World) : Calls Try.prog 15 #[.slice a 16 cap, .slice b len capb] w fun e w' => e = .returned (.int .i64 0) ∧ w = w' := by
  have h0 : (len : Int) ≤ 256 := by omega
  go_enter Try.func15, Try.ntmps15
  go_wp2_with fail
  go_ret
  exact ⟨rfl, rfl⟩

set_option maxHeartbeats 1000000 in
theorem rTag_any (A : Option Addr) (cap : Nat) (k : List UInt8) (iv : Nat) (hiv : iv < 4294967296) (b : Option Addr) (len capb : Nat) (s : List UInt8) (hn : len ≤ 4096) (w : World) (hA : Bsl w w.heap.size A 16 cap k) (hS : Bsl w w.heap.size b len capb s) :
    Calls Try.prog 17 #[.slice A 16 cap, .int .u32 iv, .slice b len capb] w fun e w' => e = .returned (.int .u32 ((sealW k iv s).toNat : Int)) ∧ Below w.heap.size w w' := by
  have v0 : (0 : Int) ≤ iv := by omega
  have v1 : (iv : Int) ≤ 4294967295 := by omega
  have HA := Lib.hid hA; clear hA
  have HS := Lib.hid hS; clear hS
  go_enter Try.func17, Try.ntmps17
  go_wp2_with fail
  refine (bytes_own iv 4 (by omega) (by omega) (by omega) w).mono ?_
  rintro e w1 ⟨rfl, _, b1, _, h1⟩
  have HO1 := Lib.hid h1; clear h1
  have HB1 := Lib.hid b1
  have HS1 := Lib.hid (HS.out.step b1); clear b1 HS
  go_wp2_with (at_builtin
               refine wpList_append_bsl rfl (.tmp 12) (.tmp 13) rfl w.heap.size _ 4 _ rfl HO1.out w1.heap.size b len capb s rfl HS1.out (by omega) HB1.out.size ?_
               intro v2 w2 hown2 hgr2
               have HB2 := Lib.hid (app_below HB1.out HO1.out hgr2 HB1.out.size)
               have HA2 := Lib.hid ((HA.out.below HB2.out).more HB2.out.size); clear hgr2
               obtain ⟨g3, cap3, rfl, hgb, hgl, hgc, hgm, hgs, hgh⟩ := bsl_of_own hown2 (by omega)
               clear hown2
               have HT2 := Lib.hid (bsl_of_holds hgs hgc hgm hgl hgh)
               clear hgb hgl hgc hgm hgs hgh)
  have HT := Lib.hid (rof_any A cap k _ _ _ _ w2 HA2.out HT2.out (by omega))
  obtain ⟨t, ht⟩ : ∃ t, tagW k (leB 4 iv ++ s) = t := ⟨_, rfl⟩
  rw [ht] at HT
  have HTE := Lib.hid (show sealW k iv s = t from ht); clear ht HA HS1 HO1 HB1 HA2 HT2
  refine HT.out.mono ?_
  rintro e w3 ⟨rfl, b3⟩
  have HB3 := Lib.hid (HB2.out.trans (b3.mono HB2.out.size)); clear b3
  go_wp2_with fail
  go_ret
  exact ⟨by rw [HTE.out]; rfl, HB3.out⟩

/-- A list that reads as s, a number of 32 bits, and an error's number. -/
def OutT' (c : Int) (t : BitVec 32) (n : Nat) (s : List UInt8) (w : World) (e : Ending) (w' : World) : Prop :=
  ∃ a cap, e = .returned (.tuple #[.slice a n cap, .int .u32 (t.toNat : Int), .int .i64 c]) ∧ Bsl w' w'.heap.size a n cap s ∧ Below w.heap.size w w'
theorem OutT.outT' {c : Int} {t : BitVec 32} {n : Nat} {s : List UInt8} {w w' : World} {e : Ending} (h : OutT c t n s w e w') : OutT' c t n s w e w' :=
  let ⟨a, cap, he, ho, hb⟩ := h; ⟨a, cap, he, own_bsl ho, hb⟩

theorem rSeal_key (a : Option Addr) (len cap : Nat) (h : len ≠ 16) (v u : Value) (w : World) : Calls Try.prog 10 #[.slice a len cap, v, u] w (OutT' 2 0 0 [] w) := by
  go_enter Try.func10, Try.ntmps10
  go_wp2_with (go_at_call 15; refine (asked_key _ _ _ h _ _).mono ?_; rintro e w' ⟨rfl, rfl⟩)
  go_ret3
  exact ⟨none, 0, rfl, bsl_nil _, Below.refl _ _⟩
theorem rSeal_far (a : Option Addr) (cap : Nat) (v : Value) (b : Option Addr) (len capb : Nat) (h : 256 < len) (w : World) : Calls Try.prog 10 #[.slice a 16 cap, v, .slice b len capb] w (OutT' 3 0 0 [] w) := by
  go_enter Try.func10, Try.ntmps10
  go_wp2_with (go_at_call 15; refine (asked_text _ _ _ _ _ h _).mono ?_; rintro e w' ⟨rfl, rfl⟩)
  go_ret3
  exact ⟨none, 0, rfl, bsl_nil _, Below.refl _ _⟩
theorem rSeal_ok (A : Option Addr) (cap : Nat) (k : List UInt8) (iv : Nat) (hiv : iv < 4294967296) (b : Option Addr) (len capb : Nat) (s : List UInt8) (hn : len ≤ 256) (w : World) (hA : Bsl w w.heap.size A 16 cap k) (hS : Bsl w w.heap.size b len capb s) :
    Calls Try.prog 10 #[.slice A 16 cap, .int .u32 iv, .slice b len capb] w (OutT' 0 (sealW k iv (turnW' k iv s)) len (turnW' k iv s) w) := by
  have HT := Lib.hid (rturned_any A cap k iv hiv b len capb s (by omega) w hA hS)
  have HA := Lib.hid hA; clear hA hS
  obtain ⟨x, hx⟩ : ∃ x, turnW' k iv s = x := ⟨_, rfl⟩
  rw [hx] at HT ⊢
  clear hx
  obtain ⟨t, ht⟩ : ∃ t, sealW k iv x = t := ⟨_, rfl⟩
  rw [ht]
  have HTE := Lib.hid ht; clear ht
  go_enter Try.func10, Try.ntmps10
  go_wp2_with (go_at_call 15; refine (asked_no _ _ _ _ _ hn _).mono ?_; rintro e w' ⟨rfl, rfl⟩)
  refine HT.out.mono ?_
  rintro e w1 ⟨a1, c1, rfl, h1, b1⟩
  have HG := Lib.hid (rTag_any A cap k iv hiv a1 len c1 x (by omega) w1 (HA.out.step b1) h1)
  have H1 := Lib.hid h1; clear h1
  have B1 := Lib.hid b1; clear b1
  rw [HTE.out] at HG
  go_wp2_with fail
  refine HG.out.mono ?_
  rintro e w2 ⟨rfl, b2⟩
  have H2 := Lib.hid (H1.out.step b2)
  have B2 := Lib.hid (B1.out.trans (b2.mono B1.out.size)); clear b2
  go_wp2_with fail
  go_ret3
  exact ⟨_, _, rfl, H2.out, B2.out⟩

theorem rOpen_key (a : Option Addr) (len cap : Nat) (h : len ≠ 16) (v u x : Value) (w : World) : Calls Try.prog 11 #[.slice a len cap, v, u, x] w (Out' 2 0 [] w) := by
  go_enter Try.func11, Try.ntmps11
  go_wp2_with (go_at_call 15; refine (asked_key _ _ _ h _ _).mono ?_; rintro e w' ⟨rfl, rfl⟩)
  go_ret2
  exact out'_err 2 _
theorem rOpen_far (a : Option Addr) (cap : Nat) (v x : Value) (b : Option Addr) (len capb : Nat) (h : 256 < len) (w : World) : Calls Try.prog 11 #[.slice a 16 cap, v, .slice b len capb, x] w (Out' 3 0 [] w) := by
  go_enter Try.func11, Try.ntmps11
  go_wp2_with (go_at_call 15; refine (asked_text _ _ _ _ _ h _).mono ?_; rintro e w' ⟨rfl, rfl⟩)
  go_ret2
  exact out'_err 3 _
theorem rOpen_tag (A : Option Addr) (cap : Nat) (k : List UInt8) (iv : Nat) (hiv : iv < 4294967296) (b : Option Addr) (len capb : Nat) (s : List UInt8) (hn : len ≤ 256) (t : BitVec 32) (ht : sealW k iv s ≠ t) (w : World) (hA : Bsl w w.heap.size A 16 cap k) (hS : Bsl w w.heap.size b len capb s) :
    Calls Try.prog 11 #[.slice A 16 cap, .int .u32 iv, .slice b len capb, .int .u32 (t.toNat : Int)] w (Out' 131 0 [] w) := by
  have HT := Lib.hid (rTag_any A cap k iv hiv b len capb s (by omega) w hA hS)
  clear hA hS
  have hne : (((sealW k iv s).toNat : Int) != (t.toNat : Int)) = true := by
    have : (sealW k iv s).toNat ≠ t.toNat := fun h => ht (BitVec.eq_of_toNat_eq h)
    simp only [bne_iff_ne, ne_eq]; omega
  go_enter Try.func11, Try.ntmps11
  go_wp2_with (go_at_call 15; refine (asked_no _ _ _ _ _ hn _).mono ?_; rintro e w' ⟨rfl, rfl⟩)
  refine HT.out.mono ?_
  rintro e w1 ⟨rfl, b1⟩
  have B1 := Lib.hid b1; clear b1
  go_wp2_with fail
  go_ret2
  exact ⟨none, 0, rfl, bsl_nil _, B1.out⟩
theorem rOpen_ok (A : Option Addr) (cap : Nat) (k : List UInt8) (iv : Nat) (hiv : iv < 4294967296) (b : Option Addr) (len capb : Nat) (s : List UInt8) (hn : len ≤ 256) (w : World) (hA : Bsl w w.heap.size A 16 cap k) (hS : Bsl w w.heap.size b len capb s) :
    Calls Try.prog 11 #[.slice A 16 cap, .int .u32 iv, .slice b len capb, .int .u32 ((sealW k iv s).toNat : Int)] w (Out' 0 len (turnW' k iv s) w) := by
  have HT := Lib.hid (rTag_any A cap k iv hiv b len capb s (by omega) w hA hS)
  have HA := Lib.hid hA; clear hA
  have HS := Lib.hid hS; clear hS
  obtain ⟨t, ht⟩ : ∃ t, sealW k iv s = t := ⟨_, rfl⟩
  rw [ht] at HT ⊢
  clear ht
  have hne : ((t.toNat : Int) != (t.toNat : Int)) = false := by simp
  go_enter Try.func11, Try.ntmps11
  go_wp2_with (go_at_call 15; refine (asked_no _ _ _ _ _ hn _).mono ?_; rintro e w' ⟨rfl, rfl⟩)
  refine HT.out.mono ?_
  rintro e w1 ⟨rfl, b1⟩
  have HU := Lib.hid (rturned_any A cap k iv hiv b len capb s (by omega) w1 (HA.out.step b1) (HS.out.step b1))
  have B1 := Lib.hid b1; clear b1
  go_wp2_with fail
  refine HU.out.mono ?_
  rintro e w2 ⟨a2, c2, rfl, h2, b2⟩
  have H2 := Lib.hid h2
  have B2 := Lib.hid (B1.out.trans (b2.mono B1.out.size)); clear b2 h2
  go_wp2_with fail
  go_ret2
  exact ⟨_, _, rfl, H2.out, B2.out⟩
end Go.Proofs.Ytomobnecdkachaa
