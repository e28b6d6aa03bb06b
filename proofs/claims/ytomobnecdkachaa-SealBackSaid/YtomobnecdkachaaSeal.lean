/-
  seal.Seal and seal.Open, whatever they are handed, answer the bytes sealed with their tag, the bytes opened, or the error that is due; the answer is new memory; nothing that was there is written.
-/
import Derived.Test.YtomobnecdkachaaCipher
import Derived.Test.YtomobnecdkachaaMac
import Derived.OwnWalk
namespace Go.Proofs.Ytomobnecdkachaa
open Go.RowKit Go.Shelf
set_option maxRecDepth 100000

/-- The tag of bytes that a cipher made. -/
def sealW (k : List UInt8) (iv : Nat) (m : List UInt8) : BitVec 32 := tagW k (leB 4 iv ++ m)
/-- A list of one's own. -/
def OwnL (n : Nat) (s : List UInt8) (w : World) (e : Ending) (w' : World) : Prop :=
  ∃ a cap, e = .returned (.slice a n cap) ∧ w'.ownsRow w.heap.size 5 1 (.slice a n cap) n (vals s) ∧ Below w.heap.size w w'
/-- A list of one's own, a number of 32 bits, and an error's number. -/
def OutT (c : Int) (t : BitVec 32) (n : Nat) (s : List UInt8) (w : World) (e : Ending) (w' : World) : Prop :=
  ∃ a cap, e = .returned (.tuple #[.slice a n cap, .int .u32 (t.toNat : Int), .int .i64 c]) ∧ w'.ownsRow w.heap.size 5 1 (.slice a n cap) n (vals s) ∧ Below w.heap.size w w'

theorem own_down {w : World} {B B' : Nat} {e : TypeId} {size : Nat} {v : Value} {n : Nat} {xs : List Value} (h : w.ownsRow B e size v n xs) (hB : B' ≤ B) : w.ownsRow B' e size v n xs := by
  refine ⟨h.1, ?_⟩
  rcases h.2 with h2 | ⟨g, cap, cur, hv, hb, r⟩
  · exact .inl h2
  · exact .inr ⟨g, cap, cur, hv, Nat.le_trans hB hb, r⟩

theorem sput_any (n : Nat) (hn : n < 4294967296) (w : World) : Calls Try.prog 21 #[.int .u32 n] w (NewL 4 (leB 4 n) w) := by
  have h0 : (0 : Int) ≤ n := by omega
  have h1 : (n : Int) ≤ 4294967295 := by omega
  go_enter Try.func21, Try.ntmps21
  go_wp2_with fail
  refine (put_at n 4 4 rfl (by omega) (by omega) hn _).mono ?_
  rintro e w1 ⟨rfl, h2, b2, s2⟩
  have H2 := Lib.hid (bsl_of_holds (cap := 4) (leB_length 4 n) (Nat.le_refl _) (by unfold maxLen; omega) s2 h2)
  have HB := Lib.hid b2
  clear h2 b2
  go_wp2_with fail
  go_ret
  exact ⟨_, _, rfl, Nat.le_succ _, H2.out, HB.out⟩

theorem wrong_key (a : Option Addr) (len cap : Nat) (h : len ≠ 16) (u : Value) (w : World) : Calls Try.prog 12 #[.slice a len cap, u] w fun e w' => e = .returned (.int .i64 2) ∧ w = w' := by
  have h1 : ((len : Int) != 16) = true := by simp; omega
  go_enter Try.func12, Try.ntmps12
  go_wp2_with fail
  go_ret
  exact ⟨rfl, rfl⟩
theorem wrong_text (a : Option Addr) (cap : Nat) (b : Option Addr) (len capb : Nat) (h : 256 < len) (w : World) : Calls Try.prog 12 #[.slice a 16 cap, .slice b len capb] w fun e w' => e = .returned (.int .i64 3) ∧ w = w' := by
  have h0 : (256 : Int) < len := by omega
  go_enter Try.func12, Try.ntmps12
  go_wp2_with fail
  go_ret
  exact ⟨rfl, rfl⟩
theorem wrong_no (a : Option Addr) (cap : Nat) (b : Option Addr) (len capb : Nat) (h : len ≤ 256) (w : World) : Calls Try.prog 12 #[.slice a 16 cap, .slice b len capb] w fun e w' => e = .returned (.int .i64 0) ∧ w = w' := by
  have h0 : (len : Int) ≤ 256 := by omega
  go_enter Try.func12, Try.ntmps12
  go_wp2_with fail
  go_ret
  exact ⟨rfl, rfl⟩

theorem sturned_any (A : Option Addr) (cap : Nat) (k : List UInt8) (iv : Nat) (hiv : iv < 4294967296) (b : Option Addr) (len capb : Nat) (s : List UInt8) (hn : len ≤ 4096) (w : World) (hA : Bsl w w.heap.size A 16 cap k) (hS : Bsl w w.heap.size b len capb s) :
    Calls Try.prog 13 #[.slice A 16 cap, .int .u32 iv, .slice b len capb] w (OwnL len (turnW' k iv s) w) := by
  have HT := Lib.hid (Turn_ok A cap k iv hiv b len capb s hn w hA hS)
  clear hA hS
  go_enter Try.func13, Try.ntmps13
  go_wp2_with fail
  refine HT.out.mono ?_
  rintro e w1 ⟨a1, c1, rfl, h1, b1⟩
  have H1 := Lib.hid h1; clear h1
  have B1 := Lib.hid b1; clear b1
  go_wp2_with fail
  go_ret
  exact ⟨_, _, rfl, H1.out, B1.out⟩

set_option maxHeartbeats 1000000 in
theorem tagOf_any (A : Option Addr) (cap : Nat) (k : List UInt8) (iv : Nat) (hiv : iv < 4294967296) (b : Option Addr) (len capb : Nat) (s : List UInt8) (hn : len ≤ 10000) (w : World) (hA : Bsl w w.heap.size A 16 cap k) (hS : Bsl w w.heap.size b len capb s) :
    Calls Try.prog 14 #[.slice A 16 cap, .int .u32 iv, .slice b len capb] w fun e w' => e = .returned (.int .u32 ((sealW k iv s).toNat : Int)) ∧ Below w.heap.size w w' := by
  have HA := Lib.hid hA; clear hA
  have HS := Lib.hid hS; clear hS
  go_enter Try.func14, Try.ntmps14
  go_wp2_with fail
  refine (sput_any iv hiv w).mono ?_
  rintro e w1 ⟨g1, c1, rfl, _, h1, b1⟩
  have HC := Lib.hid (concat2 w1 _ _ _ _ _ _ _ _ h1 (HS.out.step b1) (by omega) (by omega))
  have HA1 := Lib.hid (HA.out.step b1)
  have HB1 := Lib.hid b1; clear h1 b1 HS HA
  go_wp2_with fail
  refine HC.out.mono ?_
  rintro e w2 ⟨g2, c2, rfl, _, h2, b2⟩
  have HT := Lib.hid (tag_any A cap k _ _ _ _ w2 (HA1.out.step b2) h2 (by omega))
  have HB2 := Lib.hid (HB1.out.trans (b2.mono HB1.out.size)); clear h2 b2 HA1 HB1
  obtain ⟨t, ht⟩ : ∃ t, tagW k (leB 4 iv ++ s) = t := ⟨_, rfl⟩
  rw [ht] at HT
  have HTE := Lib.hid (show sealW k iv s = t from ht); clear ht
  go_wp2_with fail
  refine HT.out.mono ?_
  rintro e w3 ⟨rfl, b3⟩
  have HB3 := Lib.hid (HB2.out.trans (b3.mono HB2.out.size)); clear b3
  go_wp2_with fail
  go_ret
  exact ⟨by rw [HTE.out]; rfl, HB3.out⟩

theorem Seal_key (a : Option Addr) (len cap : Nat) (h : len ≠ 16) (v u : Value) (w : World) : Calls Try.prog 7 #[.slice a len cap, v, u] w (OutT 2 0 0 [] w) := by
  go_enter Try.func7, Try.ntmps7
  go_wp2_with (go_at_call 12; refine (wrong_key _ _ _ h _ _).mono ?_; rintro e w' ⟨rfl, rfl⟩)
  go_ret3
  exact ⟨none, 0, rfl, own_nil _ _, Below.refl _ _⟩
theorem Seal_far (a : Option Addr) (cap : Nat) (v : Value) (b : Option Addr) (len capb : Nat) (h : 256 < len) (w : World) : Calls Try.prog 7 #[.slice a 16 cap, v, .slice b len capb] w (OutT 3 0 0 [] w) := by
  go_enter Try.func7, Try.ntmps7
  go_wp2_with (go_at_call 12; refine (wrong_text _ _ _ _ _ h _).mono ?_; rintro e w' ⟨rfl, rfl⟩)
  go_ret3
  exact ⟨none, 0, rfl, own_nil _ _, Below.refl _ _⟩
theorem Seal_ok (A : Option Addr) (cap : Nat) (k : List UInt8) (iv : Nat) (hiv : iv < 4294967296) (b : Option Addr) (len capb : Nat) (s : List UInt8) (hn : len ≤ 256) (w : World) (hA : Bsl w w.heap.size A 16 cap k) (hS : Bsl w w.heap.size b len capb s) :
    Calls Try.prog 7 #[.slice A 16 cap, .int .u32 iv, .slice b len capb] w (OutT 0 (sealW k iv (turnW' k iv s)) len (turnW' k iv s) w) := by
  have HT := Lib.hid (sturned_any A cap k iv hiv b len capb s (by omega) w hA hS)
  have HA := Lib.hid hA; clear hA hS
  obtain ⟨x, hx⟩ : ∃ x, turnW' k iv s = x := ⟨_, rfl⟩
  rw [hx] at HT ⊢
  clear hx
  obtain ⟨t, ht⟩ : ∃ t, sealW k iv x = t := ⟨_, rfl⟩
  rw [ht]
  have HTE := Lib.hid ht; clear ht
  go_enter Try.func7, Try.ntmps7
  go_wp2_with (go_at_call 12; refine (wrong_no _ _ _ _ _ hn _).mono ?_; rintro e w' ⟨rfl, rfl⟩)
  refine HT.out.mono ?_
  rintro e w1 ⟨a1, c1, rfl, h1, b1⟩
  have HG := Lib.hid (tagOf_any A cap k iv hiv a1 len c1 x (by omega) w1 (HA.out.step b1) (own_bsl h1))
  have H1 := Lib.hid h1; clear h1
  have B1 := Lib.hid b1; clear b1
  rw [HTE.out] at HG
  go_wp2_with fail
  refine HG.out.mono ?_
  rintro e w2 ⟨rfl, b2⟩
  have H2 := Lib.hid (own_below H1.out b2)
  have B2 := Lib.hid (B1.out.trans (b2.mono B1.out.size)); clear b2
  go_wp2_with fail
  go_ret3
  exact ⟨_, _, rfl, H2.out, B2.out⟩

theorem Open_key (a : Option Addr) (len cap : Nat) (h : len ≠ 16) (v u x : Value) (w : World) : Calls Try.prog 8 #[.slice a len cap, v, u, x] w (Out 2 0 [] w) := by
  go_enter Try.func8, Try.ntmps8
  go_wp2_with (go_at_call 12; refine (wrong_key _ _ _ h _ _).mono ?_; rintro e w' ⟨rfl, rfl⟩)
  go_ret2
  exact out_err 2 _
theorem Open_far (a : Option Addr) (cap : Nat) (v x : Value) (b : Option Addr) (len capb : Nat) (h : 256 < len) (w : World) : Calls Try.prog 8 #[.slice a 16 cap, v, .slice b len capb, x] w (Out 3 0 [] w) := by
  go_enter Try.func8, Try.ntmps8
  go_wp2_with (go_at_call 12; refine (wrong_text _ _ _ _ _ h _).mono ?_; rintro e w' ⟨rfl, rfl⟩)
  go_ret2
  exact out_err 3 _
theorem Open_tag (A : Option Addr) (cap : Nat) (k : List UInt8) (iv : Nat) (hiv : iv < 4294967296) (b : Option Addr) (len capb : Nat) (s : List UInt8) (hn : len ≤ 256) (t : BitVec 32) (ht : sealW k iv s ≠ t) (w : World) (hA : Bsl w w.heap.size A 16 cap k) (hS : Bsl w w.heap.size b len capb s) :
    Calls Try.prog 8 #[.slice A 16 cap, .int .u32 iv, .slice b len capb, .int .u32 (t.toNat : Int)] w fun e w' => e = .returned (.tuple #[.slice none 0 0, .int .i64 131]) ∧ Below w.heap.size w w' := by
  have HT := Lib.hid (tagOf_any A cap k iv hiv b len capb s (by omega) w hA hS)
  clear hA hS
  have hne : ((t.toNat : Int) != ((sealW k iv s).toNat : Int)) = true := by
    have : (sealW k iv s).toNat ≠ t.toNat := fun h => ht (BitVec.eq_of_toNat_eq h)
    simp only [bne_iff_ne, ne_eq]; omega
  go_enter Try.func8, Try.ntmps8
  go_wp2_with (go_at_call 12; refine (wrong_no _ _ _ _ _ hn _).mono ?_; rintro e w' ⟨rfl, rfl⟩)
  refine HT.out.mono ?_
  rintro e w1 ⟨rfl, b1⟩
  have B1 := Lib.hid b1; clear b1
  go_wp2_with fail
  go_ret2
  exact ⟨rfl, B1.out⟩
theorem Open_ok (A : Option Addr) (cap : Nat) (k : List UInt8) (iv : Nat) (hiv : iv < 4294967296) (b : Option Addr) (len capb : Nat) (s : List UInt8) (hn : len ≤ 256) (w : World) (hA : Bsl w w.heap.size A 16 cap k) (hS : Bsl w w.heap.size b len capb s) :
    Calls Try.prog 8 #[.slice A 16 cap, .int .u32 iv, .slice b len capb, .int .u32 ((sealW k iv s).toNat : Int)] w (Out 0 len (turnW' k iv s) w) := by
  have HT := Lib.hid (tagOf_any A cap k iv hiv b len capb s (by omega) w hA hS)
  have HA := Lib.hid hA; clear hA
  have HS := Lib.hid hS; clear hS
  obtain ⟨t, ht⟩ : ∃ t, sealW k iv s = t := ⟨_, rfl⟩
  rw [ht] at HT ⊢
  clear ht
  have hne : ((t.toNat : Int) != (t.toNat : Int)) = false := by simp
  go_enter Try.func8, Try.ntmps8
  go_wp2_with (go_at_call 12; refine (wrong_no _ _ _ _ _ hn _).mono ?_; rintro e w' ⟨rfl, rfl⟩)
  refine HT.out.mono ?_
  rintro e w1 ⟨rfl, b1⟩
  have HU := Lib.hid (sturned_any A cap k iv hiv b len capb s (by omega) w1 (HA.out.step b1) (HS.out.step b1))
  have B1 := Lib.hid b1; clear b1
  go_wp2_with fail
  refine HU.out.mono ?_
  rintro e w2 ⟨a2, c2, rfl, h2, b2⟩
  have H2 := Lib.hid (own_down h2 B1.out.size)
  have B2 := Lib.hid (B1.out.trans (b2.mono B1.out.size)); clear b2 h2
  go_wp2_with fail
  go_ret2
  exact ⟨_, _, rfl, H2.out, B2.out⟩
end Go.Proofs.Ytomobnecdkachaa
