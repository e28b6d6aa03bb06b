/-
  mix.Four, mix.Sum and mix.Key, whatever bytes they are handed, answer the four words of these bytes, the first of them, and all of them as bytes; nothing that was there is written.
-/
import Derived.Test.YtoednighmdoooaaFour
namespace Go.Proofs.Ytoednighmdoooaa
open Go.RowKit Go.Shelf
set_option maxRecDepth 100000

theorem four_any (a : Option Addr) (len cap : Nat) (s : List UInt8) (w : World) (hA : Bsl w w.heap.size a len cap s) (hlen : len ≤ 4294967295) :
    Calls Try.prog 58 #[.slice a len cap] w fun e W' => e = .returned (ag (fourW s)) ∧ Below w.heap.size w W' :=
  callsIn_wide.1 (four_in 3 (Nat.le_refl _) a len cap s w hA hlen)

theorem sum_any (a : Option Addr) (len cap : Nat) (s : List UInt8) (w : World) (hA : Bsl w w.heap.size a len cap s) (hlen : len ≤ 4294967295) :
    Calls Try.prog 57 #[.slice a len cap] w fun e W' => e = .returned (.int .u32 ((fourW s).a.toNat : Int)) ∧ Below w.heap.size w W' := by
  have hf := four_any a len cap s w hA hlen
  have HF := Lib.hid hf; clear hf hA
  obtain ⟨x, hx⟩ : ∃ x, fourW s = x := ⟨_, rfl⟩
  rw [hx] at HF ⊢
  clear hx
  have hi : ∀ W : World, (Instr.index 78 (ag x) (.int .i64 0)).run Try.prog W = .ok (.int .u32 (x.a.toNat : Int)) W := fun W => by kernel_rfl
  go_enter Try.func57, Try.ntmps57
  go_wp2_with fail
  refine HF.out.mono ?_
  rintro e W1 ⟨rfl, b1⟩
  have HB := Lib.hid b1; clear b1
  go_wp2_with fail
  go_ret
  exact ⟨rfl, HB.out⟩

/-- The word of number k. -/
def nthW (x : W4) (k : Nat) : BitVec 32 := if k = 0 then x.a else if k = 1 then x.b else if k = 2 then x.c else x.d
theorem indexW (x : W4) (k : Nat) (hk : k < 4) (W : World) : (Instr.index 78 (ag x) (.int .i64 (k : Int))).run Try.prog W = .ok (.int .u32 ((nthW x k).toNat : Int)) W := by
  have : k = 0 ∨ k = 1 ∨ k = 2 ∨ k = 3 := by omega
  rcases this with rfl | rfl | rfl | rfl
  · exact (show (Instr.index 78 (ag x) (.int .i64 0)).run Try.prog W = .ok (.int .u32 (x.a.toNat : Int)) W by kernel_rfl)
  · exact (show (Instr.index 78 (ag x) (.int .i64 1)).run Try.prog W = .ok (.int .u32 (x.b.toNat : Int)) W by kernel_rfl)
  · exact (show (Instr.index 78 (ag x) (.int .i64 2)).run Try.prog W = .ok (.int .u32 (x.c.toNat : Int)) W by kernel_rfl)
  · exact (show (Instr.index 78 (ag x) (.int .i64 3)).run Try.prog W = .ok (.int .u32 (x.d.toNat : Int)) W by kernel_rfl)
/-- The bytes of the first k words. -/
def bytesW (x : W4) : Nat → List UInt8
  | 0 => []
  | k + 1 => bytesW x k ++ leB 4 (nthW x k).toNat
theorem bytesW_length (x : W4) : ∀ k, (bytesW x k).length = 4 * k
  | 0 => rfl
  | k + 1 => by rw [bytesW, List.length_append, bytesW_length x k, leB_length]; omega

theorem own_below {base : Nat} {e : TypeId} {size : Nat} {v : Value} {n : Nat} {xs : List Value} {w w' : World} (h : w.ownsRow base e size v n xs) (hb : Below w.heap.size w w') : w'.ownsRow base e size v n xs :=
  h.kept (row := none) ⟨hb.os, hb.tape, hb.output, hb.size, fun i hi _ => hb.block i hi⟩ (by cases hv : v.ownBlock <;> simp)

/-- What Key leaves: sixteen bytes in new memory. -/
def KeyPost (x : W4) (w : World) (e : Ending) (W' : World) : Prop :=
  ∃ g cap, e = .returned (.slice (some ⟨g, 0, none⟩) 16 cap) ∧ w.heap.size ≤ g ∧ g < W'.heap.size ∧ 16 ≤ cap ∧ cap ≤ maxLen ∧ Holds W' g (bytesW x 4) ∧ Below w.heap.size w W'

set_option maxHeartbeats 2000000 in
theorem key_any (a : Option Addr) (len cap : Nat) (s : List UInt8) (w : World) (hA : Bsl w w.heap.size a len cap s) (hlen : len ≤ 4294967295) :
    Calls Try.prog 50 #[.slice a len cap] w (KeyPost (fourW s) w) := by
  obtain ⟨x, hx⟩ : ∃ x, fourW s = x := ⟨_, rfl⟩
  have hmk : ∀ W : World, (Instr.makeSlice 22 (.int .i64 0) (.int .i64 16)).run Try.prog W = .ok (.slice (some ⟨W.heap.size, 0, none⟩) 0 16) (W.alloc (.cells (Array.replicate 16 (.int .u8 0)) 5)) := fun W => by kernel_rfl
  have hb0 : Below w.heap.size w (w.alloc (.cells (Array.replicate 16 (.int .u8 0)) 5)) := (Below.refl _ w).alloc (Nat.le_refl _) _
  have hf := four_any a len cap s (w.alloc (.cells (Array.replicate 16 (.int .u8 0)) 5)) ((hA.below hb0).more hb0.size) hlen
  rw [hx] at hf ⊢
  clear hx
  have hown : (w.alloc (.cells (Array.replicate 16 (.int .u8 0)) 5)).ownsRow w.heap.size 5 1 (.slice (some ⟨w.heap.size, 0, none⟩) 0 16) 0 (vals []) :=
    ⟨rfl, .inr ⟨w.heap.size, 16, _, rfl, Nat.le_refl _, heap_alloc_new w _, Nat.zero_le _, by unfold maxLen; omega, rfl, rfl⟩⟩
  have HF := Lib.hid hf; clear hf
  have HB0 := Lib.hid hb0; clear hb0
  have HA := Lib.hid hA; clear hA
  have HO := Lib.hid hown; clear hown
  go_enter Try.func50, Try.ntmps50
  go_wp2_with fail
  refine HF.out.mono ?_
  rintro e W1 ⟨rfl, b1⟩
  have hb1 : Below w.heap.size w W1 := HB0.out.trans (b1.mono HB0.out.size)
  have ho1 := own_below HO.out b1
  have HB1 := Lib.hid hb1; clear hb1 b1
  have HO1 := Lib.hid ho1; clear ho1
  go_wp2_with fail
  go_loopw [3, 11] (fun v i wr => ∃ k : Nat, k ≤ 4 ∧ i = .int .i64 k ∧ wr.ownsRow w.heap.size 5 1 v (4 * k) (vals (bytesW x k)) ∧ Below w.heap.size w wr) (fun _ i _ => 4 - (intOf i).toNat)
  case atStart => exact ⟨0, by omega, rfl, HO1.out, HB1.out⟩
  case round =>
    obtain ⟨k, hk, rfl, ho, hb⟩ := hrel
    have HOr := Lib.hid ho; clear ho
    have HBr := Lib.hid hb; clear hb
    by_cases hlt : k < 4
    · have hi : ∀ W : World, (Instr.index 78 (ag x) (.int .i64 (k : Int))).run Try.prog W = .ok (.int .u32 ((nthW x k).toNat : Int)) W := indexW x k hlt
      obtain ⟨n, hn⟩ : ∃ n : Nat, (nthW x k).toNat = n := ⟨_, rfl⟩
      have hnl : n < 4294967296 := by rw [← hn]; exact (nthW x k).isLt
      rw [hn] at hi
      have HN := Lib.hid hn; clear hn
      have n0 : (0 : Int) ≤ n := by omega
      have n1 : (n : Int) ≤ 4294967295 := by omega
      have k0 : (k : Int) < 4 := by omega
      go_wp2_with fail
      refine (put_at n 4 4 rfl (by omega) (by omega) hnl _).mono ?_
      rintro e W2 ⟨rfl, h2, b2, s2⟩
      have ho2 := own_below HOr.out b2
      have hb2 := HBr.out.trans (b2.mono HBr.out.size)
      have hsl : Bsl W2 W2.heap.size (some ⟨wr.heap.size + 1, 0, none⟩) 4 4 (leB 4 n) := ⟨leB_length _ _, Nat.le_refl _, by unfold maxLen; omega, fun e => (by cases e), fun _ => ⟨_, _, rfl, s2, fun i hi => by rw [Nat.zero_add]; exact h2 i hi⟩⟩
      have HO2 := Lib.hid ho2; clear ho2
      have HB2 := Lib.hid hb2; clear hb2 b2 h2
      have HSL := Lib.hid hsl; clear hsl
      go_wp2_with (at_builtin; refine wpList_append_bsl rfl (.tmp 20) (.tmp 21) rfl w.heap.size u3 (4 * k) _ rfl HO2.out W2.heap.size (some ⟨wr.heap.size + 1, 0, none⟩) 4 4 (leB 4 n) rfl HSL.out (by omega) HB2.out.size ?_; intro v' W3 hown' hg')
      have hb3 : Below w.heap.size w W3 := HB2.out.grown hg' HB2.out.size (fun k e => (HO2.out.lt k e).1)
      have HO3 := Lib.hid hown'; clear hown'
      have HB3 := Lib.hid hb3; clear hb3 hg'
      go_wp2_with fail
      go_roundw
      case rel => exact ⟨k + 1, by omega, by go_num, by rw [bytesW, HN.out]; exact HO3.out, HB3.out⟩
      case measure => simp [intOf]; omega
    · obtain rfl : k = 4 := by omega
      obtain ⟨g, cap', rfl, hgb, hgl, hgc, hgm, hgs, hgh⟩ := bsl_of_own HOr.out (by omega)
      have HH := Lib.hid hgh; clear hgh
      have HS := Lib.hid hgs; clear hgs
      go_wp2_with fail
      go_ret
      exact ⟨g, cap', rfl, hgb, hgl, hgc, hgm, HH.out, HBr.out⟩
end Go.Proofs.Ytoednighmdoooaa
