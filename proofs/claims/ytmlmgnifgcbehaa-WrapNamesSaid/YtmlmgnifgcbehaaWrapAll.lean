/-
  wrap's calls, whatever they are handed (lists and passphrases of at most 10,000 bytes), in one word each; alive: the chapter's first example holds.
-/
import Derived.Test.YtmlmgnifgcbehaaUnwrap
import Derived.Lib.SlBytesConst
namespace Go.Proofs.Ytmlmgnifgcbehaa
open Go.RowKit Go.Shelf
set_option maxRecDepth 100000

/-- A list and an error's number: nothing and the error, or what was asked for. -/
def Ans (ok : Prop) (c : Int) (n : Nat) (s : List UInt8) (w : World) (e : Ending) (w' : World) : Prop :=
  (¬ ok ∧ c ≠ 0 ∧ Err c w e w') ∨ (ok ∧ c = 0 ∧ NewT n s w e w')
/-- The number of Wrap's error; of Unwrap's; of Stretch's. -/
def wrapC (p len : Nat) : Int := if 64 < p then 3 else if len = 16 then 0 else 2
def unwrapC (p : ByteArray) (len : Nat) (s : List UInt8) : Int := if 64 < p.size then 3 else if len = 24 then (if s.drop 20 = tagL (stOf (strB p) s) (s.take 20) then 0 else 201) else 8
def stretchC (p : Nat) : Int := if 64 < p then 3 else 0

theorem stretch_all (p : ByteArray) (hp : p.size ≤ 10000) (n : Nat) (hn : n < 4294967296) (w : World) :
    Calls Try.prog 11 #[.string p, .int .u32 n] w (Ans (p.size ≤ 64) (stretchC p.size) 16 (stretchN (strB p) (leB 4 n) 32) w) := by
  unfold stretchC
  by_cases h : 64 < p.size
  · rw [if_pos h]
    exact (wStretch_bad p (by omega) (by omega) _ w).mono fun e w' h' => .inl ⟨by omega, by omega, h'⟩
  · rw [if_neg h]
    exact (wStretch_ok p (by omega) n hn w).mono fun e w' h' => .inr ⟨by omega, rfl, h'⟩
theorem wrap_all (p : ByteArray) (hp : p.size ≤ 10000) (a : Option Addr) (len cap : Nat) (k : List UInt8) (n : Nat) (hn : n < 4294967296) (w : World) (hA : Bsl w w.heap.size a len cap k) :
    Calls Try.prog 8 #[.string p, .slice a len cap, .int .u32 n] w (Ans (p.size ≤ 64 ∧ len = 16) (wrapC p.size len) 24 (wrapL (strB p) k (leB 4 n)) w) := by
  unfold wrapC
  by_cases h : 64 < p.size
  · rw [if_pos h]
    exact (wWrap_pass p (by omega) (by omega) _ _ w).mono fun e w' h' => .inl ⟨by omega, by omega, h'⟩
  · rw [if_neg h]
    by_cases h2 : len = 16
    · rw [if_pos h2]
      subst h2
      exact (wWrap_ok p (by omega) a cap k n hn w hA).mono fun e w' h' => .inr ⟨⟨by omega, rfl⟩, rfl, h'⟩
    · rw [if_neg h2]
      exact (wWrap_key p (by omega) a len cap h2 _ w).mono fun e w' h' => .inl ⟨by omega, by omega, h'⟩
theorem unwrap_all (p : ByteArray) (hp : p.size ≤ 10000) (a : Option Addr) (len cap : Nat) (s : List UInt8) (w : World) (hA : Bsl w w.heap.size a len cap s) :
    Calls Try.prog 9 #[.string p, .slice a len cap] w (Ans (p.size ≤ 64 ∧ len = 24 ∧ Right (strB p) s) (unwrapC p len s) 16 (keyOf (strB p) s) w) := by
  unfold unwrapC
  by_cases h : 64 < p.size
  · rw [if_pos h]
    exact (wUnwrap_pass p (by omega) (by omega) _ w).mono fun e w' h' => .inl ⟨by omega, by omega, h'⟩
  · rw [if_neg h]
    by_cases h2 : len = 24
    · rw [if_pos h2]
      subst h2
      by_cases h3 : s.drop 20 = tagL (stOf (strB p) s) (s.take 20)
      · rw [if_pos h3]
        exact (wUnwrap_ok p (by omega) a cap s h3 w hA).mono fun e w' h' => .inr ⟨⟨by omega, rfl, h3⟩, rfl, h'⟩
      · rw [if_neg h3]
        exact (wUnwrap_no p (by omega) a cap s h3 w hA).mono fun e w' h' => .inl ⟨fun h => h3 h.2.2, by omega, h'⟩
    · rw [if_neg h2]
      exact (wUnwrap_len p (by omega) a len cap h2 w).mono fun e w' h' => .inl ⟨by omega, by omega, h'⟩

theorem bsl_noughts (n : Nat) (hn : n ≤ 1000) (w : World) : Bsl (w.alloc (.cells (Array.replicate n (.int .u8 0)) 5)) (w.alloc (.cells (Array.replicate n (.int .u8 0)) 5)).heap.size (some ⟨w.heap.size, 0, none⟩) n n (List.replicate n 0) := by
  refine bsl_of_holds (by simp) (Nat.le_refl _) (by unfold maxLen; omega) (Blk.new w 5 _).lt fun i hi => ?_
  have hi' : i < n := by simpa using hi
  rw [(Blk.new w 5 (Array.replicate n (.int .u8 0))).cell i]
  simp [hi']
/-- The passphrase and the key of the first example. -/
def pP : ByteArray := ⟨#[112]⟩
def k16 : List UInt8 := [115, 105, 120, 116, 101, 101, 110, 32, 98, 121, 116, 101, 115, 32, 111, 107]
set_option maxHeartbeats 1000000 in
theorem alive_wrap (w : World) : Calls Try.prog 10 #[] w fun e W' => e = .returned (.bool true) ∧ Below w.heap.size w W' := by
  obtain ⟨w1, hw1⟩ : ∃ w1, w.alloc (.cells (ar k16) 5 (16, 17)) = w1 := ⟨_, rfl⟩
  have b1 : Below w.heap.size w w1 := by rw [← hw1]; exact (Below.refl _ w).alloc (Nat.le_refl _) _
  have x1 : w1.heap[w.heap.size]? = some (.cells (ar k16) 5 (16, 17)) := by rw [← hw1]; exact heap_alloc_new w _
  have x2 : Bsl w1 w1.heap.size (some ⟨w.heap.size, 0, none⟩) 16 16 k16 := bsl_of_holds rfl (Nat.le_refl _) (by unfold maxLen; omega) (Array.getElem?_eq_some_iff.1 x1).1 fun i hi => by rw [cell_of_row _ _ _ _ _ _ x1, ar_get k16 i hi]
  have cw := wWrap_ok pP (by decide) (some ⟨w.heap.size, 0, none⟩) 16 k16 7 (by omega) w1 x2
  have HCW := Lib.hid cw; clear cw
  have HB1 := Lib.hid b1; clear b1 x1 x2
  have kc : (convert 22 22 (.slice (some ⟨w.heap.size, 0, none⟩) 16 16)).run Try.prog (w.alloc (.cells #[.int .u8 115, .int .u8 105, .int .u8 120, .int .u8 116, .int .u8 101, .int .u8 101, .int .u8 110, .int .u8 32, .int .u8 98, .int .u8 121, .int .u8 116, .int .u8 101, .int .u8 115, .int .u8 32, .int .u8 111, .int .u8 107] 5)) = .ok (.slice (some ⟨w.heap.size, 0, none⟩) 16 16) w1 := by
    rw [← hw1]
    exact Lib.run_convert_bytes_const (P := Try.prog) w 22 5 (ar k16) 16 16 Try.underlying22 Try.underlying5
  clear hw1
  have q1 : ((strOf k16).toList == [115, 105, 120, 116, 101, 101, 110, 32, 98, 121, 116, 101, 115, 32, 111, 107]) = true := by rw [strOf_toList]; rfl
  have q2 : ((strOf (leB 4 7)).toList == [7, 0, 0, 0]) = true := by rw [strOf_toList]; decide
  go_enter Try.func10, Try.ntmps10
  go_wp2_with fail
  refine HCW.out.mono ?_
  rintro e w2 ⟨g2, c2, rfl, _, h2, b2⟩
  have HB2 := Lib.hid (HB1.out.trans (b2.mono HB1.out.size)); clear b2
  have hle := h2.2.1
  have s4 : ∀ W : World, (Instr.slice 22 (.slice (some ⟨g2, 0, none⟩) 24 c2) none (some (.int .i64 4)) none).run Try.prog W = .ok (.slice (some ⟨g2, 0, none⟩) 4 c2) W := fun W => slice_to W _ 24 c2 4 (by omega)
  have cu := wUnwrap_ok pP (by decide) _ _ _ (wrapL_right _ _ _ rfl (leB_length _ _)) w2 h2
  rw [keyOf_wrapL _ _ _ rfl (leB_length _ _)] at cu
  have HCU := Lib.hid cu; clear cu
  have h24 := h2.pre 4 (by omega)
  rw [wrapL_take4 _ _ _ (leB_length _ _)] at h24
  have H24 := Lib.hid h24; clear h24 h2 hle
  go_wp2_with fail
  refine HCU.out.mono ?_
  rintro e w3 ⟨g3, c3, rfl, _, h3, b3⟩
  have c1 := (H24.out.step b3).conv
  have c2 := h3.conv
  have HB3 := Lib.hid (HB2.out.trans (b3.mono HB2.out.size)); clear b3 h3
  go_wp2_with fail
  go_ret
  exact ⟨rfl, HB3.out⟩
end Go.Proofs.Ytmlmgnifgcbehaa
