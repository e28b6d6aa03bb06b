/-
  cipher.Stream and cipher.Turn, whatever they are handed, answer the stream, or the bytes turned by it, or the error that is due; the answer is new memory; nothing that was there is written.
-/
import Derived.Test.YtomobnecdkachaaStream
import Derived.Test.YtomobnecdkachaaRowI
namespace Go.Proofs.Ytomobnecdkachaa
open Go.RowKit Go.Shelf
set_option maxRecDepth 100000

/-- A list in new memory, and an error's number. -/
def Out (c : Int) (n : Nat) (s : List UInt8) (w : World) (e : Ending) (w' : World) : Prop :=
  ∃ a cap, e = .returned (.tuple #[.slice a n cap, .int .i64 c]) ∧ w'.ownsRow w.heap.size 5 1 (.slice a n cap) n (vals s) ∧ Below w.heap.size w w'
theorem out_err (c : Int) (w : World) : Out c 0 [] w (.returned (.tuple #[.slice none 0 0, .int .i64 c])) w := ⟨none, 0, rfl, own_nil _ _, Below.refl _ _⟩
theorem own_bsl {w : World} {B n cap : Nat} {a : Option Addr} {s : List UInt8} (h : w.ownsRow B 5 1 (.slice a n cap) n (vals s)) : Bsl w w.heap.size a n cap s := by
  have hl : s.length = n := by have := h.1; simpa [vals] using this
  obtain ⟨h1, ⟨h2, h3⟩ | ⟨g, cap', cur, h2, hb, hh, hnc, hcm, hsz, ht⟩⟩ := h
  · cases h2
    exact ⟨hl, Nat.le_refl _, Nat.zero_le _, fun _ => rfl, fun h => absurd h (by omega)⟩
  · cases h2
    refine ⟨hl, hnc, hcm, fun e => (by cases e), fun _ => ⟨g, 0, rfl, (Array.getElem?_eq_some_iff.1 hh).1, fun i hi => ?_⟩⟩
    rw [Nat.zero_add, cell_of_row w g i cur 5 (0, 0) hh]
    have : (vals s)[i]? = some (.int .u8 ((s[i]).toNat : Int)) := by simp [vals, hi]
    rw [← ht, List.getElem?_take_of_lt (by omega)] at this
    rw [← this, Array.getElem?_toList]
theorem rowI_of {w : World} {B g n cap : Nat} {s : List UInt8} (h : w.ownsRow B 5 1 (.slice (some ⟨g, 0, none⟩) n cap) n (vals s)) : RowI w g n cap s ∧ B ≤ g ∧ cap ≤ maxLen := by
  have hl : s.length = n := by have := h.1; simpa [vals] using this
  obtain ⟨h1, ⟨h2, h3⟩ | ⟨g, cap', cur, h2, hb, hh, hnc, hcm, hsz, ht⟩⟩ := h
  · cases h2
  · cases h2
    exact ⟨⟨cur, hh, by omega, hl, hnc, by simpa using ht⟩, hb, hcm⟩
theorem rowI_own {w : World} {B g n cap : Nat} {s : List UInt8} (h : RowI w g n cap s) (hB : B ≤ g) (hc : cap ≤ maxLen) : w.ownsRow B 5 1 (.slice (some ⟨g, 0, none⟩) n cap) n (vals s) := by
  obtain ⟨cur, h1, h2, h3, h4, h5⟩ := h
  exact ⟨by simp [vals, h3], .inr ⟨g, cap, cur, rfl, hB, h1, h4, hc, by omega, by simpa using h5⟩⟩

theorem isKey_yes (a : Option Addr) (cap : Nat) (w : World) : Calls Try.prog 25 #[.slice a 16 cap] w fun e w' => e = .returned (.bool true) ∧ w = w' := by
  go_enter Try.func25, Try.ntmps25
  go_wp2_with fail
  go_ret
  exact ⟨rfl, rfl⟩
theorem isKey_no (a : Option Addr) (len cap : Nat) (h : len ≠ 16) (w : World) : Calls Try.prog 25 #[.slice a len cap] w fun e w' => e = .returned (.bool false) ∧ w = w' := by
  have h1 : ((len : Int) == 16) = false := by simp; omega
  go_enter Try.func25, Try.ntmps25
  go_wp2_with fail
  go_ret
  exact ⟨rfl, rfl⟩

theorem stream_any (A : Option Addr) (cap : Nat) (k : List UInt8) (iv n : Nat) (hiv : iv < 4294967296) (hn : n ≤ 4096) (w : World) (hA : Bsl w w.heap.size A 16 cap k) :
    Calls Try.prog 26 #[.slice A 16 cap, .int .u32 iv, .int .i64 n] w fun e W' =>
      e = .returned (.slice (some ⟨w.heap.size + 1, 0, none⟩) n n) ∧ W'.ownsRow w.heap.size 5 1 (.slice (some ⟨w.heap.size + 1, 0, none⟩) n n) n (vals (stW k iv n)) ∧ Below w.heap.size w W' :=
  callsIn_wide.1 (stream_in 3 (Nat.le_refl _) A cap k iv n hiv hn w hA)


/-- Bytes turned by a stream. -/
def turnW' (k : List UInt8) (iv : Nat) (b : List UInt8) : List UInt8 := List.zipWith (· ^^^ ·) (stW k iv b.length) b
theorem turnW'_length (k : List UInt8) (iv : Nat) (b : List UInt8) : (turnW' k iv b).length = b.length := by simp [turnW', stW_length]
theorem turnW'_get (k : List UInt8) (iv : Nat) (b : List UInt8) (i : Nat) (h : i < b.length) : (turnW' k iv b)[i]'(by rw [turnW'_length]; exact h) = (stW k iv b.length)[i]'(by rw [stW_length]; exact h) ^^^ b[i] := by simp [turnW']
theorem xorTo_turn (k : List UInt8) (iv : Nat) (b : List UInt8) : xorTo (stW k iv b.length) b b.length = turnW' k iv b := by
  apply List.ext_getElem
  · rw [xorTo_length, stW_length, turnW'_length]
  · intro i h1 h2
    rw [turnW'_length] at h2
    have hs : i < (stW k iv b.length).length := by rw [stW_length]; exact h2
    have h := xorTo_get (stW k iv b.length) b b.length i hs
    rw [if_pos h2] at h
    have e1 : (xorTo (stW k iv b.length) b b.length).getD i 0 = (xorTo (stW k iv b.length) b b.length)[i]'h1 := by rw [List.getD_eq_getElem?_getD, List.getElem?_eq_getElem h1]; rfl
    rw [← e1, h, turnW'_get k iv b i h2, List.getD_eq_getElem?_getD, List.getD_eq_getElem?_getD, List.getElem?_eq_getElem hs, List.getElem?_eq_getElem h2]
    rfl

theorem Turn_key (a : Option Addr) (len cap : Nat) (h : len ≠ 16) (v u : Value) (w : World) : Calls Try.prog 18 #[.slice a len cap, v, u] w (Out 2 0 [] w) := by
  go_enter Try.func18, Try.ntmps18
  go_wp2_with (go_at_call 25; refine (isKey_no _ _ _ h _).mono ?_; rintro e w' ⟨rfl, rfl⟩)
  go_ret2
  exact out_err 2 _
theorem Turn_far (a : Option Addr) (cap : Nat) (v : Value) (b : Option Addr) (len capb : Nat) (h : 4096 < len) (w : World) : Calls Try.prog 18 #[.slice a 16 cap, v, .slice b len capb] w (Out 3 0 [] w) := by
  have h0 : (4096 : Int) < len := by omega
  go_enter Try.func18, Try.ntmps18
  go_wp2_with (go_at_call 25; refine (isKey_yes _ _ _).mono ?_; rintro e w' ⟨rfl, rfl⟩)
  go_ret2
  exact out_err 3 _

set_option maxHeartbeats 2000000 in
theorem Turn_ok (A : Option Addr) (cap : Nat) (k : List UInt8) (iv : Nat) (hiv : iv < 4294967296) (b : Option Addr) (len capb : Nat) (s : List UInt8) (hn : len ≤ 4096) (w : World) (hA : Bsl w w.heap.size A 16 cap k) (hS : Bsl w w.heap.size b len capb s) :
    Calls Try.prog 18 #[.slice A 16 cap, .int .u32 iv, .slice b len capb] w (Out 0 len (turnW' k iv s) w) := by
  have h0 : (0 : Int) ≤ len := by omega
  have h1 : (len : Int) ≤ 4096 := by omega
  have hl := hS.1
  have hx := xorTo_turn k iv s
  rw [hl] at hx
  have HS := Lib.hid (stream_any A cap k iv len hiv hn w hA)
  clear hA
  obtain ⟨st, hst⟩ : ∃ st, stW k iv len = st := ⟨_, rfl⟩
  have hsl : st.length = len := by rw [← hst]; exact stW_length _ _ _
  rw [hst] at HS hx
  have HX := Lib.hid hx; clear hx hst
  have HSL := Lib.hid hsl; clear hsl
  have HBS := Lib.hid hS; clear hS
  have HL := Lib.hid hl; clear hl
  obtain ⟨g, hg⟩ : ∃ g, w.heap.size = g := ⟨_, rfl⟩
  rw [hg] at HS
  have HG := Lib.hid hg; clear hg
  go_enter Try.func18, Try.ntmps18
  go_wp2_with (go_at_call 25; refine (isKey_yes _ _ _).mono ?_; rintro e w' ⟨rfl, rfl⟩)
  refine HS.out.mono ?_
  rintro e w1 ⟨rfl, ho, hb⟩
  obtain ⟨hr, hgg, hcm⟩ := rowI_of ho
  have HR := Lib.hid hr; clear hr ho
  have HB := Lib.hid hb; clear hb
  have HCM := Lib.hid hcm; clear hcm
  go_wp2_with fail
  go_loopw [24] (fun i wr => ∃ j : Nat, j ≤ len ∧ i = .int .i64 j ∧ Hid (RowI wr (g + 1) len len (xorTo st s j)) ∧ Hid (Below g w wr)) (fun i _ => len - (intOf i).toNat)
  case atStart => exact ⟨0, Nat.zero_le _, rfl, HR, HB⟩
  case round =>
    obtain ⟨j, hj, rfl, HRr, HBr⟩ := hrel
    by_cases hlt : j < len
    · have j0 : (0 : Int) ≤ j := by omega
      have j1 : (j : Int) < len := by omega
      obtain ⟨bb, bo, rfl, _, _⟩ := HBS.out.2.2.2.2 (by omega)
      have cm := (HBS.out.below (HG.out ▸ HBr.out)).cellD j hlt
      have hsl : j < st.length := by rw [HSL.out]; exact hlt
      have hxl : j < (xorTo st s j).length := by rw [xorTo_length]; exact hsl
      have ck := HRr.out.holds j hxl
      have hxg := xorTo_get st s j j hsl
      rw [if_neg (Nat.lt_irrefl j)] at hxg
      have e1 : (xorTo st s j)[j] = st.getD j 0 := by rw [← hxg, List.getD_eq_getElem?_getD, List.getElem?_eq_getElem hxl]; rfl
      rw [e1] at ck
      have fk : wr.frozen? ⟨g + 1, j, none⟩ = false := by obtain ⟨cur, hc, _⟩ := HRr.out; exact hc.frozen j
      have xr := xor8 (st.getD j 0) (s.getD j 0)
      have nx := HRr.out.set_ hlt (st.getD j 0 ^^^ s.getD j 0)
      have HNX := Lib.hid (show RowI _ (g + 1) len len (xorTo st s (j + 1)) from nx); clear nx
      have HBX := Lib.hid (HBr.out.setCell (p := ⟨g + 1, j, none⟩) (by simp) (.int .u8 ((st.getD j 0 ^^^ s.getD j 0).toNat : Int)))
      obtain ⟨x, hx⟩ : ∃ x, st.getD j 0 = x := ⟨_, rfl⟩
      obtain ⟨y, hy⟩ : ∃ y, s.getD j 0 = y := ⟨_, rfl⟩
      rw [hx] at ck xr HNX HBX
      rw [hy] at cm xr HNX HBX
      clear hx hy hxg e1 hxl hsl HRr HBr HR HB
      go_wp2_with fail
      go_roundw
      case rel => exact ⟨j + 1, by omega, by go_num, HNX, HBX⟩
      case measure => simp [intOf]; omega
    · obtain rfl : j = len := by omega
      go_wp2_with fail
      go_ret2
      rw [HX.out] at HRr
      exact ⟨_, _, rfl, rowI_own HRr.out (by rw [HG.out]; omega) HCM.out, HG.out ▸ HBr.out⟩
end Go.Proofs.Ytomobnecdkachaa
