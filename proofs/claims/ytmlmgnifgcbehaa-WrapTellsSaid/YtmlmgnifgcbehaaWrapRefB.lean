/-
  What the document's own Made, Stretch, Wrap and Unwrap answer is what package wrap answers.
-/
import Derived.Test.YtmlmgnifgcbehaaWrapRef
import Derived.Test.YtmlmgnifgcbehaaWrapAll
namespace Go.Proofs.Ytmlmgnifgcbehaa
open Go.RowKit Go.Shelf
set_option maxRecDepth 100000

set_option maxHeartbeats 4000000 in
theorem rmade_any (p : ByteArray) (hp : p.size ≤ 10000) (a : Option Addr) (ca : Nat) (k : List UInt8) (n : Nat) (hn : n < 4294967296) (w : World) (hA : Bsl w w.heap.size a 16 ca k) :
    Calls Try.prog 23 #[.string p, .slice a 16 ca, .int .u32 n] w (NewL 24 (wrapL (strB p) k (leB 4 n)) w) := by
  have n0 : (0 : Int) ≤ n := by omega
  have n1 : (n : Int) ≤ 4294967295 := by omega
  have hkl := hA.1
  have HKL := Lib.hid hkl; clear hkl
  have HA := Lib.hid hA; clear hA
  go_enter Try.func23, Try.ntmps23
  go_wp2_with fail
  refine (rstretched_any p hp n hn w).mono ?_
  rintro e w1 ⟨g1, c1, rfl, _, h1, b1⟩
  obtain ⟨st, hst⟩ : ∃ st, stretchN (strB p) (leB 4 n) 32 = st := ⟨_, rfl⟩
  rw [hst] at h1
  have HST := Lib.hid hst; clear hst
  have hne : g1 ≠ w1.heap.size := by
    obtain ⟨b', o', e', hb', _⟩ := h1.2.2.2.2 (by omega)
    cases e'
    omega
  have HNE := Lib.hid hne; clear hne
  have HA1 := Lib.hid (HA.out.step b1)
  have HS1 := Lib.hid h1; clear h1
  have HB1 := Lib.hid b1; clear b1 HA
  go_wp2_with fail
  refine (bytes_own n 4 (by omega) (by omega) (by omega) w1).mono ?_
  rintro e w2 ⟨rfl, _, b2, _, o2⟩
  have HA2 := Lib.hid (HA1.out.step b2)
  have HS2 := Lib.hid (HS1.out.step b2)
  have HO2 := Lib.hid (own_base o2 HB1.out.size); clear o2
  have HB2 := Lib.hid (HB1.out.trans (b2.mono HB1.out.size)); clear b2 HA1 HS1 HB1
  go_wp2_with fail
  refine (rturned_any a ca k (some ⟨g1, 0, none⟩) c1 st w2 HA2.out HS2.out).mono ?_
  rintro e w3 ⟨g3, c3, rfl, _, h3, b3⟩
  have HS3 := Lib.hid (HS2.out.step b3)
  have HO3 := Lib.hid (own_below HO2.out b3)
  have HB3 := Lib.hid (HB2.out.trans (b3.mono HB2.out.size)); clear b3 HS2 HO2 HB2 HA2
  have H3 := Lib.hid h3; clear h3
  go_wp2_with (at_builtin
               refine wpList_append_bsl rfl (.tmp 16) (.tmp 19) rfl w.heap.size (.slice (some ⟨w1.heap.size, 0, none⟩) 4 4) 4 _ rfl HO3.out w3.heap.size (some ⟨g3, 0, none⟩) 16 c3 _ rfl H3.out (by omega) HB3.out.size ?_
               intro v4 w4 hown4 hgr4
               have HS4 := Lib.hid (HS3.out.grown (g := w1.heap.size) hgr4 (fun _ x hx => by cases hx; exact HNE.out))
               have HB4 := Lib.hid (app_below HB3.out HO3.out hgr4 HB3.out.size); clear hgr4
               obtain ⟨g5, c5, rfl, hgb, hgl, hgc, hgm, hgs, hgh⟩ := bsl_of_own hown4 (by omega)
               have H4 := Lib.hid (bsl_of_holds hgs hgc hgm hgl hgh); clear hgh
               have HO4 := Lib.hid hown4; clear hown4)
  clear HS3 HO3 HB3 H3
  have fx := rof_any (some ⟨g1, 0, none⟩) c1 st (some ⟨g5, 0, none⟩) (4 + 16) c5 _ w4 HS4.out H4.out (by omega)
  obtain ⟨x, hx⟩ : ∃ x, (tagW st (leB 4 n ++ xorL k (maskL st))).toNat = x := ⟨_, rfl⟩
  have hxl : x < 4294967296 := by rw [← hx]; exact (tagW st (leB 4 n ++ xorL k (maskL st))).isLt
  rw [hx] at fx
  have HX := Lib.hid hx; clear hx
  have HFX := Lib.hid fx; clear fx
  have x0 : (0 : Int) ≤ x := by omega
  have x1 : (x : Int) ≤ 4294967295 := by omega
  refine HFX.out.mono ?_
  rintro e w6 ⟨rfl, b6⟩
  have HO6 := Lib.hid (own_below HO4.out b6)
  have HB6 := Lib.hid (HB4.out.trans (b6.mono HB4.out.size)); clear b6
  clear HFX HS4 H4 HO4 HB4
  go_wp2_with fail
  refine (bytes_any x 4 (by omega) (by omega) (by omega) w6).mono ?_
  rintro e w7 ⟨rfl, h7, b7, s7⟩
  have HO7 := Lib.hid (own_below HO6.out b7)
  have HB7 := Lib.hid (HB6.out.trans (b7.mono HB6.out.size)); clear b7
  have H7 := Lib.hid (bsl_of_holds (cap := 4) (leB_length 4 x) (Nat.le_refl _) (by unfold maxLen; omega) s7 h7); clear h7
  clear HO6 HB6
  go_wp2_with (at_builtin
               refine wpList_append_bsl rfl (.tmp 24) (.tmp 27) rfl w.heap.size (.slice (some ⟨g5, 0, none⟩) (4 + 16) c5) (4 + 16) _ rfl HO7.out w7.heap.size (some ⟨w6.heap.size, 0, none⟩) 4 4 _ rfl H7.out (by omega) HB7.out.size ?_
               intro v8 w8 hown8 hgr8
               have HB8 := Lib.hid (app_below HB7.out HO7.out hgr8 HB7.out.size); clear hgr8
               have HO8 := Lib.hid hown8; clear hown8)
  go_ret
  have ho8 := HO8.out
  have e8 : leB 4 n ++ xorL k (maskL st) ++ leB 4 x = wrapL (strB p) k (leB 4 n) := by
    unfold wrapL aheadL tagL
    rw [HST.out, HX.out]
  rw [e8] at ho8
  exact own_newL rfl ho8 (by omega) HB8.out

/-- A list, or none, and an error's number, as document and program answer alike. -/
def Out (s : List UInt8) (c : Int) (w : World) (e : Ending) (w' : World) : Prop :=
  ∃ a len cap, e = .returned (.tuple #[.slice a len cap, .int .i64 c]) ∧ Bsl w' w'.heap.size a len cap s ∧ Below w.heap.size w w'
theorem out_err {c : Int} {w w' : World} {e : Ending} (h : Err c w e w') : Out [] c w e w' := ⟨none, 0, 0, h.1, bsl_nil _, h.2⟩
theorem out_ok {n : Nat} {s : List UInt8} {w w' : World} {e : Ending} (h : NewT n s w e w') : Out s 0 w e w' := by
  obtain ⟨g, cap, he, _, h1, h2⟩ := h
  exact ⟨_, _, _, he, h1, h2⟩

theorem rStretch_bad (p : ByteArray) (hp : (64 : Int) < p.size) (_hm : (p.size : Int) ≤ 9223372036854775807) (v : Value) (w : World) : Calls Try.prog 12 #[.string p, v] w (Err 3 w) := by
  go_enter Try.func12, Try.ntmps12
  go_wp2_with fail
  go_ret2
  exact ⟨rfl, Below.refl _ _⟩
theorem rWrap_pass (p : ByteArray) (hp : (64 : Int) < p.size) (_hm : (p.size : Int) ≤ 9223372036854775807) (v u : Value) (w : World) : Calls Try.prog 13 #[.string p, v, u] w (Err 3 w) := by
  go_enter Try.func13, Try.ntmps13
  go_wp2_with fail
  go_ret2
  exact ⟨rfl, Below.refl _ _⟩
theorem rUnwrap_pass (p : ByteArray) (hp : (64 : Int) < p.size) (_hm : (p.size : Int) ≤ 9223372036854775807) (v : Value) (w : World) : Calls Try.prog 14 #[.string p, v] w (Err 3 w) := by
  go_enter Try.func14, Try.ntmps14
  go_wp2_with fail
  go_ret2
  exact ⟨rfl, Below.refl _ _⟩
theorem rWrap_key (p : ByteArray) (hp : (p.size : Int) ≤ 64) (a : Option Addr) (len cap : Nat) (hl : len ≠ 16) (u : Value) (w : World) : Calls Try.prog 13 #[.string p, .slice a len cap, u] w (Err 2 w) := by
  have h1 : ((len : Int) == 16) = false := by simp; omega
  have h0 : (0 : Int) ≤ p.size := by omega
  go_enter Try.func13, Try.ntmps13
  go_wp2_with fail
  go_ret2
  exact ⟨rfl, Below.refl _ _⟩
theorem rUnwrap_len (p : ByteArray) (hp : (p.size : Int) ≤ 64) (a : Option Addr) (len cap : Nat) (hl : len ≠ 24) (w : World) : Calls Try.prog 14 #[.string p, .slice a len cap] w (Err 8 w) := by
  have h1 : ((len : Int) == 24) = false := by simp; omega
  have h0 : (0 : Int) ≤ p.size := by omega
  go_enter Try.func14, Try.ntmps14
  go_wp2_with fail
  go_ret2
  exact ⟨rfl, Below.refl _ _⟩
theorem rStretch_ok (p : ByteArray) (hp : (p.size : Int) ≤ 64) (n : Nat) (hn : n < 4294967296) (w : World) :
    Calls Try.prog 12 #[.string p, .int .u32 n] w (NewT 16 (stretchN (strB p) (leB 4 n) 32) w) := by
  have h0 : (0 : Int) ≤ p.size := by omega
  have st := rstretched_any p (by omega) n hn w
  have HST := Lib.hid st; clear st
  go_enter Try.func12, Try.ntmps12
  go_wp2_with fail
  refine HST.out.mono ?_
  rintro e w1 ⟨g1, c1, rfl, hle, h1, b1⟩
  have HLE := Lib.hid hle
  have H1 := Lib.hid h1
  have HB := Lib.hid b1
  clear hle h1 b1
  go_wp2_with fail
  go_ret2
  exact ⟨g1, c1, rfl, HLE.out, H1.out, HB.out⟩
theorem rWrap_ok (p : ByteArray) (hp : (p.size : Int) ≤ 64) (a : Option Addr) (ca : Nat) (k : List UInt8) (n : Nat) (hn : n < 4294967296) (w : World) (hA : Bsl w w.heap.size a 16 ca k) :
    Calls Try.prog 13 #[.string p, .slice a 16 ca, .int .u32 n] w (NewT 24 (wrapL (strB p) k (leB 4 n)) w) := by
  have h0 : (0 : Int) ≤ p.size := by omega
  have st := rmade_any p (by omega) a ca k n hn w hA
  have HST := Lib.hid st; clear st
  go_enter Try.func13, Try.ntmps13
  go_wp2_with fail
  refine HST.out.mono ?_
  rintro e w1 ⟨g1, c1, rfl, hle, h1, b1⟩
  have HLE := Lib.hid hle
  have H1 := Lib.hid h1
  have HB := Lib.hid b1
  clear hle h1 b1
  go_wp2_with fail
  go_ret2
  exact ⟨g1, c1, rfl, HLE.out, H1.out, HB.out⟩
end Go.Proofs.Ytmlmgnifgcbehaa
