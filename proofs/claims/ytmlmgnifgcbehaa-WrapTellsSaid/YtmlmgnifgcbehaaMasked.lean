/-
  wrap.keyArray's methods, whatever keys and bytes they are handed: masked answers each byte of the key, exclusive or the mask's of the stretched one; tag the bytes of the tag; nothing that was there is written.
-/
import Derived.Test.YtmlmgnifgcbehaaKeyArr
import Derived.Laws.BitsAllLaws
namespace Go.Proofs.Ytmlmgnifgcbehaa
open Go.RowKit Go.Shelf
set_option maxRecDepth 100000

/-- The first n bytes of k turned by m. -/
def xorTo (k m : List UInt8) : Nat → List UInt8
  | 0 => k
  | n + 1 => (xorTo k m n).set n (k.getD n 0 ^^^ m.getD n 0)
theorem xorTo_length (k m : List UInt8) : ∀ n, (xorTo k m n).length = k.length
  | 0 => rfl
  | n + 1 => by rw [xorTo, List.length_set, xorTo_length k m n]
theorem xorTo_get (k m : List UInt8) : ∀ (n i : Nat), i < k.length → (xorTo k m n).getD i 0 = if i < n then k.getD i 0 ^^^ m.getD i 0 else k.getD i 0
  | 0, i, _ => by simp [xorTo]
  | n + 1, i, hi => by
    have ih := xorTo_get k m n i hi
    have hl : i < (xorTo k m n).length := by rw [xorTo_length]; exact hi
    rw [xorTo, List.getD_eq_getElem?_getD, List.getElem?_set]
    by_cases e : n = i
    · subst e
      rw [if_pos rfl, if_pos hl, if_pos (show n < n + 1 by omega)]
      rfl
    · rw [if_neg e, ← List.getD_eq_getElem?_getD, ih]
      by_cases h : i < n
      · rw [if_pos h, if_pos (by omega)]
      · rw [if_neg h, if_neg (by omega)]
theorem xorTo_all (k m : List UInt8) (hk : k.length = 16) (hm : m.length = 16) : xorTo k m 16 = xorL k m := by
  apply List.ext_getElem
  · rw [xorTo_length, xorL_length k m hk hm, hk]
  · intro i h1 h2
    rw [xorTo_length] at h1
    have h := xorTo_get k m 16 i h1
    rw [if_pos (by omega)] at h
    have e1 : (xorTo k m 16).getD i 0 = (xorTo k m 16)[i]'(by rw [xorTo_length]; exact h1) := by rw [List.getD_eq_getElem?_getD, List.getElem?_eq_getElem]; rfl
    rw [← e1, h]
    simp only [xorL, List.getElem_zipWith]
    rw [List.getD_eq_getElem?_getD, List.getD_eq_getElem?_getD, List.getElem?_eq_getElem h1, List.getElem?_eq_getElem (by omega)]
    rfl
theorem xor8 (x y : UInt8) : bits .xor .u8 (x.toNat : Int) (y.toNat : Int) = ((x ^^^ y).toNat : Int) := by
  rw [u8_xor_nat _ _ x.toNat_lt y.toNat_lt, UInt8.toNat_xor]
theorem ar_getD (s : List UInt8) (i : Nat) (h : i < s.length) : (ar s)[i]? = some (.int .u8 ((s.getD i 0).toNat : Int)) := by
  rw [ar_get s i h, List.getD_eq_getElem?_getD, List.getElem?_eq_getElem h]
  rfl
theorem Bsl.cellD {w : World} {B g off len cap : Nat} {s : List UInt8} (h : Bsl w B (some ⟨g, off, none⟩) len cap s) (i : Nat) (hi : i < len) : w.cell? ⟨g, off + i, none⟩ = some (.int .u8 ((s.getD i 0).toNat : Int)) := by
  obtain ⟨b, o, e, _, hc⟩ := h.2.2.2.2 (by omega)
  cases e
  have hl : i < s.length := by rw [h.1]; exact hi
  rw [hc i hl, List.getD_eq_getElem?_getD, List.getElem?_eq_getElem hl]
  rfl
theorem Bsl.grown {w w' : World} {g len cap : Nat} {a : Option Addr} {s : List UInt8} (h : Bsl w w.heap.size a len cap s) (hg : w.grownBy w' (some g)) (hne : 0 < len → ∀ x, a = some x → x.block ≠ g) : Bsl w' w'.heap.size a len cap s := by
  obtain ⟨h1, h2, h3, h4, h5⟩ := h
  refine ⟨h1, h2, h3, h4, fun h0 => ?_⟩
  obtain ⟨b, off, e, hb, hc⟩ := h5 h0
  refine ⟨b, off, e, Nat.lt_of_lt_of_le hb hg.size, fun i hi => ?_⟩
  exact (World.cell?_of_block (a := ⟨b, off + i, none⟩) (hg.block b hb (fun e' => hne h0 _ e (by injection e')))).trans (hc i hi)

set_option maxHeartbeats 4000000 in
theorem masked_any (k st : List UInt8) (hk : k.length = 16) (hst : st.length = 16) (w : World) :
    Calls Try.prog 18 #[.agg (ar k), .agg (ar st)] w fun e w' => e = .returned (.agg (ar (xorL k (maskL st)))) ∧ Below w.heap.size w w' := by
  have hz := zeroA
  have sl := sliceAtA
  obtain ⟨g, hg⟩ : ∃ g, w.heap.size = g := ⟨_, rfl⟩
  obtain ⟨w1, hw1⟩ : ∃ w1, ((w.alloc (.cells (ar k) 41)).alloc (.cells (ar st) 41)).alloc (.cells (ar zs) 41) = w1 := ⟨_, rfl⟩
  have x0 : Blk w1 g 41 (ar k) := by rw [← hw1, ← hg]; exact ((Blk.new w _ _).alloc _).alloc _
  have x1 : Blk w1 (g + 1) 41 (ar st) := by
    have := (Blk.new (w.alloc (.cells (ar k) 41)) 41 (ar st)).alloc (.cells (ar zs) 41)
    rwa [hw1, World.size_alloc, hg] at this
  have x2 : Blk w1 (g + 1 + 1) 41 (ar zs) := by
    have := Blk.new ((w.alloc (.cells (ar k) 41)).alloc (.cells (ar st) 41)) 41 (ar zs)
    rwa [hw1, World.size_alloc, World.size_alloc, hg] at this
  have b1 : Below w.heap.size w w1 := by rw [← hw1]; exact (((Below.refl _ w).alloc (Nat.le_refl _) _).alloc (by simp) _).alloc (by simp; omega) _
  have q1 := (x1.bsl hst (by omega)).step ((Below.refl _ w1).alloc (Nat.le_refl _) (.cells #[.int .u8 ((1 : UInt8).toNat : Int)] 5))
  have cc := concat2 _ _ _ _ _ _ _ _ _ q1 (one_bsl w1 1) (by omega) (by omega)
  have hs1 : w1.heap.size = g + 1 + 1 + 1 := by rw [← hw1, ← hg]; simp
  rw [World.size_alloc, hs1] at cc
  have cc' : Calls Try.prog 19 #[.slice (some ⟨g + 1 + 1 + 1 + 1, 0, none⟩) 2 2] ((w1.alloc (.cells #[.int .u8 1] 5)).alloc (.cells #[.slice (some ⟨g + 1, 0, none⟩) 16 16, .slice (some ⟨g + 1 + 1 + 1, 0, none⟩) 1 1] 22)) (NewL 17 (st ++ [1]) (w1.alloc (.cells #[.int .u8 1] 5))) := cc
  have HCC := Lib.hid cc'; clear cc cc' q1
  have HS1 := Lib.hid hs1; clear hs1
  have HX0 := Lib.hid x0; clear x0
  have HX2 := Lib.hid x2; clear x2 x1
  have HB1 := Lib.hid b1; clear b1
  have HW1 := Lib.hid hw1; clear hw1
  have HG := Lib.hid hg; clear hg
  have HK := Lib.hid hk; clear hk
  go_enter Try.func18, Try.ntmps18
  go_wp2_with fail
  rw [HG.out, HW1.out]
  refine HCC.out.mono ?_
  rintro e w2 ⟨g2, c2, rfl, _, h2, b2⟩
  have hb2 := ((Below.refl w1.heap.size w1).alloc (Nat.le_refl _) (.cells #[.int .u8 1] 5)).trans (b2.mono (by simp))
  clear b2
  have HX02 := Lib.hid (HX0.out.below hb2 HX0.out.lt)
  have HX22 := Lib.hid (HX2.out.below hb2 HX2.out.lt)
  have HB2 := Lib.hid (HB1.out.trans (hb2.mono HB1.out.size)); clear hb2
  have k2 := key_any _ _ _ _ w2 h2 (by omega)
  have HK2 := Lib.hid k2; clear k2 h2 HCC HB1 HX0 HX2 HW1
  go_wp2_with fail
  refine HK2.out.mono ?_
  rintro e w3 k3
  obtain ⟨g3, c3, rfl, hle, h3, b3⟩ := KeyPost.newL k3
  clear k3
  have HX03 := Lib.hid (HX02.out.below b3 HX02.out.lt)
  have HX23 := Lib.hid (HX22.out.below b3 HX22.out.lt)
  have HB3 := Lib.hid (HB2.out.trans (b3.mono HB2.out.size)); clear b3
  have hne : g3 ≠ g := by have := HX02.out.lt; omega
  have HNE := Lib.hid hne; clear hne hle
  obtain ⟨m, hm⟩ : ∃ m, bytesW (fourW (st ++ [1])) 4 = m := ⟨_, rfl⟩
  rw [hm] at h3
  have HM := Lib.hid (show maskL st = m from hm); clear hm
  have HC3 := Lib.hid h3; clear h3
  clear HX02 HX22 HB2 HK2
  go_wp2_with fail
  go_loopw [15] (fun i wr => ∃ n : Nat, n ≤ 16 ∧ i = .int .i64 n ∧ Blk wr g 41 (ar (xorTo k m n)) ∧ w3.grownBy wr (some g)) (fun i _ => 16 - (intOf i).toNat)
  case atStart => exact ⟨0, by omega, rfl, HX03.out, World.grownBy.refl _ _⟩
  case round =>
    obtain ⟨n, hn, rfl, hx, hb⟩ := hrel
    have HXr := Lib.hid hx; clear hx
    have HBr := Lib.hid hb; clear hb
    by_cases hlt : n < 16
    · have n0 : (n : Int) < 16 := by omega
      have n00 : (0 : Int) ≤ n := by omega
      have cm := (HC3.out.grown HBr.out (fun _ x hx => by cases hx; exact HNE.out)).cellD n hlt
      rw [Nat.zero_add] at cm
      have ck := HXr.out.cell n
      have hkl : n < k.length := by rw [HK.out]; exact hlt
      rw [ar_getD _ n (by rw [xorTo_length]; exact hkl), xorTo_get k m n n hkl, if_neg (Nat.lt_irrefl n)] at ck
      have fk := HXr.out.frozen n
      have xr := xor8 (k.getD n 0) (m.getD n 0)
      have nx := HXr.out.set_ n (.int .u8 ((k.getD n 0 ^^^ m.getD n 0).toNat : Int))
      rw [ar_set] at nx
      have HNX := Lib.hid (show Blk _ g 41 (ar (xorTo k m (n + 1))) from nx); clear nx
      have HBX := Lib.hid (only_setCell HBr.out (p := ⟨g, n, none⟩) (.inl rfl) (.int .u8 ((k.getD n 0 ^^^ m.getD n 0).toNat : Int)))
      obtain ⟨x, hx⟩ : ∃ x, k.getD n 0 = x := ⟨_, rfl⟩
      obtain ⟨y, hy⟩ : ∃ y, m.getD n 0 = y := ⟨_, rfl⟩
      rw [hx] at ck xr HNX HBX
      rw [hy] at cm xr HNX HBX
      have HLK := Lib.hid hkl; clear hkl hx hy
      clear HXr HBr
      go_wp2_with fail
      go_roundw
      case rel => exact ⟨n + 1, by omega, by go_num, HNX.out, HBX.out⟩
      case measure => simp [intOf]; omega
    · obtain rfl : n = 16 := by omega
      rw [xorTo_all k m HK.out HC3.out.1, ← HM.out] at HXr
      have HX0 := Lib.hid (HX23.out.grown HBr.out (by simp; omega))
      have hxl := xorL_length k (maskL st) HK.out (maskL_length _)
      have HXL := Lib.hid hxl; clear hxl
      go_wp2_with (first
        | (with_reducible refine at_load ?_
           refine wpList_load_ar rfl (.tmp 2) rfl g _ rfl HXr.out HXL.out ?_)
        | (with_reducible refine at_store ?_
           refine wpList_store_ar rfl (.tmp 4) (.tmp 27) rfl (g + 1 + 1) _ _ rfl rfl HXL.out HX0.out zs_length ?_
           intro w9 hx9 hg9
           have HX9 := Lib.hid hx9; clear hx9
           have HB9 := Lib.hid ((below_only HB3.out (by have := HG.out; omega) HBr.out HB3.out.size).grown hg9 (Nat.le_trans HB3.out.size HBr.out.size) (fun k e => by injection e with e; have := HG.out; omega)); clear hg9))
      exact bodyPost_ret (v := .agg (ar (xorL k (maskL st)))) (resultA Try.results18 _ _ (g + 1 + 1) _ rfl HX9.out HXL.out) rfl ⟨rfl, HB9.out⟩

set_option maxHeartbeats 1000000 in
theorem wtag_any (st : List UInt8) (hst : st.length = 16) (b : Option Addr) (len cap : Nat) (s : List UInt8) (w : World) (hB : Bsl w w.heap.size b len cap s) (hl : len ≤ 20000) :
    Calls Try.prog 20 #[.agg (ar st), .slice b len cap] w (NewL 4 (tagL st s) w) := by
  have sl := sliceAtA
  have b0 : Below w.heap.size w (w.alloc (.cells (ar st) 41)) := (Below.refl _ w).alloc (Nat.le_refl _) _
  have x0 := (Blk.new w 41 (ar st)).bsl hst (by omega)
  have tg := tag_any _ 16 st b len cap s (w.alloc (.cells (ar st) 41)) x0 (hB.step b0) hl
  obtain ⟨x, hx⟩ : ∃ x, (tagW st s).toNat = x := ⟨_, rfl⟩
  have hxl : x < 4294967296 := by rw [← hx]; exact (tagW st s).isLt
  rw [hx] at tg
  have HT := Lib.hid tg; clear tg x0 hB
  have HB0 := Lib.hid b0; clear b0
  have HX := Lib.hid hx; clear hx
  have i0 : (0 : Int) ≤ x := by omega
  have i1 : (x : Int) ≤ 4294967295 := by omega
  go_enter Try.func20, Try.ntmps20
  go_wp2_with fail
  refine HT.out.mono ?_
  rintro e w1 ⟨rfl, b1⟩
  have HB1 := Lib.hid (HB0.out.trans (b1.mono HB0.out.size)); clear b1
  go_wp2_with fail
  refine (wput_any x hxl w1).mono ?_
  rintro e w2 ⟨g, cap2, rfl, hle, h2, b2⟩
  have HB2 := Lib.hid (HB1.out.trans (b2.mono HB1.out.size)); clear b2
  have H2 := Lib.hid h2; clear h2
  have HLE := Lib.hid hle; clear hle
  go_wp2_with fail
  go_ret
  refine ⟨g, cap2, rfl, Nat.le_trans HB1.out.size HLE.out, ?_, HB2.out⟩
  unfold tagL
  rw [HX.out]
  exact H2.out
end Go.Proofs.Ytmlmgnifgcbehaa
