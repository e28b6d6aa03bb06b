/-
  wrap.stretch, whatever passphrase of at most 10,000 bytes and whatever four bytes it is handed, answers the passphrase stretched; nothing that was there is written.
-/
import Derived.Test.YtmlmgnifgcbehaaKeyArr
namespace Go.Proofs.Ytmlmgnifgcbehaa
open Go.RowKit Go.Shelf
set_option maxRecDepth 100000

set_option maxHeartbeats 4000000 in
theorem wstretch_any (p : ByteArray) (hp : p.size ≤ 10000) (a : Option Addr) (cap : Nat) (s : List UInt8) (w : World) (hA : Bsl w w.heap.size a 4 cap s) :
    Calls Try.prog 17 #[.string p, .slice a 4 cap] w fun e w' => e = .returned (.agg (ar (stretchN (strB p) s 32))) ∧ Below w.heap.size w w' := by
  have hz := zeroA
  have ap := arrayAtA
  have sl := sliceAtA
  have b0 : Below w.heap.size w (w.alloc (.cells (ar zs) 41)) := (Below.refl _ w).alloc (Nat.le_refl _) _
  have x0 := Blk.new w 41 (ar zs)
  obtain ⟨gp, G, w1, cv, hP, b1⟩ := str_bytes (w.alloc (.cells (ar zs) 41)) p (by omega)
  obtain ⟨g4, hg4⟩ : ∃ g4, w.heap.size = g4 := ⟨_, rfl⟩
  have x1 := x0.below b1 x0.lt
  have ba1 : Below w.heap.size w w1 := b0.trans (b1.mono b0.size)
  have hA1 := hA.step ba1
  have hs := hA.1
  rw [hg4] at x1
  have HX1 := Lib.hid x1; clear x1 x0
  have HBa := Lib.hid ba1; clear ba1 b0 b1
  have HA1 := Lib.hid hA1; clear hA1 hA
  have HP := Lib.hid hP; clear hP
  have HS := Lib.hid hs; clear hs
  have HG := Lib.hid hg4; clear hg4
  have hsz := HP.out.1
  have HSZ := Lib.hid hsz; clear hsz
  go_enter Try.func17, Try.ntmps17
  go_wp2_with fail
  refine (concat2 w1 _ _ _ _ _ _ _ _ HP.out HA1.out (by omega) (by omega)).mono ?_
  rintro e w2 ⟨g2, c2, rfl, _, h2, b2⟩
  have HP2 := Lib.hid (HP.out.step b2)
  have HX2 := Lib.hid (HX1.out.below b2 HX1.out.lt)
  have HB2 := Lib.hid (HBa.out.trans (b2.mono HBa.out.size)); clear b2
  have HC2 := Lib.hid h2; clear h2
  clear cv HP HX1 HBa HA1
  have k2 := key_any _ _ _ _ w2 HC2.out (by omega)
  have HK2 := Lib.hid k2; clear k2
  go_wp2_with fail
  refine HK2.out.mono ?_
  rintro e w3 k3
  obtain ⟨g3, c3, rfl, _, h3, b3⟩ := KeyPost.newL k3
  clear k3
  have HP3 := Lib.hid (HP2.out.step b3)
  have HX3 := Lib.hid (HX2.out.below b3 HX2.out.lt)
  have HB3 := Lib.hid (HB2.out.trans (b3.mono HB2.out.size)); clear b3
  have HC3 := Lib.hid h3; clear h3
  clear HP2 HX2 HB2 HC2 HK2
  have b4 : Below w3.heap.size w3 (w3.alloc (.cells (ar zs) 41)) := (Below.refl _ w3).alloc (Nat.le_refl _) _
  have HY4 := Lib.hid (Blk.new w3 41 (ar zs))
  have HB4 := Lib.hid b4; clear b4
  obtain ⟨g6, hg6⟩ : ∃ g6, w3.heap.size = g6 := ⟨_, rfl⟩
  have hlt4 := HX3.out.lt
  have HLT := Lib.hid hlt4; clear hlt4
  have HG6 := Lib.hid hg6; clear hg6
  go_wp2_with (first
    | (with_reducible refine at_load ?_
       refine wpList_load_bsl rfl (.tmp 15) rfl g3 0 c3 _ _ rfl HC3.out ?_)
    | (with_reducible refine at_store ?_
       refine wpList_store_ar rfl (.tmp 6) (.tmp 16) rfl w3.heap.size _ zs rfl rfl (bytesW_length _ _) HY4.out zs_length ?_
       intro w5 hx5 hg5
       have HX5 := Lib.hid hx5; clear hx5
       have HB5 := Lib.hid (HB4.out.grown hg5 HB4.out.size (fun k e => by injection e with e; omega)); clear hg5))
  rw [HG6.out] at HX5 HB5 HC3 HP3 HLT ⊢
  clear HY4 HB4 HC3
  go_loopw [17] (fun i wr => ∃ k : Nat, k ≤ 32 ∧ i = .int .i64 k ∧ Blk wr g6 41 (ar (stretchN (strB p) s k)) ∧ Below g6 w3 wr) (fun i _ => 32 - (intOf i).toNat)
  case atStart => exact ⟨0, by omega, rfl, HX5.out, HB5.out⟩
  case round =>
    obtain ⟨k, hk, rfl, hx, hb⟩ := hrel
    have HXr := Lib.hid hx; clear hx
    have HBr := Lib.hid hb; clear hb
    clear HX5 HB5
    have hgs := HXr.out.lt
    by_cases hlt : k < 32
    · have k0 : (k : Int) < 32 := by omega
      have k00 : (0 : Int) ≤ k := by omega
      have e8 := wrapU8 k (by omega)
      have o1 := one_bsl wr (UInt8.ofNat k)
      have e1 : ((UInt8.ofNat k).toNat : Int) = k := by simp; omega
      rw [e1] at o1
      have hba : Below wr.heap.size wr (wr.alloc (.cells #[.int .u8 (k : Int)] 5)) := (Below.refl _ wr).alloc (Nat.le_refl _) _
      have q1 := (HXr.out.bsl (stretchN_length _ _ _) (by omega)).step hba
      have q3 := ((HP3.out.below HBr.out).more (B' := wr.heap.size) (by omega)).step hba
      have cc := concat3 _ _ _ _ _ _ _ _ _ _ _ _ _ q1 o1 q3 (by omega) (by omega)
      rw [World.size_alloc] at cc
      have HCC := Lib.hid cc; clear cc q1 o1 q3
      have HBa := Lib.hid (HBr.out.alloc (Nat.le_of_lt hgs) (.cells #[.int .u8 (k : Int)] 5)); clear hba
      have HE1 := Lib.hid e1; clear e1
      have HGS := Lib.hid hgs; clear hgs
      go_wp2_with fail
      refine HCC.out.mono ?_
      rintro e w7 ⟨g7, c7, rfl, _, h7, b7⟩
      have HB7 := Lib.hid (HBa.out.trans (b7.mono (Nat.le_trans (Nat.le_of_lt HGS.out) (by simp))))
      have HX7 := Lib.hid ((HXr.out.alloc (.cells #[.int .u8 (k : Int)] 5)).below b7 (by rw [World.size_alloc]; have := HGS.out; omega)); clear b7
      have k7 := key_any _ _ _ _ w7 h7 (by omega)
      have HK7 := Lib.hid k7; clear k7 h7 HCC HBa HXr HBr
      go_wp2_with fail
      refine HK7.out.mono ?_
      rintro e w8 k8
      obtain ⟨g8, c8, rfl, _, h8, b8⟩ := KeyPost.newL k8
      clear k8
      have HB8 := Lib.hid (HB7.out.trans (b8.mono (Nat.le_of_lt HX7.out.lt)))
      have HX8 := Lib.hid (HX7.out.below b8 HX7.out.lt); clear b8
      have HC8 := Lib.hid h8; clear h8
      go_wp2_with (first
        | (with_reducible refine at_load ?_
           refine wpList_load_bsl rfl (.tmp 28) rfl g8 0 c8 _ _ rfl HC8.out ?_)
        | (with_reducible refine at_store ?_
           refine wpList_store_ar rfl (.tmp 6) (.tmp 29) rfl g6 _ _ rfl rfl (bytesW_length _ _) HX8.out (stretchN_length _ _ _) ?_
           intro w9 hx9 hg9
           have HX9 := Lib.hid hx9; clear hx9
           have HB9 := Lib.hid (HB8.out.grown hg9 (Nat.le_of_lt HX8.out.lt) (fun k e => by injection e with e; omega)); clear hg9))
      go_roundw
      case rel => exact ⟨k + 1, by omega, by go_num, HX9.out, HB9.out⟩
      case measure => simp [intOf]; omega
    · obtain rfl : k = 32 := by omega
      have HX0 := Lib.hid (HX3.out.below HBr.out HLT.out)
      go_wp2_with (first
        | (with_reducible refine at_load ?_
           refine wpList_load_ar rfl (.tmp 6) rfl g6 _ rfl HXr.out (stretchN_length _ _ _) ?_)
        | (with_reducible refine at_store ?_
           rw [HG.out]
           refine wpList_store_ar rfl (.tmp 4) (.tmp 31) rfl g4 _ _ rfl rfl (stretchN_length _ _ _) HX0.out zs_length ?_
           intro w9 hx9 hg9
           have HX9 := Lib.hid hx9; clear hx9
           have HB9 := Lib.hid (((HB3.out.trans (HBr.out.mono (by have := HG6.out; have := HB3.out.size; omega))).grown hg9 (by have := HBr.out.size; have := HB3.out.size; omega) (fun k e => by injection e with e; have := HG.out; omega))); clear hg9))
      exact bodyPost_ret (v := .agg (ar (stretchN (strB p) s 32))) (resultA Try.results17 _ _ g4 _ rfl HX9.out (stretchN_length _ _ _)) rfl ⟨rfl, HB9.out⟩
end Go.Proofs.Ytmlmgnifgcbehaa
