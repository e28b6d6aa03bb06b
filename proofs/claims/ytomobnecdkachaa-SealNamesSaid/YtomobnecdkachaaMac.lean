/-
  mac.Tag, whatever key and bytes it is handed, answers the tag of the bytes by the key, or that the key is none; nothing that was there is written.
-/
import Derived.Test.YtomobnecdkachaaLists
namespace Go.Proofs.Ytomobnecdkachaa
open Go.RowKit Go.Shelf
set_option maxRecDepth 100000

set_option maxHeartbeats 1000000 in
theorem sumKey_any (r c : Nat) (ps : List Part) (w : World) (hr : r < w.heap.size) (hl : ps.length ≤ 1000) (hc : ps.length ≤ c)
    (hcell : ∀ i (h : i < ps.length), w.cell? ⟨r, i, none⟩ = some (.slice (ps[i]).a (ps[i]).len (ps[i]).cap)) (hb : ∀ i (h : i < ps.length), Bsl w w.heap.size (ps[i]).a (ps[i]).len (ps[i]).cap (ps[i]).s)
    (h0 : 0 < (flat ps).length) (hm : (flat ps).length ≤ 100000) :
    Calls Try.prog 27 #[.func (.func 28) #[] #[], .slice (some ⟨r, 0, none⟩) ps.length c] w (KeyPost (fourW (flat ps)) w) := by
  have hcc := concat_any r c ps w hr hl hc hcell hb h0 hm
  have HCC := Lib.hid hcc; clear hcc hcell hb
  obtain ⟨t, ht⟩ : ∃ t, flat ps = t := ⟨_, rfl⟩
  rw [ht] at HCC hm h0 ⊢
  clear ht
  have HM := Lib.hid hm; clear hm
  have H0 := Lib.hid h0; clear h0
  go_enter Try.func27, Try.ntmps27
  go_wp2_with fail
  refine HCC.out.mono ?_
  rintro e w1 ⟨g, cap, rfl, h1, h2, h3, h4, hh, b1⟩
  have hk := key_any (some ⟨g, 0, none⟩) t.length cap t w1 ⟨rfl, h3, h4, fun e => (by cases e), fun _ => ⟨g, 0, rfl, h2, fun i hi => by rw [Nat.zero_add]; exact hh i hi⟩⟩ (by have := HM.out; omega)
  have HK := Lib.hid hk; clear hk hh
  have HB := Lib.hid b1; clear b1
  go_wp2_with fail
  refine HK.out.mono ?_
  rintro e w2 ⟨g2, cap2, rfl, k1, k2, k3, k4, kh, b2⟩
  have hb2 := HB.out.trans (b2.mono HB.out.size)
  have HB2 := Lib.hid hb2; clear hb2 b2
  have HH := Lib.hid kh; clear kh
  go_wp2_with fail
  go_ret
  exact ⟨g2, cap2, rfl, Nat.le_trans HB.out.size k1, k2, k3, k4, HH.out, HB2.out⟩

set_option maxHeartbeats 1000000 in
theorem sumSum_any (r c : Nat) (ps : List Part) (w : World) (hr : r < w.heap.size) (hl : ps.length ≤ 1000) (hc : ps.length ≤ c)
    (hcell : ∀ i (h : i < ps.length), w.cell? ⟨r, i, none⟩ = some (.slice (ps[i]).a (ps[i]).len (ps[i]).cap)) (hb : ∀ i (h : i < ps.length), Bsl w w.heap.size (ps[i]).a (ps[i]).len (ps[i]).cap (ps[i]).s)
    (h0 : 0 < (flat ps).length) (hm : (flat ps).length ≤ 100000) :
    Calls Try.prog 29 #[.func (.func 30) #[] #[], .slice (some ⟨r, 0, none⟩) ps.length c] w fun e w' => e = .returned (.int .u32 ((fourW (flat ps)).a.toNat : Int)) ∧ Below w.heap.size w w' := by
  have hcc := concat_any r c ps w hr hl hc hcell hb h0 hm
  have HCC := Lib.hid hcc; clear hcc hcell hb
  obtain ⟨t, ht⟩ : ∃ t, flat ps = t := ⟨_, rfl⟩
  rw [ht] at HCC hm h0 ⊢
  clear ht
  have HM := Lib.hid hm; clear hm
  have H0 := Lib.hid h0; clear h0
  go_enter Try.func29, Try.ntmps29
  go_wp2_with fail
  refine HCC.out.mono ?_
  rintro e w1 ⟨g, cap, rfl, h1, h2, h3, h4, hh, b1⟩
  have hk := sum_any (some ⟨g, 0, none⟩) t.length cap t w1 ⟨rfl, h3, h4, fun e => (by cases e), fun _ => ⟨g, 0, rfl, h2, fun i hi => by rw [Nat.zero_add]; exact hh i hi⟩⟩ (by have := HM.out; omega)
  have HK := Lib.hid hk; clear hk hh
  have HB := Lib.hid b1; clear b1
  go_wp2_with fail
  refine HK.out.mono ?_
  rintro e w2 ⟨rfl, b2⟩
  have hb2 := HB.out.trans (b2.mono HB.out.size)
  have HB2 := Lib.hid hb2; clear hb2 b2
  go_wp2_with fail
  go_ret
  exact ⟨rfl, HB2.out⟩

/-- The inner key, and the tag. -/
def innerW (k s : List UInt8) : List UInt8 := bytesW (fourW (k ++ 1 :: s)) 4
def tagW (k s : List UInt8) : BitVec 32 := (fourW (k ++ 2 :: innerW k s)).a
theorem innerW_length (k s : List UInt8) : (innerW k s).length = 16 := bytesW_length _ _

theorem tag_bad (a : Option Addr) (len cap : Nat) (v : Value) (w : World) (h : len ≠ 16) : Calls Try.prog 19 #[.slice a len cap, v] w fun e w' => e = .returned (.tuple #[.int .u32 0, .int .i64 2]) ∧ w = w' := by
  have h1 : ((len : Int) == 16) = false := by simp; omega
  go_enter Try.func19, Try.ntmps19
  go_wp2_with fail
  go_ret2
  exact ⟨rfl, rfl⟩


set_option maxHeartbeats 2000000 in
theorem tag_any (a : Option Addr) (cap : Nat) (k : List UInt8) (b : Option Addr) (len capb : Nat) (s : List UInt8) (w : World) (hA : Bsl w w.heap.size a 16 cap k) (hB : Bsl w w.heap.size b len capb s) (hl : len ≤ 20000) :
    Calls Try.prog 19 #[.slice a 16 cap, .slice b len capb] w fun e w' => e = .returned (.tuple #[.int .u32 ((tagW k s).toNat : Int), .int .i64 0]) ∧ Below w.heap.size w w' := by
  obtain ⟨g, hg⟩ : ∃ g, w.heap.size = g := ⟨_, rfl⟩
  obtain ⟨w1, hw1⟩ : ∃ w1, ((w.alloc (.cells #[.int .u8 1] 5)).alloc (.cells #[.slice a 16 cap, .slice (some ⟨w.heap.size, 0, none⟩) 1 1, .slice b len capb] 22)) = w1 := ⟨_, rfl⟩
  have hb1 : Below w.heap.size w w1 := by rw [← hw1]; exact ((Below.refl _ w).alloc (Nat.le_refl _) _).alloc (by simp) _
  have hx0 : Blk w1 g 5 #[.int .u8 ((1 : UInt8).toNat : Int)] := by rw [← hw1, ← hg]; exact (Blk.new w 5 #[.int .u8 1]).alloc _
  have hx1 : Blk w1 (g + 1) 22 #[.slice a 16 cap, .slice (some ⟨g, 0, none⟩) 1 1, .slice b len capb] := by
    have := Blk.new (w.alloc (.cells #[.int .u8 1] 5)) 22 #[.slice a 16 cap, .slice (some ⟨w.heap.size, 0, none⟩) 1 1, .slice b len capb]
    rw [World.size_alloc, hw1, hg] at this
    exact this
  have hks : k.length = 16 := hA.1
  have hss : s.length = len := hB.1
  have hA1 := (hA.below hb1).more hb1.size
  have hB1 := (hB.below hb1).more hb1.size
  have ho1 := bsl_one w1 g 1 hx0 hx0.lt
  have hk := sumKey_any (g + 1) 3 [⟨a, 16, cap, k⟩, ⟨some ⟨g, 0, none⟩, 1, 1, [1]⟩, ⟨b, len, capb, s⟩] w1 hx1.lt (by simp) (by simp)
    (fun i h => by
      have : i = 0 ∨ i = 1 ∨ i = 2 := by simp at h; omega
      rcases this with rfl | rfl | rfl
      · exact hx1.cell 0
      · exact hx1.cell 1
      · exact hx1.cell 2)
    (fun i h => by
      have : i = 0 ∨ i = 1 ∨ i = 2 := by simp at h; omega
      rcases this with rfl | rfl | rfl
      · exact hA1
      · exact ho1
      · exact hB1)
    (by rw [flat3]; simp; omega) (by rw [flat3]; simp; omega)
  rw [flat3] at hk
  have hk' : Calls Try.prog 27 #[.func (.func 28) #[] #[], .slice (some ⟨g + 1, 0, none⟩) 3 3] w1 (KeyPost (fourW (k ++ 1 :: s)) w1) := hk
  clear hk ho1
  obtain ⟨x, hx⟩ : ∃ x, fourW (k ++ 1 :: s) = x := ⟨_, rfl⟩
  have htg : tagW k s = (fourW (k ++ 2 :: bytesW x 4)).a := by unfold tagW innerW; rw [hx]
  rw [hx] at hk'
  have HK := Lib.hid hk'; clear hk'
  have HTG := Lib.hid htg; clear htg hx
  have HB1 := Lib.hid hb1; clear hb1
  have HAA := Lib.hid hA; clear hA hA1
  clear hx0 hx1 hB hB1
  have HKS := Lib.hid hks; clear hks
  clear hss
  go_enter Try.func19, Try.ntmps19
  go_wp2_with fail
  rw [hg] at hw1
  rw [hw1]
  refine HK.out.mono ?_
  rintro e w2 ⟨g2, cap2, rfl, k1, k2, k3, k4, kh, b2⟩
  have hb2 := HB1.out.trans (b2.mono HB1.out.size)
  have hA2 := (HAA.out.below hb2).more hb2.size
  have hI2 : Bsl w2 w2.heap.size (some ⟨g2, 0, none⟩) 16 cap2 (bytesW x 4) := ⟨bytesW_length _ _, k3, k4, fun e => (by cases e), fun _ => ⟨g2, 0, rfl, k2, fun i hi => by rw [Nat.zero_add]; exact kh i hi⟩⟩
  clear b2 kh hg hw1
  obtain ⟨g, hg⟩ : ∃ g, w2.heap.size = g := ⟨_, rfl⟩
  obtain ⟨w3, hw3⟩ : ∃ w3, ((w2.alloc (.cells #[.int .u8 2] 5)).alloc (.cells #[.slice a 16 cap, .slice (some ⟨w2.heap.size, 0, none⟩) 1 1, .slice (some ⟨g2, 0, none⟩) 16 cap2] 22)) = w3 := ⟨_, rfl⟩
  have hb3 : Below w2.heap.size w2 w3 := by rw [← hw3]; exact ((Below.refl _ w2).alloc (Nat.le_refl _) _).alloc (by simp) _
  have hx0 : Blk w3 g 5 #[.int .u8 ((2 : UInt8).toNat : Int)] := by rw [← hw3, ← hg]; exact (Blk.new w2 5 #[.int .u8 2]).alloc _
  have hx1 : Blk w3 (g + 1) 22 #[.slice a 16 cap, .slice (some ⟨g, 0, none⟩) 1 1, .slice (some ⟨g2, 0, none⟩) 16 cap2] := by
    have := Blk.new (w2.alloc (.cells #[.int .u8 2] 5)) 22 #[.slice a 16 cap, .slice (some ⟨w2.heap.size, 0, none⟩) 1 1, .slice (some ⟨g2, 0, none⟩) 16 cap2]
    rw [World.size_alloc, hw3, hg] at this
    exact this
  have hA3 := (hA2.below hb3).more hb3.size
  have hI3 := (hI2.below hb3).more hb3.size
  have ho3 := bsl_one w3 g 2 hx0 hx0.lt
  have hk := sumSum_any (g + 1) 3 [⟨a, 16, cap, k⟩, ⟨some ⟨g, 0, none⟩, 1, 1, [2]⟩, ⟨some ⟨g2, 0, none⟩, 16, cap2, bytesW x 4⟩] w3 hx1.lt (by simp) (by simp)
    (fun i h => by
      have : i = 0 ∨ i = 1 ∨ i = 2 := by simp at h; omega
      rcases this with rfl | rfl | rfl
      · exact hx1.cell 0
      · exact hx1.cell 1
      · exact hx1.cell 2)
    (fun i h => by
      have : i = 0 ∨ i = 1 ∨ i = 2 := by simp at h; omega
      rcases this with rfl | rfl | rfl
      · exact hA3
      · exact ho3
      · exact hI3)
    (by rw [flat3]; simp; omega) (by rw [flat3]; have := HKS.out; simp [bytesW_length]; omega)
  rw [flat3] at hk
  have hk' : Calls Try.prog 29 #[.func (.func 30) #[] #[], .slice (some ⟨g + 1, 0, none⟩) 3 3] w3 fun e w' => e = .returned (.int .u32 ((fourW (k ++ 2 :: bytesW x 4)).a.toNat : Int)) ∧ Below w3.heap.size w3 w' := hk
  rw [← HTG.out] at hk'
  have HK3 := Lib.hid hk'; clear hk' hk ho3 hI3 hA3 hx0 hx1 hI2 hA2
  have hb33 := hb2.trans (hb3.mono hb2.size)
  have HB3 := Lib.hid hb33; clear hb33 hb2 hb3
  go_wp2_with fail
  rw [hg] at hw3
  rw [hw3]
  refine HK3.out.mono ?_
  rintro e w4 ⟨rfl, b4⟩
  have hb4 := HB3.out.trans (b4.mono HB3.out.size)
  have HB4 := Lib.hid hb4; clear hb4 b4 hg hw3
  go_wp2_with fail
  go_ret2
  exact ⟨rfl, HB4.out⟩
end Go.Proofs.Ytomobnecdkachaa
