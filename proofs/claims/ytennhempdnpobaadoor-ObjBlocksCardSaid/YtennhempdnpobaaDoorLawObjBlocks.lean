/-
  ObjBlocksSaid: for any two objects and bytes (of more than 1,000 pointers or 10,000 bytes nothing is asked) objects are checked, compared, written and read as the document's own functions do it, and they stay, where the pointers of what was read are written to. No condition but the tied one: ptr.sizes reads as its own initialiser lays it.
-/
import Derived.Test.YtennhempdnpobaaDoorLawObjB
import Derived.Test.YtennhempdnpobaaDoorObMath
import Derived.Test.YtennhempdnpobaaDoorObOpen
import Derived.Test.YtennhempdnpobaaDoorPtOpen
namespace Go.Proofs.YtennhempdnpobaaDoor
open Go.RowKit Go.Shelf
set_option maxRecDepth 100000

theorem below_none {w w' : World} (h : w.grownBy w' (Value.ownBlock (.slice none 0 0))) : Below w.heap.size w w' := ⟨h.os, h.tape, h.output, h.size, fun i hi => h.block i hi (by simp [Value.ownBlock])⟩
theorem bool_of (p : Prop) : ∃ R : Bool, R = true ↔ p := by
  by_cases h : p
  · exact ⟨true, fun _ => h, fun _ => rfl⟩
  · exact ⟨false, fun e => (by cases e), fun x => absurd x h⟩
theorem check_of (O : ObL) : ∃ z : Nat, (MayOb O → z = 0) ∧ (¬ MayOb O → z = 8) := by
  by_cases h : MayOb O
  · exact ⟨0, fun _ => rfl, fun x => absurd h x⟩
  · exact ⟨8, fun x => absurd x h, fun _ => rfl⟩
/-- The pointers that were read, in a block of the call's own. -/
def Data9 (W : World) (L gU n : Nat) (a : Option Addr) : Prop := 0 < n → ∃ g off cs, a = some ⟨g, off, none⟩ ∧ L ≤ g ∧ g < gU ∧ Blk W g 42 cs ∧ ∀ i, i < n → off + i * 5 < cs.size
theorem data9_of {W : World} {L gU n c : Nat} {a : Option Addr} {l : List Pt} (h : Pts W W.heap.size a n c l) (hi : HiP W L a) (hg : W.heap.size ≤ gU) : Data9 W L gU n a := fun h0 => by
  obtain ⟨b, off, rfl, hlt, _⟩ := h.2.2.2.2 h0
  obtain ⟨h1, cs, h2⟩ := hi _ rfl
  refine ⟨b, off, cs, rfl, h1, Nat.lt_of_lt_of_le hlt hg, h2, fun i hi => ?_⟩
  obtain ⟨_, _, e, _, _, h3, _⟩ := h.cells i hi
  cases e
  rw [h2.cell] at h3
  exact (Array.getElem?_eq_some_iff.1 h3).1
theorem Data9.below {W W' : World} {L gU n : Nat} {a : Option Addr} (h : Data9 W L gU n a) (hb : Below W.heap.size W W') : Data9 W' L gU n a := fun h0 => by
  obtain ⟨g, off, cs, e, h1, h2, h3, h4⟩ := h h0
  exact ⟨g, off, cs, e, h1, h2, h3.below hb h3.lt, h4⟩
set_option linter.unusedSimpArgs false in
set_option maxHeartbeats 16000000 in
theorem objBlocks_walk (a : Option Addr) (c : Nat) (O : ObL) (b : Option Addr) (d : Nat) (M : ObL) (A : Option Addr) (lb cb : Nat) (s : List UInt8) (w : World) (hz : Szs w) (h : Pts w w.heap.size a O.2.2.2.length c O.2.2.2) (hw : WfOb O) (h' : Pts w w.heap.size b M.2.2.2.length d M.2.2.2) (hw' : WfOb M) (hA : Bsl w w.heap.size A lb cb s) :
    Calls Tryd.prog 4 #[obV a c O, obV b d M, .slice A lb cb] w fun e w' => e = .returned (.bool true) ∧ Below w.heap.size w w' := by
  have hmx : Tryd.prog.follows Departure.mixedOrders = true := by kernel_rfl
  have hl9 := hA.len_le
  obtain rfl := hA.1
  obtain ⟨k, l, r, Lp⟩ := O
  obtain ⟨k', l', r', Mp⟩ := M
  simp only at h h'
  obtain ⟨n, hn⟩ : ∃ n, Lp.length = n := ⟨_, rfl⟩
  obtain ⟨m, hm⟩ : ∃ m, Mp.length = m := ⟨_, rfl⟩
  have HCO := Lib.hid (fun W hW z hz => obCheck_any a c (k, l, r, Lp) W hW hw z hz)
  have HDO := Lib.hid (fun W hW z hz => roCheck_any a c (k, l, r, Lp) W hW hw z hz)
  have HWO := Lib.hid (fun W hW hz => obWrite_any a c (k, l, r, Lp) W hW hw hz)
  have HWD := Lib.hid (fun W hW => roWrite_any a c (k, l, r, Lp) W hW hw)
  have HSA := Lib.hid (fun W hW hW' R hR => obSame_any a c (k, l, r, Lp) b d (k', l', r', Mp) W hW hW' R hR)
  have HSD := Lib.hid (fun W hW hW' R hR => roSame_any a c (k, l, r, Lp) b d (k', l', r', Mp) W hW hW' R hR)
  simp only [obV] at HCO HDO HWO HWD HSA HSD ⊢
  rw [hn] at h HCO HDO HWO HWD HSA HSD ⊢
  rw [hm] at h' HSA HSD ⊢
  have hn9 := h.2.1
  have hc9 := h.2.2.1
  have hm9 := h'.2.1
  have hd9 := h'.2.2.1
  have n0 : (0 : Int) ≤ n := by omega
  have n9 : (n : Int) ≤ 9223372036854775807 := by unfold maxLen at hc9; omega
  have m0 : (0 : Int) ≤ m := by omega
  have m9 : (m : Int) ≤ 9223372036854775807 := by unfold maxLen at hd9; omega
  have l0 : (0 : Int) ≤ s.length := by omega
  have HN := Lib.hid hn
  have x0 := (Blk.new w 24 #[.int .u8 (k : Int), .int .i64 l, .int .i64 r, .slice a n c]).alloc (.cells #[.int .u8 (k' : Int), .int .i64 l', .int .i64 r', .slice b m d] 24)
  have y0 := Blk.new (w.alloc (.cells #[.int .u8 (k : Int), .int .i64 l, .int .i64 r, .slice a n c] 24)) 24 #[.int .u8 (k' : Int), .int .i64 l', .int .i64 r', .slice b m d]
  rw [World.size_alloc] at y0
  have b0 := ((Below.refl w.heap.size w).alloc (Nat.le_refl _) (.cells #[.int .u8 (k : Int), .int .i64 l, .int .i64 r, .slice a n c] 24)).alloc (by rw [World.size_alloc]; omega) (.cells #[.int .u8 (k' : Int), .int .i64 l', .int .i64 r', .slice b m d] 24)
  obtain ⟨w0, hw0⟩ : ∃ w0, (w.alloc (.cells #[.int .u8 (k : Int), .int .i64 l, .int .i64 r, .slice a n c] 24)).alloc (.cells #[.int .u8 (k' : Int), .int .i64 l', .int .i64 r', .slice b m d] 24) = w0 := ⟨_, rfl⟩
  rw [hw0] at x0 y0 b0
  have HX := Lib.hid x0
  have HY := Lib.hid y0
  have HP := Lib.hid (h.step b0)
  have HQ := Lib.hid (h'.step b0)
  have HA := Lib.hid (hA.step b0)
  have HZ := Lib.hid (hz.step b0)
  have HB := Lib.hid b0
  have c3 := ox3 x0
  have d3 := ox3 y0
  clear x0 y0 b0 h h' hz hn hm hw hw' hA hn9 hc9 hm9 hd9
  by_cases h1 : (1000 : Int) < n
  · go_enter Tryd.func4, Tryd.ntmps4
    go_wp2_with fail
    go_ret
    exact ⟨rfl, HB.out⟩
  · by_cases h2 : (1000 : Int) < m
    · go_enter Tryd.func4, Tryd.ntmps4
      go_wp2_with fail
      go_ret
      exact ⟨rfl, HB.out⟩
    · by_cases h3 : (10000 : Int) < s.length
      · go_enter Tryd.func4, Tryd.ntmps4
        go_wp2_with fail
        go_ret
        exact ⟨rfl, HB.out⟩
      · have a1 : ∀ o : Obj, True := fun _ => trivial
        clear a1
        go_enter Tryd.func4, Tryd.ntmps4
        go_wp2_with (first
          | (at_builtin
             try rw [hw0]
             refine wpList_append_prow rfl (.const (.slice none 0 0)) (.tmp 34) rfl w0.heap.size (.slice none 0 0) [] rfl (prow_nil _ _) w0.heap.size a n c Lp rfl HP.out (by simp; omega) (Nat.le_refl _) ?_
             intro vo w1 ho hgo
             rw [List.nil_append] at ho
             have bq := below_none hgo
             have po := ho.pts
             rw [HN.out] at po
             obtain ⟨Ao, Co, rfl, po⟩ := po
             have HO := Lib.hid po
             replace HX := Lib.hid (HX.out.below bq HX.out.lt)
             replace HY := Lib.hid (HY.out.below bq HY.out.lt)
             replace HP := Lib.hid (HP.out.step bq)
             replace HQ := Lib.hid (HQ.out.step bq)
             replace HA := Lib.hid (HA.out.step bq)
             replace HZ := Lib.hid (HZ.out.step bq)
             replace HB := Lib.hid (HB.out.trans (bq.mono HB.out.size))
             clear ho hgo bq po hw0)
          | (at_builtin
             refine wpList_append_bsl rfl (.const (.slice none 0 0)) (.tmp 36) rfl w1.heap.size (.slice none 0 0) 0 [] rfl (own_nil _ _) w1.heap.size A s.length cb s rfl HA.out (by omega) (Nat.le_refl _) ?_
             intro vm w2 hm hgm
             simp only [Nat.zero_add, List.nil_append] at hm
             have bq := below_none hgm
             obtain ⟨Am, Cm, rfl, sm⟩ := own_to hm
             have HM := Lib.hid sm
             replace HX := Lib.hid (HX.out.below bq HX.out.lt)
             replace HY := Lib.hid (HY.out.below bq HY.out.lt)
             replace HP := Lib.hid (HP.out.step bq)
             replace HQ := Lib.hid (HQ.out.step bq)
             replace HA := Lib.hid (HA.out.step bq)
             replace HZ := Lib.hid (HZ.out.step bq)
             replace HB := Lib.hid (HB.out.trans (bq.mono HB.out.size))
             replace HO := Lib.hid (HO.out.step bq)
             clear c3
             have c0 := ox0 HX.out
             have c1 := ox1 HX.out
             have c2 := ox2 HX.out
             have c3 := ox3 HX.out
             clear hm hgm bq sm)
        )
        clear c0 c1 c2 c3 d3
        obtain ⟨⟨S1, z1⟩, hS⟩ : ∃ S, owriteO (k, l, r, Lp) = S := ⟨_, rfl⟩
        have hwr := HWO.out w2 HP.out HZ.out
        rw [hS] at hwr
        refine hwr.mono ?_
        rintro e w3 ⟨v, rfl, ho, bq⟩
        replace HX := Lib.hid (HX.out.below bq HX.out.lt)
        replace HY := Lib.hid (HY.out.below bq HY.out.lt)
        replace HP := Lib.hid (HP.out.step bq)
        replace HQ := Lib.hid (HQ.out.step bq)
        replace HA := Lib.hid (HA.out.step bq)
        replace HZ := Lib.hid (HZ.out.step bq)
        replace HB := Lib.hid (HB.out.trans (bq.mono HB.out.size))
        replace HO := Lib.hid (HO.out.step bq)
        replace HM := Lib.hid (HM.out.step bq)
        obtain ⟨A3, C3, rfl, hbs⟩ := own_to ho
        have HS := Lib.hid hbs
        clear bq hwr ho hbs
        have c0 := ox0 HX.out
        have c1 := ox1 HX.out
        have c2 := ox2 HX.out
        have c3 := ox3 HX.out
        go_wp2_with fail
        clear c0 c1 c2 c3
        have hwr := HWD.out w3 HP.out
        rw [hS] at hwr
        refine hwr.mono ?_
        rintro e w4 ⟨v, rfl, ho, bq⟩
        replace HX := Lib.hid (HX.out.below bq HX.out.lt)
        replace HY := Lib.hid (HY.out.below bq HY.out.lt)
        replace HP := Lib.hid (HP.out.step bq)
        replace HQ := Lib.hid (HQ.out.step bq)
        replace HA := Lib.hid (HA.out.step bq)
        replace HZ := Lib.hid (HZ.out.step bq)
        replace HB := Lib.hid (HB.out.trans (bq.mono HB.out.size))
        replace HO := Lib.hid (HO.out.step bq)
        replace HM := Lib.hid (HM.out.step bq)
        replace HS := Lib.hid (HS.out.step bq)
        obtain ⟨A4, C4, rfl, hbs⟩ := own_to ho
        have HT := Lib.hid hbs
        clear bq hwr ho hbs hS HWO HWD
        obtain ⟨⟨⟨k5, l5, r5, L5⟩, z5⟩, hR⟩ : ∃ S, oreadO s = S := ⟨_, rfl⟩
        obtain ⟨n5, hn5⟩ : ∃ n, L5.length = n := ⟨_, rfl⟩
        have hrd := obRead_any Am Cm s w4 HM.out HZ.out
        rw [hR] at hrd
        have HRD := Lib.hid hrd
        have HR := Lib.hid hR
        have HN5 := Lib.hid hn5
        clear hrd hR hn5
        go_wp2_with fail
        refine HRD.out.mono ?_
        rintro e w5 ⟨a5, c5, rfl, hp5, hi5, bq⟩
        simp only [HN5.out] at hp5 hi5 ⊢
        have HPL := Lib.hid HP.out
        have HOL := Lib.hid HO.out
        have HML := Lib.hid HM.out
        have HAL := Lib.hid HA.out
        have HXL := Lib.hid HX.out
        have HBB := Lib.hid HB.out
        have HBL := Lib.hid bq
        replace HX := Lib.hid (HX.out.below bq HX.out.lt)
        replace HY := Lib.hid (HY.out.below bq HY.out.lt)
        replace HP := Lib.hid (HP.out.step bq)
        replace HQ := Lib.hid (HQ.out.step bq)
        replace HA := Lib.hid (HA.out.step bq)
        replace HZ := Lib.hid (HZ.out.step bq)
        replace HB := Lib.hid (HB.out.trans (bq.mono HB.out.size))
        replace HO := Lib.hid (HO.out.step bq)
        replace HM := Lib.hid (HM.out.step bq)
        replace HS := Lib.hid (HS.out.step bq)
        replace HT := Lib.hid (HT.out.step bq)
        have HD := Lib.hid hp5
        have HI := Lib.hid hi5
        clear bq hp5 hi5 HRD
        have HSZ := Lib.hid (data9_of HD.out HI.out (Nat.le_refl _))
        have bq := (Below.refl w5.heap.size w5).alloc (Nat.le_refl _) (.cells #[.int .u8 (k5 : Int), .int .i64 l5, .int .i64 r5, .slice a5 n5 c5] 24)
        have xq := Blk.new w5 24 #[.int .u8 (k5 : Int), .int .i64 l5, .int .i64 r5, .slice a5 n5 c5]
        obtain ⟨w6, hnw6⟩ : ∃ X, w5.alloc (.cells #[.int .u8 (k5 : Int), .int .i64 l5, .int .i64 r5, .slice a5 n5 c5] 24) = X := ⟨_, rfl⟩
        rw [hnw6] at bq xq
        have HU := Lib.hid xq
        replace HX := Lib.hid (HX.out.below bq HX.out.lt)
        replace HY := Lib.hid (HY.out.below bq HY.out.lt)
        replace HP := Lib.hid (HP.out.step bq)
        replace HQ := Lib.hid (HQ.out.step bq)
        replace HA := Lib.hid (HA.out.step bq)
        replace HZ := Lib.hid (HZ.out.step bq)
        replace HB := Lib.hid (HB.out.trans (bq.mono HB.out.size))
        replace HO := Lib.hid (HO.out.step bq)
        replace HM := Lib.hid (HM.out.step bq)
        replace HS := Lib.hid (HS.out.step bq)
        replace HT := Lib.hid (HT.out.step bq)
        replace HBL := Lib.hid (HBL.out.trans (bq.mono HBL.out.size))
        replace HD := Lib.hid (HD.out.step bq)
        replace HI := Lib.hid (HI.out.below bq)
        replace HSZ := Lib.hid (HSZ.out.below bq)
        obtain ⟨gU, hgU⟩ : ∃ X, w5.heap.size = X := ⟨_, rfl⟩
        rw [hgU] at HU HSZ
        clear bq xq
        have hrd := roRead_any A cb s w6 HA.out
        rw [HR.out] at hrd
        have HRD := Lib.hid hrd
        clear hrd
        go_wp2_with fail
        try rw [hnw6]
        try rw [hgU]
        clear hnw6
        refine HRD.out.mono ?_
        rintro e w7 ⟨v, rfl, hpr, bq⟩
        obtain ⟨a6, c6, rfl, hp6⟩ := hpr.pts
        simp only [HN5.out] at hp6 ⊢
        replace HX := Lib.hid (HX.out.below bq HX.out.lt)
        replace HY := Lib.hid (HY.out.below bq HY.out.lt)
        replace HP := Lib.hid (HP.out.step bq)
        replace HQ := Lib.hid (HQ.out.step bq)
        replace HA := Lib.hid (HA.out.step bq)
        replace HZ := Lib.hid (HZ.out.step bq)
        replace HB := Lib.hid (HB.out.trans (bq.mono HB.out.size))
        replace HO := Lib.hid (HO.out.step bq)
        replace HM := Lib.hid (HM.out.step bq)
        replace HS := Lib.hid (HS.out.step bq)
        replace HT := Lib.hid (HT.out.step bq)
        replace HBL := Lib.hid (HBL.out.trans (bq.mono HBL.out.size))
        replace HD := Lib.hid (HD.out.step bq)
        replace HI := Lib.hid (HI.out.below bq)
        replace HU := Lib.hid (HU.out.below bq HU.out.lt)
        replace HSZ := Lib.hid (HSZ.out.below bq)
        have HE := Lib.hid hp6
        clear bq hp6 hpr HRD hgU
        have bq := (Below.refl w7.heap.size w7).alloc (Nat.le_refl _) (.cells #[.int .u8 (k5 : Int), .int .i64 l5, .int .i64 r5, .slice a6 n5 c6] 24)
        have xq := Blk.new w7 24 #[.int .u8 (k5 : Int), .int .i64 l5, .int .i64 r5, .slice a6 n5 c6]
        obtain ⟨w8, hnw8⟩ : ∃ X, w7.alloc (.cells #[.int .u8 (k5 : Int), .int .i64 l5, .int .i64 r5, .slice a6 n5 c6] 24) = X := ⟨_, rfl⟩
        rw [hnw8] at bq xq
        have HV := Lib.hid xq
        replace HX := Lib.hid (HX.out.below bq HX.out.lt)
        replace HY := Lib.hid (HY.out.below bq HY.out.lt)
        replace HP := Lib.hid (HP.out.step bq)
        replace HQ := Lib.hid (HQ.out.step bq)
        replace HA := Lib.hid (HA.out.step bq)
        replace HZ := Lib.hid (HZ.out.step bq)
        replace HB := Lib.hid (HB.out.trans (bq.mono HB.out.size))
        replace HO := Lib.hid (HO.out.step bq)
        replace HM := Lib.hid (HM.out.step bq)
        replace HS := Lib.hid (HS.out.step bq)
        replace HT := Lib.hid (HT.out.step bq)
        replace HBL := Lib.hid (HBL.out.trans (bq.mono HBL.out.size))
        replace HD := Lib.hid (HD.out.step bq)
        replace HI := Lib.hid (HI.out.below bq)
        replace HU := Lib.hid (HU.out.below bq HU.out.lt)
        replace HE := Lib.hid (HE.out.step bq)
        replace HSZ := Lib.hid (HSZ.out.below bq)
        obtain ⟨gV, hgV⟩ : ∃ X, w7.heap.size = X := ⟨_, rfl⟩
        rw [hgV] at HV
        clear bq xq
        obtain ⟨R, hRR⟩ := bool_of (((k, l, r, Lp) : ObL) = (k', l', r', Mp))
        obtain ⟨z, hzz⟩ := check_of (k, l, r, Lp)
        have HRR := Lib.hid hRR
        have HZZ := Lib.hid hzz
        have HSU := Lib.hid (fun W hW hW' => roSame_any a5 c5 (k5, l5, r5, L5) a6 c6 (k5, l5, r5, L5) W hW hW' true (by simp))
        simp only [obV, HN5.out] at HSU
        have ne1 : ((z1 : Int) != (z1 : Int)) = false := by simp
        have ne5 : ((z5 : Int) != (z5 : Int)) = false := by simp
        have nez : ((z : Int) != (z : Int)) = false := by simp
        have neR : (R != R) = false := by simp
        obtain ⟨t1, ht1⟩ : ∃ X, strOf S1 = X := ⟨_, rfl⟩
        have neS : (t1.toList == t1.toList) = true := by simp
        have HTT := Lib.hid ht1
        clear hRR hzz ht1
        go_wp2_with fail
        try rw [hnw8]
        try rw [hgV]
        clear hnw8 hgV
        obtain ⟨wd, hwd⟩ : ∃ wd, w8.drew = wd := ⟨_, rfl⟩
        have bq : Below w8.heap.size w8 wd := by rw [← hwd]; exact (Below.refl _ w8).drew
        replace HX := Lib.hid (HX.out.below bq HX.out.lt)
        replace HY := Lib.hid (HY.out.below bq HY.out.lt)
        replace HP := Lib.hid (HP.out.step bq)
        replace HQ := Lib.hid (HQ.out.step bq)
        replace HA := Lib.hid (HA.out.step bq)
        replace HZ := Lib.hid (HZ.out.step bq)
        replace HB := Lib.hid (HB.out.trans (bq.mono HB.out.size))
        replace HO := Lib.hid (HO.out.step bq)
        replace HM := Lib.hid (HM.out.step bq)
        replace HS := Lib.hid (HS.out.step bq)
        replace HT := Lib.hid (HT.out.step bq)
        replace HBL := Lib.hid (HBL.out.trans (bq.mono HBL.out.size))
        replace HD := Lib.hid (HD.out.step bq)
        replace HI := Lib.hid (HI.out.below bq)
        replace HU := Lib.hid (HU.out.below bq HU.out.lt)
        replace HE := Lib.hid (HE.out.step bq)
        replace HV := Lib.hid (HV.out.below bq HV.out.lt)
        replace HSZ := Lib.hid (HSZ.out.below bq)
        have HX9 := Lib.hid HX.out
        have HY9 := Lib.hid HY.out
        have HU9 := Lib.hid HU.out
        have HV9 := Lib.hid HV.out
        have HS9 := Lib.hid HS.out
        have HT9 := Lib.hid HT.out
        have hwd0 := Below.refl wd.heap.size wd
        refine wpI_start (Below wd.heap.size wd) [0, 1, 2, 3, 4, 5, 6, 7, 8, 9, 10, 11, 12, 13, 14, 15, 16, 17, 18, 19, 20, 21, 22, 24, 23, 25, 26, 27, 28, 29, 30, 32, 33, 31, 34, 35, 36] hmx rfl hwd ?_
        clear hwd bq HY HS HT HV HO HM HA HZ HI
        iterate 11 (
          refine wpI_read (v := ?_) hwd0 rfl (by kernel_rfl) (by kernel_rfl) (by kernel_rfl) (fun _ _ _ h => h) (.inl ⟨by rfl, ?_⟩) ?_
          rotate_left
          · intro X hX
            have s1 := (HS9.out.below hX).conv
            have s2 := (HT9.out.below hX).conv
            rw [HTT.out] at s1 s2
            clear hX
            go_simp
            with_reducible rfl
          try simp only [Act.put, List.setIfInBounds_toArray, List.set_cons_zero, List.set_cons_succ])
        iterate 2 (
          refine wpI_read (v := ?_) hwd0 rfl (by kernel_rfl) (by kernel_rfl) (by kernel_rfl) (fun _ _ _ h => h) (.inl ⟨by rfl, ?_⟩) ?_
          rotate_left
          · intro X hX
            have c0 := ox0 (HX9.out.below hX HX9.out.lt)
            have c1 := ox1 (HX9.out.below hX HX9.out.lt)
            have c2 := ox2 (HX9.out.below hX HX9.out.lt)
            have c3 := ox3 (HX9.out.below hX HX9.out.lt)
            have d0 := ox0 (HY9.out.below hX HY9.out.lt)
            have d1 := ox1 (HY9.out.below hX HY9.out.lt)
            have d2 := ox2 (HY9.out.below hX HY9.out.lt)
            have d3 := ox3 (HY9.out.below hX HY9.out.lt)
            have u0 := ox0 (HU9.out.below hX HU9.out.lt)
            have u1 := ox1 (HU9.out.below hX HU9.out.lt)
            have u2 := ox2 (HU9.out.below hX HU9.out.lt)
            have u3 := ox3 (HU9.out.below hX HU9.out.lt)
            have v0 := ox0 (HV9.out.below hX HV9.out.lt)
            have v1 := ox1 (HV9.out.below hX HV9.out.lt)
            have v2 := ox2 (HV9.out.below hX HV9.out.lt)
            have v3 := ox3 (HV9.out.below hX HV9.out.lt)
            clear hX
            go_simp
            with_reducible rfl
          try simp only [Act.put, List.setIfInBounds_toArray, List.set_cons_zero, List.set_cons_succ])
        refine wpI_lone rfl (by kernel_rfl) (fun K hK => ?_)
        go_simp
        refine (HSU.out wd HD.out HE.out).mono ?_
        rintro ev x1 ⟨rfl, bq⟩
        have hsx1 := hwd0.trans (bq.mono hwd0.size)
        replace HP := Lib.hid (HP.out.step bq)
        replace HQ := Lib.hid (HQ.out.step bq)
        replace HD := Lib.hid (HD.out.step bq)
        replace HE := Lib.hid (HE.out.step bq)
        replace HB := Lib.hid (HB.out.trans (bq.mono HB.out.size))
        replace HBL := Lib.hid (HBL.out.trans (bq.mono HBL.out.size))
        replace HU := Lib.hid (HU.out.below bq HU.out.lt)
        replace HX := Lib.hid (HX.out.below bq HX.out.lt)
        replace HSZ := Lib.hid (HSZ.out.below bq)
        refine hK _ _ hsx1 ?_
        clear hK K bq
        try simp only [Act.put, List.setIfInBounds_toArray, List.set_cons_zero, List.set_cons_succ]
        iterate 8 (
          refine wpI_read (v := ?_) hsx1 rfl (by kernel_rfl) (by kernel_rfl) (by kernel_rfl) (fun _ _ _ h => h) (.inl ⟨by rfl, ?_⟩) ?_
          rotate_left
          · intro X hX
            clear hX
            go_simp
            with_reducible rfl
          try simp only [Act.put, List.setIfInBounds_toArray, List.set_cons_zero, List.set_cons_succ])
        iterate 2 (
          refine wpI_read (v := ?_) hsx1 rfl (by kernel_rfl) (by kernel_rfl) (by kernel_rfl) (fun _ _ _ h => h) (.inl ⟨by rfl, ?_⟩) ?_
          rotate_left
          · intro X hX
            have c0 := ox0 (HX9.out.below hX HX9.out.lt)
            have c1 := ox1 (HX9.out.below hX HX9.out.lt)
            have c2 := ox2 (HX9.out.below hX HX9.out.lt)
            have c3 := ox3 (HX9.out.below hX HX9.out.lt)
            have d0 := ox0 (HY9.out.below hX HY9.out.lt)
            have d1 := ox1 (HY9.out.below hX HY9.out.lt)
            have d2 := ox2 (HY9.out.below hX HY9.out.lt)
            have d3 := ox3 (HY9.out.below hX HY9.out.lt)
            have u0 := ox0 (HU9.out.below hX HU9.out.lt)
            have u1 := ox1 (HU9.out.below hX HU9.out.lt)
            have u2 := ox2 (HU9.out.below hX HU9.out.lt)
            have u3 := ox3 (HU9.out.below hX HU9.out.lt)
            have v0 := ox0 (HV9.out.below hX HV9.out.lt)
            have v1 := ox1 (HV9.out.below hX HV9.out.lt)
            have v2 := ox2 (HV9.out.below hX HV9.out.lt)
            have v3 := ox3 (HV9.out.below hX HV9.out.lt)
            clear hX
            go_simp
            with_reducible rfl
          try simp only [Act.put, List.setIfInBounds_toArray, List.set_cons_zero, List.set_cons_succ])
        refine wpI_lone rfl (by kernel_rfl) (fun K hK => ?_)
        go_simp
        refine (HCO.out x1 HP.out z HZZ.out).mono ?_
        rintro ev x2 ⟨rfl, bq⟩
        have hsx2 := hsx1.trans (bq.mono hsx1.size)
        replace HP := Lib.hid (HP.out.step bq)
        replace HQ := Lib.hid (HQ.out.step bq)
        replace HD := Lib.hid (HD.out.step bq)
        replace HE := Lib.hid (HE.out.step bq)
        replace HB := Lib.hid (HB.out.trans (bq.mono HB.out.size))
        replace HBL := Lib.hid (HBL.out.trans (bq.mono HBL.out.size))
        replace HU := Lib.hid (HU.out.below bq HU.out.lt)
        replace HX := Lib.hid (HX.out.below bq HX.out.lt)
        replace HSZ := Lib.hid (HSZ.out.below bq)
        refine hK _ _ hsx2 ?_
        clear hK K bq
        try simp only [Act.put, List.setIfInBounds_toArray, List.set_cons_zero, List.set_cons_succ]
        refine wpI_lone rfl (by kernel_rfl) (fun K hK => ?_)
        go_simp
        refine (HDO.out x2 HP.out z HZZ.out).mono ?_
        rintro ev x3 ⟨rfl, bq⟩
        have hsx3 := hsx2.trans (bq.mono hsx2.size)
        replace HP := Lib.hid (HP.out.step bq)
        replace HQ := Lib.hid (HQ.out.step bq)
        replace HD := Lib.hid (HD.out.step bq)
        replace HE := Lib.hid (HE.out.step bq)
        replace HB := Lib.hid (HB.out.trans (bq.mono HB.out.size))
        replace HBL := Lib.hid (HBL.out.trans (bq.mono HBL.out.size))
        replace HU := Lib.hid (HU.out.below bq HU.out.lt)
        replace HX := Lib.hid (HX.out.below bq HX.out.lt)
        replace HSZ := Lib.hid (HSZ.out.below bq)
        refine hK _ _ hsx3 ?_
        clear hK K bq
        try simp only [Act.put, List.setIfInBounds_toArray, List.set_cons_zero, List.set_cons_succ]
        iterate 3 (
          refine wpI_read (v := ?_) hsx3 rfl (by kernel_rfl) (by kernel_rfl) (by kernel_rfl) (fun _ _ _ h => h) (.inl ⟨by rfl, ?_⟩) ?_
          rotate_left
          · intro X hX
            clear hX
            go_simp
            with_reducible rfl
          try simp only [Act.put, List.setIfInBounds_toArray, List.set_cons_zero, List.set_cons_succ])
        iterate 4 (
          refine wpI_read (v := ?_) hsx3 rfl (by kernel_rfl) (by kernel_rfl) (by kernel_rfl) (fun _ _ _ h => h) (.inl ⟨by rfl, ?_⟩) ?_
          rotate_left
          · intro X hX
            have c0 := ox0 (HX9.out.below hX HX9.out.lt)
            have c1 := ox1 (HX9.out.below hX HX9.out.lt)
            have c2 := ox2 (HX9.out.below hX HX9.out.lt)
            have c3 := ox3 (HX9.out.below hX HX9.out.lt)
            have d0 := ox0 (HY9.out.below hX HY9.out.lt)
            have d1 := ox1 (HY9.out.below hX HY9.out.lt)
            have d2 := ox2 (HY9.out.below hX HY9.out.lt)
            have d3 := ox3 (HY9.out.below hX HY9.out.lt)
            have u0 := ox0 (HU9.out.below hX HU9.out.lt)
            have u1 := ox1 (HU9.out.below hX HU9.out.lt)
            have u2 := ox2 (HU9.out.below hX HU9.out.lt)
            have u3 := ox3 (HU9.out.below hX HU9.out.lt)
            have v0 := ox0 (HV9.out.below hX HV9.out.lt)
            have v1 := ox1 (HV9.out.below hX HV9.out.lt)
            have v2 := ox2 (HV9.out.below hX HV9.out.lt)
            have v3 := ox3 (HV9.out.below hX HV9.out.lt)
            clear hX
            go_simp
            with_reducible rfl
          try simp only [Act.put, List.setIfInBounds_toArray, List.set_cons_zero, List.set_cons_succ])
        refine wpI_lone rfl (by kernel_rfl) (fun K hK => ?_)
        go_simp
        refine (HSA.out x3 HP.out HQ.out R HRR.out).mono ?_
        rintro ev x4 ⟨rfl, bq⟩
        have hsx4 := hsx3.trans (bq.mono hsx3.size)
        replace HP := Lib.hid (HP.out.step bq)
        replace HQ := Lib.hid (HQ.out.step bq)
        replace HD := Lib.hid (HD.out.step bq)
        replace HE := Lib.hid (HE.out.step bq)
        replace HB := Lib.hid (HB.out.trans (bq.mono HB.out.size))
        replace HBL := Lib.hid (HBL.out.trans (bq.mono HBL.out.size))
        replace HU := Lib.hid (HU.out.below bq HU.out.lt)
        replace HX := Lib.hid (HX.out.below bq HX.out.lt)
        replace HSZ := Lib.hid (HSZ.out.below bq)
        refine hK _ _ hsx4 ?_
        clear hK K bq
        try simp only [Act.put, List.setIfInBounds_toArray, List.set_cons_zero, List.set_cons_succ]
        refine wpI_lone rfl (by kernel_rfl) (fun K hK => ?_)
        go_simp
        refine (HSD.out x4 HP.out HQ.out R HRR.out).mono ?_
        rintro ev x5 ⟨rfl, bq⟩
        have hsx5 := hsx4.trans (bq.mono hsx4.size)
        replace HP := Lib.hid (HP.out.step bq)
        replace HQ := Lib.hid (HQ.out.step bq)
        replace HD := Lib.hid (HD.out.step bq)
        replace HE := Lib.hid (HE.out.step bq)
        replace HB := Lib.hid (HB.out.trans (bq.mono HB.out.size))
        replace HBL := Lib.hid (HBL.out.trans (bq.mono HBL.out.size))
        replace HU := Lib.hid (HU.out.below bq HU.out.lt)
        replace HX := Lib.hid (HX.out.below bq HX.out.lt)
        replace HSZ := Lib.hid (HSZ.out.below bq)
        refine hK _ _ hsx5 ?_
        clear hK K bq
        try simp only [Act.put, List.setIfInBounds_toArray, List.set_cons_zero, List.set_cons_succ]
        iterate 2 (
          refine wpI_read (v := ?_) hsx5 rfl (by kernel_rfl) (by kernel_rfl) (by kernel_rfl) (fun _ _ _ h => h) (.inl ⟨by rfl, ?_⟩) ?_
          rotate_left
          · intro X hX
            clear hX
            go_simp
            with_reducible rfl
          try simp only [Act.put, List.setIfInBounds_toArray, List.set_cons_zero, List.set_cons_succ])
        refine wpI_done (by kernel_rfl) ?_
        clear hwd0 hsx1 hsx2 hsx3 hsx4 hsx5 ne1 ne5 nez neR neS HSU HCO HDO HSA HSD HX9 HY9 HU9 HV9 HS9 HT9
        have hn5c := HD.out.2.1
        have hc5c := HD.out.2.2.1
        have i0 : (0 : Int) ≤ n5 := by omega
        have i9 : (n5 : Int) ≤ 9223372036854775807 := by unfold maxLen at hc5c; omega
        clear hn5c hc5c
        go_wp2_with fail
        go_loopw [17] (fun i wr => ∃ j : Nat, j ≤ n5 ∧ i = .int .i64 j ∧ Blk wr gU 24 #[.int .u8 (k5 : Int), .int .i64 l5, .int .i64 r5, .slice a5 n5 c5] ∧ Data9 wr w4.heap.size gU n5 a5 ∧ Below w4.heap.size w4 wr) (fun i _ => n5 - (intOf i).toNat)
        case atStart => exact ⟨0, Nat.zero_le _, rfl, HU.out, HSZ.out, HBL.out⟩
        case round =>
          clear HU HSZ HBL HX HP HQ HD HE HB
          obtain ⟨j, hj, rfl, hu, hd, hb⟩ := hrel
          have j0 : (0 : Int) ≤ j := by omega
          have m3 := ox3 hu
          by_cases hlt : j < n5
          · have j1 : (j : Int) < n5 := by omega
            obtain ⟨g9, o9, cs, rfl, hg1, hg2, hk, hsz⟩ := hd (by omega)
            have hin := hsz j hlt
            have hcl : wr.cell? ⟨g9, o9 + j * 5, none⟩ = some (cs[o9 + j * 5]'hin) := by rw [hk.cell, Array.getElem?_eq_getElem hin]
            have hfz := hk.frozen (o9 + j * 5)
            have HU2 := Lib.hid (hu.far (p := ⟨g9, o9 + j * 5, none⟩) (show gU ≠ g9 by omega) (.int .i64 99))
            have HSZ2 := Lib.hid (show Data9 (wr.setCell ⟨g9, o9 + j * 5, none⟩ (.int .i64 99)) w4.heap.size gU n5 (some ⟨g9, o9, none⟩) from fun _ => ⟨g9, o9, _, rfl, hg1, hg2, hk.set_ _ _, fun i hi => by rw [Array.size_setIfInBounds]; exact hsz i hi⟩)
            have HB2 := Lib.hid (hb.setCell (p := ⟨g9, o9 + j * 5, none⟩) hg1 (.int .i64 99))
            clear hu hd hb hk hsz hg1 hg2
            go_wp2_with fail
            go_roundw
            case rel => exact ⟨j + 1, by omega, by go_num, HU2.out, HSZ2.out, HB2.out⟩
            case measure => simp [intOf]; omega
          · have j1 : ¬ (j : Int) < n5 := by omega
            have c3 := ox3 (HXL.out.below hb HXL.out.lt)
            have hsm := rpSame_any Ao n Co Lp a n c Lp wr (HOL.out.step hb) (HPL.out.step hb)
            rw [decide_eq_true (rfl : Lp = Lp)] at hsm
            have HSM := Lib.hid hsm
            have HBR := Lib.hid hb
            clear hu hd hb hsm
            go_wp2_with fail
            refine HSM.out.mono ?_
            rintro e x6 ⟨rfl, bq⟩
            replace HBR := Lib.hid (HBR.out.trans (bq.mono HBR.out.size))
            have V1 := (HML.out.step HBR.out).conv
            have V2 := (HAL.out.step HBR.out).conv
            have e1 : ((strOf s).toList == (strOf s).toList) = true := by simp
            clear bq c3 m3
            go_wp2_with fail
            go_ret
            exact ⟨rfl, HBB.out.trans (HBR.out.mono HBB.out.size)⟩
end Go.Proofs.YtennhempdnpobaaDoor
namespace Go.Proofs.YtennhempdnpobaaDoor.objBlocks
open Go.ChangeShapes Go.WideShapes Go.ChangeAt Go.RowKit
set_option linter.unusedVariables false

theorem own : ownKnob Tryd.prog.godebug = none := by kernel_rfl
theorem laidOut : laidOutB Tryd.prog = true := by kernel_rfl

set_option maxRecDepth 100000 in
theorem lifted (os : Os) (started : os.Started) (H : Type) (enc : TypeId × Value → H) :
    ReturnsInHanded {} Tryd.checked os 4 .any (fun w args => (Rows.objBlocksSpec.pre enc Tryd.prog Tryd.f4 [] false w args ∧ laidMetH Tryd.prog [("charterhouse/ptr.sizes", Rows.laid_charterhouse_ptr_sizes)] w) ∧ sizedMet enc Tryd.prog Tryd.f4 (OpenSpec.ofChange Rows.objBlocksSpec) false w args)
      (Rows.objBlocksSpec.post enc Tryd.prog Tryd.f4 false true false false) := by
  refine returnsInHanded_of_change_and (C := Tryd.checked) (X := fun w _ => laidMetH Tryd.prog [("charterhouse/ptr.sizes", Rows.laid_charterhouse_ptr_sizes)] w) (fun _ _ _ hh h => h.of_heap hh) own started (by kernel_rfl) Tryd.func4
    (ChangeSpec.witness_shaped (enc := enc) (C := Tryd.checked) (os := os) (X := fun w _ => laidMetH Tryd.prog [("charterhouse/ptr.sizes", Rows.laid_charterhouse_ptr_sizes)] w) false (World.doorLaid Tryd.prog 400 os) #[.agg #[.int .u8 0, .int .i64 0, .int .i64 0, .slice none 0 0], .agg #[.int .u8 0, .int .i64 0, .int .i64 0, .slice none 0 0], .slice none 0 0] 8 rfl (World.shaped_of_RefB (by kernel_rfl) (by kernel_rfl)) (by kernel_rfl) (by kernel_rfl) (by kernel_rfl) (door_met os _)) ?_
  intro W base args ds gs before hval0 hW _ _ hL _
  have hval : ∀ (j : Nat) t v, Tryd.f4.params[j]? = some t → args[j]? = some v → Value.okWide Tryd.prog W .any base t v := hval0
  have hW' := hW
  obtain ⟨p, q, hA0, hV, rfl, hfz, hnd⟩ := hW
  have hA : DataW.TrodAll enc Tryd.prog W 0 (fun _ => true) true Tryd.f4.params.toList args.toList ds p := hA0
  rw [Tryd.params4] at hA hval
  obtain ⟨v0, vs0, d0, ds0, p0, q0, hargs, rfl, rfl, h0, r0⟩ := trodAll_cons hA
  obtain ⟨v1, vs1, d1, ds1, p1, q1, rfl, rfl, rfl, h1, r1⟩ := trodAll_cons r0
  obtain ⟨v2, vs2, d2, ds2, p2, q2, rfl, rfl, rfl, h2, r2⟩ := trodAll_cons r1
  obtain ⟨rfl, rfl, rfl⟩ := trodAll_nil r2
  obtain rfl : args = #[v0, v1, v2] := by cases args; simp_all
  obtain ⟨rfl, rfl⟩ := trodVars_none hV
  have k0 := h0
  have lt0 : ∀ x ∈ p0, x.block < W.heap.size := by obtain ⟨m, hm⟩ := k0; exact DataW.trod_lt m _ _ _ hm
  obtain ⟨oa0, oc0, O0, rfl, w0, f0⟩ := open_object (hval 0 24 v0 rfl rfl) h0
  have k1 := h1
  have lt1 : ∀ x ∈ p1, x.block < W.heap.size := by obtain ⟨m, hm⟩ := k1; exact DataW.trod_lt m _ _ _ hm
  obtain ⟨oa1, oc1, O1, rfl, w1, f1⟩ := open_object (hval 1 24 v1 rfl rfl) h1
  obtain ⟨a2, len2, cap2, rfl⟩ := okWide_slice Tryd.underlying28 (hval 2 28 v2 rfl rfl)
  have k2 := h2
  have lt2 : ∀ x ∈ p2, x.block < W.heap.size := by obtain ⟨m, hm⟩ := k2; exact DataW.trod_lt m _ _ _ hm
  obtain ⟨z2, w2⟩ : ∃ zs, IsRow .u8 W a2 len2 cap2 zs := by
    obtain ⟨fuel, hf⟩ := h2
    rcases open_ints Tryd.underlying28 Tryd.underlying5 (by kernel_rfl) hf with ⟨hcs, _⟩ | ⟨x, l, c, zs, hcs, _, hl, hm, hz, _, hcell, hwz⟩
    · simp [Value.cells] at hcs
      obtain ⟨rfl, rfl, rfl⟩ := hcs
      exact ⟨[], .inl ⟨rfl, rfl, rfl, rfl⟩⟩
    · simp [Value.cells] at hcs
      obtain ⟨rfl, rfl, rfl⟩ := hcs
      exact ⟨zs, .inr ⟨_, rfl, hl, hm, by simpa using hz, hcell, hwz⟩⟩
  clear hA0 hval0
  refine (objBlocks_walk oa0 oc0 O0 oa1 oc1 O1 a2 len2 cap2 _ W (szs_of_laid hL) w0 f0 w1 f1 (bsl_of_row w2)).mono fun e W' ⟨he, bel⟩ => ?_
  subst he
  exact ⟨_, rfl, _, _, _, [], _, [], hW', trodAll_mk1 (shut_bool Tryd.underlying4 _), (trodAll_cons_mk (Below.trod laidOut (by kernel_rfl) (of_decide_eq_true (by kernel_rfl)) k0 bel lt0) (trodAll_cons_mk (Below.trod laidOut (by kernel_rfl) (of_decide_eq_true (by kernel_rfl)) k1 bel lt1) (trodAll_cons_mk (Below.trod laidOut (by kernel_rfl) (of_decide_eq_true (by kernel_rfl)) k2 bel lt2) trodAll_mk0))), rfl, bel.frame _, fun h => by cases h⟩

theorem over : Rows.ObjBlocksSaid :=
  OpenClaim.holds_of_wide 4 Tryd.f4 rfl rfl rfl rfl rfl rfl rfl ⟨rfl, rfl, rfl, rfl, rfl⟩ rfl rfl rfl rfl rfl (by kernel_rfl) Tryd.func4 (by kernel_rfl)
    (of_decide_eq_true (by kernel_rfl)) (by unfold Func.isWrapper; first | (rw [if_pos (by decide +kernel)]; kernel_rfl) | (rw [if_neg (by decide +kernel)]; exact ⟨rfl, rfl⟩))
    (fun os started H enc _ => lifted os started H enc)

/-- The statement. -/
theorem proved : Rows.ObjBlocksCardSaid :=
  Claim7.holds_tied_plain_at .later [] [.data] true _ false
    over (fun _ h => by cases h) (by kernel_rfl) (fun _ h => by cases h) objBlocks_row_tie rfl ⟨rfl, rfl⟩ (by kernel_rfl) rfl
    (fun f fn hf hfn => by
      obtain rfl : f = 4 := Option.some.inj ((show Tryd.prog.funcNamed "charterhouse/charterhouselaw14.ObjBlocks" = some 4 by kernel_rfl).symm.trans hf) |>.symm
      obtain rfl : fn = Tryd.f4 := (Option.some.inj (Tryd.func4.symm.trans hfn)).symm
      exact ⟨by kernel_rfl, fun j t ht => by
        rw [Tryd.params4] at ht
        have hm : t ∈ [24, 24, 28] := by simpa using Array.mem_of_getElem? ht
        have hall : ([24, 24, 28].all fun u => !Tryd.prog.wantsStandIn u) = true := by kernel_rfl
        exact (show Tryd.prog.wantsStandIn t = false by simpa using List.all_eq_true.1 hall t hm)⟩)
    (by kernel_rfl)
end Go.Proofs.YtennhempdnpobaaDoor.objBlocks
