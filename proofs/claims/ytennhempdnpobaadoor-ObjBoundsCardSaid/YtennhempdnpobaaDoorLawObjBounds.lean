/-
  ObjBoundsSaid: for any kind, number of names, size, place and pointer (all other places are holes) an object may be just where each is within its bounds. No condition but the tied one: ptr.sizes reads as its own initialiser lays it.
-/
import Derived.Test.YtennhempdnpobaaDoorLawObjB
import Derived.Test.YtennhempdnpobaaDoorPtOpen
namespace Go.Proofs.YtennhempdnpobaaDoor
open Go.RowKit Go.Shelf
set_option maxRecDepth 100000

/-- A hole is filled. -/
theorem noPts_set (i : Nat) (hi : i < 15) (p : Pt) : ((((noPts.setIfInBounds (i * 5) (.int .i64 p.1)).setIfInBounds (i * 5 + 1) (.int .u32 (p.2.1 : Int))).setIfInBounds (i * 5 + 2) (.int .u32 (p.2.2.1 : Int))).setIfInBounds (i * 5 + 3) (.int .u32 (p.2.2.2.1 : Int))).setIfInBounds (i * 5 + 4) (.int .u32 (p.2.2.2.2 : Int)) = (ptCs ((List.replicate 15 p0).set i p)).toArray := by
  have : i = 0 ∨ i = 1 ∨ i = 2 ∨ i = 3 ∨ i = 4 ∨ i = 5 ∨ i = 6 ∨ i = 7 ∨ i = 8 ∨ i = 9 ∨ i = 10 ∨ i = 11 ∨ i = 12 ∨ i = 13 ∨ i = 14 := by omega
  rcases this with rfl | rfl | rfl | rfl | rfl | rfl | rfl | rfl | rfl | rfl | rfl | rfl | rfl | rfl | rfl <;> rfl
theorem holes_set (i : Nat) (p : Pt) (hp : WfP p) : ∀ q ∈ (List.replicate 15 p0).set i p, WfP q := fun q hq => by
  rcases List.mem_or_eq_of_mem_set hq with h | h
  · rw [List.eq_of_mem_replicate h]; exact wf_p0
  · rw [h]; exact hp
theorem blk_pts {w : World} {g : Nat} {L : List Pt} (h : Blk w g 42 (ptCs L).toArray) (hw : ∀ q ∈ L, WfP q) (hl : L.length ≤ 1000) : Pts w w.heap.size (some ⟨g, 0, none⟩) L.length L.length L :=
  ⟨rfl, Nat.le_refl _, by unfold maxLen; omega, fun e => (by cases e), fun _ => ⟨g, 0, rfl, h.lt, fun i hi => ⟨hw _ (List.getElem_mem hi), fun j u hu => by
    rw [h.cell, Nat.zero_add]
    simpa using ptCs_get L i hi j u hu⟩⟩⟩
theorem may_set (k : Nat) (l s : Int) (i : Nat) (hi : i < 15) (p : Pt) : MayOb (k, l, s, (List.replicate 15 p0).set i p) ↔ ((1 ≤ k ∧ k ≤ 7) ∧ (0 ≤ l ∧ l ≤ 255) ∧ (0 ≤ s ∧ s ≤ 3840)) ∧ MayP p := by
  unfold MayOb HeadOb
  simp only [List.length_set, List.length_replicate, and_true]
  refine and_congr_right fun _ => ⟨fun h => h p ?_, fun h q hq => ?_⟩
  · exact List.mem_set (by simpa using hi) p
  · rcases List.mem_or_eq_of_mem_set hq with h2 | h2
    · rw [List.eq_of_mem_replicate h2]; exact may_p0
    · rw [h2]; exact h
set_option maxHeartbeats 8000000 in
theorem objBounds_walk (kz : Int) (l s : Int) (z : Int) (p : Pt) (w : World) (hz : Szs w) (wk : (Lit.int .u8 kz).wf = true) (wl : (Lit.int .i64 l).wf = true) (ws : (Lit.int .i64 s).wf = true) (wz : (Lit.int .u8 z).wf = true) (wp : WfP p) :
    Calls Tryd.prog 7 #[.int .u8 kz, .int .i64 l, .int .i64 s, .int .u8 z, ptV p] w fun e w' => e = .returned (.bool true) ∧ Below w.heap.size w w' := by
  have wk2 : 0 ≤ kz ∧ kz ≤ 255 := by simpa [Lit.wf, IntKind.min, IntKind.max, IntKind.signed, IntKind.bits] using wk
  have wz2 : 0 ≤ z ∧ z ≤ 255 := by simpa [Lit.wf, IntKind.min, IntKind.max, IntKind.signed, IntKind.bits] using wz
  have wl2 := wf_le wl
  have ws2 := wf_le ws
  obtain ⟨k, rfl⟩ : ∃ n : Nat, kz = (n : Int) := ⟨kz.toNat, by omega⟩
  obtain ⟨y, rfl⟩ : ∃ n : Nat, z = (n : Int) := ⟨z.toNat, by omega⟩
  have k0 : (0 : Int) ≤ (k : Int) := by omega
  have k9 : (k : Int) ≤ 255 := by omega
  have y0 : (0 : Int) ≤ (y : Int) := by omega
  have y9 : (y : Int) ≤ 255 := by omega
  have HK9 := Lib.hid (show k < 256 by omega)
  have HWL := Lib.hid wl2
  have HWS := Lib.hid ws2
  clear wk wz wl ws wk2 wz2 wl2 ws2
  obtain ⟨i, hi⟩ : ∃ i, y % 15 = i := ⟨_, rfl⟩
  have hi15 : i < 15 := by omega
  have HI := Lib.hid hi15
  have hmod : (y : Int) % 15 = (i : Int) := by omega
  have i0 : (0 : Int) ≤ i := by omega
  have i1 : (i : Int) < 15 := by omega
  have HMS := Lib.hid (may_set k l s i hi15 p)
  have HWP := Lib.hid wp
  obtain ⟨pa, pb, pc, pd, pe⟩ := p
  clear hi hi15 wp
  have x0 := Blk.new w 42 (ptC (pa, pb, pc, pd, pe)).toArray
  have b0 := (Below.refl w.heap.size w).alloc (Nat.le_refl _) (.cells (ptC (pa, pb, pc, pd, pe)).toArray 42)
  obtain ⟨w0, hw0⟩ : ∃ w0, w.alloc (.cells #[.int .i64 pa, .int .u32 (pb : Int), .int .u32 (pc : Int), .int .u32 (pd : Int), .int .u32 (pe : Int)] 42) = w0 := ⟨_, rfl⟩
  replace x0 : Blk w0 w.heap.size 42 #[.int .i64 pa, .int .u32 (pb : Int), .int .u32 (pc : Int), .int .u32 (pd : Int), .int .u32 (pe : Int)] := by rw [← hw0]; exact x0
  replace b0 : Below w.heap.size w w0 := by rw [← hw0]; exact b0
  have HX := Lib.hid x0
  have HB := Lib.hid b0
  have HZ := Lib.hid (hz.step b0)
  clear x0 b0 hz
  go_enter Tryd.func7, Tryd.ntmps7
  go_wp2_with fail
  clear hw0
  refine (loAlive_any w0 HZ.out).mono ?_
  rintro e w1 ⟨rfl, b1⟩
  replace HX := Lib.hid (HX.out.below b1 HX.out.lt)
  replace HB := Lib.hid (HB.out.trans (b1.mono HB.out.size))
  replace HZ := Lib.hid (HZ.out.step b1)
  clear b1
  have bm := ((Below.refl w1.heap.size w1).alloc (Nat.le_refl _) (.cells noPts 42)).alloc (by rw [World.size_alloc]; omega) (.cells #[.int .u8 (k : Int), .int .i64 l, .int .i64 s, .slice (some ⟨w1.heap.size, 0, none⟩) 15 15] 24)
  have xh := (Blk.new w1 42 noPts).alloc (.cells #[.int .u8 (k : Int), .int .i64 l, .int .i64 s, .slice (some ⟨w1.heap.size, 0, none⟩) 15 15] 24)
  have xo := Blk.new (w1.alloc (.cells noPts 42)) 24 #[.int .u8 (k : Int), .int .i64 l, .int .i64 s, .slice (some ⟨w1.heap.size, 0, none⟩) 15 15]
  rw [World.size_alloc] at xo
  have xp := HX.out.below bm HX.out.lt
  have hmk := make_holes w1
  obtain ⟨w2, hw2⟩ : ∃ X, (w1.alloc (.cells noPts 42)).alloc (.cells #[.int .u8 (k : Int), .int .i64 l, .int .i64 s, .slice (some ⟨w1.heap.size, 0, none⟩) 15 15] 24) = X := ⟨_, rfl⟩
  rw [hw2] at xh xo xp bm
  obtain ⟨c0, c1, c2, c3, c4⟩ := xp.five
  have d3 := ox3 xo
  have HX2 := Lib.hid xp
  have HO := Lib.hid xo
  have HH := Lib.hid xh
  have HB2 := Lib.hid (HB.out.trans (bm.mono HB.out.size))
  have HZ2 := Lib.hid (HZ.out.step bm)
  have HG := Lib.hid (show w.heap.size ≤ w1.heap.size from HB.out.size)
  have hfz := fun i => xh.frozen i
  obtain ⟨bh, oh, eh, _, _, h0, h1, h2, h3, h4⟩ := (holes_pts xh).cells i (by have := HI.out; exact this)
  cases eh
  rw [show (List.replicate 15 p0).getD i p0 = p0 by rw [List.getD_eq_getElem?_getD, List.getElem?_replicate]; split <;> rfl] at h0 h1 h2 h3 h4
  rw [Nat.zero_add] at h0 h1 h2 h3 h4
  have xs := ((((xh.set_ (i * 5) (.int .i64 pa)).set_ (i * 5 + 1) (.int .u32 (pb : Int))).set_ (i * 5 + 2) (.int .u32 (pc : Int))).set_ (i * 5 + 3) (.int .u32 (pd : Int))).set_ (i * 5 + 4) (.int .u32 (pe : Int))
  have hns := noPts_set i HI.out (pa, pb, pc, pd, pe)
  simp only at hns
  rw [hns] at xs
  have bs := (((((Below.refl w1.heap.size w2).setCell (p := ⟨w1.heap.size, i * 5, none⟩) (Nat.le_refl _) (.int .i64 pa)).setCell (p := ⟨w1.heap.size, i * 5 + 1, none⟩) (Nat.le_refl _) (.int .u32 (pb : Int))).setCell (p := ⟨w1.heap.size, i * 5 + 2, none⟩) (Nat.le_refl _) (.int .u32 (pc : Int))).setCell (p := ⟨w1.heap.size, i * 5 + 3, none⟩) (Nat.le_refl _) (.int .u32 (pd : Int))).setCell (p := ⟨w1.heap.size, i * 5 + 4, none⟩) (Nat.le_refl _) (.int .u32 (pe : Int))
  have xo5 := ((((xo.far (p := ⟨w1.heap.size, i * 5, none⟩) (by simp) (.int .i64 pa)).far (p := ⟨w1.heap.size, i * 5 + 1, none⟩) (by simp) (.int .u32 (pb : Int))).far (p := ⟨w1.heap.size, i * 5 + 2, none⟩) (by simp) (.int .u32 (pc : Int))).far (p := ⟨w1.heap.size, i * 5 + 3, none⟩) (by simp) (.int .u32 (pd : Int))).far (p := ⟨w1.heap.size, i * 5 + 4, none⟩) (by simp) (.int .u32 (pe : Int))
  obtain ⟨w3, hw3⟩ : ∃ X, ((((w2.setCell ⟨w1.heap.size, i * 5, none⟩ (.int .i64 pa)).setCell ⟨w1.heap.size, i * 5 + 1, none⟩ (.int .u32 (pb : Int))).setCell ⟨w1.heap.size, i * 5 + 2, none⟩ (.int .u32 (pc : Int))).setCell ⟨w1.heap.size, i * 5 + 3, none⟩ (.int .u32 (pd : Int))).setCell ⟨w1.heap.size, i * 5 + 4, none⟩ (.int .u32 (pe : Int)) = X := ⟨_, rfl⟩
  rw [hw3] at xs bs xo5
  obtain ⟨LP, hLP⟩ : ∃ X, (List.replicate 15 p0).set i (pa, pb, pc, pd, pe) = X := ⟨_, rfl⟩
  have hl15 : LP.length = 15 := by rw [← hLP]; simp
  have hwf5 : ∀ q ∈ LP, WfP q := by rw [← hLP]; exact holes_set i _ HWP.out
  rw [hLP] at xs HMS
  have hps := blk_pts xs hwf5 (by omega)
  rw [hl15] at hps
  have HPS := Lib.hid hps
  have HO5 := Lib.hid xo5
  have HX5 := Lib.hid (HX2.out.below bs (by have := HX.out.lt; exact this))
  have HB5 := Lib.hid (HB2.out.trans (bs.mono HG.out))
  have HL15 := Lib.hid hl15
  have hst := HX5.out.five
  obtain ⟨f0, f1, f2, f3, f4⟩ := hst
  have g0 := ox0 xo5
  have g1 := ox1 xo5
  have g2 := ox2 xo5
  have g3 := ox3 xo5
  clear hns xs bs xo5 hLP hl15 hwf5 hps
  clear xh xo xp bm HX HB HZ HO HH HX2 HB2 HZ2
  by_cases q0 : 1 ≤ k
  · have q0' : decide ((1 : Int) ≤ (k : Int)) = true := decide_eq_true (by omega)
    have q0'' : (1 : Int) ≤ (k : Int) := by omega
    by_cases q1 : k ≤ 7
    · have q1' : decide ((k : Int) ≤ 7) = true := decide_eq_true (by omega)
      have q1'' : (k : Int) ≤ 7 := by omega
      by_cases q2 : 0 ≤ l
      · have q2' : decide (0 ≤ l) = true := decide_eq_true (by omega)
        have q2'' : 0 ≤ l := by omega
        by_cases q3 : l ≤ 255
        · have q3' : decide (l ≤ 255) = true := decide_eq_true (by omega)
          have q3'' : l ≤ 255 := by omega
          by_cases q4 : 0 ≤ s
          · have q4' : decide (0 ≤ s) = true := decide_eq_true (by omega)
            have q4'' : 0 ≤ s := by omega
            by_cases q5 : s ≤ 3840
            · have q5' : decide (s ≤ 3840) = true := decide_eq_true (by omega)
              have q5'' : s ≤ 3840 := by omega
              by_cases hm : MayP (pa, pb, pc, pd, pe)
              · have HAL := Lib.hid (show (((1 ≤ k ∧ k ≤ 7) ∧ (0 ≤ l ∧ l ≤ 255) ∧ (0 ≤ s ∧ s ≤ 3840)) ∧ MayP (pa, pb, pc, pd, pe)) from ⟨by omega, hm⟩)
                have hpc := Check_any (pa, pb, pc, pd, pe) w3
                rw [pcheckO, if_pos hm] at hpc
                have HPC := Lib.hid hpc
                clear hpc hm
                go_wp2_with fail
                clear h0 h1 h2 h3 h4 hfz c0 c1 c2 c3 c4 d3 hmk hmod i0 i1
                try rw [hw2]
                try rw [hw3]
                refine HPC.out.mono ?_
                rintro e w6 ⟨rfl, b6⟩
                have HB6 := Lib.hid b6
                have HBX := Lib.hid (HB5.out.trans (b6.mono HB5.out.size))
                replace HO5 := Lib.hid (HO5.out.below b6 HO5.out.lt)
                have k0 := ox0 HO5.out
                have k1 := ox1 HO5.out
                have k2 := ox2 HO5.out
                have k3 := ox3 HO5.out
                clear b6
                have hck := obCheck_any (some ⟨w1.heap.size, 0, none⟩) 15 ((k, l, s, LP) : ObL) w6
                simp only [obV, HL15.out] at hck
                have hck2 := hck (HPS.out.step HB6.out) ⟨HK9.out, HWL.out, HWS.out⟩ 0 ⟨fun _ => rfl, fun h => absurd (HMS.out.2 HAL.out) h⟩
                have HCK := Lib.hid hck2
                clear hck hck2
                clear HMS HPS
                go_wp2_with fail
                refine HCK.out.mono ?_
                rintro e w9 ⟨rfl, b9⟩
                have HB9 := Lib.hid (HBX.out.trans (b9.mono HBX.out.size))
                clear b9
                go_wp2_with fail
                go_ret
                exact ⟨rfl, HB9.out⟩
              · have HAL := Lib.hid (show ¬ (((1 ≤ k ∧ k ≤ 7) ∧ (0 ≤ l ∧ l ≤ 255) ∧ (0 ≤ s ∧ s ≤ 3840)) ∧ MayP (pa, pb, pc, pd, pe)) from fun h => hm h.2)
                have hpc := Check_any (pa, pb, pc, pd, pe) w3
                rw [pcheckO, if_neg hm] at hpc
                have HPC := Lib.hid hpc
                clear hpc hm
                go_wp2_with fail
                clear h0 h1 h2 h3 h4 hfz c0 c1 c2 c3 c4 d3 hmk hmod i0 i1
                try rw [hw2]
                try rw [hw3]
                refine HPC.out.mono ?_
                rintro e w6 ⟨rfl, b6⟩
                have HB6 := Lib.hid b6
                have HBX := Lib.hid (HB5.out.trans (b6.mono HB5.out.size))
                replace HO5 := Lib.hid (HO5.out.below b6 HO5.out.lt)
                have k0 := ox0 HO5.out
                have k1 := ox1 HO5.out
                have k2 := ox2 HO5.out
                have k3 := ox3 HO5.out
                clear b6
                have hck := obCheck_any (some ⟨w1.heap.size, 0, none⟩) 15 ((k, l, s, LP) : ObL) w6
                simp only [obV, HL15.out] at hck
                have hck2 := hck (HPS.out.step HB6.out) ⟨HK9.out, HWL.out, HWS.out⟩ 8 ⟨fun h => absurd (HMS.out.1 h) HAL.out, fun _ => rfl⟩
                have HCK := Lib.hid hck2
                clear hck hck2
                clear HMS HPS
                go_wp2_with fail
                refine HCK.out.mono ?_
                rintro e w9 ⟨rfl, b9⟩
                have HB9 := Lib.hid (HBX.out.trans (b9.mono HBX.out.size))
                clear b9
                go_wp2_with fail
                go_ret
                exact ⟨rfl, HB9.out⟩
            · have q5' : decide (s ≤ 3840) = false := decide_eq_false (by omega)
              have q5'' : ¬ s ≤ 3840 := by omega
              have HAL := Lib.hid (show ¬ (((1 ≤ k ∧ k ≤ 7) ∧ (0 ≤ l ∧ l ≤ 255) ∧ (0 ≤ s ∧ s ≤ 3840)) ∧ MayP (pa, pb, pc, pd, pe)) by rintro ⟨h, _⟩; omega)
              have hck := obCheck_any (some ⟨w1.heap.size, 0, none⟩) 15 ((k, l, s, LP) : ObL) w3
              simp only [obV, HL15.out] at hck
              have hck2 := hck HPS.out ⟨HK9.out, HWL.out, HWS.out⟩ 8 ⟨fun h => absurd (HMS.out.1 h) HAL.out, fun _ => rfl⟩
              have HCK := Lib.hid hck2
              clear hck hck2
              have HBX := Lib.hid HB5.out
              clear HMS HPS
              go_wp2_with fail
              clear h0 h1 h2 h3 h4 hfz c0 c1 c2 c3 c4 d3 hmk hmod i0 i1
              try rw [hw2]
              try rw [hw3]
              refine HCK.out.mono ?_
              rintro e w9 ⟨rfl, b9⟩
              have HB9 := Lib.hid (HBX.out.trans (b9.mono HBX.out.size))
              clear b9
              go_wp2_with fail
              go_ret
              exact ⟨rfl, HB9.out⟩
          · have q4' : decide (0 ≤ s) = false := decide_eq_false (by omega)
            have q4'' : ¬ 0 ≤ s := by omega
            have HAL := Lib.hid (show ¬ (((1 ≤ k ∧ k ≤ 7) ∧ (0 ≤ l ∧ l ≤ 255) ∧ (0 ≤ s ∧ s ≤ 3840)) ∧ MayP (pa, pb, pc, pd, pe)) by rintro ⟨h, _⟩; omega)
            have hck := obCheck_any (some ⟨w1.heap.size, 0, none⟩) 15 ((k, l, s, LP) : ObL) w3
            simp only [obV, HL15.out] at hck
            have hck2 := hck HPS.out ⟨HK9.out, HWL.out, HWS.out⟩ 8 ⟨fun h => absurd (HMS.out.1 h) HAL.out, fun _ => rfl⟩
            have HCK := Lib.hid hck2
            clear hck hck2
            have HBX := Lib.hid HB5.out
            clear HMS HPS
            go_wp2_with fail
            clear h0 h1 h2 h3 h4 hfz c0 c1 c2 c3 c4 d3 hmk hmod i0 i1
            try rw [hw2]
            try rw [hw3]
            refine HCK.out.mono ?_
            rintro e w9 ⟨rfl, b9⟩
            have HB9 := Lib.hid (HBX.out.trans (b9.mono HBX.out.size))
            clear b9
            go_wp2_with fail
            go_ret
            exact ⟨rfl, HB9.out⟩
        · have q3' : decide (l ≤ 255) = false := decide_eq_false (by omega)
          have q3'' : ¬ l ≤ 255 := by omega
          have HAL := Lib.hid (show ¬ (((1 ≤ k ∧ k ≤ 7) ∧ (0 ≤ l ∧ l ≤ 255) ∧ (0 ≤ s ∧ s ≤ 3840)) ∧ MayP (pa, pb, pc, pd, pe)) by rintro ⟨h, _⟩; omega)
          have hck := obCheck_any (some ⟨w1.heap.size, 0, none⟩) 15 ((k, l, s, LP) : ObL) w3
          simp only [obV, HL15.out] at hck
          have hck2 := hck HPS.out ⟨HK9.out, HWL.out, HWS.out⟩ 8 ⟨fun h => absurd (HMS.out.1 h) HAL.out, fun _ => rfl⟩
          have HCK := Lib.hid hck2
          clear hck hck2
          have HBX := Lib.hid HB5.out
          clear HMS HPS
          go_wp2_with fail
          clear h0 h1 h2 h3 h4 hfz c0 c1 c2 c3 c4 d3 hmk hmod i0 i1
          try rw [hw2]
          try rw [hw3]
          refine HCK.out.mono ?_
          rintro e w9 ⟨rfl, b9⟩
          have HB9 := Lib.hid (HBX.out.trans (b9.mono HBX.out.size))
          clear b9
          go_wp2_with fail
          go_ret
          exact ⟨rfl, HB9.out⟩
      · have q2' : decide (0 ≤ l) = false := decide_eq_false (by omega)
        have q2'' : ¬ 0 ≤ l := by omega
        have HAL := Lib.hid (show ¬ (((1 ≤ k ∧ k ≤ 7) ∧ (0 ≤ l ∧ l ≤ 255) ∧ (0 ≤ s ∧ s ≤ 3840)) ∧ MayP (pa, pb, pc, pd, pe)) by rintro ⟨h, _⟩; omega)
        have hck := obCheck_any (some ⟨w1.heap.size, 0, none⟩) 15 ((k, l, s, LP) : ObL) w3
        simp only [obV, HL15.out] at hck
        have hck2 := hck HPS.out ⟨HK9.out, HWL.out, HWS.out⟩ 8 ⟨fun h => absurd (HMS.out.1 h) HAL.out, fun _ => rfl⟩
        have HCK := Lib.hid hck2
        clear hck hck2
        have HBX := Lib.hid HB5.out
        clear HMS HPS
        go_wp2_with fail
        clear h0 h1 h2 h3 h4 hfz c0 c1 c2 c3 c4 d3 hmk hmod i0 i1
        try rw [hw2]
        try rw [hw3]
        refine HCK.out.mono ?_
        rintro e w9 ⟨rfl, b9⟩
        have HB9 := Lib.hid (HBX.out.trans (b9.mono HBX.out.size))
        clear b9
        go_wp2_with fail
        go_ret
        exact ⟨rfl, HB9.out⟩
    · have q1' : decide ((k : Int) ≤ 7) = false := decide_eq_false (by omega)
      have q1'' : ¬ (k : Int) ≤ 7 := by omega
      have HAL := Lib.hid (show ¬ (((1 ≤ k ∧ k ≤ 7) ∧ (0 ≤ l ∧ l ≤ 255) ∧ (0 ≤ s ∧ s ≤ 3840)) ∧ MayP (pa, pb, pc, pd, pe)) by rintro ⟨h, _⟩; omega)
      have hck := obCheck_any (some ⟨w1.heap.size, 0, none⟩) 15 ((k, l, s, LP) : ObL) w3
      simp only [obV, HL15.out] at hck
      have hck2 := hck HPS.out ⟨HK9.out, HWL.out, HWS.out⟩ 8 ⟨fun h => absurd (HMS.out.1 h) HAL.out, fun _ => rfl⟩
      have HCK := Lib.hid hck2
      clear hck hck2
      have HBX := Lib.hid HB5.out
      clear HMS HPS
      go_wp2_with fail
      clear h0 h1 h2 h3 h4 hfz c0 c1 c2 c3 c4 d3 hmk hmod i0 i1
      try rw [hw2]
      try rw [hw3]
      refine HCK.out.mono ?_
      rintro e w9 ⟨rfl, b9⟩
      have HB9 := Lib.hid (HBX.out.trans (b9.mono HBX.out.size))
      clear b9
      go_wp2_with fail
      go_ret
      exact ⟨rfl, HB9.out⟩
  · have q0' : decide ((1 : Int) ≤ (k : Int)) = false := decide_eq_false (by omega)
    have q0'' : ¬ (1 : Int) ≤ (k : Int) := by omega
    have HAL := Lib.hid (show ¬ (((1 ≤ k ∧ k ≤ 7) ∧ (0 ≤ l ∧ l ≤ 255) ∧ (0 ≤ s ∧ s ≤ 3840)) ∧ MayP (pa, pb, pc, pd, pe)) by rintro ⟨h, _⟩; omega)
    have hck := obCheck_any (some ⟨w1.heap.size, 0, none⟩) 15 ((k, l, s, LP) : ObL) w3
    simp only [obV, HL15.out] at hck
    have hck2 := hck HPS.out ⟨HK9.out, HWL.out, HWS.out⟩ 8 ⟨fun h => absurd (HMS.out.1 h) HAL.out, fun _ => rfl⟩
    have HCK := Lib.hid hck2
    clear hck hck2
    have HBX := Lib.hid HB5.out
    clear HMS HPS
    go_wp2_with fail
    clear h0 h1 h2 h3 h4 hfz c0 c1 c2 c3 c4 d3 hmk hmod i0 i1
    try rw [hw2]
    try rw [hw3]
    refine HCK.out.mono ?_
    rintro e w9 ⟨rfl, b9⟩
    have HB9 := Lib.hid (HBX.out.trans (b9.mono HBX.out.size))
    clear b9
    go_wp2_with fail
    go_ret
    exact ⟨rfl, HB9.out⟩
end Go.Proofs.YtennhempdnpobaaDoor
namespace Go.Proofs.YtennhempdnpobaaDoor.objBounds
open Go.ChangeShapes Go.WideShapes Go.ChangeAt Go.RowKit
set_option linter.unusedVariables false

theorem own : ownKnob Tryd.prog.godebug = none := by kernel_rfl
theorem laidOut : laidOutB Tryd.prog = true := by kernel_rfl

set_option maxRecDepth 100000 in
theorem lifted (os : Os) (started : os.Started) (H : Type) (enc : TypeId × Value → H) :
    ReturnsInHanded {} Tryd.checked os 7 .any (fun w args => (Rows.objBoundsSpec.pre enc Tryd.prog Tryd.f7 [] false w args ∧ laidMetH Tryd.prog [("charterhouse/ptr.sizes", Rows.laid_charterhouse_ptr_sizes)] w) ∧ sizedMet enc Tryd.prog Tryd.f7 (OpenSpec.ofChange Rows.objBoundsSpec) false w args)
      (Rows.objBoundsSpec.post enc Tryd.prog Tryd.f7 false true false false) := by
  refine returnsInHanded_of_change_and (C := Tryd.checked) (X := fun w _ => laidMetH Tryd.prog [("charterhouse/ptr.sizes", Rows.laid_charterhouse_ptr_sizes)] w) (fun _ _ _ hh h => h.of_heap hh) own started (by kernel_rfl) Tryd.func7
    (ChangeSpec.witness_shaped (enc := enc) (C := Tryd.checked) (os := os) (X := fun w _ => laidMetH Tryd.prog [("charterhouse/ptr.sizes", Rows.laid_charterhouse_ptr_sizes)] w) false (World.doorLaid Tryd.prog 400 os) #[.int .u8 0, .int .i64 0, .int .i64 0, .int .u8 0, .agg #[.int .i64 0, .int .u32 0, .int .u32 0, .int .u32 0, .int .u32 0]] 8 rfl (World.shaped_of_RefB (by kernel_rfl) (by kernel_rfl)) (by kernel_rfl) (by kernel_rfl) (by kernel_rfl) (door_met os _)) ?_
  intro W base args ds gs before hval0 hW _ _ hL _
  have hval : ∀ (j : Nat) t v, Tryd.f7.params[j]? = some t → args[j]? = some v → Value.okWide Tryd.prog W .any base t v := hval0
  have hW' := hW
  obtain ⟨p, q, hA0, hV, rfl, hfz, hnd⟩ := hW
  have hA : DataW.TrodAll enc Tryd.prog W 0 (fun _ => true) true Tryd.f7.params.toList args.toList ds p := hA0
  rw [Tryd.params7] at hA hval
  obtain ⟨v0, vs0, d0, ds0, p0, q0, hargs, rfl, rfl, h0, r0⟩ := trodAll_cons hA
  obtain ⟨v1, vs1, d1, ds1, p1, q1, rfl, rfl, rfl, h1, r1⟩ := trodAll_cons r0
  obtain ⟨v2, vs2, d2, ds2, p2, q2, rfl, rfl, rfl, h2, r2⟩ := trodAll_cons r1
  obtain ⟨v3, vs3, d3, ds3, p3, q3, rfl, rfl, rfl, h3, r3⟩ := trodAll_cons r2
  obtain ⟨v4, vs4, d4, ds4, p4, q4, rfl, rfl, rfl, h4, r4⟩ := trodAll_cons r3
  obtain ⟨rfl, rfl, rfl⟩ := trodAll_nil r4
  obtain rfl : args = #[v0, v1, v2, v3, v4] := by cases args; simp_all
  obtain ⟨rfl, rfl⟩ := trodVars_none hV
  obtain ⟨a0, rfl, rfl, rfl, w0⟩ := open_int Tryd.underlying5 (hval 0 5 v0 rfl rfl) h0
  obtain ⟨a1, rfl, rfl, rfl, w1⟩ := open_int Tryd.underlying3 (hval 1 3 v1 rfl rfl) h1
  obtain ⟨a2, rfl, rfl, rfl, w2⟩ := open_int Tryd.underlying3 (hval 2 3 v2 rfl rfl) h2
  obtain ⟨a3, rfl, rfl, rfl, w3⟩ := open_int Tryd.underlying5 (hval 3 5 v3 rfl rfl) h3
  have k4 := h4
  have lt4 : ∀ x ∈ p4, x.block < W.heap.size := by obtain ⟨m, hm⟩ := k4; exact DataW.trod_lt m _ _ _ hm
  obtain ⟨z4, rfl, w4⟩ := open_ptr (hval 4 42 v4 rfl rfl) h4
  clear hA0 hval0
  refine (objBounds_walk a0 a1 a2 a3 z4 W (szs_of_laid hL) w0 w1 w2 w3 w4).mono fun e W' ⟨he, bel⟩ => ?_
  subst he
  exact ⟨_, rfl, _, _, _, [], _, [], hW', trodAll_mk1 (shut_bool Tryd.underlying4 _), (trodAll_cons_mk (shut_int Tryd.underlying5 w0) (trodAll_cons_mk (shut_int Tryd.underlying3 w1) (trodAll_cons_mk (shut_int Tryd.underlying3 w2) (trodAll_cons_mk (shut_int Tryd.underlying5 w3) (trodAll_cons_mk (Below.trod laidOut (by kernel_rfl) (of_decide_eq_true (by kernel_rfl)) k4 bel lt4) trodAll_mk0))))), rfl, bel.frame _, fun h => by cases h⟩

theorem over : Rows.ObjBoundsSaid :=
  OpenClaim.holds_of_wide 7 Tryd.f7 rfl rfl rfl rfl rfl rfl rfl ⟨rfl, rfl, rfl, rfl, rfl⟩ rfl rfl rfl rfl rfl (by kernel_rfl) Tryd.func7 (by kernel_rfl)
    (of_decide_eq_true (by kernel_rfl)) (by unfold Func.isWrapper; first | (rw [if_pos (by decide +kernel)]; kernel_rfl) | (rw [if_neg (by decide +kernel)]; exact ⟨rfl, rfl⟩))
    (fun os started H enc _ => lifted os started H enc)

/-- The statement. -/
theorem proved : Rows.ObjBoundsCardSaid :=
  Claim7.holds_tied_plain_at .later [] [.data] true _ false
    over (fun _ h => by cases h) (by kernel_rfl) (fun _ h => by cases h) objBounds_row_tie rfl ⟨rfl, rfl⟩ (by kernel_rfl) rfl
    (fun f fn hf hfn => by
      obtain rfl : f = 7 := Option.some.inj ((show Tryd.prog.funcNamed "charterhouse/charterhouselaw14.ObjBounds" = some 7 by kernel_rfl).symm.trans hf) |>.symm
      obtain rfl : fn = Tryd.f7 := (Option.some.inj (Tryd.func7.symm.trans hfn)).symm
      exact ⟨by kernel_rfl, fun j t ht => by
        rw [Tryd.params7] at ht
        have hm : t ∈ [5, 3, 3, 5, 42] := by simpa using Array.mem_of_getElem? ht
        have hall : ([5, 3, 3, 5, 42].all fun u => !Tryd.prog.wantsStandIn u) = true := by kernel_rfl
        exact (show Tryd.prog.wantsStandIn t = false by simpa using List.all_eq_true.1 hall t hm)⟩)
    (by kernel_rfl)
end Go.Proofs.YtennhempdnpobaaDoor.objBounds
