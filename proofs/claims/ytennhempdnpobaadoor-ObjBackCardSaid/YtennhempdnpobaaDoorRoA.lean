/-
  The document's own May, Check and Same of layer 14.
-/
import Derived.Test.YtennhempdnpobaaDoorOb
import Derived.Test.YtennhempdnpobaaDoorRpE
import Derived.Test.YtennhempdnpobaaDoorMovI
namespace Go.Proofs.YtennhempdnpobaaDoor
open Go.RowKit Go.Shelf
set_option maxRecDepth 100000

section
variable {w : World} {g : Nat} {t : TypeId} {c0 c1 c2 c3 : Value}
theorem ox0 (h : Blk w g t #[c0, c1, c2, c3]) : w.cell? ⟨g, 0, none⟩ = some c0 := h.cell 0
theorem ox1 (h : Blk w g t #[c0, c1, c2, c3]) : w.cell? ⟨g, 1, none⟩ = some c1 := h.cell 1
theorem ox2 (h : Blk w g t #[c0, c1, c2, c3]) : w.cell? ⟨g, 2, none⟩ = some c2 := h.cell 2
theorem ox3 (h : Blk w g t #[c0, c1, c2, c3]) : w.cell? ⟨g, 3, none⟩ = some c3 := h.cell 3
end
set_option maxHeartbeats 4000000 in
theorem roMay_any (a : Option Addr) (c : Nat) (O : ObL) (w : World) (h : Pts w w.heap.size a O.2.2.2.length c O.2.2.2) (hw : WfOb O) (R : Bool) (hR : R = true ↔ MayOb O) : Calls Tryd.prog 28 #[obV a c O] w fun e w' => e = .returned (.bool R) ∧ Below w.heap.size w w' := by
  obtain ⟨k, l, s, Lp⟩ := O
  simp only at hR h
  obtain ⟨n, hn⟩ : ∃ n, Lp.length = n := ⟨_, rfl⟩
  have HN := Lib.hid hn
  have HR := Lib.hid hR
  simp only [obV]
  rw [hn] at h ⊢
  obtain ⟨kz, hkz⟩ : ∃ z : Int, (k : Int) = z := ⟨_, rfl⟩
  have HK := Lib.hid hkz
  rw [hkz]
  have hnc := h.2.1
  have hcm := h.2.2.1
  have n0 : (0 : Int) ≤ n := by omega
  have n9 : (n : Int) ≤ 9223372036854775807 := by unfold maxLen at hcm; omega
  have xb := Blk.new w 24 #[.int .u8 kz, .int .i64 l, .int .i64 s, .slice a n c]
  have b0 := (Below.refl w.heap.size w).alloc (Nat.le_refl _) (.cells #[.int .u8 kz, .int .i64 l, .int .i64 s, .slice a n c] 24)
  obtain ⟨w0, hw0⟩ : ∃ w0, w.alloc (.cells #[.int .u8 kz, .int .i64 l, .int .i64 s, .slice a n c] 24) = w0 := ⟨_, rfl⟩
  rw [hw0] at xb b0
  have c0 := ox0 xb
  have c1 := ox1 xb
  have c2 := ox2 xb
  have c3 := ox3 xb
  have HX := Lib.hid xb
  have HB := Lib.hid b0
  have HP := Lib.hid h
  clear h hn hR hkz xb b0 hnc hcm
  clear hw
  by_cases q1 : kz < 1
  · have q1' : decide (kz < 1) = true := decide_eq_true q1
    obtain rfl : R = false := by
      cases R with
      | false => rfl
      | true =>
        have := (HR.out.1 rfl).1
        unfold HeadOb at this
        have hk := HK.out
        have hn := HN.out
        simp only at this
        omega
    clear HR HK HN
    go_enter Tryd.func28, Tryd.ntmps28
    go_wp2_with fail
    go_ret
    exact ⟨rfl, HB.out⟩
  · have q1' : decide (kz < 1) = false := decide_eq_false q1
    by_cases q2 : 7 < kz
    · have q2' : decide (7 < kz) = true := decide_eq_true q2
      obtain rfl : R = false := by
        cases R with
        | false => rfl
        | true =>
          have := (HR.out.1 rfl).1
          unfold HeadOb at this
          have hk := HK.out
          have hn := HN.out
          simp only at this
          omega
      clear HR HK HN
      go_enter Tryd.func28, Tryd.ntmps28
      go_wp2_with fail
      go_ret
      exact ⟨rfl, HB.out⟩
    · have q2' : decide (7 < kz) = false := decide_eq_false q2
      by_cases q3 : l < 0
      · have q3' : decide (l < 0) = true := decide_eq_true q3
        obtain rfl : R = false := by
          cases R with
          | false => rfl
          | true =>
            have := (HR.out.1 rfl).1
            unfold HeadOb at this
            have hk := HK.out
            have hn := HN.out
            simp only at this
            omega
        clear HR HK HN
        go_enter Tryd.func28, Tryd.ntmps28
        go_wp2_with fail
        go_ret
        exact ⟨rfl, HB.out⟩
      · have q3' : decide (l < 0) = false := decide_eq_false q3
        by_cases q4 : 255 < l
        · have q4' : decide (255 < l) = true := decide_eq_true q4
          obtain rfl : R = false := by
            cases R with
            | false => rfl
            | true =>
              have := (HR.out.1 rfl).1
              unfold HeadOb at this
              have hk := HK.out
              have hn := HN.out
              simp only at this
              omega
          clear HR HK HN
          go_enter Tryd.func28, Tryd.ntmps28
          go_wp2_with fail
          go_ret
          exact ⟨rfl, HB.out⟩
        · have q4' : decide (255 < l) = false := decide_eq_false q4
          by_cases q5 : s < 0
          · have q5' : decide (s < 0) = true := decide_eq_true q5
            obtain rfl : R = false := by
              cases R with
              | false => rfl
              | true =>
                have := (HR.out.1 rfl).1
                unfold HeadOb at this
                have hk := HK.out
                have hn := HN.out
                simp only at this
                omega
            clear HR HK HN
            go_enter Tryd.func28, Tryd.ntmps28
            go_wp2_with fail
            go_ret
            exact ⟨rfl, HB.out⟩
          · have q5' : decide (s < 0) = false := decide_eq_false q5
            by_cases q6 : 3840 < s
            · have q6' : decide (3840 < s) = true := decide_eq_true q6
              obtain rfl : R = false := by
                cases R with
                | false => rfl
                | true =>
                  have := (HR.out.1 rfl).1
                  unfold HeadOb at this
                  have hk := HK.out
                  have hn := HN.out
                  simp only at this
                  omega
              clear HR HK HN
              go_enter Tryd.func28, Tryd.ntmps28
              go_wp2_with fail
              go_ret
              exact ⟨rfl, HB.out⟩
            · have q6' : decide (3840 < s) = false := decide_eq_false q6
              by_cases q7 : n = 15
              · subst q7
                have HH : Hid (HeadOb (k, l, s, Lp)) := Lib.hid (by
                  have hk := HK.out
                  have hn := HN.out
                  unfold HeadOb
                  simp only
                  omega)
                clear HK
                go_enter Tryd.func28, Tryd.ntmps28
                go_wp2_with fail
                clear c0 c1 c2 c3 hw0 q1 q1' q2 q2' q3 q3' q4 q4' q5 q5' q6 q6'
                go_loopw [3] (fun i wr => ∃ j : Nat, j ≤ 15 ∧ i = .int .i64 j ∧ (∀ t, t < j → MayP (Lp.getD t p0)) ∧ Below w0.heap.size w0 wr) (fun i _ => 15 - (intOf i).toNat)
                case atStart => exact ⟨0, Nat.zero_le _, rfl, fun j hj => absurd hj (Nat.not_lt_zero _), Below.refl _ _⟩
                case round =>
                  obtain ⟨j, hj, rfl, hmay, hb⟩ := hrel
                  have j0 : (0 : Int) ≤ j := by omega
                  have HBR := Lib.hid hb
                  have HM := Lib.hid hmay
                  have c3 := ox3 (HX.out.below hb HX.out.lt)
                  clear hb hmay
                  by_cases hlt : j < 15
                  · have j1 : (j : Int) < 15 := by omega
                    obtain ⟨bp, op_, ea, hblt, hwf, p0_, p1_, p2_, p3_, p4_⟩ := ((HP.out.below (HB.out.trans (HBR.out.mono HB.out.size)))).cells j hlt
                    obtain ⟨P, hP⟩ : ∃ P, Lp.getD j p0 = P := ⟨_, rfl⟩
                    rw [hP] at hwf p0_ p1_ p2_ p3_ p4_
                    rw [ea] at c3
                    clear ea
                    have hmp := rpMay_any P wr
                    have HPE := Lib.hid hP
                    clear hP hblt hwf
                    by_cases h : MayP P
                    · rw [decide_eq_true h] at hmp
                      have HH1 := Lib.hid h
                      obtain ⟨a', b', c', d', e'⟩ := P
                      have HW := Lib.hid hmp
                      clear h hmp
                      go_wp2_with (go_at_call 43
                                   refine HW.out.mono ?_
                                   rintro ev w1 ⟨rfl, b1⟩
                                   have HB1 := Lib.hid (HBR.out.trans (b1.mono HBR.out.size))
                                   clear b1)
                      go_roundw
                      case rel =>
                        refine ⟨j + 1, by omega, by go_num, fun t ht => ?_, HB1.out⟩
                        by_cases e : t = j
                        · subst e
                          rw [HPE.out]
                          exact HH1.out
                        · exact HM.out t (by omega)
                      case measure => simp [intOf]; omega
                    · rw [decide_eq_false h] at hmp
                      obtain rfl : R = false := by
                        cases R with
                        | false => rfl
                        | true =>
                          have hall := (HR.out.1 rfl).2
                          have hi : j < Lp.length := by rw [HN.out]; exact hlt
                          have hg : Lp[j] = P := by
                            rw [← HPE.out, List.getD_eq_getElem?_getD, List.getElem?_eq_getElem hi]
                            rfl
                          exact absurd (hg ▸ hall Lp[j] (List.getElem_mem hi)) h
                      obtain ⟨a', b', c', d', e'⟩ := P
                      have HW := Lib.hid hmp
                      clear h hmp
                      go_wp2_with (go_at_call 43
                                   refine HW.out.mono ?_
                                   rintro ev w1 ⟨rfl, b1⟩
                                   have HB1 := Lib.hid (HBR.out.trans (b1.mono HBR.out.size))
                                   clear b1)
                      go_ret
                      exact ⟨rfl, HB.out.trans (HB1.out.mono HB.out.size)⟩
                  · have j1 : (15 : Int) ≤ j := by omega
                    have hall : ∀ p ∈ Lp, MayP p := fun p hp => by
                      obtain ⟨i, hi, rfl⟩ := List.getElem_of_mem hp
                      have := HM.out i (by rw [HN.out] at hi; omega)
                      rwa [List.getD_eq_getElem?_getD, List.getElem?_eq_getElem hi] at this
                    obtain rfl : R = true := HR.out.2 ⟨HH.out, hall⟩
                    clear hlt hj hall
                    go_wp2_with fail
                    go_ret
                    exact ⟨rfl, HB.out.trans (HBR.out.mono HB.out.size)⟩
              · have q7' : ((n : Int) != 15) = true := by simp; omega
                obtain rfl : R = false := by
                  cases R with
                  | false => rfl
                  | true =>
                    have := (HR.out.1 rfl).1
                    unfold HeadOb at this
                    have hk := HK.out
                    have hn := HN.out
                    simp only at this
                    omega
                clear HR HK HN
                go_enter Tryd.func28, Tryd.ntmps28
                go_wp2_with fail
                go_ret
                exact ⟨rfl, HB.out⟩
theorem roCheck_any (a : Option Addr) (c : Nat) (O : ObL) (w : World) (h : Pts w w.heap.size a O.2.2.2.length c O.2.2.2) (hw : WfOb O) (z : Nat) (hz : (MayOb O → z = 0) ∧ (¬ MayOb O → z = 8)) : Calls Tryd.prog 16 #[obV a c O] w fun e w' => e = .returned (.int .i64 z) ∧ Below w.heap.size w w' := by
  have xb := Blk.new w 24 (obC a c O)
  have b0 := (Below.refl w.heap.size w).alloc (Nat.le_refl _) (.cells (obC a c O) 24)
  obtain ⟨w0, hw0⟩ : ∃ w0, w.alloc (.cells (obC a c O) 24) = w0 := ⟨_, rfl⟩
  rw [hw0] at xb b0
  have c0 := ox0 xb
  have c1 := ox1 xb
  have c2 := ox2 xb
  have c3 := ox3 xb
  have HB := Lib.hid b0
  have hp := h.step b0
  simp only [obC] at hw0
  clear xb b0
  by_cases hm : MayOb O
  · have HC := Lib.hid (roMay_any a c O w0 hp hw true ⟨fun _ => hm, fun _ => rfl⟩)
    obtain rfl : z = 0 := hz.1 hm
    clear hp hm hz
    go_enter Tryd.func16, Tryd.ntmps16
    go_wp2_with fail
    clear c0 c1 c2 c3 hw0
    refine HC.out.mono ?_
    rintro e w1 ⟨rfl, b1⟩
    have HB1 := Lib.hid (HB.out.trans (b1.mono HB.out.size))
    clear b1
    go_wp2_with fail
    go_ret
    exact ⟨rfl, HB1.out⟩
  · have HC := Lib.hid (roMay_any a c O w0 hp hw false ⟨fun h => (by cases h), fun h => absurd h hm⟩)
    obtain rfl : z = 8 := hz.2 hm
    clear hp hm hz
    go_enter Tryd.func16, Tryd.ntmps16
    go_wp2_with fail
    clear c0 c1 c2 c3 hw0
    refine HC.out.mono ?_
    rintro e w1 ⟨rfl, b1⟩
    have HB1 := Lib.hid (HB.out.trans (b1.mono HB.out.size))
    clear b1
    go_wp2_with fail
    go_ret
    exact ⟨rfl, HB1.out⟩
set_option maxHeartbeats 2000000 in
theorem roSame_any (a : Option Addr) (c : Nat) (O : ObL) (b : Option Addr) (d : Nat) (M : ObL) (w : World) (h : Pts w w.heap.size a O.2.2.2.length c O.2.2.2) (h' : Pts w w.heap.size b M.2.2.2.length d M.2.2.2) (R : Bool) (hR : R = true ↔ O = M) : Calls Tryd.prog 15 #[obV a c O, obV b d M] w fun e w' => e = .returned (.bool R) ∧ Below w.heap.size w w' := by
  obtain ⟨k, l, s, Lp⟩ := O
  obtain ⟨k', l', s', Mp⟩ := M
  simp only at h h'
  simp only [obV]
  have b0 : Below w.heap.size w ((w.alloc (.cells #[.int .u8 (k : Int), .int .i64 l, .int .i64 s, .slice a Lp.length c] 24)).alloc (.cells #[.int .u8 (k' : Int), .int .i64 l', .int .i64 s', .slice b Mp.length d] 24)) := ((Below.refl w.heap.size w).alloc (Nat.le_refl _) _).alloc (by rw [World.size_alloc]; omega) _
  have xa := (Blk.new w 24 #[.int .u8 (k : Int), .int .i64 l, .int .i64 s, .slice a Lp.length c]).alloc (.cells #[.int .u8 (k' : Int), .int .i64 l', .int .i64 s', .slice b Mp.length d] 24)
  have xb := Blk.new (w.alloc (.cells #[.int .u8 (k : Int), .int .i64 l, .int .i64 s, .slice a Lp.length c] 24)) 24 #[.int .u8 (k' : Int), .int .i64 l', .int .i64 s', .slice b Mp.length d]
  rw [World.size_alloc] at xb
  obtain ⟨w0, hw0⟩ : ∃ w0, (w.alloc (.cells #[.int .u8 (k : Int), .int .i64 l, .int .i64 s, .slice a Lp.length c] 24)).alloc (.cells #[.int .u8 (k' : Int), .int .i64 l', .int .i64 s', .slice b Mp.length d] 24) = w0 := ⟨_, rfl⟩
  rw [hw0] at b0 xa xb
  have c0 := ox0 xa
  have c1 := ox1 xa
  have c2 := ox2 xa
  have c3 := ox3 xa
  have d0 := ox0 xb
  have d1 := ox1 xb
  have d2 := ox2 xb
  have d3 := ox3 xb
  have HB := Lib.hid b0
  have HS := Lib.hid (rpSame_any a Lp.length c Lp b Mp.length d Mp w0 (h.step b0) (h'.step b0))
  have HR := Lib.hid hR
  clear b0 xa xb h h' hR
  by_cases e : k = k'
  · have f1 : ((k : Int) == k') = true := by simp [e]
    have E1 := Lib.hid e
    clear e
    by_cases e : l = l'
    · have f2 : (l == l') = true := by simp [e]
      have E2 := Lib.hid e
      clear e
      by_cases e : s = s'
      · have f3 : (s == s') = true := by simp [e]
        have hs := HS.out
        have hRd : decide (Lp = Mp) = R := by
          cases R with
          | true =>
            have := HR.out.1 rfl
            simp only [Prod.mk.injEq] at this
            exact decide_eq_true this.2.2.2
          | false => exact decide_eq_false (fun hh => by have := HR.out.2 (by rw [E1.out, E2.out, e, hh]); cases this)
        rw [hRd] at hs
        have HS2 := Lib.hid hs
        clear hs hRd HS HR E1 E2 e
        go_enter Tryd.func15, Tryd.ntmps15
        go_wp2_with fail
        clear c0 c1 c2 c3 d0 d1 d2 d3 hw0
        refine HS2.out.mono ?_
        rintro e w1 ⟨rfl, b1⟩
        have HB1 := Lib.hid (HB.out.trans (b1.mono HB.out.size))
        clear b1
        go_wp2_with fail
        go_ret
        exact ⟨rfl, HB1.out⟩
      · have f3 : (s == s') = false := by simp [e]
        obtain rfl : R = false := by
          cases R with
          | false => rfl
          | true =>
            have := HR.out.1 rfl
            simp only [Prod.mk.injEq] at this
            exact absurd this.2.2.1 e
        clear HR e
        go_enter Tryd.func15, Tryd.ntmps15
        go_wp2_with fail
        go_ret
        exact ⟨rfl, HB.out⟩
    · have f2 : (l == l') = false := by simp [e]
      obtain rfl : R = false := by
        cases R with
        | false => rfl
        | true =>
          have := HR.out.1 rfl
          simp only [Prod.mk.injEq] at this
          exact absurd this.2.1 e
      clear HR e
      go_enter Tryd.func15, Tryd.ntmps15
      go_wp2_with fail
      go_ret
      exact ⟨rfl, HB.out⟩
  · have f1 : ((k : Int) == k') = false := by simp; omega
    obtain rfl : R = false := by
      cases R with
      | false => rfl
      | true =>
        have := HR.out.1 rfl
        simp only [Prod.mk.injEq] at this
        exact absurd this.1 e
    clear HR e
    go_enter Tryd.func15, Tryd.ntmps15
    go_wp2_with fail
    go_ret
    exact ⟨rfl, HB.out⟩
end Go.Proofs.YtennhempdnpobaaDoor
