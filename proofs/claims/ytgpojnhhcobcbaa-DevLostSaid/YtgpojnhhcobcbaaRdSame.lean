/-
  The document's own Same for layer 9.
-/
import Derived.Test.YtgpojnhhcobcbaaRdMay
import Derived.Test.YtgpojnhhcobcbaaDevSame
namespace Go.Proofs.Ytgpojnhhcobcbaa
open Go.RowKit Go.Shelf
set_option maxRecDepth 100000

theorem str_same (s t : List UInt8) : ((strOf s).toList == (strOf t).toList) = decide (s = t) := by
  rw [strOf_toList, strOf_toList]
  by_cases h : s = t <;> simp [h]
theorem same_iff {D E : DkL} {o1 o2 : Nat} (h1 : OddN o1 D.1.length (fun i => D.1.getD i [] = E.1.getD i [])) (h2 : OddN o2 D.2.length (fun i => wr_ D.2 i = wr_ E.2 i)) (e1 : D.1.length = E.1.length) (e2 : D.2.length = E.2.length) : o1 + o2 = 0 ↔ D = E := by
  constructor
  · intro h
    exact Prod.ext (ext_bls e1 (h1.2.1 (by omega))) (ext_wts e2 (h2.2.1 (by omega)))
  · intro h
    subst h
    have a1 := h1.2.2 fun _ _ => rfl
    have a2 := h2.2.2 fun _ _ => rfl
    omega
set_option maxHeartbeats 4000000 in
theorem rdSame_len (x : DAt) (D : DkL) (y : DAt) (E : DkL) (w : World) (hx : (D.1.length : Int) ≤ 9223372036854775807 ∧ (D.2.length : Int) ≤ 9223372036854775807 ∧ (E.1.length : Int) ≤ 9223372036854775807 ∧ (E.2.length : Int) ≤ 9223372036854775807) (hne : D.1.length ≠ E.1.length ∨ D.2.length ≠ E.2.length) :
    Calls Try.prog 25 #[dval x D, dval y E] w fun e w' => e = .returned (.bool false) ∧ Below w.heap.size w w' := by
  have b0 := ((Below.refl w.heap.size w).alloc (Nat.le_refl _) (.cells #[.slice x.ba D.1.length x.bc, .slice x.wa D.2.length x.wc] 25)).alloc (by simp) (.cells #[.slice y.ba E.1.length y.bc, .slice y.wa E.2.length y.wc] 25)
  have HB := Lib.hid b0
  simp only [dval]
  obtain ⟨n, hn⟩ : ∃ n, D.1.length = n := ⟨_, rfl⟩
  obtain ⟨m, hm⟩ : ∃ n, D.2.length = n := ⟨_, rfl⟩
  obtain ⟨n', hn'⟩ : ∃ n, E.1.length = n := ⟨_, rfl⟩
  obtain ⟨m', hm'⟩ : ∃ n, E.2.length = n := ⟨_, rfl⟩
  rw [hn, hm, hn', hm'] at HB hx ⊢
  rw [hn, hm, hn', hm'] at hne
  obtain ⟨x1, x2, x3, x4⟩ := hx
  clear b0 hn hm hn' hm'
  by_cases h : n = n'
  · subst h
    have h1 : ((n : Int) != n) = false := by simp
    have h2 : ((m : Int) != m') = true := by simp; omega
    clear hne
    go_enter Try.func25, Try.ntmps25
    go_wp2_with fail
    go_ret
    exact ⟨rfl, HB.out⟩
  · have h1 : ((n : Int) != n') = true := by simp; omega
    clear hne h
    go_enter Try.func25, Try.ntmps25
    go_wp2_with fail
    go_ret
    exact ⟨rfl, HB.out⟩
set_option maxHeartbeats 4000000 in
theorem rdSame_eq (x : DAt) (D : DkL) (y : DAt) (E : DkL) (w : World) (h : Dsk w w.heap.size x D) (h' : Dsk w w.heap.size y E) (e1 : D.1.length = E.1.length) (e2 : D.2.length = E.2.length) (hf : D.1.length ≤ 1000000 ∧ D.2.length ≤ 1000000) (R : Bool) (hR : R = true ↔ D = E) :
    Calls Try.prog 25 #[dval x D, dval y E] w fun e w' => e = .returned (.bool R) ∧ Below w.heap.size w w' := by
  obtain ⟨n, hn⟩ : ∃ n, D.1.length = n := ⟨_, rfl⟩
  obtain ⟨m, hm⟩ : ∃ n, D.2.length = n := ⟨_, rfl⟩
  have l1 := h.1.len_le
  have l2 := h.2.len_le
  obtain ⟨w0, hw0⟩ : ∃ w0, (w.alloc (.cells #[.slice x.ba n x.bc, .slice x.wa m x.wc] 25)).alloc (.cells #[.slice y.ba n y.bc, .slice y.wa m y.wc] 25) = w0 := ⟨_, rfl⟩
  have b0 : Below w.heap.size w w0 := by rw [← hw0]; exact ((Below.refl _ w).alloc (Nat.le_refl _) _).alloc (by simp) _
  have x0 : Blk w0 w.heap.size 25 #[.slice x.ba n x.bc, .slice x.wa m x.wc] := by rw [← hw0]; exact (Blk.new w _ _).alloc _
  have y0 : Blk w0 (w.heap.size + 1) 25 #[.slice y.ba n y.bc, .slice y.wa m y.wc] := by
    have := Blk.new (w.alloc (.cells #[.slice x.ba n x.bc, .slice x.wa m x.wc] 25)) 25 #[.slice y.ba n y.bc, .slice y.wa m y.wc]
    rw [World.size_alloc, hw0] at this
    exact this
  have c0 := x0.cell 0
  have c1 := x0.cell 1
  have d0 := y0.cell 0
  have d1 := y0.cell 1
  obtain ⟨hB, hW⟩ := h.step b0
  obtain ⟨hB', hW'⟩ := h'.step b0
  simp only [dval]
  rw [← e1, ← e2]
  rw [← e1] at hB'
  rw [← e2] at hW'
  rw [hn] at hB hB' l1 hf ⊢
  rw [hm] at hW hW' l2 hf ⊢
  have n0 : (0 : Int) ≤ n := by omega
  have m0 : (0 : Int) ≤ m := by omega
  have q1 : ((n : Int) != n) = false := by simp
  have q2 : ((m : Int) != m) = false := by simp
  have HBa := Lib.hid hB
  have HWa := Lib.hid hW
  have HBb := Lib.hid hB'
  have HWb := Lib.hid hW'
  have HX := Lib.hid x0
  have HY := Lib.hid y0
  have HB := Lib.hid b0
  have HN := Lib.hid hn
  have HM := Lib.hid hm
  have HRR := Lib.hid hR
  have HE := Lib.hid (And.intro e1 e2)
  clear h h' b0 x0 y0 hB hW hB' hW' hn hm hR e1 e2
  go_enter Try.func25, Try.ntmps25
  go_wp2_with fail
  clear hw0 q1 q2 c0 c1 d0 d1
  go_loopw [5, 6] (fun o i wr => ∃ k q : Nat, k ≤ n ∧ i = .int .i64 k ∧ o = .int .i64 q ∧ Hid (OddN q k (fun i => D.1.getD i [] = E.1.getD i [])) ∧ Hid (Below w0.heap.size w0 wr)) (fun _ i _ => n - (intOf i).toNat)
  case atStart => exact ⟨0, 0, Nat.zero_le _, rfl, rfl, Lib.hid (odd_zero _), Lib.hid (Below.refl _ _)⟩
  case round =>
    obtain ⟨k, q, hk, rfl, rfl, HO, HBr⟩ := hrel
    have k0 : (0 : Int) ≤ k := by omega
    have hq := HO.out.1
    have q0 : (0 : Int) ≤ q := by omega
    have qm : (q : Int) ≤ n := by omega
    have c0 := (HX.out.below HBr.out HX.out.lt).cell 0
    have c1 := (HX.out.below HBr.out HX.out.lt).cell 1
    have d0 := (HY.out.below HBr.out HY.out.lt).cell 0
    have d1 := (HY.out.below HBr.out HY.out.lt).cell 1
    by_cases hlt : k < n
    · have k1 : (k : Int) < n := by omega
      obtain ⟨ba, oa, A, l, c', s, hae, hba, hl, hc, hs⟩ := HBa.out.at_ hlt
      obtain ⟨bb, ob, A2, l2', c2, t, hbe, hbb, hl2, hc2, ht⟩ := HBb.out.at_ hlt
      obtain ⟨xba, xbc, xwa, xwc⟩ := x
      obtain ⟨yba, ybc, ywa, ywc⟩ := y
      obtain rfl : xba = some ⟨ba, oa, none⟩ := hae
      obtain rfl : yba = some ⟨bb, ob, none⟩ := hbe
      simp only at c0 c1 d0 d1 ⊢
      have a1 := (HBr.out.cell (p := ⟨ba, oa + k, none⟩) hba).trans hc
      have a2 := (HBr.out.cell (p := ⟨bb, ob + k, none⟩) hbb).trans hc2
      have v1 := fun q => ((hs.below HBr.out).below (below_drewN (Below.refl _ wr) q)).conv
      have v2 := fun q => ((ht.below HBr.out).below (below_drewN (Below.refl _ wr) q)).conv
      have hst := str_same s t
      have HBq := Lib.hid (fun q => HBr.out.trans (below_drewN (Below.refl _ wr) q))
      by_cases hst' : s = t
      · rw [decide_eq_true hst'] at hst
        have HO' := Lib.hid (HO.out.good (by rw [hl, hl2]; exact hst'))
        clear hl hl2 hc hc2 hs ht hst' HBr
        go_wp2_with fail
        go_quiet (fail)
        go_wp2_with fail
        go_roundw
        case rel => exact ⟨k + 1, q, by omega, by go_num, rfl, HO', Lib.hid (HBq.out _)⟩
        case measure => simp [intOf]; omega
      · rw [decide_eq_false hst'] at hst
        have HO' := Lib.hid (HO.out.odd (by rw [hl, hl2]; exact hst'))
        clear hl hl2 hc hc2 hs ht hst' HBr
        go_wp2_with fail
        go_quiet (fail)
        go_wp2_with fail
        go_roundw
        case rel => exact ⟨k + 1, q + 1, by omega, by go_num, by go_num, HO', Lib.hid (HBq.out _)⟩
        case measure => simp [intOf]; omega
    · obtain rfl : k = n := by omega
      go_wp2_with fail
      clear c0 c1 d0 d1
      go_loopw [5, 7] (fun o i wr => ∃ j r : Nat, j ≤ m ∧ i = .int .i64 j ∧ o = .int .i64 (q + r : Nat) ∧ Hid (OddN r j (fun i => wr_ D.2 i = wr_ E.2 i)) ∧ Hid (Below w0.heap.size w0 wr)) (fun _ i _ => m - (intOf i).toNat)
      case atStart => exact ⟨0, 0, Nat.zero_le _, rfl, rfl, Lib.hid (odd_zero _), HBr⟩
      case round =>
        obtain ⟨j, r, hj, rfl, rfl, HR, HB2⟩ := hrel
        clear HBr
        have j0 : (0 : Int) ≤ j := by omega
        have hr := HR.out.1
        obtain ⟨t, htt⟩ : ∃ t, q + r = t := ⟨_, rfl⟩
        have t0 : (0 : Int) ≤ t := by omega
        have c0 := (HX.out.below HB2.out HX.out.lt).cell 0
        have c1 := (HX.out.below HB2.out HX.out.lt).cell 1
        by_cases hlt : j < m
        · have j1 : (j : Int) < m := by omega
          have tm : (t : Int) ≤ 2000000 := by omega
          obtain ⟨ba, oa, p, A, l, c', s, hae, hba, hl, _, hc, hcd, hs⟩ := HWa.out.at_ hlt
          obtain ⟨bb, ob, p2, A2, l2', c2, u, hbe, hbb, hl2, _, hc2, hcd2, hu⟩ := HWb.out.at_ hlt
          obtain ⟨xba, xbc, xwa, xwc⟩ := x
          obtain ⟨yba, ybc, ywa, ywc⟩ := y
          obtain rfl : xwa = some ⟨ba, oa, none⟩ := hae
          obtain rfl : ywa = some ⟨bb, ob, none⟩ := hbe
          simp only at c0 c1 ⊢
          rw [htt]
          have a1 := (HB2.out.cell (p := ⟨ba, oa + j * 2, none⟩) hba).trans hc
          have a2 := (HB2.out.cell (p := ⟨ba, oa + j * 2 + 1, none⟩) hba).trans hcd
          have b1 := Below.alloc HB2.out HB2.out.size (.cells #[.int .i64 p, .slice A l c'] 55)
          have a3 := (b1.cell (p := ⟨bb, ob + j * 2, none⟩) hbb).trans hc2
          have a4 := (b1.cell (p := ⟨bb, ob + j * 2 + 1, none⟩) hbb).trans hcd2
          have d0 := (HY.out.below b1 HY.out.lt).cell 0
          have d1 := (HY.out.below b1 HY.out.lt).cell 1
          have b2 := Below.alloc b1 b1.size (.cells #[.int .i64 p2, .slice A2 l2' c2] 55)
          have v1 := (hs.below b2).conv
          have v2 := (hu.below b2).conv
          have hst := str_same s u
          have HB3 := Lib.hid b2
          have HTT := Lib.hid htt
          by_cases hpp : p = p2
          · subst hpp
            have hpb : (p != p) = false := by simp
            by_cases hst' : s = u
            · rw [decide_eq_true hst'] at hst
              have HO' := Lib.hid (HR.out.good (by rw [hl, hl2, hst']))
              clear hl hl2 hc hc2 hcd hcd2 hs hu hst' HB2 b1 b2 htt
              go_wp2_with fail
              go_roundw
              case rel => exact ⟨j + 1, r, by omega, by go_num, by rw [HTT.out], HO', HB3⟩
              case measure => simp [intOf]; omega
            · rw [decide_eq_false hst'] at hst
              have HO' := Lib.hid (HR.out.odd (by rw [hl, hl2]; exact fun hh => hst' (Prod.mk.inj hh).2))
              clear hl hl2 hc hc2 hcd hcd2 hs hu hst' HB2 b1 b2 htt
              go_wp2_with fail
              go_roundw
              case rel => exact ⟨j + 1, r + 1, by omega, by go_num, by rw [← Nat.add_assoc, HTT.out]; go_num, HO', HB3⟩
              case measure => simp [intOf]; omega
          · have hpb : (p != p2) = true := by simpa using hpp
            have HO' := Lib.hid (HR.out.odd (by rw [hl, hl2]; exact fun hh => hpp (Prod.mk.inj hh).1))
            clear hl hl2 hc hc2 hcd hcd2 hs hu hpp HB2 b1 b2 htt v1 v2 hst
            go_wp2_with fail
            go_roundw
            case rel => exact ⟨j + 1, r + 1, by omega, by go_num, by rw [← Nat.add_assoc, HTT.out]; go_num, HO', HB3⟩
            case measure => simp [intOf]; omega
        · obtain rfl : j = m := by omega
          rw [htt]
          have hiff := same_iff (D := D) (E := E) (by rw [HN.out]; exact HO.out) (by rw [HM.out]; exact HR.out) HE.out.1 HE.out.2
          rw [htt] at hiff
          have HBw := Lib.hid (HB.out.trans (HB2.out.mono HB.out.size))
          by_cases ht0 : t = 0
          · have htb : ((t : Int) == 0) = true := by simp; omega
            obtain rfl : R = true := HRR.out.2 (hiff.1 ht0)
            clear hiff ht0 htt
            go_wp2_with fail
            go_ret
            exact ⟨rfl, HBw.out⟩
          · have htb : ((t : Int) == 0) = false := by simp; omega
            obtain rfl : R = false := by
              cases R with
              | false => rfl
              | true => exact absurd (hiff.2 (HRR.out.1 rfl)) ht0
            clear hiff ht0 htt
            go_wp2_with fail
            go_ret
            exact ⟨rfl, HBw.out⟩
theorem rdSame_any (x : DAt) (D : DkL) (y : DAt) (E : DkL) (w : World) (h : Dsk w w.heap.size x D) (h' : Dsk w w.heap.size y E) (hf : D.1.length ≤ 1000000 ∧ D.2.length ≤ 1000000) (R : Bool) (hR : R = true ↔ D = E) :
    Calls Try.prog 25 #[dval x D, dval y E] w fun e w' => e = .returned (.bool R) ∧ Below w.heap.size w w' := by
  by_cases he : D.1.length = E.1.length ∧ D.2.length = E.2.length
  · exact rdSame_eq x D y E w h h' he.1 he.2 hf R hR
  · obtain rfl : R = false := by
      cases R with
      | false => rfl
      | true => exact absurd (by rw [hR.1 rfl]; exact ⟨rfl, rfl⟩) he
    exact rdSame_len x D y E w ⟨h.1.len_le, h.2.len_le, h'.1.len_le, h'.2.len_le⟩ (by omega)
end Go.Proofs.Ytgpojnhhcobcbaa
