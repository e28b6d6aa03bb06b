/-
  Texts of one seat, one behind the other.
-/
import Derived.WalkLawsBesides
import Derived.OwnWalk
import Derived.Laws.CopyOwn
import Derived.IntWalk
import Derived.Test.YtjdjbonljohnbaaGreatDoorPkDB3
/-
  The document's own Same for layer 9.
-/
namespace Go.Proofs.YtjdjbonljohnbaaGreatDoor
open Go.RowKit Go.Shelf
set_option maxRecDepth 100000

theorem str_same (s t : List UInt8) : ((strOf s).toList == (strOf t).toList) = decide (s = t) := by
  rw [strOf_toList, strOf_toList]
  by_cases h : s = t <;> simp [h]
theorem same_iff {D E : DkL} {o1 o2 : Nat} (h1 : OddN o1 D.1.length (fun i => D.1.getD i [] = E.1.getD i [])) (h2 : OddN o2 D.2.length (fun i => wr_ D.2 i = wr_ E.2 i)) (e1 : D.1.length = E.1.length) (e2 : D.2.length = E.2.length) : o1 + o2 = 0 ↔ D = E := by
  constructor
  · intro h
    exact Prod.ext (ext_bls e1 (h1.2.1 (by omega))) (ext_wts e2 (h2.2.1 (by omega)))
  · intro h
    subst h
    have a1 := h1.2.2 fun _ _ => rfl
    have a2 := h2.2.2 fun _ _ => rfl
    omega
set_option maxHeartbeats 4000000 in
theorem rdSame_len (x : DAt) (D : DkL) (y : DAt) (E : DkL) (w : World) (hx : (D.1.length : Int) ≤ 9223372036854775807 ∧ (D.2.length : Int) ≤ 9223372036854775807 ∧ (E.1.length : Int) ≤ 9223372036854775807 ∧ (E.2.length : Int) ≤ 9223372036854775807) (hne : D.1.length ≠ E.1.length ∨ D.2.length ≠ E.2.length) :
    Calls Tryz.prog 32 #[dval x D, dval y E] w fun e w' => e = .returned (.bool false) ∧ Below w.heap.size w w' := by
  have b0 := ((Below.refl w.heap.size w).alloc (Nat.le_refl _) (.cells #[.slice x.ba D.1.length x.bc, .slice x.wa D.2.length x.wc] 25)).alloc (by simp) (.cells #[.slice y.ba E.1.length y.bc, .slice y.wa E.2.length y.wc] 25)
  have HB := Lib.hid b0
  simp only [dval]
  obtain ⟨n, hn⟩ : ∃ n, D.1.length = n := ⟨_, rfl⟩
  obtain ⟨m, hm⟩ : ∃ n, D.2.length = n := ⟨_, rfl⟩
  obtain ⟨n', hn'⟩ : ∃ n, E.1.length = n := ⟨_, rfl⟩
  obtain ⟨m', hm'⟩ : ∃ n, E.2.length = n := ⟨_, rfl⟩
  rw [hn, hm, hn', hm'] at HB hx ⊢
  rw [hn, hm, hn', hm'] at hne
  obtain ⟨x1, x2, x3, x4⟩ := hx
  clear b0 hn hm hn' hm'
  by_cases h : n = n'
  · subst h
    have h1 : ((n : Int) != n) = false := by simp
    have h2 : ((m : Int) != m') = true := by simp; omega
    clear hne
    go_enter Tryz.func32, Tryz.ntmps32
    go_wp2_with fail
    go_ret
    exact ⟨rfl, HB.out⟩
  · have h1 : ((n : Int) != n') = true := by simp; omega
    clear hne h
    go_enter Tryz.func32, Tryz.ntmps32
    go_wp2_with fail
    go_ret
    exact ⟨rfl, HB.out⟩
set_option maxHeartbeats 4000000 in
theorem rdSame_eq (x : DAt) (D : DkL) (y : DAt) (E : DkL) (w : World) (h : Dsk w w.heap.size x D) (h' : Dsk w w.heap.size y E) (e1 : D.1.length = E.1.length) (e2 : D.2.length = E.2.length) (hf : D.1.length ≤ 1000000 ∧ D.2.length ≤ 1000000) (R : Bool) (hR : R = true ↔ D = E) :
    Calls Tryz.prog 32 #[dval x D, dval y E] w fun e w' => e = .returned (.bool R) ∧ Below w.heap.size w w' := by
  obtain ⟨n, hn⟩ : ∃ n, D.1.length = n := ⟨_, rfl⟩
  obtain ⟨m, hm⟩ : ∃ n, D.2.length = n := ⟨_, rfl⟩
  have l1 := h.1.len_le
  have l2 := h.2.len_le
  obtain ⟨w0, hw0⟩ : ∃ w0, (w.alloc (.cells #[.slice x.ba n x.bc, .slice x.wa m x.wc] 25)).alloc (.cells #[.slice y.ba n y.bc, .slice y.wa m y.wc] 25) = w0 := ⟨_, rfl⟩
  have b0 : Below w.heap.size w w0 := by rw [← hw0]; exact ((Below.refl _ w).alloc (Nat.le_refl _) _).alloc (by simp) _
  have x0 : Blk w0 w.heap.size 25 #[.slice x.ba n x.bc, .slice x.wa m x.wc] := by rw [← hw0]; exact (Blk.new w _ _).alloc _
  have y0 : Blk w0 (w.heap.size + 1) 25 #[.slice y.ba n y.bc, .slice y.wa m y.wc] := by
    have := Blk.new (w.alloc (.cells #[.slice x.ba n x.bc, .slice x.wa m x.wc] 25)) 25 #[.slice y.ba n y.bc, .slice y.wa m y.wc]
    rw [World.size_alloc, hw0] at this
    exact this
  have c0 := x0.cell 0
  have c1 := x0.cell 1
  have d0 := y0.cell 0
  have d1 := y0.cell 1
  obtain ⟨hB, hW⟩ := h.step b0
  obtain ⟨hB', hW'⟩ := h'.step b0
  simp only [dval]
  rw [← e1, ← e2]
  rw [← e1] at hB'
  rw [← e2] at hW'
  rw [hn] at hB hB' l1 hf ⊢
  rw [hm] at hW hW' l2 hf ⊢
  have n0 : (0 : Int) ≤ n := by omega
  have m0 : (0 : Int) ≤ m := by omega
  have q1 : ((n : Int) != n) = false := by simp
  have q2 : ((m : Int) != m) = false := by simp
  have HBa := Lib.hid hB
  have HWa := Lib.hid hW
  have HBb := Lib.hid hB'
  have HWb := Lib.hid hW'
  have HX := Lib.hid x0
  have HY := Lib.hid y0
  have HB := Lib.hid b0
  have HN := Lib.hid hn
  have HM := Lib.hid hm
  have HRR := Lib.hid hR
  have HE := Lib.hid (And.intro e1 e2)
  clear h h' b0 x0 y0 hB hW hB' hW' hn hm hR e1 e2
  go_enter Tryz.func32, Tryz.ntmps32
  go_wp2_with fail
  clear hw0 q1 q2 c0 c1 d0 d1
  go_loopw [5, 6] (fun o i wr => ∃ k q : Nat, k ≤ n ∧ i = .int .i64 k ∧ o = .int .i64 q ∧ Hid (OddN q k (fun i => D.1.getD i [] = E.1.getD i [])) ∧ Hid (Below w0.heap.size w0 wr)) (fun _ i _ => n - (intOf i).toNat)
  case atStart => exact ⟨0, 0, Nat.zero_le _, rfl, rfl, Lib.hid (odd_zero _), Lib.hid (Below.refl _ _)⟩
  case round =>
    obtain ⟨k, q, hk, rfl, rfl, HO, HBr⟩ := hrel
    have k0 : (0 : Int) ≤ k := by omega
    have hq := HO.out.1
    have q0 : (0 : Int) ≤ q := by omega
    have qm : (q : Int) ≤ n := by omega
    have c0 := (HX.out.below HBr.out HX.out.lt).cell 0
    have c1 := (HX.out.below HBr.out HX.out.lt).cell 1
    have d0 := (HY.out.below HBr.out HY.out.lt).cell 0
    have d1 := (HY.out.below HBr.out HY.out.lt).cell 1
    by_cases hlt : k < n
    · have k1 : (k : Int) < n := by omega
      obtain ⟨ba, oa, A, l, c', s, hae, hba, hl, hc, hs⟩ := HBa.out.at_ hlt
      obtain ⟨bb, ob, A2, l2', c2, t, hbe, hbb, hl2, hc2, ht⟩ := HBb.out.at_ hlt
      obtain ⟨xba, xbc, xwa, xwc⟩ := x
      obtain ⟨yba, ybc, ywa, ywc⟩ := y
      obtain rfl : xba = some ⟨ba, oa, none⟩ := hae
      obtain rfl : yba = some ⟨bb, ob, none⟩ := hbe
      simp only at c0 c1 d0 d1 ⊢
      have a1 := (HBr.out.cell (p := ⟨ba, oa + k, none⟩) hba).trans hc
      have a2 := (HBr.out.cell (p := ⟨bb, ob + k, none⟩) hbb).trans hc2
      have v1 := fun q => ((hs.below HBr.out).below (below_drewN (Below.refl _ wr) q)).conv
      have v2 := fun q => ((ht.below HBr.out).below (below_drewN (Below.refl _ wr) q)).conv
      have hst := str_same s t
      have HBq := Lib.hid (fun q => HBr.out.trans (below_drewN (Below.refl _ wr) q))
      by_cases hst' : s = t
      · rw [decide_eq_true hst'] at hst
        have HO' := Lib.hid (HO.out.good (by rw [hl, hl2]; exact hst'))
        clear hl hl2 hc hc2 hs ht hst' HBr
        go_wp2_with fail
        go_quiet (fail)
        go_wp2_with fail
        go_roundw
        case rel => exact ⟨k + 1, q, by omega, by go_num, rfl, HO', Lib.hid (HBq.out _)⟩
        case measure => simp [intOf]; omega
      · rw [decide_eq_false hst'] at hst
        have HO' := Lib.hid (HO.out.odd (by rw [hl, hl2]; exact hst'))
        clear hl hl2 hc hc2 hs ht hst' HBr
        go_wp2_with fail
        go_quiet (fail)
        go_wp2_with fail
        go_roundw
        case rel => exact ⟨k + 1, q + 1, by omega, by go_num, by go_num, HO', Lib.hid (HBq.out _)⟩
        case measure => simp [intOf]; omega
    · obtain rfl : k = n := by omega
      go_wp2_with fail
      clear c0 c1 d0 d1
      go_loopw [5, 7] (fun o i wr => ∃ j r : Nat, j ≤ m ∧ i = .int .i64 j ∧ o = .int .i64 (q + r : Nat) ∧ Hid (OddN r j (fun i => wr_ D.2 i = wr_ E.2 i)) ∧ Hid (Below w0.heap.size w0 wr)) (fun _ i _ => m - (intOf i).toNat)
      case atStart => exact ⟨0, 0, Nat.zero_le _, rfl, rfl, Lib.hid (odd_zero _), HBr⟩
      case round =>
        obtain ⟨j, r, hj, rfl, rfl, HR, HB2⟩ := hrel
        clear HBr
        have j0 : (0 : Int) ≤ j := by omega
        have hr := HR.out.1
        obtain ⟨t, htt⟩ : ∃ t, q + r = t := ⟨_, rfl⟩
        have t0 : (0 : Int) ≤ t := by omega
        have c0 := (HX.out.below HB2.out HX.out.lt).cell 0
        have c1 := (HX.out.below HB2.out HX.out.lt).cell 1
        by_cases hlt : j < m
        · have j1 : (j : Int) < m := by omega
          have tm : (t : Int) ≤ 2000000 := by omega
          obtain ⟨ba, oa, p, A, l, c', s, hae, hba, hl, _, hc, hcd, hs⟩ := HWa.out.at_ hlt
          obtain ⟨bb, ob, p2, A2, l2', c2, u, hbe, hbb, hl2, _, hc2, hcd2, hu⟩ := HWb.out.at_ hlt
          obtain ⟨xba, xbc, xwa, xwc⟩ := x
          obtain ⟨yba, ybc, ywa, ywc⟩ := y
          obtain rfl : xwa = some ⟨ba, oa, none⟩ := hae
          obtain rfl : ywa = some ⟨bb, ob, none⟩ := hbe
          simp only at c0 c1 ⊢
          rw [htt]
          have a1 := (HB2.out.cell (p := ⟨ba, oa + j * 2, none⟩) hba).trans hc
          have a2 := (HB2.out.cell (p := ⟨ba, oa + j * 2 + 1, none⟩) hba).trans hcd
          have b1 := Below.alloc HB2.out HB2.out.size (.cells #[.int .i64 p, .slice A l c'] 71)
          have a3 := (b1.cell (p := ⟨bb, ob + j * 2, none⟩) hbb).trans hc2
          have a4 := (b1.cell (p := ⟨bb, ob + j * 2 + 1, none⟩) hbb).trans hcd2
          have d0 := (HY.out.below b1 HY.out.lt).cell 0
          have d1 := (HY.out.below b1 HY.out.lt).cell 1
          have b2 := Below.alloc b1 b1.size (.cells #[.int .i64 p2, .slice A2 l2' c2] 71)
          have v1 := (hs.below b2).conv
          have v2 := (hu.below b2).conv
          have hst := str_same s u
          have HB3 := Lib.hid b2
          have HTT := Lib.hid htt
          by_cases hpp : p = p2
          · subst hpp
            have hpb : (p != p) = false := by simp
            by_cases hst' : s = u
            · rw [decide_eq_true hst'] at hst
              have HO' := Lib.hid (HR.out.good (by rw [hl, hl2, hst']))
              clear hl hl2 hc hc2 hcd hcd2 hs hu hst' HB2 b1 b2 htt
              go_wp2_with fail
              go_roundw
              case rel => exact ⟨j + 1, r, by omega, by go_num, by rw [HTT.out], HO', HB3⟩
              case measure => simp [intOf]; omega
            · rw [decide_eq_false hst'] at hst
              have HO' := Lib.hid (HR.out.odd (by rw [hl, hl2]; exact fun hh => hst' (Prod.mk.inj hh).2))
              clear hl hl2 hc hc2 hcd hcd2 hs hu hst' HB2 b1 b2 htt
              go_wp2_with fail
              go_roundw
              case rel => exact ⟨j + 1, r + 1, by omega, by go_num, by rw [← Nat.add_assoc, HTT.out]; go_num, HO', HB3⟩
              case measure => simp [intOf]; omega
          · have hpb : (p != p2) = true := by simpa using hpp
            have HO' := Lib.hid (HR.out.odd (by rw [hl, hl2]; exact fun hh => hpp (Prod.mk.inj hh).1))
            clear hl hl2 hc hc2 hcd hcd2 hs hu hpp HB2 b1 b2 htt v1 v2 hst
            go_wp2_with fail
            go_roundw
            case rel => exact ⟨j + 1, r + 1, by omega, by go_num, by rw [← Nat.add_assoc, HTT.out]; go_num, HO', HB3⟩
            case measure => simp [intOf]; omega
        · obtain rfl : j = m := by omega
          rw [htt]
          have hiff := same_iff (D := D) (E := E) (by rw [HN.out]; exact HO.out) (by rw [HM.out]; exact HR.out) HE.out.1 HE.out.2
          rw [htt] at hiff
          have HBw := Lib.hid (HB.out.trans (HB2.out.mono HB.out.size))
          by_cases ht0 : t = 0
          · have htb : ((t : Int) == 0) = true := by simp; omega
            obtain rfl : R = true := HRR.out.2 (hiff.1 ht0)
            clear hiff ht0 htt
            go_wp2_with fail
            go_ret
            exact ⟨rfl, HBw.out⟩
          · have htb : ((t : Int) == 0) = false := by simp; omega
            obtain rfl : R = false := by
              cases R with
              | false => rfl
              | true => exact absurd (hiff.2 (HRR.out.1 rfl)) ht0
            clear hiff ht0 htt
            go_wp2_with fail
            go_ret
            exact ⟨rfl, HBw.out⟩
theorem rdSame_any (x : DAt) (D : DkL) (y : DAt) (E : DkL) (w : World) (h : Dsk w w.heap.size x D) (h' : Dsk w w.heap.size y E) (hf : D.1.length ≤ 1000000 ∧ D.2.length ≤ 1000000) (R : Bool) (hR : R = true ↔ D = E) :
    Calls Tryz.prog 32 #[dval x D, dval y E] w fun e w' => e = .returned (.bool R) ∧ Below w.heap.size w w' := by
  by_cases he : D.1.length = E.1.length ∧ D.2.length = E.2.length
  · exact rdSame_eq x D y E w h h' he.1 he.2 hf R hR
  · obtain rfl : R = false := by
      cases R with
      | false => rfl
      | true => exact absurd (by rw [hR.1 rfl]; exact ⟨rfl, rfl⟩) he
    exact rdSame_len x D y E w ⟨h.1.len_le, h.2.len_le, h'.1.len_le, h'.2.len_le⟩ (by omega)
end Go.Proofs.YtjdjbonljohnbaaGreatDoor
/-
  The document's own functions of layer 13: New, Twin, Same.
-/
namespace Go.Proofs.YtjdjbonljohnbaaGreatDoor
open Go.RowKit Go.Shelf
set_option maxRecDepth 100000

/-- The cells of a store that is none. -/
abbrev stZ : Array Value := #[.slice none 0 0, .slice none 0 0, .slice none 0 0, .int .u32 0, .int .u32 0]
/-- The cells of a pointer that is none. -/
abbrev ptZ : Array Value := #[.int .i64 0, .int .u32 0, .int .u32 0, .int .u32 0, .int .u32 0]
theorem two_al (w : World) (a b : Array Value) (s t : TypeId) : ∃ w0, (w.alloc (.cells a s)).alloc (.cells b t) = w0 ∧ Below w.heap.size w w0 ∧ w0.heap.size = w.heap.size + 2 ∧ Blk w0 w.heap.size s a ∧ Blk w0 (w.heap.size + 1) t b := by
  refine ⟨_, rfl, ((Below.refl _ w).alloc (Nat.le_refl _) _).alloc (by simp) _, by simp, (Blk.new w s a).alloc _, ?_⟩
  have h := Blk.new (w.alloc (.cells a s)) t b
  rw [World.size_alloc] at h
  exact h
theorem three_al (w : World) (a b c : Array Value) (s t u : TypeId) : ∃ w0, ((w.alloc (.cells a s)).alloc (.cells b t)).alloc (.cells c u) = w0 ∧ Below w.heap.size w w0 ∧ w0.heap.size = w.heap.size + 3 ∧ Blk w0 w.heap.size s a ∧ Blk w0 (w.heap.size + 1) t b ∧ Blk w0 (w.heap.size + 2) u c := by
  obtain ⟨w1, h1, b1, z1, x1, y1⟩ := two_al w a b s t
  rw [h1]
  have h := Blk.new w1 u c
  rw [z1] at h
  exact ⟨_, rfl, b1.trans (((Below.refl _ w1).alloc (Nat.le_refl _) _).mono b1.size), by simp [z1], x1.alloc _, y1.alloc _, h⟩
section
variable {w : World} {g : Nat} {t : TypeId}
theorem stZ0 (h : Blk w g t stZ) : w.cell? ⟨g, 0, none⟩ = some (.slice none 0 0) := h.cell 0
theorem stZ1 (h : Blk w g t stZ) : w.cell? ⟨g, 1, none⟩ = some (.slice none 0 0) := h.cell 1
theorem stZ2 (h : Blk w g t stZ) : w.cell? ⟨g, 2, none⟩ = some (.slice none 0 0) := h.cell 2
theorem stZ3 (h : Blk w g t stZ) : w.cell? ⟨g, 3, none⟩ = some (.int .u32 0) := h.cell 3
theorem stZ4 (h : Blk w g t stZ) : w.cell? ⟨g, 4, none⟩ = some (.int .u32 0) := h.cell 4
theorem ptZ0 (h : Blk w g t ptZ) : w.cell? ⟨g, 0, none⟩ = some (.int .i64 0) := h.cell 0
theorem ptZ1 (h : Blk w g t ptZ) : w.cell? ⟨g, 1, none⟩ = some (.int .u32 0) := h.cell 1
theorem ptZ2 (h : Blk w g t ptZ) : w.cell? ⟨g, 2, none⟩ = some (.int .u32 0) := h.cell 2
theorem ptZ3 (h : Blk w g t ptZ) : w.cell? ⟨g, 3, none⟩ = some (.int .u32 0) := h.cell 3
theorem ptZ4 (h : Blk w g t ptZ) : w.cell? ⟨g, 4, none⟩ = some (.int .u32 0) := h.cell 4
end
/-- Cells of a box are written: it stays a box, and what lasts lasts. -/
theorem box_two {L B g : Nat} {a w : World} {t : TypeId} {c0 c1 c2 c3 c4 : Value} (h : Blk w g t #[c0, c1, c2, c3, c4]) (ht : rowT t = false) (hL : L ≤ g) (hB : Below B a w) (hg : B ≤ g) (u v : Value) :
    Blk ((w.setCell ⟨g, 0, none⟩ u).setCell ⟨g, 1, none⟩ v) g t #[u, v, c2, c3, c4] ∧ Keeps L w ((w.setCell ⟨g, 0, none⟩ u).setCell ⟨g, 1, none⟩ v) ∧ Below B a ((w.setCell ⟨g, 0, none⟩ u).setCell ⟨g, 1, none⟩ v) :=
  ⟨(h.set_ 0 u).set_ 1 v, Keeps.of_box (only_two w g u v) h ht hL, (hB.setCell (p := ⟨g, 0, none⟩) hg u).setCell (p := ⟨g, 1, none⟩) hg v⟩
theorem box_at {L B g : Nat} {a w : World} {t : TypeId} {cs : Array Value} (h : Blk w g t cs) (ht : rowT t = false) (hL : L ≤ g) (hB : Below B a w) (hg : B ≤ g) (i : Nat) (u : Value) :
    Blk (w.setCell ⟨g, i, none⟩ u) g t (cs.setIfInBounds i u) ∧ Keeps L w (w.setCell ⟨g, i, none⟩ u) ∧ Below B a (w.setCell ⟨g, i, none⟩ u) :=
  ⟨h.set_ i u, Keeps.of_box (only_setCell (World.grownBy.refl w (some g)) (.inl rfl) u) h ht hL, hB.setCell (p := ⟨g, i, none⟩) hg u⟩
theorem box_five {L B g : Nat} {a w : World} {t : TypeId} {c0 c1 c2 c3 c4 : Value} (h : Blk w g t #[c0, c1, c2, c3, c4]) (ht : rowT t = false) (hL : L ≤ g) (hB : Below B a w) (hg : B ≤ g) (v0 v1 v2 v3 v4 : Value) :
    Blk (set5 w g v0 v1 v2 v3 v4) g t #[v0, v1, v2, v3, v4] ∧ Keeps L w (set5 w g v0 v1 v2 v3 v4) ∧ Below B a (set5 w g v0 v1 v2 v3 v4) :=
  ⟨h.set5 v0 v1 v2 v3 v4, Keeps.of_box (only_set5 (World.grownBy.refl w (some g)) v0 v1 v2 v3 v4) h ht hL, below_set5 hB hg v0 v1 v2 v3 v4⟩
section
variable {w : World} {g : Nat} {t : TypeId} {c0 c1 c2 c3 c4 : Value}
theorem bx0 (h : Blk w g t #[c0, c1, c2, c3, c4]) : w.cell? ⟨g, 0, none⟩ = some c0 := h.cell 0
theorem bx1 (h : Blk w g t #[c0, c1, c2, c3, c4]) : w.cell? ⟨g, 1, none⟩ = some c1 := h.cell 1
theorem bx2 (h : Blk w g t #[c0, c1, c2, c3, c4]) : w.cell? ⟨g, 2, none⟩ = some c2 := h.cell 2
theorem bx3 (h : Blk w g t #[c0, c1, c2, c3, c4]) : w.cell? ⟨g, 3, none⟩ = some c3 := h.cell 3
theorem bx4 (h : Blk w g t #[c0, c1, c2, c3, c4]) : w.cell? ⟨g, 4, none⟩ = some c4 := h.cell 4
end
set_option maxHeartbeats 2000000 in
theorem rtTwin_any (L : Nat) (x : SAt) (S : StL) (w : World) (h : StP L w x S) (hf : Fits S.1) (hn : S.2.1.length ≤ 20000) (hL : L ≤ w.heap.size) : Calls Tryz.prog 5 #[stV x S] w (OutS 0 S w) := by
  obtain ⟨w0, hw0, b0, z0, x0, x1⟩ := two_al w (stC x S) stZ 29 29
  obtain ⟨g, hg⟩ : ∃ g, w.heap.size = g := ⟨_, rfl⟩
  obtain ⟨g', hg'⟩ : ∃ g', g + 1 = g' := ⟨_, rfl⟩
  have h0 := h.bel b0
  have ht := rdTwin_any x.d S.1 w0 h0.now.1 hf
  simp only [dval] at ht
  have c0 := stC0 x0
  have c1 := stC1 x0
  rw [hg] at x0 x1 z0 b0 c0 c1
  rw [hg'] at x1
  have hgL : L ≤ g := by omega
  have hgg : g ≤ g' := by omega
  have hgn : g' ≠ g := by omega
  have HL := Lib.hid hgL
  have HG := Lib.hid hg
  have HGG := Lib.hid hgg
  have HGN := Lib.hid hgn
  have HX := Lib.hid x0
  have HY := Lib.hid x1
  have HB := Lib.hid b0
  have HS := Lib.hid h0
  have HT := Lib.hid ht
  have HN := Lib.hid hn
  have HZ := Lib.hid (show g ≤ w0.heap.size by omega)
  simp only [stC, stZ] at hw0
  clear h h0 x0 x1 b0 ht hn hf z0 hgL hgg hgn
  go_enter Tryz.func5, Tryz.ntmps5
  go_wp2_with fail
  clear c0 c1 hw0
  refine HT.out.mono ?_
  rintro e w1 ⟨x', rfl, htw, b1⟩
  have hx1 := HX.out.below b1 HX.out.lt
  have HY1 := Lib.hid (HY.out.below b1 HY.out.lt)
  have hb1 := HB.out.trans (b1.mono HZ.out)
  have hs1 := HS.out.bel b1
  have hd1 : Lasts 0 w1 fun W => Dsk W W.heap.size x' S.1 := dskR_lasts ⟨_, _, htw.brow 0, htw.wrow 0⟩ 0
  have c0 := stC0 hx1
  have c1 := stC1 hx1
  have hfz := fun i => hx1.frozen i
  simp only [dval]
  obtain ⟨x2, k2, b2⟩ := box_two hx1 (by decide) HL.out hb1 (Nat.le_refl _) (.slice x'.ba S.1.1.length x'.bc) (.slice x'.wa S.1.2.length x'.wc)
  have y2 := (HY1.out.far (p := ⟨g, 0, none⟩) HGN.out (.slice x'.ba S.1.1.length x'.bc)).far (p := ⟨g, 1, none⟩) HGN.out (.slice x'.wa S.1.2.length x'.wc)
  have s2 := hs1.step k2
  have d2 := hd1.step (k2.more (Nat.zero_le _))
  obtain ⟨w2, hw2⟩ : ∃ w2, (w1.setCell ⟨g, 0, none⟩ (.slice x'.ba S.1.1.length x'.bc)).setCell ⟨g, 1, none⟩ (.slice x'.wa S.1.2.length x'.wc) = w2 := ⟨_, rfl⟩
  rw [hw2] at x2 k2 b2 y2 s2 d2
  have cc := bx2 x2
  have HX2 := Lib.hid x2
  have HY2 := Lib.hid y2
  have HB2 := Lib.hid b2
  have HBS := Lib.hid s2.now.2
  have HD2 := Lib.hid d2
  have HO0 := Lib.hid (own_nil w2 w2.heap.size)
  have HRF := Lib.hid (Below.refl w2.heap.size w2)
  clear htw b1 HX HY HB HS HT hx1 hb1 hs1 hd1 x2 k2 b2 y2 s2 d2
  go_wp2_with (at_builtin
               refine wpList_append_bsl rfl (.const (.slice none 0 0)) (.tmp 8) rfl w2.heap.size _ 0 _ rfl HO0.out _ x.a S.2.1.length x.c S.2.1 rfl HBS.out (by have := HN.out; omega) HRF.out.size ?_
               intro v3 w3 ho hg3
               rw [Nat.zero_add, List.nil_append] at ho
               have b3 := app_below HRF.out HO0.out hg3 HRF.out.size; clear hg3
               obtain ⟨a3, c3, rfl⟩ := own_slice ho
               have x3 := HX2.out.below b3 HX2.out.lt
               have y3 := HY2.out.below b3 HY2.out.lt
               have d3 := HD2.out.bel b3
               have t3 := HB2.out.trans (b3.mono (Nat.le_of_lt HX2.out.lt))
               obtain ⟨x4, k4, b4⟩ := box_at x3 (by decide) (Nat.zero_le _) t3 (Nat.le_refl _) 2 (.slice a3 S.2.1.length c3)
               have y4 := y3.far (p := ⟨g, 2, none⟩) HGN.out (.slice a3 S.2.1.length c3)
               have d4 := d3.step k4
               have o4 := (own_lasts (L := 0) ho).step k4
               have cx := bx2 x3
               have hfx := x3.frozen 2
               obtain ⟨w4, hw4⟩ : ∃ w4, w3.setCell ⟨g, 2, none⟩ (.slice a3 S.2.1.length c3) = w4 := ⟨_, rfl⟩
               rw [hw4] at x4 k4 b4 y4 d4 o4
               replace x4 : Blk w4 g 29 #[.slice x'.ba S.1.1.length x'.bc, .slice x'.wa S.1.2.length x'.wc, .slice a3 S.2.1.length c3, .int .u32 (S.2.2.1 : Int), .int .u32 (S.2.2.2 : Int)] := x4
               have p0 := bx0 x4
               have p1 := bx1 x4
               have p2 := bx2 x4
               have p3 := bx3 x4
               have p4 := bx4 x4
               have q0 := stZ0 y4
               have q1 := stZ1 y4
               have q2 := stZ2 y4
               have q3 := stZ3 y4
               have q4 := stZ4 y4
               have hfy := fun i => y4.frozen i
               have H4 := Lib.hid (box_five y4 (by decide) (Nat.zero_le _) b4 HGG.out (.slice x'.ba S.1.1.length x'.bc) (.slice x'.wa S.1.2.length x'.wc) (.slice a3 S.2.1.length c3) (.int .u32 (S.2.2.1 : Int)) (.int .u32 (S.2.2.2 : Int)))
               have HD4 := Lib.hid d4
               have HO4 := Lib.hid o4
               clear ho b3 x3 y3 d3 t3 x4 k4 b4 y4 d4 o4)
  clear p0 p1 p2 p3 p4 q0 q1 q2 q3 q4 hfy cx hfx cc c0 c1 hfz
  obtain ⟨xf, kf, bf⟩ := H4.out
  obtain ⟨wf, hwf⟩ : ∃ wf, set5 w4 g' (.slice x'.ba S.1.1.length x'.bc) (.slice x'.wa S.1.2.length x'.wc) (.slice a3 S.2.1.length c3) (.int .u32 (S.2.2.1 : Int)) (.int .u32 (S.2.2.2 : Int)) = wf := ⟨_, rfl⟩
  rw [hwf] at xf kf bf
  simp only [set5] at hwf
  rw [hwf]
  have e0 := bx0 xf
  have e1 := bx1 xf
  have e2 := bx2 xf
  have e3 := bx3 xf
  have e4 := bx4 xf
  refine bodyPost_ret (v := stV ⟨x', a3, c3⟩ S) (by simp [results, Tryz.f5, go_sem, e0, e1, e2, e3, e4]) rfl ?_
  exact ⟨⟨x', a3, c3⟩, rfl, fun W k => ⟨HD4.out W (kf.to3.trans k), HO4.out W (kf.to3.trans k)⟩, by rw [HG.out]; exact bf⟩
end Go.Proofs.YtjdjbonljohnbaaGreatDoor
/-
  Stores of one's own whose bytes are turned: what is written, and what goes on; law 13's spoil.
-/
namespace Go.Proofs.YtjdjbonljohnbaaGreatDoor
open Go.RowKit Go.Shelf
set_option maxRecDepth 100000

/-- Bytes of blocks from B on are turned, and nothing else. -/
structure Spoils (B : Nat) (w w' : World) : Prop where
  below : Below B w w'
  box : ∀ b t cs, Blk w b t cs → t ≠ 5 → Blk w' b t cs
  row : ∀ b cs, Blk w b 5 cs → ∃ cs', Blk w' b 5 cs' ∧ ∀ (j : Nat) (z : Int), cs[j]? = some (Value.int .u8 z) → ∃ z', cs'[j]? = some (Value.int .u8 z')
theorem Spoils.refl (B : Nat) (w : World) : Spoils B w w := ⟨Below.refl _ _, fun _ _ _ h _ => h, fun _ cs h => ⟨cs, h, fun _ z hz => ⟨z, hz⟩⟩⟩
theorem Spoils.trans {B : Nat} {a b c : World} (h : Spoils B a b) (k : Spoils B b c) : Spoils B a c :=
  ⟨h.below.trans k.below, fun i t cs hi ht => k.box i t cs (h.box i t cs hi ht) ht, fun i cs hi => by
    obtain ⟨cs1, h1, h2⟩ := h.row i cs hi
    obtain ⟨cs2, h3, h4⟩ := k.row i cs1 h1
    exact ⟨cs2, h3, fun j z hz => by obtain ⟨z1, hz1⟩ := h2 j z hz; exact h4 j z1 hz1⟩⟩
theorem Spoils.of_below {B : Nat} {w w' : World} (h : Below w.heap.size w w') (hB : B ≤ w.heap.size) : Spoils B w w' :=
  ⟨h.mono hB, fun _ _ _ hb _ => hb.below h hb.lt, fun _ cs hb => ⟨cs, hb.below h hb.lt, fun _ z hz => ⟨z, hz⟩⟩⟩
theorem Spoils.less {B B' : Nat} {w w' : World} (h : Spoils B w w') (hB : B' ≤ B) : Spoils B' w w' := ⟨h.below.mono hB, h.box, h.row⟩
theorem Spoils.byte {B b : Nat} {w : World} {cs : Array Value} (h : Blk w b 5 cs) (hB : B ≤ b) (i : Nat) (z : Int) : Spoils B w (w.setCell ⟨b, i, none⟩ (.int .u8 z)) :=
  ⟨(Below.refl B w).setCell (p := ⟨b, i, none⟩) hB _, fun k t cs' hk ht => hk.far (p := ⟨b, i, none⟩) (fun e => (hk.ne h ht) e) _, fun k cs' hk => by
    by_cases e : k = b
    · subst e
      refine ⟨_, hk.set_ i _, fun j z' hz => ?_⟩
      rw [Array.getElem?_setIfInBounds]
      split
      · rename_i e
        subst e
        have hlt : i < cs'.size := by
          rcases Nat.lt_or_ge i cs'.size with h1 | h1
          · exact h1
          · rw [Array.getElem?_eq_none h1] at hz; cases hz
        rw [if_pos hlt]
        exact ⟨z, rfl⟩
      · exact ⟨z', hz⟩
    · exact ⟨cs', hk.far (p := ⟨b, i, none⟩) e _, fun j z' hz => ⟨z', hz⟩⟩⟩
/-- Bytes of one's own. -/
def Piece (w : World) (B : Nat) (A : Option Addr) (l : Nat) : Prop := l = 0 ∨ ∃ b off cs, A = some ⟨b, off, none⟩ ∧ B ≤ b ∧ Blk w b 5 cs ∧ ∀ j, j < l → ∃ z, cs[off + j]? = some (.int .u8 z)
theorem Piece.spoils {w w' : World} {B B' : Nat} {A : Option Addr} {l : Nat} (h : Piece w B A l) (k : Spoils B' w w') : Piece w' B A l := by
  rcases h with h | ⟨b, off, cs, e, hB, hb, hc⟩
  · exact .inl h
  · obtain ⟨cs', h1, h2⟩ := k.row b cs hb
    exact .inr ⟨b, off, cs', e, hB, h1, fun j hj => by obtain ⟨z, hz⟩ := hc j hj; exact h2 _ z hz⟩
theorem Piece.at_ {w : World} {B : Nat} {A : Option Addr} {l : Nat} (h : Piece w B A l) {j : Nat} (hj : j < l) : ∃ b off cs z, A = some ⟨b, off, none⟩ ∧ B ≤ b ∧ Blk w b 5 cs ∧ w.cell? ⟨b, off + j, none⟩ = some (.int .u8 z) := by
  rcases h with h | ⟨b, off, cs, e, hB, hb, hc⟩
  · omega
  · obtain ⟨z, hz⟩ := hc j hj
    exact ⟨b, off, cs, z, e, hB, hb, by rw [hb.cell]; exact hz⟩
/-- A row of slices of bytes of one's own: the row is in a block of its own, and so are all the bytes; st: how far a slice lies from the next one, at: where in it. -/
def Rows9 (w : World) (B : Nat) (a : Option Addr) (n : Nat) (t : TypeId) (st at_ : Nat) (L : Nat → Nat) : Prop :=
  n = 0 ∨ ∃ b off cs, a = some ⟨b, off, none⟩ ∧ Blk w b t cs ∧ ∀ i, i < n → ∃ A c, cs[off + i * st + at_]? = some (.slice A (L i) c) ∧ Piece w B A (L i)
theorem Rows9.spoils {w w' : World} {B B' : Nat} {a : Option Addr} {n : Nat} {t : TypeId} {st at_ : Nat} {L : Nat → Nat} (h : Rows9 w B a n t st at_ L) (ht : t ≠ 5) (k : Spoils B' w w') : Rows9 w' B a n t st at_ L := by
  rcases h with h | ⟨b, off, cs, e, hb, hc⟩
  · exact .inl h
  · exact .inr ⟨b, off, cs, e, k.box b t cs hb ht, fun i hi => by
      obtain ⟨A, c, h1, h2⟩ := hc i hi
      exact ⟨A, c, h1, h2.spoils k⟩⟩
theorem Rows9.at_ {w : World} {B : Nat} {a : Option Addr} {n : Nat} {t : TypeId} {st q : Nat} {L : Nat → Nat} (h : Rows9 w B a n t st q L) {i : Nat} (hi : i < n) : ∃ b off A c, a = some ⟨b, off, none⟩ ∧ w.cell? ⟨b, off + i * st + q, none⟩ = some (.slice A (L i) c) ∧ Piece w B A (L i) := by
  rcases h with h | ⟨b, off, cs, e, hb, hc⟩
  · omega
  · obtain ⟨A, c, h1, h2⟩ := hc i hi
    exact ⟨b, off, A, c, e, by rw [hb.cell]; exact h1, h2⟩
/-- A store of one's own: all its bytes lie from block B on. -/
def HiS (w : World) (B : Nat) (x : SAt) (S : StL) : Prop :=
  Rows9 w B x.d.ba S.1.1.length 26 1 0 (fun i => (S.1.1.getD i []).length) ∧ Rows9 w B x.d.wa S.1.2.length 71 2 1 (fun i => (wr_ S.1.2 i).2.length) ∧ Piece w B x.a S.2.1.length
theorem HiS.spoils {w w' : World} {B B' : Nat} {x : SAt} {S : StL} (h : HiS w B x S) (k : Spoils B' w w') : HiS w' B x S := ⟨h.1.spoils (by decide) k, h.2.1.spoils (by decide) k, h.2.2.spoils k⟩
end Go.Proofs.YtjdjbonljohnbaaGreatDoor
/-
  Disks that are laid in one new piece, and rows of one's own, are one's own: all their bytes may be turned.
-/
namespace Go.Proofs.YtjdjbonljohnbaaGreatDoor
open Go.RowKit Go.Shelf
set_option maxRecDepth 100000

theorem piece_own {w : World} {B n c : Nat} {a : Option Addr} {s : List UInt8} (h : w.ownsRow B 5 1 (.slice a n c) n (vals s)) : Piece w B a n := by
  rcases Nat.eq_zero_or_pos n with h0 | h0
  · exact .inl h0
  · obtain ⟨g, c', e⟩ := own_at h h0
    cases e
    obtain ⟨cs, hcs⟩ := own_blk h
    refine .inr ⟨g, 0, cs, rfl, (own_lt h).1, hcs, fun j hj => ⟨(mkT s j : Nat), ?_⟩⟩
    rw [Nat.zero_add, ← hcs.cell]
    exact own_mk h j hj
theorem laid_hi {w : World} {lo : Nat} {x : DAt} {D : DkL} (h : Laid w lo x D) :
    Rows9 w lo x.ba D.1.length 26 1 0 (fun i => (D.1.getD i []).length) ∧ Rows9 w lo x.wa D.2.length 71 2 1 (fun i => (wr_ D.2 i).2.length) := by
  obtain ⟨g, hb, hw, rfl, k1, k2, k3, h1, h2, h3, h4, h5, ⟨cb, h6, h7, h8⟩, cw, h9, h10, h11⟩ := h
  have hst : startP (pieces D) (D.1.length + D.2.length) = sumD D := startP_sumD D
  have hpc : ∀ i v, i < D.1.length + D.2.length → PieceV g (pieces D) i v → ∃ A c, v = .slice A ((pieces D).getD i []).length c ∧ Piece w lo A ((pieces D).getD i []).length := by
    rintro i v hi ⟨o, e, ho⟩
    refine ⟨_, _, e, ?_⟩
    rcases Nat.eq_zero_or_pos ((pieces D).getD i []).length with h0 | h0
    · exact .inl h0
    · have hs := startP_succ (P := pieces D) (k := i) (by rw [pieces_length]; exact hi)
      have hm := startP_mono (P := pieces D) (show i + 1 ≤ D.1.length + D.2.length by omega)
      have ho' := ho h0
      refine .inr ⟨g, o, _, rfl, k1, h5, fun j hj => ?_⟩
      have hlt : o + j < (roomP (pieces D) (sumD D) (D.1.length + D.2.length)).length := by
        rw [roomP_length (by rw [hst]; exact Nat.le_refl _)]
        omega
      exact ⟨_, ar_get _ _ hlt⟩
  refine ⟨.inr ⟨hb, 0, cb, rfl, h6, fun i hi => ?_⟩, .inr ⟨hw, 0, cw, rfl, h9, fun i hi => ?_⟩⟩
  · obtain ⟨v, e1, e2⟩ := h8 i hi
    obtain ⟨A, c, rfl, hp⟩ := hpc i v (by omega) e2
    rw [pieces_left hi] at e1 hp
    exact ⟨A, c, by simpa using e1, hp⟩
  · obtain ⟨_, v, e1, e2⟩ := h11 i hi
    obtain ⟨A, c, rfl, hp⟩ := hpc (D.1.length + i) v (by omega) e2
    rw [pieces_right hi] at e1 hp
    exact ⟨A, c, by simpa using e1, hp⟩
theorem outD_hi {w : World} {lo : Nat} {x : DAt} {D : DkL} (h : OutD w lo x D) :
    Rows9 w lo x.ba D.1.length 26 1 0 (fun i => (D.1.getD i []).length) ∧ Rows9 w lo x.wa D.2.length 71 2 1 (fun i => (wr_ D.2 i).2.length) := by
  rcases h with ⟨rfl, rfl⟩ | h
  · exact ⟨.inl rfl, .inl rfl⟩
  · exact laid_hi h
end Go.Proofs.YtjdjbonljohnbaaGreatDoor
/-
  What the program's own calls on stores answer: a store of one's own (all its bytes in new blocks), which lasts; with a pointer, with an error's number.
-/
namespace Go.Proofs.YtjdjbonljohnbaaGreatDoor
open Go.RowKit Go.Shelf
set_option maxRecDepth 100000

/-- What is asked of a store that the program is handed: it is not great. -/
def OkS (S : StL) : Prop := Fits S.1 ∧ S.2.1.length ≤ 20000 ∧ WfS S
theorem MayS.ok {S : StL} (h : MayS S) : OkS S := ⟨may_fits h.1, by rw [h.2.1.1]; omega, by have := h.2.2.1.2; omega, by have := h.2.2.2; omega⟩
/-- A store of one's own. -/
def NewS (S : StL) (w : World) (e : Ending) (w' : World) : Prop := ∃ y, e = .returned (stV y S) ∧ StP 0 w' y S ∧ HiS w' w.heap.size y S ∧ Below w.heap.size w w'
/-- A store of one's own, a pointer, an error's number. -/
def NewSP (o : StL × Pt × Nat) (w : World) (e : Ending) (w' : World) : Prop := ∃ y, e = .returned (.tuple #[stV y o.1, ptV o.2.1, .int .i64 o.2.2]) ∧ StP 0 w' y o.1 ∧ HiS w' w.heap.size y o.1 ∧ Below w.heap.size w w'
theorem StP.any {L : Nat} {w : World} {x : SAt} {S : StL} (h : StP 0 w x S) : StP L w x S := h.less (Nat.zero_le _)
theorem laid_keeps3 {L lo : Nat} {w w' : World} {x : DAt} {D : DkL} (h : Laid w lo x D) (k : Keeps3 L w w') : Laid w' lo x D := by
  obtain ⟨g, hb, hw, rfl, h0, h1, h2, h3, h4, h5, h6, h7, ⟨cb, h8, h9, h10⟩, cw, h11, h12, h13⟩ := h
  exact ⟨g, hb, hw, rfl, h0, h1, h2, h3, h4, h5, h6, k.row _ _ _ h7 (by decide), ⟨cb, k.row _ _ _ h8 (by decide), h9, h10⟩, cw, k.row _ _ _ h11 (by decide), h12, h13⟩
theorem outD_keeps3 {L lo : Nat} {w w' : World} {x : DAt} {D : DkL} (h : OutD w lo x D) (k : Keeps3 L w w') : OutD w' lo x D := h.imp id fun h => laid_keeps3 h k
theorem outD_keeps {L lo : Nat} {w w' : World} {x : DAt} {D : DkL} (h : OutD w lo x D) (k : Keeps L w w') : OutD w' lo x D := outD_keeps3 h k.to3
end Go.Proofs.YtjdjbonljohnbaaGreatDoor
/-
  Store's own: isUpTo, isKey, mayBe, Check; nothing that was there is written.
-/
namespace Go.Proofs.YtjdjbonljohnbaaGreatDoor
open Go.RowKit Go.Shelf
set_option maxRecDepth 100000

theorem stUpTo_any (n : Nat) (m : Int) (r : Bool) (hr : r = true ↔ (1 ≤ n ∧ (n : Int) ≤ m)) (w : World) : Calls Tryz.prog 60 #[.int .u32 (n : Int), .int .u32 m] w fun e w' => e = .returned (.bool r) ∧ w = w' := by
  by_cases h : 1 ≤ n
  · have i1 : (1 : Int) ≤ (n : Int) := by omega
    by_cases h2 : (n : Int) ≤ m
    · obtain rfl : r = true := hr.2 ⟨h, h2⟩
      clear hr h
      go_enter Tryz.func60, Tryz.ntmps60
      go_wp2_with fail
      go_ret
      exact ⟨rfl, rfl⟩
    · obtain rfl : r = false := by cases r with | false => rfl | true => exact absurd (hr.1 rfl) (fun hh => h2 hh.2)
      clear hr h
      go_enter Tryz.func60, Tryz.ntmps60
      go_wp2_with fail
      go_ret
      exact ⟨rfl, rfl⟩
  · have i1 : ¬ (1 : Int) ≤ (n : Int) := by omega
    obtain rfl : r = false := by cases r with | false => rfl | true => exact absurd (hr.1 rfl) (fun hh => h hh.1)
    clear hr h
    go_enter Tryz.func60, Tryz.ntmps60
    go_wp2_with fail
    go_ret
    exact ⟨rfl, rfl⟩
set_option maxHeartbeats 2000000 in
theorem stMayBe_any (L : Nat) (x : SAt) (S : StL) (w : World) (h : StP L w x S) (R : Bool) (hR : R = true ↔ MayS S) : Calls Tryz.prog 46 #[stV x S] w fun e w' => e = .returned (.bool R) ∧ Below w.heap.size w w' := by
  obtain ⟨xb, b0⟩ := st_box w x S
  obtain ⟨w0, hw0⟩ : ∃ w0, w.alloc (.cells (stC x S) 29) = w0 := ⟨_, rfl⟩
  rw [hw0] at xb b0
  have h0 := h.bel b0
  have c0 := stC0 xb
  have c1 := stC1 xb
  have HX := Lib.hid xb
  have HB := Lib.hid b0
  have HS := Lib.hid h0
  have hm := dCheck_any x.d S.1 w0 h0.now.1
  simp only [dval] at hm
  simp only [stC] at hw0
  clear h h0 xb b0
  have n3 : (0 : Int) ≤ (S.2.2.2 : Int) := by omega
  have n4 : (0 : Int) ≤ (S.2.2.1 : Int) := by omega
  by_cases hd : MayD S.1
  · rw [show checkO S.1 = 0 by unfold checkO; rw [if_pos hd]] at hm
    have HM2 := Lib.hid hm
    clear hm
    by_cases ht : MayT S.2.1
    · by_cases e1 : 1 ≤ S.2.2.1 ∧ S.2.2.1 ≤ 65535
      · have HU := Lib.hid (fun W => stUpTo_any S.2.2.1 65535 true ⟨fun _ => ⟨e1.1, by omega⟩, fun _ => rfl⟩ W)
        by_cases e3 : S.2.2.2 ≤ 65535
        · have n2 : (S.2.2.2 : Int) ≤ 65535 := by omega
          obtain rfl : R = true := hR.2 ⟨hd, ht, e1, e3⟩
          clear hR e1 e3 hd
          go_enter Tryz.func46, Tryz.ntmps46
          go_wp2_with fail
          clear c0 c1
          refine HM2.out.mono ?_
          rintro e w1 ⟨rfl, b1⟩
          have x1 := HX.out.below b1 HX.out.lt
          have c2 := stC2 x1
          have c3 := stC3 x1
          have c4 := stC4 x1
          have HC := Lib.hid (spCheck_yes x.a S.2.1.length x.c _ S.2.1 w1 (HS.out.bel b1).now.2 ht)
          have HB1 := Lib.hid (HB.out.trans (b1.mono HB.out.size))
          clear b1 x1 ht
          go_wp2_with fail
          refine HC.out.mono ?_
          rintro e w2 ⟨rfl, rfl⟩
          go_wp2_with fail
          refine (HU.out w1).mono ?_
          rintro e w2 ⟨rfl, rfl⟩
          go_wp2_with fail
          go_ret
          exact ⟨rfl, HB1.out⟩
        · have n2 : ¬ (S.2.2.2 : Int) ≤ 65535 := by omega
          obtain rfl : R = false := by cases R with | false => rfl | true => exact absurd (hR.1 rfl) (fun hh => e3 hh.2.2.2)
          clear hR e1 e3 hd
          go_enter Tryz.func46, Tryz.ntmps46
          go_wp2_with fail
          clear c0 c1
          refine HM2.out.mono ?_
          rintro e w1 ⟨rfl, b1⟩
          have x1 := HX.out.below b1 HX.out.lt
          have c2 := stC2 x1
          have c3 := stC3 x1
          have c4 := stC4 x1
          have HC := Lib.hid (spCheck_yes x.a S.2.1.length x.c _ S.2.1 w1 (HS.out.bel b1).now.2 ht)
          have HB1 := Lib.hid (HB.out.trans (b1.mono HB.out.size))
          clear b1 x1 ht
          go_wp2_with fail
          refine HC.out.mono ?_
          rintro e w2 ⟨rfl, rfl⟩
          go_wp2_with fail
          refine (HU.out w1).mono ?_
          rintro e w2 ⟨rfl, rfl⟩
          go_wp2_with fail
          go_ret
          exact ⟨by simp; omega, HB1.out⟩
      · have HU := Lib.hid (fun W => stUpTo_any S.2.2.1 65535 false ⟨fun h => (by cases h), fun h => absurd (show 1 ≤ S.2.2.1 ∧ S.2.2.1 ≤ 65535 by omega) e1⟩ W)
        obtain rfl : R = false := by cases R with | false => rfl | true => exact absurd (hR.1 rfl) (fun hh => e1 hh.2.2.1)
        clear hR e1 hd
        go_enter Tryz.func46, Tryz.ntmps46
        go_wp2_with fail
        clear c0 c1
        refine HM2.out.mono ?_
        rintro e w1 ⟨rfl, b1⟩
        have x1 := HX.out.below b1 HX.out.lt
        have c2 := stC2 x1
        have c3 := stC3 x1
        have c4 := stC4 x1
        have HC := Lib.hid (spCheck_yes x.a S.2.1.length x.c _ S.2.1 w1 (HS.out.bel b1).now.2 ht)
        have HB1 := Lib.hid (HB.out.trans (b1.mono HB.out.size))
        clear b1 x1 ht
        go_wp2_with fail
        refine HC.out.mono ?_
        rintro e w2 ⟨rfl, rfl⟩
        go_wp2_with fail
        refine (HU.out w1).mono ?_
        rintro e w2 ⟨rfl, rfl⟩
        go_wp2_with fail
        go_ret
        exact ⟨rfl, HB1.out⟩
    · obtain rfl : R = false := by cases R with | false => rfl | true => exact absurd (hR.1 rfl) (fun hh => ht hh.2.1)
      clear hR hd
      go_enter Tryz.func46, Tryz.ntmps46
      go_wp2_with fail
      clear c0 c1
      refine HM2.out.mono ?_
      rintro e w1 ⟨rfl, b1⟩
      have x1 := HX.out.below b1 HX.out.lt
      have c2 := stC2 x1
      have c3 := stC3 x1
      have c4 := stC4 x1
      have HC := Lib.hid (spCheck_no x.a S.2.1.length x.c _ S.2.1 w1 (HS.out.bel b1).now.2 ht)
      have HB1 := Lib.hid (HB.out.trans (b1.mono HB.out.size))
      clear b1 x1 ht
      go_wp2_with fail
      refine HC.out.mono ?_
      rintro e w2 ⟨rfl, rfl⟩
      go_wp2_with fail
      go_ret
      exact ⟨rfl, HB1.out⟩
  · rw [show checkO S.1 = 8 by unfold checkO; rw [if_neg hd]] at hm
    have HM2 := Lib.hid hm
    clear hm
    obtain rfl : R = false := by cases R with | false => rfl | true => exact absurd (hR.1 rfl) (fun hh => hd hh.1)
    clear hR hd
    go_enter Tryz.func46, Tryz.ntmps46
    go_wp2_with fail
    clear c0 c1
    refine HM2.out.mono ?_
    rintro e w1 ⟨rfl, b1⟩
    have HB1 := Lib.hid (HB.out.trans (b1.mono HB.out.size))
    clear b1
    go_wp2_with fail
    go_ret
    exact ⟨rfl, HB1.out⟩
theorem stCheck_all (L : Nat) (x : SAt) (S : StL) (w : World) (h : StP L w x S) (_hL : L ≤ w.heap.size) (c : Nat) (hc : (MayS S → c = 0) ∧ (¬ MayS S → c = 8)) : Calls Tryz.prog 24 #[stV x S] w fun e w' => e = .returned (.int .i64 c) ∧ Below w.heap.size w w' := by
  obtain ⟨xb, b0⟩ := st_box w x S
  obtain ⟨w0, hw0⟩ : ∃ w0, w.alloc (.cells (stC x S) 29) = w0 := ⟨_, rfl⟩
  rw [hw0] at xb b0
  have c0 := stC0 xb
  have c1 := stC1 xb
  have c2 := stC2 xb
  have c3 := stC3 xb
  have c4 := stC4 xb
  have HB := Lib.hid b0
  have HMY := fun R hR => stMayBe_any L x S w0 (h.bel b0) R hR
  simp only [stC] at hw0
  clear h xb b0
  by_cases hm : MayS S
  · obtain rfl : c = 0 := hc.1 hm
    have HM := Lib.hid (HMY true ⟨fun _ => hm, fun _ => rfl⟩)
    clear HMY hc hm
    go_enter Tryz.func24, Tryz.ntmps24
    go_wp2_with fail
    refine HM.out.mono ?_
    rintro e w1 ⟨rfl, b1⟩
    have HB1 := Lib.hid (HB.out.trans (b1.mono HB.out.size))
    clear b1 c0 c1 c2 c3 c4
    go_wp2_with fail
    go_ret
    exact ⟨rfl, HB1.out⟩
  · obtain rfl : c = 8 := hc.2 hm
    have HM := Lib.hid (HMY false ⟨fun h => (by cases h), fun h => absurd h hm⟩)
    clear HMY hc hm
    go_enter Tryz.func24, Tryz.ntmps24
    go_wp2_with fail
    refine HM.out.mono ?_
    rintro e w1 ⟨rfl, b1⟩
    have HB1 := Lib.hid (HB.out.trans (b1.mono HB.out.size))
    clear b1 c0 c1 c2 c3 c4
    go_wp2_with fail
    go_ret
    exact ⟨rfl, HB1.out⟩
end Go.Proofs.YtjdjbonljohnbaaGreatDoor
/-
  The document's own Same of layer 13: whether all fields of two stores are the same.
-/
namespace Go.Proofs.YtjdjbonljohnbaaGreatDoor
open Go.RowKit Go.Shelf
set_option maxRecDepth 100000

theorem strs_eq (s t : List UInt8) (r : Bool) (hr : r = true ↔ s = t) : ((strOf s).toList == (strOf t).toList) = r := by
  rw [strOf_toList, strOf_toList]
  cases r with
  | true => simp [hr.1 rfl]
  | false =>
    have : s ≠ t := fun h => by have := hr.2 h; cases this
    simp [this]
theorem nat_eq (a b : Nat) (r : Bool) (hr : r = true ↔ a = b) : ((a : Int) == (b : Int)) = r := by
  cases r with
  | true => have := hr.1 rfl; subst this; simp
  | false =>
    have : a ≠ b := fun h => by have := hr.2 h; cases this
    simp; omega
set_option maxHeartbeats 4000000 in
theorem rtSame_any (L : Nat) (x y : SAt) (S T : StL) (w : World) (h : StP L w x S) (k : StP L w y T) (hf : S.1.1.length ≤ 1000000 ∧ S.1.2.length ≤ 1000000) (R : Bool) (hR : R = true ↔ S = T) :
    Calls Tryz.prog 10 #[stV x S, stV y T] w fun e w' => e = .returned (.bool R) ∧ Below w.heap.size w w' := by
  obtain ⟨w0, hw0, b0, z0, x0, x1⟩ := two_al w (stC x S) (stC y T) 29 29
  have h0 := h.bel b0
  have k0 := k.bel b0
  have c0 := stC0 x0
  have c1 := stC1 x0
  have c2 := stC0 x1
  have c3 := stC1 x1
  have HX := Lib.hid x0
  have HY := Lib.hid x1
  have HB := Lib.hid b0
  have HS := Lib.hid h0
  have HT := Lib.hid k0
  have HF := Lib.hid hf
  have HD := Lib.hid (fun R' hR' => rdSame_any x.d S.1 y.d T.1 w0 h0.now.1 k0.now.1 hf R' hR')
  simp only [stC] at hw0
  clear h k h0 k0 x0 x1 b0 hf z0
  by_cases e1 : S.1 = T.1
  · by_cases e2 : S.2.1 = T.2.1
    · have g2 := strs_eq S.2.1 T.2.1 true ⟨fun _ => e2, fun _ => rfl⟩
      by_cases e3 : S.2.2.1 = T.2.2.1
      · have g3 := nat_eq S.2.2.1 T.2.2.1 true ⟨fun _ => e3, fun _ => rfl⟩
        by_cases e4 : S.2.2.2 = T.2.2.2
        · have g4 := nat_eq S.2.2.2 T.2.2.2 true ⟨fun _ => e4, fun _ => rfl⟩
          obtain rfl : R = true := hR.2 (Prod.ext e1 (Prod.ext e2 (Prod.ext e3 e4)))
          have E1 := Lib.hid e1
          clear hR e1 e2 e3 e4
          have hds := HD.out true ⟨fun _ => E1.out, fun _ => rfl⟩
          simp only [dval] at hds
          have HDS := Lib.hid hds
          clear hds
          go_enter Tryz.func10, Tryz.ntmps10
          go_wp2_with fail
          clear c0 c1 c2 c3 hw0
          refine HDS.out.mono ?_
          rintro e w1 ⟨rfl, b1⟩
          have y1 := HX.out.below b1 HX.out.lt
          have y2 := HY.out.below b1 HY.out.lt
          have d2 := stC2 y1
          have d3 := stC3 y1
          have d4 := stC4 y1
          have f2 := stC2 y2
          have f3 := stC3 y2
          have f4 := stC4 y2
          have v1 := (HS.out.bel b1).now.2.conv
          have v2 := (HT.out.bel b1).now.2.conv
          have HB1 := Lib.hid (HB.out.trans (b1.mono HB.out.size))
          clear y1 y2 b1
          go_wp2_with fail
          go_ret
          exact ⟨rfl, HB1.out⟩
        · have g4 := nat_eq S.2.2.2 T.2.2.2 false ⟨fun h => (by cases h), fun h => absurd h e4⟩
          obtain rfl : R = false := by cases R with | false => rfl | true => exact absurd (hR.1 rfl) (fun hh => e4 (by rw [hh]))
          have E1 := Lib.hid e1
          clear hR e1 e2 e3 e4
          have hds := HD.out true ⟨fun _ => E1.out, fun _ => rfl⟩
          simp only [dval] at hds
          have HDS := Lib.hid hds
          clear hds
          go_enter Tryz.func10, Tryz.ntmps10
          go_wp2_with fail
          clear c0 c1 c2 c3 hw0
          refine HDS.out.mono ?_
          rintro e w1 ⟨rfl, b1⟩
          have y1 := HX.out.below b1 HX.out.lt
          have y2 := HY.out.below b1 HY.out.lt
          have d2 := stC2 y1
          have d3 := stC3 y1
          have d4 := stC4 y1
          have f2 := stC2 y2
          have f3 := stC3 y2
          have f4 := stC4 y2
          have v1 := (HS.out.bel b1).now.2.conv
          have v2 := (HT.out.bel b1).now.2.conv
          have HB1 := Lib.hid (HB.out.trans (b1.mono HB.out.size))
          clear y1 y2 b1
          go_wp2_with fail
          go_ret
          exact ⟨rfl, HB1.out⟩
      · have g3 := nat_eq S.2.2.1 T.2.2.1 false ⟨fun h => (by cases h), fun h => absurd h e3⟩
        obtain rfl : R = false := by cases R with | false => rfl | true => exact absurd (hR.1 rfl) (fun hh => e3 (by rw [hh]))
        have E1 := Lib.hid e1
        clear hR e1 e2 e3
        have hds := HD.out true ⟨fun _ => E1.out, fun _ => rfl⟩
        simp only [dval] at hds
        have HDS := Lib.hid hds
        clear hds
        go_enter Tryz.func10, Tryz.ntmps10
        go_wp2_with fail
        clear c0 c1 c2 c3 hw0
        refine HDS.out.mono ?_
        rintro e w1 ⟨rfl, b1⟩
        have y1 := HX.out.below b1 HX.out.lt
        have y2 := HY.out.below b1 HY.out.lt
        have d2 := stC2 y1
        have d3 := stC3 y1
        have d4 := stC4 y1
        have f2 := stC2 y2
        have f3 := stC3 y2
        have f4 := stC4 y2
        have v1 := (HS.out.bel b1).now.2.conv
        have v2 := (HT.out.bel b1).now.2.conv
        have HB1 := Lib.hid (HB.out.trans (b1.mono HB.out.size))
        clear y1 y2 b1
        go_wp2_with fail
        go_ret
        exact ⟨rfl, HB1.out⟩
    · have g2 := strs_eq S.2.1 T.2.1 false ⟨fun h => (by cases h), fun h => absurd h e2⟩
      obtain rfl : R = false := by cases R with | false => rfl | true => exact absurd (hR.1 rfl) (fun hh => e2 (by rw [hh]))
      have E1 := Lib.hid e1
      clear hR e1 e2
      have hds := HD.out true ⟨fun _ => E1.out, fun _ => rfl⟩
      simp only [dval] at hds
      have HDS := Lib.hid hds
      clear hds
      go_enter Tryz.func10, Tryz.ntmps10
      go_wp2_with fail
      clear c0 c1 c2 c3 hw0
      refine HDS.out.mono ?_
      rintro e w1 ⟨rfl, b1⟩
      have y1 := HX.out.below b1 HX.out.lt
      have y2 := HY.out.below b1 HY.out.lt
      have d2 := stC2 y1
      have d3 := stC3 y1
      have d4 := stC4 y1
      have f2 := stC2 y2
      have f3 := stC3 y2
      have f4 := stC4 y2
      have v1 := (HS.out.bel b1).now.2.conv
      have v2 := (HT.out.bel b1).now.2.conv
      have HB1 := Lib.hid (HB.out.trans (b1.mono HB.out.size))
      clear y1 y2 b1
      go_wp2_with fail
      go_ret
      exact ⟨rfl, HB1.out⟩
  · obtain rfl : R = false := by cases R with | false => rfl | true => exact absurd (hR.1 rfl) (fun hh => e1 (by rw [hh]))
    have E1 := Lib.hid e1
    clear hR e1
    have hds := HD.out false ⟨fun h => (by cases h), fun h => absurd h E1.out⟩
    simp only [dval] at hds
    have HDS := Lib.hid hds
    clear hds
    go_enter Tryz.func10, Tryz.ntmps10
    go_wp2_with fail
    clear c0 c1 c2 c3 hw0
    refine HDS.out.mono ?_
    rintro e w1 ⟨rfl, b1⟩
    have y1 := HX.out.below b1 HX.out.lt
    have y2 := HY.out.below b1 HY.out.lt
    have d2 := stC2 y1
    have d3 := stC3 y1
    have d4 := stC4 y1
    have f2 := stC2 y2
    have f3 := stC3 y2
    have f4 := stC4 y2
    have v1 := (HS.out.bel b1).now.2.conv
    have v2 := (HT.out.bel b1).now.2.conv
    have HB1 := Lib.hid (HB.out.trans (b1.mono HB.out.size))
    clear y1 y2 b1
    go_wp2_with fail
    go_ret
    exact ⟨rfl, HB1.out⟩
end Go.Proofs.YtjdjbonljohnbaaGreatDoor
/-
  What the document's own Turn, Back, Four, Sum and Key answer is what mix.Turn, Back, Four, Sum and Key answer.
-/
namespace Go.Proofs.YtjdjbonljohnbaaGreatDoor
open Go.RowKit Go.Shelf
set_option maxRecDepth 100000

theorem rplus_any (x y : BitVec 32) (w : World) : Calls Tryz.prog 129 #[.int .u32 (x.toNat : Int), .int .u32 (y.toNat : Int)] w fun e w' => e = .returned (.int .u32 ((pl x y).toNat : Int)) ∧ w = w' := by
  have x0 : (0 : Int) ≤ (x.toNat : Int) := by omega
  have x1 : (x.toNat : Int) ≤ 4294967295 := by have := x.isLt; omega
  have y0 : (0 : Int) ≤ (y.toNat : Int) := by omega
  have y1 : (y.toNat : Int) ≤ 4294967295 := by have := y.isLt; omega
  have z0 : (0 : Int) ≤ ((pl x y).toNat : Int) := by omega
  have z1 : ((pl x y).toNat : Int) ≤ 4294967295 := by have := (pl x y).isLt; omega
  have e1 := add32 x y
  go_enter Tryz.func129, Tryz.ntmps129
  go_wp2
  go_ret
  exact ⟨rfl, rfl⟩
theorem rleft_any (x : BitVec 32) (n : Nat) (hn : n < 32) (w : World) : Calls Tryz.prog 130 #[.int .u32 (x.toNat : Int), .int .i64 n] w fun e w' => e = .returned (.int .u32 ((ro n x).toNat : Int)) ∧ w = w' := by
  have x0 : (0 : Int) ≤ (x.toNat : Int) := by omega
  have x1 : (x.toNat : Int) ≤ 4294967295 := by have := x.isLt; omega
  go_enter Tryz.func130, Tryz.ntmps130
  go_wp2_with fail
  go_loop [5, 6] (fun v i => ∃ k : Nat, k ≤ n ∧ i = .int .i64 k ∧ v = .int .i64 ((ro k x).toNat : Int)) (fun _ i => n - (intOf i).toNat)
  case atStart => exact ⟨0, Nat.zero_le _, rfl, by rw [ro_0]⟩
  case round =>
    obtain ⟨k, hk, rfl, rfl⟩ := hrel
    obtain ⟨v, hv⟩ : ∃ v : Nat, (ro k x).toNat = v := ⟨_, rfl⟩
    have hvl : v < 4294967296 := by rw [← hv]; exact (ro k x).isLt
    by_cases hlt : k < n
    · have hs := ro_succ k (by omega) x
      rw [hv] at hs ⊢
      have HS := Lib.hid hs; clear hs hv
      have v0 : (0 : Int) ≤ v := by omega
      have v1 : (v : Int) ≤ 4294967295 := by omega
      go_wp2
      go_round
      case rel => exact ⟨k + 1, by omega, by go_num, by rw [HS.out]; congr 1⟩
      case measure => simp [intOf]; omega
    · obtain rfl : k = n := by omega
      rw [hv]
      have v0 : (0 : Int) ≤ v := by omega
      have v1 : (v : Int) ≤ 4294967295 := by omega
      have HV := Lib.hid hv; clear hv
      go_wp2
      go_ret
      exact ⟨ret_int (by rw [HV.out]), rfl⟩

set_option maxHeartbeats 2000000 in
theorem rturn_any (x : W4) (w : World) : Calls Tryz.prog 112 #[ag x] w fun e w' => e = .returned (ag (turnW x)) ∧ Below w.heap.size w w' := by
  have r2 := xor32
  obtain ⟨a, b, c, d⟩ := x
  go_enter Tryz.func112, Tryz.ntmps112
  go_wp2_with fail
  refine (rplus_any _ _ _).mono ?_; rintro e w' ⟨rfl, rfl⟩
  go_wp2_with fail
  refine (rleft_any _ 15 (by omega) _).mono ?_; rintro e w' ⟨rfl, rfl⟩
  go_wp2_with fail
  refine (rplus_any _ _ _).mono ?_; rintro e w' ⟨rfl, rfl⟩
  go_wp2_with fail
  refine (rleft_any _ 11 (by omega) _).mono ?_; rintro e w' ⟨rfl, rfl⟩
  go_wp2_with fail
  refine (rplus_any _ _ _).mono ?_; rintro e w' ⟨rfl, rfl⟩
  go_wp2_with fail
  refine (rleft_any _ 9 (by omega) _).mono ?_; rintro e w' ⟨rfl, rfl⟩
  go_wp2_with fail
  refine (rplus_any _ _ _).mono ?_; rintro e w' ⟨rfl, rfl⟩
  go_wp2_with fail
  refine (rleft_any _ 6 (by omega) _).mono ?_; rintro e w' ⟨rfl, rfl⟩
  go_wp2_with fail
  exact bodyPost_ret (v := ag (turnW ⟨a, b, c, d⟩)) (by simp [results, Tryz.results112, go_sem, turnW, halfT]) rfl ⟨rfl, ((Below.refl _ w).alloc (Nat.le_refl _) _).alloc (by simp) _⟩
theorem rbyte_any (a : Option Addr) (len cap : Nat) (s : List UInt8) (i : Nat) (B : Nat) (w : World) (hA : Bsl w B a len cap s) (hi : i ≤ 1000000) (hl : len ≤ 1000000) :
    Calls Tryz.prog 128 #[.slice a len cap, .int .i64 i] w fun e w' => e = .returned (.int .u32 ((byteP s i).toNat : Int)) ∧ w = w' := by
  have hsl := hA.1
  have i0 : (0 : Int) ≤ i := by omega
  by_cases h1 : i < len
  · obtain ⟨b, off, rfl, hb, hc⟩ := hA.2.2.2.2 (by omega)
    have hcc := hc i (by omega)
    have e : byteP s i = s[i]'(by omega) := by unfold byteP; rw [dif_pos (by omega)]
    rw [e]
    obtain ⟨v, hv⟩ : ∃ v : Nat, (s[i]'(by omega)).toNat = v := ⟨_, rfl⟩
    rw [hv] at hcc ⊢
    have v0 : (0 : Int) ≤ v := by omega
    have v1 : (v : Int) ≤ 255 := by have := (s[i]'(by omega)).toNat_lt; omega
    have i1 : (i : Int) < len := by omega
    clear hv e hA hc hsl
    go_enter Tryz.func128, Tryz.ntmps128
    go_wp2
    go_ret
    exact ⟨rfl, rfl⟩
  · have i1 : ¬ (i : Int) < len := by omega
    by_cases h2 : i = len
    · have e : byteP s i = 1 := by unfold byteP; rw [dif_neg (by omega), if_pos (by omega)]
      rw [e]
      have i2 : ((i : Int) == len) = true := by simp; omega
      clear e hA hsl h1 h2
      go_enter Tryz.func128, Tryz.ntmps128
      go_wp2
      go_ret
      exact ⟨rfl, rfl⟩
    · have e : byteP s i = 0 := by unfold byteP; rw [dif_neg (by omega), if_neg (by omega)]
      rw [e]
      have i2 : ((i : Int) == len) = false := by simp; omega
      clear e hA hsl h1 h2
      go_enter Tryz.func128, Tryz.ntmps128
      go_wp2
      go_ret
      exact ⟨rfl, rfl⟩
theorem rword_any (a : Option Addr) (len cap : Nat) (s : List UInt8) (i : Nat) (B : Nat) (w : World) (hA : Bsl w B a len cap s) (hi : i + 3 ≤ 1000000) (hl : len ≤ 1000000) :
    Calls Tryz.prog 111 #[.slice a len cap, .int .i64 i] w fun e w' => e = .returned (.int .u32 ((wordP s i).toNat : Int)) ∧ w = w' := by
  rw [wordP_toNat]
  unfold quadP
  rw [leN4]
  have q0 := rbyte_any a len cap s i B w hA (by omega) hl
  have q1 := rbyte_any a len cap s (i + 1) B w hA (by omega) hl
  have q2 := rbyte_any a len cap s (i + 2) B w hA (by omega) hl
  have q3 := rbyte_any a len cap s (i + 3) B w hA (by omega) hl
  rw [show ((i + 1 : Nat) : Int) = (i : Int) + 1 by omega] at q1
  rw [show ((i + 2 : Nat) : Int) = (i : Int) + 2 by omega] at q2
  rw [show ((i + 3 : Nat) : Int) = (i : Int) + 3 by omega] at q3
  obtain ⟨b0, h0⟩ : ∃ b0 : Nat, (byteP s i).toNat = b0 := ⟨_, rfl⟩
  obtain ⟨b1, h1⟩ : ∃ b0 : Nat, (byteP s (i + 1)).toNat = b0 := ⟨_, rfl⟩
  obtain ⟨b2, h2⟩ : ∃ b0 : Nat, (byteP s (i + 2)).toNat = b0 := ⟨_, rfl⟩
  obtain ⟨b3, h3⟩ : ∃ b0 : Nat, (byteP s (i + 3)).toNat = b0 := ⟨_, rfl⟩
  have t0 := (byteP s i).toNat_lt
  have t1 := (byteP s (i + 1)).toNat_lt
  have t2 := (byteP s (i + 2)).toNat_lt
  have t3 := (byteP s (i + 3)).toNat_lt
  rw [h0] at t0 q0 ⊢
  rw [h1] at t1 q1 ⊢
  rw [h2] at t2 q2 ⊢
  rw [h3] at t3 q3 ⊢
  have u0 : (0 : Int) ≤ b0 := by omega
  have u1 : (0 : Int) ≤ b1 := by omega
  have u2 : (0 : Int) ≤ b2 := by omega
  have u3 : (0 : Int) ≤ b3 := by omega
  have v0 : (b0 : Int) ≤ 255 := by omega
  have v1 : (b1 : Int) ≤ 255 := by omega
  have v2 : (b2 : Int) ≤ 255 := by omega
  have v3 : (b3 : Int) ≤ 255 := by omega
  have i0 : (0 : Int) ≤ i := by omega
  have i1 : (i : Int) ≤ 1000000 := by omega
  have Q0 := Lib.hid q0; clear q0
  have Q1 := Lib.hid q1; clear q1
  have Q2 := Lib.hid q2; clear q2
  have Q3 := Lib.hid q3; clear q3
  clear h0 h1 h2 h3 hA
  go_enter Tryz.func111, Tryz.ntmps111
  go_wp2_with fail
  refine Q0.out.mono ?_; rintro e w' ⟨rfl, rfl⟩
  go_wp2_with fail
  refine Q1.out.mono ?_; rintro e w' ⟨rfl, rfl⟩
  go_wp2_with fail
  refine Q2.out.mono ?_; rintro e w' ⟨rfl, rfl⟩
  go_wp2_with fail
  refine Q3.out.mono ?_; rintro e w' ⟨rfl, rfl⟩
  go_wp2_with fail
  go_ret
  exact ⟨rfl, rfl⟩
end Go.Proofs.YtjdjbonljohnbaaGreatDoor
/-
  What the document's own Four, Sum and Key answer is what mix.Four, Sum and Key answer.
-/
namespace Go.Proofs.YtjdjbonljohnbaaGreatDoor
open Go.RowKit Go.Shelf
set_option maxRecDepth 100000

set_option maxHeartbeats 4000000 in
theorem rfour_any (a : Option Addr) (len cap : Nat) (s : List UInt8) (w : World) (hA : Bsl w w.heap.size a len cap s) (hl : len ≤ 100000) :
    Calls Tryz.prog 90 #[.slice a len cap] w fun e w' => e = .returned (ag (fourW s)) ∧ Below w.heap.size w w' := by
  have hmx : Tryz.prog.follows Departure.mixedOrders = true := by kernel_rfl
  have r2 := xor32
  have l0 : (0 : Int) ≤ len := by omega
  have l1 : (len : Int) ≤ 100000 := by omega
  obtain ⟨g, hg⟩ : ∃ g, w.heap.size = g := ⟨_, rfl⟩
  obtain ⟨W0, hW0⟩ : ∃ W0, ((w.alloc (Obj.cells #[Value.int IntKind.u32 0, Value.int IntKind.u32 0, Value.int IntKind.u32 0, Value.int IntKind.u32 0] 121)).alloc (Obj.cells #[Value.int IntKind.u32 1, Value.int IntKind.u32 2, Value.int IntKind.u32 3, Value.int IntKind.u32 4] 121)) = W0 := ⟨_, rfl⟩
  have hB0 : Below w.heap.size w W0 := by rw [← hW0]; exact ((Below.refl _ w).alloc (Nat.le_refl _) _).alloc (by simp) _
  have b0 : Blk W0 g 121 #[.int .u32 0, .int .u32 0, .int .u32 0, .int .u32 0] := by rw [← hW0, ← hg]; exact (Blk.new w _ _).alloc _
  have b1 : Blk W0 (g + 1) 121 (cl ⟨1, 2, 3, 4⟩) := by
    have := (Blk.new (w.alloc (Obj.cells #[Value.int IntKind.u32 0, Value.int IntKind.u32 0, Value.int IntKind.u32 0, Value.int IntKind.u32 0] 121)) 121 (cl ⟨1, 2, 3, 4⟩))
    rw [World.size_alloc, hg] at this
    rw [← hW0]
    exact this
  have wd : ∀ (i : Nat) (W : World), i ≤ 200000 → Below w.heap.size w W → Calls Tryz.prog 111 #[.slice a len cap, .int .i64 i] W fun e w' => e = .returned (.int .u32 ((wordP s i).toNat : Int)) ∧ w' = W := fun i W hi hW =>
    (rword_any a len cap s i _ W (hA.below hW) (by omega) (by omega)).mono fun _ _ h => ⟨h.1, h.2.symm⟩
  have hsl := hA.1
  have WD := Lib.hid wd; clear wd hA
  have HSL := Lib.hid hsl; clear hsl
  have HW0 := Lib.hid hW0; clear hW0
  have HBe := Lib.hid hB0; clear hB0
  have HB0 := Lib.hid b0; clear b0
  have HB1 := Lib.hid b1; clear b1
  go_enter Tryz.func90, Tryz.ntmps90
  go_wp2_with fail
  rw [HW0.out]
  have HG := Lib.hid hg; clear hg
  go_loopw [4] (fun i wr => ∃ k : Nat, k ≤ len / 8 + 1 ∧ i = .int .i64 ((8 * k : Nat) : Int) ∧ Blk wr (g + 1) 121 (cl (behind s k)) ∧ Blk wr g 121 #[.int .u32 0, .int .u32 0, .int .u32 0, .int .u32 0] ∧ Below w.heap.size w wr) (fun i _ => 200000 - (intOf i).toNat)
  case atStart => exact ⟨0, Nat.zero_le _, rfl, HB1.out, HB0.out, HBe.out⟩
  case round =>
    obtain ⟨k, hk, rfl, hx, hr, hbe⟩ := hrel
    obtain ⟨m, hm⟩ : ∃ m : Nat, 8 * k = m := ⟨_, rfl⟩
    rw [hm]
    have m0 : (0 : Int) ≤ m := by omega
    have m1 : (m : Int) ≤ 200000 := by omega
    by_cases hlt : m ≤ len
    · have m2 : (m : Int) ≤ len := by omega
      have m3 : IntKind.i64.wrap ((m : Int) + 4) = (m : Int) + 4 := IntWalk.i64_in _ (by omega)
      obtain ⟨x, hxx⟩ : ∃ x, behind s k = x := ⟨_, rfl⟩
      rw [hxx] at hx
      obtain ⟨p1, hp1⟩ : ∃ p1, wordP s m = p1 := ⟨_, rfl⟩
      obtain ⟨p2, hp2⟩ : ∃ p2, wordP s (m + 4) = p2 := ⟨_, rfl⟩
      have hnx : behind s (k + 1) = turnsW 4 ⟨xo x.a p1, x.b, xo x.c p2, x.d⟩ := by rw [behind, hxx, hm, hp1, hp2]; rfl
      obtain ⟨w1, hw1⟩ : ∃ w1, wr.drew = w1 := ⟨_, rfl⟩
      have hx1 : Blk w1 (g + 1) 121 (cl x) := hw1 ▸ hx.drew
      have hr1 : Blk w1 g 121 _ := hw1 ▸ hr.drew
      have he1 : Below w.heap.size w w1 := hw1 ▸ hbe.drew
      have q1 := WD.out m w1 (by omega) he1
      rw [hp1] at q1
      have HM := Lib.hid hm; clear hm
      have HNX := Lib.hid hnx; clear hnx hxx
      have HP2 := Lib.hid hp2; clear hp2 hp1
      have c0 := hx1.cell 0
      have f := fun i => hx1.frozen i
      have HW1 := Lib.hid hw1; clear hw1
      have HX1 := Lib.hid hx1; clear hx1
      have HR1 := Lib.hid hr1; clear hr1
      have HE1 := Lib.hid he1; clear he1
      have Q1 := Lib.hid q1; clear q1
      clear hx hr hbe
      go_wp2_with fail
      refine region_tail 7 hmx (by kernel_rfl) HW1.out ?_
      simp only [List.take_succ_cons, List.take_zero, List.drop_succ_cons, List.drop_zero]
      repeat still_step
      still_call (Q1.out)
      repeat still_step
      refine wpStill_nil ?_
      go_wp2_with fail
      obtain ⟨w2, hw2⟩ : ∃ w2, (w1.setCell ⟨g + 1, 0, none⟩ (.int .u32 ((xo x.a p1).toNat : Int))).drew = w2 := ⟨_, rfl⟩
      have hx2 : Blk w2 (g + 1) 121 (cl ⟨xo x.a p1, x.b, x.c, x.d⟩) := hw2 ▸ (HX1.out.set_ 0 _).drew
      have hr2 : Blk w2 g 121 _ := hw2 ▸ (HR1.out.far (by simp) _).drew
      have he2 : Below w.heap.size w w2 := hw2 ▸ (HE1.out.setCell (p := ⟨g + 1, 0, none⟩) (by rw [HG.out]; simp) _).drew
      have q2 := WD.out (m + 4) w2 (by omega) he2
      rw [HP2.out, show ((m + 4 : Nat) : Int) = (m : Int) + 4 by omega] at q2
      clear c0 f
      have c0 := hx2.cell 0
      have c1 := hx2.cell 1
      have c2 := hx2.cell 2
      have c3 := hx2.cell 3
      have f := fun i => hx2.frozen i
      have HW2 := Lib.hid hw2; clear hw2
      have HX2 := Lib.hid hx2; clear hx2
      have HR2 := Lib.hid hr2; clear hr2
      have HE2 := Lib.hid he2; clear he2
      have Q2 := Lib.hid q2; clear q2
      refine region_tail 8 hmx (by kernel_rfl) HW2.out ?_
      simp only [List.take_succ_cons, List.take_zero, List.drop_succ_cons, List.drop_zero]
      repeat still_step
      still_call (Q2.out)
      repeat still_step
      refine wpStill_nil ?_
      go_wp2_with fail
      obtain ⟨w3, hw3⟩ : ∃ w3, w2.setCell ⟨g + 1, 2, none⟩ (.int .u32 ((xo x.c p2).toNat : Int)) = w3 := ⟨_, rfl⟩
      have hr3 : Blk w3 g 121 _ := hw3 ▸ HR2.out.far (by simp) _
      have hx3 : Blk w3 (g + 1) 121 (cl ⟨xo x.a p1, x.b, xo x.c p2, x.d⟩) := hw3 ▸ HX2.out.set_ 2 _
      have he3 : Below w.heap.size w w3 := hw3 ▸ HE2.out.setCell (p := ⟨g + 1, 2, none⟩) (by rw [HG.out]; simp) _
      rw [hw3]
      obtain ⟨y, hy⟩ : ∃ y : W4, (⟨xo x.a p1, x.b, xo x.c p2, x.d⟩ : W4) = y := ⟨_, rfl⟩
      have HNY : Hid (behind s (k + 1) = turnsW 4 y) := Lib.hid (by rw [HNX.out, hy])
      rw [hy] at hx3
      have ey : (Value.agg #[.int .u32 ((xo x.a p1).toNat : Int), .int .u32 (x.b.toNat : Int), .int .u32 ((xo x.c p2).toNat : Int), .int .u32 (x.d.toNat : Int)]) = ag y := by rw [← hy]
      clear hw3 c0 c1 c2 c3 f
      refine (rturn_any ⟨xo x.a p1, x.b, xo x.c p2, x.d⟩ w3).mono ?_
      rintro e w4 ⟨rfl, b4⟩
      rw [hy]
      clear hy ey
      have HX3 := Lib.hid (hx3.below b4 hx3.lt)
      have HR3 := Lib.hid (hr3.below b4 hr3.lt)
      have HE3 := Lib.hid (he3.trans (b4.mono he3.size)); clear hx3 hr3 he3 b4
      go_wp2_with fail
      refine (rturn_any (turnW y) w4).mono ?_
      rintro e w5 ⟨rfl, b5⟩
      have HX4 := Lib.hid (HX3.out.below b5 HX3.out.lt)
      have HR4 := Lib.hid (HR3.out.below b5 HR3.out.lt)
      have HE4 := Lib.hid (HE3.out.trans (b5.mono HE3.out.size)); clear b5
      go_wp2_with fail
      refine (rturn_any (turnW (turnW y)) w5).mono ?_
      rintro e w6 ⟨rfl, b6⟩
      have HX5 := Lib.hid (HX4.out.below b6 HX4.out.lt)
      have HR5 := Lib.hid (HR4.out.below b6 HR4.out.lt)
      have HE5 := Lib.hid (HE4.out.trans (b6.mono HE4.out.size)); clear b6
      go_wp2_with fail
      refine (rturn_any (turnW (turnW (turnW y))) w6).mono ?_
      rintro e w7 ⟨rfl, b7⟩
      have hx6 := HX5.out.below b7 HX5.out.lt
      have HR6 := Lib.hid (HR5.out.below b7 HR5.out.lt)
      have HE6 := Lib.hid (HE5.out.trans (b7.mono HE5.out.size)); clear b7
      obtain ⟨z, hz⟩ : ∃ z, turnW (turnW (turnW (turnW y))) = z := ⟨_, rfl⟩
      rw [hz]
      have HNZ : Hid (behind s (k + 1) = z) := Lib.hid (by rw [HNY.out, ← hz]; rfl)
      clear hz
      have c0 := hx6.cell 0
      have c1 := hx6.cell 1
      have c2 := hx6.cell 2
      have c3 := hx6.cell 3
      have f := fun i => hx6.frozen i
      have HX6 := Lib.hid hx6; clear hx6
      go_wp2_with fail
      go_roundw
      case rel => exact ⟨k + 1, by have := HM.out; omega, by have := HM.out; congr 1; omega, by rw [HNZ.out]; exact HX6.out.set4 _ _ _ _, (((HR6.out.far (by simp) _).far (by simp) _).far (by simp) _).far (by simp) _, below_set4 HE6.out (by rw [HG.out]; omega) _ _ _ _⟩
      case measure => simp [intOf]; omega
    · have hkk : k = len / 8 + 1 := by omega
      obtain ⟨x, hxx⟩ : ∃ x, behind s k = x := ⟨_, rfl⟩
      rw [hxx] at hx
      have hfw : fourW s = turnsW 8 ⟨x.a, xo x.b (BitVec.ofNat 32 len), x.c, x.d⟩ := by
        unfold fourW
        rw [HSL.out, ← hkk, hxx]
      have hxl : ∀ x : BitVec 32, bits .xor .u32 (x.toNat : Int) (len : Int) = ((xo x (BitVec.ofNat 32 len)).toNat : Int) := fun x => by
        have e : (BitVec.ofNat 32 len).toNat = len := by rw [BitVec.toNat_ofNat]; exact Nat.mod_eq_of_lt (by omega)
        have := xor32 x (BitVec.ofNat 32 len)
        rwa [e] at this
      have HFW := Lib.hid hfw; clear hfw hxx hkk
      have m2 : ¬ (m : Int) ≤ len := by omega
      have c0 := hx.cell 0
      have c1 := hx.cell 1
      have c2 := hx.cell 2
      have c3 := hx.cell 3
      have f := fun i => hx.frozen i
      have HM := Lib.hid hm; clear hm
      have HX := Lib.hid hx; clear hx
      have HR := Lib.hid hr; clear hr
      have HE := Lib.hid hbe; clear hbe
      go_wp2_with fail
      obtain ⟨w3, hw3⟩ : ∃ w3, wr.setCell ⟨g + 1, 1, none⟩ (.int .u32 ((xo x.b (BitVec.ofNat 32 len)).toNat : Int)) = w3 := ⟨_, rfl⟩
      have hr3 : Blk w3 g 121 _ := hw3 ▸ HR.out.far (by simp) _
      have hx3 : Blk w3 (g + 1) 121 (cl ⟨x.a, xo x.b (BitVec.ofNat 32 len), x.c, x.d⟩) := hw3 ▸ HX.out.set_ 1 _
      have he3 : Below w.heap.size w w3 := hw3 ▸ HE.out.setCell (p := ⟨g + 1, 1, none⟩) (by rw [HG.out]; simp) _
      rw [hw3]
      obtain ⟨y, hy⟩ : ∃ y : W4, (⟨x.a, xo x.b (BitVec.ofNat 32 len), x.c, x.d⟩ : W4) = y := ⟨_, rfl⟩
      have HNY : Hid (fourW s = turnsW 8 y) := Lib.hid (by rw [HFW.out, hy])
      rw [hy] at hx3
      clear hw3 c0 c1 c2 c3 f
      refine (rturn_any ⟨x.a, xo x.b (BitVec.ofNat 32 len), x.c, x.d⟩ w3).mono ?_
      rintro e w4 ⟨rfl, b4⟩
      rw [hy]
      clear hy
      have HX4 := Lib.hid (hx3.below b4 hx3.lt)
      have HR4 := Lib.hid (hr3.below b4 hr3.lt)
      have HE4 := Lib.hid (he3.trans (b4.mono he3.size)); clear hx3 hr3 he3 b4
      go_wp2_with fail
      refine (rturn_any (turnW y) w4).mono ?_
      rintro e w5 ⟨rfl, bb⟩
      have HX5 := Lib.hid (HX4.out.below bb HX4.out.lt)
      have HR5 := Lib.hid (HR4.out.below bb HR4.out.lt)
      have HE5 := Lib.hid (HE4.out.trans (bb.mono HE4.out.size)); clear bb
      go_wp2_with fail
      refine (rturn_any (turnW (turnW y)) w5).mono ?_
      rintro e w6 ⟨rfl, bb⟩
      have HX6 := Lib.hid (HX5.out.below bb HX5.out.lt)
      have HR6 := Lib.hid (HR5.out.below bb HR5.out.lt)
      have HE6 := Lib.hid (HE5.out.trans (bb.mono HE5.out.size)); clear bb
      go_wp2_with fail
      refine (rturn_any (turnW (turnW (turnW y))) w6).mono ?_
      rintro e w7 ⟨rfl, bb⟩
      have HX7 := Lib.hid (HX6.out.below bb HX6.out.lt)
      have HR7 := Lib.hid (HR6.out.below bb HR6.out.lt)
      have HE7 := Lib.hid (HE6.out.trans (bb.mono HE6.out.size)); clear bb
      obtain ⟨z, hz⟩ : ∃ z, turnW (turnW (turnW (turnW y))) = z := ⟨_, rfl⟩
      rw [hz]
      have HNZ : Hid (fourW s = turnsW 4 z) := Lib.hid (by rw [HNY.out, ← hz]; rfl)
      clear hz
      have c0 := HX7.out.cell 0
      have c1 := HX7.out.cell 1
      have c2 := HX7.out.cell 2
      have c3 := HX7.out.cell 3
      have f := fun i => HX7.out.frozen i
      go_wp2_with fail
      obtain ⟨w8, hw8⟩ : ∃ w8, ((((w7.setCell ⟨g + 1, 0, none⟩ (.int .u32 (z.a.toNat : Int))).setCell ⟨g + 1, 1, none⟩ (.int .u32 (z.b.toNat : Int))).setCell ⟨g + 1, 2, none⟩ (.int .u32 (z.c.toNat : Int))).setCell ⟨g + 1, 3, none⟩ (.int .u32 (z.d.toNat : Int))) = w8 := ⟨_, rfl⟩
      have hr8 : Blk w8 g 121 _ := hw8 ▸ (((HR7.out.far (by simp) _).far (by simp) _).far (by simp) _).far (by simp) _
      have he8 : Below w.heap.size w w8 := hw8 ▸ below_set4 HE7.out (by rw [HG.out]; omega) _ _ _ _
      rw [hw8]
      clear hw8 c0 c1 c2 c3 f
      have HR8 := Lib.hid hr8; clear hr8
      have HE8 := Lib.hid he8; clear he8
      refine (rturn_any z w8).mono ?_
      rintro e w9 ⟨rfl, bb⟩
      have HR9 := Lib.hid (HR8.out.below bb HR8.out.lt)
      have HE9 := Lib.hid (HE8.out.trans (bb.mono HE8.out.size)); clear bb
      go_wp2_with fail
      refine (rturn_any (turnW z) w9).mono ?_
      rintro e w10 ⟨rfl, bb⟩
      have HR10 := Lib.hid (HR9.out.below bb HR9.out.lt)
      have HE10 := Lib.hid (HE9.out.trans (bb.mono HE9.out.size)); clear bb
      go_wp2_with fail
      refine (rturn_any (turnW (turnW z)) w10).mono ?_
      rintro e w11 ⟨rfl, bb⟩
      have HR11 := Lib.hid (HR10.out.below bb HR10.out.lt)
      have HE11 := Lib.hid (HE10.out.trans (bb.mono HE10.out.size)); clear bb
      go_wp2_with fail
      refine (rturn_any (turnW (turnW (turnW z))) w11).mono ?_
      rintro e w12 ⟨rfl, bb⟩
      have HR12 := Lib.hid (HR11.out.below bb HR11.out.lt)
      have HE12 := Lib.hid (HE11.out.trans (bb.mono HE11.out.size)); clear bb
      obtain ⟨v, hv⟩ : ∃ v, turnW (turnW (turnW (turnW z))) = v := ⟨_, rfl⟩
      rw [hv]
      have HNV : Hid (fourW s = v) := Lib.hid (by rw [HNZ.out, ← hv]; rfl)
      clear hv
      have d0 := HR12.out.cell 0
      have d1 := HR12.out.cell 1
      have d2 := HR12.out.cell 2
      have d3 := HR12.out.cell 3
      have f := fun i => HR12.out.frozen i
      go_wp2_with fail
      have hR := HR12.out.set4 (.int .u32 (v.a.toNat : Int)) (.int .u32 (v.b.toNat : Int)) (.int .u32 (v.c.toNat : Int)) (.int .u32 (v.d.toNat : Int))
      have e0 := hR.cell 0
      have e1 := hR.cell 1
      have e2 := hR.cell 2
      have e3 := hR.cell 3
      have E := below_set4 HE12.out (g := g) (by rw [HG.out]; exact Nat.le_refl _) (.int .u32 (v.a.toNat : Int)) (.int .u32 (v.b.toNat : Int)) (.int .u32 (v.c.toNat : Int)) (.int .u32 (v.d.toNat : Int))
      clear hR
      exact bodyPost_ret (v := ag v) (by simp [results, Tryz.results90, go_sem, e0, e1, e2, e3]) rfl ⟨by rw [HNV.out], E⟩

theorem rsum_any (a : Option Addr) (len cap : Nat) (s : List UInt8) (w : World) (hA : Bsl w w.heap.size a len cap s) (hlen : len ≤ 100000) :
    Calls Tryz.prog 68 #[.slice a len cap] w fun e W' => e = .returned (.int .u32 ((fourW s).a.toNat : Int)) ∧ Below w.heap.size w W' := by
  have hf := rfour_any a len cap s w hA hlen
  have HF := Lib.hid hf; clear hf hA
  obtain ⟨x, hx⟩ : ∃ x, fourW s = x := ⟨_, rfl⟩
  rw [hx] at HF ⊢
  clear hx
  have hi : ∀ W : World, (Instr.index 121 (ag x) (.int .i64 0)).run Tryz.prog W = .ok (.int .u32 (x.a.toNat : Int)) W := fun W => by kernel_rfl
  go_enter Tryz.func68, Tryz.ntmps68
  go_wp2_with fail
  refine HF.out.mono ?_
  rintro e W1 ⟨rfl, b1⟩
  have HB := Lib.hid b1; clear b1
  go_wp2_with fail
  go_ret
  exact ⟨rfl, HB.out⟩
end Go.Proofs.YtjdjbonljohnbaaGreatDoor
/-
  The document's own Put of layer 13: a block is laid, if there is room.
-/
namespace Go.Proofs.YtjdjbonljohnbaaGreatDoor
open Go.RowKit Go.Shelf
set_option maxRecDepth 100000

theorem far5_blk {w : World} {g g' : Nat} {t : TypeId} {cs : Array Value} (h : Blk w g' t cs) (hne : g' ≠ g) (v0 v1 v2 v3 v4 : Value) : Blk (set5 w g v0 v1 v2 v3 v4) g' t cs :=
  ((((h.far (p := ⟨g, 0, none⟩) hne v0).far (p := ⟨g, 1, none⟩) hne v1).far (p := ⟨g, 2, none⟩) hne v2).far (p := ⟨g, 3, none⟩) hne v3).far (p := ⟨g, 4, none⟩) hne v4
/-- What Put answers. -/
def OutPut (L : Nat) (o : Option (StL × Pt)) (w : World) (e : Ending) (w' : World) : Prop :=
  (o = none → e = .returned (.tuple #[.agg #[.slice none 0 0, .slice none 0 0, .slice none 0 0, .int .u32 0, .int .u32 0], .agg #[.int .i64 0, .int .u32 0, .int .u32 0, .int .u32 0, .int .u32 0], .bool false])) ∧ (∀ S' p, o = some (S', p) → ∃ y, e = .returned (.tuple #[stV y S', ptV p, .bool true]) ∧ StP L w' y S') ∧ Below w.heap.size w w'
theorem rsumOf_any (a : Option Addr) (len cap : Nat) (s : List UInt8) (w : World) (hA : Bsl w w.heap.size a len cap s) (hlen : len ≤ 100000) : Calls Tryz.prog 68 #[.slice a len cap] w fun e W' => e = .returned (.int .u32 ((sumOf s : Nat) : Int)) ∧ Below w.heap.size w W' := rsum_any a len cap s w hA hlen
set_option maxHeartbeats 4000000 in
theorem rtPut_full (L : Nat) (x : SAt) (S : StL) (birth iv tag : Nat) (a : Option Addr) (c : Nat) (b : List UInt8) (w : World) (h : StP L w x S) (hb : Bsl w w.heap.size a b.length c b) (hL : L ≤ w.heap.size) (ht : MayT S.2.1) (hf : Fits S.1) (h0' : ∀ i, i < 256 → mkT S.2.1 i ≠ 0) : Calls Tryz.prog 44 #[stV x S, .int .u32 birth, .int .u32 iv, .int .u32 tag, .slice a b.length c] w (OutPut L (putS S birth iv tag b) w) := by
  rw [putS_none h0']
  obtain ⟨w0, hw0, b0, z0, x0, y0, q0⟩ := three_al w (stC x S) stZ ptZ 29 29 32
  obtain ⟨g, hg⟩ : ∃ g, w.heap.size = g := ⟨_, rfl⟩
  obtain ⟨g1, hg1⟩ : ∃ g1, g + 1 = g1 := ⟨_, rfl⟩
  obtain ⟨g2, hg2⟩ : ∃ g2, g1 + 1 = g2 := ⟨_, rfl⟩
  have h0 := h.bel b0
  have hb0 := (bsl_lasts hb (Nat.le_refl _)).bel b0
  rw [hg] at hb0
  rw [hg] at x0 y0 q0 z0 b0
  rw [hg1] at y0
  rw [show g + 2 = g1 + 1 by omega, hg2] at q0
  have HI := Lib.hid (show L ≤ g ∧ g ≤ g1 ∧ g ≤ g2 ∧ g1 ≠ g ∧ g2 ≠ g ∧ g2 ≠ g1 ∧ g1 ≠ g2 by omega)
  have hle : S.2.1.length = 256 := ht.1
  have c2 := stC2 x0
  have hall := rsAll_any x.a x.c w0.heap.size S.2.1 w0 (by have := h0.now.2; rw [hle] at this; exact this) (Nat.le_refl _)
  rw [hle] at c2
  have HA := Lib.hid hall
  have HX := Lib.hid x0
  have HY := Lib.hid y0
  have HQ := Lib.hid q0
  have HB := Lib.hid b0
  have HS := Lib.hid h0
  have HBB := Lib.hid hb0
  have HG := Lib.hid hg
  have HF := Lib.hid hf
  have HLE := Lib.hid hle
  have HT := Lib.hid ht
  have HZ := Lib.hid (show g ≤ w0.heap.size by omega)
  simp only [stC, stZ, ptZ] at hw0
  clear h hb h0 hb0 x0 y0 q0 b0 hall hf z0 ht
  have e00 : freeTo S.2.1 256 = [] := freeTo_same (p := 0) (Nat.zero_le _) fun i _ hi => h0' i hi
  rw [e00] at HA
  clear h0' e00 hle
  go_enter Tryz.func44, Tryz.ntmps44
  go_wp2_with fail
  clear hw0 c2
  refine HA.out.mono ?_
  rintro e w1 ⟨v, rfl, ho, b1⟩
  obtain ⟨al, cl, rfl⟩ := ownN_slice ho
  replace HX := Lib.hid (HX.out.below b1 HX.out.lt)
  replace HY := Lib.hid (HY.out.below b1 HY.out.lt)
  replace HQ := Lib.hid (HQ.out.below b1 HQ.out.lt)
  replace HS := Lib.hid (HS.out.bel b1)
  replace HBB := Lib.hid (HBB.out.bel b1)
  replace HB := Lib.hid (HB.out.trans (b1.mono HZ.out))
  simp only [List.length_nil]
  clear ho b1
  obtain ⟨ya, ka, ba⟩ := box_five (L := g) HY.out (by decide) HI.out.2.1 HB.out HI.out.2.1 (.slice none 0 0) (.slice none 0 0) (.slice none 0 0) (.int .u32 0) (.int .u32 0)
  have qa := far5_blk HQ.out HI.out.2.2.2.2.2.1 (.slice none 0 0) (.slice none 0 0) (.slice none 0 0) (.int .u32 0) (.int .u32 0)
  have m0 := stZ0 HY.out
  have m1 := stZ1 HY.out
  have m2 := stZ2 HY.out
  have m3 := stZ3 HY.out
  have m4 := stZ4 HY.out
  have hfy := fun i => HY.out.frozen i
  obtain ⟨wa, hwa⟩ : ∃ wa, set5 w1 g1 (.slice none 0 0) (.slice none 0 0) (.slice none 0 0) (.int .u32 0) (.int .u32 0) = wa := ⟨_, rfl⟩
  rw [hwa] at ya ka ba qa
  obtain ⟨qb, kb, bb⟩ := box_five (L := g) qa (by decide) HI.out.2.2.1 ba HI.out.2.2.1 (.int .i64 0) (.int .u32 0) (.int .u32 0) (.int .u32 0) (.int .u32 0)
  have yb := far5_blk ya HI.out.2.2.2.2.2.2 (.int .i64 0) (.int .u32 0) (.int .u32 0) (.int .u32 0) (.int .u32 0)
  have n0 := ptZ0 qa
  have n1 := ptZ1 qa
  have n2 := ptZ2 qa
  have n3 := ptZ3 qa
  have n4 := ptZ4 qa
  have hfq := fun i => qa.frozen i
  obtain ⟨wb, hwb⟩ : ∃ wb, set5 wa g2 (.int .i64 0) (.int .u32 0) (.int .u32 0) (.int .u32 0) (.int .u32 0) = wb := ⟨_, rfl⟩
  rw [hwb] at qb kb bb yb
  have HK := Lib.hid (ka.trans kb)
  have HKA := Lib.hid ka
  have HKB := Lib.hid kb
  have HBF := Lib.hid bb
  have HYF := Lib.hid yb
  have HQF := Lib.hid qb
  simp only [set5] at hwa hwb
  clear ya ka ba qa qb kb bb yb
  go_wp2_with fail
  clear m0 m1 m2 m3 m4 n0 n1 n2 n3 n4 hfy hfq hwa hwb
  have e0 := bx0 HYF.out
  have e1 := bx1 HYF.out
  have e2 := bx2 HYF.out
  have e3 := bx3 HYF.out
  have e4 := bx4 HYF.out
  have f0 := bx0 HQF.out
  have f1 := bx1 HQF.out
  have f2 := bx2 HQF.out
  have f3 := bx3 HQF.out
  have f4 := bx4 HQF.out
  refine bodyPost_ret (v := .tuple #[.agg #[(.slice none 0 0), (.slice none 0 0), (.slice none 0 0), (.int .u32 0), (.int .u32 0)], .agg #[(.int .i64 0), (.int .u32 0), (.int .u32 0), (.int .u32 0), (.int .u32 0)], .bool false]) (by simp [results, Tryz.f44, go_sem, e0, e1, e2, e3, e4, f0, f1, f2, f3, f4]) rfl ?_
  exact ⟨fun _ => rfl, fun S' p hh => (by cases hh), by rw [HG.out]; exact HBF.out⟩
set_option maxHeartbeats 4000000 in
theorem rtPut_great (L : Nat) (x : SAt) (S : StL) (birth iv tag : Nat) (a : Option Addr) (c : Nat) (b : List UInt8) (w : World) (h : StP L w x S) (hb : Bsl w w.heap.size a b.length c b) (hL : L ≤ w.heap.size) (ht : MayT S.2.1) (hf : Fits S.1) (k : Nat) (hk : k < 256) (hz : mkT S.2.1 k = 0) (h0' : ∀ i, i < k → mkT S.2.1 i ≠ 0) (hgr : 4096 ≤ S.1.2.length) : Calls Tryz.prog 44 #[stV x S, .int .u32 birth, .int .u32 iv, .int .u32 tag, .slice a b.length c] w (OutPut L (putS S birth iv tag b) w) := by
  rw [putS_great hgr]
  obtain ⟨w0, hw0, b0, z0, x0, y0, q0⟩ := three_al w (stC x S) stZ ptZ 29 29 32
  obtain ⟨g, hg⟩ : ∃ g, w.heap.size = g := ⟨_, rfl⟩
  obtain ⟨g1, hg1⟩ : ∃ g1, g + 1 = g1 := ⟨_, rfl⟩
  obtain ⟨g2, hg2⟩ : ∃ g2, g1 + 1 = g2 := ⟨_, rfl⟩
  have h0 := h.bel b0
  have hb0 := (bsl_lasts hb (Nat.le_refl _)).bel b0
  rw [hg] at hb0
  rw [hg] at x0 y0 q0 z0 b0
  rw [hg1] at y0
  rw [show g + 2 = g1 + 1 by omega, hg2] at q0
  have HI := Lib.hid (show L ≤ g ∧ g ≤ g1 ∧ g ≤ g2 ∧ g1 ≠ g ∧ g2 ≠ g ∧ g2 ≠ g1 ∧ g1 ≠ g2 by omega)
  have hle : S.2.1.length = 256 := ht.1
  have c2 := stC2 x0
  have hall := rsAll_any x.a x.c w0.heap.size S.2.1 w0 (by have := h0.now.2; rw [hle] at this; exact this) (Nat.le_refl _)
  rw [hle] at c2
  have HA := Lib.hid hall
  have HX := Lib.hid x0
  have HY := Lib.hid y0
  have HQ := Lib.hid q0
  have HB := Lib.hid b0
  have HS := Lib.hid h0
  have HBB := Lib.hid hb0
  have HG := Lib.hid hg
  have HF := Lib.hid hf
  have HLE := Lib.hid hle
  have HT := Lib.hid ht
  have HZ := Lib.hid (show g ≤ w0.heap.size by omega)
  simp only [stC, stZ, ptZ] at hw0
  clear h hb h0 hb0 x0 y0 q0 b0 hall hf z0 ht
  obtain ⟨r, hr⟩ := freeTo_head hk hz h0'
  have hlen := freeTo_le S.2.1 256
  rw [hr] at HA hlen
  have l0 : (((k :: r).length : Nat) : Int) ≠ 0 := by simp; omega
  obtain ⟨m, hm⟩ : ∃ m, (k :: r).length = m := ⟨_, rfl⟩
  rw [hm] at HA l0 hlen
  have l1 : ((m : Int) == 0) = false := by simpa using l0
  have l2 : (4096 : Int) ≤ S.1.2.length := by omega
  clear h0' hr hle hz hk hgr hm l0
  go_enter Tryz.func44, Tryz.ntmps44
  go_wp2_with fail
  clear hw0 c2
  refine HA.out.mono ?_
  rintro e w1 ⟨v, rfl, ho, b1⟩
  obtain ⟨al, cl, rfl⟩ := ownN_slice ho
  replace HX := Lib.hid (HX.out.below b1 HX.out.lt)
  replace HY := Lib.hid (HY.out.below b1 HY.out.lt)
  replace HQ := Lib.hid (HQ.out.below b1 HQ.out.lt)
  replace HS := Lib.hid (HS.out.bel b1)
  replace HBB := Lib.hid (HBB.out.bel b1)
  replace HB := Lib.hid (HB.out.trans (b1.mono HZ.out))
  have c1 := stC1 HX.out
  clear ho b1
  obtain ⟨ya, ka, ba⟩ := box_five (L := g) HY.out (by decide) HI.out.2.1 HB.out HI.out.2.1 (.slice none 0 0) (.slice none 0 0) (.slice none 0 0) (.int .u32 0) (.int .u32 0)
  have qa := far5_blk HQ.out HI.out.2.2.2.2.2.1 (.slice none 0 0) (.slice none 0 0) (.slice none 0 0) (.int .u32 0) (.int .u32 0)
  have m0 := stZ0 HY.out
  have m1 := stZ1 HY.out
  have m2 := stZ2 HY.out
  have m3 := stZ3 HY.out
  have m4 := stZ4 HY.out
  have hfy := fun i => HY.out.frozen i
  obtain ⟨wa, hwa⟩ : ∃ wa, set5 w1 g1 (.slice none 0 0) (.slice none 0 0) (.slice none 0 0) (.int .u32 0) (.int .u32 0) = wa := ⟨_, rfl⟩
  rw [hwa] at ya ka ba qa
  obtain ⟨qb, kb, bb⟩ := box_five (L := g) qa (by decide) HI.out.2.2.1 ba HI.out.2.2.1 (.int .i64 0) (.int .u32 0) (.int .u32 0) (.int .u32 0) (.int .u32 0)
  have yb := far5_blk ya HI.out.2.2.2.2.2.2 (.int .i64 0) (.int .u32 0) (.int .u32 0) (.int .u32 0) (.int .u32 0)
  have n0 := ptZ0 qa
  have n1 := ptZ1 qa
  have n2 := ptZ2 qa
  have n3 := ptZ3 qa
  have n4 := ptZ4 qa
  have hfq := fun i => qa.frozen i
  obtain ⟨wb, hwb⟩ : ∃ wb, set5 wa g2 (.int .i64 0) (.int .u32 0) (.int .u32 0) (.int .u32 0) (.int .u32 0) = wb := ⟨_, rfl⟩
  rw [hwb] at qb kb bb yb
  have HK := Lib.hid (ka.trans kb)
  have HKA := Lib.hid ka
  have HKB := Lib.hid kb
  have HBF := Lib.hid bb
  have HYF := Lib.hid yb
  have HQF := Lib.hid qb
  simp only [set5] at hwa hwb
  clear ya ka ba qa qb kb bb yb
  go_wp2_with fail
  clear m0 m1 m2 m3 m4 n0 n1 n2 n3 n4 hfy hfq hwa hwb
  have e0 := bx0 HYF.out
  have e1 := bx1 HYF.out
  have e2 := bx2 HYF.out
  have e3 := bx3 HYF.out
  have e4 := bx4 HYF.out
  have f0 := bx0 HQF.out
  have f1 := bx1 HQF.out
  have f2 := bx2 HQF.out
  have f3 := bx3 HQF.out
  have f4 := bx4 HQF.out
  refine bodyPost_ret (v := .tuple #[.agg #[(.slice none 0 0), (.slice none 0 0), (.slice none 0 0), (.int .u32 0), (.int .u32 0)], .agg #[(.int .i64 0), (.int .u32 0), (.int .u32 0), (.int .u32 0), (.int .u32 0)], .bool false]) (by simp [results, Tryz.f44, go_sem, e0, e1, e2, e3, e4, f0, f1, f2, f3, f4]) rfl ?_
  exact ⟨fun _ => rfl, fun S' p hh => (by cases hh), by rw [HG.out]; exact HBF.out⟩
set_option maxHeartbeats 8000000 in
theorem rtPut_ok (L : Nat) (x : SAt) (S : StL) (birth iv tag : Nat) (a : Option Addr) (c : Nat) (b : List UInt8) (w : World) (h : StP L w x S) (hb : Bsl w w.heap.size a b.length c b) (hL : L ≤ w.heap.size) (ht : MayT S.2.1) (hf : Fits S.1) (hbl : b.length ≤ 100000) (k : Nat) (hk : k < 256) (hz : mkT S.2.1 k = 0) (h0' : ∀ i, i < k → mkT S.2.1 i ≠ 0) (hgr : S.1.2.length < 4096) : Calls Tryz.prog 44 #[stV x S, .int .u32 birth, .int .u32 iv, .int .u32 tag, .slice a b.length c] w (OutPut L (putS S birth iv tag b) w) := by
  rw [putS_some hk hz h0' hgr]
  have hmx : Tryz.prog.follows Departure.mixedOrders = true := by kernel_rfl
  obtain ⟨w0, hw0, b0, z0, x0, y0, q0⟩ := three_al w (stC x S) stZ ptZ 29 29 32
  obtain ⟨g, hg⟩ : ∃ g, w.heap.size = g := ⟨_, rfl⟩
  obtain ⟨g1, hg1⟩ : ∃ g1, g + 1 = g1 := ⟨_, rfl⟩
  obtain ⟨g2, hg2⟩ : ∃ g2, g1 + 1 = g2 := ⟨_, rfl⟩
  have h0 := h.bel b0
  have hb0 := (bsl_lasts hb (Nat.le_refl _)).bel b0
  rw [hg] at hb0
  rw [hg] at x0 y0 q0 z0 b0
  rw [hg1] at y0
  rw [show g + 2 = g1 + 1 by omega, hg2] at q0
  have HI := Lib.hid (show L ≤ g ∧ g ≤ g1 ∧ g ≤ g2 ∧ g1 ≠ g ∧ g2 ≠ g ∧ g2 ≠ g1 ∧ g1 ≠ g2 by omega)
  have hle : S.2.1.length = 256 := ht.1
  have c2 := stC2 x0
  have hall := rsAll_any x.a x.c w0.heap.size S.2.1 w0 (by have := h0.now.2; rw [hle] at this; exact this) (Nat.le_refl _)
  rw [hle] at c2
  have HA := Lib.hid hall
  have HX := Lib.hid x0
  have HY := Lib.hid y0
  have HQ := Lib.hid q0
  have HB := Lib.hid b0
  have HS := Lib.hid h0
  have HBB := Lib.hid hb0
  have HG := Lib.hid hg
  have HF := Lib.hid hf
  have HLE := Lib.hid hle
  have HT := Lib.hid ht
  have HZ := Lib.hid (show g ≤ w0.heap.size by omega)
  simp only [stC, stZ, ptZ] at hw0
  clear h hb h0 hb0 x0 y0 q0 b0 hall hf z0 ht
  obtain ⟨r, hr⟩ := freeTo_head hk hz h0'
  have hlen := freeTo_le S.2.1 256
  rw [hr] at HA hlen
  have hlp : 0 < (k :: r).length := by simp
  have l0 : (((k :: r).length : Nat) : Int) ≠ 0 := by simp; omega
  obtain ⟨m, hm⟩ : ∃ m, (k :: r).length = m := ⟨_, rfl⟩
  rw [hm] at l0 hlen hlp
  have hmv : (valsN (k :: r)).getD 0 undef = .int .i64 (k : Int) := rfl
  have l1 : ((m : Int) == 0) = false := by simpa using l0
  have l2 : ¬ (4096 : Int) ≤ S.1.2.length := by omega
  have l3 : (0 : Int) < m := by omega
  have l4 : (S.1.2.length : Int) < 4096 := by omega
  have HKK := Lib.hid hk
  have HGR := Lib.hid hgr
  have HBL := Lib.hid hbl
  have HMV := Lib.hid hmv
  have HM := Lib.hid hm
  clear h0' hr hle hz hk hgr l0 hbl hmv hm
  go_enter Tryz.func44, Tryz.ntmps44
  go_wp2_with fail
  clear hw0 c2
  refine HA.out.mono ?_
  rintro e w1 ⟨v, rfl, ho, b1⟩
  rw [HM.out] at ho
  obtain ⟨gl, cl, rfl, _, _, _⟩ := nsl_of_own (by rw [← HM.out] at ho; rw [← HM.out]; exact ho) hlp
  have hcl := cell_lasts (L := 0) ho (by decide) 0 hlp
  rw [HMV.out] at hcl
  have HN := Lib.hid hcl
  replace HB := Lib.hid (HB.out.trans (b1.mono HZ.out))
  have HW := Lib.hid (show g ≤ w1.heap.size from Nat.le_trans HZ.out b1.size)
  replace HX := Lib.hid (HX.out.below b1 HX.out.lt)
  replace HY := Lib.hid (HY.out.below b1 HY.out.lt)
  replace HQ := Lib.hid (HQ.out.below b1 HQ.out.lt)
  replace HS := Lib.hid (HS.out.bel b1)
  replace HBB := Lib.hid (HBB.out.bel b1)
  have c1 := stC1 HX.out
  clear ho b1 hcl
  go_wp2_with fail
  clear c1
  obtain ⟨wd, hwd⟩ : ∃ wd, w1.drew = wd := ⟨_, rfl⟩
  have bb : Below w1.heap.size w1 wd := by rw [← hwd]; exact (Below.refl _ w1).drew
  replace HX := Lib.hid (HX.out.below bb HX.out.lt)
  replace HY := Lib.hid (HY.out.below bb HY.out.lt)
  replace HQ := Lib.hid (HQ.out.below bb HQ.out.lt)
  replace HS := Lib.hid (HS.out.bel bb)
  replace HBB := Lib.hid (HBB.out.bel bb)
  replace HN := Lib.hid (HN.out.bel bb)
  replace HB := Lib.hid (HB.out.trans (bb.mono HW.out))
  replace HW := Lib.hid (Nat.le_trans HW.out bb.size)
  clear bb
  have HSP := Lib.hid (rsWith_any x.a 256 x.c S.2.1 k 1 wd (by have := HS.out.now.2; rw [HLE.out] at this; exact this) HKK.out (by omega))
  have c2 := stC2 HX.out
  rw [HLE.out] at c2
  have hfx := fun i => HX.out.frozen i
  have hc0 := HN.out.now
  refine wpI_start (fun X => X.cell? ⟨gl, 0, none⟩ = some (.int .i64 (k : Int))) [0, 2, 3, 4, 1, 5, 6, 7] hmx rfl hwd ?_
  iterate 4 (
    refine wpI_read (v := ?_) hc0 rfl (by kernel_rfl) (by kernel_rfl) (by kernel_rfl) (fun _ _ _ h => h) (.inl ⟨by rfl, ?_⟩) ?_
    rotate_left
    · intro X hX
      go_simp
      with_reducible rfl
    try simp only [Act.put, List.setIfInBounds_toArray, List.set_cons_zero, List.set_cons_succ])
  refine wpI_lone rfl (by kernel_rfl) (fun K hK => ?_)
  go_simp
  refine hK _ _ hc0 ?_
  clear hK K
  try simp only [Act.put, List.setIfInBounds_toArray, List.set_cons_zero, List.set_cons_succ]
  refine wpI_lone rfl (by kernel_rfl) (fun K hK => ?_)
  go_simp
  refine HSP.out.mono ?_
  rintro ev w2 ⟨v, rfl, ho, bb⟩
  obtain ⟨sa, sc, rfl⟩ := own_slice ho
  have HO := Lib.hid (own_lasts (L := 0) ho)
  clear ho c2 hfx hwd
  replace HX := Lib.hid (HX.out.below bb HX.out.lt)
  replace HY := Lib.hid (HY.out.below bb HY.out.lt)
  replace HQ := Lib.hid (HQ.out.below bb HQ.out.lt)
  replace HS := Lib.hid (HS.out.bel bb)
  replace HBB := Lib.hid (HBB.out.bel bb)
  replace HN := Lib.hid (HN.out.bel bb)
  replace HB := Lib.hid (HB.out.trans (bb.mono HW.out))
  replace HW := Lib.hid (Nat.le_trans HW.out bb.size)
  clear bb HSP
  refine hK _ _ HN.out.now ?_
  clear hK K hc0
  try simp only [Act.put, List.setIfInBounds_toArray, List.set_cons_zero, List.set_cons_succ]
  have hc0 := HN.out.now
  iterate 1 (
    refine wpI_read (v := ?_) hc0 rfl (by kernel_rfl) (by kernel_rfl) (by kernel_rfl) (fun _ _ _ h => h) (.inl ⟨by rfl, ?_⟩) ?_
    rotate_left
    · intro X hX
      go_simp
      with_reducible rfl
    try simp only [Act.put, List.setIfInBounds_toArray, List.set_cons_zero, List.set_cons_succ])
  clear hc0
  refine wpI_lone rfl (by kernel_rfl) (fun K hK => ?_)
  go_simp
  have c2 := stC2 HX.out
  have hfx := HX.out.frozen 2
  obtain ⟨x3, k3, b3⟩ := box_at (L := g) HX.out (by decide) (Nat.le_refl _) HB.out (Nat.le_refl _) 2 (.slice sa 256 sc)
  replace HY := Lib.hid (HY.out.far (p := ⟨g, 2, none⟩) HI.out.2.2.2.1 (.slice sa 256 sc))
  replace HQ := Lib.hid (HQ.out.far (p := ⟨g, 2, none⟩) HI.out.2.2.2.2.1 (.slice sa 256 sc))
  go_simp
  obtain ⟨w3, hw3⟩ : ∃ w3, w2.setCell ⟨g, 2, none⟩ (.slice sa 256 sc) = w3 := ⟨_, rfl⟩
  rw [hw3] at x3 k3 b3 HY HQ ⊢
  replace HX := Lib.hid (show Blk w3 g 29 #[.slice x.d.ba S.1.1.length x.d.bc, .slice x.d.wa S.1.2.length x.d.wc, .slice sa 256 sc, .int .u32 (S.2.2.1 : Int), .int .u32 (S.2.2.2 : Int)] from x3)
  replace HS := Lib.hid (HS.out.step (k3.more HI.out.1))
  replace HBB := Lib.hid (HBB.out.step k3)
  replace HN := Lib.hid (HN.out.step (k3.more (Nat.zero_le _)))
  replace HO := Lib.hid (HO.out.step (k3.more (Nat.zero_le _)))
  replace HB := Lib.hid b3
  replace HW := Lib.hid (show g ≤ w3.heap.size from Nat.le_trans HW.out k3.size)
  refine hK _ _ HN.out.now ?_
  clear hK K x3 k3 b3 hw3 c2 hfx
  try simp only [Act.put, List.setIfInBounds_toArray, List.set_cons_zero, List.set_cons_succ]
  refine wpI_done (by kernel_rfl) ?_
  go_wp2_with fail
  obtain ⟨we, hwe⟩ : ∃ we, w3.drew = we := ⟨_, rfl⟩
  have bb : Below w3.heap.size w3 we := by rw [← hwe]; exact (Below.refl _ w3).drew
  replace HX := Lib.hid (HX.out.below bb HX.out.lt)
  replace HY := Lib.hid (HY.out.below bb HY.out.lt)
  replace HQ := Lib.hid (HQ.out.below bb HQ.out.lt)
  replace HS := Lib.hid (HS.out.bel bb)
  replace HBB := Lib.hid (HBB.out.bel bb)
  replace HN := Lib.hid (HN.out.bel bb)
  replace HO := Lib.hid (HO.out.bel bb)
  replace HB := Lib.hid (HB.out.trans (bb.mono HW.out))
  replace HW := Lib.hid (Nat.le_trans HW.out bb.size)
  clear bb
  have hwi := rdWithR_any x.d S.1 (k : Int) a b.length c b we HS.out.now.1 HF.out (by have := HKK.out; simp [Lit.wf, IntKind.min, IntKind.max, IntKind.signed, IntKind.bits]; omega) HBB.out.now (by have := HBL.out; omega) (by have := HGR.out; omega)
  simp only [dval] at hwi
  have HWI := Lib.hid hwi
  have c0 := bx0 HX.out
  have c1 := bx1 HX.out
  have hc0 := HN.out.now
  clear hwi
  refine wpI_start (fun X => X.cell? ⟨gl, 0, none⟩ = some (.int .i64 (k : Int))) [0, 2, 3, 4, 5, 1, 6, 7, 8] hmx rfl hwe ?_
  iterate 5 (
    refine wpI_read (v := ?_) hc0 rfl (by kernel_rfl) (by kernel_rfl) (by kernel_rfl) (fun _ _ _ h => h) (.inl ⟨by rfl, ?_⟩) ?_
    rotate_left
    · intro X hX
      go_simp
      with_reducible rfl
    try simp only [Act.put, List.setIfInBounds_toArray, List.set_cons_zero, List.set_cons_succ])
  refine wpI_lone rfl (by kernel_rfl) (fun K hK => ?_)
  go_simp
  refine hK _ _ hc0 ?_
  clear hK K
  try simp only [Act.put, List.setIfInBounds_toArray, List.set_cons_zero, List.set_cons_succ]
  refine wpI_lone rfl (by kernel_rfl) (fun K hK => ?_)
  go_simp
  refine HWI.out.mono ?_
  rintro ev w4 ⟨xd, rfl, hr, bb⟩
  have HD := Lib.hid (dskR_lasts hr L)
  clear hr c0 c1 hwe
  replace HX := Lib.hid (HX.out.below bb HX.out.lt)
  replace HY := Lib.hid (HY.out.below bb HY.out.lt)
  replace HQ := Lib.hid (HQ.out.below bb HQ.out.lt)
  replace HS := Lib.hid (HS.out.bel bb)
  replace HBB := Lib.hid (HBB.out.bel bb)
  replace HN := Lib.hid (HN.out.bel bb)
  replace HO := Lib.hid (HO.out.bel bb)
  replace HB := Lib.hid (HB.out.trans (bb.mono HW.out))
  replace HW := Lib.hid (Nat.le_trans HW.out bb.size)
  clear bb HWI
  refine hK _ _ HN.out.now ?_
  clear hK K hc0
  simp only [dval]
  try simp only [Act.put, List.setIfInBounds_toArray, List.set_cons_zero, List.set_cons_succ]
  have hc0 := HN.out.now
  iterate 1 (
    refine wpI_read (v := ?_) hc0 rfl (by kernel_rfl) (by kernel_rfl) (by kernel_rfl) (fun _ _ _ h => h) (.inl ⟨by rfl, ?_⟩) ?_
    rotate_left
    · intro X hX
      go_simp
      with_reducible rfl
    try simp only [Act.put, List.setIfInBounds_toArray, List.set_cons_zero, List.set_cons_succ])
  clear hc0
  refine wpI_lone rfl (by kernel_rfl) (fun K hK => ?_)
  go_simp
  have c0 := bx0 HX.out
  have c1 := bx1 HX.out
  have hfx := fun i => HX.out.frozen i
  obtain ⟨x5, k5, b5⟩ := box_two (L := g) HX.out (by decide) (Nat.le_refl _) HB.out (Nat.le_refl _) (.slice xd.ba (withD S.1 (k : Int) b).1.length xd.bc) (.slice xd.wa (withD S.1 (k : Int) b).2.length xd.wc)
  replace HY := Lib.hid ((HY.out.far (p := ⟨g, 0, none⟩) HI.out.2.2.2.1 (.slice xd.ba (withD S.1 (k : Int) b).1.length xd.bc)).far (p := ⟨g, 1, none⟩) HI.out.2.2.2.1 (.slice xd.wa (withD S.1 (k : Int) b).2.length xd.wc))
  replace HQ := Lib.hid ((HQ.out.far (p := ⟨g, 0, none⟩) HI.out.2.2.2.2.1 (.slice xd.ba (withD S.1 (k : Int) b).1.length xd.bc)).far (p := ⟨g, 1, none⟩) HI.out.2.2.2.2.1 (.slice xd.wa (withD S.1 (k : Int) b).2.length xd.wc))
  go_simp
  obtain ⟨w5, hw5⟩ : ∃ w5, (w4.setCell ⟨g, 0, none⟩ (.slice xd.ba (withD S.1 (k : Int) b).1.length xd.bc)).setCell ⟨g, 1, none⟩ (.slice xd.wa (withD S.1 (k : Int) b).2.length xd.wc) = w5 := ⟨_, rfl⟩
  rw [hw5] at x5 k5 b5 HY HQ ⊢
  replace HX := Lib.hid x5
  replace HBB := Lib.hid (HBB.out.step k5)
  replace HD := Lib.hid (HD.out.step (k5.more HI.out.1))
  replace HN := Lib.hid (HN.out.step (k5.more (Nat.zero_le _)))
  replace HO := Lib.hid (HO.out.step (k5.more (Nat.zero_le _)))
  replace HB := Lib.hid b5
  replace HW := Lib.hid (show g ≤ w5.heap.size from Nat.le_trans HW.out k5.size)
  refine hK _ _ HN.out.now ?_
  clear hK K x5 k5 b5 hw5 c0 c1 hfx HS
  try simp only [Act.put, List.setIfInBounds_toArray, List.set_cons_zero, List.set_cons_succ]
  refine wpI_done (by kernel_rfl) ?_
  go_wp2_with fail
  obtain ⟨wh, hwh⟩ : ∃ wh, w5.drew = wh := ⟨_, rfl⟩
  have bb : Below w5.heap.size w5 wh := by rw [← hwh]; exact (Below.refl _ w5).drew
  replace HX := Lib.hid (HX.out.below bb HX.out.lt)
  replace HY := Lib.hid (HY.out.below bb HY.out.lt)
  replace HQ := Lib.hid (HQ.out.below bb HQ.out.lt)
  replace HBB := Lib.hid (HBB.out.bel bb)
  replace HN := Lib.hid (HN.out.bel bb)
  replace HO := Lib.hid (HO.out.bel bb)
  replace HD := Lib.hid (HD.out.bel bb)
  replace HB := Lib.hid (HB.out.trans (bb.mono HW.out))
  replace HW := Lib.hid (Nat.le_trans HW.out bb.size)
  clear bb
  have HSU := Lib.hid (rsumOf_any a b.length c b wh HBB.out.now HBL.out)
  have C0 := fun X (hX : Below wh.heap.size wh X) => bx0 (HX.out.below hX HX.out.lt)
  have C1 := fun X (hX : Below wh.heap.size wh X) => bx1 (HX.out.below hX HX.out.lt)
  have C2 := fun X (hX : Below wh.heap.size wh X) => bx2 (HX.out.below hX HX.out.lt)
  have C3 := fun X (hX : Below wh.heap.size wh X) => bx3 (HX.out.below hX HX.out.lt)
  have C4 := fun X (hX : Below wh.heap.size wh X) => bx4 (HX.out.below hX HX.out.lt)
  have CN := fun X (hX : Below wh.heap.size wh X) => (HN.out.bel hX).now
  have hbd := Below.refl wh.heap.size wh
  refine wpI_start (fun X => X.cell? ⟨gl, 0, none⟩ = some (.int .i64 (k : Int)) ∧ X.cell? ⟨g, 0, none⟩ = some (.slice xd.ba (withD S.1 (k : Int) b).1.length xd.bc) ∧ X.cell? ⟨g, 1, none⟩ = some (.slice xd.wa (withD S.1 (k : Int) b).2.length xd.wc) ∧ X.cell? ⟨g, 2, none⟩ = some (.slice sa 256 sc) ∧ X.cell? ⟨g, 3, none⟩ = some (.int .u32 (S.2.2.1 : Int)) ∧ X.cell? ⟨g, 4, none⟩ = some (.int .u32 (S.2.2.2 : Int))) [0, 1, 2, 3, 4, 5, 6, 7, 8, 9, 10, 11, 12] hmx rfl hwh ?_
  have hcs := And.intro (CN wh hbd) (And.intro (C0 wh hbd) (And.intro (C1 wh hbd) (And.intro (C2 wh hbd) (And.intro (C3 wh hbd) (C4 wh hbd)))))
  iterate 8 (
    refine wpI_read (v := ?_) hcs rfl (by kernel_rfl) (by kernel_rfl) (by kernel_rfl) (fun _ _ _ h => h) (.inl ⟨by rfl, ?_⟩) ?_
    rotate_left
    · intro X hX
      obtain ⟨j0, j1, j2, j3, j4, j5⟩ := hX
      go_simp
      with_reducible rfl
    try simp only [Act.put, List.setIfInBounds_toArray, List.set_cons_zero, List.set_cons_succ])
  refine wpI_lone rfl (by kernel_rfl) (fun K hK => ?_)
  go_simp
  refine HSU.out.mono ?_
  rintro ev w6 ⟨rfl, bb⟩
  have hcs' := And.intro (CN w6 bb) (And.intro (C0 w6 bb) (And.intro (C1 w6 bb) (And.intro (C2 w6 bb) (And.intro (C3 w6 bb) (C4 w6 bb)))))
  refine hK _ _ hcs' ?_
  clear hK K
  replace HX := Lib.hid (HX.out.below bb HX.out.lt)
  replace HY := Lib.hid (HY.out.below bb HY.out.lt)
  replace HQ := Lib.hid (HQ.out.below bb HQ.out.lt)
  replace HD := Lib.hid (HD.out.bel bb)
  replace HO := Lib.hid (HO.out.bel bb)
  replace HN := Lib.hid (HN.out.bel bb)
  replace HB := Lib.hid (HB.out.trans (bb.mono HW.out))
  replace HW := Lib.hid (Nat.le_trans HW.out bb.size)
  clear bb HSU hcs C0 C1 C2 C3 C4 CN hbd hwh HBB
  try simp only [Act.put, List.setIfInBounds_toArray, List.set_cons_zero, List.set_cons_succ]
  iterate 1 (
    refine wpI_read (v := ?_) hcs' rfl (by kernel_rfl) (by kernel_rfl) (by kernel_rfl) (fun _ _ _ h => h) (.inl ⟨by rfl, ?_⟩) ?_
    rotate_left
    · intro X hX
      obtain ⟨j0, j1, j2, j3, j4, j5⟩ := hX
      go_simp
      with_reducible rfl
    try simp only [Act.put, List.setIfInBounds_toArray, List.set_cons_zero, List.set_cons_succ])
  obtain ⟨ya, ka, ba⟩ := box_five (L := g) HY.out (by decide) HI.out.2.1 HB.out HI.out.2.1 (.slice xd.ba (withD S.1 (k : Int) b).1.length xd.bc) (.slice xd.wa (withD S.1 (k : Int) b).2.length xd.wc) (.slice sa 256 sc) (.int .u32 (S.2.2.1 : Int)) (.int .u32 (S.2.2.2 : Int))
  have qa := far5_blk HQ.out HI.out.2.2.2.2.2.1 (.slice xd.ba (withD S.1 (k : Int) b).1.length xd.bc) (.slice xd.wa (withD S.1 (k : Int) b).2.length xd.wc) (.slice sa 256 sc) (.int .u32 (S.2.2.1 : Int)) (.int .u32 (S.2.2.2 : Int))
  have m0 := stZ0 HY.out
  have m1 := stZ1 HY.out
  have m2 := stZ2 HY.out
  have m3 := stZ3 HY.out
  have m4 := stZ4 HY.out
  have hfy := fun i => HY.out.frozen i
  obtain ⟨wa, hwa⟩ : ∃ wa, set5 w6 g1 (.slice xd.ba (withD S.1 (k : Int) b).1.length xd.bc) (.slice xd.wa (withD S.1 (k : Int) b).2.length xd.wc) (.slice sa 256 sc) (.int .u32 (S.2.2.1 : Int)) (.int .u32 (S.2.2.2 : Int)) = wa := ⟨_, rfl⟩
  rw [hwa] at ya ka ba qa
  obtain ⟨qb, kb, bb⟩ := box_five (L := g) qa (by decide) HI.out.2.2.1 ba HI.out.2.2.1 (.int .i64 (k : Int)) (.int .u32 (birth : Int)) (.int .u32 (iv : Int)) (.int .u32 (tag : Int)) (.int .u32 (sumOf b : Int))
  have yb := far5_blk ya HI.out.2.2.2.2.2.2 (.int .i64 (k : Int)) (.int .u32 (birth : Int)) (.int .u32 (iv : Int)) (.int .u32 (tag : Int)) (.int .u32 (sumOf b : Int))
  have n0 := ptZ0 qa
  have n1 := ptZ1 qa
  have n2 := ptZ2 qa
  have n3 := ptZ3 qa
  have n4 := ptZ4 qa
  have hfq := fun i => qa.frozen i
  obtain ⟨wb, hwb⟩ : ∃ wb, set5 wa g2 (.int .i64 (k : Int)) (.int .u32 (birth : Int)) (.int .u32 (iv : Int)) (.int .u32 (tag : Int)) (.int .u32 (sumOf b : Int)) = wb := ⟨_, rfl⟩
  rw [hwb] at qb kb bb yb
  have HK := Lib.hid (ka.trans kb)
  have HKA := Lib.hid ka
  have HKB := Lib.hid kb
  have HBF := Lib.hid bb
  have HYF := Lib.hid yb
  have HQF := Lib.hid qb
  simp only [set5] at hwa hwb
  clear ya ka ba qa qb kb bb yb
  have hxa := far5_blk HX.out HI.out.2.2.2.1.symm (.slice xd.ba (withD S.1 (k : Int) b).1.length xd.bc) (.slice xd.wa (withD S.1 (k : Int) b).2.length xd.wc) (.slice sa 256 sc) (.int .u32 (S.2.2.1 : Int)) (.int .u32 (S.2.2.2 : Int))
  rw [show set5 w6 g1 (.slice xd.ba (withD S.1 (k : Int) b).1.length xd.bc) (.slice xd.wa (withD S.1 (k : Int) b).2.length xd.wc) (.slice sa 256 sc) (.int .u32 (S.2.2.1 : Int)) (.int .u32 (S.2.2.2 : Int)) = wa from hwa] at hxa
  have hna := HN.out.step (HKA.out.more (Nat.zero_le _))
  have hsa := And.intro hna.now (And.intro (bx0 hxa) (And.intro (bx1 hxa) (And.intro (bx2 hxa) (And.intro (bx3 hxa) (bx4 hxa)))))
  have hxb := far5_blk hxa HI.out.2.2.2.2.1.symm (.int .i64 (k : Int)) (.int .u32 (birth : Int)) (.int .u32 (iv : Int)) (.int .u32 (tag : Int)) (.int .u32 (sumOf b : Int))
  rw [show set5 wa g2 (.int .i64 (k : Int)) (.int .u32 (birth : Int)) (.int .u32 (iv : Int)) (.int .u32 (tag : Int)) (.int .u32 (sumOf b : Int)) = wb from hwb] at hxb
  have hnb := hna.step (HKB.out.more (Nat.zero_le _))
  have hsb := And.intro hnb.now (And.intro (bx0 hxb) (And.intro (bx1 hxb) (And.intro (bx2 hxb) (And.intro (bx3 hxb) (bx4 hxb)))))
  clear hxa hna hxb hnb
  refine wpI_lone rfl (by kernel_rfl) (fun K hK => ?_)
  go_simp

  refine hK _ _ hsa ?_
  clear hK K
  try simp only [Act.put, List.setIfInBounds_toArray, List.set_cons_zero, List.set_cons_succ]
  refine wpI_lone rfl (by kernel_rfl) (fun K hK => ?_)
  go_simp

  refine hK _ _ hsb ?_
  clear hK K
  try simp only [Act.put, List.setIfInBounds_toArray, List.set_cons_zero, List.set_cons_succ]
  iterate 1 (
    refine wpI_read (v := ?_) hsb rfl (by kernel_rfl) (by kernel_rfl) (by kernel_rfl) (fun _ _ _ h => h) (.inl ⟨by rfl, ?_⟩) ?_
    rotate_left
    · intro X hX
      go_simp
      with_reducible rfl
    try simp only [Act.put, List.setIfInBounds_toArray, List.set_cons_zero, List.set_cons_succ])
  refine wpI_done (by kernel_rfl) ?_
  go_wp2_with fail
  clear m0 m1 m2 m3 m4 n0 n1 n2 n3 n4 hfy hfq hwa hwb
  have e0 := bx0 HYF.out
  have e1 := bx1 HYF.out
  have e2 := bx2 HYF.out
  have e3 := bx3 HYF.out
  have e4 := bx4 HYF.out
  have f0 := bx0 HQF.out
  have f1 := bx1 HQF.out
  have f2 := bx2 HQF.out
  have f3 := bx3 HQF.out
  have f4 := bx4 HQF.out
  refine bodyPost_ret (v := .tuple #[.agg #[(.slice xd.ba (withD S.1 (k : Int) b).1.length xd.bc), (.slice xd.wa (withD S.1 (k : Int) b).2.length xd.wc), (.slice sa 256 sc), (.int .u32 (S.2.2.1 : Int)), (.int .u32 (S.2.2.2 : Int))], .agg #[(.int .i64 (k : Int)), (.int .u32 (birth : Int)), (.int .u32 (iv : Int)), (.int .u32 (tag : Int)), (.int .u32 (sumOf b : Int))], .bool true]) (by simp [results, Tryz.f44, go_sem, e0, e1, e2, e3, e4, f0, f1, f2, f3, f4]) rfl ?_
  refine ⟨fun hh => (by cases hh), fun S' p hh => ?_, by rw [HG.out]; exact HBF.out⟩
  cases hh
  refine ⟨⟨xd, sa, sc⟩, ?_, fun W kk => ⟨HD.out W ((HK.out.more HI.out.1).to3.trans kk), ?_⟩⟩
  · simp only [stV, ptV]
    rw [show (S.2.1.set k 1).length = 256 by rw [List.length_set]; exact HLE.out]
  · have := HO.out W ((HK.out.more (Nat.zero_le _)).to3.trans (kk.more (Nat.zero_le _)))
    rw [show (S.2.1.set k 1).length = 256 by rw [List.length_set]; exact HLE.out]
    exact this
end Go.Proofs.YtjdjbonljohnbaaGreatDoor
/-
  The document's own Raw, Lay, Sealed and Seal of layer 13.
-/
namespace Go.Proofs.YtjdjbonljohnbaaGreatDoor
open Go.RowKit Go.Shelf
set_option maxRecDepth 100000

/-- Put, whatever there is. -/
theorem rtPut_any (L : Nat) (x : SAt) (S : StL) (birth iv tag : Nat) (a : Option Addr) (c : Nat) (b : List UInt8) (w : World) (h : StP L w x S) (hb : Bsl w w.heap.size a b.length c b) (hL : L ≤ w.heap.size) (ht : MayT S.2.1) (hf : Fits S.1) (hbl : b.length ≤ 100000) :
    Calls Tryz.prog 44 #[stV x S, .int .u32 birth, .int .u32 iv, .int .u32 tag, .slice a b.length c] w (OutPut L (putS S birth iv tag b) w) := by
  rcases first_from (fun i => mkT S.2.1 i = 0) 0 256 with ⟨k, _, h1, h2, h3⟩ | h0
  · by_cases hg : 4096 ≤ S.1.2.length
    · exact rtPut_great L x S birth iv tag a c b w h hb hL ht hf k h1 h2 (fun i hi => h3 i (Nat.zero_le _) hi) hg
    · exact rtPut_ok L x S birth iv tag a c b w h hb hL ht hf hbl k h1 h2 (fun i hi => h3 i (Nat.zero_le _) hi) (by omega)
  · exact rtPut_full L x S birth iv tag a c b w h hb hL ht hf fun i hi => h0 i (Nat.zero_le _) hi
end Go.Proofs.YtjdjbonljohnbaaGreatDoor
/-
  The document's own Seen, Look, Opened and Open of layer 13.
-/
namespace Go.Proofs.YtjdjbonljohnbaaGreatDoor
open Go.RowKit Go.Shelf
set_option maxRecDepth 100000

/-- The cells of a pointer. -/
abbrev ptA (p : Pt) : Array Value := #[.int .i64 p.1, .int .u32 (p.2.1 : Int), .int .u32 (p.2.2.1 : Int), .int .u32 (p.2.2.2.1 : Int), .int .u32 (p.2.2.2.2 : Int)]
theorem outBE_no (c : Nat) {w w' : World} (hb : Below w.heap.size w w') : OutBE ([], c) w (.returned (.tuple #[.slice none 0 0, .int .i64 c])) w' := ⟨_, rfl, World.ownsRow_nil _ _ _ _, hb⟩
theorem seenO_len {S : StL} {p : Pt} (hm : MayS S) (hp : MayP p) {B : List UInt8} (h : seenO S p = (B, 0)) : B.length = 256 := by
  unfold seenO at h
  split at h
  · cases h
  · rename_i hp0
    obtain ⟨k, h1, _, h2⟩ := mayP_at hp hp0
    split at h
    · cases h
      rw [show p.1.toNat = k by omega]
      exact leftD_length hm.1 _ h2
    · cases h
set_option maxHeartbeats 4000000 in
theorem rtSeen_any (L : Nat) (x : SAt) (S : StL) (p : Pt) (w : World) (h : StP L w x S) (hm : MayS S) (hmp : MayP p) (_hL : L ≤ w.heap.size) : Calls Tryz.prog 76 #[stV x S, ptV p] w (OutBE (seenO S p) w) := by
  have hmx : Tryz.prog.follows Departure.mixedOrders = true := by kernel_rfl
  obtain ⟨w0, hw0, b0, z0, x0, q0⟩ := two_al w (stC x S) (ptA p) 29 32
  obtain ⟨g, hg⟩ : ∃ g, w.heap.size = g := ⟨_, rfl⟩
  obtain ⟨g1, hg1⟩ : ∃ g1, g + 1 = g1 := ⟨_, rfl⟩
  have h0 := h.bel b0
  have hn := rpNone_any p w0
  rw [hg] at x0 q0 z0 b0
  rw [hg1] at q0
  have c0 := stC0 x0
  have c1 := stC1 x0
  have c2 := stC2 x0
  have c3 := stC3 x0
  have c4 := stC4 x0
  have d0 := bx0 q0
  have d1 := bx1 q0
  have d2 := bx2 q0
  have d3 := bx3 q0
  have d4 := bx4 q0
  have HX := Lib.hid x0
  have HQ := Lib.hid q0
  have HB := Lib.hid b0
  have HS := Lib.hid h0
  have HG := Lib.hid hg
  have HW := Lib.hid (show g ≤ w0.heap.size by omega)
  simp only [stC, ptA] at hw0
  clear h h0 x0 q0 b0 z0
  unfold seenO
  by_cases hp : p = p0
  · rw [if_pos hp]
    have he : eqP p p0 = true := (eqP_iff p p0).2 hp
    rw [he] at hn
    have HN := Lib.hid hn
    clear hn he hp hm hmp
    go_enter Tryz.func76, Tryz.ntmps76
    go_wp2_with fail
    clear c0 c1 c2 c3 c4 d0 d1 d2 d3 d4 hw0
    refine HN.out.mono ?_
    rintro e w1 ⟨rfl, b1⟩
    replace HX := Lib.hid (HX.out.below b1 HX.out.lt)
    replace HQ := Lib.hid (HQ.out.below b1 HQ.out.lt)
    replace HS := Lib.hid (HS.out.bel b1)
    replace HB := Lib.hid (HB.out.trans (b1.mono HW.out))
    replace HW := Lib.hid (Nat.le_trans HW.out b1.size)
    clear b1
    go_wp2_with fail
    go_ret2
    exact outBE_no 6 (by rw [HG.out]; exact HB.out)
  · rw [if_neg hp]
    have he : eqP p p0 = false := by
      cases hq : eqP p p0 with
      | false => rfl
      | true => exact absurd ((eqP_iff p p0).1 hq) hp
    rw [he] at hn
    have HN := Lib.hid hn
    obtain ⟨k, hk, k12, k256⟩ := mayP_at hmp hp
    have hkt : p.1.toNat = k := by omega
    rw [hkt]
    have hln := leftD_length hm.1 (fun _ => true) k256
    obtain ⟨B, hBk⟩ : ∃ B, seenS S k = B := ⟨_, rfl⟩
    have hln2 : B.length = 256 := by rw [← hBk]; exact hln
    rw [hBk]
    obtain ⟨O, hO⟩ : ∃ O, (if sumOf B = p.2.2.2.2 then (B, 0) else ([], 130) : List UInt8 × Nat) = O := ⟨_, rfl⟩
    rw [hO]
    have HOO := Lib.hid hO
    have hsn : ∀ W, StP L W x S → Calls Tryz.prog 96 #[dval x.d S.1, .int .i64 k] W (OwnS B W) := fun W hs => by
      have := rdSeen_any x.d S.1 k W hs.now.1 (by rw [hm.1.1.1]; exact k256) (by rw [hln]; omega)
      rw [show leftD S.1 (fun _ => true) k = B from hBk] at this
      exact this
    simp only [dval] at hsn
    have HSN := Lib.hid hsn
    have HL2 := Lib.hid hln2
    have HKK := Lib.hid hk
    clear hn he hp hm hmp hk hkt hln hsn hln2 hBk hO
    go_enter Tryz.func76, Tryz.ntmps76
    go_wp2_with fail
    clear c0 c1 c2 c3 c4 d0 d1 d2 d3 d4 hw0
    refine HN.out.mono ?_
    rintro e w1 ⟨rfl, b1⟩
    replace HX := Lib.hid (HX.out.below b1 HX.out.lt)
    replace HQ := Lib.hid (HQ.out.below b1 HQ.out.lt)
    replace HS := Lib.hid (HS.out.bel b1)
    replace HB := Lib.hid (HB.out.trans (b1.mono HW.out))
    replace HW := Lib.hid (Nat.le_trans HW.out b1.size)
    clear b1 HN
    have c0 := stC0 HX.out
    have c1 := stC1 HX.out
    have d0 := bx0 HQ.out
    rw [HKK.out] at d0
    go_wp2_with fail
    clear c0 c1 d0
    refine (HSN.out w1 HS.out).mono ?_
    rintro e w2 ⟨v, rfl, ho, b2⟩
    rw [HL2.out] at ho
    obtain ⟨ab, cb, rfl⟩ := own_slice ho
    have HO := Lib.hid ho
    replace HX := Lib.hid (HX.out.below b2 HX.out.lt)
    replace HQ := Lib.hid (HQ.out.below b2 HQ.out.lt)
    replace HS := Lib.hid (HS.out.bel b2)
    replace HB := Lib.hid (HB.out.trans (b2.mono HW.out))
    replace HW := Lib.hid (Nat.le_trans HW.out b2.size)
    clear b2 ho HSN
    go_wp2_with fail
    obtain ⟨wd, hwd⟩ : ∃ wd, w2.drew = wd := ⟨_, rfl⟩
    have bb : Below w2.heap.size w2 wd := by rw [← hwd]; exact (Below.refl _ w2).drew
    replace HO := Lib.hid (own_below HO.out bb)
    replace HX := Lib.hid (HX.out.below bb HX.out.lt)
    replace HQ := Lib.hid (HQ.out.below bb HQ.out.lt)
    replace HS := Lib.hid (HS.out.bel bb)
    replace HB := Lib.hid (HB.out.trans (bb.mono HW.out))
    replace HW := Lib.hid (Nat.le_trans HW.out bb.size)
    clear bb
    have HSU := Lib.hid (rsumOf_any ab 256 cb B wd (own_bsl HO.out) (by omega))
    have hc4 := bx4 HQ.out
    obtain ⟨u, hu⟩ : ∃ u : Nat, p.2.2.2.2 = u := ⟨_, rfl⟩
    obtain ⟨m, hmm⟩ : ∃ m : Nat, sumOf B = m := ⟨_, rfl⟩
    rw [hu] at hc4
    rw [hmm] at HSU
    have HO5 := HOO.out
    rw [hu, hmm] at HO5
    refine wpI_start (fun X => X.cell? ⟨g1, 4, none⟩ = some (.int .u32 (u : Int))) [0, 2, 3, 1, 4] hmx rfl hwd ?_
    clear hu hmm hwd
    have HO5' := Lib.hid HO5
    clear HO5
    iterate 3 (
      refine wpI_read (v := ?_) hc4 rfl (by kernel_rfl) (by kernel_rfl) (by kernel_rfl) (fun _ _ _ h => h) (.inl ⟨by rfl, ?_⟩) ?_
      rotate_left
      · intro X hX
        go_simp
        with_reducible rfl
      try simp only [Act.put, List.setIfInBounds_toArray, List.set_cons_zero, List.set_cons_succ])
    refine wpI_lone rfl (by kernel_rfl) (fun K hK => ?_)
    go_simp
    refine HSU.out.mono ?_
    rintro ev w3 ⟨rfl, b3⟩
    have hc5 : w3.cell? ⟨g1, 4, none⟩ = some (.int .u32 (u : Int)) := (b3.cell (p := ⟨g1, 4, none⟩) HQ.out.lt).trans hc4
    replace HO := Lib.hid (own_below HO.out b3)
    replace HX := Lib.hid (HX.out.below b3 HX.out.lt)
    replace HQ := Lib.hid (HQ.out.below b3 HQ.out.lt)
    replace HS := Lib.hid (HS.out.bel b3)
    replace HB := Lib.hid (HB.out.trans (b3.mono HW.out))
    replace HW := Lib.hid (Nat.le_trans HW.out b3.size)
    refine hK _ _ hc5 ?_
    clear hK K hc4 b3 HSU
    try simp only [Act.put, List.setIfInBounds_toArray, List.set_cons_zero, List.set_cons_succ]
    by_cases hmu : m = u
    · have HO5 := HO5'.out
      rw [if_pos hmu] at HO5
      subst HO5
      have he : ((m : Int) != (u : Int)) = false := by simp; omega
      clear hmu
      iterate 1 (
        refine wpI_read (v := ?_) hc5 rfl (by kernel_rfl) (by kernel_rfl) (by kernel_rfl) (fun _ _ _ h => h) (.inl ⟨by rfl, ?_⟩) ?_
        rotate_left
        · intro X hX
          go_simp
          with_reducible rfl
        try simp only [Act.put, List.setIfInBounds_toArray, List.set_cons_zero, List.set_cons_succ])
      refine wpI_done (by kernel_rfl) ?_
      have HO0 := Lib.hid (own_nil w3 w3.heap.size)
      have HRF := Lib.hid (Below.refl w3.heap.size w3)
      clear he hc5
      go_wp2_with (at_builtin
                   refine wpList_append_bsl rfl (.const (.slice none 0 0)) (.tmp 19) rfl w3.heap.size _ 0 _ rfl HO0.out _ ab 256 cb B rfl (own_bsl HO.out) (by omega) HRF.out.size ?_
                   intro v4 w4 ho4 hg4
                   rw [Nat.zero_add, List.nil_append] at ho4
                   have b4 := app_below HRF.out HO0.out hg4 HRF.out.size; clear hg4
                   have HO4 := Lib.hid (own_mono ho4 HW.out)
                   have HB4 := Lib.hid (HB.out.trans (b4.mono HW.out))
                   clear ho4 b4)
      go_ret2
      exact ⟨_, rfl, by rw [HG.out, HL2.out]; exact HO4.out, by rw [HG.out]; exact HB4.out⟩
    · have HO5 := HO5'.out
      rw [if_neg hmu] at HO5
      subst HO5
      have he : ((m : Int) != (u : Int)) = true := by simp; omega
      clear hmu
      iterate 1 (
        refine wpI_read (v := ?_) hc5 rfl (by kernel_rfl) (by kernel_rfl) (by kernel_rfl) (fun _ _ _ h => h) (.inl ⟨by rfl, ?_⟩) ?_
        rotate_left
        · intro X hX
          go_simp
          with_reducible rfl
        try simp only [Act.put, List.setIfInBounds_toArray, List.set_cons_zero, List.set_cons_succ])
      refine wpI_done (by kernel_rfl) ?_
      clear he hc5
      go_wp2_with fail
      go_ret2
      exact outBE_no 130 (by rw [HG.out]; exact HB.out)
end Go.Proofs.YtjdjbonljohnbaaGreatDoor
/-
  Store's own: wrong, wrongToSeal, wrongPtr, with; nothing that was there is written.
-/
namespace Go.Proofs.YtjdjbonljohnbaaGreatDoor
open Go.RowKit Go.Shelf
set_option maxRecDepth 100000

/-- What is wrong with a store, a birth and a text's length. -/
noncomputable def wrongO (S : StL) (birth n : Nat) : Nat := open Classical in if MayS S then if 1 ≤ birth ∧ birth ≤ 16777215 then if n = 256 then 0 else 3 else 2 else 8
/-- What is wrong with a store or a pointer. -/
noncomputable def wrongPO (S : StL) (p : Pt) : Nat := open Classical in if MayS S ∧ MayP p then if p = p0 then 6 else 0 else 8
set_option maxHeartbeats 1000000 in
theorem stWrong_any (L : Nat) (x : SAt) (S : StL) (birth : Nat) (a : Option Addr) (n c : Nat) (w : World) (h : StP L w x S) (z : Nat) (hz : wrongO S birth n = z) : Calls Tryz.prog 38 #[stV x S, .int .u32 (birth : Int), .slice a n c] w fun e w' => e = .returned (.int .i64 (z : Int)) ∧ Below w.heap.size w w' := by
  obtain ⟨xb, b0⟩ := st_box w x S
  obtain ⟨w0, hw0⟩ : ∃ w0, w.alloc (.cells (stC x S) 29) = w0 := ⟨_, rfl⟩
  rw [hw0] at xb b0
  have c0 := stC0 xb
  have c1 := stC1 xb
  have c2 := stC2 xb
  have c3 := stC3 xb
  have c4 := stC4 xb
  have HB := Lib.hid b0
  have HMY := fun R hR => stMayBe_any L x S w0 (h.bel b0) R hR
  simp only [stC] at hw0
  clear h xb b0
  unfold wrongO at hz
  by_cases hm : MayS S
  · rw [if_pos hm] at hz
    have HM := Lib.hid (HMY true ⟨fun _ => hm, fun _ => rfl⟩)
    clear HMY hm
    by_cases hb : 1 ≤ birth ∧ birth ≤ 16777215
    · rw [if_pos hb] at hz
      have HU := Lib.hid (fun W => stUpTo_any birth 16777215 true ⟨fun _ => ⟨hb.1, by omega⟩, fun _ => rfl⟩ W)
      clear hb
      by_cases hn : n = 256
      · rw [if_pos hn] at hz
        have e1 : ((n : Int) != 256) = false := by simp; omega
        subst hz
        clear hn
        go_enter Tryz.func38, Tryz.ntmps38
        go_wp2_with fail
        refine HM.out.mono ?_
        rintro e w1 ⟨rfl, b1⟩
        have HB1 := Lib.hid (HB.out.trans (b1.mono HB.out.size))
        clear b1 c0 c1 c2 c3 c4
        go_wp2_with fail
        refine (HU.out w1).mono ?_
        rintro e w2 ⟨rfl, rfl⟩
        go_wp2_with fail
        go_ret
        exact ⟨rfl, HB1.out⟩
      · rw [if_neg hn] at hz
        have e1 : ((n : Int) != 256) = true := by simp; omega
        subst hz
        clear hn
        go_enter Tryz.func38, Tryz.ntmps38
        go_wp2_with fail
        refine HM.out.mono ?_
        rintro e w1 ⟨rfl, b1⟩
        have HB1 := Lib.hid (HB.out.trans (b1.mono HB.out.size))
        clear b1 c0 c1 c2 c3 c4
        go_wp2_with fail
        refine (HU.out w1).mono ?_
        rintro e w2 ⟨rfl, rfl⟩
        go_wp2_with fail
        go_ret
        exact ⟨rfl, HB1.out⟩
    · rw [if_neg hb] at hz
      have HU := Lib.hid (fun W => stUpTo_any birth 16777215 false ⟨fun h => (by cases h), fun h => absurd (show 1 ≤ birth ∧ birth ≤ 16777215 by omega) hb⟩ W)
      subst hz
      clear hb
      go_enter Tryz.func38, Tryz.ntmps38
      go_wp2_with fail
      refine HM.out.mono ?_
      rintro e w1 ⟨rfl, b1⟩
      have HB1 := Lib.hid (HB.out.trans (b1.mono HB.out.size))
      clear b1 c0 c1 c2 c3 c4
      go_wp2_with fail
      refine (HU.out w1).mono ?_
      rintro e w2 ⟨rfl, rfl⟩
      go_wp2_with fail
      go_ret
      exact ⟨rfl, HB1.out⟩
  · rw [if_neg hm] at hz
    have HM := Lib.hid (HMY false ⟨fun h => (by cases h), fun h => absurd h hm⟩)
    subst hz
    clear HMY hm
    go_enter Tryz.func38, Tryz.ntmps38
    go_wp2_with fail
    refine HM.out.mono ?_
    rintro e w1 ⟨rfl, b1⟩
    have HB1 := Lib.hid (HB.out.trans (b1.mono HB.out.size))
    clear b1 c0 c1 c2 c3 c4
    go_wp2_with fail
    go_ret
    exact ⟨rfl, HB1.out⟩
set_option maxHeartbeats 1000000 in
theorem stWrongPtr_any (L : Nat) (x : SAt) (S : StL) (p : Pt) (w : World) (h : StP L w x S) (z : Nat) (hz : wrongPO S p = z) : Calls Tryz.prog 92 #[stV x S, ptV p] w fun e w' => e = .returned (.int .i64 (z : Int)) ∧ Below w.heap.size w w' := by
  obtain ⟨w0, hw0, b0, z0, x0, q0⟩ := two_al w (stC x S) (ptA p) 29 32
  have h0 := h.bel b0
  have c0 := stC0 x0
  have c1 := stC1 x0
  have c2 := stC2 x0
  have c3 := stC3 x0
  have c4 := stC4 x0
  have d0 := bx0 q0
  have d1 := bx1 q0
  have d2 := bx2 q0
  have d3 := bx3 q0
  have d4 := bx4 q0
  have HQ := Lib.hid q0
  have HB := Lib.hid b0
  have HMY := fun R hR => stMayBe_any L x S w0 h0 R hR
  have hpm := fun W => Check_any p W
  simp only [stC, ptA] at hw0
  clear h h0 x0 q0 b0 z0
  unfold wrongPO at hz
  by_cases hms : MayS S
  · have HM := Lib.hid (HMY true ⟨fun _ => hms, fun _ => rfl⟩)
    clear HMY
    by_cases hmp : MayP p
    · rw [if_pos ⟨hms, hmp⟩] at hz
      rw [show pcheckO p = 0 by unfold pcheckO; rw [if_pos hmp]] at hpm
      have HC := Lib.hid hpm
      clear hpm hms hmp
      by_cases hp : p = p0
      · rw [if_pos hp] at hz
        have he : eqP p p0 = true := (eqP_iff p p0).2 hp
        subst hz
        clear hp
        obtain ⟨pa, pb, pc, pd, pe⟩ := p
        have heq := eqPt_zero pa pb pc pd pe
        rw [he] at heq
        clear he
        go_enter Tryz.func92, Tryz.ntmps92
        go_wp2_with fail
        refine HM.out.mono ?_
        rintro e w1 ⟨rfl, b1⟩
        replace HQ := Lib.hid (HQ.out.below b1 HQ.out.lt)
        replace HB := Lib.hid (HB.out.trans (b1.mono HB.out.size))
        clear b1 c0 c1 c2 c3 c4 d0 d1 d2 d3 d4
        have d0 := bx0 HQ.out
        have d1 := bx1 HQ.out
        have d2 := bx2 HQ.out
        have d3 := bx3 HQ.out
        have d4 := bx4 HQ.out
        go_wp2_with fail
        refine (HC.out w1).mono ?_
        rintro e w2 ⟨rfl, b2⟩
        replace HQ := Lib.hid (HQ.out.below b2 HQ.out.lt)
        replace HB := Lib.hid (HB.out.trans (b2.mono HB.out.size))
        clear b2 d0 d1 d2 d3 d4
        have d0 := bx0 HQ.out
        have d1 := bx1 HQ.out
        have d2 := bx2 HQ.out
        have d3 := bx3 HQ.out
        have d4 := bx4 HQ.out
        go_wp2_with fail
        go_ret
        exact ⟨rfl, HB.out⟩
      · rw [if_neg hp] at hz
        have he : eqP p p0 = false := by
          cases hq : eqP p p0 with
          | false => rfl
          | true => exact absurd ((eqP_iff p p0).1 hq) hp
        subst hz
        clear hp
        obtain ⟨pa, pb, pc, pd, pe⟩ := p
        have heq := eqPt_zero pa pb pc pd pe
        rw [he] at heq
        clear he
        go_enter Tryz.func92, Tryz.ntmps92
        go_wp2_with fail
        refine HM.out.mono ?_
        rintro e w1 ⟨rfl, b1⟩
        replace HQ := Lib.hid (HQ.out.below b1 HQ.out.lt)
        replace HB := Lib.hid (HB.out.trans (b1.mono HB.out.size))
        clear b1 c0 c1 c2 c3 c4 d0 d1 d2 d3 d4
        have d0 := bx0 HQ.out
        have d1 := bx1 HQ.out
        have d2 := bx2 HQ.out
        have d3 := bx3 HQ.out
        have d4 := bx4 HQ.out
        go_wp2_with fail
        refine (HC.out w1).mono ?_
        rintro e w2 ⟨rfl, b2⟩
        replace HQ := Lib.hid (HQ.out.below b2 HQ.out.lt)
        replace HB := Lib.hid (HB.out.trans (b2.mono HB.out.size))
        clear b2 d0 d1 d2 d3 d4
        have d0 := bx0 HQ.out
        have d1 := bx1 HQ.out
        have d2 := bx2 HQ.out
        have d3 := bx3 HQ.out
        have d4 := bx4 HQ.out
        go_wp2_with fail
        go_ret
        exact ⟨rfl, HB.out⟩
    · rw [if_neg (fun hh => hmp hh.2)] at hz
      rw [show pcheckO p = 8 by unfold pcheckO; rw [if_neg hmp]] at hpm
      have HC := Lib.hid hpm
      subst hz
      clear hpm hms hmp
      go_enter Tryz.func92, Tryz.ntmps92
      go_wp2_with fail
      refine HM.out.mono ?_
      rintro e w1 ⟨rfl, b1⟩
      replace HQ := Lib.hid (HQ.out.below b1 HQ.out.lt)
      replace HB := Lib.hid (HB.out.trans (b1.mono HB.out.size))
      clear b1 c0 c1 c2 c3 c4 d0 d1 d2 d3 d4
      have d0 := bx0 HQ.out
      have d1 := bx1 HQ.out
      have d2 := bx2 HQ.out
      have d3 := bx3 HQ.out
      have d4 := bx4 HQ.out
      go_wp2_with fail
      refine (HC.out w1).mono ?_
      rintro e w2 ⟨rfl, b2⟩
      replace HQ := Lib.hid (HQ.out.below b2 HQ.out.lt)
      replace HB := Lib.hid (HB.out.trans (b2.mono HB.out.size))
      clear b2 d0 d1 d2 d3 d4
      have d0 := bx0 HQ.out
      have d1 := bx1 HQ.out
      have d2 := bx2 HQ.out
      have d3 := bx3 HQ.out
      have d4 := bx4 HQ.out
      go_wp2_with fail
      go_ret
      exact ⟨rfl, HB.out⟩
  · rw [if_neg (fun hh => hms hh.1)] at hz
    have HM := Lib.hid (HMY false ⟨fun h => (by cases h), fun h => absurd h hms⟩)
    subst hz
    clear HMY hpm hms
    go_enter Tryz.func92, Tryz.ntmps92
    go_wp2_with fail
    refine HM.out.mono ?_
    rintro e w1 ⟨rfl, b1⟩
    replace HQ := Lib.hid (HQ.out.below b1 HQ.out.lt)
    replace HB := Lib.hid (HB.out.trans (b1.mono HB.out.size))
    clear b1 c0 c1 c2 c3 c4 d0 d1 d2 d3 d4
    have d0 := bx0 HQ.out
    have d1 := bx1 HQ.out
    have d2 := bx2 HQ.out
    have d3 := bx3 HQ.out
    have d4 := bx4 HQ.out
    go_wp2_with fail
    go_ret
    exact ⟨rfl, HB.out⟩
set_option maxHeartbeats 1000000 in
theorem stWith_any (x : SAt) (S : StL) (y : DAt) (D : DkL) (a : Option Addr) (n c : Nat) (w : World) : Calls Tryz.prog 34 #[stV x S, dval y D, .slice a n c] w fun e w' => e = .returned (.agg #[.slice y.ba D.1.length y.bc, .slice y.wa D.2.length y.wc, .slice a n c, .int .u32 (S.2.2.1 : Int), .int .u32 (S.2.2.2 : Int)]) ∧ Below w.heap.size w w' := by
  obtain ⟨w0, hw0, b0, z0, x0, y0, q0⟩ := three_al w (stC x S) #[.slice y.ba D.1.length y.bc, .slice y.wa D.2.length y.wc] stZ 29 25 29
  obtain ⟨g, hg⟩ : ∃ g, w.heap.size = g := ⟨_, rfl⟩
  obtain ⟨g1, hg1⟩ : ∃ g1, g + 1 = g1 := ⟨_, rfl⟩
  obtain ⟨g2, hg2⟩ : ∃ g2, g1 + 1 = g2 := ⟨_, rfl⟩
  rw [hg] at x0 y0 q0 b0
  rw [show g + 2 = g1 + 1 by omega] at q0
  rw [hg1] at y0
  rw [hg2] at q0
  have HG := Lib.hid hg
  have HB := Lib.hid b0
  have e0 : w0.cell? ⟨g1, 0, none⟩ = some (.slice y.ba D.1.length y.bc) := y0.cell 0
  have e1 : w0.cell? ⟨g1, 1, none⟩ = some (.slice y.wa D.2.length y.wc) := y0.cell 1
  have c0 := stC0 x0
  have c1 := stC1 x0
  have c2 := stC2 x0
  have c3 := stC3 x0
  have c4 := stC4 x0
  have hfx := fun i => x0.frozen i
  have HX := Lib.hid x0
  have HQ := Lib.hid q0
  have HNE := Lib.hid (show g2 ≠ g by omega)
  have HGE := Lib.hid (show g ≤ g2 by omega)
  obtain ⟨x2, k2, b2⟩ := box_two x0 (by decide) (Nat.zero_le _) b0 (Nat.le_refl _) (.slice y.ba D.1.length y.bc) (.slice y.wa D.2.length y.wc)
  have q2 := (q0.far (p := ⟨g, 0, none⟩) HNE.out (.slice y.ba D.1.length y.bc)).far (p := ⟨g, 1, none⟩) HNE.out (.slice y.wa D.2.length y.wc)
  obtain ⟨w2, hw2⟩ : ∃ w2, (w0.setCell ⟨g, 0, none⟩ (.slice y.ba D.1.length y.bc)).setCell ⟨g, 1, none⟩ (.slice y.wa D.2.length y.wc) = w2 := ⟨_, rfl⟩
  rw [hw2] at x2 k2 b2 q2
  have cc := bx2 x2
  have hf2 := fun i => x2.frozen i
  have q3 := q2.far (p := ⟨g, 2, none⟩) HNE.out (.slice a n c)
  obtain ⟨x3, k3, b3⟩ := box_at x2 (by decide) (Nat.zero_le _) b2 (Nat.le_refl _) 2 (.slice a n c)
  obtain ⟨w3, hw3⟩ : ∃ w3, w2.setCell ⟨g, 2, none⟩ (.slice a n c) = w3 := ⟨_, rfl⟩
  rw [hw3] at x3 k3 b3 q3
  replace x3 : Blk w3 g 29 #[.slice y.ba D.1.length y.bc, .slice y.wa D.2.length y.wc, .slice a n c, .int .u32 (S.2.2.1 : Int), .int .u32 (S.2.2.2 : Int)] := x3
  have p0 := bx0 x3
  have p1 := bx1 x3
  have p2 := bx2 x3
  have p3 := bx3 x3
  have p4 := bx4 x3
  have r0 := stZ0 q3
  have r1 := stZ1 q3
  have r2 := stZ2 q3
  have r3 := stZ3 q3
  have r4 := stZ4 q3
  have hfy := fun i => q3.frozen i
  have H2 := Lib.hid (box_five q3 (by decide) (Nat.zero_le _) b3 HGE.out (.slice y.ba D.1.length y.bc) (.slice y.wa D.2.length y.wc) (.slice a n c) (.int .u32 (S.2.2.1 : Int)) (.int .u32 (S.2.2.2 : Int)))
  simp only [stC, stZ] at hw0
  simp only [dval]
  clear x0 y0 q0 b0 z0 x2 k2 b2 q2 x3 k3 b3 q3 HX HQ
  go_enter Tryz.func34, Tryz.ntmps34
  go_wp2_with fail
  clear p0 p1 p2 p3 p4 r0 r1 r2 r3 r4 hfy hfx c0 c1 c2 c3 c4 e0 e1 hw2 hw3 cc hf2
  obtain ⟨xf, _, bf⟩ := H2.out
  obtain ⟨wf, hwf⟩ : ∃ wf, set5 w3 g2 (.slice y.ba D.1.length y.bc) (.slice y.wa D.2.length y.wc) (.slice a n c) (.int .u32 (S.2.2.1 : Int)) (.int .u32 (S.2.2.2 : Int)) = wf := ⟨_, rfl⟩
  rw [hwf] at xf bf
  simp only [set5] at hwf
  rw [hwf]
  have e0 := bx0 xf
  have e1 := bx1 xf
  have e2 := bx2 xf
  have e3 := bx3 xf
  have e4 := bx4 xf
  refine bodyPost_ret (v := .agg #[.slice y.ba D.1.length y.bc, .slice y.wa D.2.length y.wc, .slice a n c, .int .u32 (S.2.2.1 : Int), .int .u32 (S.2.2.2 : Int)]) (by simp [results, Tryz.f34, go_sem, e0, e1, e2, e3, e4]) rfl ?_
  exact ⟨rfl, by rw [HG.out]; exact bf⟩
end Go.Proofs.YtjdjbonljohnbaaGreatDoor
/-
  Store's own: Look, Open; what they answer is new memory, and nothing that was there is written.
-/
namespace Go.Proofs.YtjdjbonljohnbaaGreatDoor
open Go.RowKit Go.Shelf
set_option maxRecDepth 100000

theorem wrongPO_no {S : StL} {p : Pt} (h : wrongPO S p = 0) : MayS S ∧ MayP p ∧ p ≠ p0 := by
  unfold wrongPO at h
  split at h
  · rename_i hm
    split at h
    · cases h
    · exact ⟨hm.1, hm.2, by assumption⟩
  · cases h
theorem lookO_wrong {S : StL} {p : Pt} {z : Nat} (h : wrongPO S p = z) (hz : z ≠ 0) : lookO S p = ([], z) := by
  unfold wrongPO at h
  unfold lookO
  split at h
  · rw [if_pos (by assumption)]
    split at h
    · unfold seenO
      rw [if_pos (by assumption), ← h]
    · exact absurd h.symm hz
  · rw [if_neg (by assumption), ← h]
set_option maxHeartbeats 4000000 in
theorem stLook_all (L : Nat) (x : SAt) (S : StL) (p : Pt) (w : World) (h : StP L w x S) (_hwp : WfP p) (_hL : L ≤ w.heap.size) : Calls Tryz.prog 74 #[stV x S, ptV p] w (OutBE (lookO S p) w) := by
  have hmx : Tryz.prog.follows Departure.mixedOrders = true := by kernel_rfl
  obtain ⟨w0, hw0, b0, z0, x0, q0⟩ := two_al w (stC x S) (ptA p) 29 32
  obtain ⟨g, hg⟩ : ∃ g, w.heap.size = g := ⟨_, rfl⟩
  obtain ⟨g1, hg1⟩ : ∃ g1, g + 1 = g1 := ⟨_, rfl⟩
  have h0 := h.bel b0
  rw [hg] at x0 q0 z0 b0
  rw [hg1] at q0
  have c0 := stC0 x0
  have c1 := stC1 x0
  have c2 := stC2 x0
  have c3 := stC3 x0
  have c4 := stC4 x0
  have d0 := bx0 q0
  have d1 := bx1 q0
  have d2 := bx2 q0
  have d3 := bx3 q0
  have d4 := bx4 q0
  have HX := Lib.hid x0
  have HQ := Lib.hid q0
  have HB := Lib.hid b0
  have HS := Lib.hid h0
  have HG := Lib.hid hg
  have HW := Lib.hid (show g ≤ w0.heap.size by omega)
  simp only [stC, ptA] at hw0
  clear h h0 x0 q0 b0 z0
  obtain ⟨z, hz⟩ : ∃ z, wrongPO S p = z := ⟨_, rfl⟩
  have HWR := Lib.hid (stWrongPtr_any L x S p w0 HS.out z hz)
  obtain ⟨o, ho⟩ : ∃ o, lookO S p = o := ⟨_, rfl⟩
  rw [ho]
  by_cases hz0 : z = 0
  · subst hz0
    obtain ⟨hm, hmp, hp⟩ := wrongPO_no hz
    rw [lookO_may hm hmp] at ho
    unfold seenO at ho
    rw [if_neg hp] at ho
    obtain ⟨k, hk, k12, k256⟩ := mayP_at hmp hp
    have hkt : p.1.toNat = k := by omega
    rw [hkt] at ho
    have hln := leftD_length hm.1 (fun _ => true) k256
    obtain ⟨B, hBk⟩ : ∃ B, seenS S k = B := ⟨_, rfl⟩
    have hln2 : B.length = 256 := by rw [← hBk]; exact hln
    rw [hBk] at ho
    have HOO := Lib.hid ho
    have hrd : readO S.1 (k : Int) = (B, 0) := by
      unfold readO
      rw [if_pos hm.1, if_pos (by omega), Int.toNat_natCast, ← hBk]
      rfl
    have hsn : ∀ W, StP L W x S → Calls Tryz.prog 93 #[dval x.d S.1, .int .i64 (k : Int)] W (ToldL (B, 0) W) := fun W hs => by
      have := dRead_any x.d S.1 (k : Int) W hs.now.1
      rw [hrd] at this
      exact this
    simp only [dval] at hsn
    have HSN := Lib.hid hsn
    have HL2 := Lib.hid hln2
    have HKK := Lib.hid hk
    clear hm hmp hp hz hk hkt hln hsn hln2 hBk ho hrd
    go_enter Tryz.func74, Tryz.ntmps74
    go_wp2_with fail
    clear c0 c1 c2 c3 c4 d0 d1 d2 d3 d4 hw0
    refine HWR.out.mono ?_
    rintro e w1 ⟨rfl, b1⟩
    replace HX := Lib.hid (HX.out.below b1 HX.out.lt)
    replace HQ := Lib.hid (HQ.out.below b1 HQ.out.lt)
    replace HS := Lib.hid (HS.out.bel b1)
    replace HB := Lib.hid (HB.out.trans (b1.mono HW.out))
    replace HW := Lib.hid (Nat.le_trans HW.out b1.size)
    clear b1 HWR
    have c0 := stC0 HX.out
    have c1 := stC1 HX.out
    have d0 := bx0 HQ.out
    rw [HKK.out] at d0
    go_wp2_with fail
    clear c0 c1 d0
    refine (HSN.out w1 HS.out).mono ?_
    rintro e w2 ⟨v, rfl, ho, b2⟩
    simp only at ho
    rw [HL2.out] at ho
    obtain ⟨ab, cb, rfl⟩ := own_slice ho
    have HO := Lib.hid (own_mono ho HW.out)
    replace HX := Lib.hid (HX.out.below b2 HX.out.lt)
    replace HQ := Lib.hid (HQ.out.below b2 HQ.out.lt)
    replace HS := Lib.hid (HS.out.bel b2)
    replace HB := Lib.hid (HB.out.trans (b2.mono HW.out))
    replace HW := Lib.hid (Nat.le_trans HW.out b2.size)
    clear b2 ho HSN
    go_wp2_with fail
    obtain ⟨wd, hwd⟩ : ∃ wd, w2.drew = wd := ⟨_, rfl⟩
    have bb : Below w2.heap.size w2 wd := by rw [← hwd]; exact (Below.refl _ w2).drew
    replace HO := Lib.hid (own_below HO.out bb)
    replace HX := Lib.hid (HX.out.below bb HX.out.lt)
    replace HQ := Lib.hid (HQ.out.below bb HQ.out.lt)
    replace HS := Lib.hid (HS.out.bel bb)
    replace HB := Lib.hid (HB.out.trans (bb.mono HW.out))
    replace HW := Lib.hid (Nat.le_trans HW.out bb.size)
    clear bb
    have hsu := sum_any ab 256 cb B wd (own_bsl HO.out) (by omega)
    rw [show (fourW B).a.toNat = sumOf B from rfl] at hsu
    have hc4 := bx4 HQ.out
    obtain ⟨u, hu⟩ : ∃ u : Nat, p.2.2.2.2 = u := ⟨_, rfl⟩
    obtain ⟨m, hmm⟩ : ∃ m : Nat, sumOf B = m := ⟨_, rfl⟩
    rw [hu] at hc4
    rw [hmm] at hsu
    have HSU := Lib.hid hsu
    have HO5 := HOO.out
    rw [hu, hmm] at HO5
    refine wpI_start (fun X => X.cell? ⟨g1, 4, none⟩ = some (.int .u32 (u : Int))) [0, 2, 3, 1, 4] hmx rfl hwd ?_
    clear hu hmm hwd hsu
    have HO5' := Lib.hid HO5
    clear HO5
    iterate 3 (
      refine wpI_read (v := ?_) hc4 rfl (by kernel_rfl) (by kernel_rfl) (by kernel_rfl) (fun _ _ _ h => h) (.inl ⟨by rfl, ?_⟩) ?_
      rotate_left
      · intro X hX
        go_simp
        with_reducible rfl
      try simp only [Act.put, List.setIfInBounds_toArray, List.set_cons_zero, List.set_cons_succ])
    refine wpI_lone rfl (by kernel_rfl) (fun K hK => ?_)
    go_simp
    refine HSU.out.mono ?_
    rintro ev w3 ⟨rfl, b3⟩
    have hc5 : w3.cell? ⟨g1, 4, none⟩ = some (.int .u32 (u : Int)) := (b3.cell (p := ⟨g1, 4, none⟩) HQ.out.lt).trans hc4
    replace HO := Lib.hid (own_below HO.out b3)
    replace HX := Lib.hid (HX.out.below b3 HX.out.lt)
    replace HQ := Lib.hid (HQ.out.below b3 HQ.out.lt)
    replace HS := Lib.hid (HS.out.bel b3)
    replace HB := Lib.hid (HB.out.trans (b3.mono HW.out))
    replace HW := Lib.hid (Nat.le_trans HW.out b3.size)
    refine hK _ _ hc5 ?_
    clear hK K hc4 b3 HSU
    try simp only [Act.put, List.setIfInBounds_toArray, List.set_cons_zero, List.set_cons_succ]
    by_cases hmu : m = u
    · have HO5 := HO5'.out
      rw [if_pos hmu] at HO5
      subst HO5
      have he : ((m : Int) != (u : Int)) = false := by simp; omega
      clear hmu
      iterate 1 (
        refine wpI_read (v := ?_) hc5 rfl (by kernel_rfl) (by kernel_rfl) (by kernel_rfl) (fun _ _ _ h => h) (.inl ⟨by rfl, ?_⟩) ?_
        rotate_left
        · intro X hX
          go_simp
          with_reducible rfl
        try simp only [Act.put, List.setIfInBounds_toArray, List.set_cons_zero, List.set_cons_succ])
      refine wpI_done (by kernel_rfl) ?_
      clear he hc5
      go_wp2_with fail
      go_ret2
      exact ⟨_, rfl, by rw [HG.out, HL2.out]; exact HO.out, by rw [HG.out]; exact HB.out⟩
    · have HO5 := HO5'.out
      rw [if_neg hmu] at HO5
      subst HO5
      have he : ((m : Int) != (u : Int)) = true := by simp; omega
      clear hmu
      iterate 1 (
        refine wpI_read (v := ?_) hc5 rfl (by kernel_rfl) (by kernel_rfl) (by kernel_rfl) (fun _ _ _ h => h) (.inl ⟨by rfl, ?_⟩) ?_
        rotate_left
        · intro X hX
          go_simp
          with_reducible rfl
        try simp only [Act.put, List.setIfInBounds_toArray, List.set_cons_zero, List.set_cons_succ])
      refine wpI_done (by kernel_rfl) ?_
      clear he hc5
      go_wp2_with fail
      go_ret2
      exact outBE_no 130 (by rw [HG.out]; exact HB.out)
  · rw [lookO_wrong hz hz0] at ho
    subst ho
    have e1 : ((z : Int) != 0) = true := by simp; omega
    have e2 : ¬ ((z : Int) = 0) := by omega
    clear hz hz0
    go_enter Tryz.func74, Tryz.ntmps74
    go_wp2_with fail
    clear c0 c1 c2 c3 c4 d0 d1 d2 d3 d4 hw0
    refine HWR.out.mono ?_
    rintro e w1 ⟨rfl, b1⟩
    replace HX := Lib.hid (HX.out.below b1 HX.out.lt)
    replace HQ := Lib.hid (HQ.out.below b1 HQ.out.lt)
    replace HS := Lib.hid (HS.out.bel b1)
    replace HB := Lib.hid (HB.out.trans (b1.mono HW.out))
    replace HW := Lib.hid (Nat.le_trans HW.out b1.size)
    clear b1 HWR
    go_wp2_with fail
    go_ret2
    exact outBE_no z (by rw [HG.out]; exact HB.out)
end Go.Proofs.YtjdjbonljohnbaaGreatDoor
/-
  dead's own insist and rowOf: a row is told, or refused by a panic.
-/
namespace Go.Proofs.YtjdjbonljohnbaaGreatDoor
open Go.RowKit Go.Shelf
set_option maxRecDepth 100000

/-- A call that is refused by a panic. -/
def refuse (c : Nat) : Ending := .panicked [{ v := .iface 81 (.int .i64 (c : Int)), recovered := false }]
theorem ddInsist_ok (w : World) : Calls Tryz.prog 50 #[.int .i64 0] w fun e w' => e = .returned (.tuple #[]) ∧ w = w' := by
  go_enter Tryz.func50, Tryz.ntmps50
  go_wp2_with fail
  go_end0
  exact ⟨rfl, rfl⟩
theorem ddInsist_no (c : Nat) (h : c ≠ 0) (w : World) : Calls Tryz.prog 50 #[.int .i64 (c : Int)] w fun e w' => e = refuse c ∧ w = w' := by
  have e1 : ((c : Int) != 0) = true := by simp; omega
  unfold refuse
  clear h
  go_enter Tryz.func50, Tryz.ntmps50
  go_wp2_with fail
  exact ⟨rfl, rfl, rfl⟩
/-- The row of a pointer, without those that are none behind it. -/
def trowO (S : StL) (p : Pt) : List Pt × Nat :=
  if (seenR S p).2 ≠ 0 then ([], (seenR S p).2)
  else match trimD (seenR S p).1 with
    | none => ([], 8)
    | some t => if t = [] then ([], 8) else (t, 0)
/-- A row that is told, or refused. -/
def OutRw (o : List Pt × Nat) (w : World) (e : Ending) (w' : World) : Prop := Below w.heap.size w w' ∧ ((o.2 = 0 ∧ ∃ a c, e = .returned (.slice a o.1.length c) ∧ Pts w' w'.heap.size a o.1.length c o.1 ∧ HiA w.heap.size a) ∨ (o.2 ≠ 0 ∧ e = refuse o.2))
theorem trimN_behind : ∀ (L : List Pt) (j : Nat), trimN L ≤ j → j < L.length → L.getD j p0 = p0
  | [], _, _, h => absurd h (Nat.not_lt_zero _)
  | q :: r, 0, h1, _ => by
    unfold trimN at h1
    split at h1
    · split at h1
      · rename_i h; exact h
      · omega
    · omega
  | q :: r, j + 1, h1, h2 => by
    have h3 : trimN r ≤ j := by
      rw [trimN] at h1
      by_cases h0 : trimN r = 0
      · omega
      · rw [if_neg h0] at h1
        omega
    have := trimN_behind r j h3 (by simpa using h2)
    simpa using this
theorem lead_trim {L : List Pt} {k : Nat} (hk : k ≤ L.length) (h1 : ∀ t, t < k → L.getD t p0 ≠ p0) (h2 : k = L.length ∨ L.getD k p0 = p0) : ((∀ q ∈ L.drop k, q = p0) → trimD L = some (L.take k)) ∧ ((¬ ∀ q ∈ L.drop k, q = p0) → trimD L = none) := by
  constructor
  · intro h
    have hn : trimN L = k := trimN_of hk (fun j hj hjl => by
      have : L.getD j p0 ∈ L.drop k := by
        rw [ddGetD hjl]
        obtain ⟨d, rfl⟩ : ∃ d, j = k + d := ⟨j - k, by omega⟩
        have : (L.drop k)[d]'(by rw [List.length_drop]; omega) = L[k + d] := List.getElem_drop
        rw [← this]
        exact List.getElem_mem _
      exact h _ this) (by
      rcases Nat.eq_zero_or_pos k with h0 | h0
      · exact .inl h0
      · exact .inr (h1 (k - 1) (by omega)))
    unfold trimD
    rw [hn, if_neg]
    intro hp
    obtain ⟨i, hi, e⟩ := List.getElem_of_mem hp
    rw [List.length_take] at hi
    have := h1 i (by omega)
    rw [ddGetD (by omega)] at this
    rw [List.getElem_take] at e
    exact this e
  · intro h
    have hkl : k < L.length := by
      rcases h2 with h2 | h2
      · exact absurd (fun q hq => by rw [h2, List.drop_of_length_le (Nat.le_refl _)] at hq; cases hq) h
      · rcases Nat.lt_or_ge k L.length with h3 | h3
        · exact h3
        · exact absurd (fun q hq => by rw [List.drop_of_length_le h3] at hq; cases hq) h
    have hp0 : L.getD k p0 = p0 := by
      rcases h2 with h2 | h2
      · omega
      · exact h2
    have hlt : k < trimN L := by
      rcases Nat.lt_or_ge k (trimN L) with h3 | h3
      · exact h3
      · exfalso
        refine h fun q hq => ?_
        obtain ⟨i, hi, rfl⟩ := List.getElem_of_mem hq
        rw [List.length_drop] at hi
        rw [List.getElem_drop]
        have := trimN_behind L (k + i) (by omega) (by omega)
        rwa [ddGetD (by omega)] at this
    unfold trimD
    rw [if_pos]
    have : (L.take (trimN L))[k]'(by rw [List.length_take]; omega) = L[k] := List.getElem_take
    rw [ddGetD hkl] at hp0
    rw [← hp0, ← this]
    exact List.getElem_mem _
theorem trow_seen {S : StL} {p : Pt} {e : Nat} (h : (seenR S p).2 = e) (he : e ≠ 0) : trowO S p = ([], e) := by unfold trowO; rw [if_pos (by rw [h]; exact he), h]
theorem trow_ok {S : StL} {p : Pt} {L t : List Pt} (h : seenR S p = (L, 0)) (ht : trimD L = some t) (h0 : t ≠ []) : trowO S p = (t, 0) := by
  unfold trowO
  rw [h, if_neg (fun h => h rfl)]
  simp only [ht]
  rw [if_neg h0]
theorem trow_none {S : StL} {p : Pt} {L : List Pt} (h : seenR S p = (L, 0)) (ht : trimD L = none ∨ trimD L = some []) : trowO S p = ([], 8) := by
  unfold trowO
  rw [h, if_neg (fun h => h rfl)]
  rcases ht with ht | ht
  · simp only [ht]
  · simp only [ht]
    rw [if_pos trivial]
set_option maxHeartbeats 8000000 in
theorem ddRowOf_any (L : Nat) (x : SAt) (S : StL) (p : Pt) (w : World) (h : StP L w x S) (hm : MayS S) (hmp : MayP p) (hwp : WfP p) (hz : Szs w) (hL : L ≤ w.heap.size) : Calls Tryz.prog 49 #[stV x S, ptV p] w (OutRw (trowO S p) w) := by
  have HZ0 := Lib.hid hz
  clear hz
  have hmp2 := hmp
  obtain ⟨pa, pb, pi, pt, ps⟩ := p
  obtain ⟨w0, hw0, b0, z0, q1, q2⟩ := two_al w (stC x S) (ptA (pa, pb, pi, pt, ps)) 29 32
  obtain ⟨g, hg⟩ : ∃ g, w.heap.size = g := ⟨_, rfl⟩
  obtain ⟨g1, hg1⟩ : ∃ g1, g + 1 = g1 := ⟨_, rfl⟩
  rw [hg] at q1 q2
  rw [hg1] at q2
  have HX := Lib.hid q1
  have HQ := Lib.hid q2
  have HT := Lib.hid (h.bel b0)
  have HB := Lib.hid b0
  have HLW := Lib.hid (show L ≤ w0.heap.size from Nat.le_trans hL b0.size)
  simp only [stC, ptA] at hw0
  clear h b0 z0 q1 q2 hL
  have HZ := Lib.hid (HZ0.out.step HB.out)
  obtain ⟨⟨sb, se⟩, hse⟩ : ∃ o, seenO S (pa, pb, pi, pt, ps) = o := ⟨_, rfl⟩
  have hlk := stLook_all L x S (pa, pb, pi, pt, ps) w0 HT.out hwp HLW.out
  rw [lookO_may hm hmp, hse] at hlk
  have HLK := Lib.hid hlk
  clear hlk
  by_cases he : se ≠ 0
  · have HO := Lib.hid (show trowO S (pa, pb, pi, pt, ps) = ([], se) from trow_seen (by unfold seenR; rw [hse, if_pos he]) he)
    have HSN := Lib.hid he
    clear he hse
    have d0 := bx0 HX.out
    have d1 := bx1 HX.out
    have d2 := bx2 HX.out
    have d3 := bx3 HX.out
    have d4 := bx4 HX.out
    have q0 := bx0 HQ.out
    have q1 := bx1 HQ.out
    have q2 := bx2 HQ.out
    have q3 := bx3 HQ.out
    have q4 := bx4 HQ.out
    go_enter Tryz.func49, Tryz.ntmps49
    go_wp2_with fail
    try rw [hw0]
    try rw [hg]
    try rw [hg1]
    clear hw0 hg hg1
    clear d0 d1 d2 d3 d4
    clear q0 q1 q2 q3 q4
    refine HLK.out.mono ?_
    rintro ev w2 ⟨v, rfl, hv, b2⟩
    replace HX := Lib.hid (HX.out.below b2 HX.out.lt)
    replace HQ := Lib.hid (HQ.out.below b2 HQ.out.lt)
    replace HT := Lib.hid (HT.out.bel b2)
    replace HB := Lib.hid (HB.out.trans (b2.mono HB.out.size))
    replace HZ := Lib.hid (HZ.out.step b2)
    replace HLW := Lib.hid (Nat.le_trans HLW.out b2.size)
    obtain ⟨av, cv, rfl⟩ := own_slice hv
    clear b2 hv
    go_wp2_with fail
    refine (ddInsist_no se HSN.out w2).mono ?_
    rintro ev wz ⟨rfl, rfl⟩
    refine ⟨rfl, HB.out, .inr ⟨by rw [HO.out]; exact HSN.out, by rw [HO.out]; rfl⟩⟩
  · obtain rfl : se = 0 := by omega
    have hlen := seenO_len hm hmp hse
    have HSE := Lib.hid hse
    have HLN := Lib.hid hlen
    clear he hse hlen
    have d0 := bx0 HX.out
    have d1 := bx1 HX.out
    have d2 := bx2 HX.out
    have d3 := bx3 HX.out
    have d4 := bx4 HX.out
    have q0 := bx0 HQ.out
    have q1 := bx1 HQ.out
    have q2 := bx2 HQ.out
    have q3 := bx3 HQ.out
    have q4 := bx4 HQ.out
    go_enter Tryz.func49, Tryz.ntmps49
    go_wp2_with fail
    try rw [hw0]
    try rw [hg]
    try rw [hg1]
    clear hw0 hg hg1
    clear d0 d1 d2 d3 d4
    clear q0 q1 q2 q3 q4
    refine HLK.out.mono ?_
    rintro ev w2 ⟨v, rfl, hv, b2⟩
    replace HX := Lib.hid (HX.out.below b2 HX.out.lt)
    replace HQ := Lib.hid (HQ.out.below b2 HQ.out.lt)
    replace HT := Lib.hid (HT.out.bel b2)
    replace HB := Lib.hid (HB.out.trans (b2.mono HB.out.size))
    replace HZ := Lib.hid (HZ.out.step b2)
    replace HLW := Lib.hid (Nat.le_trans HLW.out b2.size)
    simp only [HLN.out] at hv
    obtain ⟨av, cv, rfl⟩ := own_slice hv
    have hrw := Rows_any av 256 cv sb w2 (own_bsl hv) HZ.out
    clear b2 hv
    go_wp2_with fail
    refine (ddInsist_ok w2).mono ?_
    rintro ev wz ⟨rfl, rfl⟩
    have hrc : rowsO sb = if ∀ p ∈ rowsL sb, MayP p then (rowsL sb, 0) else ([], 8) := by unfold rowsO; rw [if_pos HLN.out]
    by_cases hall : ∀ p ∈ rowsL sb, MayP p
    · rw [if_pos hall] at hrc
      rw [hrc] at hrw
      have HRW := Lib.hid hrw
      have HSR := Lib.hid (show seenR S (pa, pb, pi, pt, ps) = (rowsL sb, 0) by unfold seenR; rw [HSE.out, if_neg (fun h => h rfl), hrc, if_neg (fun h => h rfl)])
      clear hrw hrc hall
      go_wp2_with fail
      refine HRW.out.mono ?_
      rintro ev w3 ⟨v3, rfl, hp3, b3⟩
      have HB2 := Lib.hid (show w.heap.size ≤ w2.heap.size from HB.out.size)
      replace HX := Lib.hid (HX.out.below b3 HX.out.lt)
      replace HQ := Lib.hid (HQ.out.below b3 HQ.out.lt)
      replace HT := Lib.hid (HT.out.bel b3)
      replace HB := Lib.hid (HB.out.trans (b3.mono HB.out.size))
      replace HZ := Lib.hid (HZ.out.step b3)
      replace HLW := Lib.hid (Nat.le_trans HLW.out b3.size)
      obtain ⟨a3, c3, rfl, ht3⟩ := hp3.pts
      have hh3 := prow_hi hp3
      have hl16 : (rowsL sb).length = 16 := rowsL_length sb
      obtain ⟨R, hR⟩ : ∃ R, rowsL sb = R := ⟨_, rfl⟩
      rw [hR] at ht3 hp3 hl16 HSR ⊢
      rw [hl16] at ht3 ⊢
      have HR := Lib.hid ht3
      have HHI := Lib.hid (hh3.less HB2.out)
      have HL16 := Lib.hid hl16
      obtain ⟨b4, o4, ea, _⟩ := ht3.cells 0 (by decide)
      subst ea
      have h16 := ht3.2.1
      clear b3 hp3 ht3 hh3 hR hl16 HRW
      go_wp2_with fail
      refine (ddInsist_ok w3).mono ?_
      rintro ev wz ⟨rfl, rfl⟩
      go_wp2_with fail
      go_loopw [8] (fun i wr => ∃ k : Nat, k ≤ 16 ∧ i = .int .i64 k ∧ (∀ t, t < k → R.getD t p0 ≠ p0) ∧ Below w3.heap.size w3 wr) (fun i _ => 16 - (intOf i).toNat)
      case atStart => exact ⟨0, Nat.zero_le _, rfl, fun j hj => absurd hj (Nat.not_lt_zero _), Below.refl _ _⟩
      case round =>
        obtain ⟨k, hk, rfl, hne, hbz⟩ := hrel
        have k0 : (0 : Int) ≤ k := by omega
        have HNE := Lib.hid hne
        have HBZ := Lib.hid hbz
        have HRR := Lib.hid (HR.out.step hbz)
        replace HB := Lib.hid (HB.out.trans (hbz.mono HB.out.size))
        clear hne hbz
        by_cases hlt : k < 16
        · have k1 : (k : Int) < 16 := by omega
          obtain ⟨⟨ya, yb, yi, yt, ys⟩, hP⟩ : ∃ P, R.getD k p0 = P := ⟨_, rfl⟩
          obtain ⟨_, _, ea, _, _, v0_, v1_, v2_, v3_, v4_⟩ := HRR.out.cells k hlt
          cases ea
          rw [hP] at v0_ v1_ v2_ v3_ v4_
          simp only at v0_ v1_ v2_ v3_ v4_
          have HPE := Lib.hid hP
          clear hP
          by_cases hy0 : ((ya, yb, yi, yt, ys) : Pt) = p0
          · have HTH := Lib.hid (fun W => ddThere_any (ya, yb, yi, yt, ys) W false ⟨fun h => (by cases h), fun h => absurd hy0 h⟩)
            have HND := Lib.hid (show R.getD k p0 = p0 by rw [HPE.out]; exact hy0)
            clear hy0
            go_wp2_with fail
            clear v0_ v1_ v2_ v3_ v4_
            refine (HTH.out wr).mono ?_
            rintro ev w5 ⟨rfl, b5⟩
            replace HB := Lib.hid (HB.out.trans (b5.mono HB.out.size))
            replace HBZ := Lib.hid (HBZ.out.trans (b5.mono HBZ.out.size))
            replace HRR := Lib.hid (HRR.out.step b5)
            clear b5 HTH
            have hsl := pslice_from b4 o4 16 c3 k (by omega) (by omega)
            obtain ⟨A', hs1, hs2⟩ := hsl
            have hto := fun W => pslice_to W (some ⟨b4, o4, none⟩) 16 c3 k (by omega)
            have HS2 := Lib.hid (hs2 _ _ _ HRR.out)
            have hlt' := lead_trim (L := R) (k := k) (by rw [HL16.out]; omega) HNE.out (.inr HND.out)
            clear hs2
            by_cases hk0 : k = 0
            · subst hk0
              have HO := Lib.hid (show trowO S (pa, pb, pi, pt, ps) = ([], 8) from trow_none HSR.out (by
                by_cases hz : ∀ q ∈ R.drop 0, q = p0
                · exact .inr (hlt'.1 hz)
                · exact .inl (hlt'.2 hz)))
              clear hlt' hs1 hto
              go_wp2_with fail
              refine (ddInsist_no 8 (by decide) w5).mono ?_
              rintro ev wz ⟨rfl, rfl⟩
              refine ⟨rfl, HB.out, .inr ⟨by rw [HO.out]; exact (by decide : (8 : Nat) ≠ 0), by rw [HO.out]; rfl⟩⟩
            · have e0 : ((k : Int) == 0) = false := by simp; omega
              by_cases hz : ∀ q ∈ R.drop k, q = p0
              · have HO := Lib.hid (show trowO S (pa, pb, pi, pt, ps) = (R.take k, 0) from trow_ok HSR.out (hlt'.1 hz) (fun h => by have := congrArg List.length h; rw [List.length_take, HL16.out, List.length_nil] at this; omega))
                have HCT := Lib.hid (ddContainsT_any A' (16 - k) (c3 - k) (R.drop k) w5 HS2.out true ⟨fun _ => hz, fun _ => rfl⟩)
                clear hlt' hz
                go_wp2_with fail
                clear hs1
                refine HCT.out.mono ?_
                rintro ev w6 ⟨rfl, b6⟩
                replace HB := Lib.hid (HB.out.trans (b6.mono HB.out.size))
                replace HRR := Lib.hid (HRR.out.step b6)
                clear b6 HCT
                go_wp2_with fail
                go_ret
                refine ⟨HB.out, .inl ⟨by rw [HO.out], some ⟨b4, o4, none⟩, c3, ?_, ?_, HHI.out⟩⟩
                · have hl : (R.take k, 0).1.length = k := by show (R.take k).length = k; rw [List.length_take, HL16.out, Nat.min_eq_left (by omega)]
                  rw [HO.out, hl]
                  rfl
                · rw [HO.out]
                  have := HRR.out.take (k := k) (by omega)
                  rwa [List.length_take, HL16.out, Nat.min_eq_left (by omega)]
              · have HO := Lib.hid (show trowO S (pa, pb, pi, pt, ps) = ([], 8) from trow_none HSR.out (.inl (hlt'.2 hz)))
                have HCT := Lib.hid (ddContainsT_any A' (16 - k) (c3 - k) (R.drop k) w5 HS2.out false ⟨fun h => (by cases h), fun h => absurd h hz⟩)
                clear hlt' hz
                go_wp2_with fail
                clear hs1 hto
                refine HCT.out.mono ?_
                rintro ev w6 ⟨rfl, b6⟩
                replace HB := Lib.hid (HB.out.trans (b6.mono HB.out.size))
                clear b6 HCT
                go_wp2_with fail
                refine (ddInsist_no 8 (by decide) w6).mono ?_
                rintro ev wz ⟨rfl, rfl⟩
                refine ⟨rfl, HB.out, .inr ⟨by rw [HO.out]; exact (by decide : (8 : Nat) ≠ 0), by rw [HO.out]; rfl⟩⟩
          · have HTH := Lib.hid (fun W => ddThere_any (ya, yb, yi, yt, ys) W true ⟨fun _ => hy0, fun _ => rfl⟩)
            have HNY := Lib.hid hy0
            clear hy0
            go_wp2_with fail
            clear v0_ v1_ v2_ v3_ v4_
            refine (HTH.out wr).mono ?_
            rintro ev w5 ⟨rfl, b5⟩
            replace HBZ := Lib.hid (HBZ.out.trans (b5.mono HBZ.out.size))
            clear b5 HTH
            go_wp2_with fail
            go_roundw
            case rel =>
              refine ⟨k + 1, by omega, by go_num, fun t ht => ?_, HBZ.out⟩
              by_cases e : t = k
              · subst e
                rw [HPE.out]
                exact HNY.out
              · exact HNE.out t (by omega)
            case measure => simp [intOf]; omega
        · obtain rfl : k = 16 := by omega
          have HND := Lib.hid (show (16 : Nat) = R.length from HL16.out.symm)
          clear hlt
          have hsl := pslice_from b4 o4 16 c3 16 (by omega) (by omega)
          obtain ⟨A', hs1, hs2⟩ := hsl
          have hto := fun W => pslice_to W (some ⟨b4, o4, none⟩) 16 c3 16 (by omega)
          replace hs1 : ∀ W : World, (Instr.slice 30 (.slice (some ⟨b4, o4, none⟩) 16 c3) (some (.int .i64 16)) none none).run Tryz.prog W = .ok (.slice A' 0 (c3 - 16)) W := hs1
          replace hto : ∀ W : World, (Instr.slice 30 (.slice (some ⟨b4, o4, none⟩) 16 c3) none (some (.int .i64 16)) none).run Tryz.prog W = .ok (.slice (some ⟨b4, o4, none⟩) 16 c3) W := hto
          have HS2 := Lib.hid (hs2 _ _ _ HRR.out)
          have hlt' := lead_trim (L := R) (k := 16) (by rw [HL16.out]; omega) HNE.out (.inl HND.out)
          clear hs2
          have e0 : ((16 : Int) == 0) = false := rfl
          by_cases hz : ∀ q ∈ R.drop 16, q = p0
          · have HO := Lib.hid (show trowO S (pa, pb, pi, pt, ps) = (R.take 16, 0) from trow_ok HSR.out (hlt'.1 hz) (fun h => by have := congrArg List.length h; rw [List.length_take, HL16.out, List.length_nil] at this; omega))
            have HCT := Lib.hid (ddContainsT_any A' 0 (c3 - 16) (R.drop 16) wr HS2.out true ⟨fun _ => hz, fun _ => rfl⟩)
            clear hlt' hz
            go_wp2_with fail
            clear hs1
            refine HCT.out.mono ?_
            rintro ev w6 ⟨rfl, b6⟩
            replace HB := Lib.hid (HB.out.trans (b6.mono HB.out.size))
            replace HRR := Lib.hid (HRR.out.step b6)
            clear b6 HCT
            go_wp2_with fail
            go_ret
            refine ⟨HB.out, .inl ⟨by rw [HO.out], some ⟨b4, o4, none⟩, c3, ?_, ?_, HHI.out⟩⟩
            · have hl : (R.take 16, 0).1.length = 16 := by show (R.take 16).length = 16; rw [List.length_take, HL16.out, Nat.min_eq_left (by omega)]
              rw [HO.out, hl]
              rfl
            · rw [HO.out]
              have := HRR.out.take (k := 16) (by omega)
              rwa [List.length_take, HL16.out, Nat.min_eq_left (by omega)]
          · have HO := Lib.hid (show trowO S (pa, pb, pi, pt, ps) = ([], 8) from trow_none HSR.out (.inl (hlt'.2 hz)))
            have HCT := Lib.hid (ddContainsT_any A' 0 (c3 - 16) (R.drop 16) wr HS2.out false ⟨fun h => (by cases h), fun h => absurd h hz⟩)
            clear hlt' hz
            go_wp2_with fail
            clear hs1 hto
            refine HCT.out.mono ?_
            rintro ev w6 ⟨rfl, b6⟩
            replace HB := Lib.hid (HB.out.trans (b6.mono HB.out.size))
            clear b6 HCT
            go_wp2_with fail
            refine (ddInsist_no 8 (by decide) w6).mono ?_
            rintro ev wz ⟨rfl, rfl⟩
            refine ⟨rfl, HB.out, .inr ⟨by rw [HO.out]; exact (by decide : (8 : Nat) ≠ 0), by rw [HO.out]; rfl⟩⟩
    · rw [if_neg hall] at hrc
      rw [hrc] at hrw
      have HRW := Lib.hid hrw
      have HO := Lib.hid (show trowO S (pa, pb, pi, pt, ps) = ([], 8) from trow_seen (by unfold seenR; rw [HSE.out, if_neg (fun h => h rfl), hrc, if_pos (by decide)]) (by decide))
      clear hrw hrc hall
      go_wp2_with fail
      refine HRW.out.mono ?_
      rintro ev w3 ⟨v3, rfl, hp3, b3⟩
      replace HX := Lib.hid (HX.out.below b3 HX.out.lt)
      replace HQ := Lib.hid (HQ.out.below b3 HQ.out.lt)
      replace HT := Lib.hid (HT.out.bel b3)
      replace HB := Lib.hid (HB.out.trans (b3.mono HB.out.size))
      replace HZ := Lib.hid (HZ.out.step b3)
      replace HLW := Lib.hid (Nat.le_trans HLW.out b3.size)
      obtain ⟨a3, c3, rfl, ht3⟩ := hp3.pts
      clear b3 hp3 ht3
      go_wp2_with fail
      refine (ddInsist_no 8 (by decide) w3).mono ?_
      rintro ev wz ⟨rfl, rfl⟩
      refine ⟨rfl, HB.out, .inr ⟨by rw [HO.out]; exact (by decide : (8 : Nat) ≠ 0), by rw [HO.out]; rfl⟩⟩
end Go.Proofs.YtjdjbonljohnbaaGreatDoor
/-
  Two rows of pointers of the call's own that share nothing; one grows.
-/
namespace Go.Proofs.YtjdjbonljohnbaaGreatDoor
open Go.RowKit Go.Shelf
set_option maxRecDepth 100000

/-- Two rows share no block. -/
def Dis (v u : Value) : Prop := ∀ k, v.ownBlock = some k → u.ownBlock ≠ some k
theorem Dis.symm {v u : Value} (h : Dis v u) : Dis u v := fun k h1 h2 => h k h2 h1
end Go.Proofs.YtjdjbonljohnbaaGreatDoor
/-
  Load by rows, as plain lists.
-/
namespace Go.Proofs.YtjdjbonljohnbaaGreatDoor
open Go.RowKit Go.Shelf
set_option maxRecDepth 100000

theorem rowsL_wf' (s : List UInt8) : ∀ p ∈ rowsL s, WfP p := fun p hp => by
  obtain ⟨i, _, rfl⟩ := List.mem_map.1 hp
  exact wf_getP _
theorem seenR_cases (S : StL) (p : Pt) : (∃ e, seenR S p = ([], e) ∧ e ≠ 0) ∨ ∃ R, seenR S p = (R, 0) ∧ R.length = 16 ∧ (∀ q ∈ R, WfP q) ∧ ∀ q ∈ R, MayP q := by
  unfold seenR
  split
  · rename_i h
    exact .inl ⟨_, rfl, h⟩
  · rcases rowsO_cases (seenO S p).1 with ⟨c, h, hne⟩ | ⟨_, hm, h⟩
    · rw [h, if_pos hne]
      exact .inl ⟨8, rfl, by decide⟩
    · rw [h, if_neg (fun h => h rfl)]
      exact .inr ⟨_, rfl, rowsL_length _, rowsL_wf' _, hm⟩
theorem trimD_some {L t : List Pt} (h : trimD L = some t) : t = L.take (trimN L) ∧ ∀ q ∈ t, q ≠ p0 := by
  unfold trimD at h
  split at h
  · cases h
  · rename_i hn
    cases h
    exact ⟨rfl, fun q hq e => hn (e ▸ hq)⟩
theorem trowO_cases (S : StL) (p : Pt) : (∃ e, trowO S p = ([], e) ∧ e ≠ 0) ∨ ∃ t, trowO S p = (t, 0) ∧ t ≠ [] ∧ t.length ≤ 16 ∧ (∀ q ∈ t, WfP q) ∧ (∀ q ∈ t, MayP q) ∧ ∀ q ∈ t, q ≠ p0 := by
  rcases seenR_cases S p with ⟨e, h, hn⟩ | ⟨R, h, hl, hw, hm⟩
  · exact .inl ⟨e, trow_seen (by rw [h]) hn, hn⟩
  · cases ht : trimD R with
    | none => exact .inl ⟨8, trow_none h (.inl ht), by decide⟩
    | some t =>
      by_cases h0 : t = []
      · exact .inl ⟨8, trow_none h (.inr (by rw [ht, h0])), by decide⟩
      · obtain ⟨e, hne⟩ := trimD_some ht
        have hsub : ∀ q ∈ t, q ∈ R := fun q hq => by rw [e] at hq; exact List.mem_of_mem_take hq
        exact .inr ⟨t, trow_ok h ht h0, h0, by rw [e, List.length_take]; omega, fun q hq => hw q (hsub q hq), fun q hq => hm q (hsub q hq), hne⟩
/-- Load, by rows. -/
theorem loadedO_rows {S : StL} {p : Pt} {t : List Pt} {e : Nat} (hp : p ≠ p0) (h : trowO S p = (t, e)) : loadedO S p = if e ≠ 0 then ([], [], e) else if (loadTo S t t.length).2 ≠ 0 then ([], [], (loadTo S t t.length).2) else if MayDL (loadTo S t t.length).1 then ((loadTo S t t.length).1, blksD t ++ [p.1.toNat], 0) else ([], [], 8) := by
  unfold loadedO
  rw [if_neg hp]
  rcases seenR_cases S p with ⟨e', h', hn⟩ | ⟨R, h', _⟩
  · have := trow_seen (S := S) (p := p) (e := e') (by rw [h']) hn
    rw [h] at this
    injection this with h1 h2
    subst h1
    subst h2
    rw [h', if_pos hn, if_pos hn]
  · rw [h', if_neg (fun h => h rfl)]
    simp only
    cases ht : trimD R with
    | none =>
      have := trow_none h' (.inl ht)
      rw [h] at this
      injection this with h1 h2
      subst h2
      simp only
      rw [if_pos (by decide)]
    | some t' =>
      simp only
      by_cases h0 : t' = []
      · have := trow_none h' (.inr (by rw [ht, h0]))
        rw [h] at this
        injection this with h1 h2
        subst h2
        rw [if_pos h0, if_pos (by decide)]
      · have := trow_ok h' ht h0
        rw [h] at this
        injection this with h1 h2
        subst h1
        subst h2
        rw [if_neg h0, if_neg (fun h : (0 : Nat) ≠ 0 => h rfl)]
theorem loadTo_stop {S : StL} {rows : List Pt} {i j : Nat} (h : (loadTo S rows i).2 ≠ 0) (hij : i ≤ j) : loadTo S rows j = loadTo S rows i := by
  obtain ⟨d, rfl⟩ : ∃ d, j = i + d := ⟨j - i, by omega⟩
  induction d with
  | zero => rfl
  | succ d ih =>
    have := ih (by omega)
    rw [← Nat.add_assoc, loadTo, this, if_pos h]
/-- One row more. -/
theorem loadTo_step {S : StL} {rows l t : List Pt} {i e : Nat} (hi : loadTo S rows i = (l, 0)) (h : trowO S (rows.getD i p0) = (t, e)) : loadTo S rows (i + 1) = if e ≠ 0 then ([], e) else if i + 1 < rows.length ∧ t.length < 16 then ([], 8) else (l ++ t, 0) := by
  rw [loadTo, hi, if_neg (fun h => h rfl)]
  rcases seenR_cases S (rows.getD i p0) with ⟨e', h', hn⟩ | ⟨R, h', _⟩
  · have := trow_seen (S := S) (e := e') (by rw [h']) hn
    rw [h] at this
    injection this with h1 h2
    subst h2
    rw [h', if_pos hn, if_pos hn]
  · rw [h', if_neg (fun h => h rfl)]
    simp only
    cases ht : trimD R with
    | none =>
      have := trow_none h' (.inl ht)
      rw [h] at this
      injection this with h1 h2
      subst h2
      simp only
      rw [if_pos (by decide)]
    | some t' =>
      simp only
      by_cases h0 : t' = []
      · have := trow_none h' (.inr (by rw [ht, h0]))
        rw [h] at this
        injection this with h1 h2
        subst h2
        rw [if_pos (.inl h0), if_pos (by decide)]
      · have := trow_ok h' ht h0
        rw [h] at this
        injection this with h1 h2
        subst h1
        subst h2
        rw [if_neg (fun h : (0 : Nat) ≠ 0 => h rfl)]
        by_cases hc : i + 1 < rows.length ∧ t.length < 16
        · rw [if_pos (.inr hc), if_pos hc]
        · rw [if_neg (fun h => h.elim h0 hc), if_neg hc]
theorem blksD_length (l : List Pt) : (blksD l).length = l.length := List.length_map _
theorem blksD_take {l : List Pt} {i : Nat} (h : i < l.length) : blksD (l.take (i + 1)) = blksD (l.take i) ++ [(l.getD i p0).1.toNat] := by
  unfold blksD
  rw [List.take_succ_eq_append_getElem h, List.map_append, ddGetD h]
  rfl
theorem at_nat {q : Pt} (h : MayP q) (h0 : q ≠ p0) : ((q.1.toNat : Nat) : Int) = q.1 := by
  obtain ⟨k, hk, _⟩ := mayP_at h h0
  omega
/-- Rows of two types share no block. -/
theorem ty_dis {w : World} {B n : Nat} {v u : Value} {l : List Pt} {xs : List Value} (hv : PRow w B v l) (hu : w.ownsRow B 3 1 u n xs) : Dis v u := fun k h1 h2 => by
  obtain ⟨_, ⟨rfl, _⟩ | ⟨g, cap, cur, rfl, _, hb, _⟩⟩ := hv.1
  · simp [Value.ownBlock] at h1
  · obtain ⟨_, ⟨rfl, _⟩ | ⟨g', cap', cur', rfl, _, hb', _⟩⟩ := hu
    · simp [Value.ownBlock] at h2
    · have e1 : g = k := by simpa [Value.ownBlock] using h1
      have e2 : g' = k := by simpa [Value.ownBlock] using h2
      subst e1
      subst e2
      rw [hb] at hb'
      injection hb' with hb'
      injection hb' with _ hb'
      exact absurd hb' (by decide)
theorem own_keep {w w' : World} {B n : Nat} {t : TypeId} {sz : Nat} {v u : Value} {xs : List Value} (hu : w.ownsRow B t sz u n xs) (hd : Dis v u) (hg : w.grownBy w' v.ownBlock) : w'.ownsRow B t sz u n xs := by
  refine hu.kept hg ?_
  cases hv : u.ownBlock with
  | none => exact .inl rfl
  | some k => exact .inr fun e => hd k e.symm hv
/-- What loaded answers. -/
def OutLd (o : List Pt × List Nat × Nat) (w : World) (e : Ending) (w' : World) : Prop := Below w.heap.size w w' ∧ ((o.2.2 = 0 ∧ ∃ v u, e = .returned (.tuple #[v, u]) ∧ PRow w' w.heap.size v o.1 ∧ w'.ownsRow w.heap.size 3 1 u o.2.1.length (valsN o.2.1)) ∨ (o.2.2 ≠ 0 ∧ e = refuse o.2.2))
theorem nrow_slice {w : World} {B n : Nat} {v : Value} {s : List Nat} (h : w.ownsRow B 3 1 v n (valsN s)) : ∃ a c, v = .slice a n c := by
  obtain ⟨_, ⟨rfl, h0⟩ | ⟨g, cap, cur, rfl, _⟩⟩ := h
  · exact ⟨none, 0, by rw [h0]⟩
  · exact ⟨_, _, rfl⟩
end Go.Proofs.YtjdjbonljohnbaaGreatDoor
/-
  Store's own: laid; a block is laid, if there is room, and nothing that was there is written.
-/
namespace Go.Proofs.YtjdjbonljohnbaaGreatDoor
open Go.RowKit Go.Shelf
set_option maxRecDepth 100000

/-- What comes behind a block's bytes: nothing, or two numbers. -/
def BySl (w : World) (sl : Value) (iv tag : Nat) : Prop := (sl = .slice none 0 0 ∧ iv = 0 ∧ tag = 0) ∨ ∃ g, sl = .slice (some ⟨g, 0, none⟩) 2 2 ∧ Blk w g 27 #[.int .u32 (iv : Int), .int .u32 (tag : Int)]
theorem BySl.below {w w' : World} {sl : Value} {iv tag : Nat} (h : BySl w sl iv tag) (b : Below w.heap.size w w') : BySl w' sl iv tag := h.imp id fun ⟨g, e, hb⟩ => ⟨g, e, hb.below b hb.lt⟩
theorem BySl.slice {w : World} {sl : Value} {iv tag : Nat} (h : BySl w sl iv tag) : ∃ a n c, sl = .slice a n c := by
  rcases h with ⟨rfl, _⟩ | ⟨g, rfl, _⟩ <;> exact ⟨_, _, _, rfl⟩
theorem atCopy2 {P : Program} {ops : Array Oper} {Q : Exit → Act → World → Prop} {a : Act} {w : World} {rest : List Oper} {d : Option Tmp} {ty : TypeId} {x : Array Operand} {y : Array TypeId} {pos : String} {af : Array Edge} (h : wpList P ops Q (⟨d, .call { callee := .builtin .copy, args := x, argTypes := y }, ty, pos, af, none⟩ :: rest) a w) : wpList P ops Q (⟨d, .call { callee := .builtin .copy, args := x, argTypes := y }, ty, pos, af, none⟩ :: rest) a w := h
theorem infoU32' : (Tryz.prog.info? 27).map (·.size) = some 1 := by kernel_rfl
theorem wpList_copy_two {w : World} {ops : Array Oper} {rest : List Oper} {o : Oper} {a : Act} {Q : Exit → Act → World → Prop} (hgd : o.guard = none) (d s : Operand) (ho : o.op = .call { callee := .builtin .copy, args := #[d, s], argTypes := #[93, 93] }) (g5 : Nat) (sl : Value) (iv tag : Nat)
    (hd : a.eval d = .slice (some ⟨g5, 0, none⟩) 2 2) (hs : a.eval s = sl) (hsl : BySl w sl iv tag) (hx : Blk w g5 98 #[.int .u32 0, .int .u32 0])
    (h : ∀ (m : Nat) w', Blk w' g5 98 #[.int .u32 (iv : Int), .int .u32 (tag : Int)] → Below g5 w w' → wpList Tryz.prog ops Q rest (a.put o.dst (.int .i64 m)) w') : wpList Tryz.prog ops Q (o :: rest) a w := by
  rcases hsl with ⟨rfl, rfl, rfl⟩ | ⟨g, rfl, hg⟩
  · refine wpList_copy_splice hgd d s 93 93 ho 27 Tryz.underlying93 infoU32' (some ⟨g5, 0, none⟩) none 2 2 0 0 hd hs g5 0 [.int .u32 0, .int .u32 0] 98 hx [] rfl
      (fun h => absurd h (by simp)) (by simp) (fun u hu => by cases hu) g5 w (Below.refl _ _) (Nat.le_refl _) ?_
    intro w2 hx2 hb2
    exact h 0 w2 hx2.out hb2
  · refine wpList_copy_splice hgd d s 93 93 ho 27 Tryz.underlying93 infoU32' (some ⟨g5, 0, none⟩) (some ⟨g, 0, none⟩) 2 2 2 2 hd hs g5 0 [.int .u32 0, .int .u32 0] 98 hx [.int .u32 (iv : Int), .int .u32 (tag : Int)] rfl
      (fun _ => ⟨rfl, _, rfl, fun j u hu => ?_⟩) (by simp) (fun u hu => ?_) g5 w (Below.refl _ _) (Nat.le_refl _) ?_
    · have hc := hg.cell j
      have e : (⟨g, 0, none⟩ : Addr).add j = ⟨g, j, none⟩ := by unfold Addr.add; split <;> simp_all
      rw [e, hc]
      simpa using hu
    · simp only [List.mem_cons, List.not_mem_nil, or_false] at hu
      rcases hu with rfl | rfl <;> rfl
    · intro w2 hx2 hb2
      exact h 2 w2 hx2.out hb2
theorem hiS_zero (w : World) (B : Nat) : HiS w B at0 st0 := ⟨.inl rfl, .inl rfl, .inl rfl⟩
theorem newSP_zero (z : Nat) {w w' : World} (hb : Below w.heap.size w w') : NewSP (st0, p0, z) w (.returned (.tuple #[.agg #[.slice none 0 0, .slice none 0 0, .slice none 0 0, .int .u32 0, .int .u32 0], .agg #[.int .i64 0, .int .u32 0, .int .u32 0, .int .u32 0, .int .u32 0], .int .i64 z])) w' :=
  ⟨at0, rfl, st0_lasts 0 w', hiS_zero w' _, hb⟩
theorem far5_bl {w : World} {g g' : Nat} {t : TypeId} {cs : Array Value} (h : Blk w g' t cs) (hne : g' ≠ g) (v0 v1 v2 v3 v4 : Value) : Blk (set5 w g v0 v1 v2 v3 v4) g' t cs :=
  ((((h.far (p := ⟨g, 0, none⟩) hne v0).far (p := ⟨g, 1, none⟩) hne v1).far (p := ⟨g, 2, none⟩) hne v2).far (p := ⟨g, 3, none⟩) hne v3).far (p := ⟨g, 4, none⟩) hne v4
theorem newS_of {w w1 w2 : World} {y : DAt} {D : DkL} {sa : Option Addr} {sc n : Nat} {t : List UInt8} {B B' B'' : Nat} (hd : OutD w1 B y D) (ho : w2.ownsRow B' 5 1 (.slice sa n sc) n (vals t)) (hn : t.length = n) (k : Keeps 0 w1 w) (k2 : Keeps 0 w2 w) (hB : B'' ≤ B) (hB' : B'' ≤ B') (e c : Nat) :
    StP 0 w ⟨y, sa, sc⟩ (D, t, e, c) ∧ HiS w B'' ⟨y, sa, sc⟩ (D, t, e, c) := by
  subst hn
  have hd' := (outD_keeps hd k).lower hB
  have ho' := own_keeps ho (by decide) k2
  have hh := outD_hi hd'
  exact ⟨fun W kk => ⟨(outD_keeps3 hd (k.to3.trans kk)).dsk, own_bsl (own_keeps3 ho' (by decide) kk)⟩, hh.1, hh.2, piece_own (own_mono ho' hB')⟩
set_option maxHeartbeats 4000000 in
theorem stLaid_full (L : Nat) (x : SAt) (S : StL) (birth iv tag : Nat) (a : Option Addr) (c : Nat) (b : List UInt8) (sl : Value) (w : World) (h : StP L w x S) (hb : Bsl w w.heap.size a b.length c b) (hsl : BySl w sl iv tag) (hm : MayS S) (hbl : b.length = 256) (h0' : ∀ i, i < 256 → mkT S.2.1 i ≠ 0) : Calls Tryz.prog 39 #[stV x S, .int .u32 birth, .slice a b.length c, sl] w (NewSP (putR (putS S birth iv tag b)) w) := by
  rw [putS_none h0']
  obtain ⟨w0, hw0, b0, z0, x0, y0, q0⟩ := three_al w (stC x S) stZ ptZ 29 29 32
  obtain ⟨g, hg⟩ : ∃ g, w.heap.size = g := ⟨_, rfl⟩
  obtain ⟨g1, hg1⟩ : ∃ g1, g + 1 = g1 := ⟨_, rfl⟩
  obtain ⟨g2, hg2⟩ : ∃ g2, g1 + 1 = g2 := ⟨_, rfl⟩
  have h0 := h.bel b0
  have hb0 := hb.step b0
  have hs0 := hsl.below b0
  rw [hg] at x0 y0 q0 z0 b0
  rw [hg1] at y0
  rw [show g + 2 = g1 + 1 by omega, hg2] at q0
  obtain ⟨sla, sln, slc, rfl⟩ := hsl.slice
  have HI := Lib.hid (show g ≤ g1 ∧ g ≤ g2 ∧ g1 ≠ g ∧ g2 ≠ g ∧ g2 ≠ g1 ∧ g1 ≠ g2 ∧ w0.heap.size = g + 3 by omega)
  have hle : S.2.1.length = 256 := hm.2.1.1
  have hwl : S.1.2.length ≤ 4096 := hm.1.2.1
  have c0 := stC0 x0
  have c1 := stC1 x0
  have c2 := stC2 x0
  have hsp := h0.now.2
  rw [hle] at c2 hsp
  have HX := Lib.hid x0
  have HY := Lib.hid y0
  have HQ := Lib.hid q0
  have HB := Lib.hid b0
  have HS := Lib.hid h0
  have HA := Lib.hid hb0
  have HY2 := Lib.hid hs0
  have HG := Lib.hid hg
  have HLE := Lib.hid hle
  have HMS := Lib.hid hm
  have HBL := Lib.hid hbl
  have HZ := Lib.hid (show g ≤ w0.heap.size by omega)
  simp only [stC, stZ, ptZ] at hw0
  clear h hb hsl h0 hb0 hs0 x0 y0 q0 b0 z0
  have HT := Lib.hid (spTake_full x.a 256 x.c S.2.1 w0 hsp HMS.out.2.1 h0')
  clear h0' hsp hle hwl hm hbl
  go_enter Tryz.func39, Tryz.ntmps39
  go_wp2_with fail
  clear hw0 c0 c1 c2
  refine HT.out.mono ?_
  rintro e w1 ⟨v, rfl, ho, b1⟩
  replace HX := Lib.hid (HX.out.below b1 HX.out.lt)
  replace HY := Lib.hid (HY.out.below b1 HY.out.lt)
  replace HQ := Lib.hid (HQ.out.below b1 HQ.out.lt)
  replace HB := Lib.hid (HB.out.trans (b1.mono HZ.out))
  clear ho b1 HT
  have m0 := stZ0 HY.out
  have m1 := stZ1 HY.out
  have m2 := stZ2 HY.out
  have m3 := stZ3 HY.out
  have m4 := stZ4 HY.out
  have n0 := ptZ0 HQ.out
  have n1 := ptZ1 HQ.out
  have n2 := ptZ2 HQ.out
  have n3 := ptZ3 HQ.out
  have n4 := ptZ4 HQ.out
  go_wp2_with fail
  refine bodyPost_ret (v := .tuple #[.agg #[.slice none 0 0, .slice none 0 0, .slice none 0 0, .int .u32 0, .int .u32 0], .agg #[.int .i64 0, .int .u32 0, .int .u32 0, .int .u32 0, .int .u32 0], .int .i64 9]) (by simp [results, Tryz.f39, go_sem, m0, m1, m2, m3, m4, n0, n1, n2, n3, n4]) rfl ?_
  exact newSP_zero 9 (by rw [HG.out]; exact HB.out)
set_option maxHeartbeats 4000000 in
theorem stLaid_great (L : Nat) (x : SAt) (S : StL) (birth iv tag : Nat) (a : Option Addr) (c : Nat) (b : List UInt8) (sl : Value) (w : World) (h : StP L w x S) (hb : Bsl w w.heap.size a b.length c b) (hsl : BySl w sl iv tag) (hm : MayS S) (hbl : b.length = 256) (k : Nat) (hk : k < 256) (hz : mkT S.2.1 k = 0) (h0' : ∀ i, i < k → mkT S.2.1 i ≠ 0) (hgr : 4096 ≤ S.1.2.length) : Calls Tryz.prog 39 #[stV x S, .int .u32 birth, .slice a b.length c, sl] w (NewSP (putR (putS S birth iv tag b)) w) := by
  rw [putS_great hgr]
  obtain ⟨w0, hw0, b0, z0, x0, y0, q0⟩ := three_al w (stC x S) stZ ptZ 29 29 32
  obtain ⟨g, hg⟩ : ∃ g, w.heap.size = g := ⟨_, rfl⟩
  obtain ⟨g1, hg1⟩ : ∃ g1, g + 1 = g1 := ⟨_, rfl⟩
  obtain ⟨g2, hg2⟩ : ∃ g2, g1 + 1 = g2 := ⟨_, rfl⟩
  have h0 := h.bel b0
  have hb0 := hb.step b0
  have hs0 := hsl.below b0
  rw [hg] at x0 y0 q0 z0 b0
  rw [hg1] at y0
  rw [show g + 2 = g1 + 1 by omega, hg2] at q0
  obtain ⟨sla, sln, slc, rfl⟩ := hsl.slice
  have HI := Lib.hid (show g ≤ g1 ∧ g ≤ g2 ∧ g1 ≠ g ∧ g2 ≠ g ∧ g2 ≠ g1 ∧ g1 ≠ g2 ∧ w0.heap.size = g + 3 by omega)
  have hle : S.2.1.length = 256 := hm.2.1.1
  have hwl : S.1.2.length ≤ 4096 := hm.1.2.1
  have c0 := stC0 x0
  have c1 := stC1 x0
  have c2 := stC2 x0
  have hsp := h0.now.2
  rw [hle] at c2 hsp
  have HX := Lib.hid x0
  have HY := Lib.hid y0
  have HQ := Lib.hid q0
  have HB := Lib.hid b0
  have HS := Lib.hid h0
  have HA := Lib.hid hb0
  have HY2 := Lib.hid hs0
  have HG := Lib.hid hg
  have HLE := Lib.hid hle
  have HMS := Lib.hid hm
  have HBL := Lib.hid hbl
  have HZ := Lib.hid (show g ≤ w0.heap.size by omega)
  simp only [stC, stZ, ptZ] at hw0
  clear h hb hsl h0 hb0 hs0 x0 y0 q0 b0 z0
  have HT := Lib.hid (spTake_ok x.a 256 x.c S.2.1 k w0 hsp HMS.out.2.1 hk hz h0')
  have hwo : writeO S.1 (k : Int) b = (([], []), 9) := by
    unfold writeO
    rw [if_pos hm.1, if_pos (by omega), if_pos hbl, if_pos (by omega)]
  have HWO := Lib.hid hwo
  clear h0' hsp hle hwl hm hbl hk hz hgr hwo
  go_enter Tryz.func39, Tryz.ntmps39
  go_wp2_with fail
  clear hw0 c0 c1 c2
  refine HT.out.mono ?_
  rintro e w1 ⟨v, rfl, ho, b1⟩
  rw [show (S.2.1.set k 1).length = 256 by rw [List.length_set]; exact HLE.out] at ho
  obtain ⟨sa, sc, rfl⟩ := own_slice ho
  replace HX := Lib.hid (HX.out.below b1 HX.out.lt)
  replace HY := Lib.hid (HY.out.below b1 HY.out.lt)
  replace HQ := Lib.hid (HQ.out.below b1 HQ.out.lt)
  replace HS := Lib.hid (HS.out.bel b1)
  replace HA := Lib.hid (HA.out.step b1)
  replace HY2 := Lib.hid (HY2.out.below b1)
  replace HB := Lib.hid (HB.out.trans (b1.mono HZ.out))
  replace HZ := Lib.hid (Nat.le_trans HZ.out b1.size)
  have HO := Lib.hid ho
  have HZ1 := Lib.hid HZ.out
  clear b1 ho HT
  have c0 := stC0 HX.out
  have c1 := stC1 HX.out
  have hwr := dWrite_any x.d S.1 (k : Int) a b.length c b w1 HS.out.now.1 HA.out
  simp only [dval] at hwr
  rw [HWO.out] at hwr
  have HW := Lib.hid hwr
  clear hwr
  go_wp2_with fail
  clear c0 c1
  refine HW.out.mono ?_
  rintro e w2 ⟨y, rfl, hd, b2⟩
  simp only [dval]
  replace HX := Lib.hid (HX.out.below b2 HX.out.lt)
  replace HY := Lib.hid (HY.out.below b2 HY.out.lt)
  replace HQ := Lib.hid (HQ.out.below b2 HQ.out.lt)
  replace HB := Lib.hid (HB.out.trans (b2.mono HZ.out))
  replace HZ := Lib.hid (Nat.le_trans HZ.out b2.size)
  clear hd b2 HW
  have b3 := (Below.refl w2.heap.size w2).alloc (Nat.le_refl _) (.cells #[.slice y.ba 0 y.bc, .slice y.wa 0 y.wc] 25)
  replace HX := Lib.hid (HX.out.below b3 HX.out.lt)
  replace HY := Lib.hid (HY.out.below b3 HY.out.lt)
  replace HQ := Lib.hid (HQ.out.below b3 HQ.out.lt)
  replace HB := Lib.hid (HB.out.trans (b3.mono HZ.out))
  have m0 := stZ0 HY.out
  have m1 := stZ1 HY.out
  have m2 := stZ2 HY.out
  have m3 := stZ3 HY.out
  have m4 := stZ4 HY.out
  have n0 := ptZ0 HQ.out
  have n1 := ptZ1 HQ.out
  have n2 := ptZ2 HQ.out
  have n3 := ptZ3 HQ.out
  have n4 := ptZ4 HQ.out
  clear b3
  go_wp2_with fail
  refine bodyPost_ret (v := .tuple #[.agg #[.slice none 0 0, .slice none 0 0, .slice none 0 0, .int .u32 0, .int .u32 0], .agg #[.int .i64 0, .int .u32 0, .int .u32 0, .int .u32 0, .int .u32 0], .int .i64 9]) (by simp [results, Tryz.f39, go_sem, m0, m1, m2, m3, m4, n0, n1, n2, n3, n4]) rfl ?_
  exact newSP_zero 9 (by rw [HG.out]; exact HB.out)
set_option maxHeartbeats 8000000 in
theorem stLaid_ok (L : Nat) (x : SAt) (S : StL) (birth iv tag : Nat) (a : Option Addr) (c : Nat) (b : List UInt8) (sl : Value) (w : World) (h : StP L w x S) (hb : Bsl w w.heap.size a b.length c b) (hsl : BySl w sl iv tag) (hm : MayS S) (hbl : b.length = 256) (k : Nat) (hk : k < 256) (hz : mkT S.2.1 k = 0) (h0' : ∀ i, i < k → mkT S.2.1 i ≠ 0) (hgr : S.1.2.length < 4096) : Calls Tryz.prog 39 #[stV x S, .int .u32 birth, .slice a b.length c, sl] w (NewSP (putR (putS S birth iv tag b)) w) := by
  rw [putS_some hk hz h0' hgr]
  have hmx : Tryz.prog.follows Departure.mixedOrders = true := by kernel_rfl
  obtain ⟨w0, hw0, b0, z0, x0, y0, q0⟩ := three_al w (stC x S) stZ ptZ 29 29 32
  obtain ⟨g, hg⟩ : ∃ g, w.heap.size = g := ⟨_, rfl⟩
  obtain ⟨g1, hg1⟩ : ∃ g1, g + 1 = g1 := ⟨_, rfl⟩
  obtain ⟨g2, hg2⟩ : ∃ g2, g1 + 1 = g2 := ⟨_, rfl⟩
  have h0 := h.bel b0
  have hb0 := hb.step b0
  have hs0 := hsl.below b0
  rw [hg] at x0 y0 q0 z0 b0
  rw [hg1] at y0
  rw [show g + 2 = g1 + 1 by omega, hg2] at q0
  obtain ⟨sla, sln, slc, rfl⟩ := hsl.slice
  have HI := Lib.hid (show g ≤ g1 ∧ g ≤ g2 ∧ g1 ≠ g ∧ g2 ≠ g ∧ g2 ≠ g1 ∧ g1 ≠ g2 ∧ w0.heap.size = g + 3 by omega)
  have hle : S.2.1.length = 256 := hm.2.1.1
  have hwl : S.1.2.length ≤ 4096 := hm.1.2.1
  have c0 := stC0 x0
  have c1 := stC1 x0
  have c2 := stC2 x0
  have hsp := h0.now.2
  rw [hle] at c2 hsp
  have HX := Lib.hid x0
  have HY := Lib.hid y0
  have HQ := Lib.hid q0
  have HB := Lib.hid b0
  have HS := Lib.hid h0
  have HA := Lib.hid hb0
  have HY2 := Lib.hid hs0
  have HG := Lib.hid hg
  have HLE := Lib.hid hle
  have HMS := Lib.hid hm
  have HBL := Lib.hid hbl
  have HZ := Lib.hid (show g ≤ w0.heap.size by omega)
  simp only [stC, stZ, ptZ] at hw0
  clear h hb hsl h0 hb0 hs0 x0 y0 q0 b0 z0
  have HT := Lib.hid (spTake_ok x.a 256 x.c S.2.1 k w0 hsp HMS.out.2.1 hk hz h0')
  have hwo : writeO S.1 (k : Int) b = (withD S.1 (k : Int) b, 0) := by
    unfold writeO
    rw [if_pos hm.1, if_pos (by omega), if_pos hbl, if_neg (by omega)]
  have HWO := Lib.hid hwo
  have HKK := Lib.hid hk
  clear h0' hsp hle hwl hm hbl hk hz hgr hwo
  go_enter Tryz.func39, Tryz.ntmps39
  go_wp2_with fail
  clear hw0 c0 c1 c2
  refine HT.out.mono ?_
  rintro e w1 ⟨v, rfl, ho, b1⟩
  rw [show (S.2.1.set k 1).length = 256 by rw [List.length_set]; exact HLE.out] at ho
  obtain ⟨sa, sc, rfl⟩ := own_slice ho
  replace HX := Lib.hid (HX.out.below b1 HX.out.lt)
  replace HY := Lib.hid (HY.out.below b1 HY.out.lt)
  replace HQ := Lib.hid (HQ.out.below b1 HQ.out.lt)
  replace HS := Lib.hid (HS.out.bel b1)
  replace HA := Lib.hid (HA.out.step b1)
  replace HY2 := Lib.hid (HY2.out.below b1)
  replace HB := Lib.hid (HB.out.trans (b1.mono HZ.out))
  replace HZ := Lib.hid (Nat.le_trans HZ.out b1.size)
  have HO := Lib.hid ho
  have HZ1 := Lib.hid HZ.out
  clear b1 ho HT
  have c0 := stC0 HX.out
  have c1 := stC1 HX.out
  have hwr := dWrite_any x.d S.1 (k : Int) a b.length c b w1 HS.out.now.1 HA.out
  simp only [dval] at hwr
  rw [HWO.out] at hwr
  have HW := Lib.hid hwr
  clear hwr
  go_wp2_with fail
  clear c0 c1
  refine HW.out.mono ?_
  rintro e w2 ⟨y, rfl, hd, b2⟩
  simp only [dval]
  replace HX := Lib.hid (HX.out.below b2 HX.out.lt)
  replace HY := Lib.hid (HY.out.below b2 HY.out.lt)
  replace HQ := Lib.hid (HQ.out.below b2 HQ.out.lt)
  replace HA := Lib.hid (HA.out.step b2)
  replace HY2 := Lib.hid (HY2.out.below b2)
  replace HO := Lib.hid (own_below HO.out b2)
  replace HB := Lib.hid (HB.out.trans (b2.mono HZ.out))
  replace HZ := Lib.hid (Nat.le_trans HZ.out b2.size)
  have HD := Lib.hid hd
  obtain ⟨g3, hg3⟩ : ∃ g3, w2.heap.size = g3 := ⟨_, rfl⟩
  obtain ⟨g4, hg4⟩ : ∃ g4, g3 + 1 = g4 := ⟨_, rfl⟩
  obtain ⟨w3, hw3, b3, z3, k3, v3⟩ := two_al w2 #[.slice y.ba (withD S.1 (k : Int) b).1.length y.bc, .slice y.wa (withD S.1 (k : Int) b).2.length y.wc] #[.int .u32 0, .int .u32 0] 25 98
  rw [hg3] at k3 v3
  rw [hg4] at v3
  have HC0 := Lib.hid (show Blk ((w2.alloc (.cells #[.slice y.ba (withD S.1 (k : Int) b).1.length y.bc, .slice y.wa (withD S.1 (k : Int) b).2.length y.wc] 25)).alloc (.cells #[.int .u32 0, .int .u32 0] 98)) g4 98 #[.int .u32 0, .int .u32 0] by rw [hw3]; exact v3)
  have HSL := Lib.hid (show BySl ((w2.alloc (.cells #[.slice y.ba (withD S.1 (k : Int) b).1.length y.bc, .slice y.wa (withD S.1 (k : Int) b).2.length y.wc] 25)).alloc (.cells #[.int .u32 0, .int .u32 0] 98)) (.slice sla sln slc) iv tag by rw [hw3]; exact HY2.out.below b3)
  have HK := Lib.hid k3
  have HB3 := Lib.hid b3
  have HW3 := Lib.hid hw3
  have HG3 := Lib.hid (show w2.heap.size ≤ g4 ∧ g3 < g4 ∧ g1 < g3 ∧ g2 < g3 ∧ g < g3 by have := HY.out.lt; have := HQ.out.lt; have := HX.out.lt; omega)
  clear hd b2 HW b3 hw3 z3 k3 v3
  go_wp2_with (with_reducible refine atCopy2 ?_
               refine wpList_copy_two rfl (.tmp 34) (.tmp 35) rfl g4 (.slice sla sln slc) iv tag rfl rfl HSL.out HC0.out ?_
               intro m w4 hx4 hb4
               rw [HW3.out] at hb4
               have b4 := HB3.out.trans (hb4.mono HG3.out.1)
               replace HK := Lib.hid (HK.out.below hb4 HG3.out.2.1)
               have HV := Lib.hid hx4
               clear hb4 hx4)
  replace HX := Lib.hid (HX.out.below b4 HX.out.lt)
  replace HY := Lib.hid (HY.out.below b4 HY.out.lt)
  replace HQ := Lib.hid (HQ.out.below b4 HQ.out.lt)
  replace HA := Lib.hid (HA.out.step b4)
  replace HO := Lib.hid (own_below HO.out b4)
  replace HB := Lib.hid (HB.out.trans (b4.mono HZ.out))
  replace HZ := Lib.hid (Nat.le_trans HZ.out b4.size)
  have HD4 := Lib.hid (HD.out.below b4)
  clear b4 HD HB3 HC0 HSL HY2 HW3
  obtain ⟨wd, hwd⟩ : ∃ wd, w4.drew = wd := ⟨_, rfl⟩
  have bb : Below w4.heap.size w4 wd := by rw [← hwd]; exact (Below.refl _ w4).drew
  replace HX := Lib.hid (HX.out.below bb HX.out.lt)
  replace HY := Lib.hid (HY.out.below bb HY.out.lt)
  replace HQ := Lib.hid (HQ.out.below bb HQ.out.lt)
  replace HK := Lib.hid (HK.out.below bb HK.out.lt)
  replace HA := Lib.hid (HA.out.step bb)
  replace HO := Lib.hid (own_below HO.out bb)
  replace HB := Lib.hid (HB.out.trans (bb.mono HZ.out))
  replace HZ := Lib.hid (Nat.le_trans HZ.out bb.size)
  replace HV := Lib.hid (HV.out.below bb HV.out.lt)
  have HD := Lib.hid (HD4.out.below bb)
  clear bb HD4
  have hsu := sum_any a b.length c b wd HA.out (by have := HBL.out; omega)
  rw [show (fourW b).a.toNat = sumOf b from rfl] at hsu
  obtain ⟨sb, hsb⟩ : ∃ sb, sumOf b = sb := ⟨_, rfl⟩
  rw [hsb] at hsu
  have HSU := Lib.hid hsu
  have HSB := Lib.hid hsb
  have v0 : wd.cell? ⟨g4, 0, none⟩ = some (.int .u32 (iv : Int)) := HV.out.cell 0
  have v1 : wd.cell? ⟨g4, 1, none⟩ = some (.int .u32 (tag : Int)) := HV.out.cell 1
  have hv := And.intro v0 v1
  clear hsu hsb v0 v1
  refine wpI_start (fun X => X.cell? ⟨g4, 0, none⟩ = some (.int .u32 (iv : Int)) ∧ X.cell? ⟨g4, 1, none⟩ = some (.int .u32 (tag : Int))) [0, 1, 2, 3, 4, 5, 6, 7, 8, 9] hmx rfl hwd ?_
  clear hwd
  iterate 7 (
    refine wpI_read (v := ?_) hv rfl (by kernel_rfl) (by kernel_rfl) (by kernel_rfl) (fun _ _ _ h => h) (.inl ⟨by rfl, ?_⟩) ?_
    rotate_left
    · intro X hX
      obtain ⟨j0, j1⟩ := hX
      go_simp
      with_reducible rfl
    try simp only [Act.put, List.setIfInBounds_toArray, List.set_cons_zero, List.set_cons_succ])
  refine wpI_lone rfl (by kernel_rfl) (fun K hK => ?_)
  go_simp
  refine HSU.out.mono ?_
  rintro ev w5 ⟨rfl, b5⟩
  replace HX := Lib.hid (HX.out.below b5 HX.out.lt)
  replace HY := Lib.hid (HY.out.below b5 HY.out.lt)
  replace HQ := Lib.hid (HQ.out.below b5 HQ.out.lt)
  replace HK := Lib.hid (HK.out.below b5 HK.out.lt)
  replace HA := Lib.hid (HA.out.step b5)
  replace HO := Lib.hid (own_below HO.out b5)
  replace HD := Lib.hid (HD.out.below b5)
  replace HB := Lib.hid (HB.out.trans (b5.mono HZ.out))
  replace HZ := Lib.hid (Nat.le_trans HZ.out b5.size)
  replace HV := Lib.hid (HV.out.below b5 HV.out.lt)
  have v0 : w5.cell? ⟨g4, 0, none⟩ = some (.int .u32 (iv : Int)) := HV.out.cell 0
  have v1 : w5.cell? ⟨g4, 1, none⟩ = some (.int .u32 (tag : Int)) := HV.out.cell 1
  have hv5 := And.intro v0 v1
  refine hK _ _ hv5 ?_
  clear hK K b5 HSU hv v0 v1
  try simp only [Act.put, List.setIfInBounds_toArray, List.set_cons_zero, List.set_cons_succ]
  iterate 1 (
    refine wpI_read (v := ?_) hv5 rfl (by kernel_rfl) (by kernel_rfl) (by kernel_rfl) (fun _ _ _ h => h) (.inl ⟨by rfl, ?_⟩) ?_
    rotate_left
    · intro X hX
      obtain ⟨j0, j1⟩ := hX
      go_simp
      with_reducible rfl
    try simp only [Act.put, List.setIfInBounds_toArray, List.set_cons_zero, List.set_cons_succ])
  refine wpI_lone rfl (by kernel_rfl) (fun K hK => ?_)
  go_simp
  obtain ⟨q6, k6, b6⟩ := box_five (L := g) HQ.out (by decide) HI.out.2.1 HB.out HI.out.2.1 (.int .i64 (k : Int)) (.int .u32 (birth : Int)) (.int .u32 (iv : Int)) (.int .u32 (tag : Int)) (.int .u32 (sb : Int))
  have n0 := ptZ0 HQ.out
  have n1 := ptZ1 HQ.out
  have n2 := ptZ2 HQ.out
  have n3 := ptZ3 HQ.out
  have n4 := ptZ4 HQ.out
  have hfq := fun i => HQ.out.frozen i
  have x6 := far5_bl HX.out HI.out.2.2.2.1.symm (.int .i64 (k : Int)) (.int .u32 (birth : Int)) (.int .u32 (iv : Int)) (.int .u32 (tag : Int)) (.int .u32 (sb : Int))
  have y6 := far5_bl HY.out HI.out.2.2.2.2.2.1 (.int .i64 (k : Int)) (.int .u32 (birth : Int)) (.int .u32 (iv : Int)) (.int .u32 (tag : Int)) (.int .u32 (sb : Int))
  have t6 := far5_bl HK.out (show g3 ≠ g2 by have := HG3.out.2.2.2.1; omega) (.int .i64 (k : Int)) (.int .u32 (birth : Int)) (.int .u32 (iv : Int)) (.int .u32 (tag : Int)) (.int .u32 (sb : Int))
  have v6 := far5_bl HV.out (show g4 ≠ g2 by have := HG3.out; omega) (.int .i64 (k : Int)) (.int .u32 (birth : Int)) (.int .u32 (iv : Int)) (.int .u32 (tag : Int)) (.int .u32 (sb : Int))
  obtain ⟨w6, hw6⟩ : ∃ w6, set5 w5 g2 (.int .i64 (k : Int)) (.int .u32 (birth : Int)) (.int .u32 (iv : Int)) (.int .u32 (tag : Int)) (.int .u32 (sb : Int)) = w6 := ⟨_, rfl⟩
  rw [hw6] at q6 k6 b6 x6 y6 t6 v6
  replace HX := Lib.hid x6
  replace HY := Lib.hid y6
  replace HK := Lib.hid t6
  replace HQ := Lib.hid q6
  replace HB := Lib.hid b6
  replace HO := Lib.hid (own_keeps HO.out (by decide) k6)
  replace HD := Lib.hid (outD_keeps HD.out k6)
  replace HZ := Lib.hid (Nat.le_trans HZ.out k6.size)
  have v0 : w6.cell? ⟨g4, 0, none⟩ = some (.int .u32 (iv : Int)) := v6.cell 0
  have v1 : w6.cell? ⟨g4, 1, none⟩ = some (.int .u32 (tag : Int)) := v6.cell 1
  have hv6 := And.intro v0 v1
  simp only [set5] at hw6
  clear q6 k6 b6 x6 y6 t6 v6 v0 v1 HV
  go_simp
  refine hK _ _ hv6 ?_
  clear hK K n0 n1 n2 n3 n4 hfq hv6 hw6 hv5
  try simp only [Act.put, List.setIfInBounds_toArray, List.set_cons_zero, List.set_cons_succ]
  refine wpI_done (by kernel_rfl) ?_
  have c0 := stC0 HX.out
  have c1 := stC1 HX.out
  have c2 := stC2 HX.out
  have c3 := stC3 HX.out
  have c4 := stC4 HX.out
  have t0 : w6.cell? ⟨g3, 0, none⟩ = some (.slice y.ba (withD S.1 (k : Int) b).1.length y.bc) := HK.out.cell 0
  have t1 : w6.cell? ⟨g3, 1, none⟩ = some (.slice y.wa (withD S.1 (k : Int) b).2.length y.wc) := HK.out.cell 1
  have hwi := stWith_any x S y (withD S.1 (k : Int) b) sa 256 sc w6
  simp only [dval] at hwi
  have HWI := Lib.hid hwi
  clear hwi
  go_wp2_with fail
  clear c0 c1 c2 c3 c4 t0 t1
  refine HWI.out.mono ?_
  rintro ev w7 ⟨rfl, b7⟩
  replace HY := Lib.hid (HY.out.below b7 HY.out.lt)
  replace HQ := Lib.hid (HQ.out.below b7 HQ.out.lt)
  replace HO := Lib.hid (own_below HO.out b7)
  replace HD := Lib.hid (HD.out.below b7)
  replace HB := Lib.hid (HB.out.trans (b7.mono HZ.out))
  replace HZ := Lib.hid (Nat.le_trans HZ.out b7.size)
  clear b7 HWI
  obtain ⟨y8, k8, b8⟩ := box_five (L := g) HY.out (by decide) HI.out.1 HB.out HI.out.1 (.slice y.ba (withD S.1 (k : Int) b).1.length y.bc) (.slice y.wa (withD S.1 (k : Int) b).2.length y.wc) (.slice sa 256 sc) (.int .u32 (S.2.2.1 : Int)) (.int .u32 (S.2.2.2 : Int))
  have q8 := far5_bl HQ.out HI.out.2.2.2.2.1 (.slice y.ba (withD S.1 (k : Int) b).1.length y.bc) (.slice y.wa (withD S.1 (k : Int) b).2.length y.wc) (.slice sa 256 sc) (.int .u32 (S.2.2.1 : Int)) (.int .u32 (S.2.2.2 : Int))
  have m0 := stZ0 HY.out
  have m1 := stZ1 HY.out
  have m2 := stZ2 HY.out
  have m3 := stZ3 HY.out
  have m4 := stZ4 HY.out
  have hfy := fun i => HY.out.frozen i
  obtain ⟨w8, hw8⟩ : ∃ w8, set5 w7 g1 (.slice y.ba (withD S.1 (k : Int) b).1.length y.bc) (.slice y.wa (withD S.1 (k : Int) b).2.length y.wc) (.slice sa 256 sc) (.int .u32 (S.2.2.1 : Int)) (.int .u32 (S.2.2.2 : Int)) = w8 := ⟨_, rfl⟩
  rw [hw8] at y8 k8 b8 q8
  have H8 := Lib.hid (newS_of (B'' := w.heap.size) HD.out HO.out (show (S.2.1.set k 1).length = 256 by rw [List.length_set]; exact HLE.out) (k8.more (Nat.zero_le _)) (k8.more (Nat.zero_le _)) (by rw [HG.out]; exact HZ1.out) (by rw [HG.out, HI.out.2.2.2.2.2.2]; omega) S.2.2.1 S.2.2.2)
  have HY8 := Lib.hid y8
  have HQ8 := Lib.hid q8
  have HB8 := Lib.hid b8
  simp only [set5] at hw8
  clear y8 k8 b8 q8
  go_wp2_with fail
  clear m0 m1 m2 m3 m4 hfy hw8
  have e0 := bx0 HY8.out
  have e1 := bx1 HY8.out
  have e2 := bx2 HY8.out
  have e3 := bx3 HY8.out
  have e4 := bx4 HY8.out
  have f0 := bx0 HQ8.out
  have f1 := bx1 HQ8.out
  have f2 := bx2 HQ8.out
  have f3 := bx3 HQ8.out
  have f4 := bx4 HQ8.out
  refine bodyPost_ret (v := .tuple #[.agg #[.slice y.ba (withD S.1 (k : Int) b).1.length y.bc, .slice y.wa (withD S.1 (k : Int) b).2.length y.wc, .slice sa 256 sc, .int .u32 (S.2.2.1 : Int), .int .u32 (S.2.2.2 : Int)], .agg #[.int .i64 (k : Int), .int .u32 (birth : Int), .int .u32 (iv : Int), .int .u32 (tag : Int), .int .u32 (sb : Int)], .int .i64 0]) (by simp [results, Tryz.f39, go_sem, e0, e1, e2, e3, e4, f0, f1, f2, f3, f4]) rfl ?_
  refine ⟨⟨y, sa, sc⟩, ?_, H8.out.1, H8.out.2, by rw [HG.out]; exact HB8.out⟩
  simp only [putR, stV, ptV]
  rw [show (S.2.1.set k 1).length = 256 by rw [List.length_set]; exact HLE.out, HSB.out]
  rfl
end Go.Proofs.YtjdjbonljohnbaaGreatDoor
/-
  Store's own: Lay, Raw, Seal; what they answer is new memory, and nothing that was there is written.
-/
namespace Go.Proofs.YtjdjbonljohnbaaGreatDoor
open Go.RowKit Go.Shelf
set_option maxRecDepth 100000

theorem Piece.keeps {L : Nat} {w w' : World} {B : Nat} {A : Option Addr} {l : Nat} (h : Piece w B A l) (k : Keeps L w w') : Piece w' B A l := h.imp id fun ⟨b, off, cs, e, hB, hb, hc⟩ => ⟨b, off, cs, e, hB, k.row _ _ _ hb (by decide), hc⟩
theorem Piece.lower {w : World} {B B' : Nat} {A : Option Addr} {l : Nat} (h : Piece w B A l) (hB : B' ≤ B) : Piece w B' A l := h.imp id fun ⟨b, off, cs, e, h1, hb, hc⟩ => ⟨b, off, cs, e, Nat.le_trans hB h1, hb, hc⟩
theorem Rows9.keeps {K : Nat} {w w' : World} {B : Nat} {a : Option Addr} {n : Nat} {t : TypeId} {st at_ : Nat} {L : Nat → Nat} (h : Rows9 w B a n t st at_ L) (ht : rowT t = true) (k : Keeps K w w') : Rows9 w' B a n t st at_ L :=
  h.imp id fun ⟨b, off, cs, e, hb, hc⟩ => ⟨b, off, cs, e, k.row _ _ _ hb ht, fun i hi => by
    obtain ⟨A, c, h1, h2⟩ := hc i hi
    exact ⟨A, c, h1, h2.keeps k⟩⟩
theorem Rows9.lower {w : World} {B B' : Nat} {a : Option Addr} {n : Nat} {t : TypeId} {st at_ : Nat} {L : Nat → Nat} (h : Rows9 w B a n t st at_ L) (hB : B' ≤ B) : Rows9 w B' a n t st at_ L :=
  h.imp id fun ⟨b, off, cs, e, hb, hc⟩ => ⟨b, off, cs, e, hb, fun i hi => by
    obtain ⟨A, c, h1, h2⟩ := hc i hi
    exact ⟨A, c, h1, h2.lower hB⟩⟩
theorem HiS.keeps {K B : Nat} {w w' : World} {x : SAt} {S : StL} (h : HiS w B x S) (k : Keeps K w w') : HiS w' B x S := ⟨h.1.keeps (by decide) k, h.2.1.keeps (by decide) k, h.2.2.keeps k⟩
theorem HiS.lower {B B' : Nat} {w : World} {x : SAt} {S : StL} (h : HiS w B x S) (hB : B' ≤ B) : HiS w B' x S := ⟨h.1.lower hB, h.2.1.lower hB, h.2.2.lower hB⟩
theorem stLaid_any (L : Nat) (x : SAt) (S : StL) (birth iv tag : Nat) (a : Option Addr) (c : Nat) (b : List UInt8) (sl : Value) (w : World) (h : StP L w x S) (hb : Bsl w w.heap.size a b.length c b) (hsl : BySl w sl iv tag) (hm : MayS S) (hbl : b.length = 256) :
    Calls Tryz.prog 39 #[stV x S, .int .u32 birth, .slice a b.length c, sl] w (NewSP (putR (putS S birth iv tag b)) w) := by
  rcases first_from (fun i => mkT S.2.1 i = 0) 0 256 with ⟨k, _, hk, hz, h0⟩ | h0
  · rcases Nat.lt_or_ge S.1.2.length 4096 with hw | hw
    · exact stLaid_ok L x S birth iv tag a c b sl w h hb hsl hm hbl k hk hz (fun i hi => h0 i (Nat.zero_le _) hi) hw
    · exact stLaid_great L x S birth iv tag a c b sl w h hb hsl hm hbl k hk hz (fun i hi => h0 i (Nat.zero_le _) hi) hw
  · exact stLaid_full L x S birth iv tag a c b sl w h hb hsl hm hbl (fun i hi => h0 i (Nat.zero_le _) hi)
theorem rawO_wrong {S : StL} {birth iv tag z : Nat} {b : List UInt8} (h : wrongO S birth b.length = z) (hz : z ≠ 0) : rawO S birth iv tag b = (st0, p0, z) := by
  unfold wrongO at h
  unfold rawO
  split at h
  · rw [if_pos (by assumption)]
    split at h
    · rw [if_pos (by assumption)]
      split at h
      · exact absurd h.symm hz
      · rw [if_neg (by assumption), ← h]
    · rw [if_neg (by assumption), ← h]
  · rw [if_neg (by assumption), ← h]
theorem wrongO_no {S : StL} {birth n : Nat} (h : wrongO S birth n = 0) : MayS S ∧ (1 ≤ birth ∧ birth ≤ 16777215) ∧ n = 256 := by
  unfold wrongO at h
  split at h
  · split at h
    · split at h
      · exact ⟨by assumption, by assumption, by assumption⟩
      · cases h
    · cases h
  · cases h
theorem rawO_right {S : StL} {birth iv tag : Nat} {b : List UInt8} (h : wrongO S birth b.length = 0) : rawO S birth iv tag b = putR (putS S birth iv tag b) := by
  obtain ⟨h1, h2, h3⟩ := wrongO_no h
  unfold rawO
  rw [if_pos h1, if_pos h2, if_pos h3]
set_option maxHeartbeats 4000000 in
theorem stLay_any (L : Nat) (x : SAt) (S : StL) (birth : Nat) (a : Option Addr) (c : Nat) (b : List UInt8) (w : World) (h : StP L w x S) (hb : Bsl w w.heap.size a b.length c b) (_ho : OkS S) (hL : L ≤ w.heap.size) (_hbi : birth < 4294967296) : Calls Tryz.prog 19 #[stV x S, .int .u32 birth, .slice a b.length c] w (NewSP (rawO S birth 0 0 b) w) := by
  obtain ⟨o, ho'⟩ : ∃ o, rawO S birth 0 0 b = o := ⟨_, rfl⟩
  obtain ⟨w0, hw0, b0, z0, x0, y0, q0⟩ := three_al w (stC x S) stZ ptZ 29 29 32
  obtain ⟨g, hg⟩ : ∃ g, w.heap.size = g := ⟨_, rfl⟩
  obtain ⟨g1, hg1⟩ : ∃ g1, g + 1 = g1 := ⟨_, rfl⟩
  obtain ⟨g2, hg2⟩ : ∃ g2, g1 + 1 = g2 := ⟨_, rfl⟩
  have h0 := h.bel b0
  have hb0 := hb.step b0
  have _ := hL
  rw [hg] at x0 y0 q0 z0 b0
  rw [hg1] at y0
  rw [show g + 2 = g1 + 1 by omega, hg2] at q0
  have HI := Lib.hid (show g ≤ g1 ∧ g ≤ g2 ∧ g1 ≠ g ∧ g2 ≠ g ∧ g2 ≠ g1 ∧ g1 ≠ g2 ∧ w0.heap.size = g + 3 by omega)
  have c0 := stC0 x0
  have c1 := stC1 x0
  have c2 := stC2 x0
  have c3 := stC3 x0
  have c4 := stC4 x0
  have HX := Lib.hid x0
  have HY := Lib.hid y0
  have HQ := Lib.hid q0
  have HB := Lib.hid b0
  have HS := Lib.hid h0
  have HA := Lib.hid hb0
  have HG := Lib.hid hg
  have HZ := Lib.hid (show g ≤ w0.heap.size by omega)
  have HOO := Lib.hid ho'
  rw [ho']
  obtain ⟨z, hz⟩ : ∃ z, wrongO S birth b.length = z := ⟨_, rfl⟩
  have HZZ := Lib.hid hz
  have HWR := Lib.hid (stWrong_any L x S birth a b.length c w0 h0 z hz)
  simp only [stC, stZ, ptZ] at hw0
  clear h hb h0 hb0 x0 y0 q0 b0 z0 ho' hz hL
  by_cases hz0 : z = 0
  · subst hz0
    have hoo := HOO.out
    rw [rawO_right HZZ.out] at hoo
    obtain ⟨hms, hbr, hbl⟩ := wrongO_no HZZ.out
    have HMS := Lib.hid hms
    have HBL := Lib.hid hbl
    have HO := Lib.hid hoo
    clear hoo hms hbr hbl
    have e1 : (((0 : Nat) : Int) != 0) = false := rfl
    go_enter Tryz.func19, Tryz.ntmps19
    go_wp2_with fail
    clear c0 c1 c2 c3 c4 hw0
    refine HWR.out.mono ?_
    rintro e w1 ⟨rfl, b1⟩
    replace HX := Lib.hid (HX.out.below b1 HX.out.lt)
    replace HY := Lib.hid (HY.out.below b1 HY.out.lt)
    replace HQ := Lib.hid (HQ.out.below b1 HQ.out.lt)
    replace HS := Lib.hid (HS.out.bel b1)
    replace HA := Lib.hid (HA.out.step b1)
    replace HB := Lib.hid (HB.out.trans (b1.mono HZ.out))
    replace HZ := Lib.hid (Nat.le_trans HZ.out b1.size)
    have c0 := stC0 HX.out
    have c1 := stC1 HX.out
    have c2 := stC2 HX.out
    have c3 := stC3 HX.out
    have c4 := stC4 HX.out
    have hld := stLaid_any L x S birth 0 0 a c b (.slice none 0 0) w1 HS.out HA.out (.inl ⟨rfl, rfl, rfl⟩) HMS.out HBL.out
    rw [HO.out] at hld
    have HLD := Lib.hid hld
    clear hld b1 HWR
    go_wp2_with fail
    clear c0 c1 c2 c3 c4
    obtain ⟨T, ⟨pa, pb, pi, pt, ps⟩, ze⟩ := o
    simp only [stV] at HLD
    refine HLD.out.mono ?_
    rintro ev w9 ⟨y, rfl, ht, hh, b9⟩
    replace HY := Lib.hid (HY.out.below b9 HY.out.lt)
    replace HQ := Lib.hid (HQ.out.below b9 HQ.out.lt)
    replace HB := Lib.hid (HB.out.trans (b9.mono HZ.out))
    have HT := Lib.hid ht
    have HH := Lib.hid (hh.lower (Nat.le_refl _))
    clear ht hh b9 HLD
    obtain ⟨ya, ka, ba⟩ := box_five (L := g) HY.out (by decide) HI.out.1 HB.out HI.out.1 (.slice y.d.ba T.1.1.length y.d.bc) (.slice y.d.wa T.1.2.length y.d.wc) (.slice y.a T.2.1.length y.c) (.int .u32 (T.2.2.1 : Int)) (.int .u32 (T.2.2.2 : Int))
    have qa := far5_bl HQ.out HI.out.2.2.2.2.1 (.slice y.d.ba T.1.1.length y.d.bc) (.slice y.d.wa T.1.2.length y.d.wc) (.slice y.a T.2.1.length y.c) (.int .u32 (T.2.2.1 : Int)) (.int .u32 (T.2.2.2 : Int))
    have m0 := stZ0 HY.out
    have m1 := stZ1 HY.out
    have m2 := stZ2 HY.out
    have m3 := stZ3 HY.out
    have m4 := stZ4 HY.out
    have hfy := fun i => HY.out.frozen i
    obtain ⟨wa, hwa⟩ : ∃ wa, set5 w9 g1 (.slice y.d.ba T.1.1.length y.d.bc) (.slice y.d.wa T.1.2.length y.d.wc) (.slice y.a T.2.1.length y.c) (.int .u32 (T.2.2.1 : Int)) (.int .u32 (T.2.2.2 : Int)) = wa := ⟨_, rfl⟩
    rw [hwa] at ya ka ba qa
    obtain ⟨qb, kb, bb⟩ := box_five (L := g) qa (by decide) HI.out.2.1 ba HI.out.2.1 (.int .i64 pa) (.int .u32 (pb : Int)) (.int .u32 (pi : Int)) (.int .u32 (pt : Int)) (.int .u32 (ps : Int))
    have yb := far5_bl ya HI.out.2.2.2.2.2.1 (.int .i64 pa) (.int .u32 (pb : Int)) (.int .u32 (pi : Int)) (.int .u32 (pt : Int)) (.int .u32 (ps : Int))
    have n0 := ptZ0 qa
    have n1 := ptZ1 qa
    have n2 := ptZ2 qa
    have n3 := ptZ3 qa
    have n4 := ptZ4 qa
    have hfq := fun i => qa.frozen i
    obtain ⟨wb, hwb⟩ : ∃ wb, set5 wa g2 (.int .i64 pa) (.int .u32 (pb : Int)) (.int .u32 (pi : Int)) (.int .u32 (pt : Int)) (.int .u32 (ps : Int)) = wb := ⟨_, rfl⟩
    rw [hwb] at qb kb bb yb
    have HKK := Lib.hid (ka.trans kb)
    have HBF := Lib.hid bb
    have HYF := Lib.hid yb
    have HQF := Lib.hid qb
    simp only [set5] at hwa hwb
    clear ya ka ba qa qb kb bb yb
    go_wp2_with fail
    clear m0 m1 m2 m3 m4 n0 n1 n2 n3 n4 hfy hfq hwa hwb
    have e0 := bx0 HYF.out
    have e1 := bx1 HYF.out
    have e2 := bx2 HYF.out
    have e3 := bx3 HYF.out
    have e4 := bx4 HYF.out
    have f0 := bx0 HQF.out
    have f1 := bx1 HQF.out
    have f2 := bx2 HQF.out
    have f3 := bx3 HQF.out
    have f4 := bx4 HQF.out
    refine bodyPost_ret (v := .tuple #[.agg #[.slice y.d.ba T.1.1.length y.d.bc, .slice y.d.wa T.1.2.length y.d.wc, .slice y.a T.2.1.length y.c, .int .u32 (T.2.2.1 : Int), .int .u32 (T.2.2.2 : Int)], .agg #[.int .i64 pa, .int .u32 (pb : Int), .int .u32 (pi : Int), .int .u32 (pt : Int), .int .u32 (ps : Int)], .int .i64 ze]) (by simp [results, Tryz.f19, go_sem, e0, e1, e2, e3, e4, f0, f1, f2, f3, f4]) rfl ?_
    exact ⟨y, rfl, HT.out.step (HKK.out.more (Nat.zero_le _)), (HH.out.keeps HKK.out).lower (by rw [HG.out]; exact HZ.out), by rw [HG.out]; exact HBF.out⟩
  · have hoo := HOO.out
    rw [rawO_wrong HZZ.out hz0] at hoo
    subst hoo
    have e1 : ((z : Int) != 0) = true := by simp; omega
    have e2 : ¬ ((z : Int) = 0) := by omega
    clear hz0
    go_enter Tryz.func19, Tryz.ntmps19
    go_wp2_with fail
    clear c0 c1 c2 c3 c4 hw0
    refine HWR.out.mono ?_
    rintro e w1 ⟨rfl, b1⟩
    replace HX := Lib.hid (HX.out.below b1 HX.out.lt)
    replace HY := Lib.hid (HY.out.below b1 HY.out.lt)
    replace HQ := Lib.hid (HQ.out.below b1 HQ.out.lt)
    replace HS := Lib.hid (HS.out.bel b1)
    replace HA := Lib.hid (HA.out.step b1)
    replace HB := Lib.hid (HB.out.trans (b1.mono HZ.out))
    replace HZ := Lib.hid (Nat.le_trans HZ.out b1.size)
    clear b1
    have m0 := stZ0 HY.out
    have m1 := stZ1 HY.out
    have m2 := stZ2 HY.out
    have m3 := stZ3 HY.out
    have m4 := stZ4 HY.out
    have n0 := ptZ0 HQ.out
    have n1 := ptZ1 HQ.out
    have n2 := ptZ2 HQ.out
    have n3 := ptZ3 HQ.out
    have n4 := ptZ4 HQ.out
    go_wp2_with fail
    refine bodyPost_ret (v := .tuple #[.agg #[.slice none 0 0, .slice none 0 0, .slice none 0 0, .int .u32 0, .int .u32 0], .agg #[.int .i64 0, .int .u32 0, .int .u32 0, .int .u32 0, .int .u32 0], .int .i64 z]) (by simp [results, Tryz.f19, go_sem, m0, m1, m2, m3, m4, n0, n1, n2, n3, n4]) rfl ?_
    exact newSP_zero z (by rw [HG.out]; exact HB.out)
end Go.Proofs.YtjdjbonljohnbaaGreatDoor
/-
  dead's own closure in Lay: one row more is laid, or nothing is done.
-/
namespace Go.Proofs.YtjdjbonljohnbaaGreatDoor
open Go Go.RowKit Go.Shelf
set_option maxRecDepth 100000

/-- Of the blocks below N only those of X have turned. -/
structure Fz (N : Nat) (X : Nat → Prop) (w w' : World) : Prop where
  os : w'.os = w.os
  tape : w'.tape = w.tape
  output : w'.output = w.output
  size : w.heap.size ≤ w'.heap.size
  same : ∀ k, k < N → ¬ X k → w'.heap[k]? = w.heap[k]?
section
variable {N : Nat} {X : Nat → Prop} {w w' w2 : World}
theorem Fz.trans (h : Fz N X w w') (k : Fz N X w' w2) : Fz N X w w2 :=
  ⟨k.os.trans h.os, k.tape.trans h.tape, k.output.trans h.output, Nat.le_trans h.size k.size, fun i hi hx => (k.same i hi hx).trans (h.same i hi hx)⟩
theorem Fz.of_below {B : Nat} (h : Below B w w') (hN : N ≤ B) : Fz N X w w' := ⟨h.os, h.tape, h.output, h.size, fun k hk _ => h.block k (by omega)⟩
theorem Fz.of_grown {row : Option Nat} (h : w.grownBy w' row) (hN : N ≤ w.heap.size) (hr : ∀ k, row = some k → X k ∨ N ≤ k) : Fz N X w w' :=
  ⟨h.os, h.tape, h.output, h.size, fun k hk hx => h.block k (by omega) fun e => (hr k e.symm).elim hx (by omega)⟩
theorem Fz.below {G : Nat} (h : Fz N X w w') (hG : G ≤ N) (hX : ∀ k, X k → G ≤ k) : Below G w w' :=
  ⟨h.os, h.tape, h.output, h.size, fun k hk => h.same k (by omega) fun hx => by have := hX k hx; omega⟩
theorem Fz.blk {g : Nat} {t : TypeId} {cs : Array Value} (h : Fz N X w w') (hb : Blk w g t cs) (hg : g < N) (hx : ¬ X g) : Blk w' g t cs := (h.same g hg hx).trans hb
theorem Fz.own {B n sz : Nat} {e : TypeId} {v : Value} {xs : List Value} (h : Fz N X w w') (hv : w.ownsRow B e sz v n xs) (hN : w.heap.size ≤ N) (hx : ∀ k, v.ownBlock = some k → ¬ X k) : w'.ownsRow B e sz v n xs := by
  obtain ⟨h1, h2 | ⟨g, cap, cur, rfl, h3, h4, h5⟩⟩ := hv
  · exact ⟨h1, .inl h2⟩
  · exact ⟨h1, .inr ⟨g, cap, cur, rfl, h3, (h.same g (Nat.lt_of_lt_of_le (Array.getElem?_eq_some_iff.1 h4).1 hN) (hx g (by simp [Value.ownBlock]))).trans h4, h5⟩⟩
end
theorem blk_ne {w : World} {a b : Nat} {s t : TypeId} {ca cb : Array Value} (ha : Blk w a s ca) (hb : Blk w b t cb) (h : s ≠ t) : a ≠ b := fun e => by
  subst e
  unfold Blk at ha hb
  rw [ha] at hb
  injection hb with hb
  injection hb with _ hb
  exact h hb
theorem own_ty {w : World} {B n sz g : Nat} {e t : TypeId} {v : Value} {xs : List Value} {cs : Array Value} (hv : w.ownsRow B e sz v n xs) (hb : Blk w g t cs) (h : e ≠ t) : ∀ k, v.ownBlock = some k → k ≠ g := fun k hk => by
  obtain ⟨_, ⟨rfl, _⟩ | ⟨g', cap, cur, rfl, _, h4, _⟩⟩ := hv
  · simp [Value.ownBlock] at hk
  · have : g' = k := by simpa [Value.ownBlock] using hk
    subst this
    exact blk_ne h4 hb h
/-- Rows that a store's bytes lie in. -/
def rowB (t : TypeId) : Bool := t == 5 || t == 26 || t == 71
/-- Each of them stays. -/
structure Kp (w w' : World) : Prop where
  size : w.heap.size ≤ w'.heap.size
  row : ∀ b t cs, Blk w b t cs → rowB t = true → Blk w' b t cs
theorem Kp.of_keeps3 {L : Nat} {w w' : World} (k : Keeps3 L w w') : Kp w w' := ⟨k.size, fun b t cs h ht => k.row b t cs h ht⟩
theorem Kp.trans {a b c : World} (h : Kp a b) (k : Kp b c) : Kp a c := ⟨Nat.le_trans h.size k.size, fun i t cs hb ht => k.row i t cs (h.row i t cs hb ht) ht⟩
theorem Kp.of_box {w w' : World} {g : Nat} {t : TypeId} {cs : Array Value} (hg : w.grownBy w' (some g)) (hb : Blk w g t cs) (ht : rowB t = false) : Kp w w' :=
  ⟨hg.size, fun b t' cs' hb' ht' => hb'.grown hg (fun e => by
    obtain rfl : b = g := Option.some.inj e
    have he : some (Obj.cells cs t (0, 0)) = some (Obj.cells cs' t' (0, 0)) := (show w.heap[b]? = _ from hb).symm.trans (show w.heap[b]? = _ from hb')
    cases he
    rw [ht] at ht'
    cases ht')⟩
theorem Kp.of_own {w w' : World} {B n sz : Nat} {e : TypeId} {u : Value} {xs : List Value} (hu : w.ownsRow B e sz u n xs) (hg : w.grownBy w' u.ownBlock) (he : rowB e = false) : Kp w w' := by
  obtain ⟨_, ⟨rfl, _⟩ | ⟨g, cap, cur, rfl, h3, h4, _⟩⟩ := hu
  · exact ⟨hg.size, fun b t cs hb _ => hb.grown hg (by simp [Value.ownBlock])⟩
  · exact Kp.of_box hg h4 he
theorem Piece.kp {w w' : World} {B : Nat} {A : Option Addr} {l : Nat} (h : Piece w B A l) (k : Kp w w') : Piece w' B A l := h.imp id fun ⟨b, off, cs, e, hB, hb, hc⟩ => ⟨b, off, cs, e, hB, k.row _ _ _ hb (by decide), hc⟩
theorem Rows9.kp {w w' : World} {B : Nat} {a : Option Addr} {n : Nat} {t : TypeId} {st at_ : Nat} {L : Nat → Nat} (h : Rows9 w B a n t st at_ L) (ht : rowB t = true) (k : Kp w w') : Rows9 w' B a n t st at_ L :=
  h.imp id fun ⟨b, off, cs, e, hb, hc⟩ => ⟨b, off, cs, e, k.row _ _ _ hb ht, fun i hi => by
    obtain ⟨A, c, h1, h2⟩ := hc i hi
    exact ⟨A, c, h1, h2.kp k⟩⟩
theorem Bsl.kp {w w' : World} {B B' : Nat} {A : Option Addr} {n c : Nat} {s : List UInt8} (h : Bsl w B A n c s) (hp : Piece w B' A n) (k : Kp w w') : Bsl w' w'.heap.size A n c s := by
  obtain ⟨h1, h2, h3, h4, h5⟩ := h
  refine ⟨h1, h2, h3, h4, fun hl => ?_⟩
  obtain ⟨b, off, e, _, hc⟩ := h5 hl
  rcases hp with hp | ⟨b', off', cs, e', _, hb, _⟩
  · omega
  · rw [e] at e'
    cases e'
    have hk := k.row _ _ _ hb (by decide)
    refine ⟨b, off, e, hk.lt, fun i hi => ?_⟩
    rw [hk.cell, ← hb.cell]
    exact hc i hi
theorem str_kp {w w' : World} {B : Nat} {x : SAt} {S : StL} (h : Str w w.heap.size x S) (hi : HiS w B x S) (k : Kp w w') : Str w' w'.heap.size x S ∧ HiS w' B x S := by
  obtain ⟨⟨⟨a1, a2, a3, a4⟩, ⟨b1, b2, b3, b4⟩⟩, hb⟩ := h
  obtain ⟨i1, i2, i3⟩ := hi
  refine ⟨⟨⟨⟨a1, a2, a3, fun hl => ?_⟩, ⟨b1, b2, b3, fun hl => ?_⟩⟩, hb.kp i3 k⟩, i1.kp (by decide) k, i2.kp (by decide) k, i3.kp k⟩
  · obtain ⟨b, off, e, _, hc⟩ := a4 hl
    rcases i1 with i1 | ⟨b', off', cs, e', hbk, hcs⟩
    · omega
    · rw [e] at e'
      cases e'
      have hk := k.row _ _ _ hbk (by decide)
      refine ⟨b, off, e, hk.lt, fun i hi => ?_⟩
      obtain ⟨A, c, h1, h2⟩ := hc i hi
      obtain ⟨A', c', h3, h4⟩ := hcs i hi
      rw [Nat.mul_one, Nat.add_zero, ← hbk.cell, h1] at h3
      cases h3
      exact ⟨A, c, by rw [hk.cell, ← hbk.cell]; exact h1, h2.kp h4 k⟩
  · obtain ⟨b, off, e, _, hc⟩ := b4 hl
    rcases i2 with i2 | ⟨b', off', cs, e', hbk, hcs⟩
    · omega
    · rw [e] at e'
      cases e'
      have hk := k.row _ _ _ hbk (by decide)
      refine ⟨b, off, e, hk.lt, fun i hi => ?_⟩
      obtain ⟨h0, h5, A, c, h1, h2⟩ := hc i hi
      obtain ⟨A', c', h3, h4⟩ := hcs i hi
      rw [← hbk.cell, h1] at h3
      cases h3
      exact ⟨h0, by rw [hk.cell, ← hbk.cell]; exact h5, A, c, by rw [hk.cell, ← hbk.cell]; exact h1, h2.kp h4 k⟩
theorem stP_hi {w : World} {B : Nat} {x : SAt} {S : StL} (h : Str w w.heap.size x S) (hi : HiS w B x S) : StP 0 w x S := fun _ k => (str_kp h hi (Kp.of_keeps3 k)).1
theorem row_ok {R : List Pt} (h16 : R.length ≤ 16) (hR : ∀ q ∈ R, MayP q) : rowO R = (rowTo R R.length, 0) := by
  unfold rowO
  rw [if_neg (by omega), if_pos hR]
theorem ddLay1_no (a : Option Addr) (n c : Nat) (ge go gb gw : Nat) (z : Int) (hz : z ≠ 0) (W : World) (he : Blk W ge 36 #[.int .i64 z]) : Calls Tryz.prog 17 #[.slice a n c, .pointer (some ⟨ge, 0, none⟩), .pointer (some ⟨go, 0, none⟩), .pointer (some ⟨gb, 0, none⟩), .pointer (some ⟨gw, 0, none⟩)] W fun e W' => e = .returned (ptV p0) ∧ Below W.heap.size W W' := by
  have x6 := Blk.new W 32 ptZ
  have b6 := (Below.refl W.heap.size W).alloc (Nat.le_refl _) (.cells ptZ 32)
  have he' := he.alloc (.cells ptZ 32)
  have q := he'.cell 0
  have z1 : (z != 0) = true := by simpa using hz
  have e0 := ptZ0 x6
  have e1 := ptZ1 x6
  have e2 := ptZ2 x6
  have e3 := ptZ3 x6
  have e4 := ptZ4 x6
  have HB := Lib.hid b6
  clear hz he he' b6 x6
  go_enter Tryz.func17, Tryz.ntmps17
  go_wp2_with fail
  refine bodyPost_ret (v := ptV p0) (by simp [results, Tryz.f17, go_sem, e0, e1, e2, e3, e4]) rfl ⟨rfl, HB.out⟩
set_option linter.unusedSimpArgs false in
set_option maxHeartbeats 8000000 in
theorem ddLay1_ok (L B : Nat) (y : SAt) (T : StL) (b : Nat) (u : Value) (own : List Nat) (a : Option Addr) (n c : Nat) (R : List Pt) (ge go gb gw : Nat) (W : World)
    (he : Blk W ge 36 #[.int .i64 0]) (ho : Blk W go 29 (stC y T)) (hb : Blk W gb 27 #[.int .u32 (b : Int)]) (hw : Blk W gw 35 #[u])
    (hT : StP L W y T) (hm : MayS T) (hbi : b < 4294967296) (hu : W.ownsRow B 3 1 u own.length (valsN own)) (hol : own.length ≤ 1000) (hr : Pts W W.heap.size a n c R) (hn : n ≤ 16) (hR : ∀ q ∈ R, MayP q) (hz : Szs W)
    (hL : L ≤ ge ∧ L ≤ go ∧ L ≤ gw ∧ L ≤ B) (hB : B ≤ W.heap.size) (hta : 0 ≤ (rawO T b 0 0 (rowTo R R.length)).2.1.1) :
    Calls Tryz.prog 17 #[.slice a n c, .pointer (some ⟨ge, 0, none⟩), .pointer (some ⟨go, 0, none⟩), .pointer (some ⟨gb, 0, none⟩), .pointer (some ⟨gw, 0, none⟩)] W fun e W' => ∃ y' u', e = .returned (ptV (rawO T b 0 0 (rowTo R R.length)).2.1) ∧ Blk W' ge 36 #[.int .i64 ((rawO T b 0 0 (rowTo R R.length)).2.2 : Int)] ∧ Blk W' go 29 (stC y' (rawO T b 0 0 (rowTo R R.length)).1) ∧ Blk W' gw 35 #[u'] ∧
      StP 0 W' y' (rawO T b 0 0 (rowTo R R.length)).1 ∧ HiS W' W.heap.size y' (rawO T b 0 0 (rowTo R R.length)).1 ∧ W'.ownsRow B 3 1 u' (own.length + 1) (valsN (own ++ [(rawO T b 0 0 (rowTo R R.length)).2.1.1.toNat])) ∧
      Fz W.heap.size (fun k => k = ge ∨ k = go ∨ k = gw ∨ u.ownBlock = some k) W W' := by
  have hlt1 := he.lt
  have hlt2 := ho.lt
  have hlt3 := hw.lt
  have hLW : L ≤ W.heap.size := Nat.le_trans hL.2.2.2 hB
  have x6 := Blk.new W 32 ptZ
  have b6 := (Below.refl W.heap.size W).alloc (Nat.le_refl _) (.cells ptZ 32)
  obtain ⟨g6, hg6⟩ : ∃ g, W.heap.size = g := ⟨_, rfl⟩
  obtain ⟨w0, hw0⟩ : ∃ X, W.alloc (.cells ptZ 32) = X := ⟨_, rfl⟩
  rw [hw0] at x6 b6
  have hrw := Row_any a n c R w0 (hr.step b6) (hz.step b6)
  rw [row_ok (by rw [hr.1]; exact hn) hR] at hrw
  have hlen : (rowTo R R.length).length = 256 := rowTo_length R _ (Nat.le_refl _) (by rw [hr.1]; exact hn)
  obtain ⟨bl, hbl⟩ : ∃ X, rowTo R R.length = X := ⟨_, rfl⟩
  rw [hbl] at hrw hlen hta ⊢
  obtain ⟨⟨T', ⟨ta, tb, ti, tt, ts⟩, e'⟩, hro⟩ : ∃ o, rawO T b 0 0 bl = o := ⟨_, rfl⟩
  rw [hro] at hta ⊢
  have HRO := Lib.hid hro
  clear hro hbl
  have HE := Lib.hid (he.below b6 hlt1)
  have HO := Lib.hid (ho.below b6 hlt2)
  have HBI := Lib.hid (hb.below b6 hb.lt)
  have HW := Lib.hid (hw.below b6 hlt3)
  have HT := Lib.hid (hT.bel b6)
  have HU := Lib.hid (own_below hu b6)
  have HX6 := Lib.hid (hg6 ▸ x6)
  have HF := Lib.hid (Fz.of_below (X := fun k => k = ge ∨ k = go ∨ k = gw ∨ u.ownBlock = some k) b6 (Nat.le_refl _))
  have HSZ := Lib.hid (show W.heap.size ≤ w0.heap.size from b6.size)
  have HL := Lib.hid hL
  have HBB := Lib.hid (Nat.le_trans hB b6.size)
  have HNE := Lib.hid (show ge ≠ go ∧ ge ≠ gw ∧ go ≠ gw from ⟨blk_ne he ho (by decide), blk_ne he hw (by decide), blk_ne ho hw (by decide)⟩)
  have HN6 := Lib.hid (show ge ≠ g6 ∧ go ≠ g6 ∧ gw ≠ g6 from ⟨by omega, by omega, by omega⟩)
  have HUN := Lib.hid (show ∀ k, u.ownBlock = some k → k ≠ ge ∧ k ≠ go ∧ k ≠ gw ∧ k ≠ g6 from fun k hk => ⟨own_ty hu he (by decide) k hk, own_ty hu ho (by decide) k hk, own_ty hu hw (by decide) k hk, by have := (hu.lt k hk).2; omega⟩)
  have HLT := Lib.hid (show ge < W.heap.size ∧ go < W.heap.size ∧ gw < W.heap.size from ⟨hlt1, hlt2, hlt3⟩)
  have HRW := Lib.hid hrw
  have HM := Lib.hid hm
  have HBT := Lib.hid hbi
  have HTA := Lib.hid hta
  have HOL := Lib.hid hol
  have HLW := Lib.hid (Nat.le_trans hLW b6.size)
  clear he ho hb hw hT hu hr hz hL hB hlt1 hlt2 hlt3 hLW x6 b6 hrw hm hbi hR hn hta hol
  have q := HE.out.cell 0
  go_enter Tryz.func17, Tryz.ntmps17
  go_wp2_with fail
  try rw [hw0]
  try rw [hg6]
  clear hw0 q
  refine HRW.out.mono ?_
  rintro ev w1 ⟨v1, rfl, o1, b1⟩
  rw [hlen] at o1
  obtain ⟨av, cv, rfl⟩ := own_slice o1
  rw [← hlen] at o1
  have hsl := own_bsl o1
  replace HE := Lib.hid (HE.out.below b1 HE.out.lt)
  replace HO := Lib.hid (HO.out.below b1 HO.out.lt)
  replace HBI := Lib.hid (HBI.out.below b1 HBI.out.lt)
  replace HW := Lib.hid (HW.out.below b1 HW.out.lt)
  replace HX6 := Lib.hid (HX6.out.below b1 HX6.out.lt)
  replace HT := Lib.hid (HT.out.bel b1)
  replace HU := Lib.hid (own_below HU.out b1)
  replace HF := Lib.hid (HF.out.trans (Fz.of_below b1 HSZ.out))
  replace HSZ := Lib.hid (Nat.le_trans HSZ.out b1.size)
  replace HBB := Lib.hid (Nat.le_trans HBB.out b1.size)
  replace HLW := Lib.hid (Nat.le_trans HLW.out b1.size)
  have hly := stLay_any L y T b av cv bl w1 HT.out hsl HM.out.ok HLW.out HBT.out
  rw [HRO.out, hlen] at hly
  have HLY := Lib.hid hly
  clear o1 b1 hsl hly HRW
  have d0 := bx0 HO.out
  have d1 := bx1 HO.out
  have d2 := bx2 HO.out
  have d3 := bx3 HO.out
  have d4 := bx4 HO.out
  have q := HBI.out.cell 0
  go_wp2_with fail
  clear d0 d1 d2 d3 d4 q
  refine HLY.out.mono ?_
  rintro ev w2 ⟨y', rfl, st2, hi2, b2⟩
  simp only at st2 hi2
  have HTA' : Hid (0 ≤ ta) := HTA
  have hE := HE.out.below b2 HE.out.lt
  have hO := HO.out.below b2 HO.out.lt
  have hW := HW.out.below b2 HW.out.lt
  have h6 := HX6.out.below b2 HX6.out.lt
  have hU := own_below HU.out b2
  have hF := HF.out.trans (Fz.of_below b2 HSZ.out)
  have hS := Nat.le_trans HSZ.out b2.size
  have HI := Lib.hid (hi2.lower HSZ.out)
  -- the store
  have d0 := bx0 hO
  have d1 := bx1 hO
  have d2 := bx2 hO
  have d3 := bx3 hO
  have d4 := bx4 hO
  have df := fun i => hO.frozen i
  obtain ⟨xa, ka, _⟩ := box_five (L := 0) hO (by decide) (Nat.zero_le _) (Below.refl 0 w2) (Nat.zero_le _) (.slice y'.d.ba T'.1.1.length y'.d.bc) (.slice y'.d.wa T'.1.2.length y'.d.wc) (.slice y'.a T'.2.1.length y'.c) (.int .u32 (T'.2.2.1 : Int)) (.int .u32 (T'.2.2.2 : Int))
  have ga := only_set5 (World.grownBy.refl w2 (some go)) (.slice y'.d.ba T'.1.1.length y'.d.bc) (.slice y'.d.wa T'.1.2.length y'.d.wc) (.slice y'.a T'.2.1.length y'.c) (.int .u32 (T'.2.2.1 : Int)) (.int .u32 (T'.2.2.2 : Int))
  have yE := far5_bl hE HNE.out.1 (.slice y'.d.ba T'.1.1.length y'.d.bc) (.slice y'.d.wa T'.1.2.length y'.d.wc) (.slice y'.a T'.2.1.length y'.c) (.int .u32 (T'.2.2.1 : Int)) (.int .u32 (T'.2.2.2 : Int))
  have yW := far5_bl hW (Ne.symm HNE.out.2.2) (.slice y'.d.ba T'.1.1.length y'.d.bc) (.slice y'.d.wa T'.1.2.length y'.d.wc) (.slice y'.a T'.2.1.length y'.c) (.int .u32 (T'.2.2.1 : Int)) (.int .u32 (T'.2.2.2 : Int))
  have y6 := far5_bl h6 (Ne.symm HN6.out.2.1) (.slice y'.d.ba T'.1.1.length y'.d.bc) (.slice y'.d.wa T'.1.2.length y'.d.wc) (.slice y'.a T'.2.1.length y'.c) (.int .u32 (T'.2.2.1 : Int)) (.int .u32 (T'.2.2.2 : Int))
  obtain ⟨x1, dn⟩ : ∃ X, set5 w2 go (.slice y'.d.ba T'.1.1.length y'.d.bc) (.slice y'.d.wa T'.1.2.length y'.d.wc) (.slice y'.a T'.2.1.length y'.c) (.int .u32 (T'.2.2.1 : Int)) (.int .u32 (T'.2.2.2 : Int)) = X := ⟨_, rfl⟩
  rw [dn] at xa ka ga yE yW y6
  simp only [set5] at dn
  have hU1 := own_other hU ga fun k hk => (HUN.out k hk).2.1
  have hF1 := hF.trans (Fz.of_grown ga hS fun k hk => .inl (by injection hk with hk; exact .inr (.inl hk.symm)))
  have hS1 := Nat.le_trans hS ga.size
  have st3 := st2.step ka
  have hi3 := HI.out.keeps ka
  -- the pointer
  have p0_ := ptZ0 y6
  have p1_ := ptZ1 y6
  have p2_ := ptZ2 y6
  have p3_ := ptZ3 y6
  have p4_ := ptZ4 y6
  have pf := fun i => y6.frozen i
  obtain ⟨xb, kb, _⟩ := box_five (L := 0) y6 (by decide) (Nat.zero_le _) (Below.refl 0 x1) (Nat.zero_le _) (.int .i64 ta) (.int .u32 (tb : Int)) (.int .u32 (ti : Int)) (.int .u32 (tt : Int)) (.int .u32 (ts : Int))
  have gb' := only_set5 (World.grownBy.refl x1 (some g6)) (.int .i64 ta) (.int .u32 (tb : Int)) (.int .u32 (ti : Int)) (.int .u32 (tt : Int)) (.int .u32 (ts : Int))
  have zE := far5_bl yE HN6.out.1 (.int .i64 ta) (.int .u32 (tb : Int)) (.int .u32 (ti : Int)) (.int .u32 (tt : Int)) (.int .u32 (ts : Int))
  have zW := far5_bl yW HN6.out.2.2 (.int .i64 ta) (.int .u32 (tb : Int)) (.int .u32 (ti : Int)) (.int .u32 (tt : Int)) (.int .u32 (ts : Int))
  have zO := far5_bl xa HN6.out.2.1 (.int .i64 ta) (.int .u32 (tb : Int)) (.int .u32 (ti : Int)) (.int .u32 (tt : Int)) (.int .u32 (ts : Int))
  obtain ⟨x2, pn⟩ : ∃ X, set5 x1 g6 (.int .i64 ta) (.int .u32 (tb : Int)) (.int .u32 (ti : Int)) (.int .u32 (tt : Int)) (.int .u32 (ts : Int)) = X := ⟨_, rfl⟩
  rw [pn] at xb kb gb' zE zW zO
  simp only [set5] at pn
  have hU2 := own_other hU1 gb' fun k hk => (HUN.out k hk).2.2.2
  have hF2 := hF1.trans (Fz.of_grown gb' hS1 fun k hk => .inr (by injection hk with hk; omega))
  have hS2 := Nat.le_trans hS1 gb'.size
  have st4 := st3.step kb
  have hi4 := hi3.keeps kb
  -- the error
  have r0 := zE.cell 0
  have rf := zE.frozen 0
  have xc := zE.set_ 0 (.int .i64 (e' : Int))
  have gc := only_setCell (p := ⟨ge, 0, none⟩) (World.grownBy.refl x2 (some ge)) (.inl rfl) (.int .i64 (e' : Int))
  have kc : Keeps 0 x2 (x2.setCell ⟨ge, 0, none⟩ (.int .i64 (e' : Int))) := Keeps.of_box gc zE (by decide) (Nat.zero_le _)
  have vO := zO.far (p := ⟨ge, 0, none⟩) (Ne.symm HNE.out.1) (.int .i64 (e' : Int))
  have vW := zW.far (p := ⟨ge, 0, none⟩) (Ne.symm HNE.out.2.1) (.int .i64 (e' : Int))
  have v6 := xb.far (p := ⟨ge, 0, none⟩) (Ne.symm HN6.out.1) (.int .i64 (e' : Int))
  obtain ⟨x3, rn⟩ : ∃ X, x2.setCell ⟨ge, 0, none⟩ (.int .i64 (e' : Int)) = X := ⟨_, rfl⟩
  rw [rn] at xc gc kc vO vW v6
  have hU3 := own_other hU2 gc fun k hk => (HUN.out k hk).1
  have hF3 := hF2.trans (Fz.of_grown gc hS2 fun k hk => .inl (by injection hk with hk; exact .inl hk.symm))
  have hS3 := Nat.le_trans hS2 gc.size
  have st5 := st4.step kc
  have hi5 := hi4.keeps kc
  have s0 := vW.cell 0
  have t0 := v6.cell 0
  have hbb := (Below.refl x3.heap.size x3).alloc (Nat.le_refl _) (.cells #[.int .i64 ta] 3)
  have hnat : ((ta.toNat : Nat) : Int) = ta := by have := HTA'.out; omega
  have hon := one_nsl x3 ta.toNat
  rw [hnat] at hon
  obtain ⟨x4, hx4⟩ : ∃ X, x3.alloc (.cells #[.int .i64 ta] 3) = X := ⟨_, rfl⟩
  obtain ⟨g7, hg7⟩ : ∃ X, x3.heap.size = X := ⟨_, rfl⟩
  rw [hx4] at hbb hon
  rw [hg7] at hon
  have HON := Lib.hid hon
  have HU4 := Lib.hid (own_below hU3 hbb)
  have HC4 := Lib.hid (xc.below hbb xc.lt)
  have HO4 := Lib.hid (vO.below hbb vO.lt)
  have HW4 := Lib.hid (vW.below hbb vW.lt)
  have H64 := Lib.hid (v6.below hbb v6.lt)
  have HF4 := Lib.hid (hF3.trans (Fz.of_below hbb hS3))
  have HS4 := Lib.hid (Nat.le_trans hS3 hbb.size)
  have HT4 := Lib.hid (st5.bel hbb)
  have HI4 := Lib.hid (hi5.keeps (Keeps.of_below (L := 0) hbb))
  have HB4 := Lib.hid (show B ≤ x4.heap.size from Nat.le_trans HBB.out (Nat.le_trans b2.size (Nat.le_trans ga.size (Nat.le_trans gb'.size (Nat.le_trans gc.size hbb.size)))))
  have HLN := Lib.hid (show own.length + 1 ≤ 100000 by have := HOL.out; omega)
  clear hE hO hW h6 hU hF hS st2 hi2 b2 xa ka ga yE yW y6 hU1 hF1 hS1 st3 hi3 xb kb gb' zE zW zO hU2 hF2 hS2 st4 hi4 xc gc kc vO vW v6 hU3 hF3 hS3 st5 hi5 hbb hon hnat
  go_wp2_with (
    at_builtin
    try rw [hx4]
    refine wpList_append_nsl rfl (.tmp 24) (.tmp 27) rfl B u own.length own rfl HU4.out _ _ 1 1 [ta.toNat] rfl HON.out HLN.out HB4.out ?_
    intro v5 w5 hp5 hg5
    have w5W := HW4.out.grown hg5 (fun e => (HUN.out _ e.symm).2.2.1 rfl)
    have a0 := w5W.cell 0
    have af := w5W.frozen 0
    have HP5 := Lib.hid hp5
    have HG5 := Lib.hid hg5
    have HW5 := Lib.hid w5W
    obtain ⟨a5, c5, rfl⟩ := nrow_slice hp5
    clear hp5 hg5 w5W)
  clear d0 d1 d2 d3 d4 df dn p0_ p1_ p2_ p3_ p4_ pf pn r0 rf rn s0 t0 a0 af hx4 hg7
  have gw6 := only_setCell (p := ⟨gw, 0, none⟩) (World.grownBy.refl w5 (some gw)) (.inl rfl) (.slice a5 (own.length + 1) c5)
  have kp6 : Kp x4 (w5.setCell ⟨gw, 0, none⟩ (.slice a5 (own.length + 1) c5)) := (Kp.of_own HU4.out HG5.out (by decide)).trans (Kp.of_box gw6 HW5.out (by decide))
  obtain ⟨hs6, hi6⟩ := str_kp HT4.out.now HI4.out kp6
  have x5E := (HC4.out.grown HG5.out (fun e => (HUN.out _ e.symm).1 rfl)).far (p := ⟨gw, 0, none⟩) HNE.out.2.1 (.slice a5 (own.length + 1) c5)
  have x5O := (HO4.out.grown HG5.out (fun e => (HUN.out _ e.symm).2.1 rfl)).far (p := ⟨gw, 0, none⟩) HNE.out.2.2 (.slice a5 (own.length + 1) c5)
  have x56 := (H64.out.grown HG5.out (fun e => (HUN.out _ e.symm).2.2.2 rfl)).far (p := ⟨gw, 0, none⟩) (Ne.symm HN6.out.2.2) (.slice a5 (own.length + 1) c5)
  have x5W := HW5.out.set_ 0 (.slice a5 (own.length + 1) c5)
  have hf6 := (HF4.out.trans (Fz.of_grown HG5.out HS4.out fun k hk => .inl (.inr (.inr (.inr hk))))).trans (Fz.of_grown gw6 (Nat.le_trans HS4.out HG5.out.size) fun k hk => .inl (by injection hk with hk; exact .inr (.inr (.inl hk.symm))))
  have hp6 := own_other HP5.out gw6 (own_ty HP5.out HW5.out (by decide))
  obtain ⟨w6, hw6⟩ : ∃ X, w5.setCell ⟨gw, 0, none⟩ (.slice a5 (own.length + 1) c5) = X := ⟨_, rfl⟩
  rw [hw6] at kp6 hs6 hi6 x5E x5O x56 x5W hf6 hp6
  try rw [hw6]
  have e0 := bx0 x56
  have e1 := bx1 x56
  have e2 := bx2 x56
  have e3 := bx3 x56
  have e4 := bx4 x56
  refine bodyPost_ret (v := ptV (ta, tb, ti, tt, ts)) (by simp [results, Tryz.f17, go_sem, e0, e1, e2, e3, e4]) rfl ?_
  exact ⟨y', _, rfl, x5E, x5O, x5W, stP_hi hs6 hi6, hi6, hp6, hf6⟩
end Go.Proofs.YtjdjbonljohnbaaGreatDoor
/-
  dead's own loaded: the list of a row's own pointer, or a refusal.
-/
namespace Go.Proofs.YtjdjbonljohnbaaGreatDoor
open Go.RowKit Go.Shelf
set_option maxRecDepth 100000

set_option maxHeartbeats 16000000 in
theorem ddLoaded_any (L : Nat) (x : SAt) (S : StL) (p : Pt) (w : World) (h : StP L w x S) (hm : MayS S) (hmp : MayP p) (hwp : WfP p) (hp0 : p ≠ p0) (hz : Szs w) (hL : L ≤ w.heap.size) : Calls Tryz.prog 29 #[stV x S, ptV p] w (OutLd (loadedO S p) w) := by
  have HZ0 := Lib.hid hz
  have HP0 := Lib.hid hp0
  clear hz hp0
  have hmp2 := hmp
  obtain ⟨pa, pb, pi, pt, ps⟩ := p
  obtain ⟨w0, hw0, b0, z0, q1, q2⟩ := two_al w (stC x S) (ptA (pa, pb, pi, pt, ps)) 29 32
  obtain ⟨g, hg⟩ : ∃ g, w.heap.size = g := ⟨_, rfl⟩
  obtain ⟨g1, hg1⟩ : ∃ g1, g + 1 = g1 := ⟨_, rfl⟩
  rw [hg] at q1 q2
  rw [hg1] at q2
  have HX := Lib.hid q1
  have HQ := Lib.hid q2
  have HT := Lib.hid (h.bel b0)
  have HB := Lib.hid b0
  have HLW := Lib.hid (show L ≤ w0.heap.size from Nat.le_trans hL b0.size)
  simp only [stC, ptA] at hw0
  clear h b0 z0 q1 q2 hL
  have HZ := Lib.hid (HZ0.out.step HB.out)
  have HMS := Lib.hid hm
  have HMP := Lib.hid hmp2
  clear hm hmp2
  obtain ⟨⟨rows, e0⟩, hT⟩ : ∃ o, trowO S (pa, pb, pi, pt, ps) = o := ⟨_, rfl⟩
  have hrw := ddRowOf_any L x S (pa, pb, pi, pt, ps) w0 HT.out HMS.out HMP.out hwp HZ.out HLW.out
  rw [hT] at hrw
  have HRW := Lib.hid hrw
  have HTR := Lib.hid hT
  clear hrw hT hmp hwp
  by_cases he : e0 ≠ 0
  · have HO := Lib.hid (show loadedO S (pa, pb, pi, pt, ps) = ([], [], e0) by rw [loadedO_rows HP0.out HTR.out, if_pos he])
    have HEN := Lib.hid he
    clear he
    have d0 := bx0 HX.out
    have d1 := bx1 HX.out
    have d2 := bx2 HX.out
    have d3 := bx3 HX.out
    have d4 := bx4 HX.out
    have q0 := bx0 HQ.out
    have q1 := bx1 HQ.out
    have q2 := bx2 HQ.out
    have q3 := bx3 HQ.out
    have q4 := bx4 HQ.out
    go_enter Tryz.func29, Tryz.ntmps29
    go_wp2_with fail
    try rw [hw0]
    try rw [hg]
    try rw [hg1]
    clear hw0 hg hg1
    clear d0 d1 d2 d3 d4
    clear q0 q1 q2 q3 q4
    refine HRW.out.mono ?_
    rintro ev w2 ⟨b2, ⟨h0, _⟩ | ⟨_, rfl⟩⟩
    · exact absurd h0 HEN.out
    · replace HB := Lib.hid (HB.out.trans (b2.mono HB.out.size))
      refine ⟨rfl, HB.out, .inr ⟨by rw [HO.out]; exact HEN.out, by rw [HO.out]; rfl⟩⟩
  · obtain rfl : e0 = 0 := by omega
    clear he
    obtain ⟨hne, hl16, hwf, hmy, hn0⟩ : rows ≠ [] ∧ rows.length ≤ 16 ∧ (∀ q ∈ rows, WfP q) ∧ (∀ q ∈ rows, MayP q) ∧ ∀ q ∈ rows, q ≠ p0 := by
      rcases trowO_cases S (pa, pb, pi, pt, ps) with ⟨e, h, hn⟩ | ⟨t, h, h1⟩
      · rw [HTR.out] at h; injection h with _ h; exact absurd h.symm hn
      · rw [HTR.out] at h; injection h with h _; subst h; exact h1
    have HWF := Lib.hid hwf
    have HMY := Lib.hid hmy
    have HN0 := Lib.hid hn0
    obtain ⟨n, hn⟩ : ∃ n, rows.length = n := ⟨_, rfl⟩
    have HN := Lib.hid hn
    have hnp : 0 < n := by rw [← hn]; exact List.length_pos_iff.2 hne
    rw [hn] at hl16
    clear hne hwf hmy hn0
    have d0 := bx0 HX.out
    have d1 := bx1 HX.out
    have d2 := bx2 HX.out
    have d3 := bx3 HX.out
    have d4 := bx4 HX.out
    have q0 := bx0 HQ.out
    have q1 := bx1 HQ.out
    have q2 := bx2 HQ.out
    have q3 := bx3 HQ.out
    have q4 := bx4 HQ.out
    go_enter Tryz.func29, Tryz.ntmps29
    go_wp2_with fail
    try rw [hw0]
    try rw [hg]
    try rw [hg1]
    clear hw0 hg hg1
    clear d0 d1 d2 d3 d4
    clear q0 q1 q2 q3 q4
    refine HRW.out.mono ?_
    rintro ev w2 ⟨b2, ⟨_, ar, cr, rfl, htr, _⟩ | ⟨h0, _⟩⟩
    rotate_left
    · exact absurd rfl h0
    simp only at htr
    rw [hn] at htr ⊢
    obtain ⟨br, or, ea, _⟩ := htr.cells 0 hnp
    subst ea
    replace HX := Lib.hid (HX.out.below b2 HX.out.lt)
    replace HQ := Lib.hid (HQ.out.below b2 HQ.out.lt)
    replace HT := Lib.hid (HT.out.bel b2)
    replace HB := Lib.hid (HB.out.trans (b2.mono HB.out.size))
    replace HZ := Lib.hid (HZ.out.step b2)
    replace HLW := Lib.hid (Nat.le_trans HLW.out b2.size)
    have HR := Lib.hid htr
    clear b2 htr hn
    have n0 : (0 : Int) ≤ (n : Int) := by omega
    have n16 : (n : Int) ≤ 16 := by omega
    have nm1 : (n : Int) - 1 ≤ 9223372036854775807 := by omega
    go_wp2_with fail
    go_loopw [4, 5, 15] (fun v u i wr => ∃ (k : Nat) (l : List Pt), k ≤ n ∧ i = .int .i64 k ∧ loadTo S rows k = (l, 0) ∧ l.length ≤ 16 * k ∧ (∀ q ∈ l, WfP q) ∧ PRow wr w2.heap.size v l ∧ wr.ownsRow w2.heap.size 3 1 u k (valsN (blksD (rows.take k))) ∧ Below w2.heap.size w2 wr) (fun _ _ i _ => n - (intOf i).toNat)
    case atStart => exact ⟨0, [], Nat.zero_le _, rfl, rfl, Nat.zero_le _, fun _ h => (by cases h), prow_nil _ _, World.ownsRow_nil _ _ _ _, Below.refl _ _⟩
    case round =>
      obtain ⟨k, l, hk, rfl, hlt, hll, hlw, hvo, huo, hbs⟩ := hrel
      obtain ⟨v, hv⟩ : ∃ v : Value, u4 = v := ⟨_, rfl⟩
      obtain ⟨u, hu⟩ : ∃ v : Value, u5 = v := ⟨_, rfl⟩
      rw [hv] at hvo ⊢
      rw [hu] at huo ⊢
      clear hv hu
      have k0 : (0 : Int) ≤ k := by omega
      have HLT := Lib.hid hlt
      have HLL := Lib.hid hll
      have HLWF := Lib.hid hlw
      have HV := Lib.hid hvo
      have HU := Lib.hid huo
      have HS := Lib.hid hbs
      clear hlt hll hlw hvo huo hbs
      by_cases hkn : k < n
      · have k1 : (k : Int) < n := by omega
        have hkl : k < rows.length := by rw [HN.out]; exact hkn
        have HKL := Lib.hid hkl
        obtain ⟨⟨ya, yb, yi, yt, ys⟩, hP⟩ : ∃ P, rows.getD k p0 = P := ⟨_, rfl⟩
        have hmem : (ya, yb, yi, yt, ys) ∈ rows := by rw [← hP, ddGetD hkl]; exact List.getElem_mem _
        have HYW := Lib.hid (HWF.out _ hmem)
        have HYM := Lib.hid (HMY.out _ hmem)
        have HY0 := Lib.hid (HN0.out _ hmem)
        have HPE := Lib.hid hP
        obtain ⟨_, _, ea, _, _, v0_, v1_, v2_, v3_, v4_⟩ := (HR.out.below HS.out).cells k hkn
        cases ea
        rw [hP] at v0_ v1_ v2_ v3_ v4_
        simp only at v0_ v1_ v2_ v3_ v4_
        clear hP hmem hkl
        -- the box of the pointer
        have bb1 := (Below.refl wr.heap.size wr).alloc (Nat.le_refl _) (.cells (ptC (ya, yb, yi, yt, ys)).toArray 32)
        have xb1 := Blk.new wr 32 (ptC (ya, yb, yi, yt, ys)).toArray
        obtain ⟨gb, hgb⟩ : ∃ X, wr.heap.size = X := ⟨_, rfl⟩
        have HGB := Lib.hid hgb
        obtain ⟨wb, hwb⟩ : ∃ X, wr.alloc (.cells (ptC (ya, yb, yi, yt, ys)).toArray 32) = X := ⟨_, rfl⟩
        rw [hwb] at bb1 xb1
        rw [hgb] at xb1
        have hvg : ∀ k, v.ownBlock = some k → k < gb := fun k h => by rw [← hgb]; exact (HV.out.1.lt k h).2
        have HVG := Lib.hid hvg
        have HKB := Lib.hid xb1
        obtain ⟨s0, s1, s2, s3, s4⟩ := HKB.out.five
        simp only [ptC] at hwb
        have HSB := Lib.hid (HS.out.trans (bb1.mono HS.out.size))
        have HVB := Lib.hid (HV.out.below bb1)
        have HUB := Lib.hid (own_below HU.out bb1)
        clear bb1 xb1 hvg
        have HTB := Lib.hid (HT.out.bel HSB.out)
        have HXB := Lib.hid (HX.out.below HSB.out HX.out.lt)
        obtain ⟨⟨t, e⟩, hT⟩ : ∃ o, trowO S (ya, yb, yi, yt, ys) = o := ⟨_, rfl⟩
        have hrw := ddRowOf_any L x S (ya, yb, yi, yt, ys) wb HTB.out HMS.out HYM.out HYW.out (HZ.out.step HSB.out) (Nat.le_trans HLW.out HSB.out.size)
        rw [hT] at hrw
        have HRW := Lib.hid hrw
        have HTY := Lib.hid hT
        have d0 := bx0 HXB.out
        have d1 := bx1 HXB.out
        have d2 := bx2 HXB.out
        have d3 := bx3 HXB.out
        have d4 := bx4 HXB.out
        clear hrw hT
        go_wp2_with fail
        try rw [hwb]
        try rw [hgb]
        clear hwb hgb d0 d1 d2 d3 d4 v0_ v1_ v2_ v3_ v4_ s0 s1 s2 s3 s4
        refine HRW.out.mono ?_
        by_cases he : e ≠ 0
        · rintro ev w5 ⟨b5, ⟨h0, _⟩ | ⟨_, rfl⟩⟩
          · exact absurd h0 he
          · have hst := loadTo_step HLT.out (show trowO S (rows.getD k p0) = (t, e) by rw [HPE.out]; exact HTY.out)
            rw [if_pos he] at hst
            have hend : loadTo S rows rows.length = ([], e) := by rw [loadTo_stop (i := k + 1) (by rw [hst]; exact he) (by have := HKL.out; omega), hst]
            have HO := Lib.hid (show loadedO S (pa, pb, pi, pt, ps) = ([], [], e) by rw [loadedO_rows HP0.out HTR.out, if_neg (fun h => h rfl), hend, if_pos he])
            replace HSB := Lib.hid (HSB.out.trans (b5.mono HSB.out.size))
            have HBE := Lib.hid (HB.out.trans (HSB.out.mono HB.out.size))
            refine ⟨rfl, HBE.out, .inr ⟨by rw [HO.out]; exact he, by rw [HO.out]; rfl⟩⟩
        · obtain rfl : e = 0 := by omega
          have htc : t ≠ [] ∧ t.length ≤ 16 ∧ (∀ q ∈ t, WfP q) := by
            rcases trowO_cases S (ya, yb, yi, yt, ys) with ⟨e, h, hn⟩ | ⟨t', h, h1, h2, h3, _⟩
            · rw [HTY.out] at h; injection h with _ h; exact absurd h.symm hn
            · rw [HTY.out] at h; injection h with h _; subst h; exact ⟨h1, h2, h3⟩
          have HTC := Lib.hid htc
          clear he htc
          rintro ev w5 ⟨b5, ⟨_, a5, c5, rfl, ht5, _⟩ | ⟨h0, _⟩⟩
          rotate_left
          · exact absurd rfl h0
          simp only at ht5
          obtain ⟨m, hm⟩ : ∃ m, t.length = m := ⟨_, rfl⟩
          have HM := Lib.hid hm
          rw [hm] at ht5 ⊢
          have HT5 := Lib.hid ht5
          have m16 : m ≤ 16 := by rw [← hm]; exact HTC.out.2.1
          replace HVB := Lib.hid (HVB.out.below b5)
          replace HUB := Lib.hid (own_below HUB.out b5)
          replace HKB := Lib.hid (HKB.out.below b5 HKB.out.lt)
          replace HSB := Lib.hid (HSB.out.trans (b5.mono HSB.out.size))
          clear b5 ht5 hm HRW
          have hst := loadTo_step HLT.out (show trowO S (rows.getD k p0) = (t, 0) by rw [HPE.out]; exact HTY.out)
          rw [if_neg (fun h => h rfl)] at hst
          by_cases hsh : k + 1 < n ∧ m < 16
          · rw [if_pos (by rw [HN.out, HM.out]; exact hsh)] at hst
            have hend : loadTo S rows rows.length = ([], 8) := by rw [loadTo_stop (i := k + 1) (by rw [hst]; decide) (by have := HKL.out; omega), hst]
            have HO := Lib.hid (show loadedO S (pa, pb, pi, pt, ps) = ([], [], 8) by rw [loadedO_rows HP0.out HTR.out, if_neg (fun h => h rfl), hend, if_pos (by decide)])
            have f0 : decide ((m : Int) < 16) = true := decide_eq_true (by omega)
            have f1 : decide ((k : Int) < (n : Int) - 1) = true := decide_eq_true (by omega)
            have HBE := Lib.hid (HB.out.trans (HSB.out.mono HB.out.size))
            clear hst hend hsh
            go_wp2_with fail
            refine (ddInsist_no 8 (by decide) w5).mono ?_
            rintro ev wz ⟨rfl, rfl⟩
            refine ⟨rfl, HBE.out, .inr ⟨by rw [HO.out]; exact (by decide : (8 : Nat) ≠ 0), by rw [HO.out]; rfl⟩⟩
          · rw [if_neg (by rw [HN.out, HM.out]; exact hsh)] at hst
            have HST := Lib.hid hst
            clear hst
            have HLA := Lib.hid (show l.length + m ≤ 1000000 by have := HLL.out; omega)
            have HAB := Lib.hid HSB.out.size
            have hm0 : (0 : Int) ≤ (m : Int) := by omega
            by_cases hms : m < 16
            · have f0 : decide ((m : Int) < 16) = true := decide_eq_true (by omega)
              have f1 : decide ((k : Int) < (n : Int) - 1) = false := decide_eq_false (by omega)
              clear hms hsh
              go_wp2_with (first
                | (at_builtin
                   refine wpList_append_prow rfl (.tmp 34) (.tmp 35) rfl w2.heap.size v l rfl HVB.out _ a5 m c5 t rfl HT5.out HLA.out HAB.out ?_
                   intro v6 w6 hp6 hg6
                   have hud := own_keep HUB.out (ty_dis HVB.out HUB.out) hg6
                   have hb6 := app_below HSB.out HVB.out.1 hg6 HSB.out.size
                   obtain ⟨a6, c6, rfl, _⟩ := hp6.pts
                   obtain ⟨q6, hq6⟩ : ∃ q, (l ++ t).length = q := ⟨_, rfl⟩
                   have h6 := hp6
                   rw [hq6] at h6 ⊢
                   have HV6 := Lib.hid h6
                   have HU6 := Lib.hid hud
                   have HS6 := Lib.hid hb6
                   have HK6 := Lib.hid (HKB.out.grown hg6 (fun e => by have := HVG.out _ e.symm; omega))
                   obtain ⟨s0, s1, s2, s3, s4⟩ := HK6.out.five
                   have hyn := at_nat HYM.out HY0.out
                   have hbb := (Below.refl w6.heap.size w6).alloc (Nat.le_refl _) (.cells #[.int .i64 ya] 3)
                   have HAV := Lib.hid (HV6.out.below hbb)
                   have HAU := Lib.hid (own_below HU6.out hbb)
                   have HAS := Lib.hid (HS6.out.trans (hbb.mono HS6.out.size))
                   have hon := one_nsl w6 ya.toNat
                   simp only at hyn
                   rw [hyn] at hon
                   have HON := Lib.hid hon
                   clear hp6 hg6 hud hb6 hbb hon hyn h6 hq6)
                | (at_builtin
                   refine wpList_append_nsl rfl (.tmp 37) (.tmp 40) rfl w2.heap.size u k _ rfl HAU.out _ _ 1 1 [ya.toNat] rfl HON.out (by omega) HAS.out.size ?_
                   intro v7 w7 hp7 hg7
                   have hvd := own_keep HAV.out.1 (ty_dis HAV.out HAU.out).symm hg7
                   have HV7 := Lib.hid (show PRow w7 w2.heap.size _ (l ++ t) from ⟨hvd, HAV.out.2⟩)
                   have HS7 := Lib.hid (app_below HAS.out HAU.out hg7 HAS.out.size)
                   have HU7 := Lib.hid hp7
                   clear hp7 hg7 hvd))
              go_roundw
              case rel =>
                refine ⟨k + 1, l ++ t, by omega, by go_num, HST.out, by rw [List.length_append, HM.out]; have := HLL.out; omega, fun q hq => ?_, HV7.out, ?_, HS7.out⟩
                · rcases List.mem_append.1 hq with hq | hq
                  · exact HLWF.out q hq
                  · exact HTC.out.2.2 q hq
                · rw [blksD_take HKL.out, HPE.out]
                  exact HU7.out
              case measure => simp [intOf]; omega
            · have f0 : decide ((m : Int) < 16) = false := decide_eq_false (by omega)
              clear hms hsh
              go_wp2_with (first
                | (at_builtin
                   refine wpList_append_prow rfl (.tmp 34) (.tmp 35) rfl w2.heap.size v l rfl HVB.out _ a5 m c5 t rfl HT5.out HLA.out HAB.out ?_
                   intro v6 w6 hp6 hg6
                   have hud := own_keep HUB.out (ty_dis HVB.out HUB.out) hg6
                   have hb6 := app_below HSB.out HVB.out.1 hg6 HSB.out.size
                   obtain ⟨a6, c6, rfl, _⟩ := hp6.pts
                   obtain ⟨q6, hq6⟩ : ∃ q, (l ++ t).length = q := ⟨_, rfl⟩
                   have h6 := hp6
                   rw [hq6] at h6 ⊢
                   have HV6 := Lib.hid h6
                   have HU6 := Lib.hid hud
                   have HS6 := Lib.hid hb6
                   have HK6 := Lib.hid (HKB.out.grown hg6 (fun e => by have := HVG.out _ e.symm; omega))
                   obtain ⟨s0, s1, s2, s3, s4⟩ := HK6.out.five
                   have hyn := at_nat HYM.out HY0.out
                   have hbb := (Below.refl w6.heap.size w6).alloc (Nat.le_refl _) (.cells #[.int .i64 ya] 3)
                   have HAV := Lib.hid (HV6.out.below hbb)
                   have HAU := Lib.hid (own_below HU6.out hbb)
                   have HAS := Lib.hid (HS6.out.trans (hbb.mono HS6.out.size))
                   have hon := one_nsl w6 ya.toNat
                   simp only at hyn
                   rw [hyn] at hon
                   have HON := Lib.hid hon
                   clear hp6 hg6 hud hb6 hbb hon hyn h6 hq6)
                | (at_builtin
                   refine wpList_append_nsl rfl (.tmp 37) (.tmp 40) rfl w2.heap.size u k _ rfl HAU.out _ _ 1 1 [ya.toNat] rfl HON.out (by omega) HAS.out.size ?_
                   intro v7 w7 hp7 hg7
                   have hvd := own_keep HAV.out.1 (ty_dis HAV.out HAU.out).symm hg7
                   have HV7 := Lib.hid (show PRow w7 w2.heap.size _ (l ++ t) from ⟨hvd, HAV.out.2⟩)
                   have HS7 := Lib.hid (app_below HAS.out HAU.out hg7 HAS.out.size)
                   have HU7 := Lib.hid hp7
                   clear hp7 hg7 hvd))
              go_roundw
              case rel =>
                refine ⟨k + 1, l ++ t, by omega, by go_num, HST.out, by rw [List.length_append, HM.out]; have := HLL.out; omega, fun q hq => ?_, HV7.out, ?_, HS7.out⟩
                · rcases List.mem_append.1 hq with hq | hq
                  · exact HLWF.out q hq
                  · exact HTC.out.2.2 q hq
                · rw [blksD_take HKL.out, HPE.out]
                  exact HU7.out
              case measure => simp [intOf]; omega
      · obtain rfl : k = n := by omega
        have htn : rows.take k = rows := List.take_of_length_le (by rw [HN.out]; exact Nat.le_refl _)
        have huo := HU.out
        rw [htn] at huo
        replace HU := Lib.hid huo
        have hld : loadedO S (pa, pb, pi, pt, ps) = if MayDL l then (l, blksD rows ++ [pa.toNat], 0) else ([], [], 8) := by
          rw [loadedO_rows HP0.out HTR.out, if_neg (fun h => h rfl), HN.out, HLT.out, if_neg (fun h => h rfl)]
        obtain ⟨av, cv, rfl, htv⟩ := HV.out.pts
        have HTV := Lib.hid htv
        have hck := ddCheck_any av l.length cv l wr htv
        have HBE := Lib.hid (HB.out.trans (HS.out.mono HB.out.size))
        clear huo htn htv hkn hk
        by_cases hmd : MayDL l
        · rw [if_pos hmd] at hld
          have HO := Lib.hid hld
          rw [show checkDO l = 0 by unfold checkDO; rw [if_pos hmd]] at hck
          have HCK := Lib.hid hck
          clear hld hck hmd
          go_wp2_with fail
          refine HCK.out.mono ?_
          rintro ev w5 ⟨rfl, b5⟩
          replace HV := Lib.hid (HV.out.below b5)
          replace HU := Lib.hid (own_below HU.out b5)
          replace HS := Lib.hid (HS.out.trans (b5.mono HS.out.size))
          replace HBE := Lib.hid (HBE.out.trans (b5.mono HBE.out.size))
          clear b5 HCK
          go_wp2_with fail
          refine (ddInsist_ok w5).mono ?_
          rintro ev wz ⟨rfl, rfl⟩
          have HQE := Lib.hid (HQ.out.below HS.out HQ.out.lt)
          have q0 := bx0 HQE.out
          have hyn := at_nat HMP.out HP0.out
          simp only at hyn
          have hbb := (Below.refl w5.heap.size w5).alloc (Nat.le_refl _) (.cells #[.int .i64 pa] 3)
          have HAV := Lib.hid (HV.out.below hbb)
          have HAU := Lib.hid (own_below HU.out hbb)
          have HAS := Lib.hid (HBE.out.trans (hbb.mono HBE.out.size))
          have HA2 := Lib.hid (HS.out.trans (hbb.mono HS.out.size))
          have hon := one_nsl w5 pa.toNat
          rw [hyn] at hon
          have HON := Lib.hid hon
          obtain ⟨au, cu, rfl⟩ := nrow_slice HU.out
          have HKK := Lib.hid (show k + 1 ≤ 100000 by omega)
          clear hbb hon hyn
          go_wp2_with (
            at_builtin
            refine wpList_append_nsl rfl (.tmp 47) (.tmp 50) rfl w2.heap.size _ k _ rfl HAU.out _ _ 1 1 [pa.toNat] rfl HON.out HKK.out HA2.out.size ?_
            intro v7 w7 hp7 hg7
            have hvd := own_keep HAV.out.1 (ty_dis HAV.out HAU.out).symm hg7
            have HV7 := Lib.hid (show PRow w7 w2.heap.size _ l from ⟨hvd, HAV.out.2⟩)
            have HS7 := Lib.hid (app_below HAS.out (own_mono HAU.out HB.out.size) hg7 HAS.out.size)
            have HU7 := Lib.hid hp7
            obtain ⟨a7, c7, rfl⟩ := nrow_slice HU7.out
            clear hp7 hg7 hvd)
          clear q0
          go_ret2
          refine ⟨HS7.out, .inl ⟨by rw [HO.out], _, _, rfl, by rw [HO.out]; exact HV7.out.mono HB.out.size, ?_⟩⟩
          rw [HO.out]
          have hl : (blksD rows ++ [pa.toNat]).length = k + 1 := by rw [List.length_append, blksD_length, HN.out]; rfl
          show w7.ownsRow w.heap.size 3 1 _ (blksD rows ++ [pa.toNat]).length (valsN (blksD rows ++ [pa.toNat]))
          rw [hl]
          exact own_mono HU7.out HB.out.size
        · rw [if_neg hmd] at hld
          have HO := Lib.hid hld
          rw [show checkDO l = 8 by unfold checkDO; rw [if_neg hmd]] at hck
          have HCK := Lib.hid hck
          clear hld hck hmd
          go_wp2_with fail
          refine HCK.out.mono ?_
          rintro ev w5 ⟨rfl, b5⟩
          replace HBE := Lib.hid (HBE.out.trans (b5.mono HBE.out.size))
          clear b5 HCK
          go_wp2_with fail
          refine (ddInsist_no 8 (by decide) w5).mono ?_
          rintro ev wz ⟨rfl, rfl⟩
          refine ⟨rfl, HBE.out, .inr ⟨by rw [HO.out]; exact (by decide : (8 : Nat) ≠ 0), by rw [HO.out]; rfl⟩⟩
end Go.Proofs.YtjdjbonljohnbaaGreatDoor
