/-
  The document's own answers for layer 9: which disks may be, which are great.
-/
import Derived.Test.YtgpojnhhcobcbaaDisk
namespace Go.Proofs.Ytgpojnhhcobcbaa
open Go.RowKit Go.Shelf
set_option maxRecDepth 100000

theorem rdPlace_any (p : Int) (w : World) : Calls Try.prog 49 #[.int .i64 p] w fun e w' => e = .returned (.bool (decide (0 ≤ p ∧ p < 256))) ∧ w = w' := by
  by_cases h0 : 0 ≤ p
  · by_cases h1 : p < 256
    · rw [decide_eq_true (show 0 ≤ p ∧ p < 256 from ⟨h0, h1⟩)]
      go_enter Try.func49, Try.ntmps49
      go_wp2_with fail
      go_ret
      exact ⟨by simp; try omega, rfl⟩
    · rw [decide_eq_false (show ¬ (0 ≤ p ∧ p < 256) from fun h => h1 h.2)]
      go_enter Try.func49, Try.ntmps49
      go_wp2_with fail
      go_ret
      exact ⟨by simp; try omega, rfl⟩
  · rw [decide_eq_false (show ¬ (0 ≤ p ∧ p < 256) from fun h => h0 h.1)]
    go_enter Try.func49, Try.ntmps49
    go_wp2_with fail
    go_ret
    exact ⟨by simp; try omega, rfl⟩
/-- So many odd ones among the first k; none just if all are as they should be. -/
def OddN (o k : Nat) (P : Nat → Prop) : Prop := o ≤ k ∧ (o = 0 ↔ ∀ i, i < k → P i)
theorem odd_zero (P : Nat → Prop) : OddN 0 0 P := ⟨Nat.le_refl _, ⟨fun _ _ h => absurd h (Nat.not_lt_zero _), fun _ => rfl⟩⟩
theorem OddN.good {o k : Nat} {P : Nat → Prop} (h : OddN o k P) (hp : P k) : OddN o (k + 1) P := by
  refine ⟨Nat.le_succ_of_le h.1, fun h0 i hi => ?_, fun ha => h.2.2 fun i hi => ha i (by omega)⟩
  rcases Nat.lt_or_ge i k with h1 | h1
  · exact h.2.1 h0 i h1
  · obtain rfl : i = k := by omega
    exact hp
theorem OddN.odd {o k : Nat} {P : Nat → Prop} (h : OddN o k P) (hp : ¬ P k) : OddN (o + 1) (k + 1) P := by
  refine ⟨Nat.succ_le_succ h.1, fun h0 => absurd h0 (Nat.succ_ne_zero _), fun ha => absurd (ha k (Nat.lt_succ_self _)) hp⟩
/-- The two counts and the two lengths tell whether a disk may be. -/
theorem may_iff {D : DkL} {o1 o2 k1 k2 : Nat} (h1 : OddN o1 k1 (fun i => (D.1.getD i []).length = 256)) (h2 : OddN o2 k2 (fun i => (0 ≤ (wr_ D.2 i).1 ∧ (wr_ D.2 i).1 < 256) ∧ (wr_ D.2 i).2.length = 256)) (e1 : k1 = D.1.length ∨ (k1 = 257 ∧ 257 < D.1.length)) (e2 : k2 = D.2.length ∨ (k2 = 4097 ∧ 4097 < D.2.length)) :
    (o1 + o2 = 0 ∧ D.1.length = 256 ∧ D.2.length ≤ 4096) ↔ MayD D := by
  constructor
  · rintro ⟨ho, hn, hm⟩
    have k1e : k1 = 256 := by omega
    have k2e : k2 = D.2.length := by omega
    subst k1e
    subst k2e
    exact ⟨⟨hn, h1.2.1 (by omega)⟩, hm, h2.2.1 (by omega)⟩
  · rintro ⟨⟨hn, h3⟩, hm, h4⟩
    have k1e : k1 = 256 := by omega
    have k2e : k2 = D.2.length := by omega
    subst k1e
    subst k2e
    have a1 := h1.2.2 h3
    have a2 := h2.2.2 h4
    exact ⟨by omega, hn, hm⟩
set_option maxHeartbeats 4000000 in
theorem rdMay_any (x : DAt) (D : DkL) (w : World) (h : Dsk w w.heap.size x D) : Calls Try.prog 52 #[dval x D] w fun e w' => e = .returned (.bool (decide (MayD D))) ∧ Below w.heap.size w w' := by
  obtain ⟨ba, bc, wa, wc⟩ := x
  obtain ⟨R, hR⟩ : ∃ R, decide (MayD D) = R := ⟨_, rfl⟩
  rw [hR]
  have HRR := Lib.hid hR
  clear hR
  simp only [dval]
  have l1 := h.1.len_le
  have l2 := h.2.len_le
  obtain ⟨n, hn⟩ : ∃ n, D.1.length = n := ⟨_, rfl⟩
  obtain ⟨m, hm⟩ : ∃ m, D.2.length = m := ⟨_, rfl⟩
  rw [hn] at l1
  rw [hm] at l2
  have n0 : (0 : Int) ≤ n := by omega
  have m0 : (0 : Int) ≤ m := by omega
  have b0 := (Below.refl w.heap.size w).alloc (Nat.le_refl _) (.cells #[.slice ba D.1.length bc, .slice wa D.2.length wc] 25)
  have x0 := Blk.new w 25 #[.slice ba D.1.length bc, .slice wa D.2.length wc]
  have h0 := h.step b0
  rw [hn, hm] at b0 x0 h0 ⊢
  obtain ⟨w0, hw0⟩ : ∃ w0, w.alloc (.cells #[.slice ba n bc, .slice wa m wc] 25) = w0 := ⟨_, rfl⟩
  rw [hw0] at b0 x0 h0
  have c0 := x0.cell 0
  have c1 := x0.cell 1
  obtain ⟨hB, hW⟩ := h0
  simp only [hn, hm] at hB hW
  have HB := Lib.hid hB
  have HW := Lib.hid hW
  have HX := Lib.hid x0
  have HBl := Lib.hid b0
  have HN := Lib.hid hn
  have HM := Lib.hid hm
  clear h b0 x0 hB hW hn hm
  go_enter Try.func52, Try.ntmps52
  go_wp2_with fail
  clear hw0
  go_loop [3, 4] (fun o i => ∃ k q : Nat, k ≤ n ∧ k ≤ 257 ∧ i = .int .i64 k ∧ o = .int .i64 q ∧ Hid (OddN q k (fun i => (D.1.getD i []).length = 256))) (fun _ i => n - (intOf i).toNat)
  case atStart => exact ⟨0, 0, Nat.zero_le _, Nat.zero_le _, rfl, rfl, Lib.hid (odd_zero _)⟩
  case round =>
    obtain ⟨k, q, hk, hk2, rfl, rfl, HO⟩ := hrel
    have k0 : (0 : Int) ≤ k := by omega
    have hq := HO.out.1
    have q0 : (0 : Int) ≤ q := by omega
    have q1 : (q : Int) ≤ 10000 := by omega
    by_cases hlt : k < n ∧ k ≤ 256
    · obtain ⟨hlt, hk3⟩ := hlt
      have k1 : (k : Int) < n := by omega
      have k3 : (k : Int) ≤ 256 := by omega
      obtain ⟨b, off, A, l, c', s, rfl, _, hl, hc, hA⟩ := HB.out.at_ hlt
      by_cases hl6 : l = 256
      · have hgood : (D.1.getD k []).length = 256 := by rw [hl, hA.1]; exact hl6
        have HO' := Lib.hid (HO.out.good hgood)
        subst hl6
        have hne : (((256 : Nat) : Int) != 256) = false := by decide
        clear hl hA hgood
        go_wp2_with fail
        go_round
        case rel => exact ⟨k + 1, q, by omega, by omega, by go_num, rfl, HO'⟩
        case measure => simp [intOf]; omega
      · have hbad : ¬ (D.1.getD k []).length = 256 := by rw [hl, hA.1]; exact hl6
        have HO' := Lib.hid (HO.out.odd hbad)
        have hne : ((l : Int) != 256) = true := by simp; omega
        clear hl hA hbad
        go_wp2_with fail
        go_round
        case rel => exact ⟨k + 1, q + 1, by omega, by omega, by go_num, by go_num, HO'⟩
        case measure => simp [intOf]; omega
    · have hend : k = n ∨ (k = 257 ∧ 257 < n) := by omega
      have HEND := Lib.hid hend
      clear hend
      have hgo : ((k : Int) < n → ¬ (k : Int) ≤ 256) := by omega
      by_cases hkn : (k : Int) < n
      all_goals
        first
          | have k3 : ¬ (k : Int) ≤ 256 := hgo hkn
          | have k3 : True := trivial
        clear hgo hlt
        go_wp2_with fail
        clear k3 hkn
        go_loop [3, 5] (fun o i => ∃ j r : Nat, j ≤ m ∧ j ≤ 4097 ∧ i = .int .i64 j ∧ o = .int .i64 (q + r : Nat) ∧ Hid (OddN r j (fun i => (0 ≤ (wr_ D.2 i).1 ∧ (wr_ D.2 i).1 < 256) ∧ (wr_ D.2 i).2.length = 256))) (fun _ i => m - (intOf i).toNat)
        case atStart => exact ⟨0, 0, Nat.zero_le _, Nat.zero_le _, rfl, rfl, Lib.hid (odd_zero _)⟩
        case round =>
          obtain ⟨j, r, hj, hj2, rfl, rfl, HR⟩ := hrel
          have j0 : (0 : Int) ≤ j := by omega
          have hr := HR.out.1
          obtain ⟨t, ht⟩ : ∃ t, q + r = t := ⟨_, rfl⟩
          have t0 : (0 : Int) ≤ t := by omega
          have t1 : (t : Int) ≤ 10000 := by omega
          by_cases hlt : j < m ∧ j ≤ 4096
          · obtain ⟨hlt, hj3⟩ := hlt
            have j1 : (j : Int) < m := by omega
            have j3 : (j : Int) ≤ 4096 := by omega
            obtain ⟨b, off, p, A, l, c', s, rfl, _, hl, _, hc, hd, hA⟩ := HW.out.at_ hlt
            rw [ht]
            by_cases hl6 : l = 256
            · subst hl6
              have hne : (((256 : Nat) : Int) != 256) = false := by decide
              have hpl := rdPlace_any p w0
              by_cases hp : 0 ≤ p ∧ p < 256
              · have HO' := Lib.hid (HR.out.good (by rw [hl]; exact ⟨hp, hA.1⟩))
                simp only [decide_eq_true hp] at hpl
                have HP := Lib.hid hpl
                have HTT := Lib.hid ht
                clear hl hA hp hpl ht
                go_wp2_with fail
                refine HP.out.mono ?_
                rintro e w1 ⟨rfl, rfl⟩
                go_wp2_with fail
                go_round
                case rel => exact ⟨j + 1, r, by omega, by omega, by go_num, by rw [HTT.out], HO'⟩
                case measure => simp [intOf]; omega
              · have HO' := Lib.hid (HR.out.odd (by rw [hl]; exact fun hh => hp hh.1))
                simp only [decide_eq_false hp] at hpl
                have HP := Lib.hid hpl
                have HTT := Lib.hid ht
                clear hl hA hp hpl ht
                go_wp2_with fail
                refine HP.out.mono ?_
                rintro e w1 ⟨rfl, rfl⟩
                go_wp2_with fail
                go_round
                case rel => exact ⟨j + 1, r + 1, by omega, by omega, by go_num, by rw [← Nat.add_assoc, HTT.out]; go_num, HO'⟩
                case measure => simp [intOf]; omega
            · have HO' := Lib.hid (HR.out.odd (by rw [hl]; exact fun hh => hl6 (by rw [← hA.1]; exact hh.2)))
              have hne : ((l : Int) != 256) = true := by simp; omega
              have HTT := Lib.hid ht
              clear hl hA ht
              go_wp2_with fail
              go_round
              case rel => exact ⟨j + 1, r + 1, by omega, by omega, by go_num, by rw [← Nat.add_assoc, HTT.out]; go_num, HO'⟩
              case measure => simp [intOf]; omega
          · have hend2 : j = m ∨ (j = 4097 ∧ 4097 < m) := by omega
            have hmay := may_iff HO.out HR.out (by rw [HN.out]; exact HEND.out) (by rw [HM.out]; exact hend2)
            rw [HN.out, HM.out, ht] at hmay
            have HMAY := Lib.hid hmay
            have HBw := Lib.hid (show Below w.heap.size w w0 from HBl.out)
            rw [ht]
            have hgo : ((j : Int) < m → ¬ (j : Int) ≤ 4096) := by omega
            clear hend2 hmay ht hlt
            by_cases hjm : (j : Int) < m
            all_goals
              first
                | have j3 : ¬ (j : Int) ≤ 4096 := hgo hjm
                | have j3 : True := trivial
              clear hgo
              by_cases ht0 : t = 0
              · have htb : ((t : Int) == 0) = true := by simp; omega
                by_cases hn6 : n = 256
                · have hnb : ((n : Int) == 256) = true := by simp; omega
                  by_cases hm6 : (m : Int) ≤ 4096
                  · have hyes : MayD D := HMAY.out.1 ⟨ht0, hn6, by omega⟩
                    obtain rfl : R = true := by rw [← HRR.out]; exact decide_eq_true hyes
                    first
                      | (exfalso; omega)
                      | (clear hyes ht0 hn6
                         go_wp2_with fail
                         go_ret
                         exact ⟨rfl, HBw.out⟩)
                  · have hno : ¬ MayD D := fun hh => by have := (HMAY.out.2 hh).2.2; omega
                    obtain rfl : R = false := by rw [← HRR.out]; exact decide_eq_false hno
                    clear hno ht0 hn6
                    go_wp2_with fail
                    go_ret
                    exact ⟨rfl, HBw.out⟩
                · have hnb : ((n : Int) == 256) = false := by simp; omega
                  have hno : ¬ MayD D := fun hh => by have := (HMAY.out.2 hh).2.1; omega
                  obtain rfl : R = false := by rw [← HRR.out]; exact decide_eq_false hno
                  clear hno ht0 hn6
                  go_wp2_with fail
                  go_ret
                  exact ⟨rfl, HBw.out⟩
              · have htb : ((t : Int) == 0) = false := by simp; omega
                have hno : ¬ MayD D := fun hh => ht0 (HMAY.out.2 hh).1
                obtain rfl : R = false := by rw [← HRR.out]; exact decide_eq_false hno
                clear hno ht0
                go_wp2_with fail
                go_ret
                exact ⟨rfl, HBw.out⟩
end Go.Proofs.Ytgpojnhhcobcbaa
