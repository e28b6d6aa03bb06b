/-
  The document's own Great for layer 9: a disk that is not great has few blocks, few writes, few bytes.
-/
import Derived.Test.YtgpojnhhcobcbaaDisk
namespace Go.Proofs.Ytgpojnhhcobcbaa
open Go.RowKit Go.Shelf
set_option maxRecDepth 100000

/-- No piece of a disk is longer than what memory there is. -/
def Near (D : DkL) : Prop := (∀ i, i < D.1.length → (D.1.getD i []).length ≤ 140737488351232) ∧ ∀ i, i < D.2.length → (wr_ D.2 i).2.length ≤ 140737488351232
/-- What a disk that is not great is. -/
def Small (D : DkL) : Prop := D.1.length ≤ 500 ∧ (D.2.length ≤ 500 ∨ 4096 ≤ D.2.length) ∧ D.2.length ≤ 4106 ∧ sumD D < 2000000
/-- What Great answers: if it is no, the disk is small. -/
def GreatSays (D : DkL) (w : World) (e : Ending) (w' : World) : Prop := ∃ b, e = .returned (.bool b) ∧ (b = false → Small D) ∧ Below w.heap.size w w'
theorem small_fits {D : DkL} (h : Small D) : Fits D := ⟨by have := h.1; omega, by have := h.2.2.1; omega, by have := h.2.2.2; omega⟩
theorem great_yes {D : DkL} {w w' : World} (hb : Below w.heap.size w w') : GreatSays D w (.returned (.bool true)) w' := ⟨true, rfl, fun h => (by cases h), hb⟩
set_option maxHeartbeats 4000000 in
theorem rdGreat_any (x : DAt) (D : DkL) (w : World) (h : Dsk w w.heap.size x D) (hnear : Near D) : Calls Try.prog 21 #[dval x D] w (GreatSays D w) := by
  obtain ⟨ba, bc, wa, wc⟩ := x
  simp only [dval]
  have l1 := h.1.len_le
  have l2 := h.2.len_le
  obtain ⟨n, hn⟩ : ∃ n, D.1.length = n := ⟨_, rfl⟩
  obtain ⟨m, hm⟩ : ∃ m, D.2.length = m := ⟨_, rfl⟩
  rw [hn] at l1
  rw [hm] at l2
  have n0 : (0 : Int) ≤ n := by omega
  have m0 : (0 : Int) ≤ m := by omega
  have b0 := (Below.refl w.heap.size w).alloc (Nat.le_refl _) (.cells #[.slice ba D.1.length bc, .slice wa D.2.length wc] 25)
  have x0 := Blk.new w 25 #[.slice ba D.1.length bc, .slice wa D.2.length wc]
  have h0 := h.step b0
  rw [hn, hm] at b0 x0 h0 ⊢
  obtain ⟨w0, hw0⟩ : ∃ w0, w.alloc (.cells #[.slice ba n bc, .slice wa m wc] 25) = w0 := ⟨_, rfl⟩
  rw [hw0] at b0 x0 h0
  have c0 := x0.cell 0
  have c1 := x0.cell 1
  obtain ⟨hB, hW⟩ := h0
  simp only [hn, hm] at hB hW
  have HB := Lib.hid hB
  have HW := Lib.hid hW
  have HBl := Lib.hid b0
  have HN := Lib.hid hn
  have HM := Lib.hid hm
  have HNEAR := Lib.hid hnear
  clear h b0 x0 hB hW hn hm hnear
  by_cases hn5 : (500 : Int) < n
  · go_enter Try.func21, Try.ntmps21
    go_wp2_with fail
    go_ret
    exact great_yes HBl.out
  · by_cases hmid : (500 : Int) < m ∧ (m : Int) < 4096
    · obtain ⟨hm5, hm4⟩ := hmid
      go_enter Try.func21, Try.ntmps21
      go_wp2_with fail
      go_ret
      exact great_yes HBl.out
    · by_cases hm6 : (4106 : Int) < m
      · have hm5 : (500 : Int) < m := by omega
        have hm4 : ¬ (m : Int) < 4096 := by omega
        clear hmid
        go_enter Try.func21, Try.ntmps21
        go_wp2_with fail
        go_ret
        exact great_yes HBl.out
      · have hdim : n ≤ 500 ∧ (m ≤ 500 ∨ 4096 ≤ m) ∧ m ≤ 4106 := by omega
        have HDIM := Lib.hid hdim
        have hmb : (500 : Int) < m → ¬ (m : Int) < 4096 := fun hh hk => hmid ⟨hh, hk⟩
        clear hmid hdim
        by_cases hm5 : (500 : Int) < m
        all_goals
          first
            | have hm4 : ¬ (m : Int) < 4096 := hmb hm5
            | have hm4 : True := trivial
          clear hmb
          go_enter Try.func21, Try.ntmps21
          go_wp2_with fail
          clear hw0 hm4 hm5 hm6 hn5
          go_loop [3, 4] (fun t i => ∃ k : Nat, k ≤ n ∧ i = .int .i64 k ∧ t = .int .i64 (sumB D.1 k : Nat) ∧ sumB D.1 k ≤ 140737490351232) (fun _ i => n - (intOf i).toNat)
          case atStart => exact ⟨0, Nat.zero_le _, rfl, rfl, by simp [sumB]⟩
          case round =>
            obtain ⟨k, hk, rfl, rfl, hts⟩ := hrel
            have k0 : (0 : Int) ≤ k := by omega
            obtain ⟨t, ht⟩ : ∃ t, sumB D.1 k = t := ⟨_, rfl⟩
            rw [ht] at hts ⊢
            have t0 : (0 : Int) ≤ t := by omega
            have t1 : (t : Int) ≤ 140737490351232 := by omega
            by_cases hlt : k < n ∧ t < 2000000
            · obtain ⟨hlt, ht2⟩ := hlt
              have k1 : (k : Int) < n := by omega
              have t2 : (t : Int) < 2000000 := by omega
              obtain ⟨b, off, A, l, c', s, rfl, _, hl, hc, hA⟩ := HB.out.at_ hlt
              have hle := HNEAR.out.1 k (by rw [HN.out]; exact hlt)
              rw [hl, hA.1] at hle
              have hs : sumB D.1 (k + 1) = t + l := by rw [sumB, hl, hA.1, ht]
              have l0 : (0 : Int) ≤ l := by omega
              have l1 : (l : Int) ≤ 140737488351232 := by omega
              have HS := Lib.hid hs
              clear hl hA hs ht
              go_wp2_with fail
              go_round
              case rel => exact ⟨k + 1, by omega, by go_num, by rw [HS.out]; go_num, by rw [HS.out]; omega⟩
              case measure => simp [intOf]; omega
            · have hend : k = n ∨ 2000000 ≤ t := by omega
              have HEND := Lib.hid hend
              have HT := Lib.hid ht
              have hgo : ((k : Int) < n → ¬ (t : Int) < 2000000) := by omega
              clear hend ht hlt
              by_cases hkn : (k : Int) < n
              all_goals
                first
                  | have t3 : ¬ (t : Int) < 2000000 := hgo hkn
                  | have t3 : True := trivial
                clear hgo
                go_wp2_with fail
                clear hkn t3
                go_loop [3, 5] (fun u i => ∃ j : Nat, j ≤ m ∧ i = .int .i64 j ∧ u = .int .i64 (t + sumW D.2 j : Nat) ∧ t + sumW D.2 j ≤ 281474980702464) (fun _ i => m - (intOf i).toNat)
                case atStart => exact ⟨0, Nat.zero_le _, rfl, rfl, by simp [sumW]; omega⟩
                case round =>
                  obtain ⟨j, hj, rfl, rfl, hus⟩ := hrel
                  have j0 : (0 : Int) ≤ j := by omega
                  obtain ⟨u, hu⟩ : ∃ u, t + sumW D.2 j = u := ⟨_, rfl⟩
                  rw [hu] at hus ⊢
                  have u0 : (0 : Int) ≤ u := by omega
                  have u1 : (u : Int) ≤ 281474980702464 := by omega
                  by_cases hlt : j < m ∧ u < 2000000
                  · obtain ⟨hlt, hu2⟩ := hlt
                    have j1 : (j : Int) < m := by omega
                    have u2 : (u : Int) < 2000000 := by omega
                    obtain ⟨b, off, p, A, l, c', s, rfl, _, hl, _, hc, hd, hA⟩ := HW.out.at_ hlt
                    have hle := HNEAR.out.2 j (by rw [HM.out]; exact hlt)
                    rw [hl, hA.1] at hle
                    have hs : t + sumW D.2 (j + 1) = u + l := by rw [sumW, hl, hA.1, ← Nat.add_assoc, hu]
                    have l0 : (0 : Int) ≤ l := by omega
                    have l1 : (l : Int) ≤ 140737488351232 := by omega
                    have HS := Lib.hid hs
                    clear hl hA hs hu
                    go_wp2_with fail
                    go_round
                    case rel => exact ⟨j + 1, by omega, by go_num, by rw [HS.out]; go_num, by rw [HS.out]; omega⟩
                    case measure => simp [intOf]; omega
                  · have hend2 : j = m ∨ 2000000 ≤ u := by omega
                    have hsay : decide ((2000000 : Int) ≤ u) = false → Small D := by
                      intro hh
                      have hu3 : ¬ (2000000 : Int) ≤ u := by simpa using hh
                      have hju : j = m := by omega
                      have e1 := HEND.out
                      have hkn : k = n := by omega
                      obtain ⟨d1, d2, d3⟩ := HDIM.out
                      refine ⟨by rw [HN.out]; exact d1, by rw [HM.out]; exact d2, by rw [HM.out]; exact d3, ?_⟩
                      unfold sumD
                      rw [HN.out, HM.out, ← hju, ← hkn, HT.out]
                      omega
                    have hgo2 : ((j : Int) < m → ¬ (u : Int) < 2000000) := by omega
                    have HSAY := Lib.hid hsay
                    clear hsay hend2 hlt hu
                    by_cases hjm : (j : Int) < m
                    all_goals
                      first
                        | have u3 : ¬ (u : Int) < 2000000 := hgo2 hjm
                        | have u3 : True := trivial
                      clear hgo2
                      go_wp2_with fail
                      go_ret
                      first | exact ⟨_, rfl, HSAY.out, HBl.out⟩ | exact great_yes HBl.out
end Go.Proofs.Ytgpojnhhcobcbaa
