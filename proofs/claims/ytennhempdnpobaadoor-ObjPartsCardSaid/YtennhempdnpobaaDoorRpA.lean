/-
  The document's own May, Check, Number and Get of pointers; nothing that was there is written.
-/
import Derived.Test.YtennhempdnpobaaDoorPtTop
namespace Go.Proofs.YtennhempdnpobaaDoor
open Go.RowKit Go.Shelf
set_option maxRecDepth 100000

theorem rpNone_any (p : Pt) (w : World) : Calls Tryd.prog 54 #[ptV p] w fun e w' => e = .returned (.bool (eqP p p0)) ∧ Below w.heap.size w w' := by
  obtain ⟨a, b, c, d, e⟩ := p
  have heq := eqPt_zero a b c d e
  go_enter Tryd.func54, Tryd.ntmps54
  go_wp2_with fail
  go_ret
  exact ⟨rfl, (Below.refl _ w).alloc (Nat.le_refl _) _⟩
theorem rpMay_any (p : Pt) (w : World) : Calls Tryd.prog 43 #[ptV p] w fun e w' => e = .returned (.bool (decide (MayP p))) ∧ Below w.heap.size w w' := by
  have hn := rpNone_any p (w.alloc (.cells (ptC p).toArray 42))
  have HB := Lib.hid ((Below.refl _ w).alloc (Nat.le_refl _) (.cells (ptC p).toArray 42))
  have HK := Lib.hid (show Blk (w.alloc (.cells (ptC p).toArray 42)) w.heap.size 42 (ptC p).toArray from Blk.new w _ _)
  obtain ⟨a, b, c, d, e⟩ := p
  by_cases h0 : eqP (a, b, c, d, e) p0 = true
  · have hm : decide (MayP (a, b, c, d, e)) = true := decide_eq_true (.inl ((eqP_iff _ _).1 h0))
    rw [hm]
    rw [h0] at hn
    have HN := Lib.hid hn
    clear hn hm h0
    go_enter Tryd.func43, Tryd.ntmps43
    go_wp2_with (go_at_call 54; refine HN.out.mono ?_; rintro ev w1 ⟨rfl, b1⟩; have HB1 := Lib.hid (HB.out.trans (b1.mono (by simp [ptC]))); clear b1)
    go_ret
    exact ⟨rfl, HB1.out⟩
  · have h0' : eqP (a, b, c, d, e) p0 = false := by simpa using h0
    rw [h0'] at hn
    have hne : (a, b, c, d, e) ≠ p0 := fun hh => h0 ((eqP_iff _ _).2 hh)
    have HN := Lib.hid hn
    clear hn
    by_cases g1 : 12 ≤ a
    · by_cases g2 : a < 256
      · by_cases g3 : 1 ≤ b
        · have hm : decide (MayP (a, b, c, d, e)) = decide (b ≤ 16777215) := by
            rw [decide_eq_decide]
            exact ⟨fun hh => (hh.resolve_left hne).2.2, fun hh => .inr ⟨⟨g1, g2⟩, g3, hh⟩⟩
          have hm2 : decide (b ≤ 16777215) = decide ((b : Int) ≤ 16777215) := by rw [decide_eq_decide]; omega
          rw [hm, hm2]
          have i1 : (1 : Int) ≤ (b : Int) := by omega
          clear hm hm2 h0 h0' hne
          go_enter Tryd.func43, Tryd.ntmps43
          go_wp2_with (go_at_call 54; refine HN.out.mono ?_; rintro ev w1 ⟨rfl, b1⟩; have HB1 := Lib.hid (HB.out.trans (b1.mono (by simp [ptC]))); obtain ⟨c0, c1, c2, c3, c4⟩ := (HK.out.below b1 HK.out.lt).five; clear b1)
          go_ret
          exact ⟨rfl, HB1.out⟩
        · have hm : decide (MayP (a, b, c, d, e)) = false := decide_eq_false fun hh => g3 (hh.resolve_left hne).2.1
          rw [hm]
          have i1 : ¬ (1 : Int) ≤ (b : Int) := by omega
          clear hm h0 h0' hne
          go_enter Tryd.func43, Tryd.ntmps43
          go_wp2_with (go_at_call 54; refine HN.out.mono ?_; rintro ev w1 ⟨rfl, b1⟩; have HB1 := Lib.hid (HB.out.trans (b1.mono (by simp [ptC]))); obtain ⟨c0, c1, c2, c3, c4⟩ := (HK.out.below b1 HK.out.lt).five; clear b1)
          go_ret
          exact ⟨rfl, HB1.out⟩
      · have hm : decide (MayP (a, b, c, d, e)) = false := decide_eq_false fun hh => g2 (hh.resolve_left hne).1.2
        rw [hm]
        clear hm h0 h0' hne
        go_enter Tryd.func43, Tryd.ntmps43
        go_wp2_with (go_at_call 54; refine HN.out.mono ?_; rintro ev w1 ⟨rfl, b1⟩; have HB1 := Lib.hid (HB.out.trans (b1.mono (by simp [ptC]))); obtain ⟨c0, c1, c2, c3, c4⟩ := (HK.out.below b1 HK.out.lt).five; clear b1)
        go_ret
        exact ⟨rfl, HB1.out⟩
    · have hm : decide (MayP (a, b, c, d, e)) = false := decide_eq_false fun hh => g1 (hh.resolve_left hne).1.1
      rw [hm]
      clear hm h0 h0' hne
      go_enter Tryd.func43, Tryd.ntmps43
      go_wp2_with (go_at_call 54; refine HN.out.mono ?_; rintro ev w1 ⟨rfl, b1⟩; have HB1 := Lib.hid (HB.out.trans (b1.mono (by simp [ptC]))); obtain ⟨c0, c1, c2, c3, c4⟩ := (HK.out.below b1 HK.out.lt).five; clear b1)
      go_ret
      exact ⟨rfl, HB1.out⟩
set_option maxHeartbeats 1000000 in
theorem rpNumber_any (n k : Nat) (hn : n < 4294967296) (hk : k ≤ 4) (w : World) : Calls Tryd.prog 55 #[.int .u32 n, .int .i64 k] w (OwnV k (leB k n) w) := by
  have k0 : (0 : Int) ≤ k := by omega
  have k4 : (k : Int) ≤ 4 := by omega
  go_enter Tryd.func55, Tryd.ntmps55
  go_wp2_with fail
  go_loopw [0, 5, 6] (fun x v i wr => ∃ j : Nat, j ≤ k ∧ i = .int .i64 j ∧ x = .int .u32 ((n / 256 ^ j : Nat) : Int) ∧ wr.ownsRow w.heap.size 5 1 v j (vals (leB j n)) ∧ Below w.heap.size w wr) (fun _ _ i _ => k - (intOf i).toNat)
  case atStart => exact ⟨0, Nat.zero_le _, rfl, by simp, own_nil _ _, Below.refl _ _⟩
  case round =>
    obtain ⟨j, hj, rfl, rfl, ho, hb⟩ := hrel
    have HO := Lib.hid ho; clear ho
    have HB := Lib.hid hb; clear hb
    have j0 : (0 : Int) ≤ j := by omega
    by_cases hlt : j < k
    · have j1 : (j : Int) < k := by omega
      obtain ⟨y, hy⟩ : ∃ y, n / 256 ^ j = y := ⟨_, rfl⟩
      have hy1 : y ≤ n := by rw [← hy]; exact Nat.div_le_self _ _
      have hbt : (byteAt n j).toNat = y % 256 := by rw [byteAt_toNat, hy]
      have hnx : n / 256 ^ (j + 1) = y / 256 := by rw [Nat.pow_succ, ← Nat.div_div_eq_div_mul, hy]
      rw [hy]
      have y0 : (0 : Int) ≤ y := by omega
      have y1 : (y : Int) ≤ 4294967295 := by omega
      have m0 : (0 : Int) ≤ (y : Int) % 256 := by omega
      have m1 : (y : Int) % 256 ≤ 255 := by omega
      have hd0 : (0 : Int) ≤ (y : Int) / 256 := by omega
      have hd1 : (y : Int) / 256 ≤ 4294967295 := by omega
      have t1 : Int.tmod (y : Int) 256 = (y : Int) % 256 := Int.tmod_eq_emod_of_nonneg y0
      have t2 : Int.tdiv (y : Int) 256 = (y : Int) / 256 := Int.tdiv_eq_ediv_of_nonneg y0
      have eb : (((byteAt n j).toNat : Nat) : Int) = (y : Int) % 256 := by rw [hbt]; simp
      have o1 := one_bsl wr (byteAt n j)
      rw [eb] at o1
      have HE1 := Lib.hid o1; clear o1
      have HOA := Lib.hid (HO.out.alloc (.cells #[.int .u8 ((y : Int) % 256)] 5))
      have HBA := Lib.hid (HB.out.alloc HB.out.size (.cells #[.int .u8 ((y : Int) % 256)] 5))
      have HNX := Lib.hid hnx
      obtain ⟨v, hv⟩ : ∃ v : Value, u5 = v := ⟨_, rfl⟩
      rw [hv] at HO HOA ⊢
      clear hv hbt hnx hy eb
      go_wp2_with (at_builtin
                   refine wpList_append_bsl rfl (.tmp 12) (.tmp 16) rfl w.heap.size v j _ rfl HOA.out _ (some ⟨wr.heap.size, 0, none⟩) 1 1 [byteAt n j] rfl HE1.out (by omega) HBA.out.size ?_
                   intro v2 w2 h2 hgr2
                   have HO2 := Lib.hid h2
                   have HB2 := Lib.hid (app_below HBA.out HOA.out hgr2 HBA.out.size)
                   clear h2 hgr2)
      go_roundw
      case rel =>
        refine ⟨j + 1, by omega, by go_num, ?_, ?_, HB2.out⟩
        · rw [HNX.out]
          first | rfl | go_num
        · rw [leB_take]
          exact HO2.out
      case measure => simp [intOf]; omega
    · obtain rfl : j = k := by omega
      go_wp2_with fail
      go_ret
      exact ⟨_, rfl, HO.out, HB.out⟩
theorem leN_drop_cons (s : List UInt8) (i : Nat) (hi : i < s.length) : leN (s.drop i) = s[i].toNat + 256 * leN (s.drop (i + 1)) := by
  rw [List.drop_eq_getElem_cons hi, leN]
set_option maxHeartbeats 1000000 in
theorem rpGet_any (a : Option Addr) (len cap : Nat) (s : List UInt8) (w : World) (hB : Bsl w w.heap.size a len cap s) (h4 : len ≤ 4) : Calls Tryd.prog 45 #[.slice a len cap] w fun e w' => e = .returned (.int .u32 (leN s : Nat)) ∧ w = w' := by
  have i0 : (0 : Int) ≤ (len : Int) := by omega
  have i1 : (len : Int) ≤ 4 := by omega
  have HB := Lib.hid hB; clear hB
  go_enter Tryd.func45, Tryd.ntmps45
  go_wp2_with fail
  go_loopw [3, 4] (fun n i wr => ∃ j : Nat, j ≤ len ∧ i = .int .i64 ((j : Int) - 1) ∧ n = .int .u32 ((leN (s.drop j) : Nat) : Int) ∧ wr = w) (fun _ i _ => (intOf i + 1).toNat)
  case atStart => exact ⟨len, Nat.le_refl _, rfl, by rw [List.drop_eq_nil_of_le (by have := HB.out.1; omega)]; rfl, rfl⟩
  case round =>
    obtain ⟨j, hj, rfl, rfl, rfl⟩ := hrel
    rcases Nat.eq_zero_or_pos j with h0 | h0
    · subst h0
      have e0 : (((0 : Nat) : Int) - 1) = -1 := by omega
      rw [e0, List.drop_zero]
      go_wp2_with fail
      go_ret
      exact ⟨rfl, rfl⟩
    · obtain ⟨i, rfl⟩ : ∃ i, j = i + 1 := ⟨j - 1, by omega⟩
      have hil : i < s.length := by have := HB.out.1; omega
      obtain ⟨b, off, rfl, _, hc⟩ := HB.out.2.2.2.2 (by omega)
      have c0 := hc i hil
      have hstep := leN_drop_cons s i hil
      have hlt := leN_lt (s.drop (i + 1))
      have hl3 : (s.drop (i + 1)).length ≤ 3 := by have := HB.out.1; simp; omega
      have hp : 256 ^ (s.drop (i + 1)).length ≤ 256 ^ 3 := Nat.pow_le_pow_right (by omega) hl3
      obtain ⟨x, hx⟩ : ∃ x : Nat, s[i].toNat = x := ⟨_, rfl⟩
      have hx1 : x ≤ 255 := by rw [← hx]; have := (s[i]).toNat_lt; omega
      obtain ⟨n, hn⟩ : ∃ n, leN (s.drop (i + 1)) = n := ⟨_, rfl⟩
      rw [hn] at hstep hlt ⊢
      rw [hx] at c0 hstep
      have e1 : (((i + 1 : Nat) : Int) - 1) = (i : Int) := by omega
      rw [e1]
      have q0 : (0 : Int) ≤ i := by omega
      have q1 : (i : Int) < len := by omega
      have q2 : (0 : Int) ≤ n := by omega
      have q3 : (n : Int) ≤ 16777215 := by omega
      have q4 : (0 : Int) ≤ x := by omega
      have q5 : (x : Int) ≤ 255 := by omega
      have HST := Lib.hid hstep
      clear hstep hlt hp hn hx e1 hl3 hc
      go_wp2_with fail
      go_roundw
      case rel =>
        refine ⟨i, by omega, by first | rfl | go_num, ?_, by first | rfl | trivial⟩
        rw [HST.out]
        congr 1
        omega
      case measure => simp [intOf]
end Go.Proofs.YtennhempdnpobaaDoor
