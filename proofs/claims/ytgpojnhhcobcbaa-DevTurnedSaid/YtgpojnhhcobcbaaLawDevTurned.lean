/-
  DevTurnedSaid: for any disk, place and byte (of a disk that is great the law itself answers what its example answers) a byte that is turned is told from what lasted by that byte alone, and a write that waits there covers it. No condition.
-/
import Derived.Test.YtgpojnhhcobcbaaRows
import Derived.Test.YtgpojnhhcobcbaaDiskOpen
import Derived.Test.YtgpojnhhcobcbaaDevLawC
namespace Go.Proofs.Ytgpojnhhcobcbaa
open Go.RowKit Go.Shelf
set_option maxRecDepth 100000

theorem tamper_no {D : DkL} {p q : Int} {b : UInt8} (h : ¬ (MayD D ∧ (0 ≤ p ∧ p < 256) ∧ 0 ≤ q ∧ q < 256)) : tamperO D p q b = (([], []), if MayD D then 2 else 8) := by
  unfold tamperO
  by_cases hm : MayD D
  · rw [if_pos hm, if_pos hm, if_neg (fun hl => h ⟨hm, hl⟩)]
  · rw [if_neg hm, if_neg hm]
theorem tamper_ok {D : DkL} {p q : Nat} {b : UInt8} (hm : MayD D) (hp : p < 256) (hq : q < 256) : tamperO D p q b = (turnedD D p q b, 0) := by
  rw [tamperO, if_pos hm, if_pos (by omega), Int.toNat_natCast, Int.toNat_natCast]
/-- Whether one of the first i writes waits for p. -/
def covI (ws : WrL) (p : Int) : Nat → Bool
  | 0 => false
  | i + 1 => covI ws p i || decide ((wr_ ws i).1 = p)
theorem cov_last {ws : WrL} {p : Int} : ∀ {n : Nat}, covI ws p n = true → lastTo ws (fun _ => true) p n ≠ none
  | 0, h => by cases h
  | n + 1, h => by
    intro h0
    have h1 := lastTo_none h0
    simp only [covI, Bool.or_eq_true, decide_eq_true_eq] at h
    rcases h with h | h
    · exact cov_last h (lastTo_no fun j hj => h1 j (by omega))
    · exact h1 n (Nat.lt_succ_self _) ⟨rfl, h⟩
theorem cov_none {ws : WrL} {p : Int} {n : Nat} (h : covI ws p n = false) : lastTo ws (fun _ => true) p n = none := by
  induction n with
  | zero => rfl
  | succ n ih =>
    simp only [covI, Bool.or_eq_false_iff, decide_eq_false_iff_not] at h
    refine lastTo_no fun j hj hh => ?_
    by_cases hjn : j = n
    · subst hjn; exact h.2 hh.2
    · exact lastTo_none (ih h.1) j (by omega) hh
theorem turned_covered {D : DkL} {p q : Nat} {b : UInt8} (h : covI D.2 (p : Int) D.2.length = true) : leftD (turnedD D p q b) (fun _ => true) p = leftD D (fun _ => true) p := by
  have h0 := cov_last h
  cases e : lastTo D.2 (fun _ => true) (p : Int) D.2.length with
  | none => exact absurd e h0
  | some j =>
    have e' : lastTo (turnedD D p q b).2 (fun _ => true) (p : Int) (turnedD D p q b).2.length = some j := e
    unfold leftD
    rw [e, e']
    rfl
theorem turned_bare {D : DkL} {p q : Nat} {b : UInt8} (hp : p < D.1.length) (h : covI D.2 (p : Int) D.2.length = false) : leftD D (fun _ => true) p = D.1.getD p [] ∧ leftD (turnedD D p q b) (fun _ => true) p = (D.1.getD p []).set q ((D.1.getD p []).getD q 0 ^^^ b) := by
  have e := cov_none h
  have e' : lastTo (turnedD D p q b).2 (fun _ => true) (p : Int) (turnedD D p q b).2.length = none := e
  refine ⟨?_, ?_⟩
  · unfold leftD
    rw [e]
  · unfold leftD
    rw [e']
    show (List.set _ _ _).getD p [] = _
    rw [getD_set _ _ _ _ _ hp, if_pos rfl]
theorem xor_zero (y : UInt8) : y ^^^ 0 = y := by simp
theorem xor_same {y b : UInt8} (h : y ^^^ b = y) : b = 0 := by
  have : y ^^^ (y ^^^ b) = y ^^^ y := by rw [h]
  rw [← UInt8.xor_assoc] at this
  simpa using this
theorem set_same_iff {s : List UInt8} {q : Nat} {b : UInt8} (hq : q < s.length) : s = s.set q (s.getD q 0 ^^^ b) ↔ b = 0 := by
  constructor
  · intro h
    have h1 : s.getD q 0 = (s.set q (s.getD q 0 ^^^ b)).getD q 0 := by rw [← h]
    rw [getD_set _ _ _ _ _ hq, if_pos rfl] at h1
    exact xor_same h1.symm
  · rintro rfl
    rw [xor_zero]
    refine (List.ext_getElem (by simp) fun i h1 h2 => ?_).symm
    rw [List.getElem_set]
    split
    · rename_i e
      subst e
      rw [List.getD_eq_getElem?_getD, List.getElem?_eq_getElem hq]
      rfl
    · rfl
/-- A row's byte, and its turned twin's. -/
theorem turned_row {D : DkL} {p q : Nat} {b : UInt8} (hp : p < D.1.length) (hq : q < (D.1.getD p []).length) (i k : Nat) : ((turnedD D p q b).1.getD i []).getD k 0 = if i = p ∧ k = q then (D.1.getD i []).getD k 0 ^^^ b else (D.1.getD i []).getD k 0 := by
  show ((List.set _ _ _).getD i []).getD k 0 = _
  rw [getD_set _ _ _ _ _ hp]
  by_cases hi : i = p
  · subst hi
    rw [if_pos rfl, getD_set _ _ _ _ _ hq]
    by_cases hk : k = q
    · subst hk
      rw [if_pos rfl, if_pos ⟨rfl, rfl⟩]
    · rw [if_neg hk, if_neg (fun h => hk h.2)]
  · rw [if_neg hi, if_neg (fun h => hi h.1)]
set_option maxHeartbeats 8000000 in
theorem devTurned_at (x : DAt) (D : DkL) (pi qi : Int) (b : UInt8) (w : World) (h : Dsk w w.heap.size x D) (hnear : Near D) :
    Calls Try.prog 11 #[dval x D, .int .i64 pi, .int .i64 qi, .int .u8 (b.toNat : Int)] w fun e w' => e = .returned (.bool true) ∧ Below w.heap.size w w' := by
  have hmx : Try.prog.follows Departure.mixedOrders = true := by kernel_rfl
  have hL0 := lawL_box w x D h
  obtain ⟨w0, hw0⟩ : ∃ w0, w.alloc (.cells #[.slice x.ba D.1.length x.bc, .slice x.wa D.2.length x.wc] 25) = w0 := ⟨_, rfl⟩
  rw [hw0] at hL0
  obtain ⟨B, hB⟩ : ∃ B, w.heap.size = B := ⟨_, rfl⟩
  rw [hB] at hL0 ⊢
  have HL := Lib.hid hL0
  have HBB := Lib.hid hB
  have HA := Lib.hid (alive_any w0)
  have HNR := Lib.hid hnear
  simp only [dval]
  clear h hL0 hnear
  go_enter Try.func11, Try.ntmps11
  go_wp2_with fail
  clear hw0 hB
  refine HA.out.mono ?_
  rintro e w1 ⟨rfl, b1⟩
  have HL1 := Lib.hid (HL.out.step b1)
  have HG := Lib.hid (rdGreat_any x D w1 HL1.out.dsk HNR.out)
  have c0 := HL1.out.c0
  have c1 := HL1.out.c1
  simp only [dval] at HG
  clear b1 HL HA
  go_wp2_with fail
  clear c0 c1
  refine HG.out.mono ?_
  rintro e w2 ⟨g, rfl, hsm, b2⟩
  have HL2 := Lib.hid (HL1.out.step b2)
  clear b2 HL1 HG
  cases g with
  | true =>
    go_wp2_with fail
    go_ret
    exact ⟨rfl, by rw [← HBB.out]; exact HL2.out.bel⟩
  | false =>
    clear hsm
    have HC := Lib.hid (dTamper_any x D pi qi b w2 HL2.out.dsk)
    have c0 := HL2.out.c0
    have c1 := HL2.out.c1
    simp only [dval] at HC
    go_wp2_with fail
    clear c0 c1
    obtain ⟨T, te, hto⟩ : ∃ K e, tamperO D pi qi b = (K, e) := ⟨_, _, rfl⟩
    rw [hto] at HC
    refine HC.out.mono ?_
    rintro e w3 ⟨u, rfl, hu, b3⟩
    have hL3 := HL2.out.step b3
    have hU := hL3.put hu.dsk
    have ba := alloc_b w3 (.cells #[.slice u.ba T.1.length u.bc, .slice u.wa T.2.length u.wc] 25)
    have hL4 := hL3.step ba
    obtain ⟨w4, hw4⟩ : ∃ w4, w3.alloc (.cells #[.slice u.ba T.1.length u.bc, .slice u.wa T.2.length u.wc] 25) = w4 := ⟨_, rfl⟩
    obtain ⟨g, hg⟩ : ∃ g, w3.heap.size = g := ⟨_, rfl⟩
    rw [hw4] at hU hL4
    rw [hg] at hU
    have HL4 := Lib.hid hL4
    have HU4 := Lib.hid hU
    simp only [dval]
    clear b3 hu hL3 hU ba hL4 HL2 HC
    by_cases hok : MayD D ∧ (0 ≤ pi ∧ pi < 256) ∧ 0 ≤ qi ∧ qi < 256
    · obtain ⟨hm, ⟨p0, p1⟩, q0, q1⟩ := hok
      obtain ⟨p, rfl⟩ := Int.eq_ofNat_of_zero_le p0
      obtain ⟨q, rfl⟩ := Int.eq_ofNat_of_zero_le q0
      have hp : p < 256 := by omega
      have hq : q < 256 := by omega
      rw [tamper_ok hm hp hq] at hto
      obtain ⟨hT, rfl⟩ := Prod.mk.inj hto
      have hd1 : D.1.length = 256 := hm.1.1
      have hT1 : T.1.length = 256 := by rw [← hT, ← hd1]; exact List.length_set ..
      have hT2 : T.2.length = D.2.length := by rw [← hT]; rfl
      have hmT : MayD T := by rw [← hT]; exact turned_may hm
      have hrow : ∀ i k, (T.1.getD i []).getD k 0 = if i = p ∧ k = q then (D.1.getD i []).getD k 0 ^^^ b else (D.1.getD i []).getD k 0 := fun i k => by
        rw [← hT]
        exact turned_row (by omega) (by rw [hm.1.2 p hp]; exact hq) i k
      have hleft : (covI D.2 (p : Int) D.2.length = true ∧ leftD T (fun _ => true) p = leftD D (fun _ => true) p) ∨ (covI D.2 (p : Int) D.2.length = false ∧ (leftD D (fun _ => true) p = leftD T (fun _ => true) p ↔ b = 0)) := by
        cases hc : covI D.2 (p : Int) D.2.length with
        | true => exact .inl ⟨rfl, by rw [← hT]; exact turned_covered hc⟩
        | false =>
          refine .inr ⟨rfl, ?_⟩
          obtain ⟨e1, e2⟩ := turned_bare (q := q) (b := b) (by omega) hc
          rw [← hT, e1, e2]
          exact set_same_iff (by rw [hm.1.2 p hp]; exact hq)
      have HM := Lib.hid hm
      have HMT := Lib.hid hmT
      have HROW := Lib.hid hrow
      have HLEFT := Lib.hid hleft
      have HT1 := Lib.hid (And.intro hT1 hd1)
      obtain ⟨m, hmm⟩ : ∃ m, D.2.length = m := ⟨_, rfl⟩
      have HT2 := Lib.hid (And.intro (hT2.trans hmm) hmm)
      have m0 : (0 : Int) ≤ m := by omega
      have m1 : (m : Int) ≤ 4096 := by have := hm.2.1; omega
      simp only [hT1, hT2, hmm] at hw4 ⊢
      clear hleft hrow hmT hT2 hT1 hd1 hT hto hm hmm
      go_wp2_with fail
      clear hw4 hg
      obtain ⟨ba, bc, wa, wc⟩ := x
      obtain ⟨ua, ub, uc, ud⟩ := u
      have c0 := HL4.out.c0
      have c1 := HL4.out.c1
      have d0 := HU4.out.c0
      have d1 := HU4.out.c1
      rw [HT1.out.2] at c0
      rw [HT2.out.2] at c1
      rw [HT1.out.1] at d0
      rw [HT2.out.1] at d1
      simp only at c0 c1 d0 d1
      go_loop [12, 13, 14] (fun i _ _ => ∃ j : Nat, j ≤ 256 ∧ i = .int .i64 j) (fun i _ _ => 256 - (intOf i).toNat)
      case atStart => exact ⟨0, Nat.zero_le _, rfl⟩
      case round =>
        obtain ⟨j, hj, rfl⟩ := hrel
        have j0 : (0 : Int) ≤ j := by omega
        by_cases hlt : j < 256
        · have j1 : (j : Int) < 256 := by omega
          obtain ⟨b1, o1, A1, l1, k1, s1, h1e, _, h1t, h1c, h1A⟩ := HL4.out.dsk.1.at_ (show j < D.1.length by rw [HT1.out.2]; exact hlt)
          obtain ⟨b2, o2, A2, l2, k2, s2, h2e, _, h2t, h2c, h2A⟩ := HU4.out.dsk.1.at_ (show j < T.1.length by rw [HT1.out.1]; exact hlt)
          simp only at h1e h2e
          subst h1e
          subst h2e
          have e1 : l1 = 256 := by rw [← h1A.1, ← h1t]; exact HM.out.1.2 j hlt
          have e2 : l2 = 256 := by rw [← h2A.1, ← h2t]; exact HMT.out.1.2 j hlt
          subst e1
          subst e2
          have hrow := HROW.out j
          rw [h1t, h2t] at hrow
          obtain ⟨f1, p1', rfl, _⟩ := h1A.2.2.2.2 (by omega)
          obtain ⟨f2, p2', rfl, _⟩ := h2A.2.2.2.2 (by omega)
          have HR := Lib.hid hrow
          have hA1 := fun k (hk : k < 256) => h1A.cellD k hk
          have hA2 := fun k (hk : k < 256) => h2A.cellD k hk
          have HA1 := Lib.hid hA1
          have HA2 := Lib.hid hA2
          clear h1t h2t h1A h2A hrow hA1 hA2
          go_wp2_with fail
          go_loop [13, 14] (fun k _ => ∃ l : Nat, l ≤ 256 ∧ k = .int .i64 l) (fun k _ => 256 - (intOf k).toNat)
          case atStart => exact ⟨0, Nat.zero_le _, rfl⟩
          case round =>
            obtain ⟨l, hl, rfl⟩ := hrel
            have l0 : (0 : Int) ≤ l := by omega
            by_cases hll : l < 256
            · have l1 : (l : Int) < 256 := by omega
              have e1 := HA1.out l hll
              have e2 := HA2.out l hll
              have er := HR.out l
              obtain ⟨v, hv⟩ : ∃ v, s1.getD l 0 = v := ⟨_, rfl⟩
              obtain ⟨z, hz⟩ : ∃ z, s2.getD l 0 = z := ⟨_, rfl⟩
              rw [hv] at e1 er
              rw [hz] at e2 er
              have hxor := xor8 v b
              by_cases hjp : j = p
              · subst hjp
                by_cases hlq : l = q
                · subst hlq
                  rw [if_pos ⟨rfl, rfl⟩] at er
                  subst er
                  go_wp2_with fail
                  go_round
                  case rel => exact ⟨l + 1, by omega, by go_num⟩
                  case measure => simp [intOf]; omega
                · rw [if_neg (fun h => hlq h.2)] at er
                  subst er
                  have hne : ((l : Int) == (q : Int)) = false := by simp; omega
                  go_wp2_with fail
                  go_round
                  case rel => exact ⟨l + 1, by omega, by go_num⟩
                  case measure => simp [intOf]; omega
              · rw [if_neg (fun h => hjp h.1)] at er
                subst er
                have hne : ((j : Int) == (p : Int)) = false := by simp; omega
                go_wp2_with fail
                go_round
                case rel => exact ⟨l + 1, by omega, by go_num⟩
                case measure => simp [intOf]; omega
            · obtain rfl : l = 256 := by omega
              go_wp2_with fail
              go_round
              case rel => exact ⟨j + 1, by omega, by go_num⟩
              case measure => simp [intOf]; omega
        · obtain rfl : j = 256 := by omega
          go_wp2_with fail
          go_loop [15, 16] (fun c i => ∃ k : Nat, k ≤ m ∧ i = .int .i64 k ∧ c = .bool (covI D.2 (p : Int) k)) (fun _ i => m - (intOf i).toNat)
          case atStart => exact ⟨0, Nat.zero_le _, rfl, rfl⟩
          case round =>
            obtain ⟨k, hk, rfl, rfl⟩ := hrel
            have k0 : (0 : Int) ≤ k := by omega
            by_cases hkm : k < m
            · have k1 : (k : Int) < m := by omega
              have hcs : covI D.2 (p : Int) (k + 1) = (covI D.2 (p : Int) k || decide ((wr_ D.2 k).1 = (p : Int))) := rfl
              obtain ⟨b3, o3, pk, A3, l3, c3, s3, hbe3, _, hl3, _, hca, hcd, _⟩ := HL4.out.dsk.2.at_ (show k < D.2.length by rw [HT2.out.2]; exact hkm)
              simp only at hbe3
              subst hbe3
              rw [hl3] at hcs
              cases hc : covI D.2 (p : Int) k with
              | true =>
                rw [hc, Bool.true_or] at hcs
                go_wp2_with fail
                go_round
                case rel => exact ⟨k + 1, by omega, by go_num, by rw [hcs]⟩
                case measure => simp [intOf]; omega
              | false =>
                rw [hc, Bool.false_or] at hcs
                by_cases hpk : pk = (p : Int)
                · subst hpk
                  rw [decide_eq_true rfl] at hcs
                  go_wp2_with fail
                  go_round
                  case rel => exact ⟨k + 1, by omega, by go_num, by rw [hcs]⟩
                  case measure => simp [intOf]; omega
                · rw [decide_eq_false hpk] at hcs
                  have hne : (pk == (p : Int)) = false := by simp; exact hpk
                  go_wp2_with fail
                  go_round
                  case rel => exact ⟨k + 1, by omega, by go_num, by rw [hcs]⟩
                  case measure => simp [intOf]; omega
            · obtain rfl : m = k := by omega
              have hcv := HLEFT.out
              rw [HT2.out.2] at hcv
              obtain ⟨S, hS⟩ : ∃ S, leftD D (fun _ => true) p = S := ⟨_, rfl⟩
              obtain ⟨S', hS'⟩ : ∃ S, leftD T (fun _ => true) p = S := ⟨_, rfl⟩
              have hr1 : readO D (p : Int) = (S, 0) := by rw [read_ok HM.out hp, hS]
              have hr2 : readO T (p : Int) = (S', 0) := by rw [read_ok HMT.out hp, hS']
              rw [hS, hS'] at hcv
              have HR1 := Lib.hid (dRead_any ⟨ba, bc, wa, wc⟩ D p w4 HL4.out.dsk)
              rw [hr1] at HR1
              simp only [dval, HT1.out.2, HT2.out.2] at HR1
              have HR2 := Lib.hid hr2
              have HCV := Lib.hid hcv
              clear hcv hr1 hr2 hS hS'
              go_wp2_with fail
              refine HR1.out.mono ?_
              rintro e w5 ⟨xv, rfl, hxo, b5⟩
              obtain ⟨XA, xc, rfl⟩ := own_slice hxo
              have HX5 := Lib.hid (own_bsl hxo)
              have HL5 := Lib.hid (HL4.out.step b5)
              have HU5 := Lib.hid (HU4.out.step b5)
              have HRT := Lib.hid (dRead_any ⟨ua, ub, uc, ud⟩ T p w5 HU5.out.dsk)
              rw [HR2.out] at HRT
              have d0 := HU5.out.c0
              have d1 := HU5.out.c1
              rw [HT1.out.1] at d0
              rw [HT2.out.1] at d1
              simp only [dval, HT1.out.1, HT2.out.1] at HRT d0 d1
              clear hxo b5 HL4 HU4 HR1 c0 c1
              go_wp2_with fail
              refine HRT.out.mono ?_
              rintro e w6 ⟨yv, rfl, hyo, b6⟩
              obtain ⟨YA, yc, rfl⟩ := own_slice hyo
              have hys := own_bsl hyo
              have hxs := HX5.out.step b6
              have V0 := hxs.conv
              have V1 := hys.conv
              have hL6 := HL5.out.step b6
              have hU6 := HU5.out.step b6
              have c1 := hL6.c1
              have e1 := hU6.c1
              rw [HT2.out.2] at c1
              rw [HT2.out.1] at e1
              simp only at c1 e1
              have HB6 := Lib.hid hL6.bel
              have hst := str_same S S'
              have HCV := HCV.out
              clear hyo b6 hys hxs hL6 hU6 HL5 HU5 HX5 HRT d0 d1
              rcases HCV with ⟨hc, rfl⟩ | ⟨hc, hi⟩
              · clear hst
                rw [hc]
                go_wp2_with fail
                go_ret
                exact ⟨rfl, by rw [← HBB.out]; exact HB6.out⟩
              · rw [hc]
                by_cases hb : b = 0
                · obtain rfl := hi.2 hb
                  subst hb
                  clear hst hi
                  go_wp2_with fail
                  go_ret
                  exact ⟨rfl, by rw [← HBB.out]; exact HB6.out⟩
                · have hne : S ≠ S' := fun h => hb (hi.1 h)
                  rw [decide_eq_false hne] at hst
                  have hb0 : ((b.toNat : Int) == 0) = false := by
                    rw [beq_eq_false_iff_ne]
                    intro h0
                    exact hb (UInt8.toNat_inj.1 (by show b.toNat = 0; omega))
                  clear hi hne
                  go_wp2_with fail
                  go_ret
                  exact ⟨rfl, by rw [← HBB.out]; exact HB6.out⟩
    · have hno := tamper_no (b := b) hok
      obtain ⟨e, he, hne⟩ : ∃ e : Int, (if MayD D then (2 : Int) else 8) = e ∧ (e = 2 ∨ e = 8) := by
        by_cases hm : MayD D
        · exact ⟨2, if_pos hm, .inl rfl⟩
        · exact ⟨8, if_neg hm, .inr rfl⟩
      rw [he, hto] at hno
      cases hno
      have c0 := HU4.out.c0
      have HB4 := Lib.hid HU4.out.bel
      simp only [List.length_nil] at hw4 c0 ⊢
      clear HL4 HU4 hto hok he
      rcases hne with rfl | rfl
      · go_wp2_with fail
        go_ret
        exact ⟨rfl, by rw [← HBB.out]; exact HB4.out⟩
      · go_wp2_with fail
        go_ret
        exact ⟨rfl, by rw [← HBB.out]; exact HB4.out⟩
theorem devTurned_walk (x : DAt) (D : DkL) (p q b : Int) (w : World) (h : Dsk w w.heap.size x D) (hnear : Near D) (_hp : (Lit.int .i64 p).wf = true) (_hq : (Lit.int .i64 q).wf = true) (hb : (Lit.int .u8 b).wf = true) :
    Calls Try.prog 11 #[dval x D, .int .i64 p, .int .i64 q, .int .u8 b] w fun e w' => e = .returned (.bool true) ∧ Below w.heap.size w w' := by
  obtain ⟨v, rfl⟩ := u8_of hb
  exact devTurned_at x D p q v w h hnear
end Go.Proofs.Ytgpojnhhcobcbaa
namespace Go.Proofs.Ytgpojnhhcobcbaa.devTurned
open Go.ChangeShapes Go.WideShapes Go.ChangeAt Go.RowKit
set_option linter.unusedVariables false

theorem own : ownKnob Try.prog.godebug = none := by kernel_rfl
theorem laidOut : laidOutB Try.prog = true := by kernel_rfl

set_option maxRecDepth 100000 in
theorem lifted (os : Os) (started : os.Started) (H : Type) (enc : TypeId × Value → H) :
    ReturnsInHanded {} Try.checked os 11 .any (Rows.devTurnedSpec.pre6 enc Try.prog Try.f11 Rows.devTurnedRow.domain false) (Rows.devTurnedSpec.post enc Try.prog Try.f11 false true false false) := by
  refine returnsInHanded_of_change_sized (C := Try.checked) own started (by kernel_rfl) Try.func11
    (ChangeSpec.witness6 (enc := enc) (C := Try.checked) false ⟨#[], #[.agg #[.slice none 0 0, .slice none 0 0], .int .i64 0, .int .i64 0, .int .u8 0], []⟩ 8 (by kernel_rfl) (by kernel_rfl) (by kernel_rfl) (by kernel_rfl)) ?_
  intro W base args ds gs before hval0 hW hcnd hsz _
  have hval : ∀ (j : Nat) t v, Try.f11.params[j]? = some t → args[j]? = some v → Value.okWide Try.prog W .any base t v := hval0
  have hW' := hW
  obtain ⟨p, q, hA0, hV, rfl, hfz, hnd⟩ := hW
  have hA : DataW.TrodAll enc Try.prog W 0 (fun _ => true) true Try.f11.params.toList args.toList ds p := hA0
  rw [Try.params11] at hA hval
  obtain ⟨v0, vs0, d0, ds0, p0, q0, hargs, rfl, rfl, h0, r0⟩ := trodAll_cons hA
  obtain ⟨v1, vs1, d1, ds1, p1, q1, rfl, rfl, rfl, h1, r1⟩ := trodAll_cons r0
  obtain ⟨v2, vs2, d2, ds2, p2, q2, rfl, rfl, rfl, h2, r2⟩ := trodAll_cons r1
  obtain ⟨v3, vs3, d3, ds3, p3, q3, rfl, rfl, rfl, h3, r3⟩ := trodAll_cons r2
  obtain ⟨rfl, rfl, rfl⟩ := trodAll_nil r3
  obtain rfl : args = #[v0, v1, v2, v3] := by cases args; simp_all
  obtain ⟨rfl, rfl⟩ := trodVars_none hV
  have k0 := h0
  have lt0 : ∀ x ∈ p0, x.block < W.heap.size := by obtain ⟨m, hm⟩ := k0; exact DataW.trod_lt m _ _ _ hm
  obtain ⟨x0, D0, rfl, w0, m0⟩ := open_disk (hval 0 25 v0 rfl rfl) h0 (fun n hn => by
    have := List.all_eq_true.1 hsz n (DataW.weights_mem_each (j := 0) (t := 25) (by kernel_rfl) rfl n hn)
    simpa using this)
  obtain ⟨a1, rfl, rfl, rfl, w1⟩ := open_int Try.underlying3 (hval 1 3 v1 rfl rfl) h1
  obtain ⟨a2, rfl, rfl, rfl, w2⟩ := open_int Try.underlying3 (hval 2 3 v2 rfl rfl) h2
  obtain ⟨a3, rfl, rfl, rfl, w3⟩ := open_int Try.underlying5 (hval 3 5 v3 rfl rfl) h3
  clear hA0 hval0
  refine (devTurned_walk x0 D0 a1 a2 a3 W w0 m0 w1 w2 w3).mono fun e W' ⟨he, bel⟩ => ?_
  subst he
  exact ⟨_, rfl, _, _, _, [], _, [], hW', trodAll_mk1 (shut_bool Try.underlying4 _), (trodAll_cons_mk (Below.trod laidOut (by kernel_rfl) (of_decide_eq_true (by kernel_rfl)) k0 bel lt0) (trodAll_cons_mk (shut_int Try.underlying3 w1) (trodAll_cons_mk (shut_int Try.underlying3 w2) (trodAll_cons_mk (shut_int Try.underlying5 w3) trodAll_mk0)))), rfl, bel.frame _, fun h => by cases h⟩

theorem over : Rows.devTurnedRow.holds Try.pinned (OpenSpec.ofChange Rows.devTurnedSpec) :=
  OpenClaim.holds_of_wide 11 Try.f11 rfl rfl rfl rfl rfl rfl rfl ⟨rfl, rfl, rfl, rfl, rfl⟩ rfl rfl rfl rfl rfl (by kernel_rfl) Try.func11 (by kernel_rfl)
    (of_decide_eq_true (by kernel_rfl)) (by unfold Func.isWrapper; first | (rw [if_pos (by decide +kernel)]; kernel_rfl) | (rw [if_neg (by decide +kernel)]; exact ⟨rfl, rfl⟩))
    (fun os started H enc _ => lifted os started H enc)

/-- The statement. -/
theorem proved : Rows.DevTurnedSaid := over
end Go.Proofs.Ytgpojnhhcobcbaa.devTurned
