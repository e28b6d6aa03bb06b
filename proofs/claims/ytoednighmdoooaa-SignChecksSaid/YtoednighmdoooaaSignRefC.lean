/-
  The document's own Check for layer 8 answers what sign.Check answers; Same tells whether two signers are alike.
-/
import Derived.Test.YtoednighmdoooaaSignRef
import Derived.Test.YtoednighmdoooaaSignRec
namespace Go.Proofs.Ytoednighmdoooaa
open Go.RowKit Go.Shelf
set_option maxRecDepth 100000

theorem rcheck_key (a : Option Addr) (len cap : Nat) (hl : len ≠ 16) (u v : Value) (w : World) : Calls Try.prog 15 #[.slice a len cap, u, v] w (ToldC (false, 2) w) := by
  have h1 : ((len : Int) != 16) = true := by simp; omega
  go_enter Try.func15, Try.ntmps15
  go_wp2_with fail
  go_ret2
  exact ⟨rfl, Below.refl _ _⟩
theorem rcheck_size (a : Option Addr) (cap : Nat) (u : Value) (c : Option Addr) (len capc : Nat) (hl : len ≠ 209) (w : World) : Calls Try.prog 15 #[.slice a 16 cap, u, .slice c len capc] w (ToldC (false, 8) w) := by
  have h2 : ((len : Int) != 209) = true := by simp; omega
  go_enter Try.func15, Try.ntmps15
  go_wp2_with fail
  go_ret2
  exact ⟨rfl, Below.refl _ _⟩
theorem rcheck_leaf (a : Option Addr) (cap : Nat) (u : Value) (gs off capc : Nat) (sg : List UInt8) (w : World) (hC : Bsl w w.heap.size (some ⟨gs, off, none⟩) 209 capc sg) (hl : ¬ (sg.getD 0 0).toNat < 8) : Calls Try.prog 15 #[.slice a 16 cap, u, .slice (some ⟨gs, off, none⟩) 209 capc] w (ToldC (false, 8) w) := by
  have hce := hC.cellD 0 (by omega)
  rw [Nat.add_zero] at hce
  obtain ⟨l, hle⟩ : ∃ l, (sg.getD 0 0).toNat = l := ⟨_, rfl⟩
  rw [hle] at hce hl
  have h2 : (7 : Int) < l := by omega
  clear hC hle
  go_enter Try.func15, Try.ntmps15
  go_wp2_with fail
  go_ret2
  exact ⟨rfl, Below.refl _ _⟩
set_option maxHeartbeats 8000000 in
theorem rcheck_ok (a : Option Addr) (cap : Nat) (pk : List UInt8) (b : Option Addr) (lenb capb : Nat) (s : List UInt8) (gs off capc : Nat) (sg : List UInt8) (w : World) (hA : Bsl w w.heap.size a 16 cap pk) (hB : Bsl w w.heap.size b lenb capb s) (hlen : lenb ≤ 100000) (hC : Bsl w w.heap.size (some ⟨gs, off, none⟩) 209 capc sg) (hl : (sg.getD 0 0).toNat < 8) :
    Calls Try.prog 15 #[.slice a 16 cap, .slice b lenb capb, .slice (some ⟨gs, off, none⟩) 209 capc] w (ToldC (decide (rcvL sg (fourW s).a.toNat 3 = pk), 0) w) := by
  have hcap : 209 ≤ capc := hC.2.1
  have hsl : sg.length = 209 := hC.1
  have hce := hC.cellD 0 (by omega)
  rw [Nat.add_zero] at hce
  have s2 : ∀ W : World, (Instr.slice 22 (.slice (some ⟨gs, off, none⟩) 209 capc) (some (.int .i64 1)) (some (.int .i64 161)) none).run Try.prog W = .ok (.slice (some ⟨gs, off + 1, none⟩) 160 (capc - 1)) W := fun W => slice_lh W gs off 209 capc 1 160 (by omega) (by omega)
  obtain ⟨l, hle⟩ : ∃ l, (sg.getD 0 0).toNat = l := ⟨_, rfl⟩
  have hrec := rRecover_ok l (by omega) b lenb capb s gs (off + 1) (capc - 1) ((sg.drop 1).take 160) w hB hlen (hC.win 1 160 (by omega))
  rw [hle] at hl hce
  obtain ⟨x, hx⟩ : ∃ x, (fourW s).a.toNat = x := ⟨_, rfl⟩
  rw [hx] at hrec ⊢
  have hc0 : comeL sg l x = rcvL sg x 0 := by rw [← hle]; rfl
  have hr0 : pubL l (takenL l (digL x) ((sg.drop 1).take 160) 10) = rcvL sg x 0 := hc0
  rw [hr0] at hrec
  have l0 : (0 : Int) ≤ l := by omega
  have l1 : (l : Int) < 8 := by omega
  have l2 : ¬ (7 : Int) < l := by omega
  have e64 : IntKind.i64.wrap (l : Int) = l := by unfold IntKind.wrap; simp [IntKind.bits, IntKind.signed]; omega
  have HREC := Lib.hid hrec
  have HC := Lib.hid hC
  have HA := Lib.hid hA
  have HLE := Lib.hid hle
  have HSL := Lib.hid hsl
  clear hrec hC hA hB hle hsl hc0 hr0 hx
  go_enter Try.func15, Try.ntmps15
  go_wp2_with fail
  refine HREC.out.mono ?_
  rintro e w2 ⟨v2, rfl, o2, b2⟩
  obtain ⟨a2, c2, rfl, h2⟩ := own_to o2
  have HQ2 := Lib.hid h2
  have HC2 := Lib.hid (HC.out.step b2)
  have HA2 := Lib.hid (HA.out.step b2)
  have HB2 := Lib.hid b2
  clear h2 b2 o2 HREC HC HA
  go_wp2_with fail
  go_loopw [8, 9, 11] (fun ta v i wr => ∃ k : Nat, k ≤ 3 ∧ i = .int .i64 k ∧ ta = .int .i64 ((l / 2 ^ k : Nat) : Int) ∧ ∃ an cn, v = .slice an 16 cn ∧ Bsl wr wr.heap.size an 16 cn (rcvL sg x k) ∧ Bsl wr wr.heap.size (some ⟨gs, off, none⟩) 209 capc sg ∧ Bsl wr wr.heap.size a 16 cap pk ∧ Below w.heap.size w wr) (fun _ _ i _ => 3 - (intOf i).toNat)
  case atStart => exact ⟨0, by omega, rfl, by simp, _, _, rfl, HQ2.out, HC2.out, HA2.out, HB2.out⟩
  case round =>
    obtain ⟨k, hk, rfl, rfl, an, cn, rfl, hv, hc, ha, hb⟩ := hrel
    have k0 : (0 : Int) ≤ k := by omega
    by_cases hlt : k < 3
    · have k2 : (k : Int) < 3 := by omega
      have s3 : ∀ W : World, (Instr.slice 22 (.slice (some ⟨gs, off, none⟩) 209 capc) (some (.int .i64 (161 + 16 * (k : Int)))) (some (.int .i64 (177 + 16 * (k : Int)))) none).run Try.prog W = .ok (.slice (some ⟨gs, off + (161 + 16 * k), none⟩) 16 (capc - (161 + 16 * k))) W := fun W => by
        have h := slice_lh W gs off 209 capc (161 + 16 * k) 16 (by omega) (by omega)
        have e1 : ((161 + 16 * k : Nat) : Int) = 161 + 16 * (k : Int) := by omega
        have e2 : (161 + 16 * (k : Int)) + ((16 : Nat) : Int) = 177 + 16 * (k : Int) := by omega
        rw [e1, e2] at h
        exact h
      have hw : Bsl wr wr.heap.size (some ⟨gs, off + (161 + 16 * k), none⟩) 16 (capc - (161 + 16 * k)) (sgB sg k) := hc.win (161 + 16 * k) 16 (by omega)
      obtain ⟨h8, h3⟩ := half_step l k hl
      have hev := rcvL_even sg x k
      have hod := rcvL_odd sg x k
      rw [HLE.out] at hev hod
      obtain ⟨t, ht⟩ : ∃ t, l / 2 ^ k = t := ⟨_, rfl⟩
      rw [ht] at h8 h3 hev hod ⊢
      have et : Int.tdiv (t : Int) 2 = ((t / 2 : Nat) : Int) := by rw [Int.tdiv_eq_ediv_of_nonneg (by omega)]; omega
      obtain ⟨t2, ht2⟩ : ∃ t2, t / 2 = t2 := ⟨_, rfl⟩
      rw [ht2] at et h3
      have et2 : (t : Int) / 2 = (t2 : Int) := by omega
      have t0 : (0 : Int) ≤ t := by omega
      obtain ⟨V, hV⟩ : ∃ V, rcvL sg x (k + 1) = V := ⟨_, rfl⟩
      rw [hV] at hev hod
      have HV := Lib.hid hV
      have HT2 := Lib.hid h3
      have HBr := Lib.hid hb
      have HCr := Lib.hid hc
      have HAr := Lib.hid ha
      by_cases hp : t % 2 = 0
      · have em : Int.tmod (t : Int) 2 = 0 := by rw [Int.tmod_eq_emod_of_nonneg (by omega)]; omega
        have em2 : (t : Int) % 2 = 0 := by omega
        have hj := rup_any k hlt an cn _ (some ⟨gs, off + (161 + 16 * k), none⟩) (capc - (161 + 16 * k)) _ wr hv hw
        rw [← hev hp] at hj
        have HJ := Lib.hid hj
        clear hv hw hc ha hb hj hp hev hod hV ht ht2 h3
        go_wp2_with fail
        refine HJ.out.mono ?_
        rintro e w6 ⟨v6, rfl, o6, b6⟩
        obtain ⟨a6, c6, rfl, h6⟩ := own_to o6
        have HQ6 := Lib.hid h6
        have HC6 := Lib.hid (HCr.out.step b6)
        have HA6 := Lib.hid (HAr.out.step b6)
        have HB6 := Lib.hid (HBr.out.trans (b6.mono HBr.out.size))
        clear h6 b6 o6 HJ
        go_wp2_with fail
        go_roundw
        case rel => exact ⟨k + 1, by omega, by go_num, by rw [HT2.out], _, _, rfl, by rw [HV.out]; exact HQ6.out, HC6.out, HA6.out, HB6.out⟩
        case measure => simp [intOf]; omega
      · have em : Int.tmod (t : Int) 2 = 1 := by rw [Int.tmod_eq_emod_of_nonneg (by omega)]; omega
        have em2 : (t : Int) % 2 = 1 := by omega
        have hj := rup_any k hlt (some ⟨gs, off + (161 + 16 * k), none⟩) (capc - (161 + 16 * k)) _ an cn _ wr hw hv
        rw [← hod hp] at hj
        have HJ := Lib.hid hj
        clear hv hw hc ha hb hj hp hev hod hV ht ht2 h3
        go_wp2_with fail
        refine HJ.out.mono ?_
        rintro e w6 ⟨v6, rfl, o6, b6⟩
        obtain ⟨a6, c6, rfl, h6⟩ := own_to o6
        have HQ6 := Lib.hid h6
        have HC6 := Lib.hid (HCr.out.step b6)
        have HA6 := Lib.hid (HAr.out.step b6)
        have HB6 := Lib.hid (HBr.out.trans (b6.mono HBr.out.size))
        clear h6 b6 o6 HJ
        go_wp2_with fail
        go_roundw
        case rel => exact ⟨k + 1, by omega, by go_num, by rw [HT2.out], _, _, rfl, by rw [HV.out]; exact HQ6.out, HC6.out, HA6.out, HB6.out⟩
        case measure => simp [intOf]; omega
    · obtain rfl : k = 3 := by omega
      have v1 := hv.conv
      have v2 := ha.conv
      obtain ⟨V, hV⟩ : ∃ V, rcvL sg x 3 = V := ⟨_, rfl⟩
      rw [hV] at v1
      have eq : ((strOf V).toList == (strOf pk).toList) = decide (V = pk) := by
        rw [strOf_toList, strOf_toList]
        by_cases h : V = pk <;> simp [h]
      have HE := Lib.hid eq
      have HV := Lib.hid hV
      have HB := Lib.hid hb
      clear hv ha hb hc eq hV
      go_wp2_with fail
      go_ret2
      exact ⟨by rw [HV.out, ← HE.out]; rfl, HB.out⟩
theorem rCheck_any (a : Option Addr) (len cap : Nat) (pk : List UInt8) (b : Option Addr) (lenb capb : Nat) (s : List UInt8) (c : Option Addr) (lenc capc : Nat) (sg : List UInt8) (w : World) (hA : Bsl w w.heap.size a len cap pk) (hB : Bsl w w.heap.size b lenb capb s) (hlen : lenb ≤ 100000) (hC : Bsl w w.heap.size c lenc capc sg) :
    Calls Try.prog 15 #[.slice a len cap, .slice b lenb capb, .slice c lenc capc] w (ToldC (schkO pk (fourW s).a.toNat sg) w) := by
  unfold schkO
  by_cases h1 : len = 16
  · subst h1
    rw [if_pos hA.1]
    by_cases h2 : lenc = 209
    · subst h2
      obtain ⟨gs, off, rfl, _, _⟩ := hC.2.2.2.2 (by omega)
      by_cases h3 : (sg.getD 0 0).toNat < 8
      · rw [if_pos ⟨hC.1, h3⟩]
        exact rcheck_ok a cap pk b lenb capb s gs off capc sg w hA hB hlen hC h3
      · rw [if_neg (fun h => h3 h.2)]
        exact rcheck_leaf a cap _ gs off capc sg w hC h3
    · rw [if_neg (fun h => h2 (by rw [← hC.1]; exact h.1))]
      exact rcheck_size a cap _ c lenc capc h2 w
  · rw [if_neg (by rw [hA.1]; exact h1)]
    exact rcheck_key a len cap h1 _ _ w
/-- Two signers that are alike. -/
theorem rSame_yes (a : Option Addr) (la ca : Nat) (n : Int) (b : Option Addr) (lb cb : Nat) (s : List UInt8) (w : World) (hA : Bsl w w.heap.size a la ca s) (hB : Bsl w w.heap.size b lb cb s) :
    Calls Try.prog 14 #[.agg #[.slice a la ca, .int .i64 n], .agg #[.slice b lb cb, .int .i64 n]] w fun e w' => e = .returned (.bool true) ∧ Below w.heap.size w w' := by
  obtain ⟨w1, hw1⟩ : ∃ w1, (w.alloc (.cells #[.slice a la ca, .int .i64 n] 24)).alloc (.cells #[.slice b lb cb, .int .i64 n] 24) = w1 := ⟨_, rfl⟩
  have b1 : Below w.heap.size w w1 := by rw [← hw1]; exact ((Below.refl _ w).alloc (Nat.le_refl _) _).alloc (by simp) _
  have v1 := (hA.step b1).conv
  have v2 := (hB.step b1).conv
  have qs : ((strOf s).toList == (strOf s).toList) = true := by simp
  have HB := Lib.hid b1
  subst hw1
  clear b1 hA hB
  go_enter Try.func14, Try.ntmps14
  go_wp2_with fail
  go_ret
  exact ⟨rfl, HB.out⟩
end Go.Proofs.Ytoednighmdoooaa
