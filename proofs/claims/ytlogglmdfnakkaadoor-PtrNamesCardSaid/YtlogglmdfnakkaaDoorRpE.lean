/-
  The document's own Rows and Same of pointers.
-/
import Derived.Test.YtlogglmdfnakkaaDoorRpC
import Derived.Test.YtlogglmdfnakkaaDoorPRow
namespace Go.Proofs.YtlogglmdfnakkaaDoor
open Go.RowKit Go.Shelf
set_option maxRecDepth 100000

/-- The pointers of a row's first k windows. -/
def rowsTo (s : List UInt8) (k : Nat) : List Pt := (List.range k).map fun i => getP (winP s i)
theorem rowsTo_step (s : List UInt8) (k : Nat) : rowsTo s (k + 1) = rowsTo s k ++ [getP (winP s k)] := by simp [rowsTo, List.range_succ]
theorem rowsTo_length (s : List UInt8) (k : Nat) : (rowsTo s k).length = k := by simp [rowsTo]
theorem rowsL_length (s : List UInt8) : (rowsL s).length = 16 := by simp [rowsL]
set_option maxHeartbeats 2000000 in
theorem rpRows_any (a : Option Addr) (len cap : Nat) (s : List UInt8) (w : World) (hB : Bsl w w.heap.size a len cap s) : Calls Tryd.prog 18 #[.slice a len cap] w (OutL (rowsO s).1 (rowsO s).2 w) := by
  have hl := hB.1
  have i0 : (0 : Int) ≤ (len : Int) := by omega
  have i1 : (len : Int) ≤ 9223372036854775807 := by have h1 := hB.2.1; have h2 := hB.2.2.1; unfold maxLen at h2; omega
  rw [rowsO]
  by_cases h : s.length = 256
  · rw [if_pos h]
    obtain rfl : len = 256 := by omega
    obtain ⟨b, off, ea, hblt, hcell⟩ := hB.2.2.2.2 (by omega)
    subst ea
    have hcap := hB.2.1
    obtain ⟨R, hR⟩ : ∃ R, (if ∀ p ∈ rowsL s, MayP p then (rowsL s, (0 : Int)) else ([], 8)) = R := ⟨_, rfl⟩
    rw [hR]
    have HRR := Lib.hid hR; clear hR
    have HBB := Lib.hid hB; clear hB
    clear hl i0 i1
    have HS := Lib.hid h; clear h
    have HBL := Lib.hid hblt
    have HCE := Lib.hid hcell
    clear hblt hcell
    go_enter Tryd.func18, Tryd.ntmps18
    go_wp2_with fail
    go_loopw [4, 5] (fun v i wr => ∃ k : Nat, k ≤ 16 ∧ i = .int .i64 k ∧ (∀ j, j < k → MayP (getP (winP s j))) ∧ PRow wr w.heap.size v (rowsTo s k) ∧ Below w.heap.size w wr) (fun _ i _ => 16 - (intOf i).toNat)
    case atStart => exact ⟨0, Nat.zero_le _, rfl, fun j hj => absurd hj (Nat.not_lt_zero _), prow_nil _ _, Below.refl _ _⟩
    case round =>
      obtain ⟨k, hk, rfl, hmay, ho, hb⟩ := hrel
      have k0 : (0 : Int) ≤ k := by omega
      have HO := Lib.hid ho; clear ho
      have HB := Lib.hid hb; clear hb
      have HM := Lib.hid hmay; clear hmay
      obtain ⟨v, hv⟩ : ∃ v : Value, u4 = v := ⟨_, rfl⟩
      rw [hv] at HO ⊢
      clear hv
      by_cases hlt : k < 16
      · have k1 : (k : Int) < 16 := by omega
        have k2 : (k : Int) ≤ 15 := by omega
        have hsl := fun W => slice_lh W b off 256 cap (16 * k) 16 (by omega) (by omega)
        have ek : ((16 * k : Nat) : Int) = 16 * (k : Int) := by omega
        simp only [ek] at hsl
        have hbw := ((HBB.out.below HB.out).more HB.out.size).win (16 * k) 16 (by omega)
        have hread := rpRead_any _ 16 _ _ wr hbw
        have hlen : ((s.drop (16 * k)).take 16).length = 16 := win_length (by have := HS.out; omega)
        rw [readO, if_pos hlen] at hread
        have hst := rowsTo_step s k
        have hwf := wf_getP (winP s k)
        rw [show (s.drop (16 * k)).take 16 = winP s k from rfl] at hread
        obtain ⟨P, hP⟩ : ∃ P, getP (winP s k) = P := ⟨_, rfl⟩
        rw [hP] at hread hst hwf
        have HST := Lib.hid hst
        have HP := Lib.hid hP
        have HWF := Lib.hid hwf
        have hrl := rowsTo_length s k
        have HRL := Lib.hid hrl
        clear hst hP hwf hlen hbw ek hrl
        by_cases hm : MayP P
        · rw [if_pos hm] at hread
          have HMP := Lib.hid hm
          clear hm
          obtain ⟨a', b', c', d', e'⟩ := P
          have HRD := Lib.hid hread
          clear hread
          go_wp2_with (first
            | (go_at_call 16
               refine HRD.out.mono ?_
               rintro ev w1 ⟨rfl, b1⟩
               have bx := (Below.refl w1.heap.size w1).alloc (Nat.le_refl _) (.cells (ptC (a', b', c', d', e')).toArray 28)
               have by_ := bx.alloc bx.size (.cells (ptC (a', b', c', d', e')).toArray 28)
               have bz := b1.trans (by_.mono b1.size)
               have HB1 := Lib.hid (HB.out.trans (bz.mono HB.out.size))
               have HO1 := Lib.hid (HO.out.below bz)
               have hpt := one_pts (w1.alloc (.cells (ptC (a', b', c', d', e')).toArray 28)) (a', b', c', d', e') HWF.out
               rw [World.size_alloc, World.size_alloc] at hpt
               have HPT := Lib.hid hpt
               clear hpt
               clear b1 bx by_ bz)
            | (at_builtin
               refine wpList_append_prow rfl (.tmp 29) (.tmp 31) rfl w.heap.size v _ rfl HO1.out _ _ 1 1 [(a', b', c', d', e')] rfl HPT.out (by rw [HRL.out]; omega) HB1.out.size ?_
               intro v2 w2 h2 hg2
               rw [← HST.out] at h2
               have HO2 := Lib.hid h2
               have HB2 := Lib.hid (app_below HB1.out HO1.out.1 hg2 HB1.out.size)
               clear h2 hg2))
          go_roundw
          case rel =>
            refine ⟨k + 1, by omega, by go_num, fun j hj => ?_, HO2.out, HB2.out⟩
            by_cases e : j = k
            · subst e
              rw [HP.out]
              exact HMP.out
            · exact HM.out j (by omega)
          case measure => simp [intOf]; omega
        · rw [if_neg hm] at hread
          have hno : ¬ ∀ p ∈ rowsL s, MayP p := fun hall => hm (by
            rw [← HP.out]
            exact hall _ (List.mem_map.2 ⟨k, List.mem_range.2 hlt, rfl⟩))
          have hR := HRR.out
          rw [if_neg hno] at hR
          subst hR
          clear hm hno
          have HRD := Lib.hid hread
          clear hread
          go_wp2_with (go_at_call 16
                       refine HRD.out.mono ?_
                       rintro ev w1 ⟨rfl, b1⟩
                       have bx := (Below.refl w1.heap.size w1).alloc (Nat.le_refl _) (.cells (ptC p0).toArray 28)
                       have HB1 := Lib.hid (HB.out.trans ((b1.trans (bx.mono b1.size)).mono HB.out.size))
                       clear b1 bx)
          go_ret2
          exact ⟨_, rfl, prow_nil _ _, HB1.out⟩
      · obtain rfl : k = 16 := by omega
        have hall : ∀ p ∈ rowsL s, MayP p := fun p hp => by
          obtain ⟨i, hi, rfl⟩ := List.mem_map.1 hp
          exact HM.out i (List.mem_range.1 hi)
        have hR := HRR.out
        rw [if_pos hall] at hR
        subst hR
        clear hall
        go_wp2_with fail
        go_ret2
        exact ⟨_, rfl, HO.out, HB.out⟩
  · rw [if_neg h]
    have hne : ¬ (len : Int) = 256 := by omega
    clear hl h hB
    go_enter Tryd.func18, Tryd.ntmps18
    go_wp2_with fail
    go_ret2
    exact ⟨_, rfl, prow_nil _ _, Below.refl _ _⟩
theorem list_same {L M : List Pt} (hl : L.length = M.length) (h : ∀ j, j < L.length → L.getD j p0 = M.getD j p0) : L = M := by
  apply List.ext_getElem hl
  intro i h1 h2
  have := h i h1
  rwa [List.getD_eq_getElem?_getD, List.getElem?_eq_getElem h1, List.getD_eq_getElem?_getD, List.getElem?_eq_getElem h2] at this
set_option maxHeartbeats 1000000 in
theorem rpSame_any (a : Option Addr) (n ca : Nat) (L : List Pt) (b : Option Addr) (m cb : Nat) (M : List Pt) (w : World) (hL : Pts w w.heap.size a n ca L) (hM : Pts w w.heap.size b m cb M) :
    Calls Tryd.prog 19 #[.slice a n ca, .slice b m cb] w fun e w' => e = .returned (.bool (decide (L = M))) ∧ Below w.heap.size w w' := by
  have hl := hL.1
  have hm := hM.1
  have i0 : (0 : Int) ≤ (n : Int) := by omega
  have i1 : (n : Int) ≤ 9223372036854775807 := by have h1 := hL.2.1; have h2 := hL.2.2.1; unfold maxLen at h2; omega
  have hmx : Tryd.prog.follows Departure.mixedOrders = true := by kernel_rfl
  obtain ⟨R, hR⟩ : ∃ R, decide (L = M) = R := ⟨_, rfl⟩
  rw [hR]
  by_cases hnm : n = m
  · subst hnm
    have HLL := Lib.hid hL; clear hL
    have HMM := Lib.hid hM; clear hM
    have HR := Lib.hid hR; clear hR
    have HLN := Lib.hid hl; clear hl
    have HMN := Lib.hid hm; clear hm
    go_enter Tryd.func19, Tryd.ntmps19
    go_wp2_with fail
    go_loopw [5] (fun i wr => ∃ k : Nat, k ≤ n ∧ i = .int .i64 k ∧ (∀ j, j < k → L.getD j p0 = M.getD j p0) ∧ Below w.heap.size w wr) (fun i _ => n - (intOf i).toNat)
    case atStart => exact ⟨0, Nat.zero_le _, rfl, fun j hj => absurd hj (Nat.not_lt_zero _), Below.refl _ _⟩
    case round =>
      obtain ⟨k, hk, rfl, hsame, hb⟩ := hrel
      have k0 : (0 : Int) ≤ k := by omega
      have HB := Lib.hid hb; clear hb
      have HSM := Lib.hid hsame; clear hsame
      by_cases hlt : k < n
      · have k1 : (k : Int) < n := by omega
        obtain ⟨b1, o1, ea, hblt, _, c0, c1, c2, c3, c4⟩ := (HLL.out.below HB.out).cells k hlt
        obtain ⟨b2, o2, eb, hblt2, _, d0, d1, d2, d3, d4⟩ := (HMM.out.below HB.out).cells k hlt
        subst ea
        subst eb
        obtain ⟨P, hP⟩ : ∃ P, L.getD k p0 = P := ⟨_, rfl⟩
        obtain ⟨Q, hQ⟩ : ∃ Q, M.getD k p0 = Q := ⟨_, rfl⟩
        rw [hP] at c0 c1 c2 c3 c4
        rw [hQ] at d0 d1 d2 d3 d4
        have HP := Lib.hid hP
        have HQ := Lib.hid hQ
        clear hP hQ hblt hblt2
        have heq : eqP P Q = decide (P = Q) := rfl
        by_cases hpq : P = Q
        · rw [decide_eq_true hpq] at heq
          obtain ⟨x, y, z, t, u⟩ := P
          obtain ⟨x', y', z', t', u'⟩ := Q
          have hlit := eqPt_lit x y z t u x' y' z' t' u'
          rw [heq] at hlit
          have HPQ := Lib.hid hpq
          clear hpq heq
          go_wp2_with fail
          go_quiet (fail)
          go_wp2_with fail
          go_roundw
          case rel =>
            refine ⟨k + 1, by omega, by go_num, fun j hj => ?_, below_drewN HB.out _⟩
            by_cases e : j = k
            · subst e
              rw [HP.out, HQ.out]
              exact HPQ.out
            · exact HSM.out j (by omega)
          case measure => simp [intOf]; omega
        · rw [decide_eq_false hpq] at heq
          have hno : ¬ L = M := fun e => hpq (by rw [← HP.out, ← HQ.out, e])
          have hR := HR.out
          rw [decide_eq_false hno] at hR
          subst hR
          obtain ⟨x, y, z, t, u⟩ := P
          obtain ⟨x', y', z', t', u'⟩ := Q
          have hlit := eqPt_lit x y z t u x' y' z' t' u'
          rw [heq] at hlit
          clear hpq heq hno
          go_wp2_with fail
          go_quiet (fail)
          go_wp2_with fail
          go_ret
          exact ⟨rfl, below_drewN HB.out _⟩
      · obtain rfl : k = n := by omega
        have hyes : L = M := list_same (by rw [HLN.out, HMN.out]) fun j hj => HSM.out j (by rw [← HLN.out]; exact hj)
        have hR := HR.out
        rw [decide_eq_true hyes] at hR
        subst hR
        clear hyes
        go_wp2_with fail
        go_ret
        exact ⟨rfl, HB.out⟩
  · have hno : ¬ L = M := fun e => hnm (by rw [← hl, ← hm, e])
    rw [decide_eq_false hno] at hR
    subst hR
    have hne : ¬ (n : Int) = (m : Int) := by omega
    clear hno hl hm hL hM hnm
    go_enter Tryd.func19, Tryd.ntmps19
    go_wp2_with fail
    go_ret
    exact ⟨rfl, Below.refl _ _⟩
end Go.Proofs.YtlogglmdfnakkaaDoor
