/-
  ptr.Row, whatever pointers it is handed; nothing that was there is written.
-/
import Derived.Test.YtennhempdnpobaaDoorPtTop
import Derived.Test.YtennhempdnpobaaDoorCopy
namespace Go.Proofs.YtennhempdnpobaaDoor
open Go.RowKit Go.Shelf
set_option maxRecDepth 100000

/-- A row's first k pointers, and noughts. -/
def rowTo (L : List Pt) (k : Nat) : List UInt8 := (L.take k).flatMap bytesP ++ List.replicate (256 - 16 * k) 0
theorem flat_length : ∀ L : List Pt, (L.flatMap bytesP).length = 16 * L.length
  | [] => rfl
  | p :: L => by rw [List.flatMap_cons, List.length_append, bytesP_length, flat_length L, List.length_cons]; omega
theorem rowTo_length (L : List Pt) (k : Nat) (hk : k ≤ L.length) (h16 : k ≤ 16) : (rowTo L k).length = 256 := by
  rw [rowTo, List.length_append, flat_length, List.length_take, List.length_replicate]
  omega
theorem rowTo_step (L : List Pt) (k : Nat) (hk : k < L.length) (h16 : k < 16) : ovrL (rowTo L k) (16 * k) (bytesP (L.getD k p0)) = rowTo L (k + 1) := by
  have hf : ((L.take k).flatMap bytesP).length = 16 * k := by rw [flat_length, List.length_take]; omega
  have hg : L.getD k p0 = L[k] := by rw [List.getD_eq_getElem?_getD, List.getElem?_eq_getElem hk]; rfl
  have e1 : (rowTo L k).take (16 * k) = (L.take k).flatMap bytesP := by rw [rowTo, ← hf, List.take_left]
  have e2 : (rowTo L k).drop (16 * k + 16) = List.replicate (256 - 16 * (k + 1)) 0 := by
    rw [rowTo, List.drop_append, hf, List.drop_eq_nil_of_le (by omega), List.nil_append, List.drop_replicate]
    congr 1
    omega
  rw [ovrL, bytesP_length, e1, e2, hg, rowTo, List.take_succ_eq_append_getElem hk, List.flatMap_append, List.append_assoc]
  simp
/-- What Row answers. -/
def rowO (L : List Pt) : List UInt8 × Int := if 16 < L.length then ([], 4) else if ∀ p ∈ L, MayP p then (rowTo L L.length, 0) else ([], 8)

theorem make_256 : ∀ W : World, (Instr.makeSlice 28 (.int .i64 256) (.int .i64 256)).run Tryd.prog W = .ok (.slice (some ⟨W.heap.size, 0, none⟩) 256 256) (W.alloc (.cells (ar (List.replicate 256 0)) 5)) := mkBytes 256 (by omega)
set_option maxHeartbeats 1000000 in
theorem Row_any (a : Option Addr) (len cap : Nat) (L : List Pt) (w : World) (hL : Pts w w.heap.size a len cap L) (hz : Szs w) : Calls Tryd.prog 26 #[.slice a len cap] w (OutB (rowO L).1 (rowO L).2 w) := by
  have hl := hL.1
  have i0 : (0 : Int) ≤ (len : Int) := by omega
  have i1 : (len : Int) ≤ 9223372036854775807 := by have h1 := hL.2.1; have h2 := hL.2.2.1; unfold maxLen at h2; omega
  rw [rowO]
  by_cases h16 : 16 < L.length
  · rw [if_pos h16]
    have i2 : (16 : Int) < (len : Int) := by omega
    clear hz
    have HLL := Lib.hid hL; clear hL
    have HH := Lib.hid h16; clear h16
    clear hl
    go_enter Tryd.func26, Tryd.ntmps26
    go_wp2_with fail
    go_ret2
    exact outB_no rfl (Below.refl _ _)
  · rw [if_neg h16]
    have i2 : ¬ (16 : Int) < (len : Int) := by omega
    obtain ⟨R, hR⟩ : ∃ R, (if ∀ p ∈ L, MayP p then (rowTo L L.length, (0 : Int)) else ([], 8)) = R := ⟨_, rfl⟩
    rw [hR]
    have HRR := Lib.hid hR; clear hR
    have hmk := make_256
    have HLL := Lib.hid hL; clear hL
    have HH := Lib.hid h16; clear h16
    have HZ := Lib.hid hz; clear hz
    have HLN := Lib.hid hl; clear hl
    go_enter Tryd.func26, Tryd.ntmps26
    go_wp2_with fail
    go_loopw [15] (fun i wr => ∃ k : Nat, k ≤ len ∧ i = .int .i64 k ∧ (∀ j, j < k → MayP (L.getD j p0)) ∧ Blk wr w.heap.size 5 (ar (rowTo L k)) ∧ Below w.heap.size w wr) (fun i _ => len - (intOf i).toNat)
    case atStart =>
      refine ⟨0, Nat.zero_le _, rfl, fun j hj => absurd hj (Nat.not_lt_zero _), ?_, (Below.refl _ w).alloc (Nat.le_refl _) _⟩
      have : rowTo L 0 = List.replicate 256 0 := by simp [rowTo]
      rw [this]
      exact Blk.new w _ _
    case round =>
      obtain ⟨k, hk, rfl, hmay, hx, hb⟩ := hrel
      have k0 : (0 : Int) ≤ k := by omega
      have HX := Lib.hid hx; clear hx
      have HB := Lib.hid hb; clear hb
      have HM := Lib.hid hmay; clear hmay
      by_cases hlt : k < len
      · have k1 : (k : Int) < len := by omega
        have k16 : k < 16 := by have := HH.out; have := HLN.out; omega
        have k2 : (k : Int) ≤ 15 := by omega
        obtain ⟨b, off, ea, hblt, hwf, c0, c1, c2, c3, c4⟩ := (HLL.out.below HB.out).cells k hlt
        have hstep := rowTo_step L k (by rw [HLN.out]; exact hlt) k16
        have hlen := rowTo_length L k (by rw [HLN.out]; exact hk) (by omega)
        have HC := HM.out
        obtain ⟨P, hP⟩ : ∃ P, L.getD k p0 = P := ⟨_, rfl⟩
        rw [hP] at hwf c0 c1 c2 c3 c4 hstep
        have hwrite := Write_any P hwf (wr.alloc (.cells (ptC P).toArray 42)) (HZ.out.step (HB.out.alloc HB.out.size _))
        have HBA := Lib.hid (HB.out.alloc HB.out.size (.cells (ptC P).toArray 42))
        have HXA := Lib.hid (HX.out.alloc (.cells (ptC P).toArray 42))
        have HST := Lib.hid hstep; clear hstep
        have HLE := Lib.hid hlen; clear hlen
        have HP := Lib.hid hP; clear hP
        subst ea
        rw [pwriteO] at hwrite
        by_cases h : MayP P
        · rw [if_pos h] at hwrite
          have HH1 := Lib.hid h; clear h HC
          obtain ⟨a', b', c', d', e'⟩ := P
          have HW := Lib.hid hwrite; clear hwrite
          have hsl := fun W => slice_from_l W w.heap.size 0 256 256 (16 * k) (by omega) (Nat.le_refl _)
          have ek : ((16 * k : Nat) : Int) = (k : Int) * 16 := by omega
          simp only [ek, Nat.zero_add] at hsl
          clear ek
          go_wp2_with (first
            | (go_at_call 41
               refine HW.out.mono ?_
               rintro ev w1 ⟨v1, rfl, o1, b1⟩
               rw [bytesP_length] at o1
               obtain ⟨A1, C1, rfl, s1⟩ := own_to o1
               have HS1 := Lib.hid s1
               have HB1 := Lib.hid (HBA.out.trans (b1.mono HBA.out.size))
               have HX1 := Lib.hid (HXA.out.below b1 HXA.out.lt)
               clear o1 s1 b1)
            | (with_reducible refine copyAt ?_
               refine wpList_copy_part rfl (.tmp 31) (.tmp 32) rfl w.heap.size (16 * k) (256 - 16 * k) 16 (256 - 16 * k) rfl (rowTo L k) HX1.out w1.heap.size A1 C1 (bytesP (a', b', c', d', e')) rfl HS1.out (by omega) (by omega) (by rw [HLE.out]; omega) ?_
               intro w2 x2 g2 z2
               rw [HST.out] at x2
               have HX2 := Lib.hid x2
               have HB2 := Lib.hid (below_only HB1.out (Nat.le_refl _) g2 HB1.out.size)
               clear x2 g2 z2))
          go_roundw
          case rel =>
            refine ⟨k + 1, by omega, by go_num, fun j hj => ?_, HX2.out, HB2.out⟩
            by_cases e : j = k
            · subst e
              rw [HP.out]
              exact HH1.out
            · exact HM.out j (by omega)
          case measure => simp [intOf]; omega
        · rw [if_neg h] at hwrite
          have hno : ¬ ∀ p ∈ L, MayP p := fun hall => h (by
            rw [← HP.out, List.getD_eq_getElem?_getD, List.getElem?_eq_getElem (by rw [HLN.out]; exact hlt)]
            exact hall _ (List.getElem_mem _))
          have hR := HRR.out
          rw [if_neg hno] at hR
          subst hR
          clear h HC hno
          obtain ⟨a', b', c', d', e'⟩ := P
          have HW := Lib.hid hwrite; clear hwrite
          go_wp2_with (go_at_call 41
                       refine HW.out.mono ?_
                       rintro ev w1 ⟨v1, rfl, o1, b1⟩
                       have HB1 := Lib.hid (HBA.out.trans (b1.mono HBA.out.size))
                       clear o1 b1)
          go_ret2
          exact outB_no rfl HB1.out
      · obtain rfl : k = len := by omega
        have hall : ∀ p ∈ L, MayP p := fun p hp => by
          obtain ⟨i, hi, rfl⟩ := List.getElem_of_mem hp
          have := HM.out i (by rw [← HLN.out]; exact hi)
          rwa [List.getD_eq_getElem?_getD, List.getElem?_eq_getElem hi] at this
        have hR := HRR.out
        rw [if_pos hall] at hR
        subst hR
        clear hall
        have hlen := rowTo_length L L.length (Nat.le_refl _) (by have := HH.out; omega)
        have HLE := Lib.hid hlen; clear hlen
        go_wp2_with fail
        go_ret2
        refine ⟨_, rfl, ?_, HB.out⟩
        have hx := HX.out
        rw [← HLN.out] at hx
        show wr.ownsRow _ _ _ _ (rowTo L L.length).length _
        rw [HLE.out]
        refine ⟨by simp [vals, HLE.out], .inr ⟨w.heap.size, 256, _, rfl, Nat.le_refl _, hx, Nat.le_refl _, by unfold maxLen; omega, by rw [ar_size, HLE.out], ?_⟩⟩
        show (ar (rowTo L L.length)).toList.take _ = vals (rowTo L L.length)
        rw [List.take_of_length_le (by simp [ar, vals, HLE.out])]
        simp [ar]
end Go.Proofs.YtennhempdnpobaaDoor
