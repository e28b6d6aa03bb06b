/-
  The document's own Packed and Row of pointers.
-/
import Derived.Test.YtlogglmdfnakkaaDoorRpB
import Derived.Test.YtlogglmdfnakkaaDoorPtRow
namespace Go.Proofs.YtlogglmdfnakkaaDoor
open Go.RowKit Go.Shelf
set_option maxRecDepth 100000

/-- The bytes of the first k places of a row. -/
def packTo (L : List Pt) (k : Nat) : List UInt8 := (List.range k).flatMap fun i => bytesP (L.getD i p0)
theorem packTo_length (L : List Pt) : ∀ k, (packTo L k).length = 16 * k
  | 0 => rfl
  | k + 1 => by
    rw [packTo, List.range_succ, List.flatMap_append, List.length_append]
    have := packTo_length L k
    rw [packTo] at this
    rw [this, List.flatMap_cons, List.flatMap_nil, List.append_nil, bytesP_length]
    omega
theorem packTo_step (L : List Pt) (k : Nat) : packTo L (k + 1) = packTo L k ++ bytesP (L.getD k p0) := by
  rw [packTo, List.range_succ, List.flatMap_append, List.flatMap_cons, List.flatMap_nil, List.append_nil]
  rfl
theorem bytesP_none : bytesP p0 = List.replicate 16 0 := by decide +kernel
theorem packTo_nil : ∀ m, packTo [] m = List.replicate (16 * m) 0
  | 0 => rfl
  | m + 1 => by
    rw [packTo_step, packTo_nil m]
    show _ ++ bytesP p0 = _
    rw [bytesP_none, List.replicate_append_replicate]
    congr 1
theorem packTo_all : ∀ (L : List Pt) (m : Nat), L.length ≤ m → packTo L m = L.flatMap bytesP ++ List.replicate (16 * (m - L.length)) 0
  | [], m, _ => by rw [packTo_nil]; rfl
  | p :: L, m + 1, h => by
    have ih := packTo_all L m (by simpa using h)
    rw [packTo] at ih ⊢
    rw [List.range_succ_eq_map, List.flatMap_cons, List.flatMap_map]
    show bytesP p ++ (List.range m).flatMap (fun i => bytesP (L.getD i p0)) = _
    rw [ih, List.flatMap_cons, List.append_assoc, List.length_cons, Nat.add_sub_add_right]
theorem packTo_row (L : List Pt) (h : L.length ≤ 16) : packTo L 16 = rowTo L L.length := by
  rw [packTo_all L 16 h, rowTo, List.take_length]
  congr 2
  omega
theorem getD_may {L : List Pt} (h : ∀ p ∈ L, MayP p) (i : Nat) : MayP (L.getD i p0) := by
  rcases Nat.lt_or_ge i L.length with hi | hi
  · rw [List.getD_eq_getElem?_getD, List.getElem?_eq_getElem hi]
    exact h _ (List.getElem_mem hi)
  · rw [List.getD_eq_getElem?_getD, List.getElem?_eq_none hi]
    exact may_p0
theorem getD_wf {L : List Pt} (h : ∀ p ∈ L, WfP p) (i : Nat) : WfP (L.getD i p0) := by
  rcases Nat.lt_or_ge i L.length with hi | hi
  · rw [List.getD_eq_getElem?_getD, List.getElem?_eq_getElem hi]
    exact h _ (List.getElem_mem hi)
  · rw [List.getD_eq_getElem?_getD, List.getElem?_eq_none hi]
    exact wf_p0
set_option maxHeartbeats 2000000 in
theorem rpPacked_any (a : Option Addr) (len cap : Nat) (L : List Pt) (w : World) (hL : Pts w w.heap.size a len cap L) (h16 : len ≤ 16) (hmay : ∀ p ∈ L, MayP p) : Calls Tryd.prog 28 #[.slice a len cap] w (OwnV 256 (rowTo L L.length) w) := by
  have hl := hL.1
  have i0 : (0 : Int) ≤ (len : Int) := by omega
  have i1 : (len : Int) ≤ 16 := by omega
  have hmk : ∀ W : World, (Instr.makeSlice 22 (.int .i64 0) (.int .i64 256)).run Tryd.prog W = _ := make_room 256 (by omega)
  have hpk := packTo_row L (by omega)
  rw [← hpk]
  have HL := Lib.hid hL; clear hL
  have HM := Lib.hid hmay; clear hmay
  have HLN := Lib.hid hl; clear hl hpk
  go_enter Tryd.func28, Tryd.ntmps28
  go_wp2_with fail
  go_loopw [3, 4] (fun v i wr => ∃ k : Nat, k ≤ 16 ∧ i = .int .i64 k ∧ wr.ownsRow w.heap.size 5 1 v (16 * k) (vals (packTo L k)) ∧ Below w.heap.size w wr) (fun _ i _ => 16 - (intOf i).toNat)
  case atStart => exact ⟨0, Nat.zero_le _, rfl, own_room0 w 256 (by omega), (Below.refl _ w).alloc (Nat.le_refl _) _⟩
  case round =>
    obtain ⟨k, hk, rfl, ho, hb⟩ := hrel
    have k0 : (0 : Int) ≤ k := by omega
    have HO := Lib.hid ho; clear ho
    have HB := Lib.hid hb; clear hb
    obtain ⟨v, hv⟩ : ∃ v : Value, u3 = v := ⟨_, rfl⟩
    rw [hv] at HO ⊢
    clear hv
    by_cases hlt : k < 16
    · have k1 : (k : Int) < 16 := by omega
      have hst := packTo_step L k
      have hmP := getD_may HM.out k
      have hwP := getD_wf (fun p hp => HL.out.wf hp) k
      by_cases hin : k < len
      · have k2 : (k : Int) < len := by omega
        obtain ⟨b, off, ea, hblt, _, e0, e1, e2, e3, e4⟩ := (HL.out.below HB.out).cells k hin
        subst ea
        have hob := HL.out.2.1
        have hbZ := HB.out.alloc HB.out.size (.cells #[.int .i64 0, .int .u32 0, .int .u32 0, .int .u32 0, .int .u32 0] 28)
        have c0 : ∀ o : Obj, (wr.alloc o).cell? ⟨b, off + k * 5, none⟩ = _ := fun o => (((Below.refl wr.heap.size wr).alloc (Nat.le_refl _) o).cell (p := ⟨b, off + k * 5, none⟩) (World.block_lt_of_cell? wr _ e0)).trans e0
        have c1 : ∀ o : Obj, (wr.alloc o).cell? ⟨b, off + k * 5 + 1, none⟩ = _ := fun o => (((Below.refl wr.heap.size wr).alloc (Nat.le_refl _) o).cell (p := ⟨b, off + k * 5 + 1, none⟩) (World.block_lt_of_cell? wr _ e1)).trans e1
        have c2 : ∀ o : Obj, (wr.alloc o).cell? ⟨b, off + k * 5 + 2, none⟩ = _ := fun o => (((Below.refl wr.heap.size wr).alloc (Nat.le_refl _) o).cell (p := ⟨b, off + k * 5 + 2, none⟩) (World.block_lt_of_cell? wr _ e2)).trans e2
        have c3 : ∀ o : Obj, (wr.alloc o).cell? ⟨b, off + k * 5 + 3, none⟩ = _ := fun o => (((Below.refl wr.heap.size wr).alloc (Nat.le_refl _) o).cell (p := ⟨b, off + k * 5 + 3, none⟩) (World.block_lt_of_cell? wr _ e3)).trans e3
        have c4 : ∀ o : Obj, (wr.alloc o).cell? ⟨b, off + k * 5 + 4, none⟩ = _ := fun o => (((Below.refl wr.heap.size wr).alloc (Nat.le_refl _) o).cell (p := ⟨b, off + k * 5 + 4, none⟩) (World.block_lt_of_cell? wr _ e4)).trans e4
        clear e0 e1 e2 e3 e4
        obtain ⟨P, hP⟩ : ∃ P, L.getD k p0 = P := ⟨_, rfl⟩
        rw [hP] at c0 c1 c2 c3 c4 hst hmP hwP
        obtain ⟨a', b', c', d', e'⟩ := P
        have HBY := Lib.hid (fun W => rpBytes_any (a', b', c', d', e') hwP hmP.room W)
        have HST := Lib.hid hst
        clear hst hmP hwP hP hblt hbZ
        go_wp2_with fail
        refine (HBY.out _).mono ?_
        rintro ev w1 ⟨x1, rfl, o1, b1⟩
        obtain ⟨A1, C1, rfl, s1⟩ := own_to o1
        have bx := (Below.refl wr.heap.size wr).alloc (Nat.le_refl _) (.cells #[.int .i64 a', .int .u32 (b' : Int), .int .u32 (c' : Int), .int .u32 (d' : Int), .int .u32 (e' : Int)] 28)
        have b2 := bx.trans (b1.mono bx.size)
        have HB1 := Lib.hid (HB.out.trans (b2.mono HB.out.size))
        have HO1 := Lib.hid (own_below HO.out b2)
        have HS1 := Lib.hid s1
        clear o1 b1 s1 bx b2
        go_wp2_with (at_builtin
                     refine wpList_append_bsl rfl (.tmp 20) (.tmp 22) rfl w.heap.size v (16 * k) _ rfl HO1.out w1.heap.size A1 16 C1 _ rfl HS1.out (by omega) HB1.out.size ?_
                     intro v2 w2 h2 hg2
                     rw [← HST.out] at h2
                     have HO2 := Lib.hid h2
                     have HB2 := Lib.hid (app_below HB1.out HO1.out hg2 HB1.out.size)
                     clear h2 hg2)
        go_roundw
        case rel => exact ⟨k + 1, by omega, by go_num, by rw [Nat.mul_add, Nat.mul_one]; exact HO2.out, HB2.out⟩
        case measure => simp [intOf]; omega
      · have k2 : ¬ (k : Int) < len := by omega
        have hP : L.getD k p0 = p0 := by rw [List.getD_eq_getElem?_getD, List.getElem?_eq_none (by have := HLN.out; omega)]; rfl
        rw [hP] at hst hmP hwP
        have HBY := Lib.hid (fun W => rpBytes_any p0 hwP hmP.room W)
        have HST := Lib.hid hst
        clear hst hmP hwP hP
        go_wp2_with fail
        refine (HBY.out _).mono ?_
        rintro ev w1 ⟨x1, rfl, o1, b1⟩
        obtain ⟨A1, C1, rfl, s1⟩ := own_to o1
        have bx := (Below.refl wr.heap.size wr).alloc (Nat.le_refl _) (.cells #[.int .i64 0, .int .u32 0, .int .u32 0, .int .u32 0, .int .u32 0] 28)
        have b2 := bx.trans (b1.mono bx.size)
        have HB1 := Lib.hid (HB.out.trans (b2.mono HB.out.size))
        have HO1 := Lib.hid (own_below HO.out b2)
        have HS1 := Lib.hid s1
        clear o1 b1 s1 bx b2
        go_wp2_with (at_builtin
                     refine wpList_append_bsl rfl (.tmp 20) (.tmp 22) rfl w.heap.size v (16 * k) _ rfl HO1.out w1.heap.size A1 16 C1 _ rfl HS1.out (by omega) HB1.out.size ?_
                     intro v2 w2 h2 hg2
                     rw [← HST.out] at h2
                     have HO2 := Lib.hid h2
                     have HB2 := Lib.hid (app_below HB1.out HO1.out hg2 HB1.out.size)
                     clear h2 hg2)
        go_roundw
        case rel => exact ⟨k + 1, by omega, by go_num, by rw [Nat.mul_add, Nat.mul_one]; exact HO2.out, HB2.out⟩
        case measure => simp [intOf]; omega
    · obtain rfl : k = 16 := by omega
      go_wp2_with fail
      go_ret
      exact ⟨_, rfl, HO.out, HB.out⟩
set_option maxHeartbeats 1000000 in
theorem rpRow_any (a : Option Addr) (len cap : Nat) (L : List Pt) (w : World) (hL : Pts w w.heap.size a len cap L) : Calls Tryd.prog 17 #[.slice a len cap] w (OutB (rowO L).1 (rowO L).2 w) := by
  have hl := hL.1
  have i0 : (0 : Int) ≤ (len : Int) := by omega
  have i1 : (len : Int) ≤ 9223372036854775807 := by have h1 := hL.2.1; have h2 := hL.2.2.1; unfold maxLen at h2; omega
  rw [rowO]
  by_cases h16 : 16 < L.length
  · rw [if_pos h16]
    have i2 : (16 : Int) < (len : Int) := by omega
    have HLL := Lib.hid hL; clear hL
    have HH := Lib.hid h16; clear h16
    clear hl
    go_enter Tryd.func17, Tryd.ntmps17
    go_wp2_with fail
    go_ret2
    exact outB_no rfl (Below.refl _ _)
  · rw [if_neg h16]
    have i2 : ¬ (16 : Int) < (len : Int) := by omega
    obtain ⟨R, hR⟩ : ∃ R, (if ∀ p ∈ L, MayP p then (rowTo L L.length, (0 : Int)) else ([], 8)) = R := ⟨_, rfl⟩
    rw [hR]
    have HRR := Lib.hid hR; clear hR
    have HLL := Lib.hid hL; clear hL
    have HH := Lib.hid h16; clear h16
    have HLN := Lib.hid hl; clear hl
    go_enter Tryd.func17, Tryd.ntmps17
    go_wp2_with fail
    go_loopw [4] (fun i wr => ∃ k : Nat, k ≤ len ∧ i = .int .i64 k ∧ (∀ j, j < k → MayP (L.getD j p0)) ∧ Below w.heap.size w wr) (fun i _ => len - (intOf i).toNat)
    case atStart => exact ⟨0, Nat.zero_le _, rfl, fun j hj => absurd hj (Nat.not_lt_zero _), Below.refl _ w⟩
    case round =>
      obtain ⟨k, hk, rfl, hmay, hb⟩ := hrel
      have k0 : (0 : Int) ≤ k := by omega
      have HB := Lib.hid hb; clear hb
      have HM := Lib.hid hmay; clear hmay
      by_cases hlt : k < len
      · have k1 : (k : Int) < len := by omega
        have k16 : k < 16 := by have := HH.out; have := HLN.out; omega
        obtain ⟨b, off, ea, hblt, hwf, c0, c1, c2, c3, c4⟩ := (HLL.out.below HB.out).cells k hlt
        obtain ⟨P, hP⟩ : ∃ P, L.getD k p0 = P := ⟨_, rfl⟩
        rw [hP] at hwf c0 c1 c2 c3 c4
        have hmp := rpMay_any P wr
        have HP := Lib.hid hP; clear hP
        subst ea
        have hg : ∀ hi : k < L.length, L[k] = P := fun hi => by
          rw [← HP.out, List.getD_eq_getElem?_getD, List.getElem?_eq_getElem hi]
          rfl
        by_cases h : MayP P
        · rw [decide_eq_true h] at hmp
          have HH1 := Lib.hid h; clear h
          obtain ⟨a', b', c', d', e'⟩ := P
          have HW := Lib.hid hmp; clear hmp
          go_wp2_with (go_at_call 25
                       refine HW.out.mono ?_
                       rintro ev w1 ⟨rfl, b1⟩
                       have HB1 := Lib.hid (HB.out.trans (b1.mono HB.out.size))
                       clear b1)
          go_roundw
          case rel =>
            refine ⟨k + 1, by omega, by go_num, fun j hj => ?_, HB1.out⟩
            by_cases e : j = k
            · subst e
              rw [HP.out]
              exact HH1.out
            · exact HM.out j (by omega)
          case measure => simp [intOf]; omega
        · rw [decide_eq_false h] at hmp
          have hno : ¬ ∀ p ∈ L, MayP p := fun hall => h (by
            rw [← hg (by rw [HLN.out]; exact hlt)]
            exact hall _ (List.getElem_mem _))
          have hR := HRR.out
          rw [if_neg hno] at hR
          subst hR
          clear h hno
          obtain ⟨a', b', c', d', e'⟩ := P
          have HW := Lib.hid hmp; clear hmp
          go_wp2_with (go_at_call 25
                       refine HW.out.mono ?_
                       rintro ev w1 ⟨rfl, b1⟩
                       have HB1 := Lib.hid (HB.out.trans (b1.mono HB.out.size))
                       clear b1)
          go_ret2
          exact outB_no rfl HB1.out
      · obtain rfl : k = len := by omega
        have hall : ∀ p ∈ L, MayP p := fun p hp => by
          obtain ⟨i, hi, rfl⟩ := List.getElem_of_mem hp
          have := HM.out i (by rw [← HLN.out]; exact hi)
          rwa [List.getD_eq_getElem?_getD, List.getElem?_eq_getElem hi] at this
        have hR := HRR.out
        rw [if_pos hall] at hR
        subst hR
        have hpk := rpPacked_any a k cap L wr ((HLL.out.below HB.out).more HB.out.size) (by have := HH.out; have := HLN.out; omega) hall
        have HPK := Lib.hid hpk
        clear hall hpk
        go_wp2_with (go_at_call 28
                     refine HPK.out.mono ?_
                     rintro ev w1 ⟨v1, rfl, o1, b1⟩
                     have HB1 := Lib.hid (HB.out.trans (b1.mono HB.out.size))
                     have HO1 := Lib.hid (own_mono o1 HB.out.size)
                     clear b1 o1)
        go_ret2
        refine ⟨_, rfl, ?_, HB1.out⟩
        show w1.ownsRow _ _ _ _ (rowTo L L.length).length _
        rw [rowTo_length L L.length (Nat.le_refl _) (by have := HH.out; omega)]
        exact HO1.out
end Go.Proofs.YtlogglmdfnakkaaDoor
