/-
  Texts of one seat, one behind the other.
-/
import Derived.OwnWalk
import Derived.ChangeKeysEq
import Derived.WalkLawsBesides
import Derived.Laws.CopyOwn
import Derived.IntWalk
import Derived.Shelf.SlSortCmp.WholeK
import Derived.Shelf.SlSortCmp.NoneTotal
import Derived.Shelf.SlLaysF0
import Derived.Shelf.SlGeneric
import Derived.Ground.SlsfProg
import Derived.Lib.AppendZeros
import Derived.Test.YtadffkfalclpjaaGreatDoorPkDA2
/-
  What follows of stores as plain lists: a block laid is seen, no other changes; what was sealed is opened; what was given up is seen as before; room; numbers; a byte turned.
-/
namespace Go.Proofs.YtadffkfalclpjaaGreatDoor
open Go.RowKit Go.Shelf
set_option maxRecDepth 100000

theorem leftD_withD (D : DkL) (p : Nat) (s : List UInt8) (q : Nat) : leftD (withD D p s) (fun _ => true) q = if q = p then s else leftD D (fun _ => true) q := by
  obtain ⟨h1, h2⟩ := wr_with D.2 (p : Int) s
  have hl : (withD D (p : Int) s).2.length = D.2.length + 1 := by simp [withD]
  have he : (withD D (p : Int) s).2 = D.2 ++ [((p : Int), s)] := rfl
  unfold leftD
  rw [hl, he, lastTo, h2]
  by_cases e : q = p
  · subst e
    rw [if_pos ⟨rfl, rfl⟩, if_pos rfl]
    simp only
    rw [h2]
  · rw [if_neg (fun h => e (by have := h.2; simp only at this; omega)), if_neg e]
    have hc : lastTo (D.2 ++ [((p : Int), s)]) (fun _ => true) (q : Int) D.2.length = lastTo D.2 (fun _ => true) (q : Int) D.2.length := lastTo_congr (fun i hi => by rw [h1 i hi])
    rw [hc]
    cases hx : lastTo D.2 (fun _ => true) (q : Int) D.2.length with
    | none => rfl
    | some i => simp only; rw [h1 i (lastTo_lt hx).1]

/-- A store with a block laid. -/
@[reducible] def putAt (S : StL) (k : Nat) (b : List UInt8) : StL := (withD S.1 (k : Int) b, S.2.1.set k 1, S.2.2.1, S.2.2.2)
theorem seenS_put (S : StL) (k : Nat) (b : List UInt8) (q : Nat) : seenS (putAt S k b) q = if q = k then b else seenS S q := leftD_withD S.1 k b q

theorem free_first {s : List UInt8} {k : Nat} {r : List Nat} (h : freeTo s 256 = k :: r) : k < 256 ∧ mkT s k = 0 ∧ ∀ i, i < k → mkT s i ≠ 0 := by
  have h1 : k ∈ freeTo s 256 := by rw [h]; exact List.mem_cons_self
  obtain ⟨a, b⟩ := freeTo_mem.1 h1
  refine ⟨a, b, fun i hi hz => ?_⟩
  rcases first_from (fun i => mkT s i = 0) 0 256 with ⟨j, _, hj, hjz, hjm⟩ | hn
  · obtain ⟨r', hr'⟩ := freeTo_head hj hjz fun i hi => hjm i (Nat.zero_le _) hi
    rw [h] at hr'
    cases hr'
    exact hjm i (Nat.zero_le _) hi hz
  · exact hn k (Nat.zero_le _) a b
theorem putS_cases {S : StL} (h : MayT S.2.1) (birth iv tag : Nat) (b : List UInt8) : (putS S birth iv tag b = none ∧ (freeTo S.2.1 256 = [] ∨ 4096 ≤ S.1.2.length)) ∨
    ∃ k r, (12 ≤ k ∧ k < 256) ∧ mkT S.2.1 k = 0 ∧ (∀ i, i < k → mkT S.2.1 i ≠ 0) ∧ S.1.2.length < 4096 ∧ freeTo S.2.1 256 = k :: r ∧ putS S birth iv tag b = some (putAt S k b, ((k : Int), birth, iv, tag, sumOf b)) := by
  cases hf : freeTo S.2.1 256 with
  | nil => exact .inl ⟨by unfold putS; rw [hf], .inl rfl⟩
  | cons k r =>
    obtain ⟨h1, h2, h3⟩ := free_first hf
    rcases Nat.lt_or_ge S.1.2.length 4096 with hw | hw
    · exact .inr ⟨k, r, ⟨h.free_ge (by omega), h1⟩, h2, h3, hw, rfl, putS_some h1 h2 h3 hw⟩
    · exact .inl ⟨putS_great hw, .inr hw⟩

/-! What may be. -/
theorem putAt_may {S : StL} (h : MayS S) {k : Nat} (hk : 12 ≤ k ∧ k < 256) {b : List UInt8} (hb : b.length = 256) (hw : S.1.2.length < 4096) : MayS (putAt S k b) :=
  ⟨with_may h.1 (by omega) hb (by omega), set_may h.2.1 hk.1 hk.2 1 (by decide), h.2.2⟩
theorem ptr_may {k birth : Nat} (hk : 12 ≤ k ∧ k < 256) (hb : 1 ≤ birth ∧ birth ≤ 16777215) (iv tag s : Nat) : MayP ((k : Int), birth, iv, tag, s) := .inr ⟨by simp only; omega, hb⟩
theorem ptr_not {k birth : Nat} (hb : 1 ≤ birth) (iv tag s : Nat) : (((k : Int), birth, iv, tag, s) : Pt) ≠ p0 := fun e => by
  have : birth = 0 := congrArg (fun p : Pt => p.2.1) e
  omega

/-! What is seen. -/
theorem seenO_put (S : StL) {k birth : Nat} (hb : 1 ≤ birth) (iv tag : Nat) (b : List UInt8) : seenO (putAt S k b) ((k : Int), birth, iv, tag, sumOf b) = (b, 0) := by
  unfold seenO
  rw [if_neg (ptr_not hb _ _ _)]
  have e : seenS (putAt S k b) ((k : Int)).toNat = b := by rw [seenS_put, if_pos (Int.toNat_natCast k)]
  simp only
  rw [e, if_pos rfl]
theorem seenO_far (S : StL) {k : Nat} {b : List UInt8} {p : Pt} (hp : MayP p) (h : p.1 ≠ (k : Int)) : seenO (putAt S k b) p = seenO S p := by
  unfold seenO
  by_cases h0 : p = p0
  · rw [if_pos h0, if_pos h0]
  · obtain ⟨j, h1, _, _⟩ := mayP_at hp h0
    have hj : p.1.toNat ≠ k := by omega
    rw [if_neg h0, if_neg h0, seenS_put, if_neg hj]
theorem lookO_may {S : StL} {p : Pt} (h : MayS S) (hp : MayP p) : lookO S p = seenO S p := by unfold lookO; rw [if_pos ⟨h, hp⟩]
theorem put_mark {S : StL} {k i : Nat} {b : List UInt8} (hl : S.2.1.length = 256) (hk : k < 256) : mkT (putAt S k b).2.1 i = if i = k then 1 else mkT S.2.1 i := mkT_set S.2.1 k 1 i (by omega)

end Go.Proofs.YtadffkfalclpjaaGreatDoor
/-
  ptr.Row, whatever pointers it is handed; nothing that was there is written.
-/
namespace Go.Proofs.YtadffkfalclpjaaGreatDoor
open Go.RowKit Go.Shelf
set_option maxRecDepth 100000

/-- A row's first k pointers, and noughts. -/
def rowTo (L : List Pt) (k : Nat) : List UInt8 := (L.take k).flatMap bytesP ++ List.replicate (256 - 16 * k) 0
theorem flat_length : ∀ L : List Pt, (L.flatMap bytesP).length = 16 * L.length
  | [] => rfl
  | p :: L => by rw [List.flatMap_cons, List.length_append, bytesP_length, flat_length L, List.length_cons]; omega
theorem rowTo_length (L : List Pt) (k : Nat) (hk : k ≤ L.length) (h16 : k ≤ 16) : (rowTo L k).length = 256 := by
  rw [rowTo, List.length_append, flat_length, List.length_take, List.length_replicate]
  omega
theorem rowTo_step (L : List Pt) (k : Nat) (hk : k < L.length) (h16 : k < 16) : ovrL (rowTo L k) (16 * k) (bytesP (L.getD k p0)) = rowTo L (k + 1) := by
  have hf : ((L.take k).flatMap bytesP).length = 16 * k := by rw [flat_length, List.length_take]; omega
  have hg : L.getD k p0 = L[k] := by rw [List.getD_eq_getElem?_getD, List.getElem?_eq_getElem hk]; rfl
  have e1 : (rowTo L k).take (16 * k) = (L.take k).flatMap bytesP := by rw [rowTo, ← hf, List.take_left]
  have e2 : (rowTo L k).drop (16 * k + 16) = List.replicate (256 - 16 * (k + 1)) 0 := by
    rw [rowTo, List.drop_append, hf, List.drop_eq_nil_of_le (by omega), List.nil_append, List.drop_replicate]
    congr 1
    omega
  rw [ovrL, bytesP_length, e1, e2, hg, rowTo, List.take_succ_eq_append_getElem hk, List.flatMap_append, List.append_assoc]
  simp
/-- What Row answers. -/
def rowO (L : List Pt) : List UInt8 × Int := if 16 < L.length then ([], 4) else if ∀ p ∈ L, MayP p then (rowTo L L.length, 0) else ([], 8)

theorem make_256 : ∀ W : World, (Instr.makeSlice 36 (.int .i64 256) (.int .i64 256)).run Tryz.prog W = .ok (.slice (some ⟨W.heap.size, 0, none⟩) 256 256) (W.alloc (.cells (ar (List.replicate 256 0)) 5)) := mkBytes 256 (by omega)
set_option maxHeartbeats 1000000 in
theorem Row_any (a : Option Addr) (len cap : Nat) (L : List Pt) (w : World) (hL : Pts w w.heap.size a len cap L) (hz : Szs w) : Calls Tryz.prog 28 #[.slice a len cap] w (OutB (rowO L).1 (rowO L).2 w) := by
  have hl := hL.1
  have i0 : (0 : Int) ≤ (len : Int) := by omega
  have i1 : (len : Int) ≤ 9223372036854775807 := by have h1 := hL.2.1; have h2 := hL.2.2.1; unfold maxLen at h2; omega
  rw [rowO]
  by_cases h16 : 16 < L.length
  · rw [if_pos h16]
    have i2 : (16 : Int) < (len : Int) := by omega
    clear hz
    have HLL := Lib.hid hL; clear hL
    have HH := Lib.hid h16; clear h16
    clear hl
    go_enter Tryz.func28, Tryz.ntmps28
    go_wp2_with fail
    go_ret2
    exact outB_no rfl (Below.refl _ _)
  · rw [if_neg h16]
    have i2 : ¬ (16 : Int) < (len : Int) := by omega
    obtain ⟨R, hR⟩ : ∃ R, (if ∀ p ∈ L, MayP p then (rowTo L L.length, (0 : Int)) else ([], 8)) = R := ⟨_, rfl⟩
    rw [hR]
    have HRR := Lib.hid hR; clear hR
    have hmk := make_256
    have HLL := Lib.hid hL; clear hL
    have HH := Lib.hid h16; clear h16
    have HZ := Lib.hid hz; clear hz
    have HLN := Lib.hid hl; clear hl
    go_enter Tryz.func28, Tryz.ntmps28
    go_wp2_with fail
    go_loopw [15] (fun i wr => ∃ k : Nat, k ≤ len ∧ i = .int .i64 k ∧ (∀ j, j < k → MayP (L.getD j p0)) ∧ Blk wr w.heap.size 5 (ar (rowTo L k)) ∧ Below w.heap.size w wr) (fun i _ => len - (intOf i).toNat)
    case atStart =>
      refine ⟨0, Nat.zero_le _, rfl, fun j hj => absurd hj (Nat.not_lt_zero _), ?_, (Below.refl _ w).alloc (Nat.le_refl _) _⟩
      have : rowTo L 0 = List.replicate 256 0 := by simp [rowTo]
      rw [this]
      exact Blk.new w _ _
    case round =>
      obtain ⟨k, hk, rfl, hmay, hx, hb⟩ := hrel
      have k0 : (0 : Int) ≤ k := by omega
      have HX := Lib.hid hx; clear hx
      have HB := Lib.hid hb; clear hb
      have HM := Lib.hid hmay; clear hmay
      by_cases hlt : k < len
      · have k1 : (k : Int) < len := by omega
        have k16 : k < 16 := by have := HH.out; have := HLN.out; omega
        have k2 : (k : Int) ≤ 15 := by omega
        obtain ⟨b, off, ea, hblt, hwf, c0, c1, c2, c3, c4⟩ := (HLL.out.below HB.out).cells k hlt
        have hstep := rowTo_step L k (by rw [HLN.out]; exact hlt) k16
        have hlen := rowTo_length L k (by rw [HLN.out]; exact hk) (by omega)
        have HC := HM.out
        obtain ⟨P, hP⟩ : ∃ P, L.getD k p0 = P := ⟨_, rfl⟩
        rw [hP] at hwf c0 c1 c2 c3 c4 hstep
        have hwrite := Write_any P hwf (wr.alloc (.cells (ptC P).toArray 28)) (HZ.out.step (HB.out.alloc HB.out.size _))
        have HBA := Lib.hid (HB.out.alloc HB.out.size (.cells (ptC P).toArray 28))
        have HXA := Lib.hid (HX.out.alloc (.cells (ptC P).toArray 28))
        have HST := Lib.hid hstep; clear hstep
        have HLE := Lib.hid hlen; clear hlen
        have HP := Lib.hid hP; clear hP
        subst ea
        rw [pwriteO] at hwrite
        by_cases h : MayP P
        · rw [if_pos h] at hwrite
          have HH1 := Lib.hid h; clear h HC
          obtain ⟨a', b', c', d', e'⟩ := P
          have HW := Lib.hid hwrite; clear hwrite
          have hsl := fun W => slice_from_l W w.heap.size 0 256 256 (16 * k) (by omega) (Nat.le_refl _)
          have ek : ((16 * k : Nat) : Int) = (k : Int) * 16 := by omega
          simp only [ek, Nat.zero_add] at hsl
          clear ek
          go_wp2_with (first
            | (go_at_call 57
               refine HW.out.mono ?_
               rintro ev w1 ⟨v1, rfl, o1, b1⟩
               rw [bytesP_length] at o1
               obtain ⟨A1, C1, rfl, s1⟩ := own_to o1
               have HS1 := Lib.hid s1
               have HB1 := Lib.hid (HBA.out.trans (b1.mono HBA.out.size))
               have HX1 := Lib.hid (HXA.out.below b1 HXA.out.lt)
               clear o1 s1 b1)
            | (with_reducible refine copyAt ?_
               refine wpList_copy_part rfl (.tmp 31) (.tmp 32) rfl w.heap.size (16 * k) (256 - 16 * k) 16 (256 - 16 * k) rfl (rowTo L k) HX1.out w1.heap.size A1 C1 (bytesP (a', b', c', d', e')) rfl HS1.out (by omega) (by omega) (by rw [HLE.out]; omega) ?_
               intro w2 x2 g2 z2
               rw [HST.out] at x2
               have HX2 := Lib.hid x2
               have HB2 := Lib.hid (below_only HB1.out (Nat.le_refl _) g2 HB1.out.size)
               clear x2 g2 z2))
          go_roundw
          case rel =>
            refine ⟨k + 1, by omega, by go_num, fun j hj => ?_, HX2.out, HB2.out⟩
            by_cases e : j = k
            · subst e
              rw [HP.out]
              exact HH1.out
            · exact HM.out j (by omega)
          case measure => simp [intOf]; omega
        · rw [if_neg h] at hwrite
          have hno : ¬ ∀ p ∈ L, MayP p := fun hall => h (by
            rw [← HP.out, List.getD_eq_getElem?_getD, List.getElem?_eq_getElem (by rw [HLN.out]; exact hlt)]
            exact hall _ (List.getElem_mem _))
          have hR := HRR.out
          rw [if_neg hno] at hR
          subst hR
          clear h HC hno
          obtain ⟨a', b', c', d', e'⟩ := P
          have HW := Lib.hid hwrite; clear hwrite
          go_wp2_with (go_at_call 57
                       refine HW.out.mono ?_
                       rintro ev w1 ⟨v1, rfl, o1, b1⟩
                       have HB1 := Lib.hid (HBA.out.trans (b1.mono HBA.out.size))
                       clear o1 b1)
          go_ret2
          exact outB_no rfl HB1.out
      · obtain rfl : k = len := by omega
        have hall : ∀ p ∈ L, MayP p := fun p hp => by
          obtain ⟨i, hi, rfl⟩ := List.getElem_of_mem hp
          have := HM.out i (by rw [← HLN.out]; exact hi)
          rwa [List.getD_eq_getElem?_getD, List.getElem?_eq_getElem hi] at this
        have hR := HRR.out
        rw [if_pos hall] at hR
        subst hR
        clear hall
        have hlen := rowTo_length L L.length (Nat.le_refl _) (by have := HH.out; omega)
        have HLE := Lib.hid hlen; clear hlen
        go_wp2_with fail
        go_ret2
        refine ⟨_, rfl, ?_, HB.out⟩
        have hx := HX.out
        rw [← HLN.out] at hx
        show wr.ownsRow _ _ _ _ (rowTo L L.length).length _
        rw [HLE.out]
        refine ⟨by simp [vals, HLE.out], .inr ⟨w.heap.size, 256, _, rfl, Nat.le_refl _, hx, Nat.le_refl _, by unfold maxLen; omega, by rw [ar_size, HLE.out], ?_⟩⟩
        show (ar (rowTo L L.length)).toList.take _ = vals (rowTo L L.length)
        rw [List.take_of_length_le (by simp [ar, vals, HLE.out])]
        simp [ar]
end Go.Proofs.YtadffkfalclpjaaGreatDoor
/-
  The document's own Packed and Row of pointers.
-/
namespace Go.Proofs.YtadffkfalclpjaaGreatDoor
open Go.RowKit Go.Shelf
set_option maxRecDepth 100000

/-- The bytes of the first k places of a row. -/
def packTo (L : List Pt) (k : Nat) : List UInt8 := (List.range k).flatMap fun i => bytesP (L.getD i p0)
theorem packTo_length (L : List Pt) : ∀ k, (packTo L k).length = 16 * k
  | 0 => rfl
  | k + 1 => by
    rw [packTo, List.range_succ, List.flatMap_append, List.length_append]
    have := packTo_length L k
    rw [packTo] at this
    rw [this, List.flatMap_cons, List.flatMap_nil, List.append_nil, bytesP_length]
    omega
theorem packTo_step (L : List Pt) (k : Nat) : packTo L (k + 1) = packTo L k ++ bytesP (L.getD k p0) := by
  rw [packTo, List.range_succ, List.flatMap_append, List.flatMap_cons, List.flatMap_nil, List.append_nil]
  rfl
theorem bytesP_none : bytesP p0 = List.replicate 16 0 := by decide +kernel
theorem packTo_nil : ∀ m, packTo [] m = List.replicate (16 * m) 0
  | 0 => rfl
  | m + 1 => by
    rw [packTo_step, packTo_nil m]
    show _ ++ bytesP p0 = _
    rw [bytesP_none, List.replicate_append_replicate]
    congr 1
theorem packTo_all : ∀ (L : List Pt) (m : Nat), L.length ≤ m → packTo L m = L.flatMap bytesP ++ List.replicate (16 * (m - L.length)) 0
  | [], m, _ => by rw [packTo_nil]; rfl
  | p :: L, m + 1, h => by
    have ih := packTo_all L m (by simpa using h)
    rw [packTo] at ih ⊢
    rw [List.range_succ_eq_map, List.flatMap_cons, List.flatMap_map]
    show bytesP p ++ (List.range m).flatMap (fun i => bytesP (L.getD i p0)) = _
    rw [ih, List.flatMap_cons, List.append_assoc, List.length_cons, Nat.add_sub_add_right]
theorem packTo_row (L : List Pt) (h : L.length ≤ 16) : packTo L 16 = rowTo L L.length := by
  rw [packTo_all L 16 h, rowTo, List.take_length]
  congr 2
  omega
theorem getD_may {L : List Pt} (h : ∀ p ∈ L, MayP p) (i : Nat) : MayP (L.getD i p0) := by
  rcases Nat.lt_or_ge i L.length with hi | hi
  · rw [List.getD_eq_getElem?_getD, List.getElem?_eq_getElem hi]
    exact h _ (List.getElem_mem hi)
  · rw [List.getD_eq_getElem?_getD, List.getElem?_eq_none hi]
    exact may_p0
theorem getD_wf {L : List Pt} (h : ∀ p ∈ L, WfP p) (i : Nat) : WfP (L.getD i p0) := by
  rcases Nat.lt_or_ge i L.length with hi | hi
  · rw [List.getD_eq_getElem?_getD, List.getElem?_eq_getElem hi]
    exact h _ (List.getElem_mem hi)
  · rw [List.getD_eq_getElem?_getD, List.getElem?_eq_none hi]
    exact wf_p0
end Go.Proofs.YtadffkfalclpjaaGreatDoor
/-
  The document's own Rows and Same of pointers.
-/
namespace Go.Proofs.YtadffkfalclpjaaGreatDoor
open Go.RowKit Go.Shelf
set_option maxRecDepth 100000

theorem rowsL_length (s : List UInt8) : (rowsL s).length = 16 := by simp [rowsL]
end Go.Proofs.YtadffkfalclpjaaGreatDoor
/-
  A row of pointers and the pointers that it has: there and back.
-/
namespace Go.Proofs.YtadffkfalclpjaaGreatDoor
open Go.RowKit Go.Shelf
set_option maxRecDepth 100000

theorem rowsO_cases (s : List UInt8) : (∃ c : Int, rowsO s = ([], c) ∧ c ≠ 0) ∨ (s.length = 256 ∧ (∀ p ∈ rowsL s, MayP p) ∧ rowsO s = (rowsL s, 0)) := by
  unfold rowsO
  by_cases h : s.length = 256
  · rw [if_pos h]
    by_cases h2 : ∀ p ∈ rowsL s, MayP p
    · rw [if_pos h2]
      exact .inr ⟨h, h2, rfl⟩
    · rw [if_neg h2]
      exact .inl ⟨8, rfl, by decide⟩
  · rw [if_neg h]
    exact .inl ⟨3, rfl, by decide⟩
theorem win_packTo (L : List Pt) : ∀ (k i : Nat), i < k → ((packTo L k).drop (16 * i)).take 16 = bytesP (L.getD i p0)
  | k + 1, i, h => by
    rw [packTo_step]
    have hl := packTo_length L k
    by_cases e : i = k
    · subst e
      rw [← hl, List.drop_left, List.take_of_length_le (by rw [bytesP_length]; exact Nat.le_refl _)]
    · rw [List.drop_append_of_le_length (by omega), List.take_append_of_le_length (by rw [List.length_drop]; omega)]
      exact win_packTo L k i (by omega)
/-- A row's pointers, none where there is none. -/
def fillL (L : List Pt) : List Pt := (List.range 16).map fun i => L.getD i p0
theorem rowsL_row {L : List Pt} (h16 : L.length ≤ 16) (hm : ∀ p ∈ L, MayP p) (hw : ∀ p ∈ L, WfP p) : rowsL (rowTo L L.length) = fillL L := by
  rw [← packTo_row L h16, rowsL, fillL]
  apply List.map_congr_left
  intro i hi
  rw [winP, win_packTo L 16 i (List.mem_range.1 hi), getP_bytesP (getD_may hm i) (getD_wf hw i)]
theorem rowsO_row {L : List Pt} (h16 : L.length ≤ 16) (hm : ∀ p ∈ L, MayP p) (hw : ∀ p ∈ L, WfP p) : rowsO (rowTo L L.length) = (fillL L, 0) := by
  rw [rowsO, if_pos (rowTo_length L L.length (Nat.le_refl _) h16), rowsL_row h16 hm hw, if_pos]
  intro p hp
  obtain ⟨i, _, rfl⟩ := List.mem_map.1 hp
  exact getD_may hm i
theorem fillL_get (L : List Pt) (i : Nat) (hi : i < 16) : (fillL L).getD i p0 = L.getD i p0 := by simp [fillL, List.getD_eq_getElem?_getD, hi]
theorem fillL_length (L : List Pt) : (fillL L).length = 16 := by simp [fillL]
end Go.Proofs.YtadffkfalclpjaaGreatDoor
/-
  Dead lists as blocks, as plain lists: what Lay and Load answer; what was laid is loaded as it was.
-/
namespace Go.Proofs.YtadffkfalclpjaaGreatDoor
open Go.RowKit Go.Shelf
set_option maxRecDepth 100000

/-- Row i of a list. -/
def rowD (l : List Pt) (i : Nat) : List Pt := (l.drop (16 * i)).take 16
/-- How many rows a list has. -/
def rowsN (n : Nat) : Nat := (n + 15) / 16
theorem rowD_length (l : List Pt) (i : Nat) : (rowD l i).length = min 16 (l.length - 16 * i) := by unfold rowD; rw [List.length_take, List.length_drop]
theorem rowD_join (l : List Pt) : ∀ i, l.take (16 * i) ++ rowD l i = l.take (16 * (i + 1)) := fun i => by
  have : l.take (16 * (i + 1)) = l.take (16 * i) ++ (l.drop (16 * i)).take 16 := by rw [show 16 * (i + 1) = 16 * i + 16 by omega, List.take_add]
  rw [this]
  rfl
theorem rowD_mem {l : List Pt} {i : Nat} {q : Pt} (h : q ∈ rowD l i) : q ∈ l := List.mem_of_mem_drop (List.mem_of_mem_take h)
/-- The rows laid, so many. -/
def laidTo (S : StL) (b : Nat) (l : List Pt) : Nat → Option (StL × List Pt)
  | 0 => some (S, [])
  | i + 1 => match laidTo S b l i with
    | none => none
    | some X => match putS X.1 b 0 0 (rowTo (rowD l i) (rowD l i).length) with
      | none => none
      | some Y => some (Y.1, X.2 ++ [Y.2])
/-- The blocks of pointers. -/
def blksD (ps : List Pt) : List Nat := ps.map fun q => q.1.toNat
/-- A list laid in a store that may be. -/
def layedO (S : StL) (b : Nat) (l : List Pt) : StL × Pt × List Nat × Nat :=
  if l = [] then (S, p0, [], 0)
  else match laidTo S b l (rowsN l.length) with
    | none => (st0, p0, [], 9)
    | some X => match putS X.1 b 0 0 (rowTo X.2 X.2.length) with
      | none => (st0, p0, [], 9)
      | some Y => (Y.1, Y.2, blksD X.2 ++ [Y.2.1.toNat], 0)
/-- What Lay answers. -/
noncomputable def layO (S : StL) (b : Nat) (l : List Pt) : StL × Pt × List Nat × Nat :=
  open Classical in
  if MayS S ∧ MayDL l then if 1 ≤ b ∧ b ≤ 16777215 then layedO S b l else (st0, p0, [], 2) else (st0, p0, [], 8)
/-- The row of a pointer. -/
def seenR (S : StL) (p : Pt) : List Pt × Nat :=
  if (seenO S p).2 ≠ 0 then ([], (seenO S p).2) else if (rowsO (seenO S p).1).2 ≠ 0 then ([], 8) else ((rowsO (seenO S p).1).1, 0)
/-- How many pointers stand ahead of those that are none at the end. -/
def trimN : List Pt → Nat
  | [] => 0
  | q :: r => if trimN r = 0 then (if q = p0 then 0 else 1) else trimN r + 1
/-- Without those that are none at the end; one is none ahead of another one: nothing. -/
def trimD (l : List Pt) : Option (List Pt) := if p0 ∈ l.take (trimN l) then none else some (l.take (trimN l))
/-- The rows loaded, so many; an error. -/
def loadTo (S : StL) (rows : List Pt) : Nat → List Pt × Nat
  | 0 => ([], 0)
  | i + 1 =>
    if (loadTo S rows i).2 ≠ 0 then loadTo S rows i
    else if (seenR S (rows.getD i p0)).2 ≠ 0 then ([], (seenR S (rows.getD i p0)).2)
    else match trimD (seenR S (rows.getD i p0)).1 with
      | none => ([], 8)
      | some t => if t = [] ∨ (i + 1 < rows.length ∧ t.length < 16) then ([], 8) else ((loadTo S rows i).1 ++ t, 0)
/-- The list of a pointer that may be, in a store that may be. -/
def loadedO (S : StL) (p : Pt) : List Pt × List Nat × Nat :=
  if p = p0 then ([], [], 0)
  else if (seenR S p).2 ≠ 0 then ([], [], (seenR S p).2)
  else match trimD (seenR S p).1 with
    | none => ([], [], 8)
    | some rows =>
      if rows = [] then ([], [], 8)
      else if (loadTo S rows rows.length).2 ≠ 0 then ([], [], (loadTo S rows rows.length).2)
      else if MayDL (loadTo S rows rows.length).1 then ((loadTo S rows rows.length).1, blksD rows ++ [p.1.toNat], 0) else ([], [], 8)
/-- What Load answers. -/
noncomputable def loadO (S : StL) (p : Pt) : List Pt × List Nat × Nat :=
  open Classical in if MayS S ∧ MayP p then loadedO S p else ([], [], 8)

theorem trimN_fill : ∀ (l : List Pt) (m : Nat), (∀ q ∈ l, q ≠ p0) → trimN (l ++ List.replicate m p0) = l.length := by
  have h0 : ∀ m, trimN (List.replicate m p0) = 0 := fun m => by
    induction m with
    | zero => rfl
    | succ m ih => rw [List.replicate_succ, trimN, if_pos ih, if_pos rfl]
  intro l
  induction l with
  | nil => intro m _; exact h0 m
  | cons q r ih =>
    intro m h
    have hq : ¬ q = p0 := h q (List.mem_cons_self ..)
    have hr := ih m fun x hx => h x (List.mem_cons_of_mem _ hx)
    rw [List.cons_append, trimN, hr]
    cases r with
    | nil => rw [List.length_nil, if_pos rfl, if_neg hq]; rfl
    | cons y z =>
      rw [if_neg (by simp)]
      rfl
/-- As a loop from the end finds it. -/
theorem trimN_of : ∀ {l : List Pt} {n : Nat}, n ≤ l.length → (∀ j, n ≤ j → j < l.length → l.getD j p0 = p0) → (n = 0 ∨ l.getD (n - 1) p0 ≠ p0) → trimN l = n
  | [], n, hn, _, _ => by
    have : n = 0 := by simpa using hn
    rw [this]
    rfl
  | q :: r, n, hn, h1, h2 => by
    rw [List.length_cons] at hn
    cases n with
    | zero =>
      have hr : trimN r = 0 := trimN_of (Nat.zero_le _) (fun j _ hj => by simpa using h1 (j + 1) (Nat.zero_le _) (by simpa using hj)) (.inl rfl)
      have hq : q = p0 := by simpa using h1 0 (Nat.zero_le _) (by simp)
      rw [trimN, if_pos hr, if_pos hq]
    | succ n =>
      have h2' : (q :: r).getD n p0 ≠ p0 := by
        rcases h2 with h | h
        · omega
        · simpa using h
      have hr : trimN r = n := trimN_of (by omega) (fun j hj hjl => by simpa using h1 (j + 1) (by omega) (by simpa using hjl)) (by
        cases n with
        | zero => exact .inl rfl
        | succ n => exact .inr (by simpa using h2'))
      rw [trimN, hr]
      cases n with
      | zero =>
        have hq : q ≠ p0 := by simpa using h2'
        rw [if_pos rfl, if_neg hq]
      | succ n => rw [if_neg (by omega)]
theorem fillL_app {l : List Pt} (h : l.length ≤ 16) : fillL l = l ++ List.replicate (16 - l.length) p0 := by
  refine List.ext_getElem (by rw [fillL_length, List.length_append, List.length_replicate]; omega) fun i h1 h2 => ?_
  rw [fillL_length] at h1
  have e := fillL_get l i h1
  rw [ddGetD (by rw [fillL_length]; exact h1)] at e
  rw [e]
  by_cases hi : i < l.length
  · rw [List.getElem_append_left hi, ddGetD hi]
  · rw [List.getElem_append_right (by omega), List.getElem_replicate, List.getD_eq_getElem?_getD, List.getElem?_eq_none (by omega)]
    rfl
theorem trimD_fill {l : List Pt} (h : l.length ≤ 16) (h0 : ∀ q ∈ l, q ≠ p0) : trimD (fillL l) = some l := by
  have e : (fillL l).take (trimN (fillL l)) = l := by rw [fillL_app h, trimN_fill l _ h0, List.take_left']; rfl
  unfold trimD
  rw [e, if_neg fun hp => h0 p0 hp rfl]
/-- Rows that were laid. -/
structure LaidR (S : StL) (b : Nat) (l : List Pt) (i : Nat) (T : StL) (ps : List Pt) : Prop where
  may : MayS T
  len : ps.length = i
  one : ∀ q ∈ ps, OneP q ∧ WfP q ∧ q.2.1 = b
  see : ∀ j, j < i → seenO T (ps.getD j p0) = (rowTo (rowD l j) (rowD l j).length, 0)
  mrk : ∀ q ∈ ps, ∃ k : Nat, q.1 = (k : Int) ∧ (12 ≤ k ∧ k < 256) ∧ mkT S.2.1 k = 0 ∧ mkT T.2.1 k = 1
  oth : ∀ k : Nat, (∀ q ∈ ps, q.1 ≠ (k : Int)) → mkT T.2.1 k = mkT S.2.1 k
theorem LaidR.start {S : StL} {b : Nat} {l : List Pt} (h : MayS S) : LaidR S b l 0 S [] := ⟨h, rfl, fun _ h => (by cases h), fun _ h => absurd h (Nat.not_lt_zero _), fun _ h => (by cases h), fun _ _ => rfl⟩
/-- One block more. -/
theorem LaidR.put {S T U : StL} {b i : Nat} {l ps : List Pt} {p : Pt} {s : List UInt8} (h : LaidR S b l i T ps) (hb : 1 ≤ b ∧ b ≤ 16777215) (hs : s.length = 256) (hp : putS T b 0 0 s = some (U, p)) :
    MayS U ∧ (OneP p ∧ WfP p ∧ p.2.1 = b) ∧ seenO U p = (s, 0) ∧ (∀ q, MayP q → (∃ r ∈ ps, r.1 = q.1) → seenO U q = seenO T q) ∧ (∃ k : Nat, p.1 = (k : Int) ∧ (12 ≤ k ∧ k < 256) ∧ mkT S.2.1 k = 0 ∧ mkT U.2.1 k = 1) ∧
    (∀ q ∈ ps, ∃ k : Nat, q.1 = (k : Int) ∧ (12 ≤ k ∧ k < 256) ∧ mkT S.2.1 k = 0 ∧ mkT U.2.1 k = 1) ∧ (∀ k : Nat, (∀ q ∈ ps ++ [p], q.1 ≠ (k : Int)) → mkT U.2.1 k = mkT S.2.1 k) ∧ (∀ q ∈ ps, q.1 ≠ p.1) := by
  have hl : T.2.1.length = 256 := h.may.2.1.1
  rcases putS_cases h.may.2.1 b 0 0 s with ⟨h1, _⟩ | ⟨k, r, hk, hz, h0, hw, _, h1⟩
  · rw [h1] at hp; cases hp
  · rw [h1] at hp
    cases hp
    have hfar : ∀ q ∈ ps, q.1 ≠ (k : Int) := fun q hq e => by
      obtain ⟨k', e', _, _, h4⟩ := h.mrk q hq
      have : k' = k := by omega
      subst this
      omega
    have hmk := fun i => put_mark (S := T) (k := k) (i := i) (b := s) hl hk.2
    have hS : mkT S.2.1 k = 0 := by rw [← h.oth k hfar]; exact hz
    refine ⟨putAt_may h.may hk hs hw, ⟨⟨ptr_may hk hb _ _ _, ptr_not hb.1 _ _ _⟩, ⟨⟨by simp only; omega, by simp only; omega⟩, by simp only; omega, by simp only; omega, by simp only; omega, sumOf_lt s⟩, rfl⟩, seenO_put T hb.1 0 0 s, fun q hq ⟨r, hr, e⟩ => seenO_far T hq (by rw [← e]; exact hfar r hr), ⟨k, rfl, hk, hS, by rw [hmk, if_pos rfl]⟩, fun q hq => ?_, fun k' hk' => ?_, fun q hq => hfar q hq⟩
    · obtain ⟨k', e', h2, h3, h4⟩ := h.mrk q hq
      have := hfar q hq
      exact ⟨k', e', h2, h3, by rw [hmk, if_neg (by omega)]; exact h4⟩
    · have hne : k' ≠ k := fun e => hk' _ (List.mem_append_right _ (List.mem_singleton.2 rfl)) (by simp only; omega)
      rw [hmk, if_neg hne]
      exact h.oth k' fun q hq => hk' q (List.mem_append_left _ hq)
theorem LaidR.step {S T U : StL} {b i : Nat} {l ps : List Pt} {p : Pt} (h : LaidR S b l i T ps) (hb : 1 ≤ b ∧ b ≤ 16777215) (hp : putS T b 0 0 (rowTo (rowD l i) (rowD l i).length) = some (U, p)) : LaidR S b l (i + 1) U (ps ++ [p]) := by
  have hr16 : (rowD l i).length ≤ 16 := by rw [rowD_length]; omega
  obtain ⟨h1, h2, h3, h4, h5, h6, h7, h8⟩ := h.put hb (rowTo_length _ _ (Nat.le_refl _) hr16) hp
  have hlen := h.len
  refine ⟨h1, by rw [List.length_append, hlen]; rfl, fun q hq => ?_, fun j hj => ?_, fun q hq => ?_, h7⟩
  · rcases List.mem_append.1 hq with hq | hq
    · exact h.one q hq
    · rw [List.mem_singleton.1 hq]; exact h2
  · by_cases e : j = i
    · subst e
      have : (ps ++ [p]).getD j p0 = p := by rw [List.getD_eq_getElem?_getD, List.getElem?_append_right (by omega), hlen, Nat.sub_self]; rfl
      rw [this]
      exact h3
    · have hji : j < i := by omega
      have e1 : (ps ++ [p]).getD j p0 = ps.getD j p0 := by rw [List.getD_eq_getElem?_getD, List.getD_eq_getElem?_getD, List.getElem?_append_left (by omega)]
      have hm : ps.getD j p0 ∈ ps := by rw [ddGetD (by omega)]; exact List.getElem_mem _
      rw [e1, h4 _ (h.one _ hm).1.1 ⟨_, hm, rfl⟩]
      exact h.see j hji
  · rcases List.mem_append.1 hq with hq | hq
    · exact h6 q hq
    · rw [List.mem_singleton.1 hq]; exact h5
theorem laidTo_laid {S : StL} {b : Nat} {l : List Pt} (hS : MayS S) (hb : 1 ≤ b ∧ b ≤ 16777215) : ∀ (i : Nat) (T : StL) (ps : List Pt), laidTo S b l i = some (T, ps) → LaidR S b l i T ps
  | 0, T, ps, h => by
    cases h
    exact LaidR.start hS
  | i + 1, T, ps, h => by
    unfold laidTo at h
    cases hX : laidTo S b l i with
    | none => rw [hX] at h; cases h
    | some X =>
      rw [hX] at h
      simp only at h
      cases hY : putS X.1 b 0 0 (rowTo (rowD l i) (rowD l i).length) with
      | none => rw [hY] at h; cases h
      | some Y =>
        rw [hY] at h
        cases h
        exact (laidTo_laid hS hb i X.1 X.2 hX).step hb hY
theorem rowsN_le {l : List Pt} (h : l.length ≤ 240) : rowsN l.length ≤ 15 := by unfold rowsN; omega
theorem seenR_row {T : StL} {p : Pt} {r : List Pt} (h : seenO T p = (rowTo r r.length, 0)) (h16 : r.length ≤ 16) (hm : ∀ q ∈ r, MayP q) (hw : ∀ q ∈ r, WfP q) : seenR T p = (fillL r, 0) := by
  unfold seenR
  rw [h, if_neg (fun h => h rfl), rowsO_row h16 hm hw, if_neg (fun h => h rfl)]
/-- What Lay answers, each way. -/
theorem layedO_cases {S : StL} {b : Nat} {l : List Pt} (hS : MayS S) (hb : 1 ≤ b ∧ b ≤ 16777215) (hl : MayDL l) (hw : ∀ q ∈ l, WfP q) : (layedO S b l = (st0, p0, [], 9)) ∨ (l = [] ∧ layedO S b l = (S, p0, [], 0)) ∨
    (∃ (T : StL) (ps : List Pt) (p : Pt), l ≠ [] ∧ layedO S b l = (T, p, blksD (ps ++ [p]), 0) ∧ MayS T ∧ ps.length = rowsN l.length ∧ (∀ q ∈ ps ++ [p], (OneP q ∧ WfP q ∧ q.2.1 = b) ∧ ∃ k : Nat, q.1 = (k : Int) ∧ (12 ≤ k ∧ k < 256) ∧ mkT S.2.1 k = 0 ∧ mkT T.2.1 k = 1) ∧
      loadedO T p = (l, blksD (ps ++ [p]), 0)) := by
  by_cases h0 : l = []
  · exact .inr (.inl ⟨h0, by unfold layedO; rw [if_pos h0]⟩)
  · have hlen : 0 < l.length := List.length_pos_iff.2 h0
    cases hX : laidTo S b l (rowsN l.length) with
    | none => exact .inl (by unfold layedO; rw [if_neg h0, hX])
    | some X =>
      obtain ⟨T, ps⟩ := X
      have hL := laidTo_laid hS hb _ _ _ hX
      have hps := hL.len
      have h15 := rowsN_le hl.1
      cases hY : putS T b 0 0 (rowTo ps ps.length) with
      | none => exact .inl (by unfold layedO; rw [if_neg h0, hX]; simp only; rw [hY])
      | some Y =>
        obtain ⟨U, p⟩ := Y
        obtain ⟨h1, h2, h3, h4, h5, h6, h7, h8⟩ := hL.put hb (rowTo_length ps _ (Nat.le_refl _) (by omega)) hY
        refine .inr (.inr ⟨U, ps, p, h0, ?_, h1, hps, fun q hq => ?_, ?_⟩)
        · unfold layedO
          rw [if_neg h0, hX]
          simp only
          rw [hY]
          simp [blksD]
        · rcases List.mem_append.1 hq with hq | hq
          · exact ⟨hL.one q hq, h6 q hq⟩
          · rw [List.mem_singleton.1 hq]; exact ⟨h2, h5⟩
        · have hpp := seenR_row h3 (by omega) (fun q hq => (hL.one q hq).1.1) (fun q hq => (hL.one q hq).2.1)
          have htr := trimD_fill (l := ps) (by omega) fun q hq => (hL.one q hq).1.2
          have hn : 0 < rowsN l.length := by unfold rowsN; omega
          have hne : ps ≠ [] := fun e => by rw [e, List.length_nil] at hps; omega
          have hld : ∀ i, i ≤ ps.length → loadTo U ps i = (l.take (16 * i), 0) := by
            intro i
            induction i with
            | zero => intro _; rfl
            | succ i ih =>
              intro hi
              have hi' : i < rowsN l.length := by omega
              have hm : ps.getD i p0 ∈ ps := by rw [ddGetD (by omega)]; exact List.getElem_mem _
              have hse := h4 _ (hL.one _ hm).1.1 ⟨_, hm, rfl⟩
              rw [hL.see i hi'] at hse
              have hr16 : (rowD l i).length ≤ 16 := by rw [rowD_length]; omega
              have hsr := seenR_row hse hr16 (fun q hq => (hl.2.1 q (rowD_mem hq)).1) (fun q hq => hw q (rowD_mem hq))
              have htq := trimD_fill hr16 fun q hq => (hl.2.1 q (rowD_mem hq)).2
              have hr := rowD_length l i
              have hc : ¬ (rowD l i = [] ∨ (i + 1 < ps.length ∧ (rowD l i).length < 16)) := by
                rintro (e | ⟨e1, e2⟩)
                · rw [e, List.length_nil] at hr
                  unfold rowsN at hi'
                  omega
                · rw [hps] at e1
                  unfold rowsN at e1
                  omega
              unfold loadTo
              rw [ih (by omega), if_neg (fun h => h rfl), hsr, if_neg (fun h => h rfl)]
              simp only
              rw [htq]
              simp only
              rw [if_neg hc, rowD_join]
          have hall : l.take (16 * ps.length) = l := List.take_of_length_le (by rw [hps]; unfold rowsN; omega)
          have hld' := hld ps.length (Nat.le_refl _)
          rw [hall] at hld'
          unfold loadedO
          rw [if_neg h2.1.2, hpp, if_neg (fun h => h rfl)]
          simp only
          rw [htr]
          simp only
          rw [if_neg hne, hld', if_neg (fun h => h rfl), if_pos hl]
          simp [blksD]
theorem layO_cases (S : StL) (b : Nat) (l : List Pt) (hw : ∀ q ∈ l, WfP q) : (∃ e, layO S b l = (st0, p0, [], e) ∧ e ≠ 0) ∨ (MayS S ∧ l = [] ∧ (1 ≤ b ∧ b ≤ 16777215) ∧ layO S b l = (S, p0, [], 0)) ∨
    (∃ (T : StL) (ps : List Pt) (p : Pt), MayS S ∧ MayDL l ∧ (1 ≤ b ∧ b ≤ 16777215) ∧ l ≠ [] ∧ layO S b l = (T, p, blksD (ps ++ [p]), 0) ∧ MayS T ∧ ps.length = rowsN l.length ∧ (∀ q ∈ ps ++ [p], (OneP q ∧ WfP q ∧ q.2.1 = b) ∧ ∃ k : Nat, q.1 = (k : Int) ∧ (12 ≤ k ∧ k < 256) ∧ mkT S.2.1 k = 0 ∧ mkT T.2.1 k = 1) ∧
      loadO T p = (l, blksD (ps ++ [p]), 0)) := by
  unfold layO
  by_cases h : MayS S ∧ MayDL l
  · rw [if_pos h]
    by_cases hb : 1 ≤ b ∧ b ≤ 16777215
    · rw [if_pos hb]
      rcases layedO_cases h.1 hb h.2 hw with h1 | ⟨h1, h2⟩ | ⟨T, ps, p, h1, h2, h3, h4, h5, h6⟩
      · exact .inl ⟨9, h1, by decide⟩
      · exact .inr (.inl ⟨h.1, h1, hb, h2⟩)
      · refine .inr (.inr ⟨T, ps, p, h.1, h.2, hb, h1, h2, h3, h4, h5, ?_⟩)
        have hp : MayP p := (h5 p (List.mem_append_right _ (List.mem_singleton.2 rfl))).1.1.1
        unfold loadO
        rw [if_pos ⟨h3, hp⟩]
        exact h6
    · rw [if_neg hb]; exact .inl ⟨2, rfl, by decide⟩
  · rw [if_neg h]; exact .inl ⟨8, rfl, by decide⟩
end Go.Proofs.YtadffkfalclpjaaGreatDoor
/-
  Slices of a slice of pointers: its beginning, what is left of it, a window.
-/
namespace Go.Proofs.YtadffkfalclpjaaGreatDoor
open Go.RowKit Go.Shelf
set_option maxRecDepth 100000

theorem psize5 (W : World) : (Go.sizeOf (Tryz.prog.elem 22)).run Tryz.prog W = .ok 5 W := by kernel_rfl
/-- l[:h]. -/
theorem pslice_to (W : World) (a : Option Addr) (n c h : Nat) (hc : h ≤ c) : (Instr.slice 22 (.slice a n c) none (some (.int .i64 (h : Int))) none).run Tryz.prog W = .ok (.slice a h c) W := by
  rw [run_slice_h W 22 _ _ _ (by kernel_rfl) .i64 _ (by omega) (by omega), psize5]
  cases a <;> simp [Result.andThen, sliced, Addr.add]
theorem Pts.take {w : World} {B n c k : Nat} {a : Option Addr} {L : List Pt} (h : Pts w B a n c L) (hk : k ≤ n) : Pts w B a k c (L.take k) := by
  obtain ⟨h1, h2, h3, h4, h5⟩ := h
  refine ⟨by rw [List.length_take]; omega, by omega, h3, h4, fun hl => ?_⟩
  obtain ⟨b, off, e, hlt, hc⟩ := h5 (by omega)
  refine ⟨b, off, e, hlt, fun i hi => ?_⟩
  rw [List.length_take] at hi
  have := hc i (by omega)
  rw [List.getElem_take]
  exact this
/-- l[k:], whatever is left. -/
theorem pslice_from (b off n c k : Nat) (hk : k ≤ n) (hc : n ≤ c) : ∃ A', (∀ W : World, (Instr.slice 22 (.slice (some ⟨b, off, none⟩) n c) (some (.int .i64 (k : Int))) none none).run Tryz.prog W = .ok (.slice A' (n - k) (c - k)) W) ∧ ∀ (w : World) (B : Nat) (L : List Pt), Pts w B (some ⟨b, off, none⟩) n c L → Pts w B A' (n - k) (c - k) (L.drop k) := by
  by_cases he : c = k
  · refine ⟨some ⟨b, off, none⟩, fun W => ?_, fun w B L h => ?_⟩
    · rw [run_slice_l W 22 _ _ _ (by kernel_rfl) .i64 _ (by omega) (by omega), psize5]
      simp [Result.andThen, sliced, he]
    · obtain ⟨h1, h2, h3, h4, h5⟩ := h
      exact ⟨by rw [List.length_drop]; omega, by omega, by omega, fun e => (by cases e), fun hl => absurd hl (by omega)⟩
  · refine ⟨some ⟨b, off + k * 5, none⟩, fun W => ?_, fun w B L h => ?_⟩
    · rw [run_slice_l W 22 _ _ _ (by kernel_rfl) .i64 _ (by omega) (by omega), psize5]
      have e0 : (if k = 0 then (⟨b, off, none⟩ : Addr) else ⟨b, off + k * 5, none⟩) = ⟨b, off + k * 5, none⟩ := by
        split
        · rename_i h; subst h; simp
        · rfl
      simp [Result.andThen, sliced, he, Addr.add]
    · obtain ⟨h1, h2, h3, h4, h5⟩ := h
      refine ⟨by rw [List.length_drop]; omega, by omega, by omega, fun e => (by cases e), fun hl => ?_⟩
      obtain ⟨b', off', e, hlt, hcc⟩ := h5 (by omega)
      cases e
      refine ⟨b, off + k * 5, rfl, hlt, fun i hi => ?_⟩
      rw [List.length_drop] at hi
      have := hcc (k + i) (by omega)
      rw [List.getElem_drop]
      refine ⟨this.1, fun j u hu => ?_⟩
      have := this.2 j u hu
      rwa [show off + (k + i) * 5 + j = off + k * 5 + i * 5 + j by omega] at this
/-- l[k:k+m:k+m]. -/
theorem Pts.win {w : World} {B b off n c : Nat} {L : List Pt} (h : Pts w B (some ⟨b, off, none⟩) n c L) (k m : Nat) (hkm : k + m ≤ n) : Pts w B (some ⟨b, off + k * 5, none⟩) m m ((L.drop k).take m) := by
  obtain ⟨h1, h2, h3, h4, h5⟩ := h
  refine ⟨by rw [List.length_take, List.length_drop]; omega, Nat.le_refl _, by omega, fun e => (by cases e), fun hl => ?_⟩
  obtain ⟨b', off', e, hlt, hcc⟩ := h5 (by omega)
  cases e
  refine ⟨b, off + k * 5, rfl, hlt, fun i hi => ?_⟩
  rw [List.length_take, List.length_drop] at hi
  have := hcc (k + i) (by omega)
  rw [List.getElem_take, List.getElem_drop]
  refine ⟨this.1, fun j u hu => ?_⟩
  have := this.2 j u hu
  rwa [show off + (k + i) * 5 + j = off + k * 5 + i * 5 + j by omega] at this
end Go.Proofs.YtadffkfalclpjaaGreatDoor
/-
  Words for lists of whole numbers (Go's []int with no number below nought): a slice that reads as them; appends to a slice of one's own; a cell of it.
-/
namespace Go.Proofs.YtadffkfalclpjaaGreatDoor
open Go.RowKit Go.Shelf
set_option maxRecDepth 100000

/-- The values of numbers. -/
def valsN (s : List Nat) : List Value := s.map fun x : Nat => .int .i64 (x : Int)
theorem valsN_append (s t : List Nat) : valsN s ++ valsN t = valsN (s ++ t) := by simp [valsN]
theorem valsN_get {s : List Nat} {j : Nat} {u : Value} (h : (valsN s)[j]? = some u) : ∃ hj : j < s.length, u = .int .i64 ((s[j] : Nat) : Int) := by
  rw [valsN, List.getElem?_map] at h
  rcases Nat.lt_or_ge j s.length with hj | hj
  · rw [List.getElem?_eq_getElem hj] at h
    exact ⟨hj, (Option.some.inj h).symm⟩
  · rw [List.getElem?_eq_none hj] at h; cases h

/-- A slice of numbers that lies below block B reads as s. -/
def Nsl (w : World) (B : Nat) (a : Option Addr) (len cap : Nat) (s : List Nat) : Prop :=
  s.length = len ∧ len ≤ cap ∧ cap ≤ maxLen ∧ (a = none → cap = 0) ∧
    (0 < len → ∃ b off, a = some ⟨b, off, none⟩ ∧ b < B ∧ ∀ i (h : i < s.length), w.cell? ⟨b, off + i, none⟩ = some (.int .i64 ((s[i] : Nat) : Int)))
theorem Nsl.below {w w' : World} {B : Nat} {a : Option Addr} {len cap : Nat} {s : List Nat} (h : Nsl w B a len cap s) (hb : Below B w w') : Nsl w' B a len cap s := by
  obtain ⟨h1, h2, h3, h4, h5⟩ := h
  refine ⟨h1, h2, h3, h4, fun hl => ?_⟩
  obtain ⟨b, off, e, hlt, hc⟩ := h5 hl
  exact ⟨b, off, e, hlt, fun i hi => (hb.cell (p := ⟨b, off + i, none⟩) hlt).trans (hc i hi)⟩
theorem Nsl.more {w : World} {B B' : Nat} {a : Option Addr} {len cap : Nat} {s : List Nat} (h : Nsl w B a len cap s) (hB : B ≤ B') : Nsl w B' a len cap s := by
  obtain ⟨h1, h2, h3, h4, h5⟩ := h
  refine ⟨h1, h2, h3, h4, fun hl => ?_⟩
  obtain ⟨b, off, e, hlt, hc⟩ := h5 hl
  exact ⟨b, off, e, by omega, hc⟩
theorem Nsl.step {w w' : World} {a : Option Addr} {len cap : Nat} {s : List Nat} (h : Nsl w w.heap.size a len cap s) (hb : Below w.heap.size w w') : Nsl w' w'.heap.size a len cap s := (h.below hb).more hb.size
theorem Nsl.cellD {w : World} {B g off len cap : Nat} {s : List Nat} (h : Nsl w B (some ⟨g, off, none⟩) len cap s) (i : Nat) (hi : i < len) : w.cell? ⟨g, off + i, none⟩ = some (.int .i64 ((s.getD i 0 : Nat) : Int)) := by
  obtain ⟨b, o, e, _, hc⟩ := h.2.2.2.2 (by omega)
  cases e
  have hl : i < s.length := by rw [h.1]; exact hi
  rw [hc i hl, List.getD_eq_getElem?_getD, List.getElem?_eq_getElem hl]
  rfl
theorem infoInt : (Tryz.prog.info? 3).map (fun i => (i.zero, i.size, i.bytes)) = some (some (.int .i64 0), 1, 8) := by kernel_rfl

theorem wpList_append_nsl {w : World} {ops : Array Oper} {rest : List Oper} {o : Oper} {a : Act} {Q : Exit → Act → World → Prop} (hgd : o.guard = none) (s x : Operand)
    (ho : o.op = .call { callee := .builtin .append, args := #[s, x], argTypes := #[39, 39] })
    (base : Nat) (v : Value) (n : Nat) (xs : List Nat) (hs : a.eval s = v) (hown : w.ownsRow base 3 1 v n (valsN xs))
    (B : Nat) (A : Option Addr) (m c : Nat) (news : List Nat) (hx : a.eval x = .slice A m c) (hr : Nsl w B A m c news)
    (hnm : n + m ≤ 100000) (hbase : base ≤ w.heap.size)
    (h : ∀ v' w', w'.ownsRow base 3 1 v' (n + m) (valsN (xs ++ news)) → w.grownBy w' v.ownBlock → wpList Tryz.prog ops Q rest (a.put o.dst v') w') : wpList Tryz.prog ops Q (o :: rest) a w := by
  obtain ⟨i0, hi, hz0, hz1, hz2⟩ := info_parts infoInt
  obtain ⟨h1, h2, h3, h4, h5⟩ := hr
  have e0 : m = 0 → news = [] := fun e => List.eq_nil_of_length_eq_zero (by omega)
  cases A with
  | none =>
    have hc := h4 rfl
    have hm : m = 0 := by omega
    subst hm; subst hc
    obtain rfl := e0 rfl
    refine wpList_append_own_none hgd s x 39 ho base 3 i0 1 Tryz.underlying39 hi v n (valsN xs) hs hown hx ?_
    exact h v w (by simpa using hown) (World.grownBy.refl w _)
  | some ad =>
    refine wpList_append_own w hgd s x 39 ho base 3 i0 (.int .i64 0) 1 8 Tryz.underlying39 hi hz0 hz1 hz2 rfl (by decide) v n (valsN xs) hs hown ad m c (valsN news) hx (by simp [valsN, h1]) (fun j u hu => ?_) (fun u hu => ?_) (by unfold maxLen; omega) (by omega) hbase ?_
    · obtain ⟨hj, rfl⟩ := valsN_get hu
      obtain ⟨b, off, e, _, hc⟩ := h5 (by omega)
      cases e
      rw [← hc j hj]
      congr 1
      unfold Addr.add
      split <;> simp_all
    · obtain ⟨y, _, rfl⟩ := List.mem_map.1 hu
      rfl
    · intro v' w' h2 h3 _
      exact h v' w' (by rw [← valsN_append]; exact h2) h3

/-- Numbers in a row of one's own: where they lie. -/
theorem nsl_of_own {w : World} {base n : Nat} {v : Value} {s : List Nat} (h : w.ownsRow base 3 1 v n (valsN s)) (hn : 0 < n) :
    ∃ g cap, v = .slice (some ⟨g, 0, none⟩) n cap ∧ base ≤ g ∧ g < w.heap.size ∧ Nsl w w.heap.size (some ⟨g, 0, none⟩) n cap s := by
  have hl : s.length = n := by have := h.1; simpa [valsN] using this
  obtain ⟨h1, h2 | ⟨g, cap, cur, rfl, hb, hh, hnc, hcm, hsz, ht⟩⟩ := h
  · omega
  · have hg : g < w.heap.size := (Array.getElem?_eq_some_iff.1 hh).1
    refine ⟨g, cap, rfl, hb, hg, hl, hnc, hcm, fun e => (by cases e), fun _ => ⟨g, 0, rfl, hg, fun i hi => ?_⟩⟩
    rw [Nat.zero_add, cell_of_row w g i cur 3 (0, 0) hh]
    have : (valsN s)[i]? = some (.int .i64 ((s[i] : Nat) : Int)) := by simp [valsN, hi]
    rw [← ht, List.getElem?_take_of_lt (by omega)] at this
    rw [← this, Array.getElem?_toList]
/-- A new block of numbers, as a slice. -/
theorem nsl_blk {w : World} {g : Nat} {s : List Nat} (h : Blk w g 3 (valsN s).toArray) (hs : s.length ≤ 100000) : Nsl w w.heap.size (some ⟨g, 0, none⟩) s.length s.length s :=
  ⟨rfl, Nat.le_refl _, by unfold maxLen; omega, fun e => (by cases e), fun _ => ⟨g, 0, rfl, h.lt, fun i hi => by
    rw [Nat.zero_add, h.cell i]
    simp [valsN, hi]⟩⟩
/-- Behind a new number: the number's own slice. -/
theorem one_nsl (w : World) (x : Nat) : Nsl (w.alloc (.cells #[.int .i64 (x : Int)] 3)) (w.alloc (.cells #[.int .i64 (x : Int)] 3)).heap.size (some ⟨w.heap.size, 0, none⟩) 1 1 [x] :=
  nsl_blk (s := [x]) (Blk.new w _ _) (by simp)
end Go.Proofs.YtadffkfalclpjaaGreatDoor
/-
  space's own: marks, slices.IndexFunc and ContainsFunc over bytes, whether a table may be, bytes.Clone, a table with another mark, the closure that tells the free blocks.
-/
namespace Go.Proofs.YtadffkfalclpjaaGreatDoor
open Go.RowKit Go.Shelf
set_option maxRecDepth 100000

theorem Bsl.mk {w : World} {B g off len cap : Nat} {s : List UInt8} (h : Bsl w B (some ⟨g, off, none⟩) len cap s) (i : Nat) (hi : i < len) : w.cell? ⟨g, off + i, none⟩ = some (.int .u8 ((mkT s i : Nat) : Int)) := h.cellD i hi
theorem Bsl.at_ {w : World} {B len cap : Nat} {a : Option Addr} {s : List UInt8} (h : Bsl w B a len cap s) (h0 : 0 < len) : ∃ b off, a = some ⟨b, off, none⟩ ∧ b < B := by
  obtain ⟨b, off, e, hb, _⟩ := h.2.2.2.2 h0
  exact ⟨b, off, e, hb⟩

theorem isNoMark_any (x : Nat) (hx : x < 256) (w : World) : Calls Tryz.prog 141 #[.int .u8 x] w fun e w' => e = .returned (.bool (decide (2 < x))) ∧ w = w' := by
  have x0 : (0 : Int) ≤ x := by omega
  by_cases h0 : x = 0
  · subst h0
    go_enter Tryz.func141, Tryz.ntmps141
    go_wp2_with fail
    go_ret
    exact ⟨rfl, rfl⟩
  · have e0 : ((x : Int) != 0) = true := by simp; omega
    by_cases h1 : x = 1
    · subst h1
      go_enter Tryz.func141, Tryz.ntmps141
      go_wp2_with fail
      go_ret
      exact ⟨rfl, rfl⟩
    · have e1 : ((x : Int) != 1) = true := by simp; omega
      by_cases h2 : x = 2
      · subst h2
        go_enter Tryz.func141, Tryz.ntmps141
        go_wp2_with fail
        go_ret
        exact ⟨rfl, rfl⟩
      · have e2 : ((x : Int) != 2) = true := by simp; omega
        have e3 : decide (2 < x) = true := decide_eq_true (by omega)
        rw [e3]
        clear h0 h1 h2 e3
        go_enter Tryz.func141, Tryz.ntmps141
        go_wp2_with fail
        go_ret
        exact ⟨rfl, rfl⟩
theorem isNotUsed_any (x : Nat) (hx : x < 256) (w : World) : Calls Tryz.prog 142 #[.int .u8 x] w fun e w' => e = .returned (.bool (decide (x ≠ 1))) ∧ w = w' := by
  have x0 : (0 : Int) ≤ x := by omega
  by_cases h1 : x = 1
  · subst h1
    go_enter Tryz.func142, Tryz.ntmps142
    go_wp2_with fail
    go_ret
    exact ⟨rfl, rfl⟩
  · have e1 : ((x : Int) != 1) = true := by simp; omega
    have e3 : decide (x ≠ 1) = true := decide_eq_true (by omega)
    rw [e3]
    clear h1 e3
    go_enter Tryz.func142, Tryz.ntmps142
    go_wp2_with fail
    go_ret
    exact ⟨rfl, rfl⟩
/-- slices.IndexFunc over bytes: none is odd. -/
theorem spIndex_none (F : Nat) (p : Nat → Bool) (hFF : F = 141 ∨ F = 142) (hF : ∀ x : Nat, x < 256 → ∀ W : World, Calls Tryz.prog F #[.int .u8 x] W fun e w' => e = .returned (.bool (p x)) ∧ W = w') (a : Option Addr) (n c B : Nat) (s : List UInt8) (w : World) (hA : Bsl w B a n c s) (hall : ∀ i, i < n → p (mkT s i) = false) :
    Calls Tryz.prog 161 #[.slice a n c, .func (.func F) #[] #[]] w fun e w' => e = .returned (.int .i64 (-1)) ∧ w = w' := by
  have n0 : (0 : Int) ≤ n := by omega
  have n1 := hA.len_le
  have HA := Lib.hid hA
  have HL := Lib.hid hall
  have HF := Lib.hid hF
  clear hA hall hF
  rcases hFF with rfl | rfl
  all_goals
    go_enter Tryz.func161, Tryz.ntmps161
    go_wp2_with fail
    go_loop [8] (fun i => ∃ k : Nat, k ≤ n ∧ i = .int .i64 k) (fun i => n - (intOf i).toNat)
    case atStart => exact ⟨0, Nat.zero_le _, rfl⟩
    case round =>
      obtain ⟨k, hk, rfl⟩ := hrel
      have k0 : (0 : Int) ≤ k := by omega
      by_cases hlt : k < n
      · have k1 : (k : Int) < n := by omega
        obtain ⟨b, off, rfl, _⟩ := HA.out.at_ (by omega)
        have hc := HA.out.mk k hlt
        have hx := HF.out (mkT s k) (mkT_lt s k) w
        rw [HL.out k hlt] at hx
        have HX := Lib.hid hx
        clear hx
        go_wp2_with fail
        refine HX.out.mono ?_
        rintro e w1 ⟨rfl, rfl⟩
        go_wp2_with fail
        go_round
        case rel => exact ⟨k + 1, by omega, by go_num⟩
        case measure => simp [intOf]; omega
      · obtain rfl : k = n := by omega
        go_wp2_with fail
        go_ret
        exact ⟨rfl, rfl⟩
/-- One is odd. -/
theorem spIndex_some (F : Nat) (p : Nat → Bool) (hFF : F = 141 ∨ F = 142) (hF : ∀ x : Nat, x < 256 → ∀ W : World, Calls Tryz.prog F #[.int .u8 x] W fun e w' => e = .returned (.bool (p x)) ∧ W = w') (a : Option Addr) (n c B : Nat) (s : List UInt8) (w : World) (hA : Bsl w B a n c s) (j : Nat) (hj : j < n) (hat : p (mkT s j) = true) (hall : ∀ i, i < j → p (mkT s i) = false) :
    Calls Tryz.prog 161 #[.slice a n c, .func (.func F) #[] #[]] w fun e w' => e = .returned (.int .i64 j) ∧ w = w' := by
  have n0 : (0 : Int) ≤ n := by omega
  have n1 := hA.len_le
  obtain ⟨b, off, rfl, _⟩ := hA.at_ (by omega)
  have HA := Lib.hid hA
  have HL := Lib.hid hall
  have HAT := Lib.hid hat
  have HF := Lib.hid hF
  clear hA hall hF hat
  rcases hFF with rfl | rfl
  all_goals
    go_enter Tryz.func161, Tryz.ntmps161
    go_wp2_with fail
    go_loop [8] (fun i => ∃ k : Nat, k ≤ j ∧ i = .int .i64 k) (fun i => n - (intOf i).toNat)
    case atStart => exact ⟨0, Nat.zero_le _, rfl⟩
    case round =>
      obtain ⟨k, hk, rfl⟩ := hrel
      have k0 : (0 : Int) ≤ k := by omega
      have hlt : k < n := by omega
      have k1 : (k : Int) < n := by omega
      have hc := HA.out.mk k hlt
      have hx := HF.out (mkT s k) (mkT_lt s k) w
      by_cases hkj : k < j
      · rw [HL.out k hkj] at hx
        have HX := Lib.hid hx
        clear hx
        go_wp2_with fail
        refine HX.out.mono ?_
        rintro e w1 ⟨rfl, rfl⟩
        go_wp2_with fail
        go_round
        case rel => exact ⟨k + 1, by omega, by go_num⟩
        case measure => simp [intOf]; omega
      · have hkj' : k = j := by omega
        rw [hkj', HAT.out] at hx
        rw [hkj'] at hc k0 k1 ⊢
        have HX := Lib.hid hx
        clear hx hkj hkj' hk hlt
        go_wp2_with fail
        refine HX.out.mono ?_
        rintro e w1 ⟨rfl, rfl⟩
        go_wp2_with fail
        go_ret
        exact ⟨rfl, rfl⟩
theorem spContains_none (F : Nat) (p : Nat → Bool) (hFF : F = 141 ∨ F = 142) (hF : ∀ x : Nat, x < 256 → ∀ W : World, Calls Tryz.prog F #[.int .u8 x] W fun e w' => e = .returned (.bool (p x)) ∧ W = w') (a : Option Addr) (n c B : Nat) (s : List UInt8) (w : World) (hA : Bsl w B a n c s) (hall : ∀ i, i < n → p (mkT s i) = false) :
    Calls Tryz.prog 140 #[.slice a n c, .func (.func F) #[] #[]] w fun e w' => e = .returned (.bool false) ∧ w = w' := by
  have HX := Lib.hid (spIndex_none F p hFF hF a n c B s w hA hall)
  clear hF hA hall hFF
  go_enter Tryz.func140, Tryz.ntmps140
  go_wp2_with fail
  refine HX.out.mono ?_
  rintro e w1 ⟨rfl, rfl⟩
  go_wp2_with fail
  go_ret
  exact ⟨rfl, rfl⟩
theorem spContains_some (F : Nat) (p : Nat → Bool) (hFF : F = 141 ∨ F = 142) (hF : ∀ x : Nat, x < 256 → ∀ W : World, Calls Tryz.prog F #[.int .u8 x] W fun e w' => e = .returned (.bool (p x)) ∧ W = w') (a : Option Addr) (n c B : Nat) (s : List UInt8) (w : World) (hA : Bsl w B a n c s) (i : Nat) (hi : i < n) (hat : p (mkT s i) = true) :
    Calls Tryz.prog 140 #[.slice a n c, .func (.func F) #[] #[]] w fun e w' => e = .returned (.bool true) ∧ w = w' := by
  rcases first_from (fun k => p (mkT s k) = true) 0 n with ⟨j, _, hj, hpj, hall⟩ | h
  · have HX := Lib.hid (spIndex_some F p hFF hF a n c B s w hA j hj hpj fun k hk => by simpa using hall k (by omega) hk)
    clear hF hA hall hat hFF
    have j0 : (0 : Int) ≤ j := by omega
    go_enter Tryz.func140, Tryz.ntmps140
    go_wp2_with fail
    refine HX.out.mono ?_
    rintro e w1 ⟨rfl, rfl⟩
    go_wp2_with fail
    go_ret
    exact ⟨rfl, rfl⟩
  · exact absurd hat (h i (by omega) hi)
/-- A table may be. -/
theorem spMay_yes (a : Option Addr) (n c B : Nat) (s : List UInt8) (w : World) (hA : Bsl w B a n c s) (h : MayT s) :
    Calls Tryz.prog 114 #[.slice a n c] w fun e w' => e = .returned (.bool true) ∧ w = w' := by
  have hn : n = 256 := by rw [← hA.1]; exact h.1
  subst hn
  obtain ⟨b, off, rfl, _⟩ := hA.at_ (by omega)
  have hc : 256 ≤ c := hA.2.1
  have H1 := Lib.hid (spContains_none 141 (fun x => decide (2 < x)) (.inl rfl) (fun x hx W => isNoMark_any x hx W) _ 256 c B s w hA fun i hi => decide_eq_false (by have := h.2.1 i hi; omega))
  have hp := hA.pre 12 (by omega)
  have H2 := Lib.hid (spContains_none 142 (fun x => decide (x ≠ 1)) (.inr rfl) (fun x hx W => isNotUsed_any x hx W) _ 12 c B (s.take 12) w hp fun i hi => by
    have e : mkT (s.take 12) i = mkT s i := by
      unfold mkT
      rw [List.getD_eq_getElem?_getD, List.getElem?_take_of_lt hi, List.getD_eq_getElem?_getD]
    rw [e, h.2.2 i hi]; rfl)
  have HS : ∀ W : World, (Instr.slice 36 (.slice (some ⟨b, off, none⟩) 256 c) none (some (.int .i64 12)) none).run Tryz.prog W = .ok (.slice (some ⟨b, off, none⟩) 12 c) W := fun W => slice_h W b off 256 c 12 (by omega) (by omega)
  clear hA hp h
  go_enter Tryz.func114, Tryz.ntmps114
  go_wp2_with fail
  refine H1.out.mono ?_
  rintro e w1 ⟨rfl, rfl⟩
  go_wp2_with fail
  refine H2.out.mono ?_
  rintro e w1 ⟨rfl, rfl⟩
  go_wp2_with fail
  go_ret
  exact ⟨rfl, rfl⟩
theorem not_may {s : List UInt8} (h : ¬ MayT s) (hl : s.length = 256) : (∃ i, i < 256 ∧ 2 < mkT s i) ∨ ((∀ i, i < 256 → mkT s i ≤ 2) ∧ ∃ i, i < 12 ∧ mkT s i ≠ 1) := by
  rcases first_from (fun i => 2 < mkT s i) 0 256 with ⟨k, _, hk, h2, _⟩ | h1
  · exact .inl ⟨k, hk, h2⟩
  · have h1' : ∀ i, i < 256 → mkT s i ≤ 2 := fun i hi => by have := h1 i (by omega) hi; omega
    rcases first_from (fun i => mkT s i ≠ 1) 0 12 with ⟨k, _, hk, h2, _⟩ | h3
    · exact .inr ⟨h1', k, hk, h2⟩
    · exact absurd ⟨hl, h1', fun i hi => by have := h3 i (by omega) hi; omega⟩ h
theorem spMay_no (a : Option Addr) (n c B : Nat) (s : List UInt8) (w : World) (hA : Bsl w B a n c s) (h : ¬ MayT s) :
    Calls Tryz.prog 114 #[.slice a n c] w fun e w' => e = .returned (.bool false) ∧ w = w' := by
  by_cases hn : n = 256
  · subst hn
    obtain ⟨b, off, rfl, _⟩ := hA.at_ (by omega)
    have hc : 256 ≤ c := hA.2.1
    rcases not_may h hA.1 with ⟨i, hi, h2⟩ | ⟨h1, i, hi, h2⟩
    · have H1 := Lib.hid (spContains_some 141 (fun x => decide (2 < x)) (.inl rfl) (fun x hx W => isNoMark_any x hx W) _ 256 c B s w hA i hi (decide_eq_true h2))
      clear hA h h2
      go_enter Tryz.func114, Tryz.ntmps114
      go_wp2_with fail
      refine H1.out.mono ?_
      rintro e w1 ⟨rfl, rfl⟩
      go_wp2_with fail
      go_ret
      exact ⟨rfl, rfl⟩
    · have H1 := Lib.hid (spContains_none 141 (fun x => decide (2 < x)) (.inl rfl) (fun x hx W => isNoMark_any x hx W) _ 256 c B s w hA fun i hi => decide_eq_false (by have := h1 i hi; omega))
      have hp := hA.pre 12 (by omega)
      have e : mkT (s.take 12) i = mkT s i := by
        unfold mkT
        rw [List.getD_eq_getElem?_getD, List.getElem?_take_of_lt hi, List.getD_eq_getElem?_getD]
      have H2 := Lib.hid (spContains_some 142 (fun x => decide (x ≠ 1)) (.inr rfl) (fun x hx W => isNotUsed_any x hx W) _ 12 c B (s.take 12) w hp i hi (by rw [e]; exact decide_eq_true h2))
      have HS : ∀ W : World, (Instr.slice 36 (.slice (some ⟨b, off, none⟩) 256 c) none (some (.int .i64 12)) none).run Tryz.prog W = .ok (.slice (some ⟨b, off, none⟩) 12 c) W := fun W => slice_h W b off 256 c 12 (by omega) (by omega)
      clear hA hp h e h1 h2
      go_enter Tryz.func114, Tryz.ntmps114
      go_wp2_with fail
      refine H1.out.mono ?_
      rintro e w1 ⟨rfl, rfl⟩
      go_wp2_with fail
      refine H2.out.mono ?_
      rintro e w1 ⟨rfl, rfl⟩
      go_wp2_with fail
      go_ret
      exact ⟨rfl, rfl⟩
  · have n1 := hA.len_le
    have hb : ((n : Int) == 256) = false := by simp; omega
    clear hA h hn
    go_enter Tryz.func114, Tryz.ntmps114
    go_wp2_with fail
    go_ret
    exact ⟨rfl, rfl⟩
end Go.Proofs.YtadffkfalclpjaaGreatDoor
/-
  space's own: bytes.Clone, a table with another mark, New, the closure that tells the free blocks.
-/
namespace Go.Proofs.YtadffkfalclpjaaGreatDoor
open Go.RowKit Go.Shelf
set_option maxRecDepth 100000

set_option maxHeartbeats 1000000 in
theorem spClone_any (a : Option Addr) (n c : Nat) (s : List UInt8) (w : World) (hA : Bsl w w.heap.size a n c s) (h0 : 0 < n) (hn : n ≤ 20000) : Calls Tryz.prog 56 #[.slice a n c] w (OwnV n s w) := by
  obtain ⟨b, off, rfl, _⟩ := hA.at_ h0
  have HA := Lib.hid hA.2.2.2
  have b0 := (Below.refl w.heap.size w).alloc (Nat.le_refl _) (.cells #[] 5)
  have HB0 := Lib.hid b0
  have HS := Lib.hid (hA.step b0)
  have HO0 := Lib.hid (own_empty w)
  have HQ : (binOp .eql 36 (.slice (some ⟨b, off, none⟩) n c) (.slice none 0 0)).run Tryz.prog w = .ok (.bool false) w := by kernel_rfl
  clear hA b0
  go_enter Tryz.func56, Tryz.ntmps56
  go_wp2_with (at_builtin
               refine wpList_append_bsl rfl (.tmp 5) (.tmp 6) rfl w.heap.size _ 0 _ rfl HO0.out _ (some ⟨b, off, none⟩) n c s rfl HS.out (by omega) HB0.out.size ?_
               intro v1 W1 hown1 hg1
               rw [Nat.zero_add, List.nil_append] at hown1
               have HB1 := Lib.hid (app_below HB0.out HO0.out hg1 HB0.out.size); clear hg1
               have HO1 := Lib.hid hown1; clear hown1)
  go_ret
  exact ⟨_, rfl, HO1.out, HB1.out⟩
/-- A row of the call's own in which one byte is written. -/
theorem own_put {w : World} {B n c g : Nat} {s : List UInt8} (h : w.ownsRow B 5 1 (.slice (some ⟨g, 0, none⟩) n c) n (vals s)) (i : Nat) (_hi : i < n) (y : UInt8) : (w.setCell ⟨g, i, none⟩ (.int .u8 (y.toNat : Int))).ownsRow B 5 1 (.slice (some ⟨g, 0, none⟩) n c) n (vals (s.set i y)) := by
  obtain ⟨h1, ⟨h2, h3⟩ | ⟨g', cap', cur, h2, hb, hh, hnc, hcm, hsz, ht⟩⟩ := h
  · cases h2
  · cases h2
    refine ⟨by simpa [vals] using h1, .inr ⟨g, c, cur.setIfInBounds i (.int .u8 (y.toNat : Int)), rfl, hb, Blk.set_ (g := g) (t := 5) hh i _, hnc, hcm, by simpa using hsz, ?_⟩⟩
    rw [Array.toList_setIfInBounds, List.take_set, vals, List.map_set]
    have e : List.take (n * 1) cur.toList = vals s := by simpa using ht
    rw [show (List.take (n * 1) cur.toList) = vals s from e]
    rfl
theorem own_mk {w : World} {B n c g : Nat} {s : List UInt8} (h : w.ownsRow B 5 1 (.slice (some ⟨g, 0, none⟩) n c) n (vals s)) (i : Nat) (hi : i < n) : w.cell? ⟨g, i, none⟩ = some (.int .u8 ((mkT s i : Nat) : Int)) := by
  have := (own_bsl h).mk i hi
  rwa [Nat.zero_add] at this
theorem own_at {w : World} {B n : Nat} {v : Value} {s : List UInt8} (h : w.ownsRow B 5 1 v n (vals s)) (h0 : 0 < n) : ∃ g c, v = .slice (some ⟨g, 0, none⟩) n c := by
  obtain ⟨g, c, e, _⟩ := bsl_of_own h h0
  exact ⟨g, c, e⟩
/-- A table with another mark, in new memory. -/
theorem spWith_any (a : Option Addr) (n c : Nat) (s : List UInt8) (k : Nat) (y : UInt8) (w : World) (hA : Bsl w w.heap.size a n c s) (hk : k < n) (hn : n ≤ 20000) : Calls Tryz.prog 116 #[.slice a n c, .int .i64 k, .int .u8 (y.toNat : Int)] w (OwnV n (s.set k y) w) := by
  have HC := Lib.hid (spClone_any a n c s w hA (by omega) hn)
  clear hA
  have k0 : (0 : Int) ≤ k := by omega
  have k1 : (k : Int) < n := by omega
  obtain ⟨z, hz⟩ : ∃ z : Int, (y.toNat : Int) = z := ⟨_, rfl⟩
  have HZ := Lib.hid hz
  rw [hz]
  clear hz
  go_enter Tryz.func116, Tryz.ntmps116
  go_wp2_with fail
  refine HC.out.mono ?_
  rintro e w1 ⟨v, rfl, ho, b1⟩
  obtain ⟨g, c', rfl⟩ := own_at ho (by omega)
  have hc := own_mk ho k hk
  have hw := own_put ho k hk y
  rw [HZ.out] at hw
  have hlt := own_lt ho
  have HB := Lib.hid (b1.setCell (p := ⟨g, k, none⟩) hlt.1 (.int .u8 z))
  have HO := Lib.hid hw
  have hf : w1.frozen? ⟨g, k, none⟩ = false := by
    obtain ⟨cs, hbk⟩ := own_blk ho
    exact hbk.frozen k
  clear ho b1 hw hlt
  go_wp2_with fail
  go_ret
  exact ⟨_, rfl, HO.out, HB.out⟩
set_option maxHeartbeats 1000000 in
theorem spNew_any (w : World) : Calls Tryz.prog 32 #[] w (OwnV 256 (newTo 12) w) := by
  have hmk : ∀ W : World, (Instr.makeSlice 36 (.int .i64 256) (.int .i64 256)).run Tryz.prog W = .ok (.slice (some ⟨W.heap.size, 0, none⟩) 256 256) (W.alloc (.cells (Array.replicate 256 (.int .u8 0)) 5)) := fun W => by kernel_rfl
  obtain ⟨g, hg⟩ : ∃ g, w.heap.size = g := ⟨_, rfl⟩
  obtain ⟨w1, hw1⟩ : ∃ w1, w.alloc (.cells (Array.replicate 256 (.int .u8 0)) 5) = w1 := ⟨_, rfl⟩
  have hown : w1.ownsRow g 5 1 (.slice (some ⟨g, 0, none⟩) 256 256) 256 (vals (newTo 0)) := by
    subst hw1; subst hg
    refine ⟨by simp [vals, newTo], .inr ⟨w.heap.size, 256, Array.replicate 256 (.int .u8 0), rfl, Nat.le_refl _, heap_alloc_new w _, Nat.le_refl _, by unfold maxLen; omega, by simp, ?_⟩⟩
    simp [newTo, vals]
  have hb : Below g w w1 := by
    subst hw1; subst hg
    exact (Below.refl _ w).alloc (Nat.le_refl _) _
  have HO := Lib.hid hown
  have HB := Lib.hid hb
  have HG := Lib.hid hg
  have hmk' : (Instr.makeSlice 36 (.int .i64 256) (.int .i64 256)).run Tryz.prog w = .ok (.slice (some ⟨g, 0, none⟩) 256 256) w1 := by rw [hmk w, hg, hw1]
  clear hown hb hmk hw1 hg
  go_enter Tryz.func32, Tryz.ntmps32
  go_wp2_with fail
  go_loopw [4] (fun i wr => ∃ k : Nat, k ≤ 12 ∧ i = .int .i64 k ∧ wr.ownsRow g 5 1 (.slice (some ⟨g, 0, none⟩) 256 256) 256 (vals (newTo k)) ∧ Below g w wr) (fun i _ => 12 - (intOf i).toNat)
  case atStart => exact ⟨0, Nat.zero_le _, rfl, HO.out, HB.out⟩
  case round =>
    obtain ⟨k, hk, rfl, ho, hb⟩ := hrel
    have k0 : (0 : Int) ≤ k := by omega
    by_cases hlt : k < 12
    · have k1 : (k : Int) < 12 := by omega
      have hc := own_mk ho k (by omega)
      have hw := own_put ho k (by omega) 1
      rw [newTo_set (by omega)] at hw
      have HB2 := Lib.hid (hb.setCell (p := ⟨g, k, none⟩) (Nat.le_refl _) (.int .u8 1))
      have HO2 := Lib.hid (show (wr.setCell ⟨g, k, none⟩ (.int .u8 1)).ownsRow g 5 1 (.slice (some ⟨g, 0, none⟩) 256 256) 256 (vals (newTo (k + 1))) from hw)
      have hf : wr.frozen? ⟨g, k, none⟩ = false := by
        obtain ⟨cs, hbk⟩ := own_blk ho
        exact hbk.frozen k
      clear ho hb hw
      go_wp2_with fail
      go_roundw
      case rel => exact ⟨k + 1, by omega, by go_num, HO2.out, HB2.out⟩
      case measure => simp [intOf]; omega
    · have hkk : k = 12 := by omega
      rw [hkk] at ho ⊢
      have HO2 := Lib.hid ho
      have HB2 := Lib.hid hb
      clear ho hb hkk hlt hk k0
      go_wp2_with fail
      go_ret
      exact ⟨_, rfl, by rw [HG.out]; exact HO2.out, by rw [HG.out]; exact HB2.out⟩
/-- The closure that tells the free blocks: its place lies in block gp, the table's slice in block gs. -/
theorem spOnes_any (a : Option Addr) (n c : Nat) (w : World) : Calls Tryz.prog 115 #[.slice a n c] w fun e w' => ∃ gp gs, e = .returned (.func (.func 143) #[] #[.pointer (some ⟨gp, 0, none⟩), .pointer (some ⟨gs, 0, none⟩)]) ∧ w.heap.size ≤ gp ∧ w.heap.size ≤ gs ∧ gp ≠ gs ∧ Blk w' gp 3 #[.int .i64 0] ∧ Blk w' gs 36 #[.slice a n c] ∧ Below w.heap.size w w' := by
  have b1 := (Below.refl w.heap.size w).alloc (Nat.le_refl _) (.cells #[.slice a n c] 36)
  have b2 := b1.alloc b1.size (.cells #[.int .i64 0] 3)
  have z1 := (Blk.new w 36 #[.slice a n c]).alloc (.cells #[.int .i64 0] 3)
  have z2 := Blk.new (w.alloc (.cells #[.slice a n c] 36)) 3 #[.int .i64 0]
  have HB := Lib.hid b2
  have HZ1 := Lib.hid z1
  have HZ2 := Lib.hid z2
  clear b1 b2 z1 z2
  go_enter Tryz.func115, Tryz.ntmps115
  go_wp2_with fail
  go_ret
  refine ⟨_, _, rfl, by simp, by simp, by simp, ?_, HZ1.out, HB.out⟩
  have h := HZ2.out
  rw [World.size_alloc] at h
  exact h
end Go.Proofs.YtadffkfalclpjaaGreatDoor
/-
  The closure that tells the free blocks, called: the next one from its place on, or none.
-/
namespace Go.Proofs.YtadffkfalclpjaaGreatDoor
open Go.RowKit Go.Shelf
set_option maxRecDepth 100000

/-- The number that a block keeps. -/
def keptAt (w : World) (g : Nat) : Nat := (intOf ((w.cell? ⟨g, 0, none⟩).getD undef)).toNat
theorem keptAt_blk {w : World} {g t k : Nat} (h : Blk w g t #[.int .i64 (k : Int)]) : keptAt w g = k := by
  unfold keptAt
  rw [h.cell 0]
  simp [intOf]
set_option maxHeartbeats 1000000 in
theorem spNext_some (gp gs B : Nat) (a : Option Addr) (n c : Nat) (s : List UInt8) (p k : Nat) (w : World) (hp : Blk w gp 3 #[.int .i64 (p : Int)]) (hs : Blk w gs 36 #[.slice a n c]) (hne : gp ≠ gs) (hA : Bsl w B a n c s) (hB : B ≤ gp)
    (h1 : p ≤ k) (h2 : k < n) (h3 : mkT s k = 0) (h4 : ∀ i, p ≤ i → i < k → mkT s i ≠ 0) :
    Calls Tryz.prog 143 #[.pointer (some ⟨gp, 0, none⟩), .pointer (some ⟨gs, 0, none⟩)] w fun e w' => e = .returned (.tuple #[.int .i64 k, .bool true]) ∧ w.grownBy w' (some gp) ∧ Blk w' gp 3 #[.int .i64 ((k + 1 : Nat) : Int)] := by
  have n1 := hA.len_le
  obtain ⟨b, off, rfl, hbB⟩ := hA.at_ (by omega)
  have HP := Lib.hid hp
  have HS := Lib.hid hs
  have HA := Lib.hid hA
  have HB := Lib.hid hB
  have HNE := Lib.hid hne
  have H3 := Lib.hid h3
  have H4 := Lib.hid h4
  clear hp hs hA hB hne h3 h4
  go_enter Tryz.func143, Tryz.ntmps143
  go_wp2_with fail
  go_loopw [4] (fun _ wr => ∃ j : Nat, p ≤ j ∧ j ≤ k ∧ w.grownBy wr (some gp) ∧ Blk wr gp 3 #[.int .i64 (j : Int)]) (fun _ wr => n - keptAt wr gp)
  case atStart => exact ⟨p, Nat.le_refl _, h1, World.grownBy.refl _ _, HP.out⟩
  case round =>
    obtain ⟨j, hj1, hj2, hg, hb⟩ := hrel
    have j0 : (0 : Int) ≤ j := by omega
    have j1 : (j : Int) < n := by omega
    have hlt : j < n := by omega
    have hkm := keptAt_blk hb
    have HKM := Lib.hid hkm
    clear hkm
    have c0 : wr.cell? ⟨gp, 0, none⟩ = some (.int .i64 (j : Int)) := hb.cell 0
    have hsr : Blk wr gs 36 #[.slice (some ⟨b, off, none⟩) n c] := HS.out.grown hg fun e => HNE.out (Option.some.inj e).symm
    have c1 : wr.cell? ⟨gs, 0, none⟩ = some (.slice (some ⟨b, off, none⟩) n c) := hsr.cell 0
    have c1' : (wr.setCell ⟨gp, 0, none⟩ (.int .i64 ((j : Int) + 1))).cell? ⟨gs, 0, none⟩ = some (.slice (some ⟨b, off, none⟩) n c) := (hsr.far (p := ⟨gp, 0, none⟩) (fun e => HNE.out e.symm) _).cell 0
    have hbg : b ≠ gp := by have := HB.out; omega
    have hcell : (wr.setCell ⟨gp, 0, none⟩ (.int .i64 ((j : Int) + 1))).cell? ⟨b, off + j, none⟩ = some (.int .u8 ((mkT s j : Nat) : Int)) := by
      rw [← HA.out.mk j hlt]
      have hbl : b < w.heap.size := by
        have h := HA.out.mk j hlt
        obtain ⟨o, ho, _⟩ := cells_of_cell h
        exact (Array.getElem?_eq_some_iff.1 ho).1
      have e1 : (wr.setCell ⟨gp, 0, none⟩ (.int .i64 ((j : Int) + 1))).heap[b]? = w.heap[b]? := (Below.heap_setCell wr ⟨gp, 0, none⟩ _ b hbg).trans (hg.block b hbl (fun e => hbg (Option.some.inj e)))
      exact World.cell?_of_block (a := ⟨b, off + j, none⟩) e1
    have hw : IntKind.i64.wrap ((j : Int) + 1) = (j : Int) + 1 := IntWalk.i64_in _ (by omega)
    have hg2 : w.grownBy (wr.setCell ⟨gp, 0, none⟩ (.int .i64 ((j : Int) + 1))) (some gp) := only_setCell hg (.inl rfl) _
    have hb2 := hb.set_ 0 (.int .i64 ((j : Int) + 1))
    have hb2' : Blk (wr.setCell ⟨gp, 0, none⟩ (.int .i64 ((j : Int) + 1))) gp 3 #[.int .i64 ((j + 1 : Nat) : Int)] := by
      have e : ((j + 1 : Nat) : Int) = (j : Int) + 1 := by omega
      rw [e]; exact hb2
    have hf := hb.frozen 0
    have HG2 := Lib.hid hg2
    have HB2 := Lib.hid hb2'
    clear hg hb hsr hg2 hb2 hb2' hbg
    by_cases hjk : j = k
    · rw [hjk] at c0 j0 j1 hlt c1' hcell hw HG2 HB2
      rw [H3.out] at hcell
      clear HKM hj1 hj2 hjk
      go_wp2_with fail
      go_ret2
      exact ⟨rfl, HG2.out, HB2.out⟩
    · have hz := H4.out j hj1 (by omega)
      obtain ⟨x, hx⟩ : ∃ x : Nat, mkT s j = x := ⟨_, rfl⟩
      rw [hx] at hcell hz
      have hzz : ((x : Int) == 0) = false := by simp; omega
      clear hx hz
      go_wp2_with fail
      go_roundw
      case rel => exact ⟨j + 1, by omega, by omega, HG2.out, HB2.out⟩
      case measure =>
        rw [keptAt_blk HB2.out, HKM.out]
        omega
set_option maxHeartbeats 1000000 in
theorem spNext_none (gp gs B : Nat) (a : Option Addr) (n c : Nat) (s : List UInt8) (p : Nat) (w : World) (hp : Blk w gp 3 #[.int .i64 (p : Int)]) (hs : Blk w gs 36 #[.slice a n c]) (hne : gp ≠ gs) (hA : Bsl w B a n c s) (hB : B ≤ gp)
    (h1 : p ≤ n) (h4 : ∀ i, p ≤ i → i < n → mkT s i ≠ 0) :
    Calls Tryz.prog 143 #[.pointer (some ⟨gp, 0, none⟩), .pointer (some ⟨gs, 0, none⟩)] w fun e w' => e = .returned (.tuple #[.int .i64 0, .bool false]) ∧ w.grownBy w' (some gp) ∧ Blk w' gp 3 #[.int .i64 (n : Int)] := by
  have n1 := hA.len_le
  have HP := Lib.hid hp
  have HS := Lib.hid hs
  have HA := Lib.hid hA
  have HB := Lib.hid hB
  have HNE := Lib.hid hne
  have H4 := Lib.hid h4
  clear hp hs hA hB hne h4
  go_enter Tryz.func143, Tryz.ntmps143
  go_wp2_with fail
  go_loopw [4] (fun _ wr => ∃ j : Nat, p ≤ j ∧ j ≤ n ∧ w.grownBy wr (some gp) ∧ Blk wr gp 3 #[.int .i64 (j : Int)]) (fun _ wr => n - keptAt wr gp)
  case atStart => exact ⟨p, Nat.le_refl _, h1, World.grownBy.refl _ _, HP.out⟩
  case round =>
    obtain ⟨j, hj1, hj2, hg, hb⟩ := hrel
    have j0 : (0 : Int) ≤ j := by omega
    have hkm := keptAt_blk hb
    have HKM := Lib.hid hkm
    clear hkm
    have c0 : wr.cell? ⟨gp, 0, none⟩ = some (.int .i64 (j : Int)) := hb.cell 0
    have hsr : Blk wr gs 36 #[.slice a n c] := HS.out.grown hg fun e => HNE.out (Option.some.inj e).symm
    have c1 : wr.cell? ⟨gs, 0, none⟩ = some (.slice a n c) := hsr.cell 0
    by_cases hlt : j < n
    · obtain ⟨b, off, rfl, hbB⟩ := HA.out.at_ (by omega)
      have j1 : (j : Int) < n := by omega
      have c1' : (wr.setCell ⟨gp, 0, none⟩ (.int .i64 ((j : Int) + 1))).cell? ⟨gs, 0, none⟩ = some (.slice (some ⟨b, off, none⟩) n c) := (hsr.far (p := ⟨gp, 0, none⟩) (fun e => HNE.out e.symm) _).cell 0
      have hbg : b ≠ gp := by have := HB.out; omega
      have hcell : (wr.setCell ⟨gp, 0, none⟩ (.int .i64 ((j : Int) + 1))).cell? ⟨b, off + j, none⟩ = some (.int .u8 ((mkT s j : Nat) : Int)) := by
        rw [← HA.out.mk j hlt]
        have hbl : b < w.heap.size := by
          have h := HA.out.mk j hlt
          obtain ⟨o, ho, _⟩ := cells_of_cell h
          exact (Array.getElem?_eq_some_iff.1 ho).1
        have e1 : (wr.setCell ⟨gp, 0, none⟩ (.int .i64 ((j : Int) + 1))).heap[b]? = w.heap[b]? := (Below.heap_setCell wr ⟨gp, 0, none⟩ _ b hbg).trans (hg.block b hbl (fun e => hbg (Option.some.inj e)))
        exact World.cell?_of_block (a := ⟨b, off + j, none⟩) e1
      have hw : IntKind.i64.wrap ((j : Int) + 1) = (j : Int) + 1 := IntWalk.i64_in _ (by omega)
      have hg2 : w.grownBy (wr.setCell ⟨gp, 0, none⟩ (.int .i64 ((j : Int) + 1))) (some gp) := only_setCell hg (.inl rfl) _
      have hb2 := hb.set_ 0 (.int .i64 ((j : Int) + 1))
      have hb2' : Blk (wr.setCell ⟨gp, 0, none⟩ (.int .i64 ((j : Int) + 1))) gp 3 #[.int .i64 ((j + 1 : Nat) : Int)] := by
        have e : ((j + 1 : Nat) : Int) = (j : Int) + 1 := by omega
        rw [e]; exact hb2
      have hf := hb.frozen 0
      have HG2 := Lib.hid hg2
      have HB2 := Lib.hid hb2'
      clear hg hb hsr hg2 hb2 hb2' hbg
      have hz := H4.out j hj1 hlt
      obtain ⟨x, hx⟩ : ∃ x : Nat, mkT s j = x := ⟨_, rfl⟩
      rw [hx] at hcell hz
      have hzz : ((x : Int) == 0) = false := by simp; omega
      clear hx hz
      go_wp2_with fail
      go_roundw
      case rel => exact ⟨j + 1, by omega, by omega, HG2.out, HB2.out⟩
      case measure =>
        rw [keptAt_blk HB2.out, HKM.out]
        omega
    · have hjn : j = n := by omega
      rw [hjn] at c0 hb j0
      have HG2 := Lib.hid hg
      have HB2 := Lib.hid hb
      clear hg hb hsr HKM hlt hjn hj1 hj2
      go_wp2_with fail
      go_ret2
      exact ⟨rfl, HG2.out, HB2.out⟩
end Go.Proofs.YtadffkfalclpjaaGreatDoor
/-
  What space's calls answer: Check, Free, Take, Give, Settle.
-/
namespace Go.Proofs.YtadffkfalclpjaaGreatDoor
open Go.RowKit Go.Shelf
set_option maxRecDepth 100000

/-- A table of the call's own, a block's number, and an error's number. -/
def OutTk (c : Nat) (x : List UInt8) (k : Nat) (w : World) (e : Ending) (w' : World) : Prop := ∃ v, e = .returned (.tuple #[v, .int .i64 k, .int .i64 c]) ∧ w'.ownsRow w.heap.size 5 1 v x.length (vals x) ∧ Below w.heap.size w w'
theorem MayT.len_of {w : World} {B n c : Nat} {a : Option Addr} {s : List UInt8} (h : MayT s) (hA : Bsl w B a n c s) : n = 256 := by rw [← hA.1]; exact h.1

theorem spCheck_yes (a : Option Addr) (n c B : Nat) (s : List UInt8) (w : World) (hA : Bsl w B a n c s) (h : MayT s) : Calls Tryz.prog 96 #[.slice a n c] w fun e w' => e = .returned (.int .i64 0) ∧ w = w' := by
  have HM := Lib.hid (spMay_yes a n c B s w hA h)
  clear hA h
  go_enter Tryz.func96, Tryz.ntmps96
  go_wp2_with fail
  refine HM.out.mono ?_
  rintro e w1 ⟨rfl, rfl⟩
  go_wp2_with fail
  go_ret
  exact ⟨rfl, rfl⟩
theorem spCheck_no (a : Option Addr) (n c B : Nat) (s : List UInt8) (w : World) (hA : Bsl w B a n c s) (h : ¬ MayT s) : Calls Tryz.prog 96 #[.slice a n c] w fun e w' => e = .returned (.int .i64 8) ∧ w = w' := by
  have HM := Lib.hid (spMay_no a n c B s w hA h)
  clear hA h
  go_enter Tryz.func96, Tryz.ntmps96
  go_wp2_with fail
  refine HM.out.mono ?_
  rintro e w1 ⟨rfl, rfl⟩
  go_wp2_with fail
  go_ret
  exact ⟨rfl, rfl⟩

theorem spTake_full (a : Option Addr) (n c : Nat) (s : List UInt8) (w : World) (hA : Bsl w w.heap.size a n c s) (h : MayT s) (h0 : ∀ i, i < 256 → mkT s i ≠ 0) : Calls Tryz.prog 83 #[.slice a n c] w (OutTk 9 [] 0 w) := by
  have HM := Lib.hid (spMay_yes a n c _ s w hA h)
  have hn := h.len_of hA
  subst hn
  have HF := Lib.hid (spOnes_any a 256 c w)
  have HA := Lib.hid hA
  have H0 := Lib.hid h0
  clear hA h h0
  go_enter Tryz.func83, Tryz.ntmps83
  go_wp2_with fail
  refine HM.out.mono ?_
  rintro e w1 ⟨rfl, rfl⟩
  go_wp2_with fail
  refine HF.out.mono ?_
  rintro e w1 ⟨gp, gs, rfl, hgp, hgs, hne, hp, hs, b1⟩
  have HX := Lib.hid (spNext_none gp gs w.heap.size a 256 c s 0 w1 hp hs hne (HA.out.below b1) hgp (Nat.zero_le _) fun i _ hi => H0.out i hi)
  have HB := Lib.hid b1
  have HG := Lib.hid hgp
  clear hgs hne hp hs b1 hgp
  go_wp2_with fail
  refine HX.out.mono ?_
  rintro e w2 ⟨rfl, hg, _⟩
  have HB2 := Lib.hid (below_only HB.out HG.out hg HB.out.size)
  clear hg
  go_wp2_with fail
  go_ret3
  exact ⟨_, rfl, World.ownsRow_nil _ _ _ _, HB2.out⟩
theorem spTake_ok (a : Option Addr) (n c : Nat) (s : List UInt8) (k : Nat) (w : World) (hA : Bsl w w.heap.size a n c s) (h : MayT s) (hk : k < 256) (hz : mkT s k = 0) (h0 : ∀ i, i < k → mkT s i ≠ 0) : Calls Tryz.prog 83 #[.slice a n c] w (OutTk 0 (s.set k 1) k w) := by
  have HM := Lib.hid (spMay_yes a n c _ s w hA h)
  have hn := h.len_of hA
  subst hn
  have hl : (s.set k 1).length = 256 := by simp [h.1]
  have HL := Lib.hid hl
  have HF := Lib.hid (spOnes_any a 256 c w)
  have HA := Lib.hid hA
  have H0 := Lib.hid h0
  have HZ := Lib.hid hz
  clear hA h h0 hz hl
  go_enter Tryz.func83, Tryz.ntmps83
  go_wp2_with fail
  refine HM.out.mono ?_
  rintro e w1 ⟨rfl, rfl⟩
  go_wp2_with fail
  refine HF.out.mono ?_
  rintro e w1 ⟨gp, gs, rfl, hgp, hgs, hne, hp, hs, b1⟩
  have HX := Lib.hid (spNext_some gp gs w.heap.size a 256 c s 0 k w1 hp hs hne (HA.out.below b1) hgp (Nat.zero_le _) hk HZ.out fun i _ hi => H0.out i hi)
  have HB := Lib.hid b1
  have HG := Lib.hid hgp
  clear hgs hne hp hs b1 hgp
  go_wp2_with fail
  refine HX.out.mono ?_
  rintro e w2 ⟨rfl, hg, _⟩
  have HB2 := Lib.hid (below_only HB.out HG.out hg HB.out.size)
  clear hg
  have HW := Lib.hid (spWith_any a 256 c s k 1 w2 (HA.out.step HB2.out) hk (by omega))
  go_wp2_with fail
  refine HW.out.mono ?_
  rintro e w3 ⟨v, rfl, ho, b3⟩
  have HO := Lib.hid (own_mono ho HB2.out.size)
  have HB3 := Lib.hid (HB2.out.trans (b3.mono HB2.out.size))
  clear ho b3
  go_wp2_with fail
  go_ret3
  exact ⟨_, rfl, by rw [HL.out]; exact HO.out, HB3.out⟩

end Go.Proofs.YtadffkfalclpjaaGreatDoor
/-
  The document's own Great for layer 9: a disk that is not great has few blocks, few writes, few bytes.
-/
namespace Go.Proofs.YtadffkfalclpjaaGreatDoor
open Go.RowKit Go.Shelf
set_option maxRecDepth 100000

/-- No piece of a disk is longer than what memory there is. -/
def Near (D : DkL) : Prop := (∀ i, i < D.1.length → (D.1.getD i []).length ≤ 140737488351232) ∧ ∀ i, i < D.2.length → (wr_ D.2 i).2.length ≤ 140737488351232
/-- What a disk that is not great is. -/
def Small (D : DkL) : Prop := D.1.length ≤ 500 ∧ (D.2.length ≤ 500 ∨ 4096 ≤ D.2.length) ∧ D.2.length ≤ 4106 ∧ sumD D < 2000000
/-- What Great answers: if it is no, the disk is small. -/
def GreatSays (D : DkL) (w : World) (e : Ending) (w' : World) : Prop := ∃ b, e = .returned (.bool b) ∧ (b = false → Small D) ∧ Below w.heap.size w w'
theorem small_fits {D : DkL} (h : Small D) : Fits D := ⟨by have := h.1; omega, by have := h.2.2.1; omega, by have := h.2.2.2; omega⟩
theorem great_yes {D : DkL} {w w' : World} (hb : Below w.heap.size w w') : GreatSays D w (.returned (.bool true)) w' := ⟨true, rfl, fun h => (by cases h), hb⟩
set_option maxHeartbeats 4000000 in
theorem rdGreat_any (x : DAt) (D : DkL) (w : World) (h : Dsk w w.heap.size x D) (hnear : Near D) : Calls Tryz.prog 33 #[dval x D] w (GreatSays D w) := by
  obtain ⟨ba, bc, wa, wc⟩ := x
  simp only [dval]
  have l1 := h.1.len_le
  have l2 := h.2.len_le
  obtain ⟨n, hn⟩ : ∃ n, D.1.length = n := ⟨_, rfl⟩
  obtain ⟨m, hm⟩ : ∃ m, D.2.length = m := ⟨_, rfl⟩
  rw [hn] at l1
  rw [hm] at l2
  have n0 : (0 : Int) ≤ n := by omega
  have m0 : (0 : Int) ≤ m := by omega
  have b0 := (Below.refl w.heap.size w).alloc (Nat.le_refl _) (.cells #[.slice ba D.1.length bc, .slice wa D.2.length wc] 35)
  have x0 := Blk.new w 35 #[.slice ba D.1.length bc, .slice wa D.2.length wc]
  have h0 := h.step b0
  rw [hn, hm] at b0 x0 h0 ⊢
  obtain ⟨w0, hw0⟩ : ∃ w0, w.alloc (.cells #[.slice ba n bc, .slice wa m wc] 35) = w0 := ⟨_, rfl⟩
  rw [hw0] at b0 x0 h0
  have c0 := x0.cell 0
  have c1 := x0.cell 1
  obtain ⟨hB, hW⟩ := h0
  simp only [hn, hm] at hB hW
  have HB := Lib.hid hB
  have HW := Lib.hid hW
  have HBl := Lib.hid b0
  have HN := Lib.hid hn
  have HM := Lib.hid hm
  have HNEAR := Lib.hid hnear
  clear h b0 x0 hB hW hn hm hnear
  by_cases hn5 : (500 : Int) < n
  · go_enter Tryz.func33, Tryz.ntmps33
    go_wp2_with fail
    go_ret
    exact great_yes HBl.out
  · by_cases hmid : (500 : Int) < m ∧ (m : Int) < 4096
    · obtain ⟨hm5, hm4⟩ := hmid
      go_enter Tryz.func33, Tryz.ntmps33
      go_wp2_with fail
      go_ret
      exact great_yes HBl.out
    · by_cases hm6 : (4106 : Int) < m
      · have hm5 : (500 : Int) < m := by omega
        have hm4 : ¬ (m : Int) < 4096 := by omega
        clear hmid
        go_enter Tryz.func33, Tryz.ntmps33
        go_wp2_with fail
        go_ret
        exact great_yes HBl.out
      · have hdim : n ≤ 500 ∧ (m ≤ 500 ∨ 4096 ≤ m) ∧ m ≤ 4106 := by omega
        have HDIM := Lib.hid hdim
        have hmb : (500 : Int) < m → ¬ (m : Int) < 4096 := fun hh hk => hmid ⟨hh, hk⟩
        clear hmid hdim
        by_cases hm5 : (500 : Int) < m
        all_goals
          first
            | have hm4 : ¬ (m : Int) < 4096 := hmb hm5
            | have hm4 : True := trivial
          clear hmb
          go_enter Tryz.func33, Tryz.ntmps33
          go_wp2_with fail
          clear hw0 hm4 hm5 hm6 hn5
          go_loop [3, 4] (fun t i => ∃ k : Nat, k ≤ n ∧ i = .int .i64 k ∧ t = .int .i64 (sumB D.1 k : Nat) ∧ sumB D.1 k ≤ 140737490351232) (fun _ i => n - (intOf i).toNat)
          case atStart => exact ⟨0, Nat.zero_le _, rfl, rfl, by simp [sumB]⟩
          case round =>
            obtain ⟨k, hk, rfl, rfl, hts⟩ := hrel
            have k0 : (0 : Int) ≤ k := by omega
            obtain ⟨t, ht⟩ : ∃ t, sumB D.1 k = t := ⟨_, rfl⟩
            rw [ht] at hts ⊢
            have t0 : (0 : Int) ≤ t := by omega
            have t1 : (t : Int) ≤ 140737490351232 := by omega
            by_cases hlt : k < n ∧ t < 2000000
            · obtain ⟨hlt, ht2⟩ := hlt
              have k1 : (k : Int) < n := by omega
              have t2 : (t : Int) < 2000000 := by omega
              obtain ⟨b, off, A, l, c', s, rfl, _, hl, hc, hA⟩ := HB.out.at_ hlt
              have hle := HNEAR.out.1 k (by rw [HN.out]; exact hlt)
              rw [hl, hA.1] at hle
              have hs : sumB D.1 (k + 1) = t + l := by rw [sumB, hl, hA.1, ht]
              have l0 : (0 : Int) ≤ l := by omega
              have l1 : (l : Int) ≤ 140737488351232 := by omega
              have HS := Lib.hid hs
              clear hl hA hs ht
              go_wp2_with fail
              go_round
              case rel => exact ⟨k + 1, by omega, by go_num, by rw [HS.out]; go_num, by rw [HS.out]; omega⟩
              case measure => simp [intOf]; omega
            · have hend : k = n ∨ 2000000 ≤ t := by omega
              have HEND := Lib.hid hend
              have HT := Lib.hid ht
              have hgo : ((k : Int) < n → ¬ (t : Int) < 2000000) := by omega
              clear hend ht hlt
              by_cases hkn : (k : Int) < n
              all_goals
                first
                  | have t3 : ¬ (t : Int) < 2000000 := hgo hkn
                  | have t3 : True := trivial
                clear hgo
                go_wp2_with fail
                clear hkn t3
                go_loop [3, 5] (fun u i => ∃ j : Nat, j ≤ m ∧ i = .int .i64 j ∧ u = .int .i64 (t + sumW D.2 j : Nat) ∧ t + sumW D.2 j ≤ 281474980702464) (fun _ i => m - (intOf i).toNat)
                case atStart => exact ⟨0, Nat.zero_le _, rfl, rfl, by simp [sumW]; omega⟩
                case round =>
                  obtain ⟨j, hj, rfl, rfl, hus⟩ := hrel
                  have j0 : (0 : Int) ≤ j := by omega
                  obtain ⟨u, hu⟩ : ∃ u, t + sumW D.2 j = u := ⟨_, rfl⟩
                  rw [hu] at hus ⊢
                  have u0 : (0 : Int) ≤ u := by omega
                  have u1 : (u : Int) ≤ 281474980702464 := by omega
                  by_cases hlt : j < m ∧ u < 2000000
                  · obtain ⟨hlt, hu2⟩ := hlt
                    have j1 : (j : Int) < m := by omega
                    have u2 : (u : Int) < 2000000 := by omega
                    obtain ⟨b, off, p, A, l, c', s, rfl, _, hl, _, hc, hd, hA⟩ := HW.out.at_ hlt
                    have hle := HNEAR.out.2 j (by rw [HM.out]; exact hlt)
                    rw [hl, hA.1] at hle
                    have hs : t + sumW D.2 (j + 1) = u + l := by rw [sumW, hl, hA.1, ← Nat.add_assoc, hu]
                    have l0 : (0 : Int) ≤ l := by omega
                    have l1 : (l : Int) ≤ 140737488351232 := by omega
                    have HS := Lib.hid hs
                    clear hl hA hs hu
                    go_wp2_with fail
                    go_round
                    case rel => exact ⟨j + 1, by omega, by go_num, by rw [HS.out]; go_num, by rw [HS.out]; omega⟩
                    case measure => simp [intOf]; omega
                  · have hend2 : j = m ∨ 2000000 ≤ u := by omega
                    have hsay : decide ((2000000 : Int) ≤ u) = false → Small D := by
                      intro hh
                      have hu3 : ¬ (2000000 : Int) ≤ u := by simpa using hh
                      have hju : j = m := by omega
                      have e1 := HEND.out
                      have hkn : k = n := by omega
                      obtain ⟨d1, d2, d3⟩ := HDIM.out
                      refine ⟨by rw [HN.out]; exact d1, by rw [HM.out]; exact d2, by rw [HM.out]; exact d3, ?_⟩
                      unfold sumD
                      rw [HN.out, HM.out, ← hju, ← hkn, HT.out]
                      omega
                    have hgo2 : ((j : Int) < m → ¬ (u : Int) < 2000000) := by omega
                    have HSAY := Lib.hid hsay
                    clear hsay hend2 hlt hu
                    by_cases hjm : (j : Int) < m
                    all_goals
                      first
                        | have u3 : ¬ (u : Int) < 2000000 := hgo2 hjm
                        | have u3 : True := trivial
                      clear hgo2
                      go_wp2_with fail
                      go_ret
                      first | exact ⟨_, rfl, HSAY.out, HBl.out⟩ | exact great_yes HBl.out
end Go.Proofs.YtadffkfalclpjaaGreatDoor
/-
  The document's own functions of layer 13: May, Check, Great.
-/
namespace Go.Proofs.YtadffkfalclpjaaGreatDoor
open Go.RowKit Go.Shelf
set_option maxRecDepth 100000

theorem st_box (w : World) (x : SAt) (S : StL) : Blk (w.alloc (.cells (stC x S) 38)) w.heap.size 38 (stC x S) ∧ Below w.heap.size w (w.alloc (.cells (stC x S) 38)) := ⟨Blk.new w _ _, (Below.refl _ w).alloc (Nat.le_refl _) _⟩
section
variable {w : World} {g : Nat} {t : TypeId} {x : SAt} {S : StL}
theorem stC0 (h : Blk w g t (stC x S)) : w.cell? ⟨g, 0, none⟩ = some (.slice x.d.ba S.1.1.length x.d.bc) := h.cell 0
theorem stC1 (h : Blk w g t (stC x S)) : w.cell? ⟨g, 1, none⟩ = some (.slice x.d.wa S.1.2.length x.d.wc) := h.cell 1
theorem stC2 (h : Blk w g t (stC x S)) : w.cell? ⟨g, 2, none⟩ = some (.slice x.a S.2.1.length x.c) := h.cell 2
theorem stC3 (h : Blk w g t (stC x S)) : w.cell? ⟨g, 3, none⟩ = some (.int .u32 (S.2.2.1 : Int)) := h.cell 3
theorem stC4 (h : Blk w g t (stC x S)) : w.cell? ⟨g, 4, none⟩ = some (.int .u32 (S.2.2.2 : Int)) := h.cell 4
end
/-- What Great answers: if it is no, the store is small. -/
def GreatSt (S : StL) (w : World) (e : Ending) (w' : World) : Prop := ∃ b, e = .returned (.bool b) ∧ (b = false → Small S.1 ∧ S.2.1.length ≤ 10000) ∧ Below w.heap.size w w'
set_option maxHeartbeats 1000000 in
theorem rtGreat_any (L : Nat) (x : SAt) (S : StL) (w : World) (h : StP L w x S) (hn : Near S.1) : Calls Tryz.prog 13 #[stV x S] w (GreatSt S w) := by
  obtain ⟨xb, b0⟩ := st_box w x S
  obtain ⟨w0, hw0⟩ : ∃ w0, w.alloc (.cells (stC x S) 38) = w0 := ⟨_, rfl⟩
  rw [hw0] at xb b0
  have h0 := h.bel b0
  have c0 := stC0 xb
  have c1 := stC1 xb
  have HX := Lib.hid xb
  have HB := Lib.hid b0
  have HS := Lib.hid h0
  have hm := rdGreat_any x.d S.1 w0 h0.now.1 hn
  simp only [dval] at hm
  have HM := Lib.hid hm
  have l1 := h0.now.2.len_le
  clear hm hn
  simp only [stC] at hw0
  clear h h0 xb b0
  go_enter Tryz.func13, Tryz.ntmps13
  go_wp2_with fail
  clear c0 c1
  refine HM.out.mono ?_
  rintro e w1 ⟨r, rfl, hs, b1⟩
  have c2 := stC2 (HX.out.below b1 HX.out.lt)
  have HB1 := Lib.hid (HB.out.trans (b1.mono HB.out.size))
  clear b1
  cases r with
  | true =>
    clear hs
    go_wp2_with fail
    go_ret
    exact ⟨true, rfl, fun h => (by cases h), HB1.out⟩
  | false =>
    have HSM := Lib.hid (hs rfl)
    clear hs
    by_cases h5 : (10000 : Int) < (S.2.1.length : Int)
    · go_wp2_with fail
      go_ret
      exact ⟨true, rfl, fun h => (by cases h), HB1.out⟩
    · have h6 : S.2.1.length ≤ 10000 := by omega
      have H6 := Lib.hid h6
      have h7 : (S.2.1.length : Int) ≤ 10000 := by omega
      clear h5 h6
      go_wp2_with fail
      go_ret
      exact ⟨false, by simp; omega, fun _ => ⟨HSM.out, H6.out⟩, HB1.out⟩
end Go.Proofs.YtadffkfalclpjaaGreatDoor
/-
  The document's own functions of layer 13: New, Twin, Same.
-/
namespace Go.Proofs.YtadffkfalclpjaaGreatDoor
open Go.RowKit Go.Shelf
set_option maxRecDepth 100000

/-- The cells of a store that is none. -/
abbrev stZ : Array Value := #[.slice none 0 0, .slice none 0 0, .slice none 0 0, .int .u32 0, .int .u32 0]
/-- The cells of a pointer that is none. -/
abbrev ptZ : Array Value := #[.int .i64 0, .int .u32 0, .int .u32 0, .int .u32 0, .int .u32 0]
theorem two_al (w : World) (a b : Array Value) (s t : TypeId) : ∃ w0, (w.alloc (.cells a s)).alloc (.cells b t) = w0 ∧ Below w.heap.size w w0 ∧ w0.heap.size = w.heap.size + 2 ∧ Blk w0 w.heap.size s a ∧ Blk w0 (w.heap.size + 1) t b := by
  refine ⟨_, rfl, ((Below.refl _ w).alloc (Nat.le_refl _) _).alloc (by simp) _, by simp, (Blk.new w s a).alloc _, ?_⟩
  have h := Blk.new (w.alloc (.cells a s)) t b
  rw [World.size_alloc] at h
  exact h
theorem three_al (w : World) (a b c : Array Value) (s t u : TypeId) : ∃ w0, ((w.alloc (.cells a s)).alloc (.cells b t)).alloc (.cells c u) = w0 ∧ Below w.heap.size w w0 ∧ w0.heap.size = w.heap.size + 3 ∧ Blk w0 w.heap.size s a ∧ Blk w0 (w.heap.size + 1) t b ∧ Blk w0 (w.heap.size + 2) u c := by
  obtain ⟨w1, h1, b1, z1, x1, y1⟩ := two_al w a b s t
  rw [h1]
  have h := Blk.new w1 u c
  rw [z1] at h
  exact ⟨_, rfl, b1.trans (((Below.refl _ w1).alloc (Nat.le_refl _) _).mono b1.size), by simp [z1], x1.alloc _, y1.alloc _, h⟩
section
variable {w : World} {g : Nat} {t : TypeId}
theorem stZ0 (h : Blk w g t stZ) : w.cell? ⟨g, 0, none⟩ = some (.slice none 0 0) := h.cell 0
theorem stZ1 (h : Blk w g t stZ) : w.cell? ⟨g, 1, none⟩ = some (.slice none 0 0) := h.cell 1
theorem stZ2 (h : Blk w g t stZ) : w.cell? ⟨g, 2, none⟩ = some (.slice none 0 0) := h.cell 2
theorem stZ3 (h : Blk w g t stZ) : w.cell? ⟨g, 3, none⟩ = some (.int .u32 0) := h.cell 3
theorem stZ4 (h : Blk w g t stZ) : w.cell? ⟨g, 4, none⟩ = some (.int .u32 0) := h.cell 4
theorem ptZ0 (h : Blk w g t ptZ) : w.cell? ⟨g, 0, none⟩ = some (.int .i64 0) := h.cell 0
theorem ptZ1 (h : Blk w g t ptZ) : w.cell? ⟨g, 1, none⟩ = some (.int .u32 0) := h.cell 1
theorem ptZ2 (h : Blk w g t ptZ) : w.cell? ⟨g, 2, none⟩ = some (.int .u32 0) := h.cell 2
theorem ptZ3 (h : Blk w g t ptZ) : w.cell? ⟨g, 3, none⟩ = some (.int .u32 0) := h.cell 3
theorem ptZ4 (h : Blk w g t ptZ) : w.cell? ⟨g, 4, none⟩ = some (.int .u32 0) := h.cell 4
end
/-- Cells of a box are written: it stays a box, and what lasts lasts. -/
theorem box_two {L B g : Nat} {a w : World} {t : TypeId} {c0 c1 c2 c3 c4 : Value} (h : Blk w g t #[c0, c1, c2, c3, c4]) (ht : rowT t = false) (hL : L ≤ g) (hB : Below B a w) (hg : B ≤ g) (u v : Value) :
    Blk ((w.setCell ⟨g, 0, none⟩ u).setCell ⟨g, 1, none⟩ v) g t #[u, v, c2, c3, c4] ∧ Keeps L w ((w.setCell ⟨g, 0, none⟩ u).setCell ⟨g, 1, none⟩ v) ∧ Below B a ((w.setCell ⟨g, 0, none⟩ u).setCell ⟨g, 1, none⟩ v) :=
  ⟨(h.set_ 0 u).set_ 1 v, Keeps.of_box (only_two w g u v) h ht hL, (hB.setCell (p := ⟨g, 0, none⟩) hg u).setCell (p := ⟨g, 1, none⟩) hg v⟩
theorem box_at {L B g : Nat} {a w : World} {t : TypeId} {cs : Array Value} (h : Blk w g t cs) (ht : rowT t = false) (hL : L ≤ g) (hB : Below B a w) (hg : B ≤ g) (i : Nat) (u : Value) :
    Blk (w.setCell ⟨g, i, none⟩ u) g t (cs.setIfInBounds i u) ∧ Keeps L w (w.setCell ⟨g, i, none⟩ u) ∧ Below B a (w.setCell ⟨g, i, none⟩ u) :=
  ⟨h.set_ i u, Keeps.of_box (only_setCell (World.grownBy.refl w (some g)) (.inl rfl) u) h ht hL, hB.setCell (p := ⟨g, i, none⟩) hg u⟩
theorem box_five {L B g : Nat} {a w : World} {t : TypeId} {c0 c1 c2 c3 c4 : Value} (h : Blk w g t #[c0, c1, c2, c3, c4]) (ht : rowT t = false) (hL : L ≤ g) (hB : Below B a w) (hg : B ≤ g) (v0 v1 v2 v3 v4 : Value) :
    Blk (set5 w g v0 v1 v2 v3 v4) g t #[v0, v1, v2, v3, v4] ∧ Keeps L w (set5 w g v0 v1 v2 v3 v4) ∧ Below B a (set5 w g v0 v1 v2 v3 v4) :=
  ⟨h.set5 v0 v1 v2 v3 v4, Keeps.of_box (only_set5 (World.grownBy.refl w (some g)) v0 v1 v2 v3 v4) h ht hL, below_set5 hB hg v0 v1 v2 v3 v4⟩
section
variable {w : World} {g : Nat} {t : TypeId} {c0 c1 c2 c3 c4 : Value}
theorem bx0 (h : Blk w g t #[c0, c1, c2, c3, c4]) : w.cell? ⟨g, 0, none⟩ = some c0 := h.cell 0
theorem bx1 (h : Blk w g t #[c0, c1, c2, c3, c4]) : w.cell? ⟨g, 1, none⟩ = some c1 := h.cell 1
theorem bx2 (h : Blk w g t #[c0, c1, c2, c3, c4]) : w.cell? ⟨g, 2, none⟩ = some c2 := h.cell 2
theorem bx3 (h : Blk w g t #[c0, c1, c2, c3, c4]) : w.cell? ⟨g, 3, none⟩ = some c3 := h.cell 3
theorem bx4 (h : Blk w g t #[c0, c1, c2, c3, c4]) : w.cell? ⟨g, 4, none⟩ = some c4 := h.cell 4
end
end Go.Proofs.YtadffkfalclpjaaGreatDoor
/-
  Stores of one's own whose bytes are turned: what is written, and what goes on; law 13's spoil.
-/
namespace Go.Proofs.YtadffkfalclpjaaGreatDoor
open Go.RowKit Go.Shelf
set_option maxRecDepth 100000

/-- Bytes of blocks from B on are turned, and nothing else. -/
structure Spoils (B : Nat) (w w' : World) : Prop where
  below : Below B w w'
  box : ∀ b t cs, Blk w b t cs → t ≠ 5 → Blk w' b t cs
  row : ∀ b cs, Blk w b 5 cs → ∃ cs', Blk w' b 5 cs' ∧ ∀ (j : Nat) (z : Int), cs[j]? = some (Value.int .u8 z) → ∃ z', cs'[j]? = some (Value.int .u8 z')
theorem Spoils.refl (B : Nat) (w : World) : Spoils B w w := ⟨Below.refl _ _, fun _ _ _ h _ => h, fun _ cs h => ⟨cs, h, fun _ z hz => ⟨z, hz⟩⟩⟩
theorem Spoils.trans {B : Nat} {a b c : World} (h : Spoils B a b) (k : Spoils B b c) : Spoils B a c :=
  ⟨h.below.trans k.below, fun i t cs hi ht => k.box i t cs (h.box i t cs hi ht) ht, fun i cs hi => by
    obtain ⟨cs1, h1, h2⟩ := h.row i cs hi
    obtain ⟨cs2, h3, h4⟩ := k.row i cs1 h1
    exact ⟨cs2, h3, fun j z hz => by obtain ⟨z1, hz1⟩ := h2 j z hz; exact h4 j z1 hz1⟩⟩
theorem Spoils.of_below {B : Nat} {w w' : World} (h : Below w.heap.size w w') (hB : B ≤ w.heap.size) : Spoils B w w' :=
  ⟨h.mono hB, fun _ _ _ hb _ => hb.below h hb.lt, fun _ cs hb => ⟨cs, hb.below h hb.lt, fun _ z hz => ⟨z, hz⟩⟩⟩
theorem Spoils.less {B B' : Nat} {w w' : World} (h : Spoils B w w') (hB : B' ≤ B) : Spoils B' w w' := ⟨h.below.mono hB, h.box, h.row⟩
/-- Bytes of one's own. -/
def Piece (w : World) (B : Nat) (A : Option Addr) (l : Nat) : Prop := l = 0 ∨ ∃ b off cs, A = some ⟨b, off, none⟩ ∧ B ≤ b ∧ Blk w b 5 cs ∧ ∀ j, j < l → ∃ z, cs[off + j]? = some (.int .u8 z)
theorem Piece.at_ {w : World} {B : Nat} {A : Option Addr} {l : Nat} (h : Piece w B A l) {j : Nat} (hj : j < l) : ∃ b off cs z, A = some ⟨b, off, none⟩ ∧ B ≤ b ∧ Blk w b 5 cs ∧ w.cell? ⟨b, off + j, none⟩ = some (.int .u8 z) := by
  rcases h with h | ⟨b, off, cs, e, hB, hb, hc⟩
  · omega
  · obtain ⟨z, hz⟩ := hc j hj
    exact ⟨b, off, cs, z, e, hB, hb, by rw [hb.cell]; exact hz⟩
/-- A row of slices of bytes of one's own: the row is in a block of its own, and so are all the bytes; st: how far a slice lies from the next one, at: where in it. -/
def Rows9 (w : World) (B : Nat) (a : Option Addr) (n : Nat) (t : TypeId) (st at_ : Nat) (L : Nat → Nat) : Prop :=
  n = 0 ∨ ∃ b off cs, a = some ⟨b, off, none⟩ ∧ Blk w b t cs ∧ ∀ i, i < n → ∃ A c, cs[off + i * st + at_]? = some (.slice A (L i) c) ∧ Piece w B A (L i)
theorem Rows9.at_ {w : World} {B : Nat} {a : Option Addr} {n : Nat} {t : TypeId} {st q : Nat} {L : Nat → Nat} (h : Rows9 w B a n t st q L) {i : Nat} (hi : i < n) : ∃ b off A c, a = some ⟨b, off, none⟩ ∧ w.cell? ⟨b, off + i * st + q, none⟩ = some (.slice A (L i) c) ∧ Piece w B A (L i) := by
  rcases h with h | ⟨b, off, cs, e, hb, hc⟩
  · omega
  · obtain ⟨A, c, h1, h2⟩ := hc i hi
    exact ⟨b, off, A, c, e, by rw [hb.cell]; exact h1, h2⟩
/-- A store of one's own: all its bytes lie from block B on. -/
def HiS (w : World) (B : Nat) (x : SAt) (S : StL) : Prop :=
  Rows9 w B x.d.ba S.1.1.length 36 1 0 (fun i => (S.1.1.getD i []).length) ∧ Rows9 w B x.d.wa S.1.2.length 96 2 1 (fun i => (wr_ S.1.2 i).2.length) ∧ Piece w B x.a S.2.1.length
end Go.Proofs.YtadffkfalclpjaaGreatDoor
/-
  Disks that are laid in one new piece, and rows of one's own, are one's own: all their bytes may be turned.
-/
namespace Go.Proofs.YtadffkfalclpjaaGreatDoor
open Go.RowKit Go.Shelf
set_option maxRecDepth 100000

theorem piece_own {w : World} {B n c : Nat} {a : Option Addr} {s : List UInt8} (h : w.ownsRow B 5 1 (.slice a n c) n (vals s)) : Piece w B a n := by
  rcases Nat.eq_zero_or_pos n with h0 | h0
  · exact .inl h0
  · obtain ⟨g, c', e⟩ := own_at h h0
    cases e
    obtain ⟨cs, hcs⟩ := own_blk h
    refine .inr ⟨g, 0, cs, rfl, (own_lt h).1, hcs, fun j hj => ⟨(mkT s j : Nat), ?_⟩⟩
    rw [Nat.zero_add, ← hcs.cell]
    exact own_mk h j hj
theorem laid_hi {w : World} {lo : Nat} {x : DAt} {D : DkL} (h : Laid w lo x D) :
    Rows9 w lo x.ba D.1.length 36 1 0 (fun i => (D.1.getD i []).length) ∧ Rows9 w lo x.wa D.2.length 96 2 1 (fun i => (wr_ D.2 i).2.length) := by
  obtain ⟨g, hb, hw, rfl, k1, k2, k3, h1, h2, h3, h4, h5, ⟨cb, h6, h7, h8⟩, cw, h9, h10, h11⟩ := h
  have hst : startP (pieces D) (D.1.length + D.2.length) = sumD D := startP_sumD D
  have hpc : ∀ i v, i < D.1.length + D.2.length → PieceV g (pieces D) i v → ∃ A c, v = .slice A ((pieces D).getD i []).length c ∧ Piece w lo A ((pieces D).getD i []).length := by
    rintro i v hi ⟨o, e, ho⟩
    refine ⟨_, _, e, ?_⟩
    rcases Nat.eq_zero_or_pos ((pieces D).getD i []).length with h0 | h0
    · exact .inl h0
    · have hs := startP_succ (P := pieces D) (k := i) (by rw [pieces_length]; exact hi)
      have hm := startP_mono (P := pieces D) (show i + 1 ≤ D.1.length + D.2.length by omega)
      have ho' := ho h0
      refine .inr ⟨g, o, _, rfl, k1, h5, fun j hj => ?_⟩
      have hlt : o + j < (roomP (pieces D) (sumD D) (D.1.length + D.2.length)).length := by
        rw [roomP_length (by rw [hst]; exact Nat.le_refl _)]
        omega
      exact ⟨_, ar_get _ _ hlt⟩
  refine ⟨.inr ⟨hb, 0, cb, rfl, h6, fun i hi => ?_⟩, .inr ⟨hw, 0, cw, rfl, h9, fun i hi => ?_⟩⟩
  · obtain ⟨v, e1, e2⟩ := h8 i hi
    obtain ⟨A, c, rfl, hp⟩ := hpc i v (by omega) e2
    rw [pieces_left hi] at e1 hp
    exact ⟨A, c, by simpa using e1, hp⟩
  · obtain ⟨_, v, e1, e2⟩ := h11 i hi
    obtain ⟨A, c, rfl, hp⟩ := hpc (D.1.length + i) v (by omega) e2
    rw [pieces_right hi] at e1 hp
    exact ⟨A, c, by simpa using e1, hp⟩
theorem outD_hi {w : World} {lo : Nat} {x : DAt} {D : DkL} (h : OutD w lo x D) :
    Rows9 w lo x.ba D.1.length 36 1 0 (fun i => (D.1.getD i []).length) ∧ Rows9 w lo x.wa D.2.length 96 2 1 (fun i => (wr_ D.2 i).2.length) := by
  rcases h with ⟨rfl, rfl⟩ | h
  · exact ⟨.inl rfl, .inl rfl⟩
  · exact laid_hi h
end Go.Proofs.YtadffkfalclpjaaGreatDoor
/-
  What the program's own calls on stores answer: a store of one's own (all its bytes in new blocks), which lasts; with a pointer, with an error's number.
-/
namespace Go.Proofs.YtadffkfalclpjaaGreatDoor
open Go.RowKit Go.Shelf
set_option maxRecDepth 100000

/-- What is asked of a store that the program is handed: it is not great. -/
def OkS (S : StL) : Prop := Fits S.1 ∧ S.2.1.length ≤ 20000 ∧ WfS S
theorem MayS.ok {S : StL} (h : MayS S) : OkS S := ⟨may_fits h.1, by rw [h.2.1.1]; omega, by have := h.2.2.1.2; omega, by have := h.2.2.2; omega⟩
/-- A store of one's own. -/
def NewS (S : StL) (w : World) (e : Ending) (w' : World) : Prop := ∃ y, e = .returned (stV y S) ∧ StP 0 w' y S ∧ HiS w' w.heap.size y S ∧ Below w.heap.size w w'
/-- A store of one's own, a pointer, an error's number. -/
def NewSP (o : StL × Pt × Nat) (w : World) (e : Ending) (w' : World) : Prop := ∃ y, e = .returned (.tuple #[stV y o.1, ptV o.2.1, .int .i64 o.2.2]) ∧ StP 0 w' y o.1 ∧ HiS w' w.heap.size y o.1 ∧ Below w.heap.size w w'
theorem StP.any {L : Nat} {w : World} {x : SAt} {S : StL} (h : StP 0 w x S) : StP L w x S := h.less (Nat.zero_le _)
/-- The new store. -/
abbrev newS : StL := (newD, newTo 12, 1, 0)
theorem newS_may : MayS newS := ⟨newD_may, new_may, ⟨Nat.le_refl _, by show 1 ≤ 65535; omega⟩, Nat.zero_le _⟩
theorem laid_keeps {L lo : Nat} {w w' : World} {x : DAt} {D : DkL} (h : Laid w lo x D) (k : Keeps L w w') : Laid w' lo x D := by
  obtain ⟨g, hb, hw, rfl, h0, h1, h2, h3, h4, h5, h6, h7, ⟨cb, h8, h9, h10⟩, cw, h11, h12, h13⟩ := h
  exact ⟨g, hb, hw, rfl, h0, h1, h2, h3, h4, h5, h6, k.row _ _ _ h7 (by decide), ⟨cb, k.row _ _ _ h8 (by decide), h9, h10⟩, cw, k.row _ _ _ h11 (by decide), h12, h13⟩
theorem outD_keeps {L lo : Nat} {w w' : World} {x : DAt} {D : DkL} (h : OutD w lo x D) (k : Keeps L w w') : OutD w' lo x D := h.imp id fun h => laid_keeps h k
end Go.Proofs.YtadffkfalclpjaaGreatDoor
/-
  Store's own: isUpTo, isKey, mayBe, Check; nothing that was there is written.
-/
namespace Go.Proofs.YtadffkfalclpjaaGreatDoor
open Go.RowKit Go.Shelf
set_option maxRecDepth 100000

theorem stUpTo_any (n : Nat) (m : Int) (r : Bool) (hr : r = true ↔ (1 ≤ n ∧ (n : Int) ≤ m)) (w : World) : Calls Tryz.prog 82 #[.int .u32 (n : Int), .int .u32 m] w fun e w' => e = .returned (.bool r) ∧ w = w' := by
  by_cases h : 1 ≤ n
  · have i1 : (1 : Int) ≤ (n : Int) := by omega
    by_cases h2 : (n : Int) ≤ m
    · obtain rfl : r = true := hr.2 ⟨h, h2⟩
      clear hr h
      go_enter Tryz.func82, Tryz.ntmps82
      go_wp2_with fail
      go_ret
      exact ⟨rfl, rfl⟩
    · obtain rfl : r = false := by cases r with | false => rfl | true => exact absurd (hr.1 rfl) (fun hh => h2 hh.2)
      clear hr h
      go_enter Tryz.func82, Tryz.ntmps82
      go_wp2_with fail
      go_ret
      exact ⟨rfl, rfl⟩
  · have i1 : ¬ (1 : Int) ≤ (n : Int) := by omega
    obtain rfl : r = false := by cases r with | false => rfl | true => exact absurd (hr.1 rfl) (fun hh => h hh.1)
    clear hr h
    go_enter Tryz.func82, Tryz.ntmps82
    go_wp2_with fail
    go_ret
    exact ⟨rfl, rfl⟩
set_option maxHeartbeats 2000000 in
theorem stMayBe_any (L : Nat) (x : SAt) (S : StL) (w : World) (h : StP L w x S) (R : Bool) (hR : R = true ↔ MayS S) : Calls Tryz.prog 68 #[stV x S] w fun e w' => e = .returned (.bool R) ∧ Below w.heap.size w w' := by
  obtain ⟨xb, b0⟩ := st_box w x S
  obtain ⟨w0, hw0⟩ : ∃ w0, w.alloc (.cells (stC x S) 38) = w0 := ⟨_, rfl⟩
  rw [hw0] at xb b0
  have h0 := h.bel b0
  have c0 := stC0 xb
  have c1 := stC1 xb
  have HX := Lib.hid xb
  have HB := Lib.hid b0
  have HS := Lib.hid h0
  have hm := dCheck_any x.d S.1 w0 h0.now.1
  simp only [dval] at hm
  simp only [stC] at hw0
  clear h h0 xb b0
  have n3 : (0 : Int) ≤ (S.2.2.2 : Int) := by omega
  have n4 : (0 : Int) ≤ (S.2.2.1 : Int) := by omega
  by_cases hd : MayD S.1
  · rw [show checkO S.1 = 0 by unfold checkO; rw [if_pos hd]] at hm
    have HM2 := Lib.hid hm
    clear hm
    by_cases ht : MayT S.2.1
    · by_cases e1 : 1 ≤ S.2.2.1 ∧ S.2.2.1 ≤ 65535
      · have HU := Lib.hid (fun W => stUpTo_any S.2.2.1 65535 true ⟨fun _ => ⟨e1.1, by omega⟩, fun _ => rfl⟩ W)
        by_cases e3 : S.2.2.2 ≤ 65535
        · have n2 : (S.2.2.2 : Int) ≤ 65535 := by omega
          obtain rfl : R = true := hR.2 ⟨hd, ht, e1, e3⟩
          clear hR e1 e3 hd
          go_enter Tryz.func68, Tryz.ntmps68
          go_wp2_with fail
          clear c0 c1
          refine HM2.out.mono ?_
          rintro e w1 ⟨rfl, b1⟩
          have x1 := HX.out.below b1 HX.out.lt
          have c2 := stC2 x1
          have c3 := stC3 x1
          have c4 := stC4 x1
          have HC := Lib.hid (spCheck_yes x.a S.2.1.length x.c _ S.2.1 w1 (HS.out.bel b1).now.2 ht)
          have HB1 := Lib.hid (HB.out.trans (b1.mono HB.out.size))
          clear b1 x1 ht
          go_wp2_with fail
          refine HC.out.mono ?_
          rintro e w2 ⟨rfl, rfl⟩
          go_wp2_with fail
          refine (HU.out w1).mono ?_
          rintro e w2 ⟨rfl, rfl⟩
          go_wp2_with fail
          go_ret
          exact ⟨rfl, HB1.out⟩
        · have n2 : ¬ (S.2.2.2 : Int) ≤ 65535 := by omega
          obtain rfl : R = false := by cases R with | false => rfl | true => exact absurd (hR.1 rfl) (fun hh => e3 hh.2.2.2)
          clear hR e1 e3 hd
          go_enter Tryz.func68, Tryz.ntmps68
          go_wp2_with fail
          clear c0 c1
          refine HM2.out.mono ?_
          rintro e w1 ⟨rfl, b1⟩
          have x1 := HX.out.below b1 HX.out.lt
          have c2 := stC2 x1
          have c3 := stC3 x1
          have c4 := stC4 x1
          have HC := Lib.hid (spCheck_yes x.a S.2.1.length x.c _ S.2.1 w1 (HS.out.bel b1).now.2 ht)
          have HB1 := Lib.hid (HB.out.trans (b1.mono HB.out.size))
          clear b1 x1 ht
          go_wp2_with fail
          refine HC.out.mono ?_
          rintro e w2 ⟨rfl, rfl⟩
          go_wp2_with fail
          refine (HU.out w1).mono ?_
          rintro e w2 ⟨rfl, rfl⟩
          go_wp2_with fail
          go_ret
          exact ⟨by simp; omega, HB1.out⟩
      · have HU := Lib.hid (fun W => stUpTo_any S.2.2.1 65535 false ⟨fun h => (by cases h), fun h => absurd (show 1 ≤ S.2.2.1 ∧ S.2.2.1 ≤ 65535 by omega) e1⟩ W)
        obtain rfl : R = false := by cases R with | false => rfl | true => exact absurd (hR.1 rfl) (fun hh => e1 hh.2.2.1)
        clear hR e1 hd
        go_enter Tryz.func68, Tryz.ntmps68
        go_wp2_with fail
        clear c0 c1
        refine HM2.out.mono ?_
        rintro e w1 ⟨rfl, b1⟩
        have x1 := HX.out.below b1 HX.out.lt
        have c2 := stC2 x1
        have c3 := stC3 x1
        have c4 := stC4 x1
        have HC := Lib.hid (spCheck_yes x.a S.2.1.length x.c _ S.2.1 w1 (HS.out.bel b1).now.2 ht)
        have HB1 := Lib.hid (HB.out.trans (b1.mono HB.out.size))
        clear b1 x1 ht
        go_wp2_with fail
        refine HC.out.mono ?_
        rintro e w2 ⟨rfl, rfl⟩
        go_wp2_with fail
        refine (HU.out w1).mono ?_
        rintro e w2 ⟨rfl, rfl⟩
        go_wp2_with fail
        go_ret
        exact ⟨rfl, HB1.out⟩
    · obtain rfl : R = false := by cases R with | false => rfl | true => exact absurd (hR.1 rfl) (fun hh => ht hh.2.1)
      clear hR hd
      go_enter Tryz.func68, Tryz.ntmps68
      go_wp2_with fail
      clear c0 c1
      refine HM2.out.mono ?_
      rintro e w1 ⟨rfl, b1⟩
      have x1 := HX.out.below b1 HX.out.lt
      have c2 := stC2 x1
      have c3 := stC3 x1
      have c4 := stC4 x1
      have HC := Lib.hid (spCheck_no x.a S.2.1.length x.c _ S.2.1 w1 (HS.out.bel b1).now.2 ht)
      have HB1 := Lib.hid (HB.out.trans (b1.mono HB.out.size))
      clear b1 x1 ht
      go_wp2_with fail
      refine HC.out.mono ?_
      rintro e w2 ⟨rfl, rfl⟩
      go_wp2_with fail
      go_ret
      exact ⟨rfl, HB1.out⟩
  · rw [show checkO S.1 = 8 by unfold checkO; rw [if_neg hd]] at hm
    have HM2 := Lib.hid hm
    clear hm
    obtain rfl : R = false := by cases R with | false => rfl | true => exact absurd (hR.1 rfl) (fun hh => hd hh.1)
    clear hR hd
    go_enter Tryz.func68, Tryz.ntmps68
    go_wp2_with fail
    clear c0 c1
    refine HM2.out.mono ?_
    rintro e w1 ⟨rfl, b1⟩
    have HB1 := Lib.hid (HB.out.trans (b1.mono HB.out.size))
    clear b1
    go_wp2_with fail
    go_ret
    exact ⟨rfl, HB1.out⟩
theorem stCheck_all (L : Nat) (x : SAt) (S : StL) (w : World) (h : StP L w x S) (_hL : L ≤ w.heap.size) (c : Nat) (hc : (MayS S → c = 0) ∧ (¬ MayS S → c = 8)) : Calls Tryz.prog 38 #[stV x S] w fun e w' => e = .returned (.int .i64 c) ∧ Below w.heap.size w w' := by
  obtain ⟨xb, b0⟩ := st_box w x S
  obtain ⟨w0, hw0⟩ : ∃ w0, w.alloc (.cells (stC x S) 38) = w0 := ⟨_, rfl⟩
  rw [hw0] at xb b0
  have c0 := stC0 xb
  have c1 := stC1 xb
  have c2 := stC2 xb
  have c3 := stC3 xb
  have c4 := stC4 xb
  have HB := Lib.hid b0
  have HMY := fun R hR => stMayBe_any L x S w0 (h.bel b0) R hR
  simp only [stC] at hw0
  clear h xb b0
  by_cases hm : MayS S
  · obtain rfl : c = 0 := hc.1 hm
    have HM := Lib.hid (HMY true ⟨fun _ => hm, fun _ => rfl⟩)
    clear HMY hc hm
    go_enter Tryz.func38, Tryz.ntmps38
    go_wp2_with fail
    refine HM.out.mono ?_
    rintro e w1 ⟨rfl, b1⟩
    have HB1 := Lib.hid (HB.out.trans (b1.mono HB.out.size))
    clear b1 c0 c1 c2 c3 c4
    go_wp2_with fail
    go_ret
    exact ⟨rfl, HB1.out⟩
  · obtain rfl : c = 8 := hc.2 hm
    have HM := Lib.hid (HMY false ⟨fun h => (by cases h), fun h => absurd h hm⟩)
    clear HMY hc hm
    go_enter Tryz.func38, Tryz.ntmps38
    go_wp2_with fail
    refine HM.out.mono ?_
    rintro e w1 ⟨rfl, b1⟩
    have HB1 := Lib.hid (HB.out.trans (b1.mono HB.out.size))
    clear b1 c0 c1 c2 c3 c4
    go_wp2_with fail
    go_ret
    exact ⟨rfl, HB1.out⟩
end Go.Proofs.YtadffkfalclpjaaGreatDoor
/-
  Two arrays of four words are compared as one: equal just where each word is.
-/
namespace Go.Proofs.YtadffkfalclpjaaGreatDoor
open Go.RowKit Go.Shelf
set_option maxRecDepth 100000

theorem z22 (w : World) : (Go.sizeOf 26).run Tryz.prog w = .ok 1 w := by kernel_rfl
end Go.Proofs.YtadffkfalclpjaaGreatDoor
/-
  The document's own Seen, Look, Opened and Open of layer 13.
-/
namespace Go.Proofs.YtadffkfalclpjaaGreatDoor
open Go.RowKit Go.Shelf
set_option maxRecDepth 100000

/-- The cells of a pointer. -/
abbrev ptA (p : Pt) : Array Value := #[.int .i64 p.1, .int .u32 (p.2.1 : Int), .int .u32 (p.2.2.1 : Int), .int .u32 (p.2.2.2.1 : Int), .int .u32 (p.2.2.2.2 : Int)]
theorem outBE_no (c : Nat) {w w' : World} (hb : Below w.heap.size w w') : OutBE ([], c) w (.returned (.tuple #[.slice none 0 0, .int .i64 c])) w' := ⟨_, rfl, World.ownsRow_nil _ _ _ _, hb⟩
theorem seenO_len {S : StL} {p : Pt} (hm : MayS S) (hp : MayP p) {B : List UInt8} (h : seenO S p = (B, 0)) : B.length = 256 := by
  unfold seenO at h
  split at h
  · cases h
  · rename_i hp0
    obtain ⟨k, h1, _, h2⟩ := mayP_at hp hp0
    split at h
    · cases h
      rw [show p.1.toNat = k by omega]
      exact leftD_length hm.1 _ h2
    · cases h
end Go.Proofs.YtadffkfalclpjaaGreatDoor
/-
  Store's own: wrong, wrongToSeal, wrongPtr, with; nothing that was there is written.
-/
namespace Go.Proofs.YtadffkfalclpjaaGreatDoor
open Go.RowKit Go.Shelf
set_option maxRecDepth 100000

/-- What is wrong with a store, a birth and a text's length. -/
noncomputable def wrongO (S : StL) (birth n : Nat) : Nat := open Classical in if MayS S then if 1 ≤ birth ∧ birth ≤ 16777215 then if n = 256 then 0 else 3 else 2 else 8
/-- What is wrong with a store or a pointer. -/
noncomputable def wrongPO (S : StL) (p : Pt) : Nat := open Classical in if MayS S ∧ MayP p then if p = p0 then 6 else 0 else 8
set_option maxHeartbeats 1000000 in
theorem stWrong_any (L : Nat) (x : SAt) (S : StL) (birth : Nat) (a : Option Addr) (n c : Nat) (w : World) (h : StP L w x S) (z : Nat) (hz : wrongO S birth n = z) : Calls Tryz.prog 58 #[stV x S, .int .u32 (birth : Int), .slice a n c] w fun e w' => e = .returned (.int .i64 (z : Int)) ∧ Below w.heap.size w w' := by
  obtain ⟨xb, b0⟩ := st_box w x S
  obtain ⟨w0, hw0⟩ : ∃ w0, w.alloc (.cells (stC x S) 38) = w0 := ⟨_, rfl⟩
  rw [hw0] at xb b0
  have c0 := stC0 xb
  have c1 := stC1 xb
  have c2 := stC2 xb
  have c3 := stC3 xb
  have c4 := stC4 xb
  have HB := Lib.hid b0
  have HMY := fun R hR => stMayBe_any L x S w0 (h.bel b0) R hR
  simp only [stC] at hw0
  clear h xb b0
  unfold wrongO at hz
  by_cases hm : MayS S
  · rw [if_pos hm] at hz
    have HM := Lib.hid (HMY true ⟨fun _ => hm, fun _ => rfl⟩)
    clear HMY hm
    by_cases hb : 1 ≤ birth ∧ birth ≤ 16777215
    · rw [if_pos hb] at hz
      have HU := Lib.hid (fun W => stUpTo_any birth 16777215 true ⟨fun _ => ⟨hb.1, by omega⟩, fun _ => rfl⟩ W)
      clear hb
      by_cases hn : n = 256
      · rw [if_pos hn] at hz
        have e1 : ((n : Int) != 256) = false := by simp; omega
        subst hz
        clear hn
        go_enter Tryz.func58, Tryz.ntmps58
        go_wp2_with fail
        refine HM.out.mono ?_
        rintro e w1 ⟨rfl, b1⟩
        have HB1 := Lib.hid (HB.out.trans (b1.mono HB.out.size))
        clear b1 c0 c1 c2 c3 c4
        go_wp2_with fail
        refine (HU.out w1).mono ?_
        rintro e w2 ⟨rfl, rfl⟩
        go_wp2_with fail
        go_ret
        exact ⟨rfl, HB1.out⟩
      · rw [if_neg hn] at hz
        have e1 : ((n : Int) != 256) = true := by simp; omega
        subst hz
        clear hn
        go_enter Tryz.func58, Tryz.ntmps58
        go_wp2_with fail
        refine HM.out.mono ?_
        rintro e w1 ⟨rfl, b1⟩
        have HB1 := Lib.hid (HB.out.trans (b1.mono HB.out.size))
        clear b1 c0 c1 c2 c3 c4
        go_wp2_with fail
        refine (HU.out w1).mono ?_
        rintro e w2 ⟨rfl, rfl⟩
        go_wp2_with fail
        go_ret
        exact ⟨rfl, HB1.out⟩
    · rw [if_neg hb] at hz
      have HU := Lib.hid (fun W => stUpTo_any birth 16777215 false ⟨fun h => (by cases h), fun h => absurd (show 1 ≤ birth ∧ birth ≤ 16777215 by omega) hb⟩ W)
      subst hz
      clear hb
      go_enter Tryz.func58, Tryz.ntmps58
      go_wp2_with fail
      refine HM.out.mono ?_
      rintro e w1 ⟨rfl, b1⟩
      have HB1 := Lib.hid (HB.out.trans (b1.mono HB.out.size))
      clear b1 c0 c1 c2 c3 c4
      go_wp2_with fail
      refine (HU.out w1).mono ?_
      rintro e w2 ⟨rfl, rfl⟩
      go_wp2_with fail
      go_ret
      exact ⟨rfl, HB1.out⟩
  · rw [if_neg hm] at hz
    have HM := Lib.hid (HMY false ⟨fun h => (by cases h), fun h => absurd h hm⟩)
    subst hz
    clear HMY hm
    go_enter Tryz.func58, Tryz.ntmps58
    go_wp2_with fail
    refine HM.out.mono ?_
    rintro e w1 ⟨rfl, b1⟩
    have HB1 := Lib.hid (HB.out.trans (b1.mono HB.out.size))
    clear b1 c0 c1 c2 c3 c4
    go_wp2_with fail
    go_ret
    exact ⟨rfl, HB1.out⟩
set_option maxHeartbeats 1000000 in
theorem stWrongPtr_any (L : Nat) (x : SAt) (S : StL) (p : Pt) (w : World) (h : StP L w x S) (z : Nat) (hz : wrongPO S p = z) : Calls Tryz.prog 126 #[stV x S, ptV p] w fun e w' => e = .returned (.int .i64 (z : Int)) ∧ Below w.heap.size w w' := by
  obtain ⟨w0, hw0, b0, z0, x0, q0⟩ := two_al w (stC x S) (ptA p) 38 28
  have h0 := h.bel b0
  have c0 := stC0 x0
  have c1 := stC1 x0
  have c2 := stC2 x0
  have c3 := stC3 x0
  have c4 := stC4 x0
  have d0 := bx0 q0
  have d1 := bx1 q0
  have d2 := bx2 q0
  have d3 := bx3 q0
  have d4 := bx4 q0
  have HQ := Lib.hid q0
  have HB := Lib.hid b0
  have HMY := fun R hR => stMayBe_any L x S w0 h0 R hR
  have hpm := fun W => Check_any p W
  simp only [stC, ptA] at hw0
  clear h h0 x0 q0 b0 z0
  unfold wrongPO at hz
  by_cases hms : MayS S
  · have HM := Lib.hid (HMY true ⟨fun _ => hms, fun _ => rfl⟩)
    clear HMY
    by_cases hmp : MayP p
    · rw [if_pos ⟨hms, hmp⟩] at hz
      rw [show pcheckO p = 0 by unfold pcheckO; rw [if_pos hmp]] at hpm
      have HC := Lib.hid hpm
      clear hpm hms hmp
      by_cases hp : p = p0
      · rw [if_pos hp] at hz
        have he : eqP p p0 = true := (eqP_iff p p0).2 hp
        subst hz
        clear hp
        obtain ⟨pa, pb, pc, pd, pe⟩ := p
        have heq := eqPt_zero pa pb pc pd pe
        rw [he] at heq
        clear he
        go_enter Tryz.func126, Tryz.ntmps126
        go_wp2_with fail
        refine HM.out.mono ?_
        rintro e w1 ⟨rfl, b1⟩
        replace HQ := Lib.hid (HQ.out.below b1 HQ.out.lt)
        replace HB := Lib.hid (HB.out.trans (b1.mono HB.out.size))
        clear b1 c0 c1 c2 c3 c4 d0 d1 d2 d3 d4
        have d0 := bx0 HQ.out
        have d1 := bx1 HQ.out
        have d2 := bx2 HQ.out
        have d3 := bx3 HQ.out
        have d4 := bx4 HQ.out
        go_wp2_with fail
        refine (HC.out w1).mono ?_
        rintro e w2 ⟨rfl, b2⟩
        replace HQ := Lib.hid (HQ.out.below b2 HQ.out.lt)
        replace HB := Lib.hid (HB.out.trans (b2.mono HB.out.size))
        clear b2 d0 d1 d2 d3 d4
        have d0 := bx0 HQ.out
        have d1 := bx1 HQ.out
        have d2 := bx2 HQ.out
        have d3 := bx3 HQ.out
        have d4 := bx4 HQ.out
        go_wp2_with fail
        go_ret
        exact ⟨rfl, HB.out⟩
      · rw [if_neg hp] at hz
        have he : eqP p p0 = false := by
          cases hq : eqP p p0 with
          | false => rfl
          | true => exact absurd ((eqP_iff p p0).1 hq) hp
        subst hz
        clear hp
        obtain ⟨pa, pb, pc, pd, pe⟩ := p
        have heq := eqPt_zero pa pb pc pd pe
        rw [he] at heq
        clear he
        go_enter Tryz.func126, Tryz.ntmps126
        go_wp2_with fail
        refine HM.out.mono ?_
        rintro e w1 ⟨rfl, b1⟩
        replace HQ := Lib.hid (HQ.out.below b1 HQ.out.lt)
        replace HB := Lib.hid (HB.out.trans (b1.mono HB.out.size))
        clear b1 c0 c1 c2 c3 c4 d0 d1 d2 d3 d4
        have d0 := bx0 HQ.out
        have d1 := bx1 HQ.out
        have d2 := bx2 HQ.out
        have d3 := bx3 HQ.out
        have d4 := bx4 HQ.out
        go_wp2_with fail
        refine (HC.out w1).mono ?_
        rintro e w2 ⟨rfl, b2⟩
        replace HQ := Lib.hid (HQ.out.below b2 HQ.out.lt)
        replace HB := Lib.hid (HB.out.trans (b2.mono HB.out.size))
        clear b2 d0 d1 d2 d3 d4
        have d0 := bx0 HQ.out
        have d1 := bx1 HQ.out
        have d2 := bx2 HQ.out
        have d3 := bx3 HQ.out
        have d4 := bx4 HQ.out
        go_wp2_with fail
        go_ret
        exact ⟨rfl, HB.out⟩
    · rw [if_neg (fun hh => hmp hh.2)] at hz
      rw [show pcheckO p = 8 by unfold pcheckO; rw [if_neg hmp]] at hpm
      have HC := Lib.hid hpm
      subst hz
      clear hpm hms hmp
      go_enter Tryz.func126, Tryz.ntmps126
      go_wp2_with fail
      refine HM.out.mono ?_
      rintro e w1 ⟨rfl, b1⟩
      replace HQ := Lib.hid (HQ.out.below b1 HQ.out.lt)
      replace HB := Lib.hid (HB.out.trans (b1.mono HB.out.size))
      clear b1 c0 c1 c2 c3 c4 d0 d1 d2 d3 d4
      have d0 := bx0 HQ.out
      have d1 := bx1 HQ.out
      have d2 := bx2 HQ.out
      have d3 := bx3 HQ.out
      have d4 := bx4 HQ.out
      go_wp2_with fail
      refine (HC.out w1).mono ?_
      rintro e w2 ⟨rfl, b2⟩
      replace HQ := Lib.hid (HQ.out.below b2 HQ.out.lt)
      replace HB := Lib.hid (HB.out.trans (b2.mono HB.out.size))
      clear b2 d0 d1 d2 d3 d4
      have d0 := bx0 HQ.out
      have d1 := bx1 HQ.out
      have d2 := bx2 HQ.out
      have d3 := bx3 HQ.out
      have d4 := bx4 HQ.out
      go_wp2_with fail
      go_ret
      exact ⟨rfl, HB.out⟩
  · rw [if_neg (fun hh => hms hh.1)] at hz
    have HM := Lib.hid (HMY false ⟨fun h => (by cases h), fun h => absurd h hms⟩)
    subst hz
    clear HMY hpm hms
    go_enter Tryz.func126, Tryz.ntmps126
    go_wp2_with fail
    refine HM.out.mono ?_
    rintro e w1 ⟨rfl, b1⟩
    replace HQ := Lib.hid (HQ.out.below b1 HQ.out.lt)
    replace HB := Lib.hid (HB.out.trans (b1.mono HB.out.size))
    clear b1 c0 c1 c2 c3 c4 d0 d1 d2 d3 d4
    have d0 := bx0 HQ.out
    have d1 := bx1 HQ.out
    have d2 := bx2 HQ.out
    have d3 := bx3 HQ.out
    have d4 := bx4 HQ.out
    go_wp2_with fail
    go_ret
    exact ⟨rfl, HB.out⟩
set_option maxHeartbeats 1000000 in
theorem stWith_any (x : SAt) (S : StL) (y : DAt) (D : DkL) (a : Option Addr) (n c : Nat) (w : World) : Calls Tryz.prog 54 #[stV x S, dval y D, .slice a n c] w fun e w' => e = .returned (.agg #[.slice y.ba D.1.length y.bc, .slice y.wa D.2.length y.wc, .slice a n c, .int .u32 (S.2.2.1 : Int), .int .u32 (S.2.2.2 : Int)]) ∧ Below w.heap.size w w' := by
  obtain ⟨w0, hw0, b0, z0, x0, y0, q0⟩ := three_al w (stC x S) #[.slice y.ba D.1.length y.bc, .slice y.wa D.2.length y.wc] stZ 38 35 38
  obtain ⟨g, hg⟩ : ∃ g, w.heap.size = g := ⟨_, rfl⟩
  obtain ⟨g1, hg1⟩ : ∃ g1, g + 1 = g1 := ⟨_, rfl⟩
  obtain ⟨g2, hg2⟩ : ∃ g2, g1 + 1 = g2 := ⟨_, rfl⟩
  rw [hg] at x0 y0 q0 b0
  rw [show g + 2 = g1 + 1 by omega] at q0
  rw [hg1] at y0
  rw [hg2] at q0
  have HG := Lib.hid hg
  have HB := Lib.hid b0
  have e0 : w0.cell? ⟨g1, 0, none⟩ = some (.slice y.ba D.1.length y.bc) := y0.cell 0
  have e1 : w0.cell? ⟨g1, 1, none⟩ = some (.slice y.wa D.2.length y.wc) := y0.cell 1
  have c0 := stC0 x0
  have c1 := stC1 x0
  have c2 := stC2 x0
  have c3 := stC3 x0
  have c4 := stC4 x0
  have hfx := fun i => x0.frozen i
  have HX := Lib.hid x0
  have HQ := Lib.hid q0
  have HNE := Lib.hid (show g2 ≠ g by omega)
  have HGE := Lib.hid (show g ≤ g2 by omega)
  obtain ⟨x2, k2, b2⟩ := box_two x0 (by decide) (Nat.zero_le _) b0 (Nat.le_refl _) (.slice y.ba D.1.length y.bc) (.slice y.wa D.2.length y.wc)
  have q2 := (q0.far (p := ⟨g, 0, none⟩) HNE.out (.slice y.ba D.1.length y.bc)).far (p := ⟨g, 1, none⟩) HNE.out (.slice y.wa D.2.length y.wc)
  obtain ⟨w2, hw2⟩ : ∃ w2, (w0.setCell ⟨g, 0, none⟩ (.slice y.ba D.1.length y.bc)).setCell ⟨g, 1, none⟩ (.slice y.wa D.2.length y.wc) = w2 := ⟨_, rfl⟩
  rw [hw2] at x2 k2 b2 q2
  have cc := bx2 x2
  have hf2 := fun i => x2.frozen i
  have q3 := q2.far (p := ⟨g, 2, none⟩) HNE.out (.slice a n c)
  obtain ⟨x3, k3, b3⟩ := box_at x2 (by decide) (Nat.zero_le _) b2 (Nat.le_refl _) 2 (.slice a n c)
  obtain ⟨w3, hw3⟩ : ∃ w3, w2.setCell ⟨g, 2, none⟩ (.slice a n c) = w3 := ⟨_, rfl⟩
  rw [hw3] at x3 k3 b3 q3
  replace x3 : Blk w3 g 38 #[.slice y.ba D.1.length y.bc, .slice y.wa D.2.length y.wc, .slice a n c, .int .u32 (S.2.2.1 : Int), .int .u32 (S.2.2.2 : Int)] := x3
  have p0 := bx0 x3
  have p1 := bx1 x3
  have p2 := bx2 x3
  have p3 := bx3 x3
  have p4 := bx4 x3
  have r0 := stZ0 q3
  have r1 := stZ1 q3
  have r2 := stZ2 q3
  have r3 := stZ3 q3
  have r4 := stZ4 q3
  have hfy := fun i => q3.frozen i
  have H2 := Lib.hid (box_five q3 (by decide) (Nat.zero_le _) b3 HGE.out (.slice y.ba D.1.length y.bc) (.slice y.wa D.2.length y.wc) (.slice a n c) (.int .u32 (S.2.2.1 : Int)) (.int .u32 (S.2.2.2 : Int)))
  simp only [stC, stZ] at hw0
  simp only [dval]
  clear x0 y0 q0 b0 z0 x2 k2 b2 q2 x3 k3 b3 q3 HX HQ
  go_enter Tryz.func54, Tryz.ntmps54
  go_wp2_with fail
  clear p0 p1 p2 p3 p4 r0 r1 r2 r3 r4 hfy hfx c0 c1 c2 c3 c4 e0 e1 hw2 hw3 cc hf2
  obtain ⟨xf, _, bf⟩ := H2.out
  obtain ⟨wf, hwf⟩ : ∃ wf, set5 w3 g2 (.slice y.ba D.1.length y.bc) (.slice y.wa D.2.length y.wc) (.slice a n c) (.int .u32 (S.2.2.1 : Int)) (.int .u32 (S.2.2.2 : Int)) = wf := ⟨_, rfl⟩
  rw [hwf] at xf bf
  simp only [set5] at hwf
  rw [hwf]
  have e0 := bx0 xf
  have e1 := bx1 xf
  have e2 := bx2 xf
  have e3 := bx3 xf
  have e4 := bx4 xf
  refine bodyPost_ret (v := .agg #[.slice y.ba D.1.length y.bc, .slice y.wa D.2.length y.wc, .slice a n c, .int .u32 (S.2.2.1 : Int), .int .u32 (S.2.2.2 : Int)]) (by simp [results, Tryz.f54, go_sem, e0, e1, e2, e3, e4]) rfl ?_
  exact ⟨rfl, by rw [HG.out]; exact bf⟩
end Go.Proofs.YtadffkfalclpjaaGreatDoor
/-
  Store's own: Look, Open; what they answer is new memory, and nothing that was there is written.
-/
namespace Go.Proofs.YtadffkfalclpjaaGreatDoor
open Go.RowKit Go.Shelf
set_option maxRecDepth 100000

theorem wrongPO_no {S : StL} {p : Pt} (h : wrongPO S p = 0) : MayS S ∧ MayP p ∧ p ≠ p0 := by
  unfold wrongPO at h
  split at h
  · rename_i hm
    split at h
    · cases h
    · exact ⟨hm.1, hm.2, by assumption⟩
  · cases h
theorem lookO_wrong {S : StL} {p : Pt} {z : Nat} (h : wrongPO S p = z) (hz : z ≠ 0) : lookO S p = ([], z) := by
  unfold wrongPO at h
  unfold lookO
  split at h
  · rw [if_pos (by assumption)]
    split at h
    · unfold seenO
      rw [if_pos (by assumption), ← h]
    · exact absurd h.symm hz
  · rw [if_neg (by assumption), ← h]
set_option maxHeartbeats 4000000 in
theorem stLook_all (L : Nat) (x : SAt) (S : StL) (p : Pt) (w : World) (h : StP L w x S) (_hwp : WfP p) (_hL : L ≤ w.heap.size) : Calls Tryz.prog 99 #[stV x S, ptV p] w (OutBE (lookO S p) w) := by
  have hmx : Tryz.prog.follows Departure.mixedOrders = true := by kernel_rfl
  obtain ⟨w0, hw0, b0, z0, x0, q0⟩ := two_al w (stC x S) (ptA p) 38 28
  obtain ⟨g, hg⟩ : ∃ g, w.heap.size = g := ⟨_, rfl⟩
  obtain ⟨g1, hg1⟩ : ∃ g1, g + 1 = g1 := ⟨_, rfl⟩
  have h0 := h.bel b0
  rw [hg] at x0 q0 z0 b0
  rw [hg1] at q0
  have c0 := stC0 x0
  have c1 := stC1 x0
  have c2 := stC2 x0
  have c3 := stC3 x0
  have c4 := stC4 x0
  have d0 := bx0 q0
  have d1 := bx1 q0
  have d2 := bx2 q0
  have d3 := bx3 q0
  have d4 := bx4 q0
  have HX := Lib.hid x0
  have HQ := Lib.hid q0
  have HB := Lib.hid b0
  have HS := Lib.hid h0
  have HG := Lib.hid hg
  have HW := Lib.hid (show g ≤ w0.heap.size by omega)
  simp only [stC, ptA] at hw0
  clear h h0 x0 q0 b0 z0
  obtain ⟨z, hz⟩ : ∃ z, wrongPO S p = z := ⟨_, rfl⟩
  have HWR := Lib.hid (stWrongPtr_any L x S p w0 HS.out z hz)
  obtain ⟨o, ho⟩ : ∃ o, lookO S p = o := ⟨_, rfl⟩
  rw [ho]
  by_cases hz0 : z = 0
  · subst hz0
    obtain ⟨hm, hmp, hp⟩ := wrongPO_no hz
    rw [lookO_may hm hmp] at ho
    unfold seenO at ho
    rw [if_neg hp] at ho
    obtain ⟨k, hk, k12, k256⟩ := mayP_at hmp hp
    have hkt : p.1.toNat = k := by omega
    rw [hkt] at ho
    have hln := leftD_length hm.1 (fun _ => true) k256
    obtain ⟨B, hBk⟩ : ∃ B, seenS S k = B := ⟨_, rfl⟩
    have hln2 : B.length = 256 := by rw [← hBk]; exact hln
    rw [hBk] at ho
    have HOO := Lib.hid ho
    have hrd : readO S.1 (k : Int) = (B, 0) := by
      unfold readO
      rw [if_pos hm.1, if_pos (by omega), Int.toNat_natCast, ← hBk]
      rfl
    have hsn : ∀ W, StP L W x S → Calls Tryz.prog 127 #[dval x.d S.1, .int .i64 (k : Int)] W (ToldL (B, 0) W) := fun W hs => by
      have := dRead_any x.d S.1 (k : Int) W hs.now.1
      rw [hrd] at this
      exact this
    simp only [dval] at hsn
    have HSN := Lib.hid hsn
    have HL2 := Lib.hid hln2
    have HKK := Lib.hid hk
    clear hm hmp hp hz hk hkt hln hsn hln2 hBk ho hrd
    go_enter Tryz.func99, Tryz.ntmps99
    go_wp2_with fail
    clear c0 c1 c2 c3 c4 d0 d1 d2 d3 d4 hw0
    refine HWR.out.mono ?_
    rintro e w1 ⟨rfl, b1⟩
    replace HX := Lib.hid (HX.out.below b1 HX.out.lt)
    replace HQ := Lib.hid (HQ.out.below b1 HQ.out.lt)
    replace HS := Lib.hid (HS.out.bel b1)
    replace HB := Lib.hid (HB.out.trans (b1.mono HW.out))
    replace HW := Lib.hid (Nat.le_trans HW.out b1.size)
    clear b1 HWR
    have c0 := stC0 HX.out
    have c1 := stC1 HX.out
    have d0 := bx0 HQ.out
    rw [HKK.out] at d0
    go_wp2_with fail
    clear c0 c1 d0
    refine (HSN.out w1 HS.out).mono ?_
    rintro e w2 ⟨v, rfl, ho, b2⟩
    simp only at ho
    rw [HL2.out] at ho
    obtain ⟨ab, cb, rfl⟩ := own_slice ho
    have HO := Lib.hid (own_mono ho HW.out)
    replace HX := Lib.hid (HX.out.below b2 HX.out.lt)
    replace HQ := Lib.hid (HQ.out.below b2 HQ.out.lt)
    replace HS := Lib.hid (HS.out.bel b2)
    replace HB := Lib.hid (HB.out.trans (b2.mono HW.out))
    replace HW := Lib.hid (Nat.le_trans HW.out b2.size)
    clear b2 ho HSN
    go_wp2_with fail
    obtain ⟨wd, hwd⟩ : ∃ wd, w2.drew = wd := ⟨_, rfl⟩
    have bb : Below w2.heap.size w2 wd := by rw [← hwd]; exact (Below.refl _ w2).drew
    replace HO := Lib.hid (own_below HO.out bb)
    replace HX := Lib.hid (HX.out.below bb HX.out.lt)
    replace HQ := Lib.hid (HQ.out.below bb HQ.out.lt)
    replace HS := Lib.hid (HS.out.bel bb)
    replace HB := Lib.hid (HB.out.trans (bb.mono HW.out))
    replace HW := Lib.hid (Nat.le_trans HW.out bb.size)
    clear bb
    have hsu := sum_any ab 256 cb B wd (own_bsl HO.out) (by omega)
    rw [show (fourW B).a.toNat = sumOf B from rfl] at hsu
    have hc4 := bx4 HQ.out
    obtain ⟨u, hu⟩ : ∃ u : Nat, p.2.2.2.2 = u := ⟨_, rfl⟩
    obtain ⟨m, hmm⟩ : ∃ m : Nat, sumOf B = m := ⟨_, rfl⟩
    rw [hu] at hc4
    rw [hmm] at hsu
    have HSU := Lib.hid hsu
    have HO5 := HOO.out
    rw [hu, hmm] at HO5
    refine wpI_start (fun X => X.cell? ⟨g1, 4, none⟩ = some (.int .u32 (u : Int))) [0, 2, 3, 1, 4] hmx rfl hwd ?_
    clear hu hmm hwd hsu
    have HO5' := Lib.hid HO5
    clear HO5
    iterate 3 (
      refine wpI_read (v := ?_) hc4 rfl (by kernel_rfl) (by kernel_rfl) (by kernel_rfl) (fun _ _ _ h => h) (.inl ⟨by rfl, ?_⟩) ?_
      rotate_left
      · intro X hX
        go_simp
        with_reducible rfl
      try simp only [Act.put, List.setIfInBounds_toArray, List.set_cons_zero, List.set_cons_succ])
    refine wpI_lone rfl (by kernel_rfl) (fun K hK => ?_)
    go_simp
    refine HSU.out.mono ?_
    rintro ev w3 ⟨rfl, b3⟩
    have hc5 : w3.cell? ⟨g1, 4, none⟩ = some (.int .u32 (u : Int)) := (b3.cell (p := ⟨g1, 4, none⟩) HQ.out.lt).trans hc4
    replace HO := Lib.hid (own_below HO.out b3)
    replace HX := Lib.hid (HX.out.below b3 HX.out.lt)
    replace HQ := Lib.hid (HQ.out.below b3 HQ.out.lt)
    replace HS := Lib.hid (HS.out.bel b3)
    replace HB := Lib.hid (HB.out.trans (b3.mono HW.out))
    replace HW := Lib.hid (Nat.le_trans HW.out b3.size)
    refine hK _ _ hc5 ?_
    clear hK K hc4 b3 HSU
    try simp only [Act.put, List.setIfInBounds_toArray, List.set_cons_zero, List.set_cons_succ]
    by_cases hmu : m = u
    · have HO5 := HO5'.out
      rw [if_pos hmu] at HO5
      subst HO5
      have he : ((m : Int) != (u : Int)) = false := by simp; omega
      clear hmu
      iterate 1 (
        refine wpI_read (v := ?_) hc5 rfl (by kernel_rfl) (by kernel_rfl) (by kernel_rfl) (fun _ _ _ h => h) (.inl ⟨by rfl, ?_⟩) ?_
        rotate_left
        · intro X hX
          go_simp
          with_reducible rfl
        try simp only [Act.put, List.setIfInBounds_toArray, List.set_cons_zero, List.set_cons_succ])
      refine wpI_done (by kernel_rfl) ?_
      clear he hc5
      go_wp2_with fail
      go_ret2
      exact ⟨_, rfl, by rw [HG.out, HL2.out]; exact HO.out, by rw [HG.out]; exact HB.out⟩
    · have HO5 := HO5'.out
      rw [if_neg hmu] at HO5
      subst HO5
      have he : ((m : Int) != (u : Int)) = true := by simp; omega
      clear hmu
      iterate 1 (
        refine wpI_read (v := ?_) hc5 rfl (by kernel_rfl) (by kernel_rfl) (by kernel_rfl) (fun _ _ _ h => h) (.inl ⟨by rfl, ?_⟩) ?_
        rotate_left
        · intro X hX
          go_simp
          with_reducible rfl
        try simp only [Act.put, List.setIfInBounds_toArray, List.set_cons_zero, List.set_cons_succ])
      refine wpI_done (by kernel_rfl) ?_
      clear he hc5
      go_wp2_with fail
      go_ret2
      exact outBE_no 130 (by rw [HG.out]; exact HB.out)
  · rw [lookO_wrong hz hz0] at ho
    subst ho
    have e1 : ((z : Int) != 0) = true := by simp; omega
    have e2 : ¬ ((z : Int) = 0) := by omega
    clear hz hz0
    go_enter Tryz.func99, Tryz.ntmps99
    go_wp2_with fail
    clear c0 c1 c2 c3 c4 d0 d1 d2 d3 d4 hw0
    refine HWR.out.mono ?_
    rintro e w1 ⟨rfl, b1⟩
    replace HX := Lib.hid (HX.out.below b1 HX.out.lt)
    replace HQ := Lib.hid (HQ.out.below b1 HQ.out.lt)
    replace HS := Lib.hid (HS.out.bel b1)
    replace HB := Lib.hid (HB.out.trans (b1.mono HW.out))
    replace HW := Lib.hid (Nat.le_trans HW.out b1.size)
    clear b1 HWR
    go_wp2_with fail
    go_ret2
    exact outBE_no z (by rw [HG.out]; exact HB.out)
end Go.Proofs.YtadffkfalclpjaaGreatDoor
/-
  dead's own insist and rowOf: a row is told, or refused by a panic.
-/
namespace Go.Proofs.YtadffkfalclpjaaGreatDoor
open Go.RowKit Go.Shelf
set_option maxRecDepth 100000

/-- A call that is refused by a panic. -/
def refuse (c : Nat) : Ending := .panicked [{ v := .iface 101 (.int .i64 (c : Int)), recovered := false }]
theorem ddInsist_ok (w : World) : Calls Tryz.prog 72 #[.int .i64 0] w fun e w' => e = .returned (.tuple #[]) ∧ w = w' := by
  go_enter Tryz.func72, Tryz.ntmps72
  go_wp2_with fail
  go_end0
  exact ⟨rfl, rfl⟩
theorem ddInsist_no (c : Nat) (h : c ≠ 0) (w : World) : Calls Tryz.prog 72 #[.int .i64 (c : Int)] w fun e w' => e = refuse c ∧ w = w' := by
  have e1 : ((c : Int) != 0) = true := by simp; omega
  unfold refuse
  clear h
  go_enter Tryz.func72, Tryz.ntmps72
  go_wp2_with fail
  exact ⟨rfl, rfl, rfl⟩
/-- The row of a pointer, without those that are none behind it. -/
def trowO (S : StL) (p : Pt) : List Pt × Nat :=
  if (seenR S p).2 ≠ 0 then ([], (seenR S p).2)
  else match trimD (seenR S p).1 with
    | none => ([], 8)
    | some t => if t = [] then ([], 8) else (t, 0)
/-- A row that is told, or refused. -/
def OutRw (o : List Pt × Nat) (w : World) (e : Ending) (w' : World) : Prop := Below w.heap.size w w' ∧ ((o.2 = 0 ∧ ∃ a c, e = .returned (.slice a o.1.length c) ∧ Pts w' w'.heap.size a o.1.length c o.1 ∧ HiA w.heap.size a) ∨ (o.2 ≠ 0 ∧ e = refuse o.2))
theorem trimN_behind : ∀ (L : List Pt) (j : Nat), trimN L ≤ j → j < L.length → L.getD j p0 = p0
  | [], _, _, h => absurd h (Nat.not_lt_zero _)
  | q :: r, 0, h1, _ => by
    unfold trimN at h1
    split at h1
    · split at h1
      · rename_i h; exact h
      · omega
    · omega
  | q :: r, j + 1, h1, h2 => by
    have h3 : trimN r ≤ j := by
      rw [trimN] at h1
      by_cases h0 : trimN r = 0
      · omega
      · rw [if_neg h0] at h1
        omega
    have := trimN_behind r j h3 (by simpa using h2)
    simpa using this
theorem lead_trim {L : List Pt} {k : Nat} (hk : k ≤ L.length) (h1 : ∀ t, t < k → L.getD t p0 ≠ p0) (h2 : k = L.length ∨ L.getD k p0 = p0) : ((∀ q ∈ L.drop k, q = p0) → trimD L = some (L.take k)) ∧ ((¬ ∀ q ∈ L.drop k, q = p0) → trimD L = none) := by
  constructor
  · intro h
    have hn : trimN L = k := trimN_of hk (fun j hj hjl => by
      have : L.getD j p0 ∈ L.drop k := by
        rw [ddGetD hjl]
        obtain ⟨d, rfl⟩ : ∃ d, j = k + d := ⟨j - k, by omega⟩
        have : (L.drop k)[d]'(by rw [List.length_drop]; omega) = L[k + d] := List.getElem_drop
        rw [← this]
        exact List.getElem_mem _
      exact h _ this) (by
      rcases Nat.eq_zero_or_pos k with h0 | h0
      · exact .inl h0
      · exact .inr (h1 (k - 1) (by omega)))
    unfold trimD
    rw [hn, if_neg]
    intro hp
    obtain ⟨i, hi, e⟩ := List.getElem_of_mem hp
    rw [List.length_take] at hi
    have := h1 i (by omega)
    rw [ddGetD (by omega)] at this
    rw [List.getElem_take] at e
    exact this e
  · intro h
    have hkl : k < L.length := by
      rcases h2 with h2 | h2
      · exact absurd (fun q hq => by rw [h2, List.drop_of_length_le (Nat.le_refl _)] at hq; cases hq) h
      · rcases Nat.lt_or_ge k L.length with h3 | h3
        · exact h3
        · exact absurd (fun q hq => by rw [List.drop_of_length_le h3] at hq; cases hq) h
    have hp0 : L.getD k p0 = p0 := by
      rcases h2 with h2 | h2
      · omega
      · exact h2
    have hlt : k < trimN L := by
      rcases Nat.lt_or_ge k (trimN L) with h3 | h3
      · exact h3
      · exfalso
        refine h fun q hq => ?_
        obtain ⟨i, hi, rfl⟩ := List.getElem_of_mem hq
        rw [List.length_drop] at hi
        rw [List.getElem_drop]
        have := trimN_behind L (k + i) (by omega) (by omega)
        rwa [ddGetD (by omega)] at this
    unfold trimD
    rw [if_pos]
    have : (L.take (trimN L))[k]'(by rw [List.length_take]; omega) = L[k] := List.getElem_take
    rw [ddGetD hkl] at hp0
    rw [← hp0, ← this]
    exact List.getElem_mem _
theorem trow_seen {S : StL} {p : Pt} {e : Nat} (h : (seenR S p).2 = e) (he : e ≠ 0) : trowO S p = ([], e) := by unfold trowO; rw [if_pos (by rw [h]; exact he), h]
theorem trow_ok {S : StL} {p : Pt} {L t : List Pt} (h : seenR S p = (L, 0)) (ht : trimD L = some t) (h0 : t ≠ []) : trowO S p = (t, 0) := by
  unfold trowO
  rw [h, if_neg (fun h => h rfl)]
  simp only [ht]
  rw [if_neg h0]
theorem trow_none {S : StL} {p : Pt} {L : List Pt} (h : seenR S p = (L, 0)) (ht : trimD L = none ∨ trimD L = some []) : trowO S p = ([], 8) := by
  unfold trowO
  rw [h, if_neg (fun h => h rfl)]
  rcases ht with ht | ht
  · simp only [ht]
  · simp only [ht]
    rw [if_pos trivial]
set_option maxHeartbeats 8000000 in
theorem ddRowOf_any (L : Nat) (x : SAt) (S : StL) (p : Pt) (w : World) (h : StP L w x S) (hm : MayS S) (hmp : MayP p) (hwp : WfP p) (hz : Szs w) (hL : L ≤ w.heap.size) : Calls Tryz.prog 71 #[stV x S, ptV p] w (OutRw (trowO S p) w) := by
  have HZ0 := Lib.hid hz
  clear hz
  have hmp2 := hmp
  obtain ⟨pa, pb, pi, pt, ps⟩ := p
  obtain ⟨w0, hw0, b0, z0, q1, q2⟩ := two_al w (stC x S) (ptA (pa, pb, pi, pt, ps)) 38 28
  obtain ⟨g, hg⟩ : ∃ g, w.heap.size = g := ⟨_, rfl⟩
  obtain ⟨g1, hg1⟩ : ∃ g1, g + 1 = g1 := ⟨_, rfl⟩
  rw [hg] at q1 q2
  rw [hg1] at q2
  have HX := Lib.hid q1
  have HQ := Lib.hid q2
  have HT := Lib.hid (h.bel b0)
  have HB := Lib.hid b0
  have HLW := Lib.hid (show L ≤ w0.heap.size from Nat.le_trans hL b0.size)
  simp only [stC, ptA] at hw0
  clear h b0 z0 q1 q2 hL
  have HZ := Lib.hid (HZ0.out.step HB.out)
  obtain ⟨⟨sb, se⟩, hse⟩ : ∃ o, seenO S (pa, pb, pi, pt, ps) = o := ⟨_, rfl⟩
  have hlk := stLook_all L x S (pa, pb, pi, pt, ps) w0 HT.out hwp HLW.out
  rw [lookO_may hm hmp, hse] at hlk
  have HLK := Lib.hid hlk
  clear hlk
  by_cases he : se ≠ 0
  · have HO := Lib.hid (show trowO S (pa, pb, pi, pt, ps) = ([], se) from trow_seen (by unfold seenR; rw [hse, if_pos he]) he)
    have HSN := Lib.hid he
    clear he hse
    have d0 := bx0 HX.out
    have d1 := bx1 HX.out
    have d2 := bx2 HX.out
    have d3 := bx3 HX.out
    have d4 := bx4 HX.out
    have q0 := bx0 HQ.out
    have q1 := bx1 HQ.out
    have q2 := bx2 HQ.out
    have q3 := bx3 HQ.out
    have q4 := bx4 HQ.out
    go_enter Tryz.func71, Tryz.ntmps71
    go_wp2_with fail
    try rw [hw0]
    try rw [hg]
    try rw [hg1]
    clear hw0 hg hg1
    clear d0 d1 d2 d3 d4
    clear q0 q1 q2 q3 q4
    refine HLK.out.mono ?_
    rintro ev w2 ⟨v, rfl, hv, b2⟩
    replace HX := Lib.hid (HX.out.below b2 HX.out.lt)
    replace HQ := Lib.hid (HQ.out.below b2 HQ.out.lt)
    replace HT := Lib.hid (HT.out.bel b2)
    replace HB := Lib.hid (HB.out.trans (b2.mono HB.out.size))
    replace HZ := Lib.hid (HZ.out.step b2)
    replace HLW := Lib.hid (Nat.le_trans HLW.out b2.size)
    obtain ⟨av, cv, rfl⟩ := own_slice hv
    clear b2 hv
    go_wp2_with fail
    refine (ddInsist_no se HSN.out w2).mono ?_
    rintro ev wz ⟨rfl, rfl⟩
    refine ⟨rfl, HB.out, .inr ⟨by rw [HO.out]; exact HSN.out, by rw [HO.out]; rfl⟩⟩
  · obtain rfl : se = 0 := by omega
    have hlen := seenO_len hm hmp hse
    have HSE := Lib.hid hse
    have HLN := Lib.hid hlen
    clear he hse hlen
    have d0 := bx0 HX.out
    have d1 := bx1 HX.out
    have d2 := bx2 HX.out
    have d3 := bx3 HX.out
    have d4 := bx4 HX.out
    have q0 := bx0 HQ.out
    have q1 := bx1 HQ.out
    have q2 := bx2 HQ.out
    have q3 := bx3 HQ.out
    have q4 := bx4 HQ.out
    go_enter Tryz.func71, Tryz.ntmps71
    go_wp2_with fail
    try rw [hw0]
    try rw [hg]
    try rw [hg1]
    clear hw0 hg hg1
    clear d0 d1 d2 d3 d4
    clear q0 q1 q2 q3 q4
    refine HLK.out.mono ?_
    rintro ev w2 ⟨v, rfl, hv, b2⟩
    replace HX := Lib.hid (HX.out.below b2 HX.out.lt)
    replace HQ := Lib.hid (HQ.out.below b2 HQ.out.lt)
    replace HT := Lib.hid (HT.out.bel b2)
    replace HB := Lib.hid (HB.out.trans (b2.mono HB.out.size))
    replace HZ := Lib.hid (HZ.out.step b2)
    replace HLW := Lib.hid (Nat.le_trans HLW.out b2.size)
    simp only [HLN.out] at hv
    obtain ⟨av, cv, rfl⟩ := own_slice hv
    have hrw := Rows_any av 256 cv sb w2 (own_bsl hv) HZ.out
    clear b2 hv
    go_wp2_with fail
    refine (ddInsist_ok w2).mono ?_
    rintro ev wz ⟨rfl, rfl⟩
    have hrc : rowsO sb = if ∀ p ∈ rowsL sb, MayP p then (rowsL sb, 0) else ([], 8) := by unfold rowsO; rw [if_pos HLN.out]
    by_cases hall : ∀ p ∈ rowsL sb, MayP p
    · rw [if_pos hall] at hrc
      rw [hrc] at hrw
      have HRW := Lib.hid hrw
      have HSR := Lib.hid (show seenR S (pa, pb, pi, pt, ps) = (rowsL sb, 0) by unfold seenR; rw [HSE.out, if_neg (fun h => h rfl), hrc, if_neg (fun h => h rfl)])
      clear hrw hrc hall
      go_wp2_with fail
      refine HRW.out.mono ?_
      rintro ev w3 ⟨v3, rfl, hp3, b3⟩
      have HB2 := Lib.hid (show w.heap.size ≤ w2.heap.size from HB.out.size)
      replace HX := Lib.hid (HX.out.below b3 HX.out.lt)
      replace HQ := Lib.hid (HQ.out.below b3 HQ.out.lt)
      replace HT := Lib.hid (HT.out.bel b3)
      replace HB := Lib.hid (HB.out.trans (b3.mono HB.out.size))
      replace HZ := Lib.hid (HZ.out.step b3)
      replace HLW := Lib.hid (Nat.le_trans HLW.out b3.size)
      obtain ⟨a3, c3, rfl, ht3⟩ := hp3.pts
      have hh3 := prow_hi hp3
      have hl16 : (rowsL sb).length = 16 := rowsL_length sb
      obtain ⟨R, hR⟩ : ∃ R, rowsL sb = R := ⟨_, rfl⟩
      rw [hR] at ht3 hp3 hl16 HSR ⊢
      rw [hl16] at ht3 ⊢
      have HR := Lib.hid ht3
      have HHI := Lib.hid (hh3.less HB2.out)
      have HL16 := Lib.hid hl16
      obtain ⟨b4, o4, ea, _⟩ := ht3.cells 0 (by decide)
      subst ea
      have h16 := ht3.2.1
      clear b3 hp3 ht3 hh3 hR hl16 HRW
      go_wp2_with fail
      refine (ddInsist_ok w3).mono ?_
      rintro ev wz ⟨rfl, rfl⟩
      go_wp2_with fail
      go_loopw [8] (fun i wr => ∃ k : Nat, k ≤ 16 ∧ i = .int .i64 k ∧ (∀ t, t < k → R.getD t p0 ≠ p0) ∧ Below w3.heap.size w3 wr) (fun i _ => 16 - (intOf i).toNat)
      case atStart => exact ⟨0, Nat.zero_le _, rfl, fun j hj => absurd hj (Nat.not_lt_zero _), Below.refl _ _⟩
      case round =>
        obtain ⟨k, hk, rfl, hne, hbz⟩ := hrel
        have k0 : (0 : Int) ≤ k := by omega
        have HNE := Lib.hid hne
        have HBZ := Lib.hid hbz
        have HRR := Lib.hid (HR.out.step hbz)
        replace HB := Lib.hid (HB.out.trans (hbz.mono HB.out.size))
        clear hne hbz
        by_cases hlt : k < 16
        · have k1 : (k : Int) < 16 := by omega
          obtain ⟨⟨ya, yb, yi, yt, ys⟩, hP⟩ : ∃ P, R.getD k p0 = P := ⟨_, rfl⟩
          obtain ⟨_, _, ea, _, _, v0_, v1_, v2_, v3_, v4_⟩ := HRR.out.cells k hlt
          cases ea
          rw [hP] at v0_ v1_ v2_ v3_ v4_
          simp only at v0_ v1_ v2_ v3_ v4_
          have HPE := Lib.hid hP
          clear hP
          by_cases hy0 : ((ya, yb, yi, yt, ys) : Pt) = p0
          · have HTH := Lib.hid (fun W => ddThere_any (ya, yb, yi, yt, ys) W false ⟨fun h => (by cases h), fun h => absurd hy0 h⟩)
            have HND := Lib.hid (show R.getD k p0 = p0 by rw [HPE.out]; exact hy0)
            clear hy0
            go_wp2_with fail
            clear v0_ v1_ v2_ v3_ v4_
            refine (HTH.out wr).mono ?_
            rintro ev w5 ⟨rfl, b5⟩
            replace HB := Lib.hid (HB.out.trans (b5.mono HB.out.size))
            replace HBZ := Lib.hid (HBZ.out.trans (b5.mono HBZ.out.size))
            replace HRR := Lib.hid (HRR.out.step b5)
            clear b5 HTH
            have hsl := pslice_from b4 o4 16 c3 k (by omega) (by omega)
            obtain ⟨A', hs1, hs2⟩ := hsl
            have hto := fun W => pslice_to W (some ⟨b4, o4, none⟩) 16 c3 k (by omega)
            have HS2 := Lib.hid (hs2 _ _ _ HRR.out)
            have hlt' := lead_trim (L := R) (k := k) (by rw [HL16.out]; omega) HNE.out (.inr HND.out)
            clear hs2
            by_cases hk0 : k = 0
            · subst hk0
              have HO := Lib.hid (show trowO S (pa, pb, pi, pt, ps) = ([], 8) from trow_none HSR.out (by
                by_cases hz : ∀ q ∈ R.drop 0, q = p0
                · exact .inr (hlt'.1 hz)
                · exact .inl (hlt'.2 hz)))
              clear hlt' hs1 hto
              go_wp2_with fail
              refine (ddInsist_no 8 (by decide) w5).mono ?_
              rintro ev wz ⟨rfl, rfl⟩
              refine ⟨rfl, HB.out, .inr ⟨by rw [HO.out]; exact (by decide : (8 : Nat) ≠ 0), by rw [HO.out]; rfl⟩⟩
            · have e0 : ((k : Int) == 0) = false := by simp; omega
              by_cases hz : ∀ q ∈ R.drop k, q = p0
              · have HO := Lib.hid (show trowO S (pa, pb, pi, pt, ps) = (R.take k, 0) from trow_ok HSR.out (hlt'.1 hz) (fun h => by have := congrArg List.length h; rw [List.length_take, HL16.out, List.length_nil] at this; omega))
                have HCT := Lib.hid (ddContainsT_any A' (16 - k) (c3 - k) (R.drop k) w5 HS2.out true ⟨fun _ => hz, fun _ => rfl⟩)
                clear hlt' hz
                go_wp2_with fail
                clear hs1
                refine HCT.out.mono ?_
                rintro ev w6 ⟨rfl, b6⟩
                replace HB := Lib.hid (HB.out.trans (b6.mono HB.out.size))
                replace HRR := Lib.hid (HRR.out.step b6)
                clear b6 HCT
                go_wp2_with fail
                go_ret
                refine ⟨HB.out, .inl ⟨by rw [HO.out], some ⟨b4, o4, none⟩, c3, ?_, ?_, HHI.out⟩⟩
                · have hl : (R.take k, 0).1.length = k := by show (R.take k).length = k; rw [List.length_take, HL16.out, Nat.min_eq_left (by omega)]
                  rw [HO.out, hl]
                  rfl
                · rw [HO.out]
                  have := HRR.out.take (k := k) (by omega)
                  rwa [List.length_take, HL16.out, Nat.min_eq_left (by omega)]
              · have HO := Lib.hid (show trowO S (pa, pb, pi, pt, ps) = ([], 8) from trow_none HSR.out (.inl (hlt'.2 hz)))
                have HCT := Lib.hid (ddContainsT_any A' (16 - k) (c3 - k) (R.drop k) w5 HS2.out false ⟨fun h => (by cases h), fun h => absurd h hz⟩)
                clear hlt' hz
                go_wp2_with fail
                clear hs1 hto
                refine HCT.out.mono ?_
                rintro ev w6 ⟨rfl, b6⟩
                replace HB := Lib.hid (HB.out.trans (b6.mono HB.out.size))
                clear b6 HCT
                go_wp2_with fail
                refine (ddInsist_no 8 (by decide) w6).mono ?_
                rintro ev wz ⟨rfl, rfl⟩
                refine ⟨rfl, HB.out, .inr ⟨by rw [HO.out]; exact (by decide : (8 : Nat) ≠ 0), by rw [HO.out]; rfl⟩⟩
          · have HTH := Lib.hid (fun W => ddThere_any (ya, yb, yi, yt, ys) W true ⟨fun _ => hy0, fun _ => rfl⟩)
            have HNY := Lib.hid hy0
            clear hy0
            go_wp2_with fail
            clear v0_ v1_ v2_ v3_ v4_
            refine (HTH.out wr).mono ?_
            rintro ev w5 ⟨rfl, b5⟩
            replace HBZ := Lib.hid (HBZ.out.trans (b5.mono HBZ.out.size))
            clear b5 HTH
            go_wp2_with fail
            go_roundw
            case rel =>
              refine ⟨k + 1, by omega, by go_num, fun t ht => ?_, HBZ.out⟩
              by_cases e : t = k
              · subst e
                rw [HPE.out]
                exact HNY.out
              · exact HNE.out t (by omega)
            case measure => simp [intOf]; omega
        · obtain rfl : k = 16 := by omega
          have HND := Lib.hid (show (16 : Nat) = R.length from HL16.out.symm)
          clear hlt
          have hsl := pslice_from b4 o4 16 c3 16 (by omega) (by omega)
          obtain ⟨A', hs1, hs2⟩ := hsl
          have hto := fun W => pslice_to W (some ⟨b4, o4, none⟩) 16 c3 16 (by omega)
          replace hs1 : ∀ W : World, (Instr.slice 22 (.slice (some ⟨b4, o4, none⟩) 16 c3) (some (.int .i64 16)) none none).run Tryz.prog W = .ok (.slice A' 0 (c3 - 16)) W := hs1
          replace hto : ∀ W : World, (Instr.slice 22 (.slice (some ⟨b4, o4, none⟩) 16 c3) none (some (.int .i64 16)) none).run Tryz.prog W = .ok (.slice (some ⟨b4, o4, none⟩) 16 c3) W := hto
          have HS2 := Lib.hid (hs2 _ _ _ HRR.out)
          have hlt' := lead_trim (L := R) (k := 16) (by rw [HL16.out]; omega) HNE.out (.inl HND.out)
          clear hs2
          have e0 : ((16 : Int) == 0) = false := rfl
          by_cases hz : ∀ q ∈ R.drop 16, q = p0
          · have HO := Lib.hid (show trowO S (pa, pb, pi, pt, ps) = (R.take 16, 0) from trow_ok HSR.out (hlt'.1 hz) (fun h => by have := congrArg List.length h; rw [List.length_take, HL16.out, List.length_nil] at this; omega))
            have HCT := Lib.hid (ddContainsT_any A' 0 (c3 - 16) (R.drop 16) wr HS2.out true ⟨fun _ => hz, fun _ => rfl⟩)
            clear hlt' hz
            go_wp2_with fail
            clear hs1
            refine HCT.out.mono ?_
            rintro ev w6 ⟨rfl, b6⟩
            replace HB := Lib.hid (HB.out.trans (b6.mono HB.out.size))
            replace HRR := Lib.hid (HRR.out.step b6)
            clear b6 HCT
            go_wp2_with fail
            go_ret
            refine ⟨HB.out, .inl ⟨by rw [HO.out], some ⟨b4, o4, none⟩, c3, ?_, ?_, HHI.out⟩⟩
            · have hl : (R.take 16, 0).1.length = 16 := by show (R.take 16).length = 16; rw [List.length_take, HL16.out, Nat.min_eq_left (by omega)]
              rw [HO.out, hl]
              rfl
            · rw [HO.out]
              have := HRR.out.take (k := 16) (by omega)
              rwa [List.length_take, HL16.out, Nat.min_eq_left (by omega)]
          · have HO := Lib.hid (show trowO S (pa, pb, pi, pt, ps) = ([], 8) from trow_none HSR.out (.inl (hlt'.2 hz)))
            have HCT := Lib.hid (ddContainsT_any A' 0 (c3 - 16) (R.drop 16) wr HS2.out false ⟨fun h => (by cases h), fun h => absurd h hz⟩)
            clear hlt' hz
            go_wp2_with fail
            clear hs1 hto
            refine HCT.out.mono ?_
            rintro ev w6 ⟨rfl, b6⟩
            replace HB := Lib.hid (HB.out.trans (b6.mono HB.out.size))
            clear b6 HCT
            go_wp2_with fail
            refine (ddInsist_no 8 (by decide) w6).mono ?_
            rintro ev wz ⟨rfl, rfl⟩
            refine ⟨rfl, HB.out, .inr ⟨by rw [HO.out]; exact (by decide : (8 : Nat) ≠ 0), by rw [HO.out]; rfl⟩⟩
    · rw [if_neg hall] at hrc
      rw [hrc] at hrw
      have HRW := Lib.hid hrw
      have HO := Lib.hid (show trowO S (pa, pb, pi, pt, ps) = ([], 8) from trow_seen (by unfold seenR; rw [HSE.out, if_neg (fun h => h rfl), hrc, if_pos (by decide)]) (by decide))
      clear hrw hrc hall
      go_wp2_with fail
      refine HRW.out.mono ?_
      rintro ev w3 ⟨v3, rfl, hp3, b3⟩
      replace HX := Lib.hid (HX.out.below b3 HX.out.lt)
      replace HQ := Lib.hid (HQ.out.below b3 HQ.out.lt)
      replace HT := Lib.hid (HT.out.bel b3)
      replace HB := Lib.hid (HB.out.trans (b3.mono HB.out.size))
      replace HZ := Lib.hid (HZ.out.step b3)
      replace HLW := Lib.hid (Nat.le_trans HLW.out b3.size)
      obtain ⟨a3, c3, rfl, ht3⟩ := hp3.pts
      clear b3 hp3 ht3
      go_wp2_with fail
      refine (ddInsist_no 8 (by decide) w3).mono ?_
      rintro ev wz ⟨rfl, rfl⟩
      refine ⟨rfl, HB.out, .inr ⟨by rw [HO.out]; exact (by decide : (8 : Nat) ≠ 0), by rw [HO.out]; rfl⟩⟩
end Go.Proofs.YtadffkfalclpjaaGreatDoor
/-
  Two rows of pointers of the call's own that share nothing; one grows.
-/
namespace Go.Proofs.YtadffkfalclpjaaGreatDoor
open Go.RowKit Go.Shelf
set_option maxRecDepth 100000

/-- Two rows share no block. -/
def Dis (v u : Value) : Prop := ∀ k, v.ownBlock = some k → u.ownBlock ≠ some k
theorem Dis.symm {v u : Value} (h : Dis v u) : Dis u v := fun k h1 h2 => h k h2 h1
theorem dis_nil (u : Value) : Dis (.slice none 0 0) u := fun k h => by simp [Value.ownBlock] at h
theorem two_app {W W' : World} {B gg : Nat} {v u : Value} {m : List Pt} (hu : PRow W B u m) (hd : Dis v u) (hg : W.grownBy W' v.ownBlock) (hl : v.ownBlock = some gg ∨ gg = W.heap.size) (n cap : Nat) : PRow W' B u m ∧ Dis (.slice (some ⟨gg, 0, none⟩) n cap) u := by
  refine ⟨⟨hu.1.kept hg ?_, hu.2⟩, fun k hk e => ?_⟩
  · cases hv : u.ownBlock with
    | none => exact .inl rfl
    | some k => exact .inr fun e => hd k e.symm hv
  · have : gg = k := by simpa [Value.ownBlock] using hk
    subst this
    rcases hl with h | h
    · exact hd _ h e
    · have := (hu.1.lt gg e).2
      omega
theorem filt_take {L : List Pt} {j : Nat} (f : Pt → Bool) (h : j < L.length) : (L.take (j + 1)).filter f = (L.take j).filter f ++ if f (L.getD j p0) = true then [L.getD j p0] else [] := by
  rw [List.take_succ_eq_append_getElem h, List.filter_append, ddGetD h]
  congr 1
  by_cases hf : f L[j] = true
  · rw [if_pos hf]; simp [hf]
  · rw [if_neg hf]; simp [hf]
theorem oldD_take {L : List Pt} {j a : Nat} (h : j < L.length) : oldD a (L.take (j + 1)) = oldD a (L.take j) ++ if (L.getD j p0).2.1 ≤ a then [L.getD j p0] else [] := by
  unfold oldD
  rw [filt_take _ h]
  simp
theorem youngD_take {L : List Pt} {j a : Nat} (h : j < L.length) : youngD a (L.take (j + 1)) = youngD a (L.take j) ++ if a < (L.getD j p0).2.1 then [L.getD j p0] else [] := by
  unfold youngD
  rw [filt_take _ h]
  simp
/-- Two rows and an error's number. -/
def OutSp (o : List Pt × List Pt × Nat) (w : World) (e : Ending) (w' : World) : Prop := ∃ v u, e = .returned (.tuple #[v, u, .int .i64 o.2.2]) ∧ PRow w' w.heap.size v o.1 ∧ PRow w' w.heap.size u o.2.1 ∧ Dis v u ∧ Below w.heap.size w w'
theorem outSp_no (c : Nat) {w w' : World} (hb : Below w.heap.size w w') : OutSp ([], [], c) w (.returned (.tuple #[.slice none 0 0, .slice none 0 0, .int .i64 c])) w' := ⟨_, _, rfl, prow_nil _ _, prow_nil _ _, dis_nil _, hb⟩
end Go.Proofs.YtadffkfalclpjaaGreatDoor
/-
  Load by rows, as plain lists.
-/
namespace Go.Proofs.YtadffkfalclpjaaGreatDoor
open Go.RowKit Go.Shelf
set_option maxRecDepth 100000

theorem rowsL_wf' (s : List UInt8) : ∀ p ∈ rowsL s, WfP p := fun p hp => by
  obtain ⟨i, _, rfl⟩ := List.mem_map.1 hp
  exact wf_getP _
theorem seenR_cases (S : StL) (p : Pt) : (∃ e, seenR S p = ([], e) ∧ e ≠ 0) ∨ ∃ R, seenR S p = (R, 0) ∧ R.length = 16 ∧ (∀ q ∈ R, WfP q) ∧ ∀ q ∈ R, MayP q := by
  unfold seenR
  split
  · rename_i h
    exact .inl ⟨_, rfl, h⟩
  · rcases rowsO_cases (seenO S p).1 with ⟨c, h, hne⟩ | ⟨_, hm, h⟩
    · rw [h, if_pos hne]
      exact .inl ⟨8, rfl, by decide⟩
    · rw [h, if_neg (fun h => h rfl)]
      exact .inr ⟨_, rfl, rowsL_length _, rowsL_wf' _, hm⟩
theorem trimD_some {L t : List Pt} (h : trimD L = some t) : t = L.take (trimN L) ∧ ∀ q ∈ t, q ≠ p0 := by
  unfold trimD at h
  split at h
  · cases h
  · rename_i hn
    cases h
    exact ⟨rfl, fun q hq e => hn (e ▸ hq)⟩
theorem trowO_cases (S : StL) (p : Pt) : (∃ e, trowO S p = ([], e) ∧ e ≠ 0) ∨ ∃ t, trowO S p = (t, 0) ∧ t ≠ [] ∧ t.length ≤ 16 ∧ (∀ q ∈ t, WfP q) ∧ (∀ q ∈ t, MayP q) ∧ ∀ q ∈ t, q ≠ p0 := by
  rcases seenR_cases S p with ⟨e, h, hn⟩ | ⟨R, h, hl, hw, hm⟩
  · exact .inl ⟨e, trow_seen (by rw [h]) hn, hn⟩
  · cases ht : trimD R with
    | none => exact .inl ⟨8, trow_none h (.inl ht), by decide⟩
    | some t =>
      by_cases h0 : t = []
      · exact .inl ⟨8, trow_none h (.inr (by rw [ht, h0])), by decide⟩
      · obtain ⟨e, hne⟩ := trimD_some ht
        have hsub : ∀ q ∈ t, q ∈ R := fun q hq => by rw [e] at hq; exact List.mem_of_mem_take hq
        exact .inr ⟨t, trow_ok h ht h0, h0, by rw [e, List.length_take]; omega, fun q hq => hw q (hsub q hq), fun q hq => hm q (hsub q hq), hne⟩
/-- Load, by rows. -/
theorem loadedO_rows {S : StL} {p : Pt} {t : List Pt} {e : Nat} (hp : p ≠ p0) (h : trowO S p = (t, e)) : loadedO S p = if e ≠ 0 then ([], [], e) else if (loadTo S t t.length).2 ≠ 0 then ([], [], (loadTo S t t.length).2) else if MayDL (loadTo S t t.length).1 then ((loadTo S t t.length).1, blksD t ++ [p.1.toNat], 0) else ([], [], 8) := by
  unfold loadedO
  rw [if_neg hp]
  rcases seenR_cases S p with ⟨e', h', hn⟩ | ⟨R, h', _⟩
  · have := trow_seen (S := S) (p := p) (e := e') (by rw [h']) hn
    rw [h] at this
    injection this with h1 h2
    subst h1
    subst h2
    rw [h', if_pos hn, if_pos hn]
  · rw [h', if_neg (fun h => h rfl)]
    simp only
    cases ht : trimD R with
    | none =>
      have := trow_none h' (.inl ht)
      rw [h] at this
      injection this with h1 h2
      subst h2
      simp only
      rw [if_pos (by decide)]
    | some t' =>
      simp only
      by_cases h0 : t' = []
      · have := trow_none h' (.inr (by rw [ht, h0]))
        rw [h] at this
        injection this with h1 h2
        subst h2
        rw [if_pos h0, if_pos (by decide)]
      · have := trow_ok h' ht h0
        rw [h] at this
        injection this with h1 h2
        subst h1
        subst h2
        rw [if_neg h0, if_neg (fun h : (0 : Nat) ≠ 0 => h rfl)]
theorem loadTo_stop {S : StL} {rows : List Pt} {i j : Nat} (h : (loadTo S rows i).2 ≠ 0) (hij : i ≤ j) : loadTo S rows j = loadTo S rows i := by
  obtain ⟨d, rfl⟩ : ∃ d, j = i + d := ⟨j - i, by omega⟩
  induction d with
  | zero => rfl
  | succ d ih =>
    have := ih (by omega)
    rw [← Nat.add_assoc, loadTo, this, if_pos h]
/-- One row more. -/
theorem loadTo_step {S : StL} {rows l t : List Pt} {i e : Nat} (hi : loadTo S rows i = (l, 0)) (h : trowO S (rows.getD i p0) = (t, e)) : loadTo S rows (i + 1) = if e ≠ 0 then ([], e) else if i + 1 < rows.length ∧ t.length < 16 then ([], 8) else (l ++ t, 0) := by
  rw [loadTo, hi, if_neg (fun h => h rfl)]
  rcases seenR_cases S (rows.getD i p0) with ⟨e', h', hn⟩ | ⟨R, h', _⟩
  · have := trow_seen (S := S) (e := e') (by rw [h']) hn
    rw [h] at this
    injection this with h1 h2
    subst h2
    rw [h', if_pos hn, if_pos hn]
  · rw [h', if_neg (fun h => h rfl)]
    simp only
    cases ht : trimD R with
    | none =>
      have := trow_none h' (.inl ht)
      rw [h] at this
      injection this with h1 h2
      subst h2
      simp only
      rw [if_pos (by decide)]
    | some t' =>
      simp only
      by_cases h0 : t' = []
      · have := trow_none h' (.inr (by rw [ht, h0]))
        rw [h] at this
        injection this with h1 h2
        subst h2
        rw [if_pos (.inl h0), if_pos (by decide)]
      · have := trow_ok h' ht h0
        rw [h] at this
        injection this with h1 h2
        subst h1
        subst h2
        rw [if_neg (fun h : (0 : Nat) ≠ 0 => h rfl)]
        by_cases hc : i + 1 < rows.length ∧ t.length < 16
        · rw [if_pos (.inr hc), if_pos hc]
        · rw [if_neg (fun h => h.elim h0 hc), if_neg hc]
theorem blksD_length (l : List Pt) : (blksD l).length = l.length := List.length_map _
theorem blksD_take {l : List Pt} {i : Nat} (h : i < l.length) : blksD (l.take (i + 1)) = blksD (l.take i) ++ [(l.getD i p0).1.toNat] := by
  unfold blksD
  rw [List.take_succ_eq_append_getElem h, List.map_append, ddGetD h]
  rfl
theorem at_nat {q : Pt} (h : MayP q) (h0 : q ≠ p0) : ((q.1.toNat : Nat) : Int) = q.1 := by
  obtain ⟨k, hk, _⟩ := mayP_at h h0
  omega
/-- Rows of two types share no block. -/
theorem ty_dis {w : World} {B n : Nat} {v u : Value} {l : List Pt} {xs : List Value} (hv : PRow w B v l) (hu : w.ownsRow B 3 1 u n xs) : Dis v u := fun k h1 h2 => by
  obtain ⟨_, ⟨rfl, _⟩ | ⟨g, cap, cur, rfl, _, hb, _⟩⟩ := hv.1
  · simp [Value.ownBlock] at h1
  · obtain ⟨_, ⟨rfl, _⟩ | ⟨g', cap', cur', rfl, _, hb', _⟩⟩ := hu
    · simp [Value.ownBlock] at h2
    · have e1 : g = k := by simpa [Value.ownBlock] using h1
      have e2 : g' = k := by simpa [Value.ownBlock] using h2
      subst e1
      subst e2
      rw [hb] at hb'
      injection hb' with hb'
      injection hb' with _ hb'
      exact absurd hb' (by decide)
theorem own_keep {w w' : World} {B n : Nat} {t : TypeId} {sz : Nat} {v u : Value} {xs : List Value} (hu : w.ownsRow B t sz u n xs) (hd : Dis v u) (hg : w.grownBy w' v.ownBlock) : w'.ownsRow B t sz u n xs := by
  refine hu.kept hg ?_
  cases hv : u.ownBlock with
  | none => exact .inl rfl
  | some k => exact .inr fun e => hd k e.symm hv
/-- What loaded answers. -/
def OutLd (o : List Pt × List Nat × Nat) (w : World) (e : Ending) (w' : World) : Prop := Below w.heap.size w w' ∧ ((o.2.2 = 0 ∧ ∃ v u, e = .returned (.tuple #[v, u]) ∧ PRow w' w.heap.size v o.1 ∧ w'.ownsRow w.heap.size 3 1 u o.2.1.length (valsN o.2.1)) ∨ (o.2.2 ≠ 0 ∧ e = refuse o.2.2))
theorem nrow_slice {w : World} {B n : Nat} {v : Value} {s : List Nat} (h : w.ownsRow B 3 1 v n (valsN s)) : ∃ a c, v = .slice a n c := by
  obtain ⟨_, ⟨rfl, h0⟩ | ⟨g, cap, cur, rfl, _⟩⟩ := h
  · exact ⟨none, 0, by rw [h0]⟩
  · exact ⟨_, _, rfl⟩
end Go.Proofs.YtadffkfalclpjaaGreatDoor
/-
  Store's own: laid; a block is laid, if there is room, and nothing that was there is written.
-/
namespace Go.Proofs.YtadffkfalclpjaaGreatDoor
open Go.RowKit Go.Shelf
set_option maxRecDepth 100000

/-- What comes behind a block's bytes: nothing, or two numbers. -/
def BySl (w : World) (sl : Value) (iv tag : Nat) : Prop := (sl = .slice none 0 0 ∧ iv = 0 ∧ tag = 0) ∨ ∃ g, sl = .slice (some ⟨g, 0, none⟩) 2 2 ∧ Blk w g 26 #[.int .u32 (iv : Int), .int .u32 (tag : Int)]
theorem BySl.below {w w' : World} {sl : Value} {iv tag : Nat} (h : BySl w sl iv tag) (b : Below w.heap.size w w') : BySl w' sl iv tag := h.imp id fun ⟨g, e, hb⟩ => ⟨g, e, hb.below b hb.lt⟩
theorem BySl.slice {w : World} {sl : Value} {iv tag : Nat} (h : BySl w sl iv tag) : ∃ a n c, sl = .slice a n c := by
  rcases h with ⟨rfl, _⟩ | ⟨g, rfl, _⟩ <;> exact ⟨_, _, _, rfl⟩
theorem atCopy2 {P : Program} {ops : Array Oper} {Q : Exit → Act → World → Prop} {a : Act} {w : World} {rest : List Oper} {d : Option Tmp} {ty : TypeId} {x : Array Operand} {y : Array TypeId} {pos : String} {af : Array Edge} (h : wpList P ops Q (⟨d, .call { callee := .builtin .copy, args := x, argTypes := y }, ty, pos, af, none⟩ :: rest) a w) : wpList P ops Q (⟨d, .call { callee := .builtin .copy, args := x, argTypes := y }, ty, pos, af, none⟩ :: rest) a w := h
theorem infoU32' : (Tryz.prog.info? 26).map (·.size) = some 1 := by kernel_rfl
theorem wpList_copy_two {w : World} {ops : Array Oper} {rest : List Oper} {o : Oper} {a : Act} {Q : Exit → Act → World → Prop} (hgd : o.guard = none) (d s : Operand) (ho : o.op = .call { callee := .builtin .copy, args := #[d, s], argTypes := #[117, 117] }) (g5 : Nat) (sl : Value) (iv tag : Nat)
    (hd : a.eval d = .slice (some ⟨g5, 0, none⟩) 2 2) (hs : a.eval s = sl) (hsl : BySl w sl iv tag) (hx : Blk w g5 122 #[.int .u32 0, .int .u32 0])
    (h : ∀ (m : Nat) w', Blk w' g5 122 #[.int .u32 (iv : Int), .int .u32 (tag : Int)] → Below g5 w w' → wpList Tryz.prog ops Q rest (a.put o.dst (.int .i64 m)) w') : wpList Tryz.prog ops Q (o :: rest) a w := by
  rcases hsl with ⟨rfl, rfl, rfl⟩ | ⟨g, rfl, hg⟩
  · refine wpList_copy_splice hgd d s 117 117 ho 26 Tryz.underlying117 infoU32' (some ⟨g5, 0, none⟩) none 2 2 0 0 hd hs g5 0 [.int .u32 0, .int .u32 0] 122 hx [] rfl
      (fun h => absurd h (by simp)) (by simp) (fun u hu => by cases hu) g5 w (Below.refl _ _) (Nat.le_refl _) ?_
    intro w2 hx2 hb2
    exact h 0 w2 hx2.out hb2
  · refine wpList_copy_splice hgd d s 117 117 ho 26 Tryz.underlying117 infoU32' (some ⟨g5, 0, none⟩) (some ⟨g, 0, none⟩) 2 2 2 2 hd hs g5 0 [.int .u32 0, .int .u32 0] 122 hx [.int .u32 (iv : Int), .int .u32 (tag : Int)] rfl
      (fun _ => ⟨rfl, _, rfl, fun j u hu => ?_⟩) (by simp) (fun u hu => ?_) g5 w (Below.refl _ _) (Nat.le_refl _) ?_
    · have hc := hg.cell j
      have e : (⟨g, 0, none⟩ : Addr).add j = ⟨g, j, none⟩ := by unfold Addr.add; split <;> simp_all
      rw [e, hc]
      simpa using hu
    · simp only [List.mem_cons, List.not_mem_nil, or_false] at hu
      rcases hu with rfl | rfl <;> rfl
    · intro w2 hx2 hb2
      exact h 2 w2 hx2.out hb2
theorem hiS_zero (w : World) (B : Nat) : HiS w B at0 st0 := ⟨.inl rfl, .inl rfl, .inl rfl⟩
theorem newSP_zero (z : Nat) {w w' : World} (hb : Below w.heap.size w w') : NewSP (st0, p0, z) w (.returned (.tuple #[.agg #[.slice none 0 0, .slice none 0 0, .slice none 0 0, .int .u32 0, .int .u32 0], .agg #[.int .i64 0, .int .u32 0, .int .u32 0, .int .u32 0, .int .u32 0], .int .i64 z])) w' :=
  ⟨at0, rfl, st0_lasts 0 w', hiS_zero w' _, hb⟩
theorem far5_bl {w : World} {g g' : Nat} {t : TypeId} {cs : Array Value} (h : Blk w g' t cs) (hne : g' ≠ g) (v0 v1 v2 v3 v4 : Value) : Blk (set5 w g v0 v1 v2 v3 v4) g' t cs :=
  ((((h.far (p := ⟨g, 0, none⟩) hne v0).far (p := ⟨g, 1, none⟩) hne v1).far (p := ⟨g, 2, none⟩) hne v2).far (p := ⟨g, 3, none⟩) hne v3).far (p := ⟨g, 4, none⟩) hne v4
theorem newS_of {w w1 w2 : World} {y : DAt} {D : DkL} {sa : Option Addr} {sc n : Nat} {t : List UInt8} {B B' B'' : Nat} (hd : OutD w1 B y D) (ho : w2.ownsRow B' 5 1 (.slice sa n sc) n (vals t)) (hn : t.length = n) (k : Keeps 0 w1 w) (k2 : Keeps 0 w2 w) (hB : B'' ≤ B) (hB' : B'' ≤ B') (e c : Nat) :
    StP 0 w ⟨y, sa, sc⟩ (D, t, e, c) ∧ HiS w B'' ⟨y, sa, sc⟩ (D, t, e, c) := by
  subst hn
  have hd' := (outD_keeps hd k).lower hB
  have ho' := own_keeps ho (by decide) k2
  have hh := outD_hi hd'
  exact ⟨fun W kk => ⟨(outD_keeps hd (k.trans kk)).dsk, own_bsl (own_keeps ho' (by decide) kk)⟩, hh.1, hh.2, piece_own (own_mono ho' hB')⟩
set_option maxHeartbeats 4000000 in
theorem stLaid_full (L : Nat) (x : SAt) (S : StL) (birth iv tag : Nat) (a : Option Addr) (c : Nat) (b : List UInt8) (sl : Value) (w : World) (h : StP L w x S) (hb : Bsl w w.heap.size a b.length c b) (hsl : BySl w sl iv tag) (hm : MayS S) (hbl : b.length = 256) (h0' : ∀ i, i < 256 → mkT S.2.1 i ≠ 0) : Calls Tryz.prog 59 #[stV x S, .int .u32 birth, .slice a b.length c, sl] w (NewSP (putR (putS S birth iv tag b)) w) := by
  rw [putS_none h0']
  obtain ⟨w0, hw0, b0, z0, x0, y0, q0⟩ := three_al w (stC x S) stZ ptZ 38 38 28
  obtain ⟨g, hg⟩ : ∃ g, w.heap.size = g := ⟨_, rfl⟩
  obtain ⟨g1, hg1⟩ : ∃ g1, g + 1 = g1 := ⟨_, rfl⟩
  obtain ⟨g2, hg2⟩ : ∃ g2, g1 + 1 = g2 := ⟨_, rfl⟩
  have h0 := h.bel b0
  have hb0 := hb.step b0
  have hs0 := hsl.below b0
  rw [hg] at x0 y0 q0 z0 b0
  rw [hg1] at y0
  rw [show g + 2 = g1 + 1 by omega, hg2] at q0
  obtain ⟨sla, sln, slc, rfl⟩ := hsl.slice
  have HI := Lib.hid (show g ≤ g1 ∧ g ≤ g2 ∧ g1 ≠ g ∧ g2 ≠ g ∧ g2 ≠ g1 ∧ g1 ≠ g2 ∧ w0.heap.size = g + 3 by omega)
  have hle : S.2.1.length = 256 := hm.2.1.1
  have hwl : S.1.2.length ≤ 4096 := hm.1.2.1
  have c0 := stC0 x0
  have c1 := stC1 x0
  have c2 := stC2 x0
  have hsp := h0.now.2
  rw [hle] at c2 hsp
  have HX := Lib.hid x0
  have HY := Lib.hid y0
  have HQ := Lib.hid q0
  have HB := Lib.hid b0
  have HS := Lib.hid h0
  have HA := Lib.hid hb0
  have HY2 := Lib.hid hs0
  have HG := Lib.hid hg
  have HLE := Lib.hid hle
  have HMS := Lib.hid hm
  have HBL := Lib.hid hbl
  have HZ := Lib.hid (show g ≤ w0.heap.size by omega)
  simp only [stC, stZ, ptZ] at hw0
  clear h hb hsl h0 hb0 hs0 x0 y0 q0 b0 z0
  have HT := Lib.hid (spTake_full x.a 256 x.c S.2.1 w0 hsp HMS.out.2.1 h0')
  clear h0' hsp hle hwl hm hbl
  go_enter Tryz.func59, Tryz.ntmps59
  go_wp2_with fail
  clear hw0 c0 c1 c2
  refine HT.out.mono ?_
  rintro e w1 ⟨v, rfl, ho, b1⟩
  replace HX := Lib.hid (HX.out.below b1 HX.out.lt)
  replace HY := Lib.hid (HY.out.below b1 HY.out.lt)
  replace HQ := Lib.hid (HQ.out.below b1 HQ.out.lt)
  replace HB := Lib.hid (HB.out.trans (b1.mono HZ.out))
  clear ho b1 HT
  have m0 := stZ0 HY.out
  have m1 := stZ1 HY.out
  have m2 := stZ2 HY.out
  have m3 := stZ3 HY.out
  have m4 := stZ4 HY.out
  have n0 := ptZ0 HQ.out
  have n1 := ptZ1 HQ.out
  have n2 := ptZ2 HQ.out
  have n3 := ptZ3 HQ.out
  have n4 := ptZ4 HQ.out
  go_wp2_with fail
  refine bodyPost_ret (v := .tuple #[.agg #[.slice none 0 0, .slice none 0 0, .slice none 0 0, .int .u32 0, .int .u32 0], .agg #[.int .i64 0, .int .u32 0, .int .u32 0, .int .u32 0, .int .u32 0], .int .i64 9]) (by simp [results, Tryz.f59, go_sem, m0, m1, m2, m3, m4, n0, n1, n2, n3, n4]) rfl ?_
  exact newSP_zero 9 (by rw [HG.out]; exact HB.out)
set_option maxHeartbeats 4000000 in
theorem stLaid_great (L : Nat) (x : SAt) (S : StL) (birth iv tag : Nat) (a : Option Addr) (c : Nat) (b : List UInt8) (sl : Value) (w : World) (h : StP L w x S) (hb : Bsl w w.heap.size a b.length c b) (hsl : BySl w sl iv tag) (hm : MayS S) (hbl : b.length = 256) (k : Nat) (hk : k < 256) (hz : mkT S.2.1 k = 0) (h0' : ∀ i, i < k → mkT S.2.1 i ≠ 0) (hgr : 4096 ≤ S.1.2.length) : Calls Tryz.prog 59 #[stV x S, .int .u32 birth, .slice a b.length c, sl] w (NewSP (putR (putS S birth iv tag b)) w) := by
  rw [putS_great hgr]
  obtain ⟨w0, hw0, b0, z0, x0, y0, q0⟩ := three_al w (stC x S) stZ ptZ 38 38 28
  obtain ⟨g, hg⟩ : ∃ g, w.heap.size = g := ⟨_, rfl⟩
  obtain ⟨g1, hg1⟩ : ∃ g1, g + 1 = g1 := ⟨_, rfl⟩
  obtain ⟨g2, hg2⟩ : ∃ g2, g1 + 1 = g2 := ⟨_, rfl⟩
  have h0 := h.bel b0
  have hb0 := hb.step b0
  have hs0 := hsl.below b0
  rw [hg] at x0 y0 q0 z0 b0
  rw [hg1] at y0
  rw [show g + 2 = g1 + 1 by omega, hg2] at q0
  obtain ⟨sla, sln, slc, rfl⟩ := hsl.slice
  have HI := Lib.hid (show g ≤ g1 ∧ g ≤ g2 ∧ g1 ≠ g ∧ g2 ≠ g ∧ g2 ≠ g1 ∧ g1 ≠ g2 ∧ w0.heap.size = g + 3 by omega)
  have hle : S.2.1.length = 256 := hm.2.1.1
  have hwl : S.1.2.length ≤ 4096 := hm.1.2.1
  have c0 := stC0 x0
  have c1 := stC1 x0
  have c2 := stC2 x0
  have hsp := h0.now.2
  rw [hle] at c2 hsp
  have HX := Lib.hid x0
  have HY := Lib.hid y0
  have HQ := Lib.hid q0
  have HB := Lib.hid b0
  have HS := Lib.hid h0
  have HA := Lib.hid hb0
  have HY2 := Lib.hid hs0
  have HG := Lib.hid hg
  have HLE := Lib.hid hle
  have HMS := Lib.hid hm
  have HBL := Lib.hid hbl
  have HZ := Lib.hid (show g ≤ w0.heap.size by omega)
  simp only [stC, stZ, ptZ] at hw0
  clear h hb hsl h0 hb0 hs0 x0 y0 q0 b0 z0
  have HT := Lib.hid (spTake_ok x.a 256 x.c S.2.1 k w0 hsp HMS.out.2.1 hk hz h0')
  have hwo : writeO S.1 (k : Int) b = (([], []), 9) := by
    unfold writeO
    rw [if_pos hm.1, if_pos (by omega), if_pos hbl, if_pos (by omega)]
  have HWO := Lib.hid hwo
  clear h0' hsp hle hwl hm hbl hk hz hgr hwo
  go_enter Tryz.func59, Tryz.ntmps59
  go_wp2_with fail
  clear hw0 c0 c1 c2
  refine HT.out.mono ?_
  rintro e w1 ⟨v, rfl, ho, b1⟩
  rw [show (S.2.1.set k 1).length = 256 by rw [List.length_set]; exact HLE.out] at ho
  obtain ⟨sa, sc, rfl⟩ := own_slice ho
  replace HX := Lib.hid (HX.out.below b1 HX.out.lt)
  replace HY := Lib.hid (HY.out.below b1 HY.out.lt)
  replace HQ := Lib.hid (HQ.out.below b1 HQ.out.lt)
  replace HS := Lib.hid (HS.out.bel b1)
  replace HA := Lib.hid (HA.out.step b1)
  replace HY2 := Lib.hid (HY2.out.below b1)
  replace HB := Lib.hid (HB.out.trans (b1.mono HZ.out))
  replace HZ := Lib.hid (Nat.le_trans HZ.out b1.size)
  have HO := Lib.hid ho
  have HZ1 := Lib.hid HZ.out
  clear b1 ho HT
  have c0 := stC0 HX.out
  have c1 := stC1 HX.out
  have hwr := dWrite_any x.d S.1 (k : Int) a b.length c b w1 HS.out.now.1 HA.out
  simp only [dval] at hwr
  rw [HWO.out] at hwr
  have HW := Lib.hid hwr
  clear hwr
  go_wp2_with fail
  clear c0 c1
  refine HW.out.mono ?_
  rintro e w2 ⟨y, rfl, hd, b2⟩
  simp only [dval]
  replace HX := Lib.hid (HX.out.below b2 HX.out.lt)
  replace HY := Lib.hid (HY.out.below b2 HY.out.lt)
  replace HQ := Lib.hid (HQ.out.below b2 HQ.out.lt)
  replace HB := Lib.hid (HB.out.trans (b2.mono HZ.out))
  replace HZ := Lib.hid (Nat.le_trans HZ.out b2.size)
  clear hd b2 HW
  have b3 := (Below.refl w2.heap.size w2).alloc (Nat.le_refl _) (.cells #[.slice y.ba 0 y.bc, .slice y.wa 0 y.wc] 35)
  replace HX := Lib.hid (HX.out.below b3 HX.out.lt)
  replace HY := Lib.hid (HY.out.below b3 HY.out.lt)
  replace HQ := Lib.hid (HQ.out.below b3 HQ.out.lt)
  replace HB := Lib.hid (HB.out.trans (b3.mono HZ.out))
  have m0 := stZ0 HY.out
  have m1 := stZ1 HY.out
  have m2 := stZ2 HY.out
  have m3 := stZ3 HY.out
  have m4 := stZ4 HY.out
  have n0 := ptZ0 HQ.out
  have n1 := ptZ1 HQ.out
  have n2 := ptZ2 HQ.out
  have n3 := ptZ3 HQ.out
  have n4 := ptZ4 HQ.out
  clear b3
  go_wp2_with fail
  refine bodyPost_ret (v := .tuple #[.agg #[.slice none 0 0, .slice none 0 0, .slice none 0 0, .int .u32 0, .int .u32 0], .agg #[.int .i64 0, .int .u32 0, .int .u32 0, .int .u32 0, .int .u32 0], .int .i64 9]) (by simp [results, Tryz.f59, go_sem, m0, m1, m2, m3, m4, n0, n1, n2, n3, n4]) rfl ?_
  exact newSP_zero 9 (by rw [HG.out]; exact HB.out)
set_option maxHeartbeats 8000000 in
theorem stLaid_ok (L : Nat) (x : SAt) (S : StL) (birth iv tag : Nat) (a : Option Addr) (c : Nat) (b : List UInt8) (sl : Value) (w : World) (h : StP L w x S) (hb : Bsl w w.heap.size a b.length c b) (hsl : BySl w sl iv tag) (hm : MayS S) (hbl : b.length = 256) (k : Nat) (hk : k < 256) (hz : mkT S.2.1 k = 0) (h0' : ∀ i, i < k → mkT S.2.1 i ≠ 0) (hgr : S.1.2.length < 4096) : Calls Tryz.prog 59 #[stV x S, .int .u32 birth, .slice a b.length c, sl] w (NewSP (putR (putS S birth iv tag b)) w) := by
  rw [putS_some hk hz h0' hgr]
  have hmx : Tryz.prog.follows Departure.mixedOrders = true := by kernel_rfl
  obtain ⟨w0, hw0, b0, z0, x0, y0, q0⟩ := three_al w (stC x S) stZ ptZ 38 38 28
  obtain ⟨g, hg⟩ : ∃ g, w.heap.size = g := ⟨_, rfl⟩
  obtain ⟨g1, hg1⟩ : ∃ g1, g + 1 = g1 := ⟨_, rfl⟩
  obtain ⟨g2, hg2⟩ : ∃ g2, g1 + 1 = g2 := ⟨_, rfl⟩
  have h0 := h.bel b0
  have hb0 := hb.step b0
  have hs0 := hsl.below b0
  rw [hg] at x0 y0 q0 z0 b0
  rw [hg1] at y0
  rw [show g + 2 = g1 + 1 by omega, hg2] at q0
  obtain ⟨sla, sln, slc, rfl⟩ := hsl.slice
  have HI := Lib.hid (show g ≤ g1 ∧ g ≤ g2 ∧ g1 ≠ g ∧ g2 ≠ g ∧ g2 ≠ g1 ∧ g1 ≠ g2 ∧ w0.heap.size = g + 3 by omega)
  have hle : S.2.1.length = 256 := hm.2.1.1
  have hwl : S.1.2.length ≤ 4096 := hm.1.2.1
  have c0 := stC0 x0
  have c1 := stC1 x0
  have c2 := stC2 x0
  have hsp := h0.now.2
  rw [hle] at c2 hsp
  have HX := Lib.hid x0
  have HY := Lib.hid y0
  have HQ := Lib.hid q0
  have HB := Lib.hid b0
  have HS := Lib.hid h0
  have HA := Lib.hid hb0
  have HY2 := Lib.hid hs0
  have HG := Lib.hid hg
  have HLE := Lib.hid hle
  have HMS := Lib.hid hm
  have HBL := Lib.hid hbl
  have HZ := Lib.hid (show g ≤ w0.heap.size by omega)
  simp only [stC, stZ, ptZ] at hw0
  clear h hb hsl h0 hb0 hs0 x0 y0 q0 b0 z0
  have HT := Lib.hid (spTake_ok x.a 256 x.c S.2.1 k w0 hsp HMS.out.2.1 hk hz h0')
  have hwo : writeO S.1 (k : Int) b = (withD S.1 (k : Int) b, 0) := by
    unfold writeO
    rw [if_pos hm.1, if_pos (by omega), if_pos hbl, if_neg (by omega)]
  have HWO := Lib.hid hwo
  have HKK := Lib.hid hk
  clear h0' hsp hle hwl hm hbl hk hz hgr hwo
  go_enter Tryz.func59, Tryz.ntmps59
  go_wp2_with fail
  clear hw0 c0 c1 c2
  refine HT.out.mono ?_
  rintro e w1 ⟨v, rfl, ho, b1⟩
  rw [show (S.2.1.set k 1).length = 256 by rw [List.length_set]; exact HLE.out] at ho
  obtain ⟨sa, sc, rfl⟩ := own_slice ho
  replace HX := Lib.hid (HX.out.below b1 HX.out.lt)
  replace HY := Lib.hid (HY.out.below b1 HY.out.lt)
  replace HQ := Lib.hid (HQ.out.below b1 HQ.out.lt)
  replace HS := Lib.hid (HS.out.bel b1)
  replace HA := Lib.hid (HA.out.step b1)
  replace HY2 := Lib.hid (HY2.out.below b1)
  replace HB := Lib.hid (HB.out.trans (b1.mono HZ.out))
  replace HZ := Lib.hid (Nat.le_trans HZ.out b1.size)
  have HO := Lib.hid ho
  have HZ1 := Lib.hid HZ.out
  clear b1 ho HT
  have c0 := stC0 HX.out
  have c1 := stC1 HX.out
  have hwr := dWrite_any x.d S.1 (k : Int) a b.length c b w1 HS.out.now.1 HA.out
  simp only [dval] at hwr
  rw [HWO.out] at hwr
  have HW := Lib.hid hwr
  clear hwr
  go_wp2_with fail
  clear c0 c1
  refine HW.out.mono ?_
  rintro e w2 ⟨y, rfl, hd, b2⟩
  simp only [dval]
  replace HX := Lib.hid (HX.out.below b2 HX.out.lt)
  replace HY := Lib.hid (HY.out.below b2 HY.out.lt)
  replace HQ := Lib.hid (HQ.out.below b2 HQ.out.lt)
  replace HA := Lib.hid (HA.out.step b2)
  replace HY2 := Lib.hid (HY2.out.below b2)
  replace HO := Lib.hid (own_below HO.out b2)
  replace HB := Lib.hid (HB.out.trans (b2.mono HZ.out))
  replace HZ := Lib.hid (Nat.le_trans HZ.out b2.size)
  have HD := Lib.hid hd
  obtain ⟨g3, hg3⟩ : ∃ g3, w2.heap.size = g3 := ⟨_, rfl⟩
  obtain ⟨g4, hg4⟩ : ∃ g4, g3 + 1 = g4 := ⟨_, rfl⟩
  obtain ⟨w3, hw3, b3, z3, k3, v3⟩ := two_al w2 #[.slice y.ba (withD S.1 (k : Int) b).1.length y.bc, .slice y.wa (withD S.1 (k : Int) b).2.length y.wc] #[.int .u32 0, .int .u32 0] 35 122
  rw [hg3] at k3 v3
  rw [hg4] at v3
  have HC0 := Lib.hid (show Blk ((w2.alloc (.cells #[.slice y.ba (withD S.1 (k : Int) b).1.length y.bc, .slice y.wa (withD S.1 (k : Int) b).2.length y.wc] 35)).alloc (.cells #[.int .u32 0, .int .u32 0] 122)) g4 122 #[.int .u32 0, .int .u32 0] by rw [hw3]; exact v3)
  have HSL := Lib.hid (show BySl ((w2.alloc (.cells #[.slice y.ba (withD S.1 (k : Int) b).1.length y.bc, .slice y.wa (withD S.1 (k : Int) b).2.length y.wc] 35)).alloc (.cells #[.int .u32 0, .int .u32 0] 122)) (.slice sla sln slc) iv tag by rw [hw3]; exact HY2.out.below b3)
  have HK := Lib.hid k3
  have HB3 := Lib.hid b3
  have HW3 := Lib.hid hw3
  have HG3 := Lib.hid (show w2.heap.size ≤ g4 ∧ g3 < g4 ∧ g1 < g3 ∧ g2 < g3 ∧ g < g3 by have := HY.out.lt; have := HQ.out.lt; have := HX.out.lt; omega)
  clear hd b2 HW b3 hw3 z3 k3 v3
  go_wp2_with (with_reducible refine atCopy2 ?_
               refine wpList_copy_two rfl (.tmp 34) (.tmp 35) rfl g4 (.slice sla sln slc) iv tag rfl rfl HSL.out HC0.out ?_
               intro m w4 hx4 hb4
               rw [HW3.out] at hb4
               have b4 := HB3.out.trans (hb4.mono HG3.out.1)
               replace HK := Lib.hid (HK.out.below hb4 HG3.out.2.1)
               have HV := Lib.hid hx4
               clear hb4 hx4)
  replace HX := Lib.hid (HX.out.below b4 HX.out.lt)
  replace HY := Lib.hid (HY.out.below b4 HY.out.lt)
  replace HQ := Lib.hid (HQ.out.below b4 HQ.out.lt)
  replace HA := Lib.hid (HA.out.step b4)
  replace HO := Lib.hid (own_below HO.out b4)
  replace HB := Lib.hid (HB.out.trans (b4.mono HZ.out))
  replace HZ := Lib.hid (Nat.le_trans HZ.out b4.size)
  have HD4 := Lib.hid (HD.out.below b4)
  clear b4 HD HB3 HC0 HSL HY2 HW3
  obtain ⟨wd, hwd⟩ : ∃ wd, w4.drew = wd := ⟨_, rfl⟩
  have bb : Below w4.heap.size w4 wd := by rw [← hwd]; exact (Below.refl _ w4).drew
  replace HX := Lib.hid (HX.out.below bb HX.out.lt)
  replace HY := Lib.hid (HY.out.below bb HY.out.lt)
  replace HQ := Lib.hid (HQ.out.below bb HQ.out.lt)
  replace HK := Lib.hid (HK.out.below bb HK.out.lt)
  replace HA := Lib.hid (HA.out.step bb)
  replace HO := Lib.hid (own_below HO.out bb)
  replace HB := Lib.hid (HB.out.trans (bb.mono HZ.out))
  replace HZ := Lib.hid (Nat.le_trans HZ.out bb.size)
  replace HV := Lib.hid (HV.out.below bb HV.out.lt)
  have HD := Lib.hid (HD4.out.below bb)
  clear bb HD4
  have hsu := sum_any a b.length c b wd HA.out (by have := HBL.out; omega)
  rw [show (fourW b).a.toNat = sumOf b from rfl] at hsu
  obtain ⟨sb, hsb⟩ : ∃ sb, sumOf b = sb := ⟨_, rfl⟩
  rw [hsb] at hsu
  have HSU := Lib.hid hsu
  have HSB := Lib.hid hsb
  have v0 : wd.cell? ⟨g4, 0, none⟩ = some (.int .u32 (iv : Int)) := HV.out.cell 0
  have v1 : wd.cell? ⟨g4, 1, none⟩ = some (.int .u32 (tag : Int)) := HV.out.cell 1
  have hv := And.intro v0 v1
  clear hsu hsb v0 v1
  refine wpI_start (fun X => X.cell? ⟨g4, 0, none⟩ = some (.int .u32 (iv : Int)) ∧ X.cell? ⟨g4, 1, none⟩ = some (.int .u32 (tag : Int))) [0, 1, 2, 3, 4, 5, 6, 7, 8, 9] hmx rfl hwd ?_
  clear hwd
  iterate 7 (
    refine wpI_read (v := ?_) hv rfl (by kernel_rfl) (by kernel_rfl) (by kernel_rfl) (fun _ _ _ h => h) (.inl ⟨by rfl, ?_⟩) ?_
    rotate_left
    · intro X hX
      obtain ⟨j0, j1⟩ := hX
      go_simp
      with_reducible rfl
    try simp only [Act.put, List.setIfInBounds_toArray, List.set_cons_zero, List.set_cons_succ])
  refine wpI_lone rfl (by kernel_rfl) (fun K hK => ?_)
  go_simp
  refine HSU.out.mono ?_
  rintro ev w5 ⟨rfl, b5⟩
  replace HX := Lib.hid (HX.out.below b5 HX.out.lt)
  replace HY := Lib.hid (HY.out.below b5 HY.out.lt)
  replace HQ := Lib.hid (HQ.out.below b5 HQ.out.lt)
  replace HK := Lib.hid (HK.out.below b5 HK.out.lt)
  replace HA := Lib.hid (HA.out.step b5)
  replace HO := Lib.hid (own_below HO.out b5)
  replace HD := Lib.hid (HD.out.below b5)
  replace HB := Lib.hid (HB.out.trans (b5.mono HZ.out))
  replace HZ := Lib.hid (Nat.le_trans HZ.out b5.size)
  replace HV := Lib.hid (HV.out.below b5 HV.out.lt)
  have v0 : w5.cell? ⟨g4, 0, none⟩ = some (.int .u32 (iv : Int)) := HV.out.cell 0
  have v1 : w5.cell? ⟨g4, 1, none⟩ = some (.int .u32 (tag : Int)) := HV.out.cell 1
  have hv5 := And.intro v0 v1
  refine hK _ _ hv5 ?_
  clear hK K b5 HSU hv v0 v1
  try simp only [Act.put, List.setIfInBounds_toArray, List.set_cons_zero, List.set_cons_succ]
  iterate 1 (
    refine wpI_read (v := ?_) hv5 rfl (by kernel_rfl) (by kernel_rfl) (by kernel_rfl) (fun _ _ _ h => h) (.inl ⟨by rfl, ?_⟩) ?_
    rotate_left
    · intro X hX
      obtain ⟨j0, j1⟩ := hX
      go_simp
      with_reducible rfl
    try simp only [Act.put, List.setIfInBounds_toArray, List.set_cons_zero, List.set_cons_succ])
  refine wpI_lone rfl (by kernel_rfl) (fun K hK => ?_)
  go_simp
  obtain ⟨q6, k6, b6⟩ := box_five (L := g) HQ.out (by decide) HI.out.2.1 HB.out HI.out.2.1 (.int .i64 (k : Int)) (.int .u32 (birth : Int)) (.int .u32 (iv : Int)) (.int .u32 (tag : Int)) (.int .u32 (sb : Int))
  have n0 := ptZ0 HQ.out
  have n1 := ptZ1 HQ.out
  have n2 := ptZ2 HQ.out
  have n3 := ptZ3 HQ.out
  have n4 := ptZ4 HQ.out
  have hfq := fun i => HQ.out.frozen i
  have x6 := far5_bl HX.out HI.out.2.2.2.1.symm (.int .i64 (k : Int)) (.int .u32 (birth : Int)) (.int .u32 (iv : Int)) (.int .u32 (tag : Int)) (.int .u32 (sb : Int))
  have y6 := far5_bl HY.out HI.out.2.2.2.2.2.1 (.int .i64 (k : Int)) (.int .u32 (birth : Int)) (.int .u32 (iv : Int)) (.int .u32 (tag : Int)) (.int .u32 (sb : Int))
  have t6 := far5_bl HK.out (show g3 ≠ g2 by have := HG3.out.2.2.2.1; omega) (.int .i64 (k : Int)) (.int .u32 (birth : Int)) (.int .u32 (iv : Int)) (.int .u32 (tag : Int)) (.int .u32 (sb : Int))
  have v6 := far5_bl HV.out (show g4 ≠ g2 by have := HG3.out; omega) (.int .i64 (k : Int)) (.int .u32 (birth : Int)) (.int .u32 (iv : Int)) (.int .u32 (tag : Int)) (.int .u32 (sb : Int))
  obtain ⟨w6, hw6⟩ : ∃ w6, set5 w5 g2 (.int .i64 (k : Int)) (.int .u32 (birth : Int)) (.int .u32 (iv : Int)) (.int .u32 (tag : Int)) (.int .u32 (sb : Int)) = w6 := ⟨_, rfl⟩
  rw [hw6] at q6 k6 b6 x6 y6 t6 v6
  replace HX := Lib.hid x6
  replace HY := Lib.hid y6
  replace HK := Lib.hid t6
  replace HQ := Lib.hid q6
  replace HB := Lib.hid b6
  replace HO := Lib.hid (own_keeps HO.out (by decide) k6)
  replace HD := Lib.hid (outD_keeps HD.out k6)
  replace HZ := Lib.hid (Nat.le_trans HZ.out k6.size)
  have v0 : w6.cell? ⟨g4, 0, none⟩ = some (.int .u32 (iv : Int)) := v6.cell 0
  have v1 : w6.cell? ⟨g4, 1, none⟩ = some (.int .u32 (tag : Int)) := v6.cell 1
  have hv6 := And.intro v0 v1
  simp only [set5] at hw6
  clear q6 k6 b6 x6 y6 t6 v6 v0 v1 HV
  go_simp
  refine hK _ _ hv6 ?_
  clear hK K n0 n1 n2 n3 n4 hfq hv6 hw6 hv5
  try simp only [Act.put, List.setIfInBounds_toArray, List.set_cons_zero, List.set_cons_succ]
  refine wpI_done (by kernel_rfl) ?_
  have c0 := stC0 HX.out
  have c1 := stC1 HX.out
  have c2 := stC2 HX.out
  have c3 := stC3 HX.out
  have c4 := stC4 HX.out
  have t0 : w6.cell? ⟨g3, 0, none⟩ = some (.slice y.ba (withD S.1 (k : Int) b).1.length y.bc) := HK.out.cell 0
  have t1 : w6.cell? ⟨g3, 1, none⟩ = some (.slice y.wa (withD S.1 (k : Int) b).2.length y.wc) := HK.out.cell 1
  have hwi := stWith_any x S y (withD S.1 (k : Int) b) sa 256 sc w6
  simp only [dval] at hwi
  have HWI := Lib.hid hwi
  clear hwi
  go_wp2_with fail
  clear c0 c1 c2 c3 c4 t0 t1
  refine HWI.out.mono ?_
  rintro ev w7 ⟨rfl, b7⟩
  replace HY := Lib.hid (HY.out.below b7 HY.out.lt)
  replace HQ := Lib.hid (HQ.out.below b7 HQ.out.lt)
  replace HO := Lib.hid (own_below HO.out b7)
  replace HD := Lib.hid (HD.out.below b7)
  replace HB := Lib.hid (HB.out.trans (b7.mono HZ.out))
  replace HZ := Lib.hid (Nat.le_trans HZ.out b7.size)
  clear b7 HWI
  obtain ⟨y8, k8, b8⟩ := box_five (L := g) HY.out (by decide) HI.out.1 HB.out HI.out.1 (.slice y.ba (withD S.1 (k : Int) b).1.length y.bc) (.slice y.wa (withD S.1 (k : Int) b).2.length y.wc) (.slice sa 256 sc) (.int .u32 (S.2.2.1 : Int)) (.int .u32 (S.2.2.2 : Int))
  have q8 := far5_bl HQ.out HI.out.2.2.2.2.1 (.slice y.ba (withD S.1 (k : Int) b).1.length y.bc) (.slice y.wa (withD S.1 (k : Int) b).2.length y.wc) (.slice sa 256 sc) (.int .u32 (S.2.2.1 : Int)) (.int .u32 (S.2.2.2 : Int))
  have m0 := stZ0 HY.out
  have m1 := stZ1 HY.out
  have m2 := stZ2 HY.out
  have m3 := stZ3 HY.out
  have m4 := stZ4 HY.out
  have hfy := fun i => HY.out.frozen i
  obtain ⟨w8, hw8⟩ : ∃ w8, set5 w7 g1 (.slice y.ba (withD S.1 (k : Int) b).1.length y.bc) (.slice y.wa (withD S.1 (k : Int) b).2.length y.wc) (.slice sa 256 sc) (.int .u32 (S.2.2.1 : Int)) (.int .u32 (S.2.2.2 : Int)) = w8 := ⟨_, rfl⟩
  rw [hw8] at y8 k8 b8 q8
  have H8 := Lib.hid (newS_of (B'' := w.heap.size) HD.out HO.out (show (S.2.1.set k 1).length = 256 by rw [List.length_set]; exact HLE.out) (k8.more (Nat.zero_le _)) (k8.more (Nat.zero_le _)) (by rw [HG.out]; exact HZ1.out) (by rw [HG.out, HI.out.2.2.2.2.2.2]; omega) S.2.2.1 S.2.2.2)
  have HY8 := Lib.hid y8
  have HQ8 := Lib.hid q8
  have HB8 := Lib.hid b8
  simp only [set5] at hw8
  clear y8 k8 b8 q8
  go_wp2_with fail
  clear m0 m1 m2 m3 m4 hfy hw8
  have e0 := bx0 HY8.out
  have e1 := bx1 HY8.out
  have e2 := bx2 HY8.out
  have e3 := bx3 HY8.out
  have e4 := bx4 HY8.out
  have f0 := bx0 HQ8.out
  have f1 := bx1 HQ8.out
  have f2 := bx2 HQ8.out
  have f3 := bx3 HQ8.out
  have f4 := bx4 HQ8.out
  refine bodyPost_ret (v := .tuple #[.agg #[.slice y.ba (withD S.1 (k : Int) b).1.length y.bc, .slice y.wa (withD S.1 (k : Int) b).2.length y.wc, .slice sa 256 sc, .int .u32 (S.2.2.1 : Int), .int .u32 (S.2.2.2 : Int)], .agg #[.int .i64 (k : Int), .int .u32 (birth : Int), .int .u32 (iv : Int), .int .u32 (tag : Int), .int .u32 (sb : Int)], .int .i64 0]) (by simp [results, Tryz.f59, go_sem, e0, e1, e2, e3, e4, f0, f1, f2, f3, f4]) rfl ?_
  refine ⟨⟨y, sa, sc⟩, ?_, H8.out.1, H8.out.2, by rw [HG.out]; exact HB8.out⟩
  simp only [putR, stV, ptV]
  rw [show (S.2.1.set k 1).length = 256 by rw [List.length_set]; exact HLE.out, HSB.out]
  rfl
end Go.Proofs.YtadffkfalclpjaaGreatDoor
/-
  Store's own: Lay, Raw, Seal; what they answer is new memory, and nothing that was there is written.
-/
namespace Go.Proofs.YtadffkfalclpjaaGreatDoor
open Go.RowKit Go.Shelf
set_option maxRecDepth 100000

theorem Piece.keeps {L : Nat} {w w' : World} {B : Nat} {A : Option Addr} {l : Nat} (h : Piece w B A l) (k : Keeps L w w') : Piece w' B A l := h.imp id fun ⟨b, off, cs, e, hB, hb, hc⟩ => ⟨b, off, cs, e, hB, k.row _ _ _ hb (by decide), hc⟩
theorem Piece.lower {w : World} {B B' : Nat} {A : Option Addr} {l : Nat} (h : Piece w B A l) (hB : B' ≤ B) : Piece w B' A l := h.imp id fun ⟨b, off, cs, e, h1, hb, hc⟩ => ⟨b, off, cs, e, Nat.le_trans hB h1, hb, hc⟩
theorem Rows9.keeps {K : Nat} {w w' : World} {B : Nat} {a : Option Addr} {n : Nat} {t : TypeId} {st at_ : Nat} {L : Nat → Nat} (h : Rows9 w B a n t st at_ L) (ht : rowT t = true) (k : Keeps K w w') : Rows9 w' B a n t st at_ L :=
  h.imp id fun ⟨b, off, cs, e, hb, hc⟩ => ⟨b, off, cs, e, k.row _ _ _ hb ht, fun i hi => by
    obtain ⟨A, c, h1, h2⟩ := hc i hi
    exact ⟨A, c, h1, h2.keeps k⟩⟩
theorem Rows9.lower {w : World} {B B' : Nat} {a : Option Addr} {n : Nat} {t : TypeId} {st at_ : Nat} {L : Nat → Nat} (h : Rows9 w B a n t st at_ L) (hB : B' ≤ B) : Rows9 w B' a n t st at_ L :=
  h.imp id fun ⟨b, off, cs, e, hb, hc⟩ => ⟨b, off, cs, e, hb, fun i hi => by
    obtain ⟨A, c, h1, h2⟩ := hc i hi
    exact ⟨A, c, h1, h2.lower hB⟩⟩
theorem HiS.keeps {K B : Nat} {w w' : World} {x : SAt} {S : StL} (h : HiS w B x S) (k : Keeps K w w') : HiS w' B x S := ⟨h.1.keeps (by decide) k, h.2.1.keeps (by decide) k, h.2.2.keeps k⟩
theorem HiS.lower {B B' : Nat} {w : World} {x : SAt} {S : StL} (h : HiS w B x S) (hB : B' ≤ B) : HiS w B' x S := ⟨h.1.lower hB, h.2.1.lower hB, h.2.2.lower hB⟩
theorem stLaid_any (L : Nat) (x : SAt) (S : StL) (birth iv tag : Nat) (a : Option Addr) (c : Nat) (b : List UInt8) (sl : Value) (w : World) (h : StP L w x S) (hb : Bsl w w.heap.size a b.length c b) (hsl : BySl w sl iv tag) (hm : MayS S) (hbl : b.length = 256) :
    Calls Tryz.prog 59 #[stV x S, .int .u32 birth, .slice a b.length c, sl] w (NewSP (putR (putS S birth iv tag b)) w) := by
  rcases first_from (fun i => mkT S.2.1 i = 0) 0 256 with ⟨k, _, hk, hz, h0⟩ | h0
  · rcases Nat.lt_or_ge S.1.2.length 4096 with hw | hw
    · exact stLaid_ok L x S birth iv tag a c b sl w h hb hsl hm hbl k hk hz (fun i hi => h0 i (Nat.zero_le _) hi) hw
    · exact stLaid_great L x S birth iv tag a c b sl w h hb hsl hm hbl k hk hz (fun i hi => h0 i (Nat.zero_le _) hi) hw
  · exact stLaid_full L x S birth iv tag a c b sl w h hb hsl hm hbl (fun i hi => h0 i (Nat.zero_le _) hi)
theorem rawO_wrong {S : StL} {birth iv tag z : Nat} {b : List UInt8} (h : wrongO S birth b.length = z) (hz : z ≠ 0) : rawO S birth iv tag b = (st0, p0, z) := by
  unfold wrongO at h
  unfold rawO
  split at h
  · rw [if_pos (by assumption)]
    split at h
    · rw [if_pos (by assumption)]
      split at h
      · exact absurd h.symm hz
      · rw [if_neg (by assumption), ← h]
    · rw [if_neg (by assumption), ← h]
  · rw [if_neg (by assumption), ← h]
theorem wrongO_no {S : StL} {birth n : Nat} (h : wrongO S birth n = 0) : MayS S ∧ (1 ≤ birth ∧ birth ≤ 16777215) ∧ n = 256 := by
  unfold wrongO at h
  split at h
  · split at h
    · split at h
      · exact ⟨by assumption, by assumption, by assumption⟩
      · cases h
    · cases h
  · cases h
theorem rawO_right {S : StL} {birth iv tag : Nat} {b : List UInt8} (h : wrongO S birth b.length = 0) : rawO S birth iv tag b = putR (putS S birth iv tag b) := by
  obtain ⟨h1, h2, h3⟩ := wrongO_no h
  unfold rawO
  rw [if_pos h1, if_pos h2, if_pos h3]
set_option maxHeartbeats 4000000 in
theorem stLay_any (L : Nat) (x : SAt) (S : StL) (birth : Nat) (a : Option Addr) (c : Nat) (b : List UInt8) (w : World) (h : StP L w x S) (hb : Bsl w w.heap.size a b.length c b) (_ho : OkS S) (hL : L ≤ w.heap.size) (_hbi : birth < 4294967296) : Calls Tryz.prog 29 #[stV x S, .int .u32 birth, .slice a b.length c] w (NewSP (rawO S birth 0 0 b) w) := by
  obtain ⟨o, ho'⟩ : ∃ o, rawO S birth 0 0 b = o := ⟨_, rfl⟩
  obtain ⟨w0, hw0, b0, z0, x0, y0, q0⟩ := three_al w (stC x S) stZ ptZ 38 38 28
  obtain ⟨g, hg⟩ : ∃ g, w.heap.size = g := ⟨_, rfl⟩
  obtain ⟨g1, hg1⟩ : ∃ g1, g + 1 = g1 := ⟨_, rfl⟩
  obtain ⟨g2, hg2⟩ : ∃ g2, g1 + 1 = g2 := ⟨_, rfl⟩
  have h0 := h.bel b0
  have hb0 := hb.step b0
  have _ := hL
  rw [hg] at x0 y0 q0 z0 b0
  rw [hg1] at y0
  rw [show g + 2 = g1 + 1 by omega, hg2] at q0
  have HI := Lib.hid (show g ≤ g1 ∧ g ≤ g2 ∧ g1 ≠ g ∧ g2 ≠ g ∧ g2 ≠ g1 ∧ g1 ≠ g2 ∧ w0.heap.size = g + 3 by omega)
  have c0 := stC0 x0
  have c1 := stC1 x0
  have c2 := stC2 x0
  have c3 := stC3 x0
  have c4 := stC4 x0
  have HX := Lib.hid x0
  have HY := Lib.hid y0
  have HQ := Lib.hid q0
  have HB := Lib.hid b0
  have HS := Lib.hid h0
  have HA := Lib.hid hb0
  have HG := Lib.hid hg
  have HZ := Lib.hid (show g ≤ w0.heap.size by omega)
  have HOO := Lib.hid ho'
  rw [ho']
  obtain ⟨z, hz⟩ : ∃ z, wrongO S birth b.length = z := ⟨_, rfl⟩
  have HZZ := Lib.hid hz
  have HWR := Lib.hid (stWrong_any L x S birth a b.length c w0 h0 z hz)
  simp only [stC, stZ, ptZ] at hw0
  clear h hb h0 hb0 x0 y0 q0 b0 z0 ho' hz hL
  by_cases hz0 : z = 0
  · subst hz0
    have hoo := HOO.out
    rw [rawO_right HZZ.out] at hoo
    obtain ⟨hms, hbr, hbl⟩ := wrongO_no HZZ.out
    have HMS := Lib.hid hms
    have HBL := Lib.hid hbl
    have HO := Lib.hid hoo
    clear hoo hms hbr hbl
    have e1 : (((0 : Nat) : Int) != 0) = false := rfl
    go_enter Tryz.func29, Tryz.ntmps29
    go_wp2_with fail
    clear c0 c1 c2 c3 c4 hw0
    refine HWR.out.mono ?_
    rintro e w1 ⟨rfl, b1⟩
    replace HX := Lib.hid (HX.out.below b1 HX.out.lt)
    replace HY := Lib.hid (HY.out.below b1 HY.out.lt)
    replace HQ := Lib.hid (HQ.out.below b1 HQ.out.lt)
    replace HS := Lib.hid (HS.out.bel b1)
    replace HA := Lib.hid (HA.out.step b1)
    replace HB := Lib.hid (HB.out.trans (b1.mono HZ.out))
    replace HZ := Lib.hid (Nat.le_trans HZ.out b1.size)
    have c0 := stC0 HX.out
    have c1 := stC1 HX.out
    have c2 := stC2 HX.out
    have c3 := stC3 HX.out
    have c4 := stC4 HX.out
    have hld := stLaid_any L x S birth 0 0 a c b (.slice none 0 0) w1 HS.out HA.out (.inl ⟨rfl, rfl, rfl⟩) HMS.out HBL.out
    rw [HO.out] at hld
    have HLD := Lib.hid hld
    clear hld b1 HWR
    go_wp2_with fail
    clear c0 c1 c2 c3 c4
    obtain ⟨T, ⟨pa, pb, pi, pt, ps⟩, ze⟩ := o
    simp only [stV] at HLD
    refine HLD.out.mono ?_
    rintro ev w9 ⟨y, rfl, ht, hh, b9⟩
    replace HY := Lib.hid (HY.out.below b9 HY.out.lt)
    replace HQ := Lib.hid (HQ.out.below b9 HQ.out.lt)
    replace HB := Lib.hid (HB.out.trans (b9.mono HZ.out))
    have HT := Lib.hid ht
    have HH := Lib.hid (hh.lower (Nat.le_refl _))
    clear ht hh b9 HLD
    obtain ⟨ya, ka, ba⟩ := box_five (L := g) HY.out (by decide) HI.out.1 HB.out HI.out.1 (.slice y.d.ba T.1.1.length y.d.bc) (.slice y.d.wa T.1.2.length y.d.wc) (.slice y.a T.2.1.length y.c) (.int .u32 (T.2.2.1 : Int)) (.int .u32 (T.2.2.2 : Int))
    have qa := far5_bl HQ.out HI.out.2.2.2.2.1 (.slice y.d.ba T.1.1.length y.d.bc) (.slice y.d.wa T.1.2.length y.d.wc) (.slice y.a T.2.1.length y.c) (.int .u32 (T.2.2.1 : Int)) (.int .u32 (T.2.2.2 : Int))
    have m0 := stZ0 HY.out
    have m1 := stZ1 HY.out
    have m2 := stZ2 HY.out
    have m3 := stZ3 HY.out
    have m4 := stZ4 HY.out
    have hfy := fun i => HY.out.frozen i
    obtain ⟨wa, hwa⟩ : ∃ wa, set5 w9 g1 (.slice y.d.ba T.1.1.length y.d.bc) (.slice y.d.wa T.1.2.length y.d.wc) (.slice y.a T.2.1.length y.c) (.int .u32 (T.2.2.1 : Int)) (.int .u32 (T.2.2.2 : Int)) = wa := ⟨_, rfl⟩
    rw [hwa] at ya ka ba qa
    obtain ⟨qb, kb, bb⟩ := box_five (L := g) qa (by decide) HI.out.2.1 ba HI.out.2.1 (.int .i64 pa) (.int .u32 (pb : Int)) (.int .u32 (pi : Int)) (.int .u32 (pt : Int)) (.int .u32 (ps : Int))
    have yb := far5_bl ya HI.out.2.2.2.2.2.1 (.int .i64 pa) (.int .u32 (pb : Int)) (.int .u32 (pi : Int)) (.int .u32 (pt : Int)) (.int .u32 (ps : Int))
    have n0 := ptZ0 qa
    have n1 := ptZ1 qa
    have n2 := ptZ2 qa
    have n3 := ptZ3 qa
    have n4 := ptZ4 qa
    have hfq := fun i => qa.frozen i
    obtain ⟨wb, hwb⟩ : ∃ wb, set5 wa g2 (.int .i64 pa) (.int .u32 (pb : Int)) (.int .u32 (pi : Int)) (.int .u32 (pt : Int)) (.int .u32 (ps : Int)) = wb := ⟨_, rfl⟩
    rw [hwb] at qb kb bb yb
    have HKK := Lib.hid (ka.trans kb)
    have HBF := Lib.hid bb
    have HYF := Lib.hid yb
    have HQF := Lib.hid qb
    simp only [set5] at hwa hwb
    clear ya ka ba qa qb kb bb yb
    go_wp2_with fail
    clear m0 m1 m2 m3 m4 n0 n1 n2 n3 n4 hfy hfq hwa hwb
    have e0 := bx0 HYF.out
    have e1 := bx1 HYF.out
    have e2 := bx2 HYF.out
    have e3 := bx3 HYF.out
    have e4 := bx4 HYF.out
    have f0 := bx0 HQF.out
    have f1 := bx1 HQF.out
    have f2 := bx2 HQF.out
    have f3 := bx3 HQF.out
    have f4 := bx4 HQF.out
    refine bodyPost_ret (v := .tuple #[.agg #[.slice y.d.ba T.1.1.length y.d.bc, .slice y.d.wa T.1.2.length y.d.wc, .slice y.a T.2.1.length y.c, .int .u32 (T.2.2.1 : Int), .int .u32 (T.2.2.2 : Int)], .agg #[.int .i64 pa, .int .u32 (pb : Int), .int .u32 (pi : Int), .int .u32 (pt : Int), .int .u32 (ps : Int)], .int .i64 ze]) (by simp [results, Tryz.f29, go_sem, e0, e1, e2, e3, e4, f0, f1, f2, f3, f4]) rfl ?_
    exact ⟨y, rfl, HT.out.step (HKK.out.more (Nat.zero_le _)), (HH.out.keeps HKK.out).lower (by rw [HG.out]; exact HZ.out), by rw [HG.out]; exact HBF.out⟩
  · have hoo := HOO.out
    rw [rawO_wrong HZZ.out hz0] at hoo
    subst hoo
    have e1 : ((z : Int) != 0) = true := by simp; omega
    have e2 : ¬ ((z : Int) = 0) := by omega
    clear hz0
    go_enter Tryz.func29, Tryz.ntmps29
    go_wp2_with fail
    clear c0 c1 c2 c3 c4 hw0
    refine HWR.out.mono ?_
    rintro e w1 ⟨rfl, b1⟩
    replace HX := Lib.hid (HX.out.below b1 HX.out.lt)
    replace HY := Lib.hid (HY.out.below b1 HY.out.lt)
    replace HQ := Lib.hid (HQ.out.below b1 HQ.out.lt)
    replace HS := Lib.hid (HS.out.bel b1)
    replace HA := Lib.hid (HA.out.step b1)
    replace HB := Lib.hid (HB.out.trans (b1.mono HZ.out))
    replace HZ := Lib.hid (Nat.le_trans HZ.out b1.size)
    clear b1
    have m0 := stZ0 HY.out
    have m1 := stZ1 HY.out
    have m2 := stZ2 HY.out
    have m3 := stZ3 HY.out
    have m4 := stZ4 HY.out
    have n0 := ptZ0 HQ.out
    have n1 := ptZ1 HQ.out
    have n2 := ptZ2 HQ.out
    have n3 := ptZ3 HQ.out
    have n4 := ptZ4 HQ.out
    go_wp2_with fail
    refine bodyPost_ret (v := .tuple #[.agg #[.slice none 0 0, .slice none 0 0, .slice none 0 0, .int .u32 0, .int .u32 0], .agg #[.int .i64 0, .int .u32 0, .int .u32 0, .int .u32 0, .int .u32 0], .int .i64 z]) (by simp [results, Tryz.f29, go_sem, m0, m1, m2, m3, m4, n0, n1, n2, n3, n4]) rfl ?_
    exact newSP_zero z (by rw [HG.out]; exact HB.out)
end Go.Proofs.YtadffkfalclpjaaGreatDoor
/-
  dead's own closure in Lay: one row more is laid, or nothing is done.
-/
namespace Go.Proofs.YtadffkfalclpjaaGreatDoor
open Go Go.RowKit Go.Shelf
set_option maxRecDepth 100000

/-- Of the blocks below N only those of X have turned. -/
structure Fz (N : Nat) (X : Nat → Prop) (w w' : World) : Prop where
  os : w'.os = w.os
  tape : w'.tape = w.tape
  output : w'.output = w.output
  size : w.heap.size ≤ w'.heap.size
  same : ∀ k, k < N → ¬ X k → w'.heap[k]? = w.heap[k]?
section
variable {N : Nat} {X : Nat → Prop} {w w' w2 : World}
theorem Fz.trans (h : Fz N X w w') (k : Fz N X w' w2) : Fz N X w w2 :=
  ⟨k.os.trans h.os, k.tape.trans h.tape, k.output.trans h.output, Nat.le_trans h.size k.size, fun i hi hx => (k.same i hi hx).trans (h.same i hi hx)⟩
theorem Fz.of_below {B : Nat} (h : Below B w w') (hN : N ≤ B) : Fz N X w w' := ⟨h.os, h.tape, h.output, h.size, fun k hk _ => h.block k (by omega)⟩
theorem Fz.of_grown {row : Option Nat} (h : w.grownBy w' row) (hN : N ≤ w.heap.size) (hr : ∀ k, row = some k → X k ∨ N ≤ k) : Fz N X w w' :=
  ⟨h.os, h.tape, h.output, h.size, fun k hk hx => h.block k (by omega) fun e => (hr k e.symm).elim hx (by omega)⟩
theorem Fz.below {G : Nat} (h : Fz N X w w') (hG : G ≤ N) (hX : ∀ k, X k → G ≤ k) : Below G w w' :=
  ⟨h.os, h.tape, h.output, h.size, fun k hk => h.same k (by omega) fun hx => by have := hX k hx; omega⟩
theorem Fz.blk {g : Nat} {t : TypeId} {cs : Array Value} (h : Fz N X w w') (hb : Blk w g t cs) (hg : g < N) (hx : ¬ X g) : Blk w' g t cs := (h.same g hg hx).trans hb
theorem Fz.own {B n sz : Nat} {e : TypeId} {v : Value} {xs : List Value} (h : Fz N X w w') (hv : w.ownsRow B e sz v n xs) (hN : w.heap.size ≤ N) (hx : ∀ k, v.ownBlock = some k → ¬ X k) : w'.ownsRow B e sz v n xs := by
  obtain ⟨h1, h2 | ⟨g, cap, cur, rfl, h3, h4, h5⟩⟩ := hv
  · exact ⟨h1, .inl h2⟩
  · exact ⟨h1, .inr ⟨g, cap, cur, rfl, h3, (h.same g (Nat.lt_of_lt_of_le (Array.getElem?_eq_some_iff.1 h4).1 hN) (hx g (by simp [Value.ownBlock]))).trans h4, h5⟩⟩
end
theorem blk_ne {w : World} {a b : Nat} {s t : TypeId} {ca cb : Array Value} (ha : Blk w a s ca) (hb : Blk w b t cb) (h : s ≠ t) : a ≠ b := fun e => by
  subst e
  unfold Blk at ha hb
  rw [ha] at hb
  injection hb with hb
  injection hb with _ hb
  exact h hb
theorem own_ty {w : World} {B n sz g : Nat} {e t : TypeId} {v : Value} {xs : List Value} {cs : Array Value} (hv : w.ownsRow B e sz v n xs) (hb : Blk w g t cs) (h : e ≠ t) : ∀ k, v.ownBlock = some k → k ≠ g := fun k hk => by
  obtain ⟨_, ⟨rfl, _⟩ | ⟨g', cap, cur, rfl, _, h4, _⟩⟩ := hv
  · simp [Value.ownBlock] at hk
  · have : g' = k := by simpa [Value.ownBlock] using hk
    subst this
    exact blk_ne h4 hb h
/-- Rows that a store's bytes lie in. -/
def rowB (t : TypeId) : Bool := t == 5 || t == 36 || t == 96
/-- Each of them stays. -/
structure Kp (w w' : World) : Prop where
  size : w.heap.size ≤ w'.heap.size
  row : ∀ b t cs, Blk w b t cs → rowB t = true → Blk w' b t cs
theorem rowB_rowT {t : TypeId} (h : rowB t = true) : rowT t = true := by
  unfold rowB at h
  unfold rowT
  rw [h]
  rfl
theorem Kp.of_keeps {L : Nat} {w w' : World} (k : Keeps L w w') : Kp w w' := ⟨k.size, fun b t cs h ht => k.row b t cs h (rowB_rowT ht)⟩
theorem Kp.trans {a b c : World} (h : Kp a b) (k : Kp b c) : Kp a c := ⟨Nat.le_trans h.size k.size, fun i t cs hb ht => k.row i t cs (h.row i t cs hb ht) ht⟩
theorem Kp.of_box {w w' : World} {g : Nat} {t : TypeId} {cs : Array Value} (hg : w.grownBy w' (some g)) (hb : Blk w g t cs) (ht : rowB t = false) : Kp w w' :=
  ⟨hg.size, fun b t' cs' hb' ht' => hb'.grown hg (fun e => by
    obtain rfl : b = g := Option.some.inj e
    have he : some (Obj.cells cs t (0, 0)) = some (Obj.cells cs' t' (0, 0)) := (show w.heap[b]? = _ from hb).symm.trans (show w.heap[b]? = _ from hb')
    cases he
    rw [ht] at ht'
    cases ht')⟩
theorem Kp.of_own {w w' : World} {B n sz : Nat} {e : TypeId} {u : Value} {xs : List Value} (hu : w.ownsRow B e sz u n xs) (hg : w.grownBy w' u.ownBlock) (he : rowB e = false) : Kp w w' := by
  obtain ⟨_, ⟨rfl, _⟩ | ⟨g, cap, cur, rfl, h3, h4, _⟩⟩ := hu
  · exact ⟨hg.size, fun b t cs hb _ => hb.grown hg (by simp [Value.ownBlock])⟩
  · exact Kp.of_box hg h4 he
theorem Piece.kp {w w' : World} {B : Nat} {A : Option Addr} {l : Nat} (h : Piece w B A l) (k : Kp w w') : Piece w' B A l := h.imp id fun ⟨b, off, cs, e, hB, hb, hc⟩ => ⟨b, off, cs, e, hB, k.row _ _ _ hb (by decide), hc⟩
theorem Rows9.kp {w w' : World} {B : Nat} {a : Option Addr} {n : Nat} {t : TypeId} {st at_ : Nat} {L : Nat → Nat} (h : Rows9 w B a n t st at_ L) (ht : rowB t = true) (k : Kp w w') : Rows9 w' B a n t st at_ L :=
  h.imp id fun ⟨b, off, cs, e, hb, hc⟩ => ⟨b, off, cs, e, k.row _ _ _ hb ht, fun i hi => by
    obtain ⟨A, c, h1, h2⟩ := hc i hi
    exact ⟨A, c, h1, h2.kp k⟩⟩
theorem Bsl.kp {w w' : World} {B B' : Nat} {A : Option Addr} {n c : Nat} {s : List UInt8} (h : Bsl w B A n c s) (hp : Piece w B' A n) (k : Kp w w') : Bsl w' w'.heap.size A n c s := by
  obtain ⟨h1, h2, h3, h4, h5⟩ := h
  refine ⟨h1, h2, h3, h4, fun hl => ?_⟩
  obtain ⟨b, off, e, _, hc⟩ := h5 hl
  rcases hp with hp | ⟨b', off', cs, e', _, hb, _⟩
  · omega
  · rw [e] at e'
    cases e'
    have hk := k.row _ _ _ hb (by decide)
    refine ⟨b, off, e, hk.lt, fun i hi => ?_⟩
    rw [hk.cell, ← hb.cell]
    exact hc i hi
theorem str_kp {w w' : World} {B : Nat} {x : SAt} {S : StL} (h : Str w w.heap.size x S) (hi : HiS w B x S) (k : Kp w w') : Str w' w'.heap.size x S ∧ HiS w' B x S := by
  obtain ⟨⟨⟨a1, a2, a3, a4⟩, ⟨b1, b2, b3, b4⟩⟩, hb⟩ := h
  obtain ⟨i1, i2, i3⟩ := hi
  refine ⟨⟨⟨⟨a1, a2, a3, fun hl => ?_⟩, ⟨b1, b2, b3, fun hl => ?_⟩⟩, hb.kp i3 k⟩, i1.kp (by decide) k, i2.kp (by decide) k, i3.kp k⟩
  · obtain ⟨b, off, e, _, hc⟩ := a4 hl
    rcases i1 with i1 | ⟨b', off', cs, e', hbk, hcs⟩
    · omega
    · rw [e] at e'
      cases e'
      have hk := k.row _ _ _ hbk (by decide)
      refine ⟨b, off, e, hk.lt, fun i hi => ?_⟩
      obtain ⟨A, c, h1, h2⟩ := hc i hi
      obtain ⟨A', c', h3, h4⟩ := hcs i hi
      rw [Nat.mul_one, Nat.add_zero, ← hbk.cell, h1] at h3
      cases h3
      exact ⟨A, c, by rw [hk.cell, ← hbk.cell]; exact h1, h2.kp h4 k⟩
  · obtain ⟨b, off, e, _, hc⟩ := b4 hl
    rcases i2 with i2 | ⟨b', off', cs, e', hbk, hcs⟩
    · omega
    · rw [e] at e'
      cases e'
      have hk := k.row _ _ _ hbk (by decide)
      refine ⟨b, off, e, hk.lt, fun i hi => ?_⟩
      obtain ⟨h0, h5, A, c, h1, h2⟩ := hc i hi
      obtain ⟨A', c', h3, h4⟩ := hcs i hi
      rw [← hbk.cell, h1] at h3
      cases h3
      exact ⟨h0, by rw [hk.cell, ← hbk.cell]; exact h5, A, c, by rw [hk.cell, ← hbk.cell]; exact h1, h2.kp h4 k⟩
theorem stP_hi {w : World} {B : Nat} {x : SAt} {S : StL} (h : Str w w.heap.size x S) (hi : HiS w B x S) : StP 0 w x S := fun _ k => (str_kp h hi (Kp.of_keeps k)).1
theorem row_ok {R : List Pt} (h16 : R.length ≤ 16) (hR : ∀ q ∈ R, MayP q) : rowO R = (rowTo R R.length, 0) := by
  unfold rowO
  rw [if_neg (by omega), if_pos hR]
theorem ddLay1_no (a : Option Addr) (n c : Nat) (ge go gb gw : Nat) (z : Int) (hz : z ≠ 0) (W : World) (he : Blk W ge 23 #[.int .i64 z]) : Calls Tryz.prog 27 #[.slice a n c, .pointer (some ⟨ge, 0, none⟩), .pointer (some ⟨go, 0, none⟩), .pointer (some ⟨gb, 0, none⟩), .pointer (some ⟨gw, 0, none⟩)] W fun e W' => e = .returned (ptV p0) ∧ Below W.heap.size W W' := by
  have x6 := Blk.new W 28 ptZ
  have b6 := (Below.refl W.heap.size W).alloc (Nat.le_refl _) (.cells ptZ 28)
  have he' := he.alloc (.cells ptZ 28)
  have q := he'.cell 0
  have z1 : (z != 0) = true := by simpa using hz
  have e0 := ptZ0 x6
  have e1 := ptZ1 x6
  have e2 := ptZ2 x6
  have e3 := ptZ3 x6
  have e4 := ptZ4 x6
  have HB := Lib.hid b6
  clear hz he he' b6 x6
  go_enter Tryz.func27, Tryz.ntmps27
  go_wp2_with fail
  refine bodyPost_ret (v := ptV p0) (by simp [results, Tryz.f27, go_sem, e0, e1, e2, e3, e4]) rfl ⟨rfl, HB.out⟩
set_option linter.unusedSimpArgs false in
set_option maxHeartbeats 8000000 in
theorem ddLay1_ok (L B : Nat) (y : SAt) (T : StL) (b : Nat) (u : Value) (own : List Nat) (a : Option Addr) (n c : Nat) (R : List Pt) (ge go gb gw : Nat) (W : World)
    (he : Blk W ge 23 #[.int .i64 0]) (ho : Blk W go 38 (stC y T)) (hb : Blk W gb 26 #[.int .u32 (b : Int)]) (hw : Blk W gw 39 #[u])
    (hT : StP L W y T) (hm : MayS T) (hbi : b < 4294967296) (hu : W.ownsRow B 3 1 u own.length (valsN own)) (hol : own.length ≤ 1000) (hr : Pts W W.heap.size a n c R) (hn : n ≤ 16) (hR : ∀ q ∈ R, MayP q) (hz : Szs W)
    (hL : L ≤ ge ∧ L ≤ go ∧ L ≤ gw ∧ L ≤ B) (hB : B ≤ W.heap.size) (hta : 0 ≤ (rawO T b 0 0 (rowTo R R.length)).2.1.1) :
    Calls Tryz.prog 27 #[.slice a n c, .pointer (some ⟨ge, 0, none⟩), .pointer (some ⟨go, 0, none⟩), .pointer (some ⟨gb, 0, none⟩), .pointer (some ⟨gw, 0, none⟩)] W fun e W' => ∃ y' u', e = .returned (ptV (rawO T b 0 0 (rowTo R R.length)).2.1) ∧ Blk W' ge 23 #[.int .i64 ((rawO T b 0 0 (rowTo R R.length)).2.2 : Int)] ∧ Blk W' go 38 (stC y' (rawO T b 0 0 (rowTo R R.length)).1) ∧ Blk W' gw 39 #[u'] ∧
      StP 0 W' y' (rawO T b 0 0 (rowTo R R.length)).1 ∧ HiS W' W.heap.size y' (rawO T b 0 0 (rowTo R R.length)).1 ∧ W'.ownsRow B 3 1 u' (own.length + 1) (valsN (own ++ [(rawO T b 0 0 (rowTo R R.length)).2.1.1.toNat])) ∧
      Fz W.heap.size (fun k => k = ge ∨ k = go ∨ k = gw ∨ u.ownBlock = some k) W W' := by
  have hlt1 := he.lt
  have hlt2 := ho.lt
  have hlt3 := hw.lt
  have hLW : L ≤ W.heap.size := Nat.le_trans hL.2.2.2 hB
  have x6 := Blk.new W 28 ptZ
  have b6 := (Below.refl W.heap.size W).alloc (Nat.le_refl _) (.cells ptZ 28)
  obtain ⟨g6, hg6⟩ : ∃ g, W.heap.size = g := ⟨_, rfl⟩
  obtain ⟨w0, hw0⟩ : ∃ X, W.alloc (.cells ptZ 28) = X := ⟨_, rfl⟩
  rw [hw0] at x6 b6
  have hrw := Row_any a n c R w0 (hr.step b6) (hz.step b6)
  rw [row_ok (by rw [hr.1]; exact hn) hR] at hrw
  have hlen : (rowTo R R.length).length = 256 := rowTo_length R _ (Nat.le_refl _) (by rw [hr.1]; exact hn)
  obtain ⟨bl, hbl⟩ : ∃ X, rowTo R R.length = X := ⟨_, rfl⟩
  rw [hbl] at hrw hlen hta ⊢
  obtain ⟨⟨T', ⟨ta, tb, ti, tt, ts⟩, e'⟩, hro⟩ : ∃ o, rawO T b 0 0 bl = o := ⟨_, rfl⟩
  rw [hro] at hta ⊢
  have HRO := Lib.hid hro
  clear hro hbl
  have HE := Lib.hid (he.below b6 hlt1)
  have HO := Lib.hid (ho.below b6 hlt2)
  have HBI := Lib.hid (hb.below b6 hb.lt)
  have HW := Lib.hid (hw.below b6 hlt3)
  have HT := Lib.hid (hT.bel b6)
  have HU := Lib.hid (own_below hu b6)
  have HX6 := Lib.hid (hg6 ▸ x6)
  have HF := Lib.hid (Fz.of_below (X := fun k => k = ge ∨ k = go ∨ k = gw ∨ u.ownBlock = some k) b6 (Nat.le_refl _))
  have HSZ := Lib.hid (show W.heap.size ≤ w0.heap.size from b6.size)
  have HL := Lib.hid hL
  have HBB := Lib.hid (Nat.le_trans hB b6.size)
  have HNE := Lib.hid (show ge ≠ go ∧ ge ≠ gw ∧ go ≠ gw from ⟨blk_ne he ho (by decide), blk_ne he hw (by decide), blk_ne ho hw (by decide)⟩)
  have HN6 := Lib.hid (show ge ≠ g6 ∧ go ≠ g6 ∧ gw ≠ g6 from ⟨by omega, by omega, by omega⟩)
  have HUN := Lib.hid (show ∀ k, u.ownBlock = some k → k ≠ ge ∧ k ≠ go ∧ k ≠ gw ∧ k ≠ g6 from fun k hk => ⟨own_ty hu he (by decide) k hk, own_ty hu ho (by decide) k hk, own_ty hu hw (by decide) k hk, by have := (hu.lt k hk).2; omega⟩)
  have HLT := Lib.hid (show ge < W.heap.size ∧ go < W.heap.size ∧ gw < W.heap.size from ⟨hlt1, hlt2, hlt3⟩)
  have HRW := Lib.hid hrw
  have HM := Lib.hid hm
  have HBT := Lib.hid hbi
  have HTA := Lib.hid hta
  have HOL := Lib.hid hol
  have HLW := Lib.hid (Nat.le_trans hLW b6.size)
  clear he ho hb hw hT hu hr hz hL hB hlt1 hlt2 hlt3 hLW x6 b6 hrw hm hbi hR hn hta hol
  have q := HE.out.cell 0
  go_enter Tryz.func27, Tryz.ntmps27
  go_wp2_with fail
  try rw [hw0]
  try rw [hg6]
  clear hw0 q
  refine HRW.out.mono ?_
  rintro ev w1 ⟨v1, rfl, o1, b1⟩
  rw [hlen] at o1
  obtain ⟨av, cv, rfl⟩ := own_slice o1
  rw [← hlen] at o1
  have hsl := own_bsl o1
  replace HE := Lib.hid (HE.out.below b1 HE.out.lt)
  replace HO := Lib.hid (HO.out.below b1 HO.out.lt)
  replace HBI := Lib.hid (HBI.out.below b1 HBI.out.lt)
  replace HW := Lib.hid (HW.out.below b1 HW.out.lt)
  replace HX6 := Lib.hid (HX6.out.below b1 HX6.out.lt)
  replace HT := Lib.hid (HT.out.bel b1)
  replace HU := Lib.hid (own_below HU.out b1)
  replace HF := Lib.hid (HF.out.trans (Fz.of_below b1 HSZ.out))
  replace HSZ := Lib.hid (Nat.le_trans HSZ.out b1.size)
  replace HBB := Lib.hid (Nat.le_trans HBB.out b1.size)
  replace HLW := Lib.hid (Nat.le_trans HLW.out b1.size)
  have hly := stLay_any L y T b av cv bl w1 HT.out hsl HM.out.ok HLW.out HBT.out
  rw [HRO.out, hlen] at hly
  have HLY := Lib.hid hly
  clear o1 b1 hsl hly HRW
  have d0 := bx0 HO.out
  have d1 := bx1 HO.out
  have d2 := bx2 HO.out
  have d3 := bx3 HO.out
  have d4 := bx4 HO.out
  have q := HBI.out.cell 0
  go_wp2_with fail
  clear d0 d1 d2 d3 d4 q
  refine HLY.out.mono ?_
  rintro ev w2 ⟨y', rfl, st2, hi2, b2⟩
  simp only at st2 hi2
  have HTA' : Hid (0 ≤ ta) := HTA
  have hE := HE.out.below b2 HE.out.lt
  have hO := HO.out.below b2 HO.out.lt
  have hW := HW.out.below b2 HW.out.lt
  have h6 := HX6.out.below b2 HX6.out.lt
  have hU := own_below HU.out b2
  have hF := HF.out.trans (Fz.of_below b2 HSZ.out)
  have hS := Nat.le_trans HSZ.out b2.size
  have HI := Lib.hid (hi2.lower HSZ.out)
  -- the store
  have d0 := bx0 hO
  have d1 := bx1 hO
  have d2 := bx2 hO
  have d3 := bx3 hO
  have d4 := bx4 hO
  have df := fun i => hO.frozen i
  obtain ⟨xa, ka, _⟩ := box_five (L := 0) hO (by decide) (Nat.zero_le _) (Below.refl 0 w2) (Nat.zero_le _) (.slice y'.d.ba T'.1.1.length y'.d.bc) (.slice y'.d.wa T'.1.2.length y'.d.wc) (.slice y'.a T'.2.1.length y'.c) (.int .u32 (T'.2.2.1 : Int)) (.int .u32 (T'.2.2.2 : Int))
  have ga := only_set5 (World.grownBy.refl w2 (some go)) (.slice y'.d.ba T'.1.1.length y'.d.bc) (.slice y'.d.wa T'.1.2.length y'.d.wc) (.slice y'.a T'.2.1.length y'.c) (.int .u32 (T'.2.2.1 : Int)) (.int .u32 (T'.2.2.2 : Int))
  have yE := far5_bl hE HNE.out.1 (.slice y'.d.ba T'.1.1.length y'.d.bc) (.slice y'.d.wa T'.1.2.length y'.d.wc) (.slice y'.a T'.2.1.length y'.c) (.int .u32 (T'.2.2.1 : Int)) (.int .u32 (T'.2.2.2 : Int))
  have yW := far5_bl hW (Ne.symm HNE.out.2.2) (.slice y'.d.ba T'.1.1.length y'.d.bc) (.slice y'.d.wa T'.1.2.length y'.d.wc) (.slice y'.a T'.2.1.length y'.c) (.int .u32 (T'.2.2.1 : Int)) (.int .u32 (T'.2.2.2 : Int))
  have y6 := far5_bl h6 (Ne.symm HN6.out.2.1) (.slice y'.d.ba T'.1.1.length y'.d.bc) (.slice y'.d.wa T'.1.2.length y'.d.wc) (.slice y'.a T'.2.1.length y'.c) (.int .u32 (T'.2.2.1 : Int)) (.int .u32 (T'.2.2.2 : Int))
  obtain ⟨x1, dn⟩ : ∃ X, set5 w2 go (.slice y'.d.ba T'.1.1.length y'.d.bc) (.slice y'.d.wa T'.1.2.length y'.d.wc) (.slice y'.a T'.2.1.length y'.c) (.int .u32 (T'.2.2.1 : Int)) (.int .u32 (T'.2.2.2 : Int)) = X := ⟨_, rfl⟩
  rw [dn] at xa ka ga yE yW y6
  simp only [set5] at dn
  have hU1 := own_other hU ga fun k hk => (HUN.out k hk).2.1
  have hF1 := hF.trans (Fz.of_grown ga hS fun k hk => .inl (by injection hk with hk; exact .inr (.inl hk.symm)))
  have hS1 := Nat.le_trans hS ga.size
  have st3 := st2.step ka
  have hi3 := HI.out.keeps ka
  -- the pointer
  have p0_ := ptZ0 y6
  have p1_ := ptZ1 y6
  have p2_ := ptZ2 y6
  have p3_ := ptZ3 y6
  have p4_ := ptZ4 y6
  have pf := fun i => y6.frozen i
  obtain ⟨xb, kb, _⟩ := box_five (L := 0) y6 (by decide) (Nat.zero_le _) (Below.refl 0 x1) (Nat.zero_le _) (.int .i64 ta) (.int .u32 (tb : Int)) (.int .u32 (ti : Int)) (.int .u32 (tt : Int)) (.int .u32 (ts : Int))
  have gb' := only_set5 (World.grownBy.refl x1 (some g6)) (.int .i64 ta) (.int .u32 (tb : Int)) (.int .u32 (ti : Int)) (.int .u32 (tt : Int)) (.int .u32 (ts : Int))
  have zE := far5_bl yE HN6.out.1 (.int .i64 ta) (.int .u32 (tb : Int)) (.int .u32 (ti : Int)) (.int .u32 (tt : Int)) (.int .u32 (ts : Int))
  have zW := far5_bl yW HN6.out.2.2 (.int .i64 ta) (.int .u32 (tb : Int)) (.int .u32 (ti : Int)) (.int .u32 (tt : Int)) (.int .u32 (ts : Int))
  have zO := far5_bl xa HN6.out.2.1 (.int .i64 ta) (.int .u32 (tb : Int)) (.int .u32 (ti : Int)) (.int .u32 (tt : Int)) (.int .u32 (ts : Int))
  obtain ⟨x2, pn⟩ : ∃ X, set5 x1 g6 (.int .i64 ta) (.int .u32 (tb : Int)) (.int .u32 (ti : Int)) (.int .u32 (tt : Int)) (.int .u32 (ts : Int)) = X := ⟨_, rfl⟩
  rw [pn] at xb kb gb' zE zW zO
  simp only [set5] at pn
  have hU2 := own_other hU1 gb' fun k hk => (HUN.out k hk).2.2.2
  have hF2 := hF1.trans (Fz.of_grown gb' hS1 fun k hk => .inr (by injection hk with hk; omega))
  have hS2 := Nat.le_trans hS1 gb'.size
  have st4 := st3.step kb
  have hi4 := hi3.keeps kb
  -- the error
  have r0 := zE.cell 0
  have rf := zE.frozen 0
  have xc := zE.set_ 0 (.int .i64 (e' : Int))
  have gc := only_setCell (p := ⟨ge, 0, none⟩) (World.grownBy.refl x2 (some ge)) (.inl rfl) (.int .i64 (e' : Int))
  have kc : Keeps 0 x2 (x2.setCell ⟨ge, 0, none⟩ (.int .i64 (e' : Int))) := Keeps.of_box gc zE (by decide) (Nat.zero_le _)
  have vO := zO.far (p := ⟨ge, 0, none⟩) (Ne.symm HNE.out.1) (.int .i64 (e' : Int))
  have vW := zW.far (p := ⟨ge, 0, none⟩) (Ne.symm HNE.out.2.1) (.int .i64 (e' : Int))
  have v6 := xb.far (p := ⟨ge, 0, none⟩) (Ne.symm HN6.out.1) (.int .i64 (e' : Int))
  obtain ⟨x3, rn⟩ : ∃ X, x2.setCell ⟨ge, 0, none⟩ (.int .i64 (e' : Int)) = X := ⟨_, rfl⟩
  rw [rn] at xc gc kc vO vW v6
  have hU3 := own_other hU2 gc fun k hk => (HUN.out k hk).1
  have hF3 := hF2.trans (Fz.of_grown gc hS2 fun k hk => .inl (by injection hk with hk; exact .inl hk.symm))
  have hS3 := Nat.le_trans hS2 gc.size
  have st5 := st4.step kc
  have hi5 := hi4.keeps kc
  have s0 := vW.cell 0
  have t0 := v6.cell 0
  have hbb := (Below.refl x3.heap.size x3).alloc (Nat.le_refl _) (.cells #[.int .i64 ta] 3)
  have hnat : ((ta.toNat : Nat) : Int) = ta := by have := HTA'.out; omega
  have hon := one_nsl x3 ta.toNat
  rw [hnat] at hon
  obtain ⟨x4, hx4⟩ : ∃ X, x3.alloc (.cells #[.int .i64 ta] 3) = X := ⟨_, rfl⟩
  obtain ⟨g7, hg7⟩ : ∃ X, x3.heap.size = X := ⟨_, rfl⟩
  rw [hx4] at hbb hon
  rw [hg7] at hon
  have HON := Lib.hid hon
  have HU4 := Lib.hid (own_below hU3 hbb)
  have HC4 := Lib.hid (xc.below hbb xc.lt)
  have HO4 := Lib.hid (vO.below hbb vO.lt)
  have HW4 := Lib.hid (vW.below hbb vW.lt)
  have H64 := Lib.hid (v6.below hbb v6.lt)
  have HF4 := Lib.hid (hF3.trans (Fz.of_below hbb hS3))
  have HS4 := Lib.hid (Nat.le_trans hS3 hbb.size)
  have HT4 := Lib.hid (st5.bel hbb)
  have HI4 := Lib.hid (hi5.keeps (Keeps.of_below (L := 0) hbb))
  have HB4 := Lib.hid (show B ≤ x4.heap.size from Nat.le_trans HBB.out (Nat.le_trans b2.size (Nat.le_trans ga.size (Nat.le_trans gb'.size (Nat.le_trans gc.size hbb.size)))))
  have HLN := Lib.hid (show own.length + 1 ≤ 100000 by have := HOL.out; omega)
  clear hE hO hW h6 hU hF hS st2 hi2 b2 xa ka ga yE yW y6 hU1 hF1 hS1 st3 hi3 xb kb gb' zE zW zO hU2 hF2 hS2 st4 hi4 xc gc kc vO vW v6 hU3 hF3 hS3 st5 hi5 hbb hon hnat
  go_wp2_with (
    at_builtin
    try rw [hx4]
    refine wpList_append_nsl rfl (.tmp 24) (.tmp 27) rfl B u own.length own rfl HU4.out _ _ 1 1 [ta.toNat] rfl HON.out HLN.out HB4.out ?_
    intro v5 w5 hp5 hg5
    have w5W := HW4.out.grown hg5 (fun e => (HUN.out _ e.symm).2.2.1 rfl)
    have a0 := w5W.cell 0
    have af := w5W.frozen 0
    have HP5 := Lib.hid hp5
    have HG5 := Lib.hid hg5
    have HW5 := Lib.hid w5W
    obtain ⟨a5, c5, rfl⟩ := nrow_slice hp5
    clear hp5 hg5 w5W)
  clear d0 d1 d2 d3 d4 df dn p0_ p1_ p2_ p3_ p4_ pf pn r0 rf rn s0 t0 a0 af hx4 hg7
  have gw6 := only_setCell (p := ⟨gw, 0, none⟩) (World.grownBy.refl w5 (some gw)) (.inl rfl) (.slice a5 (own.length + 1) c5)
  have kp6 : Kp x4 (w5.setCell ⟨gw, 0, none⟩ (.slice a5 (own.length + 1) c5)) := (Kp.of_own HU4.out HG5.out (by decide)).trans (Kp.of_box gw6 HW5.out (by decide))
  obtain ⟨hs6, hi6⟩ := str_kp HT4.out.now HI4.out kp6
  have x5E := (HC4.out.grown HG5.out (fun e => (HUN.out _ e.symm).1 rfl)).far (p := ⟨gw, 0, none⟩) HNE.out.2.1 (.slice a5 (own.length + 1) c5)
  have x5O := (HO4.out.grown HG5.out (fun e => (HUN.out _ e.symm).2.1 rfl)).far (p := ⟨gw, 0, none⟩) HNE.out.2.2 (.slice a5 (own.length + 1) c5)
  have x56 := (H64.out.grown HG5.out (fun e => (HUN.out _ e.symm).2.2.2 rfl)).far (p := ⟨gw, 0, none⟩) (Ne.symm HN6.out.2.2) (.slice a5 (own.length + 1) c5)
  have x5W := HW5.out.set_ 0 (.slice a5 (own.length + 1) c5)
  have hf6 := (HF4.out.trans (Fz.of_grown HG5.out HS4.out fun k hk => .inl (.inr (.inr (.inr hk))))).trans (Fz.of_grown gw6 (Nat.le_trans HS4.out HG5.out.size) fun k hk => .inl (by injection hk with hk; exact .inr (.inr (.inl hk.symm))))
  have hp6 := own_other HP5.out gw6 (own_ty HP5.out HW5.out (by decide))
  obtain ⟨w6, hw6⟩ : ∃ X, w5.setCell ⟨gw, 0, none⟩ (.slice a5 (own.length + 1) c5) = X := ⟨_, rfl⟩
  rw [hw6] at kp6 hs6 hi6 x5E x5O x56 x5W hf6 hp6
  try rw [hw6]
  have e0 := bx0 x56
  have e1 := bx1 x56
  have e2 := bx2 x56
  have e3 := bx3 x56
  have e4 := bx4 x56
  refine bodyPost_ret (v := ptV (ta, tb, ti, tt, ts)) (by simp [results, Tryz.f27, go_sem, e0, e1, e2, e3, e4]) rfl ?_
  exact ⟨y', _, rfl, x5E, x5O, x5W, stP_hi hs6 hi6, hi6, hp6, hf6⟩
end Go.Proofs.YtadffkfalclpjaaGreatDoor
/-
  slices.SortFunc over pointers, as dead.Join calls it: the row holds the same pointers, and their blocks do not fall.
-/
namespace Go.Proofs.YtadffkfalclpjaaGreatDoor
open Go.RowKit Go.Shelf
set_option maxRecDepth 100000

def dSort_ren : Go.Shelf.Ren := ⟨fun | 6 => 48 | 15 => 78 | 14 => 77 | 28 => 111 | 29 => 112 | 20 => 103 | 21 => 104 | 22 => 105 | 23 => 106 | 24 => 107 | 25 => 108 | 26 => 109 | 27 => 110 | 46 => 132 | 47 => 133 | 48 => 134 | 49 => 135 | 50 => 136 | 57 => 159 | n => n, fun | 22 => 22 | 24 => 28 | 25 => 86 | 3 => 3 | 39 => 112 | 0 => 0 | 53 => 26 | 55 => 148 | 4 => 4 | 46 => 140 | 45 => 139 | 50 => 144 | 5 => 5 | 9 => 9 | 66 => 171 | 70 => 175 | 76 => 198 | 77 => 199 | n => n, fun | n => n⟩
theorem dSort_lays : Go.Proofs.SlLaysF0.n6 Tryz.prog dSort_ren := {
  mixed := by kernel_rfl
  f6 := ⟨Tryz.f48.name, by decide, Tryz.func48.trans (congrArg some (by kernel_rfl))⟩
  f14 := ⟨Tryz.f77.name, by decide, Tryz.func77.trans (congrArg some (by kernel_rfl))⟩
  f15 := Tryz.func78.trans (congrArg some (by kernel_rfl))
  f20 := ⟨Tryz.f103.name, by decide, Tryz.func103.trans (congrArg some (by kernel_rfl))⟩
  f21 := ⟨Tryz.f104.name, by decide, Tryz.func104.trans (congrArg some (by kernel_rfl))⟩
  f22 := ⟨Tryz.f105.name, by decide, Tryz.func105.trans (congrArg some (by kernel_rfl))⟩
  f23 := ⟨Tryz.f106.name, by decide, Tryz.func106.trans (congrArg some (by kernel_rfl))⟩
  f24 := ⟨Tryz.f107.name, by decide, Tryz.func107.trans (congrArg some (by kernel_rfl))⟩
  f25 := ⟨Tryz.f108.name, by decide, Tryz.func108.trans (congrArg some (by kernel_rfl))⟩
  f26 := ⟨Tryz.f109.name, by decide, Tryz.func109.trans (congrArg some (by kernel_rfl))⟩
  f27 := ⟨Tryz.f110.name, by decide, Tryz.func110.trans (congrArg some (by kernel_rfl))⟩
  f28 := Tryz.func111.trans (congrArg some (by kernel_rfl))
  f29 := Tryz.func112.trans (congrArg some (by kernel_rfl))
  f46 := ⟨Tryz.f132.name, by decide, Tryz.func132.trans (congrArg some (by kernel_rfl))⟩
  f47 := Tryz.func133.trans (congrArg some (by kernel_rfl))
  f48 := Tryz.func134.trans (congrArg some (by kernel_rfl))
  f49 := ⟨Tryz.f135.name, by decide, Tryz.func135.trans (congrArg some (by kernel_rfl))⟩
  f50 := ⟨Tryz.f136.name, by decide, Tryz.func136.trans (congrArg some (by kernel_rfl))⟩
  f57 := ⟨Tryz.f159.name, by decide, Tryz.func159.trans (congrArg some (by kernel_rfl))⟩
  t0 := Tryz.underlying0
  a0 := Tryz.isAgg0
  z0 := Tryz.sizeOf0
  v0 := Tryz.zeroValue0
  t3 := Tryz.underlying3
  a3 := Tryz.isAgg3
  z3 := Tryz.sizeOf3
  v3 := Tryz.zeroValue3
  t4 := Tryz.underlying4
  a4 := Tryz.isAgg4
  z4 := Tryz.sizeOf4
  v4 := Tryz.zeroValue4
  t5 := Tryz.underlying5
  a5 := Tryz.isAgg5
  z5 := Tryz.sizeOf5
  v5 := Tryz.zeroValue5
  t9 := Tryz.underlying9
  a9 := Tryz.isAgg9
  z9 := Tryz.sizeOf9
  v9 := Tryz.zeroValue9
  t22 := Tryz.underlying22
  a22 := Tryz.isAgg22
  z22 := Tryz.sizeOf22
  v22 := Tryz.zeroValue22
  t25 := Tryz.underlying86
  a25 := Tryz.isAgg86
  z25 := Tryz.sizeOf86
  v25 := Tryz.zeroValue86
  t39 := Tryz.underlying112
  a39 := Tryz.isAgg112
  z39 := Tryz.sizeOf112
  v39 := Tryz.zeroValue112
  t45 := Tryz.underlying139
  a45 := Tryz.isAgg139
  z45 := Tryz.sizeOf139
  v45 := Tryz.zeroValue139
  t46 := Tryz.underlying140
  a46 := Tryz.isAgg140
  z46 := Tryz.sizeOf140
  v46 := Tryz.zeroValue140
  t50 := Tryz.underlying144
  a50 := Tryz.isAgg144
  z50 := Tryz.sizeOf144
  v50 := Tryz.zeroValue144
  t53 := Tryz.underlying26
  a53 := Tryz.isAgg26
  z53 := Tryz.sizeOf26
  v53 := Tryz.zeroValue26
  t55 := Tryz.underlying148
  a55 := Tryz.isAgg148
  z55 := Tryz.sizeOf148
  v55 := Tryz.zeroValue148
  t66 := Tryz.underlying171
  a66 := Tryz.isAgg171
  z66 := Tryz.sizeOf171
  v66 := Tryz.zeroValue171
  t70 := Tryz.underlying175
  a70 := Tryz.isAgg175
  z70 := Tryz.sizeOf175
  v70 := Tryz.zeroValue175
  t76 := Tryz.underlying198
  a76 := Tryz.isAgg198
  z76 := Tryz.sizeOf198
  v76 := Tryz.zeroValue198
  t77 := Tryz.underlying199
  a77 := Tryz.isAgg199
  z77 := Tryz.sizeOf199
  v77 := Tryz.zeroValue199 }
theorem dNaN_any (x : Int) (w : World) : Calls Tryz.prog 79 #[.int .i64 x] w fun e w' => e = .returned (.bool false) ∧ w = w' := by
  go_enter Tryz.func79, Tryz.ntmps79
  go_wp2_with fail
  go_ret
  exact ⟨by simp, rfl⟩
theorem dCmp_any (x y : Int) (w : World) : Calls Tryz.prog 50 #[.int .i64 x, .int .i64 y] w fun e w' => e = .returned (.int .i64 (Lib.compareInt x y)) ∧ w = w' := by
  have h1 := dNaN_any x
  have h2 := dNaN_any y
  rw [Lib.compareInt]
  by_cases h : x < y
  · rw [if_pos h]
    go_enter Tryz.func50, Tryz.ntmps50
    go_wp2_with (first
      | (go_at_call 79; refine (h1 _).mono ?_; rintro ev w1 ⟨rfl, rfl⟩; clear h1)
      | (go_at_call 79; refine (h2 _).mono ?_; rintro ev w1 ⟨rfl, rfl⟩))
    go_ret
    exact ⟨rfl, rfl⟩
  · rw [if_neg h]
    by_cases h' : x > y
    · rw [if_pos h']
      go_enter Tryz.func50, Tryz.ntmps50
      go_wp2_with (first
        | (go_at_call 79; refine (h1 _).mono ?_; rintro ev w1 ⟨rfl, rfl⟩; clear h1)
        | (go_at_call 79; refine (h2 _).mono ?_; rintro ev w1 ⟨rfl, rfl⟩))
      go_ret
      exact ⟨rfl, rfl⟩
    · rw [if_neg h']
      go_enter Tryz.func50, Tryz.ntmps50
      go_wp2_with (first
        | (go_at_call 79; refine (h1 _).mono ?_; rintro ev w1 ⟨rfl, rfl⟩; clear h1)
        | (go_at_call 79; refine (h2 _).mono ?_; rintro ev w1 ⟨rfl, rfl⟩))
      go_ret
      exact ⟨rfl, rfl⟩
/-- What the closure answers. -/
def ddCmp (l m : Pt) : Int := Lib.compareInt l.1 m.1
theorem dClosure (l m : Pt) (w : World) : Calls Tryz.prog 49 #[.agg (ptC l).toArray, .agg (ptC m).toArray] w fun e w' => e = .returned (.int .i64 (ddCmp l m)) ∧ ∃ q os', w' = Sort.grow (w.drewN q) os' := by
  have hc := fun W => dCmp_any l.1 m.1 W
  unfold ddCmp
  obtain ⟨r, hr⟩ : ∃ r, Lib.compareInt l.1 m.1 = r := ⟨_, rfl⟩
  rw [hr] at hc ⊢
  clear hr
  simp only [ptC]
  go_enter Tryz.func49, Tryz.ntmps49
  go_wp2_with (go_at_call 50; refine (hc _).mono ?_; rintro ev w1 ⟨rfl, rfl⟩)
  go_ret
  exact ⟨rfl, 0, _, by rw [Sort.alloc_eq_grow, Sort.alloc_eq_grow, Sort.grow_grow]; rfl⟩
theorem ddCmp_lt (l m : Pt) : Go.Proofs.ltOf ddCmp l m = decide (l.1 < m.1) := by
  unfold Go.Proofs.ltOf ddCmp Lib.compareInt
  by_cases h1 : l.1 < m.1
  · rw [if_pos h1]; simp; omega
  · rw [if_neg h1]
    by_cases h2 : l.1 > m.1
    · rw [if_pos h2]; simp; omega
    · rw [if_neg h2]; simp; omega
theorem ddCmp_swo : Sort.SWO (Go.Proofs.ltOf ddCmp) :=
  ⟨fun x => by rw [ddCmp_lt]; simp, fun x y z => by rw [ddCmp_lt, ddCmp_lt, ddCmp_lt]; simp; omega, fun x y z => by rw [ddCmp_lt, ddCmp_lt, ddCmp_lt]; simp; omega⟩
/-- The cells of pointers, flat. -/
theorem flat_ptCs (L : List Pt) : Go.Sort.flatK ptC 5 L.toArray = (ptCs L).toArray := by
  apply Array.ext
  · simp [ptCs_length]
  · intro t h1 h2
    have h1' : t < L.length * 5 := by simpa using h1
    have hi : t / 5 < L.length := by omega
    have hg := Go.Sort.get_flatK ptC 5 L.toArray t (by simpa using h1')
    rw [getElem!_pos _ t h1] at hg
    rw [hg]
    have e1 : L.toArray[t / 5]! = L[t / 5] := by rw [getElem!_pos _ _ (by simpa using hi)]; simp
    rw [e1]
    have hl : (ptC L[t / 5]).length = 5 := rfl
    have hj : t % 5 < (ptC L[t / 5]).length := by rw [hl]; omega
    have hx := ptCs_get L (t / 5) hi (t % 5) ((ptC L[t / 5])[t % 5]) (List.getElem?_eq_getElem hj)
    have e2 : t / 5 * 5 + t % 5 = t := by omega
    rw [e2] at hx
    rw [getElem!_pos (ptC L[t / 5]) (t % 5) hj, List.getElem_toArray]
    have h2' : t < (ptCs L).length := by simpa using h2
    rw [List.getElem?_eq_getElem h2'] at hx
    exact (Option.some.inj hx).symm
theorem ddRow_holds {w : World} {base g cap : Nat} {L : List Pt} (h : PRow w base (.slice (some ⟨g, 0, none⟩) L.length cap) L) : Go.Sort.HoldsK ptC 5 w g 0 L.toArray := by
  obtain ⟨⟨hl, ⟨h2, _⟩ | ⟨g', cap', cur, h2, hb, h3, h4, h5, h6, h7⟩⟩, hw⟩ := h
  · cases h2
  · cases h2
    intro j hj
    rw [flat_ptCs] at hj ⊢
    have hj' : j < (ptCs L).length := by simpa using hj
    have hs : j < L.length * 5 := by rw [← ptCs_length]; exact hj'
    refine ⟨?_, ?_⟩
    · rw [Nat.zero_add, cell_of_row w g j cur 28 (0, 0) h3, getElem!_pos _ j hj]
      have e : cur.toList[j]? = (ptCs L)[j]? := by rw [← h7, List.getElem?_take_of_lt hs]
      rw [← Array.getElem?_toList, e, List.getElem?_eq_getElem hj']
      simp
    · exact Blk.frozen (show Blk w g 28 cur from h3) _
/-- The row behind the sort. -/
theorem ddRow_sorted {w : World} {base g cap n : Nat} {L L' : List Pt} {os : Array Obj} (h : PRow w base (.slice (some ⟨g, 0, none⟩) L.length cap) L) (hp : L'.Perm L) :
    PRow (sortWorldK ptC 5 w g 0 n L'.toArray os) base (.slice (some ⟨g, 0, none⟩) L.length cap) L' ∧ w.grownBy (sortWorldK ptC 5 w g 0 n L'.toArray os) (some g) := by
  obtain ⟨⟨hl, ⟨h2, _⟩ | ⟨g', cap', cur, h2, hb, h3, h4, h5, h6, h7⟩⟩, hw⟩ := h
  · cases h2
  · cases h2
    have hlt : g < w.heap.size := (Array.getElem?_eq_some_iff.1 h3).1
    have hn : L'.length = L.length := hp.length_eq
    have hF : Go.Sort.flatK ptC 5 L'.toArray = (ptCs L').toArray := flat_ptCs L'
    have hz : (ptCs L').length = L.length * 5 := by rw [ptCs_length, hn]
    have hput : ∀ k, k < w.heap.size → (sortWorldK ptC 5 w g 0 n L'.toArray os).heap[k]? = (w.heap.modify g (Go.Sort.onCells (Go.Sort.putCells id 0 (ptCs L').toArray)))[k]? := fun k hk => by
      unfold sortWorldK
      rw [Go.Sort.heap_grow_old _ _ (by rw [Go.Sort.putRowK, Go.Sort.size_putRow]; exact hk), Go.Sort.putRowK, hF]
      rfl
    have hg : (sortWorldK ptC 5 w g 0 n L'.toArray os).heap[g]? = some (.cells (Go.Sort.putCells id 0 (ptCs L').toArray cur) 28 (0, 0)) := by
      rw [hput g hlt, Array.getElem?_modify, if_pos rfl, h3]
      rfl
    have hsz : (Go.Sort.putCells id 0 (ptCs L').toArray cur).size = cur.size := by simp [Go.Sort.putCells]
    have htk : (Go.Sort.putCells id 0 (ptCs L').toArray cur).toList.take (L.length * 5) = ptCs L' := by
      apply List.ext_getElem?
      intro j
      by_cases hj : j < L.length * 5
      · have hjc : j < cur.size := by rw [h6]; exact Nat.lt_of_lt_of_le hj (Nat.mul_le_mul_right 5 h4)
        rw [List.getElem?_take_of_lt hj, Array.getElem?_toList]
        simp only [Go.Sort.putCells, Array.getElem?_mapIdx, Array.getElem?_eq_getElem hjc, Option.map_some, List.size_toArray]
        rw [if_pos ⟨Nat.zero_le _, by omega⟩, Nat.sub_zero, getElem!_pos _ j (by simpa using (by omega : j < (ptCs L').length)), List.getElem?_eq_getElem (by omega)]
        simp
      · rw [List.getElem?_eq_none (by simp; omega), List.getElem?_eq_none (by omega)]
    refine ⟨⟨⟨by rw [ptCs_length], .inr ⟨g, cap, _, by rw [hn], hb, hg, by omega, h5, by rw [hsz]; exact h6, by rw [hn]; exact htk⟩⟩, fun p hp' => hw p (hp.mem_iff.1 hp')⟩, ?_⟩
    refine ⟨rfl, rfl, rfl, ?_, fun i hi hne => ?_⟩
    · unfold sortWorldK
      rw [Go.Sort.size_grow, Go.Sort.putRowK, Go.Sort.size_putRow]
      exact Nat.le_add_right _ _
    · rw [hput i hi, Array.getElem?_modify, if_neg (fun e => hne (by rw [e]))]
/-- Blocks do not fall. -/
abbrev Weak (L : List Pt) : Prop := L.Pairwise fun p q => p.1 ≤ q.1
/-- The row is sorted. -/
theorem dSort_any (a : Option Addr) (cap : Nat) (L : List Pt) (w : World) (base : Nat) (h : PRow w base (.slice a L.length cap) L) (h4 : L.length ≤ 1000000) :
    Calls Tryz.prog 48 #[.slice a L.length cap, .func (.func 49) #[] #[]] w fun e w' => e = .returned (.tuple #[]) ∧ ∃ L', L'.Perm L ∧ Weak L' ∧ PRow w' base (.slice a L.length cap) L' ∧ w.grownBy w' (Value.ownBlock (.slice a L.length cap)) := by
  by_cases h0 : L.length = 0
  · obtain rfl : L = [] := List.eq_nil_of_length_eq_zero h0
    have hn := AnyF.slices_SortFunc_none dSort_lays a cap (.func (.func 49) #[] #[]) w
    refine hn.mono ?_
    rintro e w' ⟨rfl, rfl⟩
    exact ⟨rfl, [], List.Perm.refl _, List.Pairwise.nil, h, World.grownBy.refl _ _⟩
  · have hr := h
    obtain ⟨⟨hl, ⟨h2, h3⟩ | ⟨g, cap', cur, h2, hb, h3, _⟩⟩, hw⟩ := hr
    · exact absurd h3 h0
    · cases h2
      have hlt : g < w.heap.size := (Array.getElem?_eq_some_iff.1 h3).1
      have eg : ∀ args w, (callFunc 49 args).run Tryz.prog w = .ok (.enter 49 args) w := enters_of Tryz.func49 (by kernel_rfl) rfl
      have hcmp : CmpLays Tryz.prog 49 #[] ptC 5 ddCmp g 0 L.toArray.size w := fun _ _ _ _ x y => dClosure x y _
      have hs := AnyQ.slices_SortFunc dSort_lays 5 Tryz.isAgg28 Tryz.sizeOf28 ptC (fun _ => rfl) (fun x v hv => by
        simp only [ptC, List.mem_cons, List.not_mem_nil, or_false] at hv
        rcases hv with rfl | rfl | rfl | rfl | rfl <;> rfl) ddCmp ddCmp_swo 49 #[] g 0 cap L.toArray w eg hcmp (ddRow_holds h) hlt (by simp; omega)
      have hsz : L.toArray.size = L.length := by simp
      rw [hsz] at hs
      refine hs.mono ?_
      rintro e w' ⟨rfl, d', n, os, hp, hf, rfl⟩
      obtain ⟨p1, _, p3⟩ := hp
      have hd : d'.size = L.length := by rw [p1]; simp
      have e1 : (d'.extract 0 L.length) = d' := by rw [← hd]; simp
      have e2 : (L.toArray.extract 0 L.length) = L.toArray := by simp
      rw [e1, e2] at p3
      have hperm : d'.toList.Perm L := by simpa using p3
      have hweak : Weak d'.toList := by
        refine List.pairwise_iff_getElem.2 fun i j hi hj hij => ?_
        have hi' : i < d'.size := by simpa using hi
        have hj' : j < d'.size := by simpa using hj
        have := hf i j (Nat.zero_le _) hij (by rw [← hd]; exact hj')
        rw [ddCmp_lt, getElem!_pos d' i hi', getElem!_pos d' j hj'] at this
        simp only [decide_eq_false_iff_not] at this
        simp only [Array.getElem_toList]
        omega
      have hrow := ddRow_sorted (n := n) (os := os) h hperm
      rw [Array.toArray_toList] at hrow
      exact ⟨rfl, d'.toList, hperm, hweak, hrow.1, hrow.2⟩
end Go.Proofs.YtadffkfalclpjaaGreatDoor
/-
  slices.Grow of nil, and slices.Concat of slices of pointers: a row of the call's own that holds them all, one behind the other.
-/
namespace Go.Proofs.YtadffkfalclpjaaGreatDoor
open Go.RowKit Go.Shelf
set_option maxRecDepth 100000

set_option maxHeartbeats 1000000 in
theorem pGrow_any (n : Nat) (h0 : 0 < n) (hn : n ≤ 1000000) (w : World) : Calls Tryz.prog 76 #[.slice none 0 0, .int .i64 n] w fun e w' => ∃ v, e = .returned v ∧ PRow w' w.heap.size v [] ∧ Below w.heap.size w w' := by
  obtain ⟨i0, hi, hz0, hz1, hz2⟩ := info_parts infoPt
  have hr : ∀ ty, (Builtin.append_ #[22, 3] ty #[.slice none 0 0, .int .i64 n]).run Tryz.prog w =
      .ok (.slice (some ⟨w.heap.size, 0, none⟩) n (grownCap w n 0 28)) (w.drew.alloc (.cells (Builtin.zeroCells (Value.agg #[.int .i64 0, .int .u32 0, .int .u32 0, .int .u32 0, .int .u32 0]).cells n ++ Builtin.zeroCells (Value.agg #[.int .i64 0, .int .u32 0, .int .u32 0, .int .u32 0, .int .u32 0]).cells (grownCap w n 0 28 - n)) 28)) := fun ty =>
    Lib.run_append_nil_zeros w 22 3 ty 28 i0 (.agg #[.int .i64 0, .int .u32 0, .int .u32 0, .int .u32 0, .int .u32 0]) .i64 .i64 Tryz.underlying22 Tryz.underlying3 hi hz0 n h0 (by omega) (by omega) (by rw [hz2]; omega)
  have hG1 : n ≤ grownCap w n 0 28 := grownCap_ge w _ _ _
  have hG2 : grownCap w n 0 28 ≤ maxLen := grownCap_le_maxLen w n 0 28 (by unfold maxLen; omega)
  obtain ⟨G, hG⟩ : ∃ G, grownCap w n 0 28 = G := ⟨_, rfl⟩
  rw [hG] at hr hG1 hG2
  obtain ⟨cs, hcs⟩ : ∃ cs, Builtin.zeroCells (Value.agg #[.int .i64 0, .int .u32 0, .int .u32 0, .int .u32 0, .int .u32 0]).cells n ++ Builtin.zeroCells (Value.agg #[.int .i64 0, .int .u32 0, .int .u32 0, .int .u32 0, .int .u32 0]).cells (G - n) = cs := ⟨_, rfl⟩
  have hsz : cs.size = G * 5 := by
    rw [← hcs]
    simp [Builtin.zeroCells, Value.cells]
    omega
  rw [hcs] at hr
  have z5 : ∀ w, (Go.sizeOf 28).run Tryz.prog w = .ok 5 w := fun w => by kernel_rfl
  have n1 : ¬ ((n : Int) < 0) := by omega
  have n2 : (0 : Int) < n := by omega
  have n3 : (n : Int) ≤ 1000000 := by omega
  have g0 : (G : Int) ≤ 9223372036854775807 := by unfold maxLen at hG2; omega
  have hown : (w.drew.alloc (.cells cs 28)).ownsRow w.heap.size 28 5 (.slice (some ⟨w.heap.size, 0, none⟩) 0 G) 0 [] :=
    ⟨rfl, .inr ⟨w.heap.size, G, cs, rfl, Nat.le_refl _, by have := heap_alloc_new w.drew (.cells cs 28); simpa using this, Nat.zero_le _, hG2, by omega, by simp⟩⟩
  have hrow : PRow (w.drew.alloc (.cells cs 28)) w.heap.size (.slice (some ⟨w.heap.size, 0, none⟩) 0 G) [] := ⟨hown, fun p hp => by cases hp⟩
  have hbel : Below w.heap.size w (w.drew.alloc (.cells cs 28)) := (Below.refl _ w).drew.alloc (by simp) _
  have HO := Lib.hid hrow; clear hown hrow
  have HB := Lib.hid hbel; clear hbel
  have HG2 := Lib.hid hG2; clear hG2
  clear hG hcs hsz hi hz0 hz1 hz2
  go_enter Tryz.func76, Tryz.ntmps76
  go_wp2_with (at_builtin; refine Lib.wpList_append_run _ rfl _ _ _ _ rfl _ _ rfl rfl _ _ (hr _) ?_)
  go_ret
  exact ⟨_, rfl, HO.out, HB.out⟩

/-- A slice of writes as it is handed in. -/
structure PPart where
  a : Option Addr
  len : Nat
  cap : Nat
  ws : List Pt
def flatPt (ps : List PPart) : List Pt := ps.flatMap (·.ws)
theorem flatPt_take_succ (ps : List PPart) (k : Nat) (h : k < ps.length) : flatPt (ps.take (k + 1)) = flatPt (ps.take k) ++ (ps[k]).ws := by
  unfold flatPt
  rw [List.take_succ_eq_append_getElem h, List.flatMap_append]
  simp
theorem flatPt_take_le (ps : List PPart) (k : Nat) : (flatPt (ps.take k)).length ≤ (flatPt ps).length := by
  have : flatPt ps = flatPt (ps.take k) ++ flatPt (ps.drop k) := by
    unfold flatPt
    rw [← List.flatMap_append, List.take_append_drop]
  rw [this, List.length_append]
  omega
/-- A row of the call's own that holds ws. -/
def POwn (ws : List Pt) (w : World) (e : Ending) (w' : World) : Prop := ∃ v, e = .returned v ∧ PRow w' w.heap.size v ws ∧ Below w.heap.size w w'
end Go.Proofs.YtadffkfalclpjaaGreatDoor
/-
  slices.Concat of slices of pointers, of none at all too: a row of the call's own that holds them all.
-/
namespace Go.Proofs.YtadffkfalclpjaaGreatDoor
open Go.RowKit Go.Shelf
set_option maxRecDepth 100000

theorem pGrow_all (n : Nat) (hn : n ≤ 1000000) (w : World) : Calls Tryz.prog 76 #[.slice none 0 0, .int .i64 n] w fun e w' => ∃ v, e = .returned v ∧ PRow w' w.heap.size v [] ∧ Below w.heap.size w w' := by
  rcases Nat.eq_zero_or_pos n with h0 | h0
  · subst h0
    go_enter Tryz.func76, Tryz.ntmps76
    go_wp2_with fail
    go_ret
    exact ⟨_, rfl, prow_nil _ _, Below.refl _ _⟩
  · exact pGrow_any n h0 hn w
set_option maxHeartbeats 2000000 in
theorem pConcat_all (r c : Nat) (ps : List PPart) (w : World) (hr : r < w.heap.size) (hl : ps.length ≤ 1000)
    (hcell : ∀ i (h : i < ps.length), w.cell? ⟨r, i, none⟩ = some (.slice (ps[i]).a (ps[i]).len (ps[i]).cap)) (hb : ∀ i (h : i < ps.length), Pts w w.heap.size (ps[i]).a (ps[i]).len (ps[i]).cap (ps[i]).ws)
    (hm : (flatPt ps).length ≤ 1000000) :
    Calls Tryz.prog 47 #[.slice (some ⟨r, 0, none⟩) ps.length c] w (POwn (flatPt ps) w) := by
  obtain ⟨n, hn⟩ : ∃ n, ps.length = n := ⟨_, rfl⟩
  have HN := Lib.hid hn
  rw [hn] at hl ⊢
  clear hn
  have n0 : (0 : Int) ≤ n := by omega
  have n1 : (n : Int) ≤ 1000 := by omega
  have HC := Lib.hid hcell; clear hcell
  have HB := Lib.hid hb; clear hb
  have HM := Lib.hid hm; clear hm
  go_enter Tryz.func47, Tryz.ntmps47
  go_wp2_with fail
  go_loop [3, 11] (fun z i => ∃ k : Nat, k ≤ n ∧ i = .int .i64 k ∧ z = .int .i64 ((flatPt (ps.take k)).length : Nat)) (fun _ i => n - (intOf i).toNat)
  case atStart => exact ⟨0, Nat.zero_le _, rfl, rfl⟩
  case round =>
    obtain ⟨k, hk, rfl, rfl⟩ := hrel
    by_cases hlt : k < n
    · have hkp : k < ps.length := by rw [HN.out]; exact hlt
      have hce := HC.out k hkp
      have hbe := (HB.out k hkp).1
      have hsu := flatPt_take_succ ps k hkp
      have hle := flatPt_take_le ps (k + 1)
      rw [hsu, List.length_append, hbe] at hle
      have hsl : (flatPt (ps.take (k + 1))).length = (flatPt (ps.take k)).length + (ps[k]).len := by rw [hsu, List.length_append, hbe]
      obtain ⟨p, hp⟩ : ∃ p, ps[k] = p := ⟨_, rfl⟩
      rw [hp] at hce hle hsl
      obtain ⟨m, hm⟩ : ∃ m, (flatPt (ps.take k)).length = m := ⟨_, rfl⟩
      rw [hm] at hle hsl ⊢
      obtain ⟨pa, pl, pc, pss⟩ := p
      dsimp only at hce hle hsl
      have hmm := HM.out
      have m0 : (0 : Int) ≤ (m : Int) := by omega
      have m1 : (m : Int) + (pl : Int) ≤ 1000000 := by omega
      have m2 : (0 : Int) ≤ (pl : Int) := by omega
      have m3 : ¬ ((m : Int) + (pl : Int) < 0) := by omega
      have k0 : (k : Int) < n := by omega
      have HSL := Lib.hid hsl; clear hsl
      clear hp hm hsu hbe hle hmm
      go_wp2_with fail
      go_round
      case rel => exact ⟨k + 1, by omega, by go_num, by rw [HSL.out]; go_num⟩
      case measure => simp [intOf]; omega
    · obtain rfl : k = n := by omega
      have ht : ps.take k = ps := List.take_of_length_le (by rw [HN.out]; exact Nat.le_refl _)
      rw [ht]
      obtain ⟨m, hm⟩ : ∃ m, (flatPt ps).length = m := ⟨_, rfl⟩
      have gr := pGrow_all m (by rw [← hm]; exact HM.out) w
      rw [hm]
      have GR := Lib.hid gr; clear gr
      clear hm ht
      go_wp2_with fail
      refine GR.out.mono ?_
      rintro e w1 ⟨v, rfl, ho, b1⟩
      have HO := Lib.hid ho; clear ho
      have HB1 := Lib.hid b1; clear b1
      go_wp2_with fail
      go_loopw [6, 27] (fun v i wr => ∃ j : Nat, j ≤ k ∧ i = .int .i64 j ∧ PRow wr w.heap.size v (flatPt (ps.take j)) ∧ Below w.heap.size w wr) (fun _ i _ => k - (intOf i).toNat)
      case atStart => exact ⟨0, Nat.zero_le _, rfl, HO.out, HB1.out⟩
      case round =>
        obtain ⟨j, hj, rfl, ho2, hb2⟩ := hrel
        by_cases hlt2 : j < k
        · have hkp : j < ps.length := by rw [HN.out]; exact hlt2
          have hce := (hb2.cell (p := ⟨r, j, none⟩) hr).trans (HC.out j hkp)
          have hbs := (HB.out j hkp).below hb2
          have hbe := (HB.out j hkp).1
          have hsu := flatPt_take_succ ps j hkp
          have hle := flatPt_take_le ps (j + 1)
          rw [hsu, List.length_append, hbe] at hle
          obtain ⟨p, hp⟩ : ∃ p, ps[j] = p := ⟨_, rfl⟩
          rw [hp] at hce hle hsu hbs hbe
          obtain ⟨t, ht⟩ : ∃ t, flatPt (ps.take j) = t := ⟨_, rfl⟩
          rw [ht] at hle hsu ho2
          obtain ⟨pa, pl, pc, pss⟩ := p
          dsimp only at hce hle hsu hbs hbe
          have hmm := HM.out
          have k0 : (j : Int) < k := by omega
          have hnm : t.length + pl ≤ 1000000 := by omega
          have HSU := Lib.hid hsu; clear hsu
          have HO2 := Lib.hid ho2; clear ho2
          have HB2 := Lib.hid hb2; clear hb2
          have HBS := Lib.hid hbs; clear hbs
          clear hp ht hle hmm hbe
          go_wp2_with (at_builtin; refine wpList_append_prow rfl (.tmp 31) (.tmp 32) rfl w.heap.size u6 t rfl HO2.out w.heap.size pa pl pc pss rfl HBS.out hnm HB2.out.size ?_; intro v' W3 hown' hg')
          have hb3 : Below w.heap.size w W3 := app_below HB2.out HO2.out.1 hg' HB2.out.size
          have HO3 := Lib.hid hown'; clear hown'
          have HB3 := Lib.hid hb3; clear hb3 hg'
          go_wp2_with fail
          go_roundw
          case rel => exact ⟨j + 1, by omega, by go_num, by rw [HSU.out]; exact HO3.out, HB3.out⟩
          case measure => simp [intOf]; omega
        · obtain rfl : j = k := by omega
          have ht : ps.take j = ps := List.take_of_length_le (by rw [HN.out]; exact Nat.le_refl _)
          rw [ht] at ho2
          have HO2 := Lib.hid ho2
          have HB2 := Lib.hid hb2; clear hb2
          clear ho2 ht
          go_wp2_with fail
          go_ret
          exact ⟨_, rfl, HO2.out, HB2.out⟩
/-- Two lists, one behind the other. -/
theorem concatPP (w : World) (a : Option Addr) (la ca : Nat) (s : List Pt) (b : Option Addr) (lb cb : Nat) (t : List Pt) (hA : Pts w w.heap.size a la ca s) (hB : Pts w w.heap.size b lb cb t) (hm : la + lb ≤ 1000000) :
    Calls Tryz.prog 47 #[.slice (some ⟨w.heap.size, 0, none⟩) 2 2] (w.alloc (.cells #[.slice a la ca, .slice b lb cb] 22)) (POwn (s ++ t) (w.alloc (.cells #[.slice a la ca, .slice b lb cb] 22))) := by
  have hb : Below w.heap.size w (w.alloc (.cells #[.slice a la ca, .slice b lb cb] 22)) := (Below.refl _ w).alloc (Nat.le_refl _) _
  have hk := Blk.new w 22 #[.slice a la ca, .slice b lb cb]
  have e : flatPt [⟨a, la, ca, s⟩, ⟨b, lb, cb, t⟩] = s ++ t := by simp [flatPt]
  have el : (flatPt [⟨a, la, ca, s⟩, ⟨b, lb, cb, t⟩]).length = la + lb := by rw [e, List.length_append, hA.1, hB.1]
  have := pConcat_all w.heap.size 2 [⟨a, la, ca, s⟩, ⟨b, lb, cb, t⟩] (w.alloc (.cells #[.slice a la ca, .slice b lb cb] 22)) hk.lt (by simp)
    (fun i h => by
      rw [hk.cell i]
      match i, h with
      | 0, _ => rfl
      | 1, _ => rfl)
    (fun i h => by
      match i, h with
      | 0, _ => exact hA.step hb
      | 1, _ => exact hB.step hb)
    (by rw [el]; exact hm)
  rw [e] at this
  exact this
end Go.Proofs.YtadffkfalclpjaaGreatDoor
