/-
  Texts of one seat, one behind the other.
-/
import Derived.RangeFuncNested
import Derived.Test.YtbggkfomfeeikaaGreatDoorPkST3
/-
  obj.Read, whatever bytes it is handed; nothing that was there is written.
-/
namespace Go.Proofs.YtbggkfomfeeikaaGreatDoor
open Go.RowKit Go.Shelf
set_option maxRecDepth 100000

/-- Where a slice of pointers lies that the call made: in a block of its own. -/
def HiP (w : World) (base : Nat) (a : Option Addr) : Prop := ∀ p, a = some p → base ≤ p.block ∧ ∃ cs, Blk w p.block 32 cs
theorem HiP.none (w : World) (base : Nat) : HiP w base none := fun _ h => (by cases h)
theorem HiP.below {w w' : World} {base : Nat} {a : Option Addr} (h : HiP w base a) (hb : Below w.heap.size w w') : HiP w' base a := fun p e => by
  obtain ⟨h1, cs, h3⟩ := h p e
  exact ⟨h1, cs, h3.below hb h3.lt⟩
theorem HiP.less {w : World} {B B' : Nat} {a : Option Addr} (h : HiP w B a) (hB : B' ≤ B) : HiP w B' a := fun p e => by
  obtain ⟨h1, h2⟩ := h p e
  exact ⟨Nat.le_trans hB h1, h2⟩
/-- An object and an error's number; its pointers are new memory. -/
def OutOp (o : ObL × Nat) (w : World) (e : Ending) (w' : World) : Prop := ∃ a c, e = .returned (.tuple #[.agg #[.int .u8 (o.1.1 : Int), .int .i64 o.1.2.1, .int .i64 o.1.2.2.1, .slice a o.1.2.2.2.length c], .int .i64 o.2]) ∧ Pts w' w'.heap.size a o.1.2.2.2.length c o.1.2.2.2 ∧ HiP w' w.heap.size a ∧ Below w.heap.size w w'
theorem outOp_no (c : Nat) {w w' : World} (hb : Below w.heap.size w w') : OutOp (ob0, c) w (.returned (.tuple #[.agg #[.int .u8 0, .int .i64 0, .int .i64 0, .slice none 0 0], .int .i64 c])) w' := ⟨none, 0, rfl, pts_nil _ _, HiP.none _ _, hb⟩
/-- Two lists of bytes in a row that has just been made. -/
theorem concatB2 (w : World) (a : Option Addr) (la ca : Nat) (s : List UInt8) (b : Option Addr) (lb cb : Nat) (t : List UInt8) (hA : Bsl w w.heap.size a la ca s) (hB : Bsl w w.heap.size b lb cb t) (h0 : 0 < la + lb) (hm : la + lb ≤ 100000) :
    Calls Tryz.prog 83 #[.slice (some ⟨w.heap.size, 0, none⟩) 2 2] (w.alloc (.cells #[.slice a la ca, .slice b lb cb] 27)) (OwnPost (s ++ t) (w.alloc (.cells #[.slice a la ca, .slice b lb cb] 27))) := by
  have hb : Below w.heap.size w (w.alloc (.cells #[.slice a la ca, .slice b lb cb] 27)) := (Below.refl _ w).alloc (Nat.le_refl _) _
  have hk := Blk.new w 27 #[.slice a la ca, .slice b lb cb]
  have e : flat [⟨a, la, ca, s⟩, ⟨b, lb, cb, t⟩] = s ++ t := by simp [flat]
  have el : (flat [⟨a, la, ca, s⟩, ⟨b, lb, cb, t⟩]).length = la + lb := by rw [e, List.length_append, hA.1, hB.1]
  have := concat_own w.heap.size 2 [⟨a, la, ca, s⟩, ⟨b, lb, cb, t⟩] (w.alloc (.cells #[.slice a la ca, .slice b lb cb] 27)) hk.lt (by simp) (by simp)
    (fun i h => by
      rw [hk.cell i]
      match i, h with
      | 0, _ => rfl
      | 1, _ => rfl)
    (fun i h => by
      match i, h with
      | 0, _ => exact hA.step hb
      | 1, _ => exact hB.step hb)
    (by rw [el]; exact h0) (by rw [el]; exact hm)
  rw [e] at this
  exact this
theorem rows_of (b : List UInt8) : rowsL (zs16 ++ b.drop 16) = p0 :: ptsOb b 15 := by
  unfold rowsL ptsOb
  rw [List.range_succ_eq_map, List.map_cons, List.map_map]
  congr 1
  refine List.map_congr_left fun i _ => ?_
  show getP (winP _ (i + 1)) = _
  unfold winP winOb
  rw [List.drop_append, List.drop_of_length_le (by rw [zs16_length]; omega), List.nil_append, zs16_length, List.drop_drop]
  congr 3
theorem rowsO_of (b : List UInt8) (hb : b.length = 256) : rowsO (zs16 ++ b.drop 16) = if ∀ p ∈ ptsOb b 15, MayP p then (p0 :: ptsOb b 15, 0) else ([], 8) := by
  unfold rowsO
  rw [if_pos (by rw [List.length_append, zs16_length, List.length_drop, hb]), rows_of]
  by_cases h : ∀ p ∈ ptsOb b 15, MayP p
  · rw [if_pos h, if_pos]
    intro p hp
    rcases List.mem_cons.1 hp with rfl | hp
    · exact may_p0
    · exact h p hp
  · rw [if_neg h, if_neg]
    exact fun hh => h fun p hp => hh p (List.mem_cons_of_mem _ hp)
theorem prow_tail {w : World} {base : Nat} {v : Value} {p : Pt} {L : List Pt} (h : PRow w base v (p :: L)) : ∃ g c, v = .slice (some ⟨g, 0, none⟩) (L.length + 1) c ∧ base ≤ g ∧ L.length + 1 ≤ c ∧ (∃ cs, Blk w g 32 cs) ∧ Pts w w.heap.size (some ⟨g, 5, none⟩) L.length (c - 1) L := by
  obtain ⟨a, c, e, hp⟩ := h.pts
  obtain ⟨h1, h2, h3, h4, h5⟩ := hp
  obtain ⟨b, off, ea, hlt, hc⟩ := h5 (by simp)
  obtain ⟨⟨hl, ⟨rfl, h0⟩ | ⟨g, cap, cur, rfl, q1, q2, q3, q4, q5, q6⟩⟩, hw⟩ := h
  · simp at h0
  · cases e
    cases ea
    simp only [List.length_cons] at h2 h3
    refine ⟨_, _, rfl, q1, h2, ⟨_, q2⟩, rfl, by omega, by omega, fun e => (by cases e), fun _ => ⟨_, 5, rfl, hlt, fun i hi => ?_⟩⟩
    have := hc (i + 1) (by simpa using hi)
    refine ⟨this.1, fun j u hu => ?_⟩
    have := this.2 j u hu
    rwa [show 0 + (i + 1) * 5 + j = 5 + i * 5 + j by omega] at this
theorem slice_ptr1 (W : World) (g c : Nat) (hc : 16 ≤ c) : (Instr.slice 35 (.slice (some ⟨g, 0, none⟩) 16 c) (some (.int .i64 1)) none none).run Tryz.prog W = .ok (.slice (some ⟨g, 5, none⟩) 15 (c - 1)) W := by
  rw [run_slice_l W 35 _ _ _ (by kernel_rfl) .i64 _ (by omega) (by omega)]
  have hz : (Go.sizeOf (Tryz.prog.elem 35)).run Tryz.prog W = .ok 5 W := by kernel_rfl
  rw [hz]
  simp [Result.andThen, sliced, Addr.add]
  omega
theorem load16_run (W : World) (g : Nat) (s : List UInt8) (hb : Blk W g 82 (ar s)) (hs : s.length = 16) : (loadVar 82 ⟨g, 0, none⟩).run Tryz.prog W = .ok (.agg (ar s)) W :=
  run_loadVar_row W g 82 82 (ar s) (0, 0) _ hb Tryz.underlying82 rfl (by rw [infoA16, ar_size, hs])
theorem exec_load16 {ev : Operand → Value} {o : Oper} {x : Operand} {X : World} {g : Nat} {s : List UInt8} (ho : o.op = .load 82 x) (hx : ev x = .pointer (some ⟨g, 0, none⟩)) (hb : Blk X g 82 (ar s)) (hs : s.length = 16) : (execOp ev o).run Tryz.prog X = .ok (.value (.agg (ar s))) X := by
  unfold execOp
  simp only [ho, hx, Instr.loadAt, Instr.sureAddr, Sem.run_bind, Sem.run_pure, Result.andThen_ok, load16_run X g s hb hs]
theorem hd_take (b : List UInt8) (h : b.length = 256) : hdO (b.take 16) = ((b.getD 0 0).toNat, (b.getD 1 0).toNat, (b.getD 2 0).toNat + 256 * (b.getD 3 0).toNat) := by
  match b, h with
  | x0 :: x1 :: x2 :: x3 :: r, _ =>
    show (x0.toNat, x1.toNat, leN [x2, x3]) = _
    simp [leN]
theorem bytes_win (b : List UInt8) (h : b.length = 256) : dataTo (ptsOb b 15) 15 = b.drop 16 := by
  have e : ∀ k, k ≤ 15 → (List.range k).flatMap (fun i => bytesP ((ptsOb b 15).getD i p0)) = (b.drop 16).take (16 * k) := by
    intro k
    induction k with
    | zero => intro _; simp
    | succ k ih =>
      intro hk
      rw [List.range_succ, List.flatMap_append, ih (by omega)]
      have hg : (ptsOb b 15).getD k p0 = getP (winOb b k) := by
        unfold ptsOb
        rw [List.getD_eq_getElem?_getD, List.getElem?_map, List.getElem?_range (by omega)]
        rfl
      simp only [List.flatMap_cons, List.flatMap_nil, List.append_nil, hg]
      rw [bytesP_getP (by unfold winOb; rw [List.length_take, List.length_drop]; omega)]
      unfold winOb
      rw [← List.drop_drop]
      rw [show 16 * (k + 1) = 16 * k + 16 by omega, List.take_add]
  have := e 15 (Nat.le_refl _)
  rw [List.take_of_length_le (by rw [List.length_drop]; omega)] at this
  exact this
theorem Pts.same {w w' : World} {g off len cap B B' : Nat} {L : List Pt} {t : TypeId} {cs : Array Value} (h : Pts w B (some ⟨g, off, none⟩) len cap L) (h1 : Blk w g t cs) (h2 : Blk w' g t cs) (hB : g < B') : Pts w' B' (some ⟨g, off, none⟩) len cap L := by
  obtain ⟨q1, q2, q3, q4, q5⟩ := h
  refine ⟨q1, q2, q3, q4, fun hl => ?_⟩
  obtain ⟨b, o, e, _, hc⟩ := q5 hl
  cases e
  exact ⟨_, _, rfl, hB, fun i hi => ⟨(hc i hi).1, fun j u hu => ((h2.cell _).trans (h1.cell _).symm).trans ((hc i hi).2 j u hu)⟩⟩
theorem Pts.at_blk {w : World} {g off len cap : Nat} {f : _} {L : List Pt} {B g7 : Nat} (h : Pts w B (some ⟨g, off, f⟩) len cap L) (hg : g < g7) : True ∧ ∀ {w' : World} {B' : Nat}, Below g7 w w' → g < B' → Pts w' B' (some ⟨g, off, f⟩) len cap L :=
  ⟨trivial, fun {w' B'} hb hB => by
    obtain ⟨h1, h2, h3, h4, h5⟩ := h
    refine ⟨h1, h2, h3, h4, fun hl => ?_⟩
    obtain ⟨b, o, e, _, hc⟩ := h5 hl
    cases e
    exact ⟨_, _, rfl, hB, fun i hi => ⟨(hc i hi).1, fun j u hu => (hb.cell (p := ⟨g, off + i * 5 + j, none⟩) hg).trans ((hc i hi).2 j u hu)⟩⟩⟩
set_option linter.unusedSimpArgs false in
set_option maxHeartbeats 8000000 in
theorem obRead_any (a : Option Addr) (c : Nat) (b : List UInt8) (w : World) (hA : Bsl w w.heap.size a b.length c b) (hz : Szs w) : Calls Tryz.prog 56 #[.slice a b.length c] w (OutOp (oreadO b) w) := by
  have hmx : Tryz.prog.follows Departure.mixedOrders = true := by kernel_rfl
  have hl9 := hA.len_le
  have l0 : (0 : Int) ≤ b.length := by omega
  have xb := Blk.new w 40 #[.int .u8 0, .int .i64 0, .int .i64 0, .slice none 0 0]
  have b0 := (Below.refl w.heap.size w).alloc (Nat.le_refl _) (.cells #[.int .u8 0, .int .i64 0, .int .i64 0, .slice none 0 0] 40)
  obtain ⟨w0, hw0⟩ : ∃ w0, w.alloc (.cells #[.int .u8 0, .int .i64 0, .int .i64 0, .slice none 0 0] 40) = w0 := ⟨_, rfl⟩
  have hz0 : w0.heap.size = w.heap.size + 1 := by rw [← hw0, World.size_alloc]
  rw [hw0] at xb b0
  obtain ⟨g, hg⟩ : ∃ g, w.heap.size = g := ⟨_, rfl⟩
  have HGE := Lib.hid (show w.heap.size ≤ g by omega)
  have HG0 := Lib.hid (show g < w0.heap.size by omega)
  rw [hg] at xb
  have HZ := Lib.hid xb
  have HB := Lib.hid b0
  have HA := Lib.hid (hA.step b0)
  have HS := Lib.hid (hz.step b0)
  clear xb b0 hA hz0 hz
  by_cases h : b.length = 256
  · have HL := Lib.hid h
    rw [h] at HA ⊢
    obtain ⟨bb, off, rfl, _, _⟩ := HA.out.2.2.2.2 (by omega)
    have hcap := HA.out.2.1
    have e1 : (((256 : Nat) : Int) != 256) = false := rfl
    clear h
    go_enter Tryz.func56, Tryz.ntmps56
    go_wp2_with fail
    try rw [hw0]
    try rw [hg]
    obtain ⟨wd, hwd⟩ : ∃ wd, w0.drew = wd := ⟨_, rfl⟩
    have bb0 : Below w0.heap.size w0 wd := by rw [← hwd]; exact (Below.refl _ w0).drew
    replace HZ := Lib.hid (HZ.out.below bb0 HZ.out.lt)
    replace HB := Lib.hid (HB.out.trans (bb0.mono HB.out.size))
    replace HA := Lib.hid (HA.out.step bb0)
    replace HS := Lib.hid (HS.out.step bb0)
    have hsl : ∀ W : World, (Instr.slice 27 (.slice (some ⟨bb, off, none⟩) 256 c) (some (.int .i64 16)) none none).run Tryz.prog W = .ok (.slice (some ⟨bb, off + 16, none⟩) 240 (c - 16)) W := fun W => slice_from_l W bb off 256 c 16 (by omega) hcap
    have hmk : ∀ W : World, (Instr.makeSlice 27 (.int .i64 16) (.int .i64 16)).run Tryz.prog W = .ok (.slice (some ⟨W.heap.size, 0, none⟩) 16 16) (W.alloc (.cells (ar zs16) 5)) := fun W => mkBytes 16 (by omega) W
    have hwd0 := Below.refl wd.heap.size wd
    refine wpI_start (Below wd.heap.size wd) [1, 2, 0, 3, 4, 5, 6, 7, 8, 9, 10] hmx rfl hwd ?_
    clear hwd bb0 hw0 hg e1
    iterate 2 (
      refine wpI_read (v := ?_) hwd0 rfl (by kernel_rfl) (by kernel_rfl) (by kernel_rfl) (fun _ _ _ h => h) (.inl ⟨by rfl, ?_⟩) ?_
      rotate_left
      · intro X hX
        clear hX
        go_simp
        with_reducible rfl
      try simp only [Act.put, List.setIfInBounds_toArray, List.set_cons_zero, List.set_cons_succ])
    clear hsl
    refine wpI_lone rfl (by kernel_rfl) (fun K hK => ?_)
    go_simp
    have bq := (Below.refl wd.heap.size wd).alloc (Nat.le_refl _) (.cells (ar zs16) 5)
    have hx := (Blk.new wd 5 (ar zs16)).bsl zs16_length (by omega)
    obtain ⟨w1, hn⟩ : ∃ X, wd.alloc (.cells (ar zs16) 5) = X := ⟨_, rfl⟩
    obtain ⟨g1, hg1⟩ : ∃ X, wd.heap.size = X := ⟨_, rfl⟩
    rw [hn] at bq hx ⊢
    have hsb := bq
    rw [hg1] at hx ⊢
    have HX1 := Lib.hid hx
    replace HZ := Lib.hid (HZ.out.below bq HZ.out.lt)
    replace HB := Lib.hid (HB.out.trans (bq.mono HB.out.size))
    replace HA := Lib.hid (HA.out.step bq)
    replace HS := Lib.hid (HS.out.step bq)
    refine hK _ _ hsb ?_
    clear hK K hn hg1 bq hx hmk
    try simp only [Act.put, List.setIfInBounds_toArray, List.set_cons_zero, List.set_cons_succ]
    refine wpI_lone rfl (by kernel_rfl) (fun K hK => ?_)
    go_simp
    have bq := (Below.refl w1.heap.size w1).alloc (Nat.le_refl _) (.cells #[.slice (some ⟨g1, 0, none⟩) 16 16, .slice (some ⟨bb, off + 16, none⟩) 240 (c - 16)] 27)
    have hwin : Bsl w1 w1.heap.size (some ⟨bb, off + 16, none⟩) 240 (c - 16) (b.drop 16) := by
      have := HA.out.win 16 240 (by omega)
      rwa [List.take_of_length_le (by rw [List.length_drop, HL.out]; omega)] at this
    have hcc := concatB2 w1 (some ⟨g1, 0, none⟩) 16 16 zs16 (some ⟨bb, off + 16, none⟩) 240 (c - 16) (b.drop 16) HX1.out hwin (by omega) (by omega)
    obtain ⟨w2, hn⟩ : ∃ X, w1.alloc (.cells #[.slice (some ⟨g1, 0, none⟩) 16 16, .slice (some ⟨bb, off + 16, none⟩) 240 (c - 16)] 27) = X := ⟨_, rfl⟩
    obtain ⟨g2, hg2⟩ : ∃ X, w1.heap.size = X := ⟨_, rfl⟩
    rw [hn] at bq hcc ⊢
    rw [hg2] at hcc ⊢
    have hsb2 := hsb.trans (bq.mono hsb.size)
    have HCC := Lib.hid hcc
    replace HZ := Lib.hid (HZ.out.below bq HZ.out.lt)
    replace HB := Lib.hid (HB.out.trans (bq.mono HB.out.size))
    replace HA := Lib.hid (HA.out.step bq)
    replace HS := Lib.hid (HS.out.step bq)
    refine hK _ _ hsb2 ?_
    clear hK K hn hg2 bq hwin hcc HX1 hsb
    try simp only [Act.put, List.setIfInBounds_toArray, List.set_cons_zero, List.set_cons_succ]
    refine wpI_lone rfl (by kernel_rfl) (fun K hK => ?_)
    go_simp
    refine HCC.out.mono ?_
    rintro ev w3 ⟨v3, rfl, ho3, bq⟩
    have hlen : (zs16 ++ b.drop 16).length = 256 := by rw [List.length_append, zs16_length, List.length_drop, HL.out]
    rw [hlen] at ho3
    obtain ⟨A3, C3, rfl, hb3⟩ := own_to ho3
    have hsb3 := hsb2.trans (bq.mono hsb2.size)
    replace HZ := Lib.hid (HZ.out.below bq HZ.out.lt)
    replace HB := Lib.hid (HB.out.trans (bq.mono HB.out.size))
    replace HA := Lib.hid (HA.out.step bq)
    replace HS := Lib.hid (HS.out.step bq)
    have hrw := Rows_any A3 256 C3 _ w3 hb3 HS.out
    rw [rowsO_of b HL.out] at hrw
    refine hK _ _ hsb3 ?_
    clear hK K bq hlen ho3 hb3 hsb2 HCC
    try simp only [Act.put, List.setIfInBounds_toArray, List.set_cons_zero, List.set_cons_succ]
    by_cases hall : ∀ p ∈ ptsOb b 15, MayP p
    · rw [if_pos hall] at hrw
      have HRW := Lib.hid hrw
      have HAL := Lib.hid hall
      clear hrw hall
      refine wpI_lone rfl (by kernel_rfl) (fun K hK => ?_)
      go_simp
      refine HRW.out.mono ?_
      rintro ev w4 ⟨v4, rfl, hp4, bq⟩
      have HB3 := Lib.hid (show w.heap.size ≤ w3.heap.size from HB.out.size)
      have HZ0 := Lib.hid (show g < w3.heap.size from HZ.out.lt)
      have hsb4 := hsb3.trans (bq.mono hsb3.size)
      replace HZ := Lib.hid (HZ.out.below bq HZ.out.lt)
      replace HB := Lib.hid (HB.out.trans (bq.mono HB.out.size))
      replace HA := Lib.hid (HA.out.step bq)
      replace HS := Lib.hid (HS.out.step bq)
      obtain ⟨g4, c4, rfl, hg4, hc4, ⟨cs4, hk4⟩, ht4⟩ := prow_tail hp4
      have hl15 : (ptsOb b 15).length = 15 := ptsOb_length b 15
      rw [hl15] at ht4 hc4 ⊢
      have HP := Lib.hid ht4
      have HQ := Lib.hid hk4
      have HG4 := Lib.hid (show w.heap.size ≤ g4 from Nat.le_trans HB3.out hg4)
      have HZ3 := Lib.hid (show g < g4 from Nat.lt_of_lt_of_le HZ0.out hg4)
      refine hK _ _ hsb4 ?_
      clear hK K bq hsb3 HRW hp4 hg4 hk4 ht4 HB3
      try simp only [Act.put, List.setIfInBounds_toArray, List.set_cons_zero, List.set_cons_succ]
      iterate 5 (
        refine wpI_read (v := ?_) hsb4 rfl (by kernel_rfl) (by kernel_rfl) (by kernel_rfl) (fun _ _ _ h => h) (.inl ⟨by rfl, ?_⟩) ?_
        rotate_left
        · intro X hX
          clear hX
          go_simp
          with_reducible rfl
        try simp only [Act.put, List.setIfInBounds_toArray, List.set_cons_zero, List.set_cons_succ])
      refine wpI_done (by kernel_rfl) ?_
      clear hsb4 hwd0
      have hap : ∀ W : World, (Instr.arrayAt 82 (.slice (some ⟨bb, off, none⟩) 256 c)).run Tryz.prog W = .ok (.pointer (some ⟨bb, off, none⟩)) W := fun W => arrayAt16 _ 256 c (by omega) W
      have HH := Lib.hid (HA.out.pre 16 (by omega))
      have HHL := Lib.hid (show (b.take 16).length = 16 by rw [List.length_take, HL.out]; rfl)
      have HHD := Lib.hid (hd_take b HL.out)
      obtain ⟨hh, hhe⟩ : ∃ X, b.take 16 = X := ⟨_, rfl⟩
      rw [hhe] at HH HHL HHD
      have HHE := Lib.hid hhe
      clear hhe
      have bq := (Below.refl w4.heap.size w4).alloc (Nat.le_refl _) (.cells (ar zs16) 82)
      have HY4 := Lib.hid (Blk.new w4 82 (ar zs16))
      have HBA := Lib.hid bq
      clear bq
      go_wp2_with (first
        | (with_reducible refine at_load16 ?_
           refine wpList_load16_bsl rfl (.tmp 26) rfl bb off c _ hh rfl HH.out ?_)
        | (with_reducible refine at_store16 ?_
           refine wpList_store16 rfl (.tmp 6) (.tmp 27) rfl w4.heap.size hh zs16 rfl rfl HHL.out HY4.out zs16_length ?_
           intro w5 hx5 hg5
           have bq := HBA.out.grown hg5 HBA.out.size (fun k e => by injection e with e; omega)
           have HX := Lib.hid hx5
           replace HZ := Lib.hid (HZ.out.below bq HZ.out.lt)
           replace HB := Lib.hid (HB.out.trans (bq.mono HB.out.size))
           replace HA := Lib.hid (HA.out.step bq)
           replace HS := Lib.hid (HS.out.step bq)
           replace HP := Lib.hid (HP.out.step bq)
           replace HQ := Lib.hid (HQ.out.below bq HQ.out.lt)
           clear hx5 hg5 bq))
      simp only [Act.put]
      clear hap HY4 HBA HH
      obtain ⟨wd7, hwd⟩ : ∃ wd, w5.drew = wd := ⟨_, rfl⟩
      have bb0 : Below w5.heap.size w5 wd7 := by rw [← hwd]; exact (Below.refl _ w5).drew
      replace HZ := Lib.hid (HZ.out.below bb0 HZ.out.lt)
      replace HB := Lib.hid (HB.out.trans (bb0.mono HB.out.size))
      replace HA := Lib.hid (HA.out.step bb0)
      replace HS := Lib.hid (HS.out.step bb0)
      replace HP := Lib.hid (HP.out.step bb0)
      replace HQ := Lib.hid (HQ.out.below bb0 HQ.out.lt)
      replace HX := Lib.hid (HX.out.below bb0 HX.out.lt)
      have hsp : ∀ W : World, (Instr.slice 35 (.slice (some ⟨g4, 0, none⟩) 16 c4) (some (.int .i64 1)) none none).run Tryz.prog W = .ok (.slice (some ⟨g4, 5, none⟩) 15 (c4 - 1)) W := fun W => slice_ptr1 W g4 c4 (by omega)
      obtain ⟨g6, hg6⟩ : ∃ X, w4.heap.size = X := ⟨_, rfl⟩
      rw [hg6] at HX ⊢
      clear hg6
      have hob := obObject_any hh HHL.out (some ⟨g4, 5, none⟩) 15 (c4 - 1)
      obtain ⟨x0, hx0⟩ : ∃ n, (b.getD 0 0).toNat = n := ⟨_, rfl⟩
      obtain ⟨x1, hx1⟩ : ∃ n, (b.getD 1 0).toNat = n := ⟨_, rfl⟩
      obtain ⟨x2, hx2⟩ : ∃ n, (b.getD 2 0).toNat + 256 * (b.getD 3 0).toNat = n := ⟨_, rfl⟩
      have y0 := (b.getD 0 0).toNat_lt
      have y1 := (b.getD 1 0).toNat_lt
      have y2 := (b.getD 2 0).toNat_lt
      have y3 := (b.getD 3 0).toNat_lt
      rw [HHD.out, hx0, hx1, hx2] at hob
      have HOB := Lib.hid hob
      have HN := Lib.hid (And.intro hx0 (And.intro hx1 hx2))
      have HY0 := Lib.hid (show x0 < 256 ∧ x1 < 256 ∧ x2 < 65536 by omega)
      clear hob hx0 hx1 hx2 y0 y1 y2 y3 HHD
      have hwd7 := Below.refl wd7.heap.size wd7
      refine wpI_start (Below wd7.heap.size wd7) [0, 1, 2, 3, 4, 5] hmx rfl hwd ?_
      clear hwd bb0
      refine wpI_read (v := .agg (ar hh)) hwd7 rfl (by kernel_rfl) (by kernel_rfl) (by kernel_rfl) (fun _ _ _ h => h) (.inl ⟨by rfl, fun X hX => exec_load16 rfl rfl (HX.out.below hX (by have := HX.out.lt; omega)) HHL.out⟩) ?_
      try simp only [Act.put, List.setIfInBounds_toArray, List.set_cons_zero, List.set_cons_succ]
      iterate 2 (
        refine wpI_read (v := ?_) hwd7 rfl (by kernel_rfl) (by kernel_rfl) (by kernel_rfl) (fun _ _ _ h => h) (.inl ⟨by rfl, ?_⟩) ?_
        rotate_left
        · intro X hX
          clear hX
          go_simp
          with_reducible rfl
        try simp only [Act.put, List.setIfInBounds_toArray, List.set_cons_zero, List.set_cons_succ])
      clear hsp
      refine wpI_fork rfl rfl (by kernel_rfl) (fun K hK => ?_) (fun K hK => ?_)
      · go_simp
        refine (HOB.out wd7).mono ?_
        rintro ev w6 ⟨rfl, bq⟩
        have hsb6 := hwd7.trans (bq.mono hwd7.size)
        replace HZ := Lib.hid (HZ.out.below bq HZ.out.lt)
        replace HB := Lib.hid (HB.out.trans (bq.mono HB.out.size))
        replace HA := Lib.hid (HA.out.step bq)
        replace HS := Lib.hid (HS.out.step bq)
        replace HP := Lib.hid (HP.out.step bq)
        replace HQ := Lib.hid (HQ.out.below bq HQ.out.lt)
        replace HX := Lib.hid (HX.out.below bq HX.out.lt)
        refine hK _ _ hsb6 ?_
        clear hK K bq
        try simp only [Act.put, List.setIfInBounds_toArray, List.set_cons_zero, List.set_cons_succ]
        refine wpI_lone rfl (by kernel_rfl) (fun K hK => ?_)
        go_simp
        have bq := (Below.refl w6.heap.size w6).alloc (Nat.le_refl _) (.cells #[.int .u8 0, .int .i64 0, .int .i64 0, .slice none 0 0] 40)
        have hy := Blk.new w6 40 #[.int .u8 0, .int .i64 0, .int .i64 0, .slice none 0 0]
        obtain ⟨w7, hn⟩ : ∃ X, w6.alloc (.cells #[.int .u8 0, .int .i64 0, .int .i64 0, .slice none 0 0] 40) = X := ⟨_, rfl⟩
        obtain ⟨g7, hg7⟩ : ∃ X, w6.heap.size = X := ⟨_, rfl⟩
        have HG7 := Lib.hid (show wd7.heap.size ≤ g7 ∧ w.heap.size ≤ g7 ∧ g < g7 ∧ g4 < g7 ∧ g6 < g7 by have := hsb6.size; have := HB.out.size; have := HZ.out.lt; have := HQ.out.lt; have := HX.out.lt; omega)
        rw [hn] at bq hy ⊢
        rw [hg7] at hy ⊢
        have hsb7 := hsb6.trans (bq.mono hsb6.size)
        replace HZ := Lib.hid (HZ.out.below bq HZ.out.lt)
        replace HB := Lib.hid (HB.out.trans (bq.mono HB.out.size))
        replace HA := Lib.hid (HA.out.step bq)
        replace HS := Lib.hid (HS.out.step bq)
        replace HP := Lib.hid (HP.out.step bq)
        replace HQ := Lib.hid (HQ.out.below bq HQ.out.lt)
        replace HX := Lib.hid (HX.out.below bq HX.out.lt)
        have HY := Lib.hid hy
        refine hK _ _ hsb7 ?_
        clear hK K hn hg7 bq hy
        try simp only [Act.put, List.setIfInBounds_toArray, List.set_cons_zero, List.set_cons_succ]
        refine wpI_lone rfl (by kernel_rfl) (fun K hK => ?_)
        have m0 := ox0 HY.out
        have m1 := ox1 HY.out
        have m2 := ox2 HY.out
        have m3 := ox3 HY.out
        have hfz := fun i => HY.out.frozen i
        go_simp
        have xo := HY.out.set4 (.int .u8 (x0 : Int)) (.int .i64 (x1 : Int)) (.int .i64 (x2 : Int)) (.slice (some ⟨g4, 5, none⟩) 15 (c4 - 1))
        have bo := below_set4 hsb7 HG7.out.1 (.int .u8 (x0 : Int)) (.int .i64 (x1 : Int)) (.int .i64 (x2 : Int)) (.slice (some ⟨g4, 5, none⟩) 15 (c4 - 1))
        have bB := below_set4 HB.out HG7.out.2.1 (.int .u8 (x0 : Int)) (.int .i64 (x1 : Int)) (.int .i64 (x2 : Int)) (.slice (some ⟨g4, 5, none⟩) 15 (c4 - 1))
        have hfr := below_set4 (Below.refl g7 w7) (Nat.le_refl g7) (.int .u8 (x0 : Int)) (.int .i64 (x1 : Int)) (.int .i64 (x2 : Int)) (.slice (some ⟨g4, 5, none⟩) 15 (c4 - 1))
        obtain ⟨w8, hn⟩ : ∃ X, (((w7.setCell ⟨g7, 0, none⟩ (.int .u8 (x0 : Int))).setCell ⟨g7, 1, none⟩ (.int .i64 (x1 : Int))).setCell ⟨g7, 2, none⟩ (.int .i64 (x2 : Int))).setCell ⟨g7, 3, none⟩ (.slice (some ⟨g4, 5, none⟩) 15 (c4 - 1)) = X := ⟨_, rfl⟩
        rw [hn] at xo bo bB hfr ⊢
        refine hK _ _ bo ?_
        have hsz : w7.heap.size ≤ w8.heap.size := by rw [← hn]; simp [World.setCell]
        replace HY := Lib.hid xo
        replace HB := Lib.hid bB
        replace HZ := Lib.hid (HZ.out.below hfr HG7.out.2.2.1)
        replace HQ := Lib.hid (HQ.out.below hfr HG7.out.2.2.2.1)
        replace HX := Lib.hid (HX.out.below hfr HG7.out.2.2.2.2)
        replace HP := Lib.hid (show Pts w8 w8.heap.size (some ⟨g4, 5, none⟩) 15 (c4 - 1) (ptsOb b 15) from (HP.out.at_blk HG7.out.2.2.2.1).2 hfr HQ.out.lt)
        clear hK K hn m0 m1 m2 m3 hfz xo bo bB hfr hsz
        try simp only [Act.put, List.setIfInBounds_toArray, List.set_cons_zero, List.set_cons_succ]
        refine wpI_done (by kernel_rfl) ?_
        clear hsb7 hwd7 hsb6
        go_wp2_with fail
        obtain ⟨wd8, hwd⟩ : ∃ wd, w8.drew = wd := ⟨_, rfl⟩
        have bb0 : Below w8.heap.size w8 wd8 := by rw [← hwd]; exact (Below.refl _ w8).drew
        replace HZ := Lib.hid (HZ.out.below bb0 HZ.out.lt)
        replace HB := Lib.hid (HB.out.trans (bb0.mono HB.out.size))
        replace HP := Lib.hid (HP.out.step bb0)
        replace HQ := Lib.hid (HQ.out.below bb0 HQ.out.lt)
        replace HY := Lib.hid (HY.out.below bb0 HY.out.lt)
        replace HX := Lib.hid (HX.out.below bb0 HX.out.lt)
        have HY8 := Lib.hid HY.out
        have HX8 := Lib.hid HX.out
        have hde : decOb b = (x0, (x1 : Int), (x2 : Int), ptsOb b 15) := by
          unfold decOb headOb
          simp only [HN.out.1, HN.out.2.1, ← HN.out.2.2]
          congr 3
        have hl15 := ptsOb_length b 15
        have HDT := Lib.hid (bytes_win b HL.out)
        have HWF := Lib.hid (decOb_wf b)
        rw [hde] at HWF
        obtain ⟨LP, hLP⟩ : ∃ X, ptsOb b 15 = X := ⟨_, rfl⟩
        rw [hLP] at HP HAL hl15 hde HDT HWF
        have hmy := obMay_any (some ⟨g4, 5, none⟩) (c4 - 1) ((x0, (x1 : Int), (x2 : Int), LP) : ObL) wd8
        simp only [obV, hl15] at hmy
        have hmy2 := hmy HP.out HWF.out
        have HMY := Lib.hid hmy2
        have HL15 := Lib.hid hl15
        have HDE := Lib.hid hde
        clear hmy hmy2 hl15 hde hLP
        have hwd8 := Below.refl wd8.heap.size wd8
        refine wpI_start (Below wd8.heap.size wd8) [0, 1, 2, 3, 4, 5, 6, 7, 8] hmx rfl hwd ?_
        clear hwd bb0
        iterate 1 (
          refine wpI_read (v := ?_) hwd8 rfl (by kernel_rfl) (by kernel_rfl) (by kernel_rfl) (fun _ _ _ h => h) (.inl ⟨by rfl, ?_⟩) ?_
          rotate_left
          · intro X hX
            have j0 := ox0 (HY8.out.below hX HY8.out.lt)
            have j1 := ox1 (HY8.out.below hX HY8.out.lt)
            have j2 := ox2 (HY8.out.below hX HY8.out.lt)
            have j3 := ox3 (HY8.out.below hX HY8.out.lt)
            clear hX
            go_simp
            with_reducible rfl
          try simp only [Act.put, List.setIfInBounds_toArray, List.set_cons_zero, List.set_cons_succ])
        by_cases hm : MayOb (x0, (x1 : Int), (x2 : Int), LP)
        · have HCM := Lib.hid (HMY.out true ⟨fun _ => hm, fun _ => rfl⟩)
          have HM := Lib.hid hm
          clear hm
          refine wpI_lone rfl (by kernel_rfl) (fun K hK => ?_)
          go_simp
          refine HCM.out.mono ?_
          rintro ev w10 ⟨rfl, bq⟩
          have hsb10 := hwd8.trans (bq.mono hwd8.size)
          replace HZ := Lib.hid (HZ.out.below bq HZ.out.lt)
          replace HB := Lib.hid (HB.out.trans (bq.mono HB.out.size))
          replace HP := Lib.hid (HP.out.step bq)
          replace HQ := Lib.hid (HQ.out.below bq HQ.out.lt)
          replace HY := Lib.hid (HY.out.below bq HY.out.lt)
          refine hK _ _ hsb10 ?_
          clear hK K bq HCM HMY
          try simp only [Act.put, List.setIfInBounds_toArray, List.set_cons_zero, List.set_cons_succ]
          iterate 2 (
            refine wpI_read (v := ?_) hsb10 rfl (by kernel_rfl) (by kernel_rfl) (by kernel_rfl) (fun _ _ _ h => h) (.inl ⟨by rfl, ?_⟩) ?_
            rotate_left
            · intro X hX
              clear hX
              go_simp
              with_reducible rfl
            try simp only [Act.put, List.setIfInBounds_toArray, List.set_cons_zero, List.set_cons_succ])
          refine wpI_read (v := .agg (ar hh)) hsb10 rfl (by kernel_rfl) (by kernel_rfl) (by kernel_rfl) (fun _ _ _ h => h) (.inl ⟨by rfl, fun X hX => exec_load16 rfl rfl (HX8.out.below hX (by have := HX8.out.lt; omega)) HHL.out⟩) ?_
          try simp only [Act.put, List.setIfInBounds_toArray, List.set_cons_zero, List.set_cons_succ]
          iterate 1 (
            refine wpI_read (v := ?_) hsb10 rfl (by kernel_rfl) (by kernel_rfl) (by kernel_rfl) (fun _ _ _ h => h) (.inl ⟨by rfl, ?_⟩) ?_
            rotate_left
            · intro X hX
              have j0 := ox0 (HY8.out.below hX HY8.out.lt)
              have j1 := ox1 (HY8.out.below hX HY8.out.lt)
              have j2 := ox2 (HY8.out.below hX HY8.out.lt)
              have j3 := ox3 (HY8.out.below hX HY8.out.lt)
              clear hX
              go_simp
              with_reducible rfl
            try simp only [Act.put, List.setIfInBounds_toArray, List.set_cons_zero, List.set_cons_succ])
          refine wpI_lone rfl (by kernel_rfl) (fun K hK => ?_)
          go_simp
          refine (obHead_any (some ⟨g4, 5, none⟩) (c4 - 1) x0 x1 x2 15 w10 HY0.out.1 HY0.out.2.1 HY0.out.2.2).mono ?_
          rintro ev w11 ⟨rfl, bq⟩
          have hsb11 := hsb10.trans (bq.mono hsb10.size)
          replace HZ := Lib.hid (HZ.out.below bq HZ.out.lt)
          replace HB := Lib.hid (HB.out.trans (bq.mono HB.out.size))
          replace HP := Lib.hid (HP.out.step bq)
          replace HQ := Lib.hid (HQ.out.below bq HQ.out.lt)
          replace HY := Lib.hid (HY.out.below bq HY.out.lt)
          refine hK _ _ hsb11 ?_
          clear hK K bq
          try simp only [Act.put, List.setIfInBounds_toArray, List.set_cons_zero, List.set_cons_succ]
          have hq := eq16 hh (hd16 x0 x1 x2) HHL.out (hd16_length x0 x1 x2)
          have HHB := Lib.hid (head_bytes x0 x1 x2 LP HY0.out.2.2)
          have HBL := Lib.hid (show blockOb (x0, (x1 : Int), (x2 : Int), LP) = hd16 x0 x1 x2 ++ b.drop 16 by
            rw [HHB.out, ← HDT.out]
            rfl)
          obtain ⟨hd, hhd⟩ : ∃ X, hd16 x0 x1 x2 = X := ⟨_, rfl⟩
          rw [hhd] at hq HBL ⊢
          clear hhd
          have HBD := Lib.hid (show hh ++ b.drop 16 = b by rw [← HHE.out, List.take_append_drop])
          by_cases he : hh = hd
          · rw [decide_eq_true he] at hq
            have HO := Lib.hid (show oreadO b = ((x0, (x1 : Int), (x2 : Int), LP), 0) by
              have hb : blockOb (x0, (x1 : Int), (x2 : Int), LP) = b := by rw [HBL.out, ← he, HBD.out]
              unfold oreadO
              rw [if_pos HL.out, HDE.out, if_pos ⟨HM.out, hb⟩])
            clear he
            iterate 2 (
              refine wpI_read (v := ?_) hsb11 rfl (by kernel_rfl) (by kernel_rfl) (by kernel_rfl) (fun _ _ _ h => h) (.inl ⟨by rfl, ?_⟩) ?_
              rotate_left
              · intro X hX
                clear hX
                go_simp
                with_reducible rfl
              try simp only [Act.put, List.setIfInBounds_toArray, List.set_cons_zero, List.set_cons_succ])
            refine wpI_done (by kernel_rfl) ?_
            clear hq hsb11 hsb10 hwd8
            have n0 := ox0 HY.out
            have n1 := ox1 HY.out
            have n2 := ox2 HY.out
            have n3 := ox3 HY.out
            have m0 := ox0 HZ.out
            have m1 := ox1 HZ.out
            have m2 := ox2 HZ.out
            have m3 := ox3 HZ.out
            have hfz := fun i => HZ.out.frozen i
            have xz := HZ.out.set4 (.int .u8 (x0 : Int)) (.int .i64 (x1 : Int)) (.int .i64 (x2 : Int)) (.slice (some ⟨g4, 5, none⟩) 15 (c4 - 1))
            have bz := below_set4 HB.out HGE.out (.int .u8 (x0 : Int)) (.int .i64 (x1 : Int)) (.int .i64 (x2 : Int)) (.slice (some ⟨g4, 5, none⟩) 15 (c4 - 1))
            obtain ⟨wz, hwz⟩ : ∃ X, (((w11.setCell ⟨g, 0, none⟩ (.int .u8 (x0 : Int))).setCell ⟨g, 1, none⟩ (.int .i64 (x1 : Int))).setCell ⟨g, 2, none⟩ (.int .i64 (x2 : Int))).setCell ⟨g, 3, none⟩ (.slice (some ⟨g4, 5, none⟩) 15 (c4 - 1)) = X := ⟨_, rfl⟩
            rw [hwz] at xz bz
            have HXZ := Lib.hid xz
            have HBZ := Lib.hid bz
            have xq := far4 HQ.out (show g4 ≠ g by have := HZ3.out; omega) (.int .u8 (x0 : Int)) (.int .i64 (x1 : Int)) (.int .i64 (x2 : Int)) (.slice (some ⟨g4, 5, none⟩) 15 (c4 - 1))
            rw [hwz] at xq
            have HQF := Lib.hid xq
            have HPF := Lib.hid (HP.out.same HQ.out xq xq.lt)
            clear xq
            clear xz bz
            go_wp2_with fail
            clear n0 n1 n2 n3
            clear m0 m1 m2 m3 hfz hwz
            have e0 := ox0 HXZ.out
            have e1 := ox1 HXZ.out
            have e2 := ox2 HXZ.out
            have e3 := ox3 HXZ.out
            refine bodyPost_ret (v := .tuple #[.agg #[.int .u8 (x0 : Int), .int .i64 (x1 : Int), .int .i64 (x2 : Int), .slice (some ⟨g4, 5, none⟩) 15 (c4 - 1)], .int .i64 0]) (by simp [results, Tryz.f56, go_sem, e0, e1, e2, e3]) rfl ?_
            rw [HO.out]
            refine ⟨some ⟨g4, 5, none⟩, c4 - 1, ?_, ?_, ?_, HBZ.out⟩
            · simp only [HL15.out]
              rfl
            · simp only [HL15.out]
              exact HPF.out
            · exact fun p e => by
                injection e with e
                rw [← e]
                exact ⟨HG4.out, cs4, HQF.out⟩
          · rw [decide_eq_false he] at hq
            have HNO := Lib.hid (show ¬ (MayOb (decOb b) ∧ blockOb (decOb b) = b) by
              rw [HDE.out]
              rintro ⟨_, h⟩
              rw [HBL.out] at h
              have h2 := h.trans HBD.out.symm
              exact he (List.append_cancel_right h2).symm)
            clear he
            iterate 2 (
              refine wpI_read (v := ?_) hsb11 rfl (by kernel_rfl) (by kernel_rfl) (by kernel_rfl) (fun _ _ _ h => h) (.inl ⟨by rfl, ?_⟩) ?_
              rotate_left
              · intro X hX
                clear hX
                go_simp
                with_reducible rfl
              try simp only [Act.put, List.setIfInBounds_toArray, List.set_cons_zero, List.set_cons_succ])
            clear hq
            refine wpI_done (by kernel_rfl) ?_
            have HO := Lib.hid (show oreadO b = (ob0, 8) by
              unfold oreadO
              rw [if_pos HL.out, if_neg HNO.out])
            clear hsb11 hsb10 hwd8
            have m0 := ox0 HZ.out
            have m1 := ox1 HZ.out
            have m2 := ox2 HZ.out
            have m3 := ox3 HZ.out
            have hfz := fun i => HZ.out.frozen i
            have xz := HZ.out.set4 (.int .u8 0) (.int .i64 0) (.int .i64 0) (.slice none 0 0)
            have bz := below_set4 HB.out HGE.out (.int .u8 0) (.int .i64 0) (.int .i64 0) (.slice none 0 0)
            obtain ⟨wz, hwz⟩ : ∃ X, (((w11.setCell ⟨g, 0, none⟩ (.int .u8 0)).setCell ⟨g, 1, none⟩ (.int .i64 0)).setCell ⟨g, 2, none⟩ (.int .i64 0)).setCell ⟨g, 3, none⟩ (.slice none 0 0) = X := ⟨_, rfl⟩
            rw [hwz] at xz bz
            have HXZ := Lib.hid xz
            have HBZ := Lib.hid bz
            clear xz bz
            go_wp2_with fail
            clear m0 m1 m2 m3 hfz hwz
            have e0 := ox0 HXZ.out
            have e1 := ox1 HXZ.out
            have e2 := ox2 HXZ.out
            have e3 := ox3 HXZ.out
            refine bodyPost_ret (v := .tuple #[.agg #[.int .u8 0, .int .i64 0, .int .i64 0, .slice none 0 0], .int .i64 8]) (by simp [results, Tryz.f56, go_sem, e0, e1, e2, e3]) rfl ?_
            rw [HO.out]
            exact outOp_no 8 HBZ.out
        · have HCM := Lib.hid (HMY.out false ⟨fun x => (by cases x), fun x => absurd x hm⟩)
          have HM := Lib.hid hm
          clear hm
          refine wpI_lone rfl (by kernel_rfl) (fun K hK => ?_)
          go_simp
          refine HCM.out.mono ?_
          rintro ev w10 ⟨rfl, bq⟩
          have hsb10 := hwd8.trans (bq.mono hwd8.size)
          replace HZ := Lib.hid (HZ.out.below bq HZ.out.lt)
          replace HB := Lib.hid (HB.out.trans (bq.mono HB.out.size))
          replace HP := Lib.hid (HP.out.step bq)
          replace HQ := Lib.hid (HQ.out.below bq HQ.out.lt)
          replace HY := Lib.hid (HY.out.below bq HY.out.lt)
          refine hK _ _ hsb10 ?_
          clear hK K bq HCM HMY
          try simp only [Act.put, List.setIfInBounds_toArray, List.set_cons_zero, List.set_cons_succ]
          iterate 2 (
            refine wpI_read (v := ?_) hsb10 rfl (by kernel_rfl) (by kernel_rfl) (by kernel_rfl) (fun _ _ _ h => h) (.inl ⟨by rfl, ?_⟩) ?_
            rotate_left
            · intro X hX
              clear hX
              go_simp
              with_reducible rfl
            try simp only [Act.put, List.setIfInBounds_toArray, List.set_cons_zero, List.set_cons_succ])
          iterate 2 (
            refine wpI_read (v := undef) hsb10 rfl (by kernel_rfl) (by kernel_rfl) (by kernel_rfl) (fun _ _ _ h => h) (.inr ⟨by rfl, rfl⟩) ?_
            try simp only [Act.put, List.setIfInBounds_toArray, List.set_cons_zero, List.set_cons_succ])
          refine wpI_lone rfl (by kernel_rfl) (fun K hK => ?_)
          refine hK _ _ hsb10 ?_
          clear hK K
          try simp only [Act.put, List.setIfInBounds_toArray, List.set_cons_zero, List.set_cons_succ]
          iterate 1 (
            refine wpI_read (v := undef) hsb10 rfl (by kernel_rfl) (by kernel_rfl) (by kernel_rfl) (fun _ _ _ h => h) (.inr ⟨by rfl, rfl⟩) ?_
            try simp only [Act.put, List.setIfInBounds_toArray, List.set_cons_zero, List.set_cons_succ])
          iterate 1 (
            refine wpI_read (v := ?_) hsb10 rfl (by kernel_rfl) (by kernel_rfl) (by kernel_rfl) (fun _ _ _ h => h) (.inl ⟨by rfl, ?_⟩) ?_
            rotate_left
            · intro X hX
              clear hX
              go_simp
              with_reducible rfl
            try simp only [Act.put, List.setIfInBounds_toArray, List.set_cons_zero, List.set_cons_succ])
          have HNO := Lib.hid (show ¬ (MayOb (decOb b) ∧ blockOb (decOb b) = b) by rw [HDE.out]; exact fun h => HM.out h.1)
          refine wpI_done (by kernel_rfl) ?_
          have HO := Lib.hid (show oreadO b = (ob0, 8) by
            unfold oreadO
            rw [if_pos HL.out, if_neg HNO.out])
          clear hsb10 hwd8
          have m0 := ox0 HZ.out
          have m1 := ox1 HZ.out
          have m2 := ox2 HZ.out
          have m3 := ox3 HZ.out
          have hfz := fun i => HZ.out.frozen i
          have xz := HZ.out.set4 (.int .u8 0) (.int .i64 0) (.int .i64 0) (.slice none 0 0)
          have bz := below_set4 HB.out HGE.out (.int .u8 0) (.int .i64 0) (.int .i64 0) (.slice none 0 0)
          obtain ⟨wz, hwz⟩ : ∃ X, (((w10.setCell ⟨g, 0, none⟩ (.int .u8 0)).setCell ⟨g, 1, none⟩ (.int .i64 0)).setCell ⟨g, 2, none⟩ (.int .i64 0)).setCell ⟨g, 3, none⟩ (.slice none 0 0) = X := ⟨_, rfl⟩
          rw [hwz] at xz bz
          have HXZ := Lib.hid xz
          have HBZ := Lib.hid bz
          clear xz bz
          go_wp2_with fail
          clear m0 m1 m2 m3 hfz hwz
          have e0 := ox0 HXZ.out
          have e1 := ox1 HXZ.out
          have e2 := ox2 HXZ.out
          have e3 := ox3 HXZ.out
          refine bodyPost_ret (v := .tuple #[.agg #[.int .u8 0, .int .i64 0, .int .i64 0, .slice none 0 0], .int .i64 8]) (by simp [results, Tryz.f56, go_sem, e0, e1, e2, e3]) rfl ?_
          rw [HO.out]
          exact outOp_no 8 HBZ.out
      · go_simp
        have bq := (Below.refl wd7.heap.size wd7).alloc (Nat.le_refl _) (.cells #[.int .u8 0, .int .i64 0, .int .i64 0, .slice none 0 0] 40)
        have hy := Blk.new wd7 40 #[.int .u8 0, .int .i64 0, .int .i64 0, .slice none 0 0]
        obtain ⟨w7, hn⟩ : ∃ X, wd7.alloc (.cells #[.int .u8 0, .int .i64 0, .int .i64 0, .slice none 0 0] 40) = X := ⟨_, rfl⟩
        obtain ⟨g7, hg7⟩ : ∃ X, wd7.heap.size = X := ⟨_, rfl⟩
        have HG7 := Lib.hid (show wd7.heap.size ≤ g7 ∧ w.heap.size ≤ g7 ∧ g < g7 ∧ g4 < g7 ∧ g6 < g7 by have := hwd7.size; have := HB.out.size; have := HZ.out.lt; have := HQ.out.lt; have := HX.out.lt; omega)
        rw [hn] at bq hy ⊢
        rw [hg7] at hy ⊢
        have hsb7 := hwd7.trans (bq.mono hwd7.size)
        replace HZ := Lib.hid (HZ.out.below bq HZ.out.lt)
        replace HB := Lib.hid (HB.out.trans (bq.mono HB.out.size))
        replace HA := Lib.hid (HA.out.step bq)
        replace HS := Lib.hid (HS.out.step bq)
        replace HP := Lib.hid (HP.out.step bq)
        replace HQ := Lib.hid (HQ.out.below bq HQ.out.lt)
        replace HX := Lib.hid (HX.out.below bq HX.out.lt)
        have HY := Lib.hid hy
        refine hK _ _ hsb7 ?_
        clear hK K hn hg7 bq hy
        try simp only [Act.put, List.setIfInBounds_toArray, List.set_cons_zero, List.set_cons_succ]
        refine wpI_lone rfl (by kernel_rfl) (fun K hK => ?_)
        go_simp
        refine (HOB.out w7).mono ?_
        rintro ev w6 ⟨rfl, bq⟩
        have hsb6 := hsb7.trans (bq.mono hsb7.size)
        replace HZ := Lib.hid (HZ.out.below bq HZ.out.lt)
        replace HB := Lib.hid (HB.out.trans (bq.mono HB.out.size))
        replace HA := Lib.hid (HA.out.step bq)
        replace HS := Lib.hid (HS.out.step bq)
        replace HP := Lib.hid (HP.out.step bq)
        replace HQ := Lib.hid (HQ.out.below bq HQ.out.lt)
        replace HX := Lib.hid (HX.out.below bq HX.out.lt)
        replace HY := Lib.hid (HY.out.below bq HY.out.lt)
        refine hK _ _ hsb6 ?_
        clear hK K bq
        try simp only [Act.put, List.setIfInBounds_toArray, List.set_cons_zero, List.set_cons_succ]
        refine wpI_lone rfl (by kernel_rfl) (fun K hK => ?_)
        have m0 := ox0 HY.out
        have m1 := ox1 HY.out
        have m2 := ox2 HY.out
        have m3 := ox3 HY.out
        have hfz := fun i => HY.out.frozen i
        go_simp
        have xo := HY.out.set4 (.int .u8 (x0 : Int)) (.int .i64 (x1 : Int)) (.int .i64 (x2 : Int)) (.slice (some ⟨g4, 5, none⟩) 15 (c4 - 1))
        have bo := below_set4 hsb6 HG7.out.1 (.int .u8 (x0 : Int)) (.int .i64 (x1 : Int)) (.int .i64 (x2 : Int)) (.slice (some ⟨g4, 5, none⟩) 15 (c4 - 1))
        have bB := below_set4 HB.out HG7.out.2.1 (.int .u8 (x0 : Int)) (.int .i64 (x1 : Int)) (.int .i64 (x2 : Int)) (.slice (some ⟨g4, 5, none⟩) 15 (c4 - 1))
        have hfr := below_set4 (Below.refl g7 w6) (Nat.le_refl g7) (.int .u8 (x0 : Int)) (.int .i64 (x1 : Int)) (.int .i64 (x2 : Int)) (.slice (some ⟨g4, 5, none⟩) 15 (c4 - 1))
        obtain ⟨w8, hn⟩ : ∃ X, (((w6.setCell ⟨g7, 0, none⟩ (.int .u8 (x0 : Int))).setCell ⟨g7, 1, none⟩ (.int .i64 (x1 : Int))).setCell ⟨g7, 2, none⟩ (.int .i64 (x2 : Int))).setCell ⟨g7, 3, none⟩ (.slice (some ⟨g4, 5, none⟩) 15 (c4 - 1)) = X := ⟨_, rfl⟩
        rw [hn] at xo bo bB hfr ⊢
        refine hK _ _ bo ?_
        have hsz : w6.heap.size ≤ w8.heap.size := by rw [← hn]; simp [World.setCell]
        replace HY := Lib.hid xo
        replace HB := Lib.hid bB
        replace HZ := Lib.hid (HZ.out.below hfr HG7.out.2.2.1)
        replace HQ := Lib.hid (HQ.out.below hfr HG7.out.2.2.2.1)
        replace HX := Lib.hid (HX.out.below hfr HG7.out.2.2.2.2)
        replace HP := Lib.hid (show Pts w8 w8.heap.size (some ⟨g4, 5, none⟩) 15 (c4 - 1) (ptsOb b 15) from (HP.out.at_blk HG7.out.2.2.2.1).2 hfr HQ.out.lt)
        clear hK K hn m0 m1 m2 m3 hfz xo bo bB hfr hsz
        try simp only [Act.put, List.setIfInBounds_toArray, List.set_cons_zero, List.set_cons_succ]
        refine wpI_done (by kernel_rfl) ?_
        clear hsb6 hwd7 hsb7
        go_wp2_with fail
        obtain ⟨wd8, hwd⟩ : ∃ wd, w8.drew = wd := ⟨_, rfl⟩
        have bb0 : Below w8.heap.size w8 wd8 := by rw [← hwd]; exact (Below.refl _ w8).drew
        replace HZ := Lib.hid (HZ.out.below bb0 HZ.out.lt)
        replace HB := Lib.hid (HB.out.trans (bb0.mono HB.out.size))
        replace HP := Lib.hid (HP.out.step bb0)
        replace HQ := Lib.hid (HQ.out.below bb0 HQ.out.lt)
        replace HY := Lib.hid (HY.out.below bb0 HY.out.lt)
        replace HX := Lib.hid (HX.out.below bb0 HX.out.lt)
        have HY8 := Lib.hid HY.out
        have HX8 := Lib.hid HX.out
        have hde : decOb b = (x0, (x1 : Int), (x2 : Int), ptsOb b 15) := by
          unfold decOb headOb
          simp only [HN.out.1, HN.out.2.1, ← HN.out.2.2]
          congr 3
        have hl15 := ptsOb_length b 15
        have HDT := Lib.hid (bytes_win b HL.out)
        have HWF := Lib.hid (decOb_wf b)
        rw [hde] at HWF
        obtain ⟨LP, hLP⟩ : ∃ X, ptsOb b 15 = X := ⟨_, rfl⟩
        rw [hLP] at HP HAL hl15 hde HDT HWF
        have hmy := obMay_any (some ⟨g4, 5, none⟩) (c4 - 1) ((x0, (x1 : Int), (x2 : Int), LP) : ObL) wd8
        simp only [obV, hl15] at hmy
        have hmy2 := hmy HP.out HWF.out
        have HMY := Lib.hid hmy2
        have HL15 := Lib.hid hl15
        have HDE := Lib.hid hde
        clear hmy hmy2 hl15 hde hLP
        have hwd8 := Below.refl wd8.heap.size wd8
        refine wpI_start (Below wd8.heap.size wd8) [0, 1, 2, 3, 4, 5, 6, 7, 8] hmx rfl hwd ?_
        clear hwd bb0
        iterate 1 (
          refine wpI_read (v := ?_) hwd8 rfl (by kernel_rfl) (by kernel_rfl) (by kernel_rfl) (fun _ _ _ h => h) (.inl ⟨by rfl, ?_⟩) ?_
          rotate_left
          · intro X hX
            have j0 := ox0 (HY8.out.below hX HY8.out.lt)
            have j1 := ox1 (HY8.out.below hX HY8.out.lt)
            have j2 := ox2 (HY8.out.below hX HY8.out.lt)
            have j3 := ox3 (HY8.out.below hX HY8.out.lt)
            clear hX
            go_simp
            with_reducible rfl
          try simp only [Act.put, List.setIfInBounds_toArray, List.set_cons_zero, List.set_cons_succ])
        by_cases hm : MayOb (x0, (x1 : Int), (x2 : Int), LP)
        · have HCM := Lib.hid (HMY.out true ⟨fun _ => hm, fun _ => rfl⟩)
          have HM := Lib.hid hm
          clear hm
          refine wpI_lone rfl (by kernel_rfl) (fun K hK => ?_)
          go_simp
          refine HCM.out.mono ?_
          rintro ev w10 ⟨rfl, bq⟩
          have hsb10 := hwd8.trans (bq.mono hwd8.size)
          replace HZ := Lib.hid (HZ.out.below bq HZ.out.lt)
          replace HB := Lib.hid (HB.out.trans (bq.mono HB.out.size))
          replace HP := Lib.hid (HP.out.step bq)
          replace HQ := Lib.hid (HQ.out.below bq HQ.out.lt)
          replace HY := Lib.hid (HY.out.below bq HY.out.lt)
          refine hK _ _ hsb10 ?_
          clear hK K bq HCM HMY
          try simp only [Act.put, List.setIfInBounds_toArray, List.set_cons_zero, List.set_cons_succ]
          iterate 2 (
            refine wpI_read (v := ?_) hsb10 rfl (by kernel_rfl) (by kernel_rfl) (by kernel_rfl) (fun _ _ _ h => h) (.inl ⟨by rfl, ?_⟩) ?_
            rotate_left
            · intro X hX
              clear hX
              go_simp
              with_reducible rfl
            try simp only [Act.put, List.setIfInBounds_toArray, List.set_cons_zero, List.set_cons_succ])
          refine wpI_read (v := .agg (ar hh)) hsb10 rfl (by kernel_rfl) (by kernel_rfl) (by kernel_rfl) (fun _ _ _ h => h) (.inl ⟨by rfl, fun X hX => exec_load16 rfl rfl (HX8.out.below hX (by have := HX8.out.lt; omega)) HHL.out⟩) ?_
          try simp only [Act.put, List.setIfInBounds_toArray, List.set_cons_zero, List.set_cons_succ]
          iterate 1 (
            refine wpI_read (v := ?_) hsb10 rfl (by kernel_rfl) (by kernel_rfl) (by kernel_rfl) (fun _ _ _ h => h) (.inl ⟨by rfl, ?_⟩) ?_
            rotate_left
            · intro X hX
              have j0 := ox0 (HY8.out.below hX HY8.out.lt)
              have j1 := ox1 (HY8.out.below hX HY8.out.lt)
              have j2 := ox2 (HY8.out.below hX HY8.out.lt)
              have j3 := ox3 (HY8.out.below hX HY8.out.lt)
              clear hX
              go_simp
              with_reducible rfl
            try simp only [Act.put, List.setIfInBounds_toArray, List.set_cons_zero, List.set_cons_succ])
          refine wpI_lone rfl (by kernel_rfl) (fun K hK => ?_)
          go_simp
          refine (obHead_any (some ⟨g4, 5, none⟩) (c4 - 1) x0 x1 x2 15 w10 HY0.out.1 HY0.out.2.1 HY0.out.2.2).mono ?_
          rintro ev w11 ⟨rfl, bq⟩
          have hsb11 := hsb10.trans (bq.mono hsb10.size)
          replace HZ := Lib.hid (HZ.out.below bq HZ.out.lt)
          replace HB := Lib.hid (HB.out.trans (bq.mono HB.out.size))
          replace HP := Lib.hid (HP.out.step bq)
          replace HQ := Lib.hid (HQ.out.below bq HQ.out.lt)
          replace HY := Lib.hid (HY.out.below bq HY.out.lt)
          refine hK _ _ hsb11 ?_
          clear hK K bq
          try simp only [Act.put, List.setIfInBounds_toArray, List.set_cons_zero, List.set_cons_succ]
          have hq := eq16 hh (hd16 x0 x1 x2) HHL.out (hd16_length x0 x1 x2)
          have HHB := Lib.hid (head_bytes x0 x1 x2 LP HY0.out.2.2)
          have HBL := Lib.hid (show blockOb (x0, (x1 : Int), (x2 : Int), LP) = hd16 x0 x1 x2 ++ b.drop 16 by
            rw [HHB.out, ← HDT.out]
            rfl)
          obtain ⟨hd, hhd⟩ : ∃ X, hd16 x0 x1 x2 = X := ⟨_, rfl⟩
          rw [hhd] at hq HBL ⊢
          clear hhd
          have HBD := Lib.hid (show hh ++ b.drop 16 = b by rw [← HHE.out, List.take_append_drop])
          by_cases he : hh = hd
          · rw [decide_eq_true he] at hq
            have HO := Lib.hid (show oreadO b = ((x0, (x1 : Int), (x2 : Int), LP), 0) by
              have hb : blockOb (x0, (x1 : Int), (x2 : Int), LP) = b := by rw [HBL.out, ← he, HBD.out]
              unfold oreadO
              rw [if_pos HL.out, HDE.out, if_pos ⟨HM.out, hb⟩])
            clear he
            iterate 2 (
              refine wpI_read (v := ?_) hsb11 rfl (by kernel_rfl) (by kernel_rfl) (by kernel_rfl) (fun _ _ _ h => h) (.inl ⟨by rfl, ?_⟩) ?_
              rotate_left
              · intro X hX
                clear hX
                go_simp
                with_reducible rfl
              try simp only [Act.put, List.setIfInBounds_toArray, List.set_cons_zero, List.set_cons_succ])
            refine wpI_done (by kernel_rfl) ?_
            clear hq hsb11 hsb10 hwd8
            have n0 := ox0 HY.out
            have n1 := ox1 HY.out
            have n2 := ox2 HY.out
            have n3 := ox3 HY.out
            have m0 := ox0 HZ.out
            have m1 := ox1 HZ.out
            have m2 := ox2 HZ.out
            have m3 := ox3 HZ.out
            have hfz := fun i => HZ.out.frozen i
            have xz := HZ.out.set4 (.int .u8 (x0 : Int)) (.int .i64 (x1 : Int)) (.int .i64 (x2 : Int)) (.slice (some ⟨g4, 5, none⟩) 15 (c4 - 1))
            have bz := below_set4 HB.out HGE.out (.int .u8 (x0 : Int)) (.int .i64 (x1 : Int)) (.int .i64 (x2 : Int)) (.slice (some ⟨g4, 5, none⟩) 15 (c4 - 1))
            obtain ⟨wz, hwz⟩ : ∃ X, (((w11.setCell ⟨g, 0, none⟩ (.int .u8 (x0 : Int))).setCell ⟨g, 1, none⟩ (.int .i64 (x1 : Int))).setCell ⟨g, 2, none⟩ (.int .i64 (x2 : Int))).setCell ⟨g, 3, none⟩ (.slice (some ⟨g4, 5, none⟩) 15 (c4 - 1)) = X := ⟨_, rfl⟩
            rw [hwz] at xz bz
            have HXZ := Lib.hid xz
            have HBZ := Lib.hid bz
            have xq := far4 HQ.out (show g4 ≠ g by have := HZ3.out; omega) (.int .u8 (x0 : Int)) (.int .i64 (x1 : Int)) (.int .i64 (x2 : Int)) (.slice (some ⟨g4, 5, none⟩) 15 (c4 - 1))
            rw [hwz] at xq
            have HQF := Lib.hid xq
            have HPF := Lib.hid (HP.out.same HQ.out xq xq.lt)
            clear xq
            clear xz bz
            go_wp2_with fail
            clear n0 n1 n2 n3
            clear m0 m1 m2 m3 hfz hwz
            have e0 := ox0 HXZ.out
            have e1 := ox1 HXZ.out
            have e2 := ox2 HXZ.out
            have e3 := ox3 HXZ.out
            refine bodyPost_ret (v := .tuple #[.agg #[.int .u8 (x0 : Int), .int .i64 (x1 : Int), .int .i64 (x2 : Int), .slice (some ⟨g4, 5, none⟩) 15 (c4 - 1)], .int .i64 0]) (by simp [results, Tryz.f56, go_sem, e0, e1, e2, e3]) rfl ?_
            rw [HO.out]
            refine ⟨some ⟨g4, 5, none⟩, c4 - 1, ?_, ?_, ?_, HBZ.out⟩
            · simp only [HL15.out]
              rfl
            · simp only [HL15.out]
              exact HPF.out
            · exact fun p e => by
                injection e with e
                rw [← e]
                exact ⟨HG4.out, cs4, HQF.out⟩
          · rw [decide_eq_false he] at hq
            have HNO := Lib.hid (show ¬ (MayOb (decOb b) ∧ blockOb (decOb b) = b) by
              rw [HDE.out]
              rintro ⟨_, h⟩
              rw [HBL.out] at h
              have h2 := h.trans HBD.out.symm
              exact he (List.append_cancel_right h2).symm)
            clear he
            iterate 2 (
              refine wpI_read (v := ?_) hsb11 rfl (by kernel_rfl) (by kernel_rfl) (by kernel_rfl) (fun _ _ _ h => h) (.inl ⟨by rfl, ?_⟩) ?_
              rotate_left
              · intro X hX
                clear hX
                go_simp
                with_reducible rfl
              try simp only [Act.put, List.setIfInBounds_toArray, List.set_cons_zero, List.set_cons_succ])
            clear hq
            refine wpI_done (by kernel_rfl) ?_
            have HO := Lib.hid (show oreadO b = (ob0, 8) by
              unfold oreadO
              rw [if_pos HL.out, if_neg HNO.out])
            clear hsb11 hsb10 hwd8
            have m0 := ox0 HZ.out
            have m1 := ox1 HZ.out
            have m2 := ox2 HZ.out
            have m3 := ox3 HZ.out
            have hfz := fun i => HZ.out.frozen i
            have xz := HZ.out.set4 (.int .u8 0) (.int .i64 0) (.int .i64 0) (.slice none 0 0)
            have bz := below_set4 HB.out HGE.out (.int .u8 0) (.int .i64 0) (.int .i64 0) (.slice none 0 0)
            obtain ⟨wz, hwz⟩ : ∃ X, (((w11.setCell ⟨g, 0, none⟩ (.int .u8 0)).setCell ⟨g, 1, none⟩ (.int .i64 0)).setCell ⟨g, 2, none⟩ (.int .i64 0)).setCell ⟨g, 3, none⟩ (.slice none 0 0) = X := ⟨_, rfl⟩
            rw [hwz] at xz bz
            have HXZ := Lib.hid xz
            have HBZ := Lib.hid bz
            clear xz bz
            go_wp2_with fail
            clear m0 m1 m2 m3 hfz hwz
            have e0 := ox0 HXZ.out
            have e1 := ox1 HXZ.out
            have e2 := ox2 HXZ.out
            have e3 := ox3 HXZ.out
            refine bodyPost_ret (v := .tuple #[.agg #[.int .u8 0, .int .i64 0, .int .i64 0, .slice none 0 0], .int .i64 8]) (by simp [results, Tryz.f56, go_sem, e0, e1, e2, e3]) rfl ?_
            rw [HO.out]
            exact outOp_no 8 HBZ.out
        · have HCM := Lib.hid (HMY.out false ⟨fun x => (by cases x), fun x => absurd x hm⟩)
          have HM := Lib.hid hm
          clear hm
          refine wpI_lone rfl (by kernel_rfl) (fun K hK => ?_)
          go_simp
          refine HCM.out.mono ?_
          rintro ev w10 ⟨rfl, bq⟩
          have hsb10 := hwd8.trans (bq.mono hwd8.size)
          replace HZ := Lib.hid (HZ.out.below bq HZ.out.lt)
          replace HB := Lib.hid (HB.out.trans (bq.mono HB.out.size))
          replace HP := Lib.hid (HP.out.step bq)
          replace HQ := Lib.hid (HQ.out.below bq HQ.out.lt)
          replace HY := Lib.hid (HY.out.below bq HY.out.lt)
          refine hK _ _ hsb10 ?_
          clear hK K bq HCM HMY
          try simp only [Act.put, List.setIfInBounds_toArray, List.set_cons_zero, List.set_cons_succ]
          iterate 2 (
            refine wpI_read (v := ?_) hsb10 rfl (by kernel_rfl) (by kernel_rfl) (by kernel_rfl) (fun _ _ _ h => h) (.inl ⟨by rfl, ?_⟩) ?_
            rotate_left
            · intro X hX
              clear hX
              go_simp
              with_reducible rfl
            try simp only [Act.put, List.setIfInBounds_toArray, List.set_cons_zero, List.set_cons_succ])
          iterate 2 (
            refine wpI_read (v := undef) hsb10 rfl (by kernel_rfl) (by kernel_rfl) (by kernel_rfl) (fun _ _ _ h => h) (.inr ⟨by rfl, rfl⟩) ?_
            try simp only [Act.put, List.setIfInBounds_toArray, List.set_cons_zero, List.set_cons_succ])
          refine wpI_lone rfl (by kernel_rfl) (fun K hK => ?_)
          refine hK _ _ hsb10 ?_
          clear hK K
          try simp only [Act.put, List.setIfInBounds_toArray, List.set_cons_zero, List.set_cons_succ]
          iterate 1 (
            refine wpI_read (v := undef) hsb10 rfl (by kernel_rfl) (by kernel_rfl) (by kernel_rfl) (fun _ _ _ h => h) (.inr ⟨by rfl, rfl⟩) ?_
            try simp only [Act.put, List.setIfInBounds_toArray, List.set_cons_zero, List.set_cons_succ])
          iterate 1 (
            refine wpI_read (v := ?_) hsb10 rfl (by kernel_rfl) (by kernel_rfl) (by kernel_rfl) (fun _ _ _ h => h) (.inl ⟨by rfl, ?_⟩) ?_
            rotate_left
            · intro X hX
              clear hX
              go_simp
              with_reducible rfl
            try simp only [Act.put, List.setIfInBounds_toArray, List.set_cons_zero, List.set_cons_succ])
          have HNO := Lib.hid (show ¬ (MayOb (decOb b) ∧ blockOb (decOb b) = b) by rw [HDE.out]; exact fun h => HM.out h.1)
          refine wpI_done (by kernel_rfl) ?_
          have HO := Lib.hid (show oreadO b = (ob0, 8) by
            unfold oreadO
            rw [if_pos HL.out, if_neg HNO.out])
          clear hsb10 hwd8
          have m0 := ox0 HZ.out
          have m1 := ox1 HZ.out
          have m2 := ox2 HZ.out
          have m3 := ox3 HZ.out
          have hfz := fun i => HZ.out.frozen i
          have xz := HZ.out.set4 (.int .u8 0) (.int .i64 0) (.int .i64 0) (.slice none 0 0)
          have bz := below_set4 HB.out HGE.out (.int .u8 0) (.int .i64 0) (.int .i64 0) (.slice none 0 0)
          obtain ⟨wz, hwz⟩ : ∃ X, (((w10.setCell ⟨g, 0, none⟩ (.int .u8 0)).setCell ⟨g, 1, none⟩ (.int .i64 0)).setCell ⟨g, 2, none⟩ (.int .i64 0)).setCell ⟨g, 3, none⟩ (.slice none 0 0) = X := ⟨_, rfl⟩
          rw [hwz] at xz bz
          have HXZ := Lib.hid xz
          have HBZ := Lib.hid bz
          clear xz bz
          go_wp2_with fail
          clear m0 m1 m2 m3 hfz hwz
          have e0 := ox0 HXZ.out
          have e1 := ox1 HXZ.out
          have e2 := ox2 HXZ.out
          have e3 := ox3 HXZ.out
          refine bodyPost_ret (v := .tuple #[.agg #[.int .u8 0, .int .i64 0, .int .i64 0, .slice none 0 0], .int .i64 8]) (by simp [results, Tryz.f56, go_sem, e0, e1, e2, e3]) rfl ?_
          rw [HO.out]
          exact outOp_no 8 HBZ.out
    · rw [if_neg hall] at hrw
      have HRW := Lib.hid hrw
      have HO := Lib.hid (show oreadO b = (ob0, 8) by
        unfold oreadO
        rw [if_pos HL.out, if_neg]
        exact fun h => hall h.1.2)
      clear hrw hall
      refine wpI_lone rfl (by kernel_rfl) (fun K hK => ?_)
      go_simp
      refine HRW.out.mono ?_
      rintro ev w4 ⟨v4, rfl, hp4, bq⟩
      have hsb4 := hsb3.trans (bq.mono hsb3.size)
      replace HZ := Lib.hid (HZ.out.below bq HZ.out.lt)
      replace HB := Lib.hid (HB.out.trans (bq.mono HB.out.size))
      replace HA := Lib.hid (HA.out.step bq)
      replace HS := Lib.hid (HS.out.step bq)
      refine hK _ _ hsb4 ?_
      clear hK K bq hsb3 HRW
      try simp only [Act.put, List.setIfInBounds_toArray, List.set_cons_zero, List.set_cons_succ]
      iterate 5 (
        refine wpI_read (v := ?_) hsb4 rfl (by kernel_rfl) (by kernel_rfl) (by kernel_rfl) (fun _ _ _ h => h) (.inl ⟨by rfl, ?_⟩) ?_
        rotate_left
        · intro X hX
          clear hX
          go_simp
          with_reducible rfl
        try simp only [Act.put, List.setIfInBounds_toArray, List.set_cons_zero, List.set_cons_succ])
      refine wpI_done (by kernel_rfl) ?_
      clear hsb4 hwd0 hp4
      have m0 := ox0 HZ.out
      have m1 := ox1 HZ.out
      have m2 := ox2 HZ.out
      have m3 := ox3 HZ.out
      have hfz := fun i => HZ.out.frozen i
      have xz := HZ.out.set4 (.int .u8 0) (.int .i64 0) (.int .i64 0) (.slice none 0 0)
      have bz := below_set4 HB.out HGE.out (.int .u8 0) (.int .i64 0) (.int .i64 0) (.slice none 0 0)
      obtain ⟨wz, hwz⟩ : ∃ X, (((w4.setCell ⟨g, 0, none⟩ (.int .u8 0)).setCell ⟨g, 1, none⟩ (.int .i64 0)).setCell ⟨g, 2, none⟩ (.int .i64 0)).setCell ⟨g, 3, none⟩ (.slice none 0 0) = X := ⟨_, rfl⟩
      rw [hwz] at xz bz
      have HXZ := Lib.hid xz
      have HBZ := Lib.hid bz
      clear xz bz
      go_wp2_with fail
      clear m0 m1 m2 m3 hfz hwz
      have e0 := ox0 HXZ.out
      have e1 := ox1 HXZ.out
      have e2 := ox2 HXZ.out
      have e3 := ox3 HXZ.out
      refine bodyPost_ret (v := .tuple #[.agg #[.int .u8 0, .int .i64 0, .int .i64 0, .slice none 0 0], .int .i64 8]) (by simp [results, Tryz.f56, go_sem, e0, e1, e2, e3]) rfl ?_
      rw [HO.out]
      exact outOp_no 8 HBZ.out
  · have HO := Lib.hid (show oreadO b = (ob0, 3) by unfold oreadO; rw [if_neg h])
    rw [HO.out]
    have e1 : ((b.length : Int) != 256) = true := by simp; omega
    have m0 := ox0 HZ.out
    have m1 := ox1 HZ.out
    have m2 := ox2 HZ.out
    have m3 := ox3 HZ.out
    have hfz := fun i => HZ.out.frozen i
    have xz := HZ.out.set4 (.int .u8 0) (.int .i64 0) (.int .i64 0) (.slice none 0 0)
    have bz := below_set4 HB.out HGE.out (.int .u8 0) (.int .i64 0) (.int .i64 0) (.slice none 0 0)
    obtain ⟨wz, hwz⟩ : ∃ X, (((w0.setCell ⟨g, 0, none⟩ (.int .u8 0)).setCell ⟨g, 1, none⟩ (.int .i64 0)).setCell ⟨g, 2, none⟩ (.int .i64 0)).setCell ⟨g, 3, none⟩ (.slice none 0 0) = X := ⟨_, rfl⟩
    rw [hwz] at xz bz
    have HXZ := Lib.hid xz
    have HBZ := Lib.hid bz
    clear xz bz h
    go_enter Tryz.func56, Tryz.ntmps56
    go_wp2_with fail
    clear hw0
    clear m0 m1 m2 m3 hfz hwz
    have e0 := ox0 HXZ.out
    have e1 := ox1 HXZ.out
    have e2 := ox2 HXZ.out
    have e3 := ox3 HXZ.out
    refine bodyPost_ret (v := .tuple #[.agg #[.int .u8 0, .int .i64 0, .int .i64 0, .slice none 0 0], .int .i64 3]) (by simp [results, Tryz.f56, go_sem, e0, e1, e2, e3]) rfl ?_
    exact outOp_no 3 HBZ.out
end Go.Proofs.YtbggkfomfeeikaaGreatDoor
/-
  The document's own Row, may and Ptrs of layer 15.
-/
namespace Go.Proofs.YtbggkfomfeeikaaGreatDoor
open Go.RowKit Go.Shelf
set_option maxRecDepth 100000

theorem infoPtr4 : (Tryz.prog.info? 32).map (fun i => (i.zero, i.size, i.bytes)) = some (some (.agg #[.int .i64 0, .int .u32 0, .int .u32 0, .int .u32 0, .int .u32 0]), 5, 24) := by kernel_rfl
/-- The cells of sixteen pointers that are none. -/
def noPts16 : Array Value := (ptCs (List.replicate 16 p0)).toArray
theorem noPts16_eq : madeCells #[.int .i64 0, .int .u32 0, .int .u32 0, .int .u32 0, .int .u32 0] (16 * 5) = noPts16 := by kernel_rfl
theorem make_none16 (W : World) : (Instr.makeSlice 35 (.int .i64 16) (.int .i64 16)).run Tryz.prog W = .ok (.slice (some ⟨W.heap.size, 0, none⟩) 16 16) (W.alloc (.cells noPts16 32)) := by
  obtain ⟨i0, hi, hz0, hz1, hz2⟩ := info_parts infoPtr4
  have hr := run_make (P := Tryz.prog) W 35 32 i0 (.agg #[.int .i64 0, .int .u32 0, .int .u32 0, .int .u32 0, .int .u32 0]) Tryz.underlying35 hi hz0 .i64 .i64 16 16 (by omega) (Int.le_refl _) (by rw [hz2]; omega) (by omega)
  rw [hz1] at hr
  rw [← noPts16_eq]
  exact hr
theorem none16_pts {w : World} {g : Nat} (h : Blk w g 32 noPts16) : Pts w w.heap.size (some ⟨g, 0, none⟩) 16 16 (List.replicate 16 p0) :=
  ⟨rfl, Nat.le_refl _, by unfold maxLen; omega, fun e => (by cases e), fun _ => ⟨g, 0, rfl, h.lt, fun i hi => ⟨by rw [List.getElem_replicate]; exact wf_p0, fun j u hu => by
    have := ptCs_get (List.replicate 16 p0) i hi j u hu
    rw [Nat.zero_add, h.cell]
    exact (List.getElem?_toArray ..).trans this⟩⟩⟩
set_option maxHeartbeats 4000000 in
theorem rsRow_any (L : Nat) (x : SAt) (S : StL) (p : Pt) (w : World) (h : StP L w x S) (hm : MayS S) (hmp : MayP p) (hL : L ≤ w.heap.size) : Calls Tryz.prog 36 #[stV x S, ptV p] w (OutLs (rowSO S p) w) := by
  have hmp2 := hmp
  obtain ⟨pa, pb, pi, pt, ps⟩ := p
  obtain ⟨w0, hw0, b0, z0, q1, q2⟩ := two_al w (stC x S) (ptA (pa, pb, pi, pt, ps)) 30 32
  obtain ⟨g, hg⟩ : ∃ g, w.heap.size = g := ⟨_, rfl⟩
  obtain ⟨g1, hg1⟩ : ∃ g1, g + 1 = g1 := ⟨_, rfl⟩
  rw [hg] at q1 q2
  rw [hg1] at q2
  have HX := Lib.hid q1
  have HQ := Lib.hid q2
  have HT := Lib.hid (h.bel b0)
  have HB := Lib.hid b0
  have HLW := Lib.hid (show L ≤ w0.heap.size from Nat.le_trans hL b0.size)
  simp only [stC, ptA] at hw0
  clear h b0 z0 q1 q2 hL
  by_cases hp0 : ((pa, pb, pi, pt, ps) : Pt) = p0
  · have hnn : eqP (pa, pb, pi, pt, ps) p0 = true := (eqP_iff _ _).2 hp0
    have HO := Lib.hid (show rowSO S (pa, pb, pi, pt, ps) = (List.replicate 16 p0, 0) by rw [hp0]; exact rowSO_none S)
    clear hp0
    have q0 := bx0 HQ.out
    have q1 := bx1 HQ.out
    have q2 := bx2 HQ.out
    have q3 := bx3 HQ.out
    have q4 := bx4 HQ.out
    go_enter Tryz.func36, Tryz.ntmps36
    go_wp2_with fail
    try rw [hw0]
    try rw [hg]
    try rw [hg1]
    clear hw0 hg hg1
    clear q0 q1 q2 q3 q4
    refine (rpNone_any (pa, pb, pi, pt, ps) w0).mono ?_
    rintro e w1 ⟨rfl, b1⟩
    replace HX := Lib.hid (HX.out.below b1 HX.out.lt)
    replace HQ := Lib.hid (HQ.out.below b1 HQ.out.lt)
    replace HT := Lib.hid (HT.out.bel b1)
    replace HB := Lib.hid (HB.out.trans (b1.mono HB.out.size))
    replace HLW := Lib.hid (Nat.le_trans HLW.out b1.size)
    clear b1
    rw [hnn]
    have hmk := make_none16 w1
    have bm := (Below.refl w1.heap.size w1).alloc (Nat.le_refl _) (.cells noPts16 32)
    have xm := Blk.new w1 32 noPts16
    clear hnn
    go_wp2_with fail
    go_ret2
    rw [HO.out]
    exact ⟨_, _, rfl, none16_pts xm, (fun p e => by cases e; exact HB.out.size), HB.out.trans (bm.mono HB.out.size)⟩
  · have hnn : eqP (pa, pb, pi, pt, ps) p0 = false := decide_eq_false hp0
    obtain ⟨⟨sb, se⟩, hse⟩ : ∃ o, seenO S (pa, pb, pi, pt, ps) = o := ⟨_, rfl⟩
    have hsn := fun W hW hLW => rtSeen_any L x S (pa, pb, pi, pt, ps) W hW hm hmp hLW
    rw [hse] at hsn
    have HSE := Lib.hid hsn
    clear hsn
    by_cases he : se ≠ 0
    · have HO := Lib.hid (show rowSO S (pa, pb, pi, pt, ps) = ([], se) by unfold rowSO; rw [if_neg hp0, hse, if_pos he])
      have e1 : ((se : Int) != 0) = true := by simp; omega
      clear hp0 hse he
      have q0 := bx0 HQ.out
      have q1 := bx1 HQ.out
      have q2 := bx2 HQ.out
      have q3 := bx3 HQ.out
      have q4 := bx4 HQ.out
      go_enter Tryz.func36, Tryz.ntmps36
      go_wp2_with fail
      try rw [hw0]
      try rw [hg]
      try rw [hg1]
      clear hw0 hg hg1
      clear q0 q1 q2 q3 q4
      refine (rpNone_any (pa, pb, pi, pt, ps) w0).mono ?_
      rintro e w1 ⟨rfl, b1⟩
      replace HX := Lib.hid (HX.out.below b1 HX.out.lt)
      replace HQ := Lib.hid (HQ.out.below b1 HQ.out.lt)
      replace HT := Lib.hid (HT.out.bel b1)
      replace HB := Lib.hid (HB.out.trans (b1.mono HB.out.size))
      replace HLW := Lib.hid (Nat.le_trans HLW.out b1.size)
      clear b1
      rw [hnn]
      have d0 := bx0 HX.out
      have d1 := bx1 HX.out
      have d2 := bx2 HX.out
      have d3 := bx3 HX.out
      have d4 := bx4 HX.out
      have q0 := bx0 HQ.out
      have q1 := bx1 HQ.out
      have q2 := bx2 HQ.out
      have q3 := bx3 HQ.out
      have q4 := bx4 HQ.out
      go_wp2_with fail
      clear d0 d1 d2 d3 d4
      clear q0 q1 q2 q3 q4
      refine (HSE.out w1 HT.out HLW.out).mono ?_
      rintro e w2 ⟨v, rfl, hv, b2⟩
      replace HX := Lib.hid (HX.out.below b2 HX.out.lt)
      replace HQ := Lib.hid (HQ.out.below b2 HQ.out.lt)
      replace HT := Lib.hid (HT.out.bel b2)
      replace HB := Lib.hid (HB.out.trans (b2.mono HB.out.size))
      replace HLW := Lib.hid (Nat.le_trans HLW.out b2.size)
      obtain ⟨av, cv, rfl⟩ := own_slice hv
      clear b2 hv
      go_wp2_with fail
      go_ret2
      rw [HO.out]
      exact outLs_no se HB.out
    · obtain rfl : se = 0 := by omega
      have hlen := seenO_len hm hmp hse
      have e1 : (((0 : Nat) : Int) != 0) = false := rfl
      have HP0 := Lib.hid hp0
      have HSO := Lib.hid hse
      have HLN := Lib.hid hlen
      clear hp0 hse hlen he
      rcases rowsO_cases sb with ⟨f, hf, hfn⟩ | ⟨_, _, hf⟩
      · have HO := Lib.hid (show rowSO S (pa, pb, pi, pt, ps) = ([], 8) by unfold rowSO; rw [if_neg HP0.out, HSO.out, if_neg (fun h => h rfl), hf, if_pos hfn])
        have e2 : (f != 0) = true := by simpa using hfn
        have q0 := bx0 HQ.out
        have q1 := bx1 HQ.out
        have q2 := bx2 HQ.out
        have q3 := bx3 HQ.out
        have q4 := bx4 HQ.out
        go_enter Tryz.func36, Tryz.ntmps36
        go_wp2_with fail
        try rw [hw0]
        try rw [hg]
        try rw [hg1]
        clear hw0 hg hg1
        clear q0 q1 q2 q3 q4
        refine (rpNone_any (pa, pb, pi, pt, ps) w0).mono ?_
        rintro e w1 ⟨rfl, b1⟩
        replace HX := Lib.hid (HX.out.below b1 HX.out.lt)
        replace HQ := Lib.hid (HQ.out.below b1 HQ.out.lt)
        replace HT := Lib.hid (HT.out.bel b1)
        replace HB := Lib.hid (HB.out.trans (b1.mono HB.out.size))
        replace HLW := Lib.hid (Nat.le_trans HLW.out b1.size)
        clear b1
        rw [hnn]
        have d0 := bx0 HX.out
        have d1 := bx1 HX.out
        have d2 := bx2 HX.out
        have d3 := bx3 HX.out
        have d4 := bx4 HX.out
        have q0 := bx0 HQ.out
        have q1 := bx1 HQ.out
        have q2 := bx2 HQ.out
        have q3 := bx3 HQ.out
        have q4 := bx4 HQ.out
        go_wp2_with fail
        clear d0 d1 d2 d3 d4
        clear q0 q1 q2 q3 q4
        refine (HSE.out w1 HT.out HLW.out).mono ?_
        rintro e w2 ⟨v, rfl, hv, b2⟩
        replace HX := Lib.hid (HX.out.below b2 HX.out.lt)
        replace HQ := Lib.hid (HQ.out.below b2 HQ.out.lt)
        replace HT := Lib.hid (HT.out.bel b2)
        replace HB := Lib.hid (HB.out.trans (b2.mono HB.out.size))
        replace HLW := Lib.hid (Nat.le_trans HLW.out b2.size)
        simp only [HLN.out] at hv
        obtain ⟨av, cv, rfl⟩ := own_slice hv
        have hrw := rpRows_any av 256 cv sb w2 (own_bsl hv)
        rw [hf] at hrw
        have HRW := Lib.hid hrw
        clear b2 hv hrw
        go_wp2_with fail
        refine HRW.out.mono ?_
        rintro e w3 ⟨v3, rfl, hp3, b3⟩
        have HB2 := Lib.hid (show w.heap.size ≤ w2.heap.size from HB.out.size)
        replace HX := Lib.hid (HX.out.below b3 HX.out.lt)
        replace HQ := Lib.hid (HQ.out.below b3 HQ.out.lt)
        replace HT := Lib.hid (HT.out.bel b3)
        replace HB := Lib.hid (HB.out.trans (b3.mono HB.out.size))
        replace HLW := Lib.hid (Nat.le_trans HLW.out b3.size)
        obtain ⟨a3, c3, rfl, ht3⟩ := hp3.pts
        have hh3 := prow_hi hp3
        clear b3 hp3
        go_wp2_with fail
        go_ret2
        rw [HO.out]
        exact outLs_no 8 HB.out
      · have HO := Lib.hid (show rowSO S (pa, pb, pi, pt, ps) = (rowsL sb, 0) by unfold rowSO; rw [if_neg HP0.out, HSO.out, if_neg (fun h => h rfl), hf, if_neg (fun h => h rfl)])
        have q0 := bx0 HQ.out
        have q1 := bx1 HQ.out
        have q2 := bx2 HQ.out
        have q3 := bx3 HQ.out
        have q4 := bx4 HQ.out
        go_enter Tryz.func36, Tryz.ntmps36
        go_wp2_with fail
        try rw [hw0]
        try rw [hg]
        try rw [hg1]
        clear hw0 hg hg1
        clear q0 q1 q2 q3 q4
        refine (rpNone_any (pa, pb, pi, pt, ps) w0).mono ?_
        rintro e w1 ⟨rfl, b1⟩
        replace HX := Lib.hid (HX.out.below b1 HX.out.lt)
        replace HQ := Lib.hid (HQ.out.below b1 HQ.out.lt)
        replace HT := Lib.hid (HT.out.bel b1)
        replace HB := Lib.hid (HB.out.trans (b1.mono HB.out.size))
        replace HLW := Lib.hid (Nat.le_trans HLW.out b1.size)
        clear b1
        rw [hnn]
        have d0 := bx0 HX.out
        have d1 := bx1 HX.out
        have d2 := bx2 HX.out
        have d3 := bx3 HX.out
        have d4 := bx4 HX.out
        have q0 := bx0 HQ.out
        have q1 := bx1 HQ.out
        have q2 := bx2 HQ.out
        have q3 := bx3 HQ.out
        have q4 := bx4 HQ.out
        go_wp2_with fail
        clear d0 d1 d2 d3 d4
        clear q0 q1 q2 q3 q4
        refine (HSE.out w1 HT.out HLW.out).mono ?_
        rintro e w2 ⟨v, rfl, hv, b2⟩
        replace HX := Lib.hid (HX.out.below b2 HX.out.lt)
        replace HQ := Lib.hid (HQ.out.below b2 HQ.out.lt)
        replace HT := Lib.hid (HT.out.bel b2)
        replace HB := Lib.hid (HB.out.trans (b2.mono HB.out.size))
        replace HLW := Lib.hid (Nat.le_trans HLW.out b2.size)
        simp only [HLN.out] at hv
        obtain ⟨av, cv, rfl⟩ := own_slice hv
        have hrw := rpRows_any av 256 cv sb w2 (own_bsl hv)
        rw [hf] at hrw
        have HRW := Lib.hid hrw
        clear b2 hv hrw
        go_wp2_with fail
        refine HRW.out.mono ?_
        rintro e w3 ⟨v3, rfl, hp3, b3⟩
        have HB2 := Lib.hid (show w.heap.size ≤ w2.heap.size from HB.out.size)
        replace HX := Lib.hid (HX.out.below b3 HX.out.lt)
        replace HQ := Lib.hid (HQ.out.below b3 HQ.out.lt)
        replace HT := Lib.hid (HT.out.bel b3)
        replace HB := Lib.hid (HB.out.trans (b3.mono HB.out.size))
        replace HLW := Lib.hid (Nat.le_trans HLW.out b3.size)
        obtain ⟨a3, c3, rfl, ht3⟩ := hp3.pts
        have hh3 := prow_hi hp3
        clear b3 hp3
        go_wp2_with fail
        go_ret2
        rw [HO.out]
        exact ⟨_, _, rfl, ht3, hh3.less HB2.out, HB.out⟩
theorem rsMay_any (L : Nat) (x : SAt) (S : StL) (p : Pt) (w : World) (h : StP L w x S) (hL : L ≤ w.heap.size) (R : Bool) (hR : R = true ↔ MayS S ∧ MayP p) : Calls Tryz.prog 35 #[stV x S, ptV p] w fun e w' => e = .returned (.bool R) ∧ Below w.heap.size w w' := by
  obtain ⟨pa, pb, pi, pt, ps⟩ := p
  obtain ⟨w0, hw0, b0, z0, q1, q2⟩ := two_al w (stC x S) (ptA (pa, pb, pi, pt, ps)) 30 32
  obtain ⟨g, hg⟩ : ∃ g, w.heap.size = g := ⟨_, rfl⟩
  obtain ⟨g1, hg1⟩ : ∃ g1, g + 1 = g1 := ⟨_, rfl⟩
  rw [hg] at q1 q2
  rw [hg1] at q2
  have HX := Lib.hid q1
  have HQ := Lib.hid q2
  have HT := Lib.hid (h.bel b0)
  have HB := Lib.hid b0
  have HLW := Lib.hid (show L ≤ w0.heap.size from Nat.le_trans hL b0.size)
  simp only [stC, ptA] at hw0
  clear h b0 z0 q1 q2 hL
  by_cases hm : MayS S
  · by_cases hmp : MayP (pa, pb, pi, pt, ps)
    · have HMY := Lib.hid (rtMay_any L x S w0 HT.out true ⟨fun _ => hm, fun _ => rfl⟩)
      obtain rfl : R = true := hR.2 ⟨hm, hmp⟩
      have HPM := Lib.hid (rpMay_any (pa, pb, pi, pt, ps))
      have hde : decide (MayP (pa, pb, pi, pt, ps)) = true := decide_eq_true hmp
      clear hR hm hmp
      have d0 := bx0 HX.out
      have d1 := bx1 HX.out
      have d2 := bx2 HX.out
      have d3 := bx3 HX.out
      have d4 := bx4 HX.out
      go_enter Tryz.func35, Tryz.ntmps35
      go_wp2_with fail
      try rw [hw0]
      try rw [hg]
      try rw [hg1]
      clear hw0 hg hg1
      clear d0 d1 d2 d3 d4
      refine HMY.out.mono ?_
      rintro e w1 ⟨rfl, b1⟩
      replace HX := Lib.hid (HX.out.below b1 HX.out.lt)
      replace HQ := Lib.hid (HQ.out.below b1 HQ.out.lt)
      replace HT := Lib.hid (HT.out.bel b1)
      replace HB := Lib.hid (HB.out.trans (b1.mono HB.out.size))
      replace HLW := Lib.hid (Nat.le_trans HLW.out b1.size)
      clear b1 HMY
      have q0 := bx0 HQ.out
      have q1 := bx1 HQ.out
      have q2 := bx2 HQ.out
      have q3 := bx3 HQ.out
      have q4 := bx4 HQ.out
      go_wp2_with fail
      clear q0 q1 q2 q3 q4
      refine (HPM.out w1).mono ?_
      rintro e w2 ⟨rfl, b2⟩
      replace HX := Lib.hid (HX.out.below b2 HX.out.lt)
      replace HQ := Lib.hid (HQ.out.below b2 HQ.out.lt)
      replace HT := Lib.hid (HT.out.bel b2)
      replace HB := Lib.hid (HB.out.trans (b2.mono HB.out.size))
      replace HLW := Lib.hid (Nat.le_trans HLW.out b2.size)
      rw [hde]
      clear b2 HPM hde
      go_wp2_with fail
      go_ret
      exact ⟨rfl, HB.out⟩
    · have HMY := Lib.hid (rtMay_any L x S w0 HT.out true ⟨fun _ => hm, fun _ => rfl⟩)
      obtain rfl : R = false := by cases R with | false => rfl | true => exact absurd (hR.1 rfl).2 hmp
      have HPM := Lib.hid (rpMay_any (pa, pb, pi, pt, ps))
      have hde : decide (MayP (pa, pb, pi, pt, ps)) = false := decide_eq_false hmp
      clear hR hm hmp
      have d0 := bx0 HX.out
      have d1 := bx1 HX.out
      have d2 := bx2 HX.out
      have d3 := bx3 HX.out
      have d4 := bx4 HX.out
      go_enter Tryz.func35, Tryz.ntmps35
      go_wp2_with fail
      try rw [hw0]
      try rw [hg]
      try rw [hg1]
      clear hw0 hg hg1
      clear d0 d1 d2 d3 d4
      refine HMY.out.mono ?_
      rintro e w1 ⟨rfl, b1⟩
      replace HX := Lib.hid (HX.out.below b1 HX.out.lt)
      replace HQ := Lib.hid (HQ.out.below b1 HQ.out.lt)
      replace HT := Lib.hid (HT.out.bel b1)
      replace HB := Lib.hid (HB.out.trans (b1.mono HB.out.size))
      replace HLW := Lib.hid (Nat.le_trans HLW.out b1.size)
      clear b1 HMY
      have q0 := bx0 HQ.out
      have q1 := bx1 HQ.out
      have q2 := bx2 HQ.out
      have q3 := bx3 HQ.out
      have q4 := bx4 HQ.out
      go_wp2_with fail
      clear q0 q1 q2 q3 q4
      refine (HPM.out w1).mono ?_
      rintro e w2 ⟨rfl, b2⟩
      replace HX := Lib.hid (HX.out.below b2 HX.out.lt)
      replace HQ := Lib.hid (HQ.out.below b2 HQ.out.lt)
      replace HT := Lib.hid (HT.out.bel b2)
      replace HB := Lib.hid (HB.out.trans (b2.mono HB.out.size))
      replace HLW := Lib.hid (Nat.le_trans HLW.out b2.size)
      rw [hde]
      clear b2 HPM hde
      go_wp2_with fail
      go_ret
      exact ⟨rfl, HB.out⟩
  · have HMY := Lib.hid (rtMay_any L x S w0 HT.out false ⟨fun h => (by cases h), fun h => absurd h hm⟩)
    obtain rfl : R = false := by cases R with | false => rfl | true => exact absurd (hR.1 rfl).1 hm
    clear hR hm
    have d0 := bx0 HX.out
    have d1 := bx1 HX.out
    have d2 := bx2 HX.out
    have d3 := bx3 HX.out
    have d4 := bx4 HX.out
    go_enter Tryz.func35, Tryz.ntmps35
    go_wp2_with fail
    try rw [hw0]
    try rw [hg]
    try rw [hg1]
    clear hw0 hg hg1
    clear d0 d1 d2 d3 d4
    refine HMY.out.mono ?_
    rintro e w1 ⟨rfl, b1⟩
    replace HX := Lib.hid (HX.out.below b1 HX.out.lt)
    replace HQ := Lib.hid (HQ.out.below b1 HQ.out.lt)
    replace HT := Lib.hid (HT.out.bel b1)
    replace HB := Lib.hid (HB.out.trans (b1.mono HB.out.size))
    replace HLW := Lib.hid (Nat.le_trans HLW.out b1.size)
    clear b1 HMY
    go_wp2_with fail
    go_ret
    exact ⟨rfl, HB.out⟩
theorem rsPtrs_any (L : Nat) (x : SAt) (S : StL) (p : Pt) (w : World) (h : StP L w x S) (hL : L ≤ w.heap.size) : Calls Tryz.prog 16 #[stV x S, ptV p] w (OutLs (ptrsSO S p) w) := by
  obtain ⟨pa, pb, pi, pt, ps⟩ := p
  obtain ⟨w0, hw0, b0, z0, q1, q2⟩ := two_al w (stC x S) (ptA (pa, pb, pi, pt, ps)) 30 32
  obtain ⟨g, hg⟩ : ∃ g, w.heap.size = g := ⟨_, rfl⟩
  obtain ⟨g1, hg1⟩ : ∃ g1, g + 1 = g1 := ⟨_, rfl⟩
  rw [hg] at q1 q2
  rw [hg1] at q2
  have HX := Lib.hid q1
  have HQ := Lib.hid q2
  have HT := Lib.hid (h.bel b0)
  have HB := Lib.hid b0
  have HLW := Lib.hid (show L ≤ w0.heap.size from Nat.le_trans hL b0.size)
  simp only [stC, ptA] at hw0
  clear h b0 z0 q1 q2 hL
  by_cases hm : MayS S ∧ MayP (pa, pb, pi, pt, ps)
  · have HMY := Lib.hid (rsMay_any L x S (pa, pb, pi, pt, ps) w0 HT.out HLW.out true ⟨fun _ => hm, fun _ => rfl⟩)
    have HO := Lib.hid (ptrsSO_may hm.1 hm.2)
    have HRW := Lib.hid (fun W hW hLW => rsRow_any L x S (pa, pb, pi, pt, ps) W hW hm.1 hm.2 hLW)
    clear hm
    have d0 := bx0 HX.out
    have d1 := bx1 HX.out
    have d2 := bx2 HX.out
    have d3 := bx3 HX.out
    have d4 := bx4 HX.out
    have q0 := bx0 HQ.out
    have q1 := bx1 HQ.out
    have q2 := bx2 HQ.out
    have q3 := bx3 HQ.out
    have q4 := bx4 HQ.out
    go_enter Tryz.func16, Tryz.ntmps16
    go_wp2_with fail
    try rw [hw0]
    try rw [hg]
    try rw [hg1]
    clear hw0 hg hg1
    clear d0 d1 d2 d3 d4
    clear q0 q1 q2 q3 q4
    refine HMY.out.mono ?_
    rintro e w1 ⟨rfl, b1⟩
    replace HX := Lib.hid (HX.out.below b1 HX.out.lt)
    replace HQ := Lib.hid (HQ.out.below b1 HQ.out.lt)
    replace HT := Lib.hid (HT.out.bel b1)
    replace HB := Lib.hid (HB.out.trans (b1.mono HB.out.size))
    replace HLW := Lib.hid (Nat.le_trans HLW.out b1.size)
    clear b1 HMY
    have d0 := bx0 HX.out
    have d1 := bx1 HX.out
    have d2 := bx2 HX.out
    have d3 := bx3 HX.out
    have d4 := bx4 HX.out
    have q0 := bx0 HQ.out
    have q1 := bx1 HQ.out
    have q2 := bx2 HQ.out
    have q3 := bx3 HQ.out
    have q4 := bx4 HQ.out
    go_wp2_with fail
    clear d0 d1 d2 d3 d4
    clear q0 q1 q2 q3 q4
    refine (HRW.out w1 HT.out HLW.out).mono ?_
    rintro e w2 ⟨a2, c2, rfl, ht2, hh2, b2⟩
    have HB1 := Lib.hid (show w.heap.size ≤ w1.heap.size from HB.out.size)
    replace HX := Lib.hid (HX.out.below b2 HX.out.lt)
    replace HQ := Lib.hid (HQ.out.below b2 HQ.out.lt)
    replace HT := Lib.hid (HT.out.bel b2)
    replace HB := Lib.hid (HB.out.trans (b2.mono HB.out.size))
    replace HLW := Lib.hid (Nat.le_trans HLW.out b2.size)
    clear b2 HRW
    go_wp2_with fail
    go_ret2
    rw [HO.out]
    exact ⟨_, _, rfl, ht2, hh2.less HB1.out, HB.out⟩
  · have HMY := Lib.hid (rsMay_any L x S (pa, pb, pi, pt, ps) w0 HT.out HLW.out false ⟨fun h => (by cases h), fun h => absurd h hm⟩)
    have HO := Lib.hid (ptrsSO_no hm)
    clear hm
    have d0 := bx0 HX.out
    have d1 := bx1 HX.out
    have d2 := bx2 HX.out
    have d3 := bx3 HX.out
    have d4 := bx4 HX.out
    have q0 := bx0 HQ.out
    have q1 := bx1 HQ.out
    have q2 := bx2 HQ.out
    have q3 := bx3 HQ.out
    have q4 := bx4 HQ.out
    go_enter Tryz.func16, Tryz.ntmps16
    go_wp2_with fail
    try rw [hw0]
    try rw [hg]
    try rw [hg1]
    clear hw0 hg hg1
    clear d0 d1 d2 d3 d4
    clear q0 q1 q2 q3 q4
    refine HMY.out.mono ?_
    rintro e w1 ⟨rfl, b1⟩
    replace HX := Lib.hid (HX.out.below b1 HX.out.lt)
    replace HQ := Lib.hid (HQ.out.below b1 HQ.out.lt)
    replace HT := Lib.hid (HT.out.bel b1)
    replace HB := Lib.hid (HB.out.trans (b1.mono HB.out.size))
    replace HLW := Lib.hid (Nat.le_trans HLW.out b1.size)
    clear b1 HMY
    go_wp2_with fail
    go_ret2
    rw [HO.out]
    exact outLs_no 8 HB.out
end Go.Proofs.YtbggkfomfeeikaaGreatDoor
/-
  Set's own mayBe, ptrsOf, objectOf, Ptrs and Object: what they answer, in new memory; nothing that was there is written.
-/
namespace Go.Proofs.YtbggkfomfeeikaaGreatDoor
open Go.RowKit Go.Shelf
set_option maxRecDepth 100000

theorem seCheck_yes (L : Nat) (x : SAt) (S : StL) (w : World) (h : StP L w x S) (hL : L ≤ w.heap.size) (hm : MayS S) : Calls Tryz.prog 23 #[stV x S] w fun e w' => e = .returned (.int .i64 0) ∧ Below w.heap.size w w' := stCheck_all L x S w h hL 0 ⟨fun _ => rfl, fun h => absurd hm h⟩
theorem seCheck_no (L : Nat) (x : SAt) (S : StL) (w : World) (h : StP L w x S) (hL : L ≤ w.heap.size) (hm : ¬ MayS S) : Calls Tryz.prog 23 #[stV x S] w fun e w' => e = .returned (.int .i64 8) ∧ Below w.heap.size w w' := stCheck_all L x S w h hL 8 ⟨fun h => absurd h hm, fun _ => rfl⟩
theorem sePtr_chk (p : Pt) (w : World) (c : Int) (hc : pcheckO p = c) : Calls Tryz.prog 50 #[ptV p] w fun e w' => e = .returned (.int .i64 c) ∧ Below w.heap.size w w' := hc ▸ Check_any p w
theorem rowsO_c {s : List UInt8} (h : s.length = 256) : (rowsO s = ([], 8)) ∨ ((∀ p ∈ rowsL s, MayP p) ∧ rowsO s = (rowsL s, 0)) := by
  unfold rowsO
  rw [if_pos h]
  by_cases h2 : ∀ p ∈ rowsL s, MayP p
  · rw [if_pos h2]
    exact .inr ⟨h2, rfl⟩
  · rw [if_neg h2]
    exact .inl rfl
theorem oreadO_c {b : List UInt8} (h : b.length = 256) : (oreadO b = (ob0, 8)) ∨ (MayOb (decOb b) ∧ oreadO b = (decOb b, 0)) := by
  unfold oreadO
  rw [if_pos h]
  by_cases h2 : MayOb (decOb b) ∧ blockOb (decOb b) = b
  · rw [if_pos h2]
    exact .inr ⟨h2.1, rfl⟩
  · rw [if_neg h2]
    exact .inl rfl
theorem outOp_bad {w w' : World} {e : Ending} (h : OutOp (ob0, 8) w e w') : ∃ a c, e = .returned (.tuple #[.agg #[.int .u8 0, .int .i64 0, .int .i64 0, .slice a 0 c], .int .i64 8]) ∧ Pts w' w'.heap.size a 0 c [] ∧ HiP w' w.heap.size a ∧ Below w.heap.size w w' := h
theorem HiP.hi {w : World} {B : Nat} {a : Option Addr} (h : HiP w B a) : HiA B a := fun p e => (h p e).1
theorem seMay_any (L : Nat) (x : SAt) (S : StL) (p : Pt) (w : World) (h : StP L w x S) (hL : L ≤ w.heap.size) (R : Bool) (hR : R = true ↔ MayS S ∧ MayP p) : Calls Tryz.prog 29 #[stV x S, ptV p] w fun e w' => e = .returned (.bool R) ∧ Below w.heap.size w w' := by
  obtain ⟨pa, pb, pi, pt, ps⟩ := p
  obtain ⟨w0, hw0, b0, z0, q1, q2⟩ := two_al w (stC x S) (ptA (pa, pb, pi, pt, ps)) 30 32
  obtain ⟨g, hg⟩ : ∃ g, w.heap.size = g := ⟨_, rfl⟩
  obtain ⟨g1, hg1⟩ : ∃ g1, g + 1 = g1 := ⟨_, rfl⟩
  rw [hg] at q1 q2
  rw [hg1] at q2
  have HX := Lib.hid q1
  have HQ := Lib.hid q2
  have HT := Lib.hid (h.bel b0)
  have HB := Lib.hid b0
  have HLW := Lib.hid (show L ≤ w0.heap.size from Nat.le_trans hL b0.size)
  simp only [stC, ptA] at hw0
  clear h b0 z0 q1 q2 hL
  by_cases hm : MayS S
  · by_cases hmp : MayP (pa, pb, pi, pt, ps)
    · have HMY := Lib.hid (seCheck_yes L x S w0 HT.out HLW.out hm)
      obtain rfl : R = true := hR.2 ⟨hm, hmp⟩
      have HPM := Lib.hid (fun W => sePtr_chk (pa, pb, pi, pt, ps) W 0 (by unfold pcheckO; rw [if_pos hmp]))
      clear hR hm hmp
      have d0 := bx0 HX.out
      have d1 := bx1 HX.out
      have d2 := bx2 HX.out
      have d3 := bx3 HX.out
      have d4 := bx4 HX.out
      go_enter Tryz.func29, Tryz.ntmps29
      go_wp2_with fail
      try rw [hw0]
      try rw [hg]
      try rw [hg1]
      clear hw0 hg hg1
      clear d0 d1 d2 d3 d4
      refine HMY.out.mono ?_
      rintro e w1 ⟨rfl, b1⟩
      replace HX := Lib.hid (HX.out.below b1 HX.out.lt)
      replace HQ := Lib.hid (HQ.out.below b1 HQ.out.lt)
      replace HT := Lib.hid (HT.out.bel b1)
      replace HB := Lib.hid (HB.out.trans (b1.mono HB.out.size))
      replace HLW := Lib.hid (Nat.le_trans HLW.out b1.size)
      clear b1 HMY
      have q0 := bx0 HQ.out
      have q1 := bx1 HQ.out
      have q2 := bx2 HQ.out
      have q3 := bx3 HQ.out
      have q4 := bx4 HQ.out
      go_wp2_with fail
      clear q0 q1 q2 q3 q4
      refine (HPM.out w1).mono ?_
      rintro e w2 ⟨rfl, b2⟩
      replace HX := Lib.hid (HX.out.below b2 HX.out.lt)
      replace HQ := Lib.hid (HQ.out.below b2 HQ.out.lt)
      replace HT := Lib.hid (HT.out.bel b2)
      replace HB := Lib.hid (HB.out.trans (b2.mono HB.out.size))
      replace HLW := Lib.hid (Nat.le_trans HLW.out b2.size)
      clear b2 HPM
      go_wp2_with fail
      go_ret
      exact ⟨rfl, HB.out⟩
    · have HMY := Lib.hid (seCheck_yes L x S w0 HT.out HLW.out hm)
      obtain rfl : R = false := by cases R with | false => rfl | true => exact absurd (hR.1 rfl).2 hmp
      have HPM := Lib.hid (fun W => sePtr_chk (pa, pb, pi, pt, ps) W 8 (by unfold pcheckO; rw [if_neg hmp]))
      clear hR hm hmp
      have d0 := bx0 HX.out
      have d1 := bx1 HX.out
      have d2 := bx2 HX.out
      have d3 := bx3 HX.out
      have d4 := bx4 HX.out
      go_enter Tryz.func29, Tryz.ntmps29
      go_wp2_with fail
      try rw [hw0]
      try rw [hg]
      try rw [hg1]
      clear hw0 hg hg1
      clear d0 d1 d2 d3 d4
      refine HMY.out.mono ?_
      rintro e w1 ⟨rfl, b1⟩
      replace HX := Lib.hid (HX.out.below b1 HX.out.lt)
      replace HQ := Lib.hid (HQ.out.below b1 HQ.out.lt)
      replace HT := Lib.hid (HT.out.bel b1)
      replace HB := Lib.hid (HB.out.trans (b1.mono HB.out.size))
      replace HLW := Lib.hid (Nat.le_trans HLW.out b1.size)
      clear b1 HMY
      have q0 := bx0 HQ.out
      have q1 := bx1 HQ.out
      have q2 := bx2 HQ.out
      have q3 := bx3 HQ.out
      have q4 := bx4 HQ.out
      go_wp2_with fail
      clear q0 q1 q2 q3 q4
      refine (HPM.out w1).mono ?_
      rintro e w2 ⟨rfl, b2⟩
      replace HX := Lib.hid (HX.out.below b2 HX.out.lt)
      replace HQ := Lib.hid (HQ.out.below b2 HQ.out.lt)
      replace HT := Lib.hid (HT.out.bel b2)
      replace HB := Lib.hid (HB.out.trans (b2.mono HB.out.size))
      replace HLW := Lib.hid (Nat.le_trans HLW.out b2.size)
      clear b2 HPM
      go_wp2_with fail
      go_ret
      exact ⟨rfl, HB.out⟩
  · have HMY := Lib.hid (seCheck_no L x S w0 HT.out HLW.out hm)
    obtain rfl : R = false := by cases R with | false => rfl | true => exact absurd (hR.1 rfl).1 hm
    clear hR hm
    have d0 := bx0 HX.out
    have d1 := bx1 HX.out
    have d2 := bx2 HX.out
    have d3 := bx3 HX.out
    have d4 := bx4 HX.out
    go_enter Tryz.func29, Tryz.ntmps29
    go_wp2_with fail
    try rw [hw0]
    try rw [hg]
    try rw [hg1]
    clear hw0 hg hg1
    clear d0 d1 d2 d3 d4
    refine HMY.out.mono ?_
    rintro e w1 ⟨rfl, b1⟩
    replace HX := Lib.hid (HX.out.below b1 HX.out.lt)
    replace HQ := Lib.hid (HQ.out.below b1 HQ.out.lt)
    replace HT := Lib.hid (HT.out.bel b1)
    replace HB := Lib.hid (HB.out.trans (b1.mono HB.out.size))
    replace HLW := Lib.hid (Nat.le_trans HLW.out b1.size)
    clear b1 HMY
    go_wp2_with fail
    go_ret
    exact ⟨rfl, HB.out⟩
set_option maxHeartbeats 4000000 in
theorem seRow_any (L : Nat) (x : SAt) (S : StL) (p : Pt) (w : World) (h : StP L w x S) (hm : MayS S) (hmp : MayP p) (hwp : WfP p) (hL : L ≤ w.heap.size) (hz : Szs w) : Calls Tryz.prog 31 #[stV x S, ptV p] w (OutLs (rowSO S p) w) := by
  have hmp2 := hmp
  have hwp2 := hwp
  clear hmp hwp
  obtain ⟨pa, pb, pi, pt, ps⟩ := p
  obtain ⟨w0, hw0, b0, z0, q1, q2⟩ := two_al w (stC x S) (ptA (pa, pb, pi, pt, ps)) 30 32
  obtain ⟨g, hg⟩ : ∃ g, w.heap.size = g := ⟨_, rfl⟩
  obtain ⟨g1, hg1⟩ : ∃ g1, g + 1 = g1 := ⟨_, rfl⟩
  rw [hg] at q1 q2
  rw [hg1] at q2
  have HX := Lib.hid q1
  have HQ := Lib.hid q2
  have HT := Lib.hid (h.bel b0)
  have HB := Lib.hid b0
  have HLW := Lib.hid (show L ≤ w0.heap.size from Nat.le_trans hL b0.size)
  simp only [stC, ptA] at hw0
  clear h b0 z0 q1 q2 hL
  have HZ := Lib.hid (hz.step HB.out)
  clear hz
  by_cases hp0 : ((pa, pb, pi, pt, ps) : Pt) = p0
  · clear hm hmp2 hwp2
    have hnn : eqP (pa, pb, pi, pt, ps) p0 = true := (eqP_iff _ _).2 hp0
    have hne := eqPt_zero pa pb pi pt ps
    rw [hnn] at hne
    have HO := Lib.hid (show rowSO S (pa, pb, pi, pt, ps) = (List.replicate 16 p0, 0) by rw [hp0]; exact rowSO_none S)
    have hmk := make_none16 w0
    have bm := (Below.refl w0.heap.size w0).alloc (Nat.le_refl _) (.cells noPts16 32)
    have xm := Blk.new w0 32 noPts16
    clear hp0 hnn
    have q0 := bx0 HQ.out
    have q1 := bx1 HQ.out
    have q2 := bx2 HQ.out
    have q3 := bx3 HQ.out
    have q4 := bx4 HQ.out
    go_enter Tryz.func31, Tryz.ntmps31
    go_wp2_with fail
    try rw [hw0]
    try rw [hg]
    try rw [hg1]
    clear hw0 hg hg1
    clear q0 q1 q2 q3 q4
    go_ret2
    rw [HO.out]
    exact ⟨_, _, rfl, none16_pts xm, (fun p e => by cases e; exact HB.out.size), HB.out.trans (bm.mono HB.out.size)⟩
  · have hne := eqPt_zero pa pb pi pt ps
    rw [show eqP (pa, pb, pi, pt, ps) p0 = false from decide_eq_false hp0] at hne
    obtain ⟨⟨sb, se⟩, hse⟩ : ∃ o, seenO S (pa, pb, pi, pt, ps) = o := ⟨_, rfl⟩
    have hsn := fun W hW hLW => stLook_all L x S (pa, pb, pi, pt, ps) W hW hwp2 hLW
    rw [lookO_may hm hmp2, hse] at hsn
    have HSE := Lib.hid hsn
    clear hsn hwp2
    by_cases he : se ≠ 0
    · clear hm hmp2
      have HO := Lib.hid (show rowSO S (pa, pb, pi, pt, ps) = ([], se) by unfold rowSO; rw [if_neg hp0, hse, if_pos he])
      have e1 : ((se : Int) != 0) = true := by simp; omega
      clear hp0 hse he
      have d0 := bx0 HX.out
      have d1 := bx1 HX.out
      have d2 := bx2 HX.out
      have d3 := bx3 HX.out
      have d4 := bx4 HX.out
      have q0 := bx0 HQ.out
      have q1 := bx1 HQ.out
      have q2 := bx2 HQ.out
      have q3 := bx3 HQ.out
      have q4 := bx4 HQ.out
      go_enter Tryz.func31, Tryz.ntmps31
      go_wp2_with fail
      try rw [hw0]
      try rw [hg]
      try rw [hg1]
      clear hw0 hg hg1
      clear d0 d1 d2 d3 d4
      clear q0 q1 q2 q3 q4
      refine (HSE.out w0 HT.out HLW.out).mono ?_
      rintro e w2 ⟨v, rfl, hv, b2⟩
      replace HX := Lib.hid (HX.out.below b2 HX.out.lt)
      replace HQ := Lib.hid (HQ.out.below b2 HQ.out.lt)
      replace HT := Lib.hid (HT.out.bel b2)
      replace HB := Lib.hid (HB.out.trans (b2.mono HB.out.size))
      replace HZ := Lib.hid (HZ.out.step b2)
      replace HLW := Lib.hid (Nat.le_trans HLW.out b2.size)
      obtain ⟨av, cv, rfl⟩ := own_slice hv
      clear b2 hv
      go_wp2_with fail
      go_ret2
      rw [HO.out]
      exact outLs_no se HB.out
    · obtain rfl : se = 0 := by omega
      have hlen := seenO_len hm hmp2 hse
      have e1 : (((0 : Nat) : Int) != 0) = false := rfl
      have HP0 := Lib.hid hp0
      have HSO := Lib.hid hse
      have HLN := Lib.hid hlen
      clear hp0 hse he
      rcases rowsO_c hlen with hf | ⟨_, hf⟩
      · have HO := Lib.hid (show rowSO S (pa, pb, pi, pt, ps) = ([], 8) by unfold rowSO; rw [if_neg HP0.out, HSO.out, if_neg (fun h => h rfl), hf, if_pos (by decide)])
        clear hlen
        have d0 := bx0 HX.out
        have d1 := bx1 HX.out
        have d2 := bx2 HX.out
        have d3 := bx3 HX.out
        have d4 := bx4 HX.out
        have q0 := bx0 HQ.out
        have q1 := bx1 HQ.out
        have q2 := bx2 HQ.out
        have q3 := bx3 HQ.out
        have q4 := bx4 HQ.out
        go_enter Tryz.func31, Tryz.ntmps31
        go_wp2_with fail
        try rw [hw0]
        try rw [hg]
        try rw [hg1]
        clear hw0 hg hg1
        clear d0 d1 d2 d3 d4
        clear q0 q1 q2 q3 q4
        refine (HSE.out w0 HT.out HLW.out).mono ?_
        rintro e w2 ⟨v, rfl, hv, b2⟩
        replace HX := Lib.hid (HX.out.below b2 HX.out.lt)
        replace HQ := Lib.hid (HQ.out.below b2 HQ.out.lt)
        replace HT := Lib.hid (HT.out.bel b2)
        replace HB := Lib.hid (HB.out.trans (b2.mono HB.out.size))
        replace HZ := Lib.hid (HZ.out.step b2)
        replace HLW := Lib.hid (Nat.le_trans HLW.out b2.size)
        simp only [HLN.out] at hv
        obtain ⟨av, cv, rfl⟩ := own_slice hv
        have hrw := Rows_any av 256 cv sb w2 (own_bsl hv) HZ.out
        rw [hf] at hrw
        have HRW := Lib.hid hrw
        clear b2 hv hrw
        go_wp2_with fail
        refine HRW.out.mono ?_
        rintro e w3 ⟨v3, rfl, hp3, b3⟩
        have HB2 := Lib.hid (show w.heap.size ≤ w2.heap.size from HB.out.size)
        replace HX := Lib.hid (HX.out.below b3 HX.out.lt)
        replace HQ := Lib.hid (HQ.out.below b3 HQ.out.lt)
        replace HT := Lib.hid (HT.out.bel b3)
        replace HB := Lib.hid (HB.out.trans (b3.mono HB.out.size))
        replace HZ := Lib.hid (HZ.out.step b3)
        replace HLW := Lib.hid (Nat.le_trans HLW.out b3.size)
        obtain ⟨a3, c3, rfl, ht3⟩ := hp3.pts
        have hh3 := prow_hi hp3
        clear b3 hp3
        go_wp2_with fail
        go_ret2
        rw [HO.out]
        exact ⟨_, _, rfl, ht3, hh3.less HB2.out, HB.out⟩
      · have HO := Lib.hid (show rowSO S (pa, pb, pi, pt, ps) = (rowsL sb, 0) by unfold rowSO; rw [if_neg HP0.out, HSO.out, if_neg (fun h => h rfl), hf, if_neg (fun h => h rfl)])
        clear hlen
        have d0 := bx0 HX.out
        have d1 := bx1 HX.out
        have d2 := bx2 HX.out
        have d3 := bx3 HX.out
        have d4 := bx4 HX.out
        have q0 := bx0 HQ.out
        have q1 := bx1 HQ.out
        have q2 := bx2 HQ.out
        have q3 := bx3 HQ.out
        have q4 := bx4 HQ.out
        go_enter Tryz.func31, Tryz.ntmps31
        go_wp2_with fail
        try rw [hw0]
        try rw [hg]
        try rw [hg1]
        clear hw0 hg hg1
        clear d0 d1 d2 d3 d4
        clear q0 q1 q2 q3 q4
        refine (HSE.out w0 HT.out HLW.out).mono ?_
        rintro e w2 ⟨v, rfl, hv, b2⟩
        replace HX := Lib.hid (HX.out.below b2 HX.out.lt)
        replace HQ := Lib.hid (HQ.out.below b2 HQ.out.lt)
        replace HT := Lib.hid (HT.out.bel b2)
        replace HB := Lib.hid (HB.out.trans (b2.mono HB.out.size))
        replace HZ := Lib.hid (HZ.out.step b2)
        replace HLW := Lib.hid (Nat.le_trans HLW.out b2.size)
        simp only [HLN.out] at hv
        obtain ⟨av, cv, rfl⟩ := own_slice hv
        have hrw := Rows_any av 256 cv sb w2 (own_bsl hv) HZ.out
        rw [hf] at hrw
        have HRW := Lib.hid hrw
        clear b2 hv hrw
        go_wp2_with fail
        refine HRW.out.mono ?_
        rintro e w3 ⟨v3, rfl, hp3, b3⟩
        have HB2 := Lib.hid (show w.heap.size ≤ w2.heap.size from HB.out.size)
        replace HX := Lib.hid (HX.out.below b3 HX.out.lt)
        replace HQ := Lib.hid (HQ.out.below b3 HQ.out.lt)
        replace HT := Lib.hid (HT.out.bel b3)
        replace HB := Lib.hid (HB.out.trans (b3.mono HB.out.size))
        replace HZ := Lib.hid (HZ.out.step b3)
        replace HLW := Lib.hid (Nat.le_trans HLW.out b3.size)
        obtain ⟨a3, c3, rfl, ht3⟩ := hp3.pts
        have hh3 := prow_hi hp3
        clear b3 hp3
        go_wp2_with fail
        go_ret2
        rw [HO.out]
        exact ⟨_, _, rfl, ht3, hh3.less HB2.out, HB.out⟩
set_option maxHeartbeats 4000000 in
theorem seOne_any (L : Nat) (x : SAt) (S : StL) (p : Pt) (w : World) (h : StP L w x S) (hm : MayS S) (hmp : MayP p) (hwp : WfP p) (hL : L ≤ w.heap.size) (hz : Szs w) : Calls Tryz.prog 32 #[stV x S, ptV p] w (OutOs (oneSO S p) w) := by
  have hmp2 := hmp
  have hwp2 := hwp
  clear hmp hwp
  obtain ⟨pa, pb, pi, pt, ps⟩ := p
  obtain ⟨w0, hw0, b0, z0, q1, q2, q3⟩ := three_al w (stC x S) (ptA (pa, pb, pi, pt, ps)) #[.int .u8 0, .int .i64 0, .int .i64 0, .slice none 0 0] 30 32 40
  obtain ⟨g, hg⟩ : ∃ g, w.heap.size = g := ⟨_, rfl⟩
  obtain ⟨g1, hg1⟩ : ∃ g1, g + 1 = g1 := ⟨_, rfl⟩
  obtain ⟨g2, hg2⟩ : ∃ g2, g1 + 1 = g2 := ⟨_, rfl⟩
  rw [hg] at q1 q2 q3
  rw [hg1] at q2
  rw [show g + 2 = g1 + 1 by omega, hg2] at q3
  have HX := Lib.hid q1
  have HQ := Lib.hid q2
  have HZO := Lib.hid q3
  have HT := Lib.hid (h.bel b0)
  have HB := Lib.hid b0
  have HGE := Lib.hid (show w.heap.size ≤ g2 by omega)
  have HG2 := Lib.hid (show g2 < w0.heap.size by omega)
  have HGN := Lib.hid (show g ≠ g2 by omega)
  have HLW := Lib.hid (show L ≤ w0.heap.size from Nat.le_trans hL b0.size)
  simp only [stC, ptA] at hw0
  clear h b0 z0 q1 q2 q3 hL
  have HZ := Lib.hid (hz.step HB.out)
  clear hz
  obtain ⟨⟨sb, se⟩, hse⟩ : ∃ o, seenO S (pa, pb, pi, pt, ps) = o := ⟨_, rfl⟩
  have hsn := fun W hW hLW => stLook_all L x S (pa, pb, pi, pt, ps) W hW hwp2 hLW
  rw [lookO_may hm hmp2, hse] at hsn
  have HSE := Lib.hid hsn
  clear hsn hwp2
  by_cases he : se ≠ 0
  · have HO := Lib.hid (show oneSO S (pa, pb, pi, pt, ps) = (ob0, se) by unfold oneSO; rw [hse, if_pos he])
    have e1 : ((se : Int) != 0) = true := by simp; omega
    clear hse he hm hmp2
    have d0 := bx0 HX.out
    have d1 := bx1 HX.out
    have d2 := bx2 HX.out
    have d3 := bx3 HX.out
    have d4 := bx4 HX.out
    have q0 := bx0 HQ.out
    have q1 := bx1 HQ.out
    have q2 := bx2 HQ.out
    have q3 := bx3 HQ.out
    have q4 := bx4 HQ.out
    go_enter Tryz.func32, Tryz.ntmps32
    go_wp2_with fail
    try rw [hw0]
    try rw [hg]
    try rw [hg1]
    try rw [hg2]
    clear hw0 hg hg1 hg2
    clear d0 d1 d2 d3 d4
    clear q0 q1 q2 q3 q4
    refine (HSE.out w0 HT.out HLW.out).mono ?_
    rintro e w2 ⟨v, rfl, hv, b2⟩
    replace HX := Lib.hid (HX.out.below b2 HX.out.lt)
    replace HQ := Lib.hid (HQ.out.below b2 HQ.out.lt)
    replace HZO := Lib.hid (HZO.out.below b2 HZO.out.lt)
    replace HT := Lib.hid (HT.out.bel b2)
    replace HB := Lib.hid (HB.out.trans (b2.mono HB.out.size))
    replace HZ := Lib.hid (HZ.out.step b2)
    replace HLW := Lib.hid (Nat.le_trans HLW.out b2.size)
    obtain ⟨av, cv, rfl⟩ := own_slice hv
    clear b2 hv HSE
    have m0 := ox0 HZO.out
    have m1 := ox1 HZO.out
    have m2 := ox2 HZO.out
    have m3 := ox3 HZO.out
    have hfz := fun i => HZO.out.frozen i
    have xz := HZO.out.set4 (.int .u8 0) (.int .i64 0) (.int .i64 0) (.slice none 0 0)
    have bz := below_set4 HB.out HGE.out (.int .u8 0) (.int .i64 0) (.int .i64 0) (.slice none 0 0)
    obtain ⟨wz, hwz⟩ : ∃ X, (((w2.setCell ⟨g2, 0, none⟩ (.int .u8 0)).setCell ⟨g2, 1, none⟩ (.int .i64 0)).setCell ⟨g2, 2, none⟩ (.int .i64 0)).setCell ⟨g2, 3, none⟩ (.slice none 0 0) = X := ⟨_, rfl⟩
    rw [hwz] at xz bz
    have HXZ := Lib.hid xz
    have HBZ := Lib.hid bz
    clear xz bz
    go_wp2_with fail
    clear m0 m1 m2 m3 hfz hwz
    have e0 := ox0 HXZ.out
    have e1 := ox1 HXZ.out
    have e2 := ox2 HXZ.out
    have e3 := ox3 HXZ.out
    refine bodyPost_ret (v := .tuple #[.agg #[.int .u8 0, .int .i64 0, .int .i64 0, .slice none 0 0], .int .i64 se]) (by simp [results, Tryz.f32, go_sem, e0, e1, e2, e3]) rfl ?_
    rw [HO.out]
    exact outOs_no se HBZ.out
  · obtain rfl : se = 0 := by omega
    have hlen := seenO_len hm hmp2 hse
    have e1 : (((0 : Nat) : Int) != 0) = false := rfl
    have HSO := Lib.hid hse
    have HLN := Lib.hid hlen
    clear hse he hm hmp2
    rcases oreadO_c hlen with hf | ⟨hmo, hf⟩
    · have HO := Lib.hid (show oneSO S (pa, pb, pi, pt, ps) = (ob0, 8) by unfold oneSO; rw [HSO.out, if_neg (fun h => h rfl), hf, if_pos (by decide)])
      clear hlen
      have d0 := bx0 HX.out
      have d1 := bx1 HX.out
      have d2 := bx2 HX.out
      have d3 := bx3 HX.out
      have d4 := bx4 HX.out
      have q0 := bx0 HQ.out
      have q1 := bx1 HQ.out
      have q2 := bx2 HQ.out
      have q3 := bx3 HQ.out
      have q4 := bx4 HQ.out
      go_enter Tryz.func32, Tryz.ntmps32
      go_wp2_with fail
      try rw [hw0]
      try rw [hg]
      try rw [hg1]
      try rw [hg2]
      clear hw0 hg hg1 hg2
      clear d0 d1 d2 d3 d4
      clear q0 q1 q2 q3 q4
      refine (HSE.out w0 HT.out HLW.out).mono ?_
      rintro e w2 ⟨v, rfl, hv, b2⟩
      replace HX := Lib.hid (HX.out.below b2 HX.out.lt)
      replace HQ := Lib.hid (HQ.out.below b2 HQ.out.lt)
      replace HZO := Lib.hid (HZO.out.below b2 HZO.out.lt)
      replace HT := Lib.hid (HT.out.bel b2)
      replace HB := Lib.hid (HB.out.trans (b2.mono HB.out.size))
      replace HZ := Lib.hid (HZ.out.step b2)
      replace HLW := Lib.hid (Nat.le_trans HLW.out b2.size)
      simp only [HLN.out] at hv
      obtain ⟨av, cv, rfl⟩ := own_slice hv
      have hrd := obRead_any av cv sb w2 (by rw [HLN.out]; exact own_bsl hv) HZ.out
      rw [hf, HLN.out] at hrd
      have HRD := Lib.hid hrd
      have HB2 := Lib.hid (show w.heap.size ≤ w2.heap.size from HB.out.size)
      have HG3 := Lib.hid (show g2 < w2.heap.size from HZO.out.lt)
      clear b2 hv hrd HSE hf
      go_wp2_with fail
      refine HRD.out.mono ?_
      intro e w3 ho
      obtain ⟨a3, c3, rfl, ht3, hi3, b3⟩ := outOp_bad ho
      clear ho
      replace HX := Lib.hid (HX.out.below b3 HX.out.lt)
      replace HQ := Lib.hid (HQ.out.below b3 HQ.out.lt)
      replace HZO := Lib.hid (HZO.out.below b3 HZO.out.lt)
      replace HT := Lib.hid (HT.out.bel b3)
      replace HB := Lib.hid (HB.out.trans (b3.mono HB.out.size))
      replace HZ := Lib.hid (HZ.out.step b3)
      replace HLW := Lib.hid (Nat.le_trans HLW.out b3.size)
      clear b3 HRD
      have HP := Lib.hid ht3
      have HHI := Lib.hid hi3.hi
      clear ht3 hi3
      have m0 := ox0 HZO.out
      have m1 := ox1 HZO.out
      have m2 := ox2 HZO.out
      have m3 := ox3 HZO.out
      have hfz := fun i => HZO.out.frozen i
      have xz := HZO.out.set4 (.int .u8 0) (.int .i64 0) (.int .i64 0) (.slice a3 0 c3)
      have bz := below_set4 HB.out HGE.out (.int .u8 0) (.int .i64 0) (.int .i64 0) (.slice a3 0 c3)
      have hpz := HP.out.box4 (fun p e => Nat.lt_of_lt_of_le HG3.out (HHI.out p e)) (.int .u8 0) (.int .i64 0) (.int .i64 0) (.slice a3 0 c3)
      obtain ⟨wz, hwz⟩ : ∃ X, (((w3.setCell ⟨g2, 0, none⟩ (.int .u8 0)).setCell ⟨g2, 1, none⟩ (.int .i64 0)).setCell ⟨g2, 2, none⟩ (.int .i64 0)).setCell ⟨g2, 3, none⟩ (.slice a3 0 c3) = X := ⟨_, rfl⟩
      rw [hwz] at xz bz hpz
      have HXZ := Lib.hid xz
      have HBZ := Lib.hid bz
      clear xz bz
      have HPZ := Lib.hid (hpz.more (show w3.heap.size ≤ wz.heap.size by rw [← hwz]; simp [World.setCell]))
      clear hpz
      go_wp2_with fail
      clear m0 m1 m2 m3 hfz hwz
      have e0 := ox0 HXZ.out
      have e1 := ox1 HXZ.out
      have e2 := ox2 HXZ.out
      have e3 := ox3 HXZ.out
      refine bodyPost_ret (v := .tuple #[.agg #[.int .u8 0, .int .i64 0, .int .i64 0, .slice a3 0 c3], .int .i64 8]) (by simp [results, Tryz.f32, go_sem, e0, e1, e2, e3]) rfl ?_
      rw [HO.out]
      refine ⟨a3, c3, ?_, ?_, HHI.out.less HB2.out, HBZ.out⟩
      · rfl
      · exact HPZ.out
    · obtain ⟨O, hO⟩ : ∃ O, decOb sb = O := ⟨_, rfl⟩
      rw [hO] at hf hmo
      have HO := Lib.hid (show oneSO S (pa, pb, pi, pt, ps) = (O, 0) by unfold oneSO; rw [HSO.out, if_neg (fun h => h rfl), hf, if_neg (fun h => h rfl)])
      obtain ⟨k5, l5, r5, L5⟩ := O
      have h15 := hmo.1.2.2.2
      simp only at h15
      have H15 := Lib.hid h15
      clear hO hmo h15 hlen
      have d0 := bx0 HX.out
      have d1 := bx1 HX.out
      have d2 := bx2 HX.out
      have d3 := bx3 HX.out
      have d4 := bx4 HX.out
      have q0 := bx0 HQ.out
      have q1 := bx1 HQ.out
      have q2 := bx2 HQ.out
      have q3 := bx3 HQ.out
      have q4 := bx4 HQ.out
      go_enter Tryz.func32, Tryz.ntmps32
      go_wp2_with fail
      try rw [hw0]
      try rw [hg]
      try rw [hg1]
      try rw [hg2]
      clear hw0 hg hg1 hg2
      clear d0 d1 d2 d3 d4
      clear q0 q1 q2 q3 q4
      refine (HSE.out w0 HT.out HLW.out).mono ?_
      rintro e w2 ⟨v, rfl, hv, b2⟩
      replace HX := Lib.hid (HX.out.below b2 HX.out.lt)
      replace HQ := Lib.hid (HQ.out.below b2 HQ.out.lt)
      replace HZO := Lib.hid (HZO.out.below b2 HZO.out.lt)
      replace HT := Lib.hid (HT.out.bel b2)
      replace HB := Lib.hid (HB.out.trans (b2.mono HB.out.size))
      replace HZ := Lib.hid (HZ.out.step b2)
      replace HLW := Lib.hid (Nat.le_trans HLW.out b2.size)
      simp only [HLN.out] at hv
      obtain ⟨av, cv, rfl⟩ := own_slice hv
      have hrd := obRead_any av cv sb w2 (by rw [HLN.out]; exact own_bsl hv) HZ.out
      rw [hf, HLN.out] at hrd
      have HRD := Lib.hid hrd
      have HB2 := Lib.hid (show w.heap.size ≤ w2.heap.size from HB.out.size)
      have HG3 := Lib.hid (show g2 < w2.heap.size from HZO.out.lt)
      clear b2 hv hrd HSE hf
      go_wp2_with fail
      refine HRD.out.mono ?_
      rintro e w3 ⟨a3, c3, rfl, ht3, hi3, b3⟩
      replace HX := Lib.hid (HX.out.below b3 HX.out.lt)
      replace HQ := Lib.hid (HQ.out.below b3 HQ.out.lt)
      replace HZO := Lib.hid (HZO.out.below b3 HZO.out.lt)
      replace HT := Lib.hid (HT.out.bel b3)
      replace HB := Lib.hid (HB.out.trans (b3.mono HB.out.size))
      replace HZ := Lib.hid (HZ.out.step b3)
      replace HLW := Lib.hid (Nat.le_trans HLW.out b3.size)
      clear b3 HRD
      simp only [H15.out] at ht3 ⊢
      have HP := Lib.hid ht3
      have HHI := Lib.hid hi3.hi
      clear ht3 hi3
      have m0 := ox0 HZO.out
      have m1 := ox1 HZO.out
      have m2 := ox2 HZO.out
      have m3 := ox3 HZO.out
      have hfz := fun i => HZO.out.frozen i
      have xz := HZO.out.set4 (.int .u8 (k5 : Int)) (.int .i64 l5) (.int .i64 r5) (.slice a3 15 c3)
      have bz := below_set4 HB.out HGE.out (.int .u8 (k5 : Int)) (.int .i64 l5) (.int .i64 r5) (.slice a3 15 c3)
      have hpz := HP.out.box4 (fun p e => Nat.lt_of_lt_of_le HG3.out (HHI.out p e)) (.int .u8 (k5 : Int)) (.int .i64 l5) (.int .i64 r5) (.slice a3 15 c3)
      obtain ⟨wz, hwz⟩ : ∃ X, (((w3.setCell ⟨g2, 0, none⟩ (.int .u8 (k5 : Int))).setCell ⟨g2, 1, none⟩ (.int .i64 l5)).setCell ⟨g2, 2, none⟩ (.int .i64 r5)).setCell ⟨g2, 3, none⟩ (.slice a3 15 c3) = X := ⟨_, rfl⟩
      rw [hwz] at xz bz hpz
      have HXZ := Lib.hid xz
      have HBZ := Lib.hid bz
      clear xz bz
      have HPZ := Lib.hid (hpz.more (show w3.heap.size ≤ wz.heap.size by rw [← hwz]; simp [World.setCell]))
      clear hpz
      go_wp2_with fail
      clear m0 m1 m2 m3 hfz hwz
      have e0 := ox0 HXZ.out
      have e1 := ox1 HXZ.out
      have e2 := ox2 HXZ.out
      have e3 := ox3 HXZ.out
      refine bodyPost_ret (v := .tuple #[.agg #[.int .u8 (k5 : Int), .int .i64 l5, .int .i64 r5, .slice a3 15 c3], .int .i64 0]) (by simp [results, Tryz.f32, go_sem, e0, e1, e2, e3]) rfl ?_
      rw [HO.out]
      refine ⟨a3, c3, ?_, ?_, HHI.out.less HB2.out, HBZ.out⟩
      · simp only [H15.out]
        rfl
      · simp only [H15.out]
        exact HPZ.out
theorem setPtrs_any (L : Nat) (x : SAt) (S : StL) (p : Pt) (w : World) (h : StP L w x S) (_hwf : WfS S) (hwp : WfP p) (hL : L ≤ w.heap.size) (hz : Szs w) : Calls Tryz.prog 13 #[stV x S, ptV p] w (OutLs (ptrsSO S p) w) := by
  have hwp2 := hwp
  clear hwp
  obtain ⟨pa, pb, pi, pt, ps⟩ := p
  obtain ⟨w0, hw0, b0, z0, q1, q2⟩ := two_al w (stC x S) (ptA (pa, pb, pi, pt, ps)) 30 32
  obtain ⟨g, hg⟩ : ∃ g, w.heap.size = g := ⟨_, rfl⟩
  obtain ⟨g1, hg1⟩ : ∃ g1, g + 1 = g1 := ⟨_, rfl⟩
  rw [hg] at q1 q2
  rw [hg1] at q2
  have HX := Lib.hid q1
  have HQ := Lib.hid q2
  have HT := Lib.hid (h.bel b0)
  have HB := Lib.hid b0
  have HLW := Lib.hid (show L ≤ w0.heap.size from Nat.le_trans hL b0.size)
  simp only [stC, ptA] at hw0
  clear h b0 z0 q1 q2 hL
  have HZ := Lib.hid (hz.step HB.out)
  clear hz
  by_cases hm : MayS S ∧ MayP (pa, pb, pi, pt, ps)
  · have HMY := Lib.hid (seMay_any L x S (pa, pb, pi, pt, ps) w0 HT.out HLW.out true ⟨fun _ => hm, fun _ => rfl⟩)
    have HO := Lib.hid (ptrsSO_may hm.1 hm.2)
    have HRW := Lib.hid (fun W hW hLW hzW => seRow_any L x S (pa, pb, pi, pt, ps) W hW hm.1 hm.2 hwp2 hLW hzW)
    clear hm hwp2
    have d0 := bx0 HX.out
    have d1 := bx1 HX.out
    have d2 := bx2 HX.out
    have d3 := bx3 HX.out
    have d4 := bx4 HX.out
    have q0 := bx0 HQ.out
    have q1 := bx1 HQ.out
    have q2 := bx2 HQ.out
    have q3 := bx3 HQ.out
    have q4 := bx4 HQ.out
    go_enter Tryz.func13, Tryz.ntmps13
    go_wp2_with fail
    try rw [hw0]
    try rw [hg]
    try rw [hg1]
    clear hw0 hg hg1
    clear d0 d1 d2 d3 d4
    clear q0 q1 q2 q3 q4
    refine HMY.out.mono ?_
    rintro e w1 ⟨rfl, b1⟩
    replace HX := Lib.hid (HX.out.below b1 HX.out.lt)
    replace HQ := Lib.hid (HQ.out.below b1 HQ.out.lt)
    replace HT := Lib.hid (HT.out.bel b1)
    replace HB := Lib.hid (HB.out.trans (b1.mono HB.out.size))
    replace HZ := Lib.hid (HZ.out.step b1)
    replace HLW := Lib.hid (Nat.le_trans HLW.out b1.size)
    clear b1 HMY
    have d0 := bx0 HX.out
    have d1 := bx1 HX.out
    have d2 := bx2 HX.out
    have d3 := bx3 HX.out
    have d4 := bx4 HX.out
    have q0 := bx0 HQ.out
    have q1 := bx1 HQ.out
    have q2 := bx2 HQ.out
    have q3 := bx3 HQ.out
    have q4 := bx4 HQ.out
    go_wp2_with fail
    clear d0 d1 d2 d3 d4
    clear q0 q1 q2 q3 q4
    refine (HRW.out w1 HT.out HLW.out HZ.out).mono ?_
    rintro e w2 ⟨a2, c2, rfl, ht2, hh2, b2⟩
    have HB1 := Lib.hid (show w.heap.size ≤ w1.heap.size from HB.out.size)
    replace HX := Lib.hid (HX.out.below b2 HX.out.lt)
    replace HQ := Lib.hid (HQ.out.below b2 HQ.out.lt)
    replace HT := Lib.hid (HT.out.bel b2)
    replace HB := Lib.hid (HB.out.trans (b2.mono HB.out.size))
    replace HZ := Lib.hid (HZ.out.step b2)
    replace HLW := Lib.hid (Nat.le_trans HLW.out b2.size)
    clear b2 HRW
    go_wp2_with fail
    go_ret2
    rw [HO.out]
    exact ⟨_, _, rfl, ht2, hh2.less HB1.out, HB.out⟩
  · have HMY := Lib.hid (seMay_any L x S (pa, pb, pi, pt, ps) w0 HT.out HLW.out false ⟨fun h => (by cases h), fun h => absurd h hm⟩)
    have HO := Lib.hid (ptrsSO_no hm)
    clear hm hwp2
    have d0 := bx0 HX.out
    have d1 := bx1 HX.out
    have d2 := bx2 HX.out
    have d3 := bx3 HX.out
    have d4 := bx4 HX.out
    have q0 := bx0 HQ.out
    have q1 := bx1 HQ.out
    have q2 := bx2 HQ.out
    have q3 := bx3 HQ.out
    have q4 := bx4 HQ.out
    go_enter Tryz.func13, Tryz.ntmps13
    go_wp2_with fail
    try rw [hw0]
    try rw [hg]
    try rw [hg1]
    clear hw0 hg hg1
    clear d0 d1 d2 d3 d4
    clear q0 q1 q2 q3 q4
    refine HMY.out.mono ?_
    rintro e w1 ⟨rfl, b1⟩
    replace HX := Lib.hid (HX.out.below b1 HX.out.lt)
    replace HQ := Lib.hid (HQ.out.below b1 HQ.out.lt)
    replace HT := Lib.hid (HT.out.bel b1)
    replace HB := Lib.hid (HB.out.trans (b1.mono HB.out.size))
    replace HZ := Lib.hid (HZ.out.step b1)
    replace HLW := Lib.hid (Nat.le_trans HLW.out b1.size)
    clear b1 HMY
    go_wp2_with fail
    go_ret2
    rw [HO.out]
    exact outLs_no 8 HB.out
end Go.Proofs.YtbggkfomfeeikaaGreatDoor
/-
  Set's own Object: what it answers, in new memory; nothing that was there is written.
-/
namespace Go.Proofs.YtbggkfomfeeikaaGreatDoor
open Go.RowKit Go.Shelf
set_option maxRecDepth 100000

set_option linter.unusedSimpArgs false in
set_option maxHeartbeats 4000000 in
theorem setObject_any (L : Nat) (x : SAt) (S : StL) (p : Pt) (n : Int) (w : World) (h : StP L w x S) (_hwf : WfS S) (hwp : WfP p) (hL : L ≤ w.heap.size) (hz : Szs w) (hn : -9223372036854775808 ≤ n ∧ n ≤ 9223372036854775807) : Calls Tryz.prog 12 #[stV x S, ptV p, .int .i64 n] w (OutOs (objSO S p n) w) := by
  have hmx : Tryz.prog.follows Departure.mixedOrders = true := by kernel_rfl
  have hwp2 := hwp
  clear hwp
  obtain ⟨pa, pb, pi, pt, ps⟩ := p
  obtain ⟨w0, hw0, b0, z0, q1, q2, q3⟩ := three_al w (stC x S) (ptA (pa, pb, pi, pt, ps)) #[.int .u8 0, .int .i64 0, .int .i64 0, .slice none 0 0] 30 32 40
  obtain ⟨g, hg⟩ : ∃ g, w.heap.size = g := ⟨_, rfl⟩
  obtain ⟨g1, hg1⟩ : ∃ g1, g + 1 = g1 := ⟨_, rfl⟩
  obtain ⟨g2, hg2⟩ : ∃ g2, g1 + 1 = g2 := ⟨_, rfl⟩
  rw [hg] at q1 q2 q3
  rw [hg1] at q2
  rw [show g + 2 = g1 + 1 by omega, hg2] at q3
  have HX := Lib.hid q1
  have HQ := Lib.hid q2
  have HZO := Lib.hid q3
  have HT := Lib.hid (h.bel b0)
  have HB := Lib.hid b0
  have HGE := Lib.hid (show w.heap.size ≤ g2 by omega)
  have HG2 := Lib.hid (show g2 < w0.heap.size by omega)
  have HGN := Lib.hid (show g ≠ g2 by omega)
  have HLW := Lib.hid (show L ≤ w0.heap.size from Nat.le_trans hL b0.size)
  simp only [stC, ptA] at hw0
  clear h b0 z0 q1 q2 q3 hL
  have HZ := Lib.hid (hz.step HB.out)
  clear hz
  by_cases hm : MayS S ∧ MayP (pa, pb, pi, pt, ps)
  · by_cases hr : 0 ≤ n ∧ n < 16
    · have HM1 := Lib.hid hm
      obtain ⟨k, rfl⟩ : ∃ k : Nat, n = (k : Int) := ⟨n.toNat, by omega⟩
      have k0 : (0 : Int) ≤ k := by omega
      have k1 : (k : Int) < 16 := by omega
      have hk16 : k < 16 := by omega
      have HRW := Lib.hid (fun W hW hLW hzW => seRow_any L x S (pa, pb, pi, pt, ps) W hW hm.1 hm.2 hwp2 hLW hzW)
      clear hwp2
      rcases rowSO_cases S (pa, pb, pi, pt, ps) with ⟨e, her, hen⟩ | ⟨LL, her, hl16, hwf, hml⟩
      · have HMY := Lib.hid (seMay_any L x S (pa, pb, pi, pt, ps) w0 HT.out HLW.out true ⟨fun _ => hm, fun _ => rfl⟩)
        have HO := Lib.hid (objSO_row hm.1 hm.2 (n := (k : Int)) ⟨k0, k1⟩ her hen)
        have e1 : ((e : Int) != 0) = true := by simp; omega
        clear hm hn hr hen
        have d0 := bx0 HX.out
        have d1 := bx1 HX.out
        have d2 := bx2 HX.out
        have d3 := bx3 HX.out
        have d4 := bx4 HX.out
        have q0 := bx0 HQ.out
        have q1 := bx1 HQ.out
        have q2 := bx2 HQ.out
        have q3 := bx3 HQ.out
        have q4 := bx4 HQ.out
        go_enter Tryz.func12, Tryz.ntmps12
        go_wp2_with fail
        try rw [hw0]
        try rw [hg]
        try rw [hg1]
        try rw [hg2]
        clear hw0 hg hg1 hg2
        clear d0 d1 d2 d3 d4
        clear q0 q1 q2 q3 q4
        refine HMY.out.mono ?_
        rintro e w1 ⟨rfl, b1⟩
        replace HX := Lib.hid (HX.out.below b1 HX.out.lt)
        replace HQ := Lib.hid (HQ.out.below b1 HQ.out.lt)
        replace HZO := Lib.hid (HZO.out.below b1 HZO.out.lt)
        replace HT := Lib.hid (HT.out.bel b1)
        replace HB := Lib.hid (HB.out.trans (b1.mono HB.out.size))
        replace HZ := Lib.hid (HZ.out.step b1)
        replace HLW := Lib.hid (Nat.le_trans HLW.out b1.size)
        clear b1 HMY
        have d0 := bx0 HX.out
        have d1 := bx1 HX.out
        have d2 := bx2 HX.out
        have d3 := bx3 HX.out
        have d4 := bx4 HX.out
        have q0 := bx0 HQ.out
        have q1 := bx1 HQ.out
        have q2 := bx2 HQ.out
        have q3 := bx3 HQ.out
        have q4 := bx4 HQ.out
        go_wp2_with fail
        clear d0 d1 d2 d3 d4
        clear q0 q1 q2 q3 q4
        have HG1 := Lib.hid (show g2 < w1.heap.size from HZO.out.lt)
        have hrw := HRW.out w1 HT.out HLW.out HZ.out
        rw [her] at hrw
        refine hrw.mono ?_
        rintro ev w2 ⟨a2, c2, rfl, ht2, hh2, b2⟩
        replace HX := Lib.hid (HX.out.below b2 HX.out.lt)
        replace HQ := Lib.hid (HQ.out.below b2 HQ.out.lt)
        replace HZO := Lib.hid (HZO.out.below b2 HZO.out.lt)
        replace HT := Lib.hid (HT.out.bel b2)
        replace HB := Lib.hid (HB.out.trans (b2.mono HB.out.size))
        replace HZ := Lib.hid (HZ.out.step b2)
        replace HLW := Lib.hid (Nat.le_trans HLW.out b2.size)
        clear b2 HRW hrw her
        have m0 := ox0 HZO.out
        have m1 := ox1 HZO.out
        have m2 := ox2 HZO.out
        have m3 := ox3 HZO.out
        have hfz := fun i => HZO.out.frozen i
        have xz := HZO.out.set4 (.int .u8 0) (.int .i64 0) (.int .i64 0) (.slice none 0 0)
        have bz := below_set4 HB.out HGE.out (.int .u8 0) (.int .i64 0) (.int .i64 0) (.slice none 0 0)
        obtain ⟨wz, hwz⟩ : ∃ X, (((w2.setCell ⟨g2, 0, none⟩ (.int .u8 0)).setCell ⟨g2, 1, none⟩ (.int .i64 0)).setCell ⟨g2, 2, none⟩ (.int .i64 0)).setCell ⟨g2, 3, none⟩ (.slice none 0 0) = X := ⟨_, rfl⟩
        rw [hwz] at xz bz
        have HXZ := Lib.hid xz
        have HBZ := Lib.hid bz
        clear xz bz
        go_wp2_with fail
        clear m0 m1 m2 m3 hfz hwz
        have e0 := ox0 HXZ.out
        have e1 := ox1 HXZ.out
        have e2 := ox2 HXZ.out
        have e3 := ox3 HXZ.out
        refine bodyPost_ret (v := .tuple #[.agg #[.int .u8 0, .int .i64 0, .int .i64 0, .slice none 0 0], .int .i64 e]) (by simp [results, Tryz.f12, go_sem, e0, e1, e2, e3]) rfl ?_
        rw [HO.out]
        exact outOs_no e HBZ.out
      · have HMY := Lib.hid (seMay_any L x S (pa, pb, pi, pt, ps) w0 HT.out HLW.out true ⟨fun _ => hm, fun _ => rfl⟩)
        have hob := objSO_at hm.1 hm.2 hk16 her
        have HO := Lib.hid hob
        have e1 : (((0 : Nat) : Int) != 0) = false := rfl
        have hkm : LL.getD k p0 ∈ LL := by
          rw [List.getD_eq_getElem?_getD, List.getElem?_eq_getElem (by omega)]
          exact List.getElem_mem _
        have HON := Lib.hid (fun W hW hLW hzW => seOne_any L x S (LL.getD k p0) W hW hm.1 (hml _ hkm) (hwf _ hkm) hLW hzW)
        clear hm hn hr hob hwf hml hkm
        have d0 := bx0 HX.out
        have d1 := bx1 HX.out
        have d2 := bx2 HX.out
        have d3 := bx3 HX.out
        have d4 := bx4 HX.out
        have q0 := bx0 HQ.out
        have q1 := bx1 HQ.out
        have q2 := bx2 HQ.out
        have q3 := bx3 HQ.out
        have q4 := bx4 HQ.out
        go_enter Tryz.func12, Tryz.ntmps12
        go_wp2_with fail
        try rw [hw0]
        try rw [hg]
        try rw [hg1]
        try rw [hg2]
        clear hw0 hg hg1 hg2
        clear d0 d1 d2 d3 d4
        clear q0 q1 q2 q3 q4
        refine HMY.out.mono ?_
        rintro e w1 ⟨rfl, b1⟩
        replace HX := Lib.hid (HX.out.below b1 HX.out.lt)
        replace HQ := Lib.hid (HQ.out.below b1 HQ.out.lt)
        replace HZO := Lib.hid (HZO.out.below b1 HZO.out.lt)
        replace HT := Lib.hid (HT.out.bel b1)
        replace HB := Lib.hid (HB.out.trans (b1.mono HB.out.size))
        replace HZ := Lib.hid (HZ.out.step b1)
        replace HLW := Lib.hid (Nat.le_trans HLW.out b1.size)
        clear b1 HMY
        have d0 := bx0 HX.out
        have d1 := bx1 HX.out
        have d2 := bx2 HX.out
        have d3 := bx3 HX.out
        have d4 := bx4 HX.out
        have q0 := bx0 HQ.out
        have q1 := bx1 HQ.out
        have q2 := bx2 HQ.out
        have q3 := bx3 HQ.out
        have q4 := bx4 HQ.out
        go_wp2_with fail
        clear d0 d1 d2 d3 d4
        clear q0 q1 q2 q3 q4
        have HG1 := Lib.hid (show g2 < w1.heap.size from HZO.out.lt)
        have hrw := HRW.out w1 HT.out HLW.out HZ.out
        rw [her] at hrw
        refine hrw.mono ?_
        rintro e w2 ⟨a2, c2, rfl, ht2, hh2, b2⟩
        replace HX := Lib.hid (HX.out.below b2 HX.out.lt)
        replace HQ := Lib.hid (HQ.out.below b2 HQ.out.lt)
        replace HZO := Lib.hid (HZO.out.below b2 HZO.out.lt)
        replace HT := Lib.hid (HT.out.bel b2)
        replace HB := Lib.hid (HB.out.trans (b2.mono HB.out.size))
        replace HZ := Lib.hid (HZ.out.step b2)
        replace HLW := Lib.hid (Nat.le_trans HLW.out b2.size)
        clear b2 HRW hrw her
        simp only [hl16] at ht2 ⊢
        have HP := Lib.hid ht2
        obtain ⟨ba, oa, rfl, _, _⟩ := ht2.2.2.2.2 (by omega)
        have HBA := Lib.hid (show w1.heap.size ≤ ba from hh2 _ rfl)
        clear ht2 hh2
        go_wp2_with fail
        obtain ⟨wd, hwd⟩ : ∃ wd, w2.drew = wd := ⟨_, rfl⟩
        have bq : Below w2.heap.size w2 wd := by rw [← hwd]; exact (Below.refl _ w2).drew
        replace HX := Lib.hid (HX.out.below bq HX.out.lt)
        replace HQ := Lib.hid (HQ.out.below bq HQ.out.lt)
        replace HT := Lib.hid (HT.out.bel bq)
        replace HB := Lib.hid (HB.out.trans (bq.mono HB.out.size))
        replace HZO := Lib.hid (HZO.out.below bq HZO.out.lt)
        replace HP := Lib.hid (HP.out.step bq)
        replace HZ := Lib.hid (HZ.out.step bq)
        replace HLW := Lib.hid (Nat.le_trans HLW.out bq.size)
        obtain ⟨P, hP⟩ : ∃ X, LL.getD k p0 = X := ⟨_, rfl⟩
        rw [hP] at HON HO
        have HPE := Lib.hid hP
        have HX9 := Lib.hid HX.out
        have HG9 := Lib.hid (show g2 < wd.heap.size from HZO.out.lt)
        have HB9 := Lib.hid (show w.heap.size ≤ wd.heap.size from HB.out.size)
        have hwd0 := And.intro HX.out HP.out
        refine wpI_start (fun X => Blk X g 30 (stC x S) ∧ Pts X X.heap.size (some ⟨ba, oa, none⟩) 16 c2 LL) [0, 1, 2, 3, 4, 5, 6, 7, 8, 9] hmx rfl hwd ?_
        clear hwd bq hP
        obtain ⟨ya, yb, yi, yt, ys⟩ := P
        iterate 5 (
          refine wpI_read (v := ?_) hwd0 rfl (by kernel_rfl) (by kernel_rfl) (by kernel_rfl) (fun _ _ _ h => h) (.inl ⟨by rfl, ?_⟩) ?_
          rotate_left
          · intro X hX
            have d0 := bx0 hX.1
            have d1 := bx1 hX.1
            have d2 := bx2 hX.1
            have d3 := bx3 hX.1
            have d4 := bx4 hX.1
            obtain ⟨_, _, ea, _, _, p0_, p1_, p2_, p3_, p4_⟩ := hX.2.cells k hk16
            cases ea
            rw [HPE.out] at p0_ p1_ p2_ p3_ p4_
            simp only at p0_ p1_ p2_ p3_ p4_
            clear hX
            go_simp
            with_reducible rfl
          try simp only [Act.put, List.setIfInBounds_toArray, List.set_cons_zero, List.set_cons_succ])
        refine wpI_lone rfl (by kernel_rfl) (fun K hK => ?_)
        go_simp
        refine (HON.out wd HT.out HLW.out HZ.out).mono ?_
        obtain ⟨⟨⟨k5, l5, r5, L5⟩, z5⟩, hoe⟩ : ∃ o, oneSO S (ya, yb, yi, yt, ys) = o := ⟨_, rfl⟩
        rw [hoe] at HO ⊢
        obtain ⟨n5, hn5⟩ : ∃ n, L5.length = n := ⟨_, rfl⟩
        rintro ev w4 ⟨a5, c5, rfl, ht5, hi5, bq⟩
        simp only [hn5] at ht5 hi5 ⊢
        replace HX := Lib.hid (HX.out.below bq HX.out.lt)
        replace HQ := Lib.hid (HQ.out.below bq HQ.out.lt)
        replace HT := Lib.hid (HT.out.bel bq)
        replace HB := Lib.hid (HB.out.trans (bq.mono HB.out.size))
        replace HZO := Lib.hid (HZO.out.below bq HZO.out.lt)
        replace HP := Lib.hid (HP.out.step bq)
        replace HZ := Lib.hid (HZ.out.step bq)
        replace HLW := Lib.hid (Nat.le_trans HLW.out bq.size)
        have hs4 := And.intro HX.out HP.out
        refine hK _ _ hs4 ?_
        have HP5 := Lib.hid ht5
        have HI5 := Lib.hid hi5
        have HN5 := Lib.hid hn5
        clear hK K bq hoe ht5 hi5 hn5 HON
        try simp only [Act.put, List.setIfInBounds_toArray, List.set_cons_zero, List.set_cons_succ]
        iterate 2 (
          refine wpI_read (v := ?_) hs4 rfl (by kernel_rfl) (by kernel_rfl) (by kernel_rfl) (fun _ _ _ h => h) (.inl ⟨by rfl, ?_⟩) ?_
          rotate_left
          · intro X hX
            clear hX
            go_simp
            with_reducible rfl
          try simp only [Act.put, List.setIfInBounds_toArray, List.set_cons_zero, List.set_cons_succ])
        refine wpI_lone rfl (by kernel_rfl) (fun K hK => ?_)
        have m0 := ox0 HZO.out
        have m1 := ox1 HZO.out
        have m2 := ox2 HZO.out
        have m3 := ox3 HZO.out
        have hfz := fun i => HZO.out.frozen i
        have xz := HZO.out.set4 (.int .u8 (k5 : Int)) (.int .i64 l5) (.int .i64 r5) (.slice a5 n5 c5)
        have bz := below_set4 HB.out HGE.out (.int .u8 (k5 : Int)) (.int .i64 l5) (.int .i64 r5) (.slice a5 n5 c5)
        have hpz := HP5.out.box4 (fun p e => Nat.lt_of_lt_of_le HG9.out (HI5.out p e)) (.int .u8 (k5 : Int)) (.int .i64 l5) (.int .i64 r5) (.slice a5 n5 c5)
        obtain ⟨wz, hwz⟩ : ∃ X, (((w4.setCell ⟨g2, 0, none⟩ (.int .u8 (k5 : Int))).setCell ⟨g2, 1, none⟩ (.int .i64 l5)).setCell ⟨g2, 2, none⟩ (.int .i64 r5)).setCell ⟨g2, 3, none⟩ (.slice a5 n5 c5) = X := ⟨_, rfl⟩
        rw [hwz] at xz bz hpz
        have HXZ := Lib.hid xz
        have HBZ := Lib.hid bz
        clear xz bz
        have HPZ := Lib.hid (hpz.more (show w4.heap.size ≤ wz.heap.size by rw [← hwz]; simp [World.setCell]))
        clear hpz
        have hxz : Blk wz g 30 (stC x S) := by
          rw [← hwz]
          exact (((HX.out.far (p := ⟨g2, 0, none⟩) HGN.out _).far (p := ⟨g2, 1, none⟩) HGN.out _).far (p := ⟨g2, 2, none⟩) HGN.out _).far (p := ⟨g2, 3, none⟩) HGN.out _
        have hpz2 : Pts wz wz.heap.size (some ⟨ba, oa, none⟩) 16 c2 LL := by
          have h1 := HP.out.box4 (fun p e => by cases e; exact Nat.lt_of_lt_of_le HG1.out HBA.out) (.int .u8 (k5 : Int)) (.int .i64 l5) (.int .i64 r5) (.slice a5 n5 c5)
          rw [hwz] at h1
          exact h1.more (by rw [← hwz]; simp [World.setCell])
        have hsz := And.intro hxz hpz2
        go_simp
        try rw [hwz]
        refine hK _ _ hsz ?_
        clear hK K
        try simp only [Act.put, List.setIfInBounds_toArray, List.set_cons_zero, List.set_cons_succ]
        iterate 1 (
          refine wpI_read (v := ?_) hsz rfl (by kernel_rfl) (by kernel_rfl) (by kernel_rfl) (fun _ _ _ h => h) (.inl ⟨by rfl, ?_⟩) ?_
          rotate_left
          · intro X hX
            clear hX
            go_simp
            with_reducible rfl
          try simp only [Act.put, List.setIfInBounds_toArray, List.set_cons_zero, List.set_cons_succ])
        refine wpI_done (by kernel_rfl) ?_
        go_wp2_with fail
        clear m0 m1 m2 m3 hfz hwz
        have e0 := ox0 HXZ.out
        have e1 := ox1 HXZ.out
        have e2 := ox2 HXZ.out
        have e3 := ox3 HXZ.out
        refine bodyPost_ret (v := .tuple #[.agg #[.int .u8 (k5 : Int), .int .i64 l5, .int .i64 r5, .slice a5 n5 c5], .int .i64 z5]) (by simp [results, Tryz.f12, go_sem, e0, e1, e2, e3]) rfl ?_
        rw [HO.out]
        refine ⟨a5, c5, ?_, ?_, HI5.out.less HB9.out, HBZ.out⟩
        · simp only [HN5.out]
        · simp only [HN5.out]
          exact HPZ.out
    · by_cases h0 : n < 0
      · have HMY := Lib.hid (seMay_any L x S (pa, pb, pi, pt, ps) w0 HT.out HLW.out true ⟨fun _ => hm, fun _ => rfl⟩)
        have HO := Lib.hid (objSO_arg hm.1 hm.2 hr)
        clear hm
        have d1 : decide (n < 0) = true := decide_eq_true h0
        clear hr h0 hn
        have d0 := bx0 HX.out
        have d1 := bx1 HX.out
        have d2 := bx2 HX.out
        have d3 := bx3 HX.out
        have d4 := bx4 HX.out
        have q0 := bx0 HQ.out
        have q1 := bx1 HQ.out
        have q2 := bx2 HQ.out
        have q3 := bx3 HQ.out
        have q4 := bx4 HQ.out
        go_enter Tryz.func12, Tryz.ntmps12
        go_wp2_with fail
        try rw [hw0]
        try rw [hg]
        try rw [hg1]
        try rw [hg2]
        clear hw0 hg hg1 hg2
        clear d0 d1 d2 d3 d4
        clear q0 q1 q2 q3 q4
        refine HMY.out.mono ?_
        rintro e w1 ⟨rfl, b1⟩
        replace HX := Lib.hid (HX.out.below b1 HX.out.lt)
        replace HQ := Lib.hid (HQ.out.below b1 HQ.out.lt)
        replace HZO := Lib.hid (HZO.out.below b1 HZO.out.lt)
        replace HT := Lib.hid (HT.out.bel b1)
        replace HB := Lib.hid (HB.out.trans (b1.mono HB.out.size))
        replace HZ := Lib.hid (HZ.out.step b1)
        replace HLW := Lib.hid (Nat.le_trans HLW.out b1.size)
        clear b1 HMY
        have m0 := ox0 HZO.out
        have m1 := ox1 HZO.out
        have m2 := ox2 HZO.out
        have m3 := ox3 HZO.out
        have hfz := fun i => HZO.out.frozen i
        have xz := HZO.out.set4 (.int .u8 0) (.int .i64 0) (.int .i64 0) (.slice none 0 0)
        have bz := below_set4 HB.out HGE.out (.int .u8 0) (.int .i64 0) (.int .i64 0) (.slice none 0 0)
        obtain ⟨wz, hwz⟩ : ∃ X, (((w1.setCell ⟨g2, 0, none⟩ (.int .u8 0)).setCell ⟨g2, 1, none⟩ (.int .i64 0)).setCell ⟨g2, 2, none⟩ (.int .i64 0)).setCell ⟨g2, 3, none⟩ (.slice none 0 0) = X := ⟨_, rfl⟩
        rw [hwz] at xz bz
        have HXZ := Lib.hid xz
        have HBZ := Lib.hid bz
        clear xz bz
        go_wp2_with fail
        clear m0 m1 m2 m3 hfz hwz
        have e0 := ox0 HXZ.out
        have e1 := ox1 HXZ.out
        have e2 := ox2 HXZ.out
        have e3 := ox3 HXZ.out
        refine bodyPost_ret (v := .tuple #[.agg #[.int .u8 0, .int .i64 0, .int .i64 0, .slice none 0 0], .int .i64 2]) (by simp [results, Tryz.f12, go_sem, e0, e1, e2, e3]) rfl ?_
        rw [HO.out]
        exact outOs_no 2 HBZ.out
      · have h1 : 16 ≤ n := by omega
        have HMY := Lib.hid (seMay_any L x S (pa, pb, pi, pt, ps) w0 HT.out HLW.out true ⟨fun _ => hm, fun _ => rfl⟩)
        have HO := Lib.hid (objSO_arg hm.1 hm.2 hr)
        clear hm
        have d1 : decide (n < 0) = false := decide_eq_false h0
        have d2 : decide (16 ≤ n) = true := decide_eq_true h1
        clear hr h0 h1 hn
        have d0 := bx0 HX.out
        have d1 := bx1 HX.out
        have d2 := bx2 HX.out
        have d3 := bx3 HX.out
        have d4 := bx4 HX.out
        have q0 := bx0 HQ.out
        have q1 := bx1 HQ.out
        have q2 := bx2 HQ.out
        have q3 := bx3 HQ.out
        have q4 := bx4 HQ.out
        go_enter Tryz.func12, Tryz.ntmps12
        go_wp2_with fail
        try rw [hw0]
        try rw [hg]
        try rw [hg1]
        try rw [hg2]
        clear hw0 hg hg1 hg2
        clear d0 d1 d2 d3 d4
        clear q0 q1 q2 q3 q4
        refine HMY.out.mono ?_
        rintro e w1 ⟨rfl, b1⟩
        replace HX := Lib.hid (HX.out.below b1 HX.out.lt)
        replace HQ := Lib.hid (HQ.out.below b1 HQ.out.lt)
        replace HZO := Lib.hid (HZO.out.below b1 HZO.out.lt)
        replace HT := Lib.hid (HT.out.bel b1)
        replace HB := Lib.hid (HB.out.trans (b1.mono HB.out.size))
        replace HZ := Lib.hid (HZ.out.step b1)
        replace HLW := Lib.hid (Nat.le_trans HLW.out b1.size)
        clear b1 HMY
        have m0 := ox0 HZO.out
        have m1 := ox1 HZO.out
        have m2 := ox2 HZO.out
        have m3 := ox3 HZO.out
        have hfz := fun i => HZO.out.frozen i
        have xz := HZO.out.set4 (.int .u8 0) (.int .i64 0) (.int .i64 0) (.slice none 0 0)
        have bz := below_set4 HB.out HGE.out (.int .u8 0) (.int .i64 0) (.int .i64 0) (.slice none 0 0)
        obtain ⟨wz, hwz⟩ : ∃ X, (((w1.setCell ⟨g2, 0, none⟩ (.int .u8 0)).setCell ⟨g2, 1, none⟩ (.int .i64 0)).setCell ⟨g2, 2, none⟩ (.int .i64 0)).setCell ⟨g2, 3, none⟩ (.slice none 0 0) = X := ⟨_, rfl⟩
        rw [hwz] at xz bz
        have HXZ := Lib.hid xz
        have HBZ := Lib.hid bz
        clear xz bz
        go_wp2_with fail
        clear m0 m1 m2 m3 hfz hwz
        have e0 := ox0 HXZ.out
        have e1 := ox1 HXZ.out
        have e2 := ox2 HXZ.out
        have e3 := ox3 HXZ.out
        refine bodyPost_ret (v := .tuple #[.agg #[.int .u8 0, .int .i64 0, .int .i64 0, .slice none 0 0], .int .i64 2]) (by simp [results, Tryz.f12, go_sem, e0, e1, e2, e3]) rfl ?_
        rw [HO.out]
        exact outOs_no 2 HBZ.out
  · have HMY := Lib.hid (seMay_any L x S (pa, pb, pi, pt, ps) w0 HT.out HLW.out false ⟨fun h => (by cases h), fun h => absurd h hm⟩)
    have HO := Lib.hid (objSO_no (n := n) hm)
    clear hm hn
    have d0 := bx0 HX.out
    have d1 := bx1 HX.out
    have d2 := bx2 HX.out
    have d3 := bx3 HX.out
    have d4 := bx4 HX.out
    have q0 := bx0 HQ.out
    have q1 := bx1 HQ.out
    have q2 := bx2 HQ.out
    have q3 := bx3 HQ.out
    have q4 := bx4 HQ.out
    go_enter Tryz.func12, Tryz.ntmps12
    go_wp2_with fail
    try rw [hw0]
    try rw [hg]
    try rw [hg1]
    try rw [hg2]
    clear hw0 hg hg1 hg2
    clear d0 d1 d2 d3 d4
    clear q0 q1 q2 q3 q4
    refine HMY.out.mono ?_
    rintro e w1 ⟨rfl, b1⟩
    replace HX := Lib.hid (HX.out.below b1 HX.out.lt)
    replace HQ := Lib.hid (HQ.out.below b1 HQ.out.lt)
    replace HZO := Lib.hid (HZO.out.below b1 HZO.out.lt)
    replace HT := Lib.hid (HT.out.bel b1)
    replace HB := Lib.hid (HB.out.trans (b1.mono HB.out.size))
    replace HZ := Lib.hid (HZ.out.step b1)
    replace HLW := Lib.hid (Nat.le_trans HLW.out b1.size)
    clear b1 HMY
    have m0 := ox0 HZO.out
    have m1 := ox1 HZO.out
    have m2 := ox2 HZO.out
    have m3 := ox3 HZO.out
    have hfz := fun i => HZO.out.frozen i
    have xz := HZO.out.set4 (.int .u8 0) (.int .i64 0) (.int .i64 0) (.slice none 0 0)
    have bz := below_set4 HB.out HGE.out (.int .u8 0) (.int .i64 0) (.int .i64 0) (.slice none 0 0)
    obtain ⟨wz, hwz⟩ : ∃ X, (((w1.setCell ⟨g2, 0, none⟩ (.int .u8 0)).setCell ⟨g2, 1, none⟩ (.int .i64 0)).setCell ⟨g2, 2, none⟩ (.int .i64 0)).setCell ⟨g2, 3, none⟩ (.slice none 0 0) = X := ⟨_, rfl⟩
    rw [hwz] at xz bz
    have HXZ := Lib.hid xz
    have HBZ := Lib.hid bz
    clear xz bz
    go_wp2_with fail
    clear m0 m1 m2 m3 hfz hwz
    have e0 := ox0 HXZ.out
    have e1 := ox1 HXZ.out
    have e2 := ox2 HXZ.out
    have e3 := ox3 HXZ.out
    refine bodyPost_ret (v := .tuple #[.agg #[.int .u8 0, .int .i64 0, .int .i64 0, .slice none 0 0], .int .i64 8]) (by simp [results, Tryz.f12, go_sem, e0, e1, e2, e3]) rfl ?_
    rw [HO.out]
    exact outOs_no 8 HBZ.out
end Go.Proofs.YtbggkfomfeeikaaGreatDoor
/-
  A range over a closure that keeps a state of its own in boxes, and whose rounds collect into a variable of the caller's: what is the closure's own is told by Fr; a round keeps it, and what the closure does with it leaves the round's own.
-/
namespace Go.Proofs.YtbggkfomfeeikaaGreatDoor
open Go Go.RowKit
set_option maxRecDepth 100000

/-- The block of the row that a variable in box gl holds. -/
def rowAt (gl : Nat) (A : World) : Option Nat := match A.cell? ⟨gl, 0, none⟩ with
  | some v => v.ownBlock
  | none => none
theorem rowAt_of {gl : Nat} {A : World} {v : Value} (h : A.cell? ⟨gl, 0, none⟩ = some v) : rowAt gl A = v.ownBlock := by unfold rowAt; rw [h]
/-- Block k is neither below D0 nor the caller's variable, nor its row. -/
structure Fr (D0 gl k : Nat) (A : World) : Prop where
  lo : D0 ≤ k
  lt : k < A.heap.size
  ne : k ≠ gl
  row : some k ≠ rowAt gl A
theorem rowAt_grown {gl : Nat} {A A' : World} {row : Option Nat} (hg : A.grownBy A' row) (hl : gl < A.heap.size) (hr : row ≠ some gl) : rowAt gl A' = rowAt gl A := by
  unfold rowAt
  rw [hg.cell_far ⟨gl, 0, none⟩ hl (fun e => hr e.symm)]
theorem Fr.grown {D0 gl k : Nat} {A A' : World} {row : Option Nat} (h : Fr D0 gl k A) (hg : A.grownBy A' row) (hl : gl < A.heap.size) (hr : row ≠ some gl) : Fr D0 gl k A' :=
  ⟨h.lo, Nat.lt_of_lt_of_le h.lt hg.size, h.ne, by rw [rowAt_grown hg hl hr]; exact h.row⟩
theorem below_grown {A A' : World} (h : Below A.heap.size A A') : A.grownBy A' none := ⟨h.os, h.tape, h.output, h.size, fun k hk _ => h.block k hk⟩
/-- From A to A' the closure's own stays, but for block o. -/
structure Rd (L D0 gl : Nat) (o : Option Nat) (A A' : World) : Prop where
  kp : Keeps L A A'
  be : Below D0 A A'
  fr : ∀ k, Fr D0 gl k A → some k ≠ o → A'.heap[k]? = A.heap[k]? ∧ Fr D0 gl k A'
theorem Rd.trans {L D0 gl : Nat} {o : Option Nat} {A B C : World} (h : Rd L D0 gl o A B) (k : Rd L D0 gl o B C) : Rd L D0 gl o A C :=
  ⟨h.kp.trans k.kp, h.be.trans k.be, fun i hi ho => by
    obtain ⟨h1, h2⟩ := h.fr i hi ho
    obtain ⟨h3, h4⟩ := k.fr i h2 ho
    exact ⟨h3.trans h1, h4⟩⟩
theorem Rd.ex {L D0 gl : Nat} {A B : World} (h : Rd L D0 gl none A B) (o : Option Nat) : Rd L D0 gl o A B := ⟨h.kp, h.be, fun i hi _ => h.fr i hi (by simp)⟩
/-- What was laid since is the closure's own. -/
theorem Fr.new {D0 gl k : Nat} {A A' : World} (hb : Below A.heap.size A A') (hD : D0 ≤ A.heap.size) (hgl : gl < A.heap.size) (hr : ∀ r, rowAt gl A = some r → r < A.heap.size) (h1 : A.heap.size ≤ k) (h2 : k < A'.heap.size) : Fr D0 gl k A' :=
  ⟨by omega, h2, by omega, fun e => by
    rw [rowAt_grown (below_grown hb) hgl (by simp)] at e
    have := hr k e.symm
    omega⟩
theorem keeps_putObj {L l : Nat} {A : World} {o : Obj} (o' : Obj) (h : A.heap[l]? = some o) (ho : o.isCells = false) (hL : L ≤ l) : Keeps L A (A.putObj l o') :=
  ⟨rfl, rfl, rfl, by simp, fun b _ hb => World.putObj_heap_other (by omega), fun b t cs hb _ => by
    have hne : b ≠ l := fun e => by
      subst e
      have h1 : some (Obj.cells cs t (0, 0)) = some o := (show A.heap[b]? = _ from hb).symm.trans h
      cases h1
      cases ho
    exact (World.putObj_heap_other hne).trans hb⟩
theorem Rd.put {L D0 gl l : Nat} {A : World} {o : Obj} (o' : Obj) (h : A.heap[l]? = some o) (ho : o.isCells = false) (hL : L ≤ l) (hD : D0 ≤ l) (hl : l ≠ gl) (hgl : gl < A.heap.size) : Rd L D0 gl (some l) A (A.putObj l o') :=
  ⟨keeps_putObj o' h ho hL, below_putObj o' hD, fun k hk hne => ⟨World.putObj_heap_other (fun e => hne (by rw [e])), hk.grown (grownBy_putObj' A l o') hgl (fun e => hl (Option.some.inj e))⟩⟩

/-- What a closure that tells S does with whatever rounds of the loop that begins in w. -/
def Gives {α : Type} (P : Program) (m L D0 gl N : Nat) (gf : Nat) (lb : Array Value) (encs : α → Array Value) (T : α → Prop) (S : List α → World → Prop) (w : World) : Prop :=
  ∀ (J : List α → World → Prop) (W : World), Below w.heap.size w W → W.heap.size = w.heap.size + 2 →
    (∀ pre A A' row, J pre A → A.grownBy A' row → (∀ k, row = some k → Fr D0 gl k A ∧ k ≠ w.heap.size ∧ k ≠ w.heap.size + 1) → J pre A') →
    (∀ pre A r, J pre A → rowAt gl A = some r → r < A.heap.size) →
    (∀ pre x W1, J pre W1 → T x → pre.length < N → YieldAt Fence.wide (m - 1) P (w.heap.size + 1) (encs x) W1 fun e W' => e = .returned (.bool true) ∧ J (pre ++ [x]) W' ∧ Rd L D0 gl (some (w.heap.size + 1)) W1 W') →
    J [] W → CallsIn Fence.wide m P gf (#[.func (.yield (w.heap.size + 1)) #[] #[]] ++ lb) W fun e W' => (∃ v, e = .returned v) ∧ ∃ xs, S xs W' ∧ J xs W'

/-- How the body of a round may end. -/
def prEnd {α : Type} (L D0 gl B : Nat) (I : List α → World → Prop) (xs : List α) (W : World) : Exit → Act → World → Prop
  | .normal, _, W' => W'.heap[B]? = W.heap[B]? ∧ W'.heap[B + 1]? = W.heap[B + 1]? ∧ Rd L D0 gl none W W' ∧ I xs W'
  | _, _, _ => False

theorem range_priv {P : Program} {m : Nat} {α : Type} {g : Operand} {ps : Array Tmp} {assign body : Code} {Q : Exit → Act → World → Prop} {a : Act} {w : World}
    {gf : Nat} {lb : Array Value} (hg : a.eval g = .func (.func gf) #[] lb) (eg : ∀ args w, (callFunc gf args).run P w = .ok (.enter gf args) w)
    (encs : α → Array Value) (hps : ∀ x, (encs x).size = ps.size) (T : α → Prop) (L D0 gl N : Nat) (hL : L ≤ w.heap.size) (hD0 : D0 ≤ w.heap.size) (hgl : gl < w.heap.size)
    (I : List α → World → Prop) (hI : ∀ pre A A' row, I pre A → A.grownBy A' row → (∀ k, row = some k → Fr D0 gl k A) → I pre A')
    (hIr : ∀ pre A k, I pre A → (k = w.heap.size ∨ k = w.heap.size + 1) → some k ≠ rowAt gl A)
    (hIw : ∀ pre A r, I pre A → rowAt gl A = some r → r < A.heap.size)
    (S : List α → World → Prop) (hS : ∀ xs A A', S xs A → A.grownBy A' (some (w.heap.size + 1)) → S xs A')
    (h0 : I [] w) (hseq : Gives P (m - 1) L D0 gl N gf lb encs T S w)
    (X : α → Act → World → Prop) (hX : ∀ x b A l r o', X x b A → A.heap[l]? = some (.loop r) → X x b (A.putObj l o'))
    (hassign : ∀ (l : Nat) (pre : List α) (x : α) (W : World) (K : Act → World → Prop), I pre W → T x → (∀ b W1, X x b W1 → Below W.heap.size W W1 → K b W1) →
      assign.wpIn (Fence.wide.inRound l) (m - 1 - 1) P (Exit.then K (fun _ _ _ => False)) { tmps := (ps.zip (encs x)).foldl (fun t (p, v) => t.setIfInBounds p v) a.tmps, defers := [] } W)
    (hbody : ∀ (l : Nat) (pre : List α) (x : α) (b : Act) (W : World), I pre W → T x → X x b W → pre.length < N → w.heap.size + 2 ≤ W.heap.size → body.wpIn (Fence.wide.inRound l) (m - 1 - 1) P (prEnd L D0 gl w.heap.size I (pre ++ [x]) W) b W)
    (hdone : ∀ (D : Nat) (xs : List α) (W : World), w.heap.size ≤ D → S xs W → I xs W → W.heap[D]? = some (.deferred (some [])) → Q .normal { a with defers := { target := .collected D, args := #[] } :: a.defers } W) :
    (Code.rangeFunc g ps assign body).wpIn Fence.wide m P Q a w := by
  refine wpIn_rangeFunc fun fn hfn => ?_
  obtain ⟨rc, hrc⟩ : ∃ rc : LoopState → Option Code → Loop, rc = fun st pe => { state := st, pending := pe, fn, tmps := a.tmps, params := ps, assign, body, defers := w.heap.size } := ⟨_, rfl⟩
  have hin := run_enterLoop_outer (P := P) (w := w) fn a.tmps ps assign body
  rw [show ({ state := .ready, pending := none, fn, tmps := a.tmps, params := ps, assign, body, defers := w.heap.size } : Loop) = rc .ready none by rw [hrc]] at hin
  obtain ⟨W1, hW1⟩ : ∃ W1, (w.alloc (.deferred (some []))).alloc (.loop (rc .ready none)) = W1 := ⟨_, rfl⟩
  have hLo : W1.heap[w.heap.size + 1]? = some (.loop (rc .ready none)) := by
    have := World.alloc_heap_new (w.alloc (.deferred (some []))) (.loop (rc .ready none))
    rwa [World.size_alloc, hW1] at this
  have hD : W1.heap[w.heap.size]? = some (.deferred (some [])) := by
    rw [← hW1]; exact (Below.heap_alloc _ _ _ (by simp)).trans (World.alloc_heap_new w _)
  have hz : W1.heap.size = w.heap.size + 2 := by rw [← hW1]; simp
  have hb : Below w.heap.size w W1 := by rw [← hW1]; exact ((Below.refl _ w).alloc (Nat.le_refl _) _).alloc (by simp) _
  have hI0 : ∀ pre A A', I pre A → Below A.heap.size A A' → I pre A' := fun pre A A' h hA => hI pre A A' none h (below_grown hA) (fun _ e => by cases e)
  refine ⟨w.heap.size + 1, _, W1, { target := .fn (.func gf) lb, args := #[.func (.yield (w.heap.size + 1)) #[] #[]] }, W1, gf, #[.func (.yield (w.heap.size + 1)) #[] #[]] ++ lb, W1, hW1 ▸ hin, ?_, fun _ _ => trivial, ?_, fun h => (by simp [Fence.wide] at h), ?_⟩
  · simp only [resolve, hg]
    simp [go_sem]
  · simp [invoke, go_sem, eg]
  -- the record is turned
  have turn : ∀ {pre : List α} {A : World} {r : Loop} (o' : Obj), I pre A → A.heap[w.heap.size + 1]? = some (.loop r) → I pre (A.putObj (w.heap.size + 1) o') ∧ Rd L D0 gl (some (w.heap.size + 1)) A (A.putObj (w.heap.size + 1) o') := fun {pre A r} o' hi ho => by
    have hlt := (Array.getElem?_eq_some_iff.1 ho).1
    exact ⟨hI pre A _ _ hi (grownBy_putObj' A _ o') (fun k e => by cases e; exact ⟨by omega, hlt, by omega, hIr pre A _ hi (.inr rfl)⟩), Rd.put o' ho rfl (by omega) (by omega) (by omega) (by omega)⟩
  refine (hseq (fun pre W => I pre W ∧ W.heap[w.heap.size + 1]? = some (.loop (rc .ready none)) ∧ W.heap[w.heap.size]? = some (.deferred (some []))) W1 hb hz
    (fun pre A A' row h hgr hk => ⟨hI pre A A' row h.1 hgr (fun k e => (hk k e).1), (hgr.block _ (Array.getElem?_eq_some_iff.1 h.2.1).1 (fun e => (hk _ e.symm).2.2 rfl)).trans h.2.1, (hgr.block _ (Array.getElem?_eq_some_iff.1 h.2.2).1 (fun e => (hk _ e.symm).2.1 rfl)).trans h.2.2⟩) (fun pre A r h => hIw pre A r h.1) ?_ ⟨hI0 _ _ _ h0 hb, hLo, hD⟩).mono ?_
  · rintro pre x W ⟨hi, hl, hd⟩ ht hN
    have hlt : w.heap.size + 1 < W.heap.size := (Array.getElem?_eq_some_iff.1 hl).1
    have hy := run_yield (P := P) (args := encs x) hl (by rw [hrc]; exact hps x)
    rw [hrc] at hy
    refine ⟨fn, _, assign, body, hy, roundIn_of_wpIn hfn (hassign _ pre x W _ hi ht fun b Wa hXa hBa => ?_)⟩
    have hla : Wa.heap[w.heap.size + 1]? = some (.loop (rc .ready none)) := (hBa.block _ hlt).trans hl
    have hda : Wa.heap[w.heap.size]? = some (.deferred (some [])) := (hBa.block _ (by omega)).trans hd
    have hia := hI0 _ _ _ hi hBa
    have hlta : w.heap.size + 1 < Wa.heap.size := (Array.getElem?_eq_some_iff.1 hla).1
    have hRa : Rd L D0 gl (some (w.heap.size + 1)) W Wa := ⟨Keeps.of_below hBa, hBa.mono (by omega), fun k hk _ => ⟨hBa.block k hk.lt, hk.grown (below_grown hBa) (by omega) (by simp)⟩⟩
    refine ⟨_, run_beginRound hla (by rw [hrc]), ?_⟩
    obtain ⟨W2, hW2⟩ : ∃ W2, Wa.putObj (w.heap.size + 1) (.loop { rc .ready none with state := .busy }) = W2 := ⟨_, rfl⟩
    have hl2 : W2.heap[w.heap.size + 1]? = some (.loop { rc .ready none with state := .busy }) := hW2 ▸ World.putObj_heap_same hlta
    have hd2 : W2.heap[w.heap.size]? = some (.deferred (some [])) := hW2 ▸ (World.putObj_heap_other (by omega)).trans hda
    obtain ⟨hi2, hR2⟩ := turn (.loop { rc .ready none with state := .busy }) hia hla
    rw [hW2] at hi2 hR2
    have hX2 : X x b W2 := hW2 ▸ hX x b Wa _ _ _ hXa hla
    have hs2 : w.heap.size + 2 ≤ W2.heap.size := by rw [← hW2]; simp; omega
    rw [hW2]
    clear hW2 hy
    refine wpIn_mono (hbody _ pre x b W2 hi2 ht hX2 hN hs2) ?_
    rintro e a3 W3 hp
    cases e with
    | normal =>
      obtain ⟨h3d, h3l, h3, hi3⟩ := hp
      have hl3 := h3l.trans hl2
      have hd3 := h3d.trans hd2
      have hr := run_endRound (P := P) none hl3
      rw [hrc] at hr
      obtain ⟨hi4, hR4⟩ := turn (.loop (rc .ready none)) hi3 hl3
      refine ⟨_, _, hr, rfl, ⟨?_, ?_, ?_⟩, ?_⟩
      · rw [hrc] at hi4; exact hi4
      · rw [hrc]; exact World.putObj_heap_same (Array.getElem?_eq_some_iff.1 hl3).1
      · exact (World.putObj_heap_other (by omega)).trans hd3
      · rw [hrc] at hR4
        exact ((hRa.trans hR2).trans (h3.ex _)).trans hR4
    | exit id => exact hp.elim
    | ret => exact hp.elim
    | goto t => exact hp.elim
    | panic ch => exact hp.elim
    | outgrown => exact hp.elim
  · rintro e W2 ⟨⟨v, rfl⟩, xs, hs, hix, hl, hd⟩
    have hr := run_endLoop (P := P) hl (by rw [hrc]; simp)
    rw [hrc] at hr
    obtain ⟨hi3, _⟩ := turn (.loop { rc .ready none with state := .exhausted }) hix hl
    refine ⟨none, _, hr, ?_⟩
    rw [hrc] at hi3
    exact hdone _ xs _ (Nat.le_refl _) (hS xs _ _ hs (grownBy_putObj' _ _ _)) hi3 ((World.putObj_heap_other (by omega)).trans hd)
end Go.Proofs.YtbggkfomfeeikaaGreatDoor
/-
  Set's own generator of young pointers: the closures that it is made of, but for the generator itself.
-/
namespace Go.Proofs.YtbggkfomfeeikaaGreatDoor
open Go.RowKit Go.Shelf
set_option maxRecDepth 100000

theorem run_store_func {P : Program} (w : World) (a : Addr) (m : Mode) (f : Fn) (x y : Array Value) : (store a (.func f x y) m).run P w = stored P w a (.func f x y) m := run_store P w a _ m rfl
attribute [local go_sem] run_store_func
theorem five_al (w : World) (a b c d e : Array Value) (s t u v z : TypeId) : ∃ w0, ((((w.alloc (.cells a s)).alloc (.cells b t)).alloc (.cells c u)).alloc (.cells d v)).alloc (.cells e z) = w0 ∧ Below w.heap.size w w0 ∧ w0.heap.size = w.heap.size + 5 ∧ Blk w0 w.heap.size s a ∧ Blk w0 (w.heap.size + 1) t b ∧ Blk w0 (w.heap.size + 2) u c ∧ Blk w0 (w.heap.size + 3) v d ∧ Blk w0 (w.heap.size + 4) z e := by
  obtain ⟨w1, h1, b1, z1, x1, y1, q1⟩ := three_al w a b c s t u
  obtain ⟨w2, h2, b2, z2, x2, y2⟩ := two_al w1 d e v z
  rw [h1, h2]
  rw [z1] at x2 y2
  exact ⟨_, rfl, b1.trans (b2.mono b1.size), by omega, x1.below b2 x1.lt, y1.below b2 y1.lt, q1.below b2 q1.lt, x2, y2⟩
/-- Whether a pointer is young. -/
theorem seIs_any (p : Pt) (a gA : Nat) (w : World) (hA : w.cell? ⟨gA, 0, none⟩ = some (.int .u32 (a : Int))) (R : Bool) (hR : R = decide (a < p.2.1)) : Calls Tryz.prog 51 #[ptV p, .pointer (some ⟨gA, 0, none⟩)] w fun e w' => e = .returned (.bool R) ∧ Below w.heap.size w w' := by
  obtain ⟨pa, pb, pi, pt, ps⟩ := p
  simp only at hR
  have hb := (Below.refl w.heap.size w).alloc (Nat.le_refl _) (.cells (ptA (pa, pb, pi, pt, ps)) 32)
  have hx := Blk.new w 32 (ptA (pa, pb, pi, pt, ps))
  obtain ⟨w0, hw0⟩ : ∃ w0, w.alloc (.cells (ptA (pa, pb, pi, pt, ps)) 32) = w0 := ⟨_, rfl⟩
  rw [hw0] at hb hx
  have hA0 : w0.cell? ⟨gA, 0, none⟩ = some (.int .u32 (a : Int)) := by
    have hlt := World.block_lt_of_cell? w _ hA
    exact (hb.cell (p := ⟨gA, 0, none⟩) hlt).trans hA
  obtain ⟨g, hg⟩ : ∃ g, w.heap.size = g := ⟨_, rfl⟩
  rw [hg] at hb hx
  have HB := Lib.hid hb
  have d1 := bx1 hx
  simp only [ptA] at hw0 d1
  clear hb hx hA
  by_cases h : a < pb
  · obtain rfl : R = true := by rw [hR]; exact decide_eq_true h
    have e1 : decide ((a : Int) < (pb : Int)) = true := decide_eq_true (by omega)
    have e2 : decide (a < pb) = true := decide_eq_true h
    clear hR h
    go_enter Tryz.func51, Tryz.ntmps51
    go_wp2_with fail
    go_ret
    exact ⟨rfl, by rw [hg]; exact HB.out⟩
  · obtain rfl : R = false := by rw [hR]; exact decide_eq_false h
    have e1 : decide ((a : Int) < (pb : Int)) = false := decide_eq_false (by omega)
    have e2 : decide (a < pb) = false := decide_eq_false h
    clear hR h
    go_enter Tryz.func51, Tryz.ntmps51
    go_wp2_with fail
    go_ret
    exact ⟨rfl, by rw [hg]; exact HB.out⟩
/-- How it ended. -/
theorem seEnded_any (c : Int) (gE : Nat) (w : World) (hE : w.cell? ⟨gE, 0, none⟩ = some (.int .i64 c)) : Calls Tryz.prog 53 #[.pointer (some ⟨gE, 0, none⟩)] w fun e w' => e = .returned (.int .i64 c) ∧ w' = w := by
  go_enter Tryz.func53, Tryz.ntmps53
  go_wp2_with fail
  go_ret
  exact ⟨rfl, rfl⟩
/-- The boxes that the generator keeps: the store's, the root's, the sync's, the error's, and whether one is young. -/
structure Kept (g a : Nat) (x : SAt) (S : StL) (p : Pt) (W : World) : Prop where
  bS : Blk W g 30 (stC x S)
  bR : Blk W (g + 1) 32 (ptA p)
  bA : Blk W (g + 2) 28 #[.int .u32 (a : Int)]
  bY : Blk W (g + 4) 86 #[.func (.func 51) #[] #[.pointer (some ⟨g + 2, 0, none⟩)]]
theorem seOnes_any (x : SAt) (S : StL) (p : Pt) (a : Nat) (w : World) : Calls Tryz.prog 30 #[stV x S, ptV p, .int .u32 (a : Int)] w fun e w' => ∃ g, w.heap.size = g ∧ e = .returned (.tuple #[.func (.func 52) #[] #[.pointer (some ⟨g + 4, 0, none⟩), .pointer (some ⟨g + 1, 0, none⟩), .pointer (some ⟨g, 0, none⟩), .pointer (some ⟨g + 3, 0, none⟩)], .func (.func 53) #[] #[.pointer (some ⟨g + 3, 0, none⟩)]]) ∧
    Kept g a x S p w' ∧ Blk w' (g + 3) 36 #[.int .i64 0] ∧ Below w.heap.size w w' ∧ w'.heap.size = g + 5 := by
  obtain ⟨pa, pb, pi, pt, ps⟩ := p
  obtain ⟨w0, hw0, b0, z0, q1, q2, q3, q4, q5⟩ := five_al w (stC x S) (ptA (pa, pb, pi, pt, ps)) #[.int .u32 (a : Int)] #[.int .i64 0] #[.func (.func 51) #[] #[.pointer (some ⟨w.heap.size + 2, 0, none⟩)]] 30 32 28 36 86
  have HB := Lib.hid b0
  have HZ := Lib.hid z0
  have HK := Lib.hid (show Kept w.heap.size a x S (pa, pb, pi, pt, ps) w0 from ⟨q1, q2, q3, q5⟩)
  have HE := Lib.hid q4
  have HW := Lib.hid hw0
  clear b0 z0 q1 q2 q3 q4 q5 hw0
  go_enter Tryz.func30, Tryz.ntmps30
  go_wp2_with fail
  go_ret2
  have hw := HW.out
  simp only [stC, ptA] at hw
  rw [hw]
  exact ⟨_, rfl, rfl, HK.out, HE.out, HB.out, HZ.out⟩
end Go.Proofs.YtbggkfomfeeikaaGreatDoor
/-
  What the generator of young pointers keeps while it is gone through.
-/
namespace Go.Proofs.YtbggkfomfeeikaaGreatDoor
open Go.RowKit Go.Shelf
set_option maxRecDepth 100000

theorem yng_iff (a : Nat) (p : Pt) : Yng a p ↔ a < p.2.1 := ⟨fun h => h.2, fun h => ⟨fun e => by subst e; exact absurd h (Nat.not_lt_zero _), h⟩⟩
/-- What the generator knows between its steps. -/
structure YgW (L D0 gl g a : Nat) (x : SAt) (S : StL) (p : Pt) (c : Nat) (W : World) : Prop where
  st : StP L W x S
  kp : Kept g a x S p W
  er : Blk W (g + 3) 36 #[.int .i64 (c : Int)]
  fr : ∀ i, i < 5 → Fr D0 gl (g + i) W
  lw : L ≤ W.heap.size
  sz : Szs W
  gw : gl < W.heap.size
  dw : D0 ≤ W.heap.size
  rw : ∀ r, rowAt gl W = some r → r < W.heap.size
/-- Pointers that the generator goes through. -/
structure YgP (D0 gl n : Nat) (A : Option Addr) (c : Nat) (M : List Pt) (W : World) : Prop where
  pt : Pts W W.heap.size A n c M
  fr : 0 < n → ∀ p, A = some p → Fr D0 gl p.block W
/-- A box of the generator's. -/
structure YgB (D0 gl k : Nat) (t : TypeId) (cs : Array Value) (W : World) : Prop where
  bx : Blk W k t cs
  fr : Fr D0 gl k W
section
variable {L D0 gl g a l n c : Nat} {x : SAt} {S : StL} {p : Pt} {e : Nat} {W W' : World} {A : Option Addr} {M : List Pt} {k : Nat} {t : TypeId} {cs : Array Value}
theorem blk_same {b : Nat} {t : TypeId} {cs : Array Value} (h : Blk W b t cs) (hs : W'.heap[b]? = W.heap[b]?) : Blk W' b t cs := (show W'.heap[b]? = _ from hs).trans h
theorem Kept.blocks (h : Kept g a x S p W) (hs : ∀ i, i < 5 → i ≠ 3 → W'.heap[g + i]? = W.heap[g + i]?) : Kept g a x S p W' :=
  ⟨blk_same h.bS (hs 0 (by omega) (by omega)), blk_same h.bR (hs 1 (by omega) (by omega)), blk_same h.bA (hs 2 (by omega) (by omega)), blk_same h.bY (hs 4 (by omega) (by omega))⟩
theorem YgW.bel (h : YgW L D0 gl g a x S p e W) (b : Below W.heap.size W W') : YgW L D0 gl g a x S p e W' :=
  ⟨h.st.bel b, h.kp.blocks fun i hi _ => b.block _ (h.fr i hi).lt, h.er.below b h.er.lt, fun i hi => (h.fr i hi).grown (below_grown b) h.gw (by simp), Nat.le_trans h.lw b.size, h.sz.step b, Nat.lt_of_lt_of_le h.gw b.size, Nat.le_trans h.dw b.size, fun r hr => by
    rw [rowAt_grown (below_grown b) h.gw (by simp)] at hr
    exact Nat.lt_of_lt_of_le (h.rw r hr) b.size⟩
theorem YgW.rd (h : YgW L D0 gl g a x S p e W) (r : Rd L D0 gl (some l) W W') (hl : g + 5 ≤ l) (hD : 0 < D0) (hr : ∀ r, rowAt gl W' = some r → r < W'.heap.size) : YgW L D0 gl g a x S p e W' := by
  have hf : ∀ i, i < 5 → W'.heap[g + i]? = W.heap[g + i]? ∧ Fr D0 gl (g + i) W' := fun i hi => r.fr _ (h.fr i hi) (fun e => by injection e; omega)
  exact ⟨h.st.step r.kp, h.kp.blocks fun i hi _ => (hf i hi).1, blk_same h.er (hf 3 (by omega)).1, fun i hi => (hf i hi).2, Nat.le_trans h.lw r.kp.size, h.sz.below r.be hD, Nat.lt_of_lt_of_le h.gw r.kp.size, Nat.le_trans h.dw r.kp.size, hr⟩
/-- A box of the generator's own is written to. -/
theorem YgW.own (h : YgW L D0 gl g a x S p e W) (hg : W.grownBy W' (some k)) (hb : Blk W k t cs) (ht : rowT t = false) (hL : L ≤ k) (h0 : 0 < k) (hk : g + 5 ≤ k) (hn : k ≠ gl) : YgW L D0 gl g a x S p e W' := by
  have hf : ∀ i, i < 5 → W'.heap[g + i]? = W.heap[g + i]? := fun i hi => hg.block _ (h.fr i hi).lt (fun e => by injection e; omega)
  have hz : Below k W W' := ⟨hg.os, hg.tape, hg.output, hg.size, fun b hb' => hg.block b (Nat.lt_trans hb' hb.lt) (fun e => by injection e; omega)⟩
  have hne : some k ≠ some gl := fun e => hn (Option.some.inj e)
  exact ⟨h.st.step (Keeps.of_box hg hb ht hL), h.kp.blocks fun i hi _ => hf i hi, blk_same h.er (hf 3 (by omega)), fun i hi => (h.fr i hi).grown hg h.gw hne, Nat.le_trans h.lw hg.size, h.sz.below hz h0, Nat.lt_of_lt_of_le h.gw hg.size, Nat.le_trans h.dw hg.size, fun r hr => by
    rw [rowAt_grown hg h.gw hne] at hr
    exact Nat.lt_of_lt_of_le (h.rw r hr) hg.size⟩
/-- The error is written. -/
theorem YgW.err (h : YgW L D0 gl g a x S p e W) (hL : L ≤ g) (h0 : 0 < g) (e' : Nat) : YgW L D0 gl g a x S p e' (W.setCell ⟨g + 3, 0, none⟩ (.int .i64 (e' : Int))) := by
  have hg : W.grownBy (W.setCell ⟨g + 3, 0, none⟩ (.int .i64 (e' : Int))) (some (g + 3)) := only_setCell (World.grownBy.refl _ _) (.inl rfl) _
  have hne : some (g + 3) ≠ some gl := fun e => (h.fr 3 (by omega)).ne (Option.some.inj e)
  have hz : Below (g + 3) W (W.setCell ⟨g + 3, 0, none⟩ (.int .i64 (e' : Int))) := ⟨hg.os, hg.tape, hg.output, hg.size, fun b hb' => hg.block b (Nat.lt_trans hb' h.er.lt) (fun e => by injection e; omega)⟩
  exact ⟨h.st.step (Keeps.of_box hg h.er (by decide) (by omega)), h.kp.blocks fun i hi h3 => hg.block _ (h.fr i hi).lt (fun e => by injection e; omega), h.er.set_ 0 _, fun i hi => (h.fr i hi).grown hg h.gw hne, Nat.le_trans h.lw hg.size, h.sz.below hz (by omega), Nat.lt_of_lt_of_le h.gw hg.size, Nat.le_trans h.dw hg.size, fun r hr => by
    rw [rowAt_grown hg h.gw hne] at hr
    exact Nat.lt_of_lt_of_le (h.rw r hr) hg.size⟩
theorem Pts.blocks {B B' : Nat} (h : Pts W B A n c M) (hs : 0 < n → ∀ p, A = some p → W'.heap[p.block]? = W.heap[p.block]? ∧ p.block < B') : Pts W' B' A n c M := by
  obtain ⟨h1, h2, h3, h4, h5⟩ := h
  refine ⟨h1, h2, h3, h4, fun hl => ?_⟩
  obtain ⟨b, off, e, hlt, hc⟩ := h5 hl
  obtain ⟨hs1, hs2⟩ := hs hl _ e
  exact ⟨b, off, e, hs2, fun i hi => ⟨(hc i hi).1, fun j u hu => ((World.cell?_of_block (a := ⟨b, off + i * 5 + j, none⟩) hs1)).trans ((hc i hi).2 j u hu)⟩⟩
theorem YgP.grown {row : Option Nat} (h : YgP D0 gl n A c M W) (hg : W.grownBy W' row) (hgl : gl < W.heap.size) (hr : row ≠ some gl) (hne : 0 < n → ∀ p, A = some p → some p.block ≠ row) : YgP D0 gl n A c M W' :=
  ⟨h.pt.blocks fun hl p e => ⟨hg.block _ (h.fr hl p e).lt (hne hl p e), Nat.lt_of_lt_of_le (h.fr hl p e).lt hg.size⟩, fun hl p e => (h.fr hl p e).grown hg hgl hr⟩
theorem YgP.bel (h : YgP D0 gl n A c M W) (b : Below W.heap.size W W') (hgl : gl < W.heap.size) : YgP D0 gl n A c M W' := h.grown (below_grown b) hgl (by simp) (by simp)
theorem YgP.rd (h : YgP D0 gl n A c M W) (r : Rd L D0 gl (some l) W W') (hl : 0 < n → ∀ p, A = some p → l < p.block) : YgP D0 gl n A c M W' := by
  have hf := fun hl0 p e => r.fr _ (h.fr hl0 p e) (fun e2 => by have := hl hl0 p e; injection e2; omega)
  exact ⟨h.pt.blocks fun hl p e => ⟨(hf hl p e).1, (hf hl p e).2.lt⟩, fun hl p e => (hf hl p e).2⟩
theorem YgB.grown {row : Option Nat} (h : YgB D0 gl k t cs W) (hg : W.grownBy W' row) (hgl : gl < W.heap.size) (hr : row ≠ some gl) (hne : some k ≠ row) : YgB D0 gl k t cs W' :=
  ⟨h.bx.grown hg hne, h.fr.grown hg hgl hr⟩
theorem YgB.bel (h : YgB D0 gl k t cs W) (b : Below W.heap.size W W') (hgl : gl < W.heap.size) : YgB D0 gl k t cs W' := h.grown (below_grown b) hgl (by simp) (by simp)
theorem YgB.rd (h : YgB D0 gl k t cs W) (r : Rd L D0 gl (some l) W W') (hl : l < k) : YgB D0 gl k t cs W' := by
  have hf := r.fr _ h.fr (fun e2 => by injection e2; omega)
  exact ⟨blk_same h.bx hf.1, hf.2⟩
end
/-- How it ends: the pointers that came, and the error. -/
def YgS (S : StL) (p : Pt) (a g : Nat) (xs : List Pt) (W : World) : Prop := ∃ c : Nat, Blk W (g + 3) 36 #[.int .i64 (c : Int)] ∧ ((c = 0 ∧ youngSO S p a = (xs, 0)) ∨ (c ≠ 0 ∧ youngSO S p a = ([], c)))
end Go.Proofs.YtbggkfomfeeikaaGreatDoor
/-
  The document's own One and Object of layer 15.
-/
namespace Go.Proofs.YtbggkfomfeeikaaGreatDoor
open Go.RowKit Go.Shelf
set_option maxRecDepth 100000

set_option maxHeartbeats 4000000 in
theorem rsOne_any (L : Nat) (x : SAt) (S : StL) (p : Pt) (w : World) (h : StP L w x S) (hm : MayS S) (hmp : MayP p) (hL : L ≤ w.heap.size) : Calls Tryz.prog 37 #[stV x S, ptV p] w (OutOs (oneSO S p) w) := by
  obtain ⟨pa, pb, pi, pt, ps⟩ := p
  obtain ⟨w0, hw0, b0, z0, q1, q2, q3⟩ := three_al w (stC x S) (ptA (pa, pb, pi, pt, ps)) #[.int .u8 0, .int .i64 0, .int .i64 0, .slice none 0 0] 30 32 40
  obtain ⟨g, hg⟩ : ∃ g, w.heap.size = g := ⟨_, rfl⟩
  obtain ⟨g1, hg1⟩ : ∃ g1, g + 1 = g1 := ⟨_, rfl⟩
  obtain ⟨g2, hg2⟩ : ∃ g2, g1 + 1 = g2 := ⟨_, rfl⟩
  rw [hg] at q1 q2 q3
  rw [hg1] at q2
  rw [show g + 2 = g1 + 1 by omega, hg2] at q3
  have HX := Lib.hid q1
  have HQ := Lib.hid q2
  have HZO := Lib.hid q3
  have HT := Lib.hid (h.bel b0)
  have HB := Lib.hid b0
  have HGE := Lib.hid (show w.heap.size ≤ g2 by omega)
  have HG2 := Lib.hid (show g2 < w0.heap.size by omega)
  have HGN := Lib.hid (show g ≠ g2 by omega)
  have HLW := Lib.hid (show L ≤ w0.heap.size from Nat.le_trans hL b0.size)
  simp only [stC, ptA] at hw0
  clear h b0 z0 q1 q2 q3 hL
  obtain ⟨⟨sb, se⟩, hse⟩ : ∃ o, seenO S (pa, pb, pi, pt, ps) = o := ⟨_, rfl⟩
  have hsn := fun W hW hLW => rtSeen_any L x S (pa, pb, pi, pt, ps) W hW hm hmp hLW
  rw [hse] at hsn
  have HSE := Lib.hid hsn
  clear hsn
  by_cases he : se ≠ 0
  · have HO := Lib.hid (show oneSO S (pa, pb, pi, pt, ps) = (ob0, se) by unfold oneSO; rw [hse, if_pos he])
    have e1 : ((se : Int) != 0) = true := by simp; omega
    clear hse he
    have d0 := bx0 HX.out
    have d1 := bx1 HX.out
    have d2 := bx2 HX.out
    have d3 := bx3 HX.out
    have d4 := bx4 HX.out
    have q0 := bx0 HQ.out
    have q1 := bx1 HQ.out
    have q2 := bx2 HQ.out
    have q3 := bx3 HQ.out
    have q4 := bx4 HQ.out
    go_enter Tryz.func37, Tryz.ntmps37
    go_wp2_with fail
    try rw [hw0]
    try rw [hg]
    try rw [hg1]
    try rw [hg2]
    clear hw0 hg hg1 hg2
    clear d0 d1 d2 d3 d4
    clear q0 q1 q2 q3 q4
    refine (HSE.out w0 HT.out HLW.out).mono ?_
    rintro e w2 ⟨v, rfl, hv, b2⟩
    replace HX := Lib.hid (HX.out.below b2 HX.out.lt)
    replace HQ := Lib.hid (HQ.out.below b2 HQ.out.lt)
    replace HZO := Lib.hid (HZO.out.below b2 HZO.out.lt)
    replace HT := Lib.hid (HT.out.bel b2)
    replace HB := Lib.hid (HB.out.trans (b2.mono HB.out.size))
    replace HLW := Lib.hid (Nat.le_trans HLW.out b2.size)
    obtain ⟨av, cv, rfl⟩ := own_slice hv
    clear b2 hv HSE
    have m0 := ox0 HZO.out
    have m1 := ox1 HZO.out
    have m2 := ox2 HZO.out
    have m3 := ox3 HZO.out
    have hfz := fun i => HZO.out.frozen i
    have xz := HZO.out.set4 (.int .u8 0) (.int .i64 0) (.int .i64 0) (.slice none 0 0)
    have bz := below_set4 HB.out HGE.out (.int .u8 0) (.int .i64 0) (.int .i64 0) (.slice none 0 0)
    obtain ⟨wz, hwz⟩ : ∃ X, (((w2.setCell ⟨g2, 0, none⟩ (.int .u8 0)).setCell ⟨g2, 1, none⟩ (.int .i64 0)).setCell ⟨g2, 2, none⟩ (.int .i64 0)).setCell ⟨g2, 3, none⟩ (.slice none 0 0) = X := ⟨_, rfl⟩
    rw [hwz] at xz bz
    have HXZ := Lib.hid xz
    have HBZ := Lib.hid bz
    clear xz bz
    go_wp2_with fail
    clear m0 m1 m2 m3 hfz hwz
    have e0 := ox0 HXZ.out
    have e1 := ox1 HXZ.out
    have e2 := ox2 HXZ.out
    have e3 := ox3 HXZ.out
    refine bodyPost_ret (v := .tuple #[.agg #[.int .u8 0, .int .i64 0, .int .i64 0, .slice none 0 0], .int .i64 se]) (by simp [results, Tryz.f37, go_sem, e0, e1, e2, e3]) rfl ?_
    rw [HO.out]
    exact outOs_no se HBZ.out
  · obtain rfl : se = 0 := by omega
    have hlen := seenO_len hm hmp hse
    have e1 : (((0 : Nat) : Int) != 0) = false := rfl
    have HSO := Lib.hid hse
    have HLN := Lib.hid hlen
    clear hse hlen he
    rcases oreadO_cases sb with ⟨f, hf, hfn⟩ | ⟨_, hmo, _, hf⟩
    · have HO := Lib.hid (show oneSO S (pa, pb, pi, pt, ps) = (ob0, 8) by unfold oneSO; rw [HSO.out, if_neg (fun h => h rfl), hf, if_pos hfn])
      have e2 : ((f : Int) != 0) = true := by simp; omega
      clear hfn
      have d0 := bx0 HX.out
      have d1 := bx1 HX.out
      have d2 := bx2 HX.out
      have d3 := bx3 HX.out
      have d4 := bx4 HX.out
      have q0 := bx0 HQ.out
      have q1 := bx1 HQ.out
      have q2 := bx2 HQ.out
      have q3 := bx3 HQ.out
      have q4 := bx4 HQ.out
      go_enter Tryz.func37, Tryz.ntmps37
      go_wp2_with fail
      try rw [hw0]
      try rw [hg]
      try rw [hg1]
      try rw [hg2]
      clear hw0 hg hg1 hg2
      clear d0 d1 d2 d3 d4
      clear q0 q1 q2 q3 q4
      refine (HSE.out w0 HT.out HLW.out).mono ?_
      rintro e w2 ⟨v, rfl, hv, b2⟩
      replace HX := Lib.hid (HX.out.below b2 HX.out.lt)
      replace HQ := Lib.hid (HQ.out.below b2 HQ.out.lt)
      replace HZO := Lib.hid (HZO.out.below b2 HZO.out.lt)
      replace HT := Lib.hid (HT.out.bel b2)
      replace HB := Lib.hid (HB.out.trans (b2.mono HB.out.size))
      replace HLW := Lib.hid (Nat.le_trans HLW.out b2.size)
      simp only [HLN.out] at hv
      obtain ⟨av, cv, rfl⟩ := own_slice hv
      have hrd := roRead_any av cv sb w2 (by rw [HLN.out]; exact own_bsl hv)
      rw [hf, HLN.out] at hrd
      have HRD := Lib.hid hrd
      have HG3 := Lib.hid (show g2 < w2.heap.size from HZO.out.lt)
      clear b2 hv hrd HSE hf
      go_wp2_with fail
      refine HRD.out.mono ?_
      rintro e w3 ⟨v3, rfl, hp3, b3⟩
      replace HX := Lib.hid (HX.out.below b3 HX.out.lt)
      replace HQ := Lib.hid (HQ.out.below b3 HQ.out.lt)
      replace HZO := Lib.hid (HZO.out.below b3 HZO.out.lt)
      replace HT := Lib.hid (HT.out.bel b3)
      replace HB := Lib.hid (HB.out.trans (b3.mono HB.out.size))
      replace HLW := Lib.hid (Nat.le_trans HLW.out b3.size)
      clear b3 HRD
      obtain ⟨a3, c3, rfl, _⟩ := hp3.pts
      clear hp3
      have bx := (Below.refl w3.heap.size w3).alloc (Nat.le_refl _) (.cells #[.int .u8 0, .int .i64 0, .int .i64 0, .slice a3 0 c3] 40)
      obtain ⟨w4, hw4⟩ : ∃ X, w3.alloc (.cells #[.int .u8 0, .int .i64 0, .int .i64 0, .slice a3 0 c3] 40) = X := ⟨_, rfl⟩
      rw [hw4] at bx
      replace HX := Lib.hid (HX.out.below bx HX.out.lt)
      replace HQ := Lib.hid (HQ.out.below bx HQ.out.lt)
      replace HZO := Lib.hid (HZO.out.below bx HZO.out.lt)
      replace HT := Lib.hid (HT.out.bel bx)
      replace HB := Lib.hid (HB.out.trans (bx.mono HB.out.size))
      replace HLW := Lib.hid (Nat.le_trans HLW.out bx.size)
      clear bx
      have m0 := ox0 HZO.out
      have m1 := ox1 HZO.out
      have m2 := ox2 HZO.out
      have m3 := ox3 HZO.out
      have hfz := fun i => HZO.out.frozen i
      have xz := HZO.out.set4 (.int .u8 0) (.int .i64 0) (.int .i64 0) (.slice none 0 0)
      have bz := below_set4 HB.out HGE.out (.int .u8 0) (.int .i64 0) (.int .i64 0) (.slice none 0 0)
      obtain ⟨wz, hwz⟩ : ∃ X, (((w4.setCell ⟨g2, 0, none⟩ (.int .u8 0)).setCell ⟨g2, 1, none⟩ (.int .i64 0)).setCell ⟨g2, 2, none⟩ (.int .i64 0)).setCell ⟨g2, 3, none⟩ (.slice none 0 0) = X := ⟨_, rfl⟩
      rw [hwz] at xz bz
      have HXZ := Lib.hid xz
      have HBZ := Lib.hid bz
      clear xz bz
      go_wp2_with fail
      try clear hw4
      clear m0 m1 m2 m3 hfz hwz
      have e0 := ox0 HXZ.out
      have e1 := ox1 HXZ.out
      have e2 := ox2 HXZ.out
      have e3 := ox3 HXZ.out
      refine bodyPost_ret (v := .tuple #[.agg #[.int .u8 0, .int .i64 0, .int .i64 0, .slice none 0 0], .int .i64 8]) (by simp [results, Tryz.f37, go_sem, e0, e1, e2, e3]) rfl ?_
      rw [HO.out]
      exact outOs_no 8 HBZ.out
    · obtain ⟨O, hO⟩ : ∃ O, decOb sb = O := ⟨_, rfl⟩
      rw [hO] at hf hmo
      have HO := Lib.hid (show oneSO S (pa, pb, pi, pt, ps) = (O, 0) by unfold oneSO; rw [HSO.out, if_neg (fun h => h rfl), hf, if_neg (fun h => h rfl)])
      obtain ⟨k5, l5, r5, L5⟩ := O
      have h15 := hmo.1.2.2.2
      simp only at h15
      have H15 := Lib.hid h15
      clear hO hmo h15
      have d0 := bx0 HX.out
      have d1 := bx1 HX.out
      have d2 := bx2 HX.out
      have d3 := bx3 HX.out
      have d4 := bx4 HX.out
      have q0 := bx0 HQ.out
      have q1 := bx1 HQ.out
      have q2 := bx2 HQ.out
      have q3 := bx3 HQ.out
      have q4 := bx4 HQ.out
      go_enter Tryz.func37, Tryz.ntmps37
      go_wp2_with fail
      try rw [hw0]
      try rw [hg]
      try rw [hg1]
      try rw [hg2]
      clear hw0 hg hg1 hg2
      clear d0 d1 d2 d3 d4
      clear q0 q1 q2 q3 q4
      refine (HSE.out w0 HT.out HLW.out).mono ?_
      rintro e w2 ⟨v, rfl, hv, b2⟩
      replace HX := Lib.hid (HX.out.below b2 HX.out.lt)
      replace HQ := Lib.hid (HQ.out.below b2 HQ.out.lt)
      replace HZO := Lib.hid (HZO.out.below b2 HZO.out.lt)
      replace HT := Lib.hid (HT.out.bel b2)
      replace HB := Lib.hid (HB.out.trans (b2.mono HB.out.size))
      replace HLW := Lib.hid (Nat.le_trans HLW.out b2.size)
      simp only [HLN.out] at hv
      obtain ⟨av, cv, rfl⟩ := own_slice hv
      have hrd := roRead_any av cv sb w2 (by rw [HLN.out]; exact own_bsl hv)
      rw [hf, HLN.out] at hrd
      have HRD := Lib.hid hrd
      have HB2 := Lib.hid (show w.heap.size ≤ w2.heap.size from HB.out.size)
      have HG3 := Lib.hid (show g2 < w2.heap.size from HZO.out.lt)
      clear b2 hv hrd HSE hf
      go_wp2_with fail
      refine HRD.out.mono ?_
      rintro e w3 ⟨v3, rfl, hp3, b3⟩
      replace HX := Lib.hid (HX.out.below b3 HX.out.lt)
      replace HQ := Lib.hid (HQ.out.below b3 HQ.out.lt)
      replace HZO := Lib.hid (HZO.out.below b3 HZO.out.lt)
      replace HT := Lib.hid (HT.out.bel b3)
      replace HB := Lib.hid (HB.out.trans (b3.mono HB.out.size))
      replace HLW := Lib.hid (Nat.le_trans HLW.out b3.size)
      clear b3 HRD
      obtain ⟨a3, c3, rfl, ht3⟩ := hp3.pts
      have hhi := prow_hi hp3
      simp only [H15.out] at ht3 ⊢
      have bx := (Below.refl w3.heap.size w3).alloc (Nat.le_refl _) (.cells #[.int .u8 (k5 : Int), .int .i64 l5, .int .i64 r5, .slice a3 15 c3] 40)
      have xx := Blk.new w3 40 #[.int .u8 (k5 : Int), .int .i64 l5, .int .i64 r5, .slice a3 15 c3]
      obtain ⟨w4, hw4⟩ : ∃ X, w3.alloc (.cells #[.int .u8 (k5 : Int), .int .i64 l5, .int .i64 r5, .slice a3 15 c3] 40) = X := ⟨_, rfl⟩
      obtain ⟨g4, hg4⟩ : ∃ X, w3.heap.size = X := ⟨_, rfl⟩
      have HP := Lib.hid ht3
      rw [hw4] at bx xx
      replace HP := Lib.hid (HP.out.step bx)
      replace HX := Lib.hid (HX.out.below bx HX.out.lt)
      replace HQ := Lib.hid (HQ.out.below bx HQ.out.lt)
      replace HZO := Lib.hid (HZO.out.below bx HZO.out.lt)
      replace HT := Lib.hid (HT.out.bel bx)
      replace HB := Lib.hid (HB.out.trans (bx.mono HB.out.size))
      replace HLW := Lib.hid (Nat.le_trans HLW.out bx.size)
      rw [hg4] at xx
      have n0 := ox0 xx
      have n1 := ox1 xx
      have n2 := ox2 xx
      have n3 := ox3 xx
      have HHI := Lib.hid hhi
      clear bx xx ht3 hp3 hhi
      have m0 := ox0 HZO.out
      have m1 := ox1 HZO.out
      have m2 := ox2 HZO.out
      have m3 := ox3 HZO.out
      have hfz := fun i => HZO.out.frozen i
      have xz := HZO.out.set4 (.int .u8 (k5 : Int)) (.int .i64 l5) (.int .i64 r5) (.slice a3 15 c3)
      have bz := below_set4 HB.out HGE.out (.int .u8 (k5 : Int)) (.int .i64 l5) (.int .i64 r5) (.slice a3 15 c3)
      have hpz := HP.out.box4 (fun p e => Nat.lt_of_lt_of_le HG3.out (HHI.out p e)) (.int .u8 (k5 : Int)) (.int .i64 l5) (.int .i64 r5) (.slice a3 15 c3)
      obtain ⟨wz, hwz⟩ : ∃ X, (((w4.setCell ⟨g2, 0, none⟩ (.int .u8 (k5 : Int))).setCell ⟨g2, 1, none⟩ (.int .i64 l5)).setCell ⟨g2, 2, none⟩ (.int .i64 r5)).setCell ⟨g2, 3, none⟩ (.slice a3 15 c3) = X := ⟨_, rfl⟩
      rw [hwz] at xz bz hpz
      have HXZ := Lib.hid xz
      have HBZ := Lib.hid bz
      clear xz bz
      have HPZ := Lib.hid (hpz.more (show w4.heap.size ≤ wz.heap.size by rw [← hwz]; simp [World.setCell]))
      clear hpz
      go_wp2_with fail
      try clear hw4 hg4
      clear n0 n1 n2 n3
      clear m0 m1 m2 m3 hfz hwz
      have e0 := ox0 HXZ.out
      have e1 := ox1 HXZ.out
      have e2 := ox2 HXZ.out
      have e3 := ox3 HXZ.out
      refine bodyPost_ret (v := .tuple #[.agg #[.int .u8 (k5 : Int), .int .i64 l5, .int .i64 r5, .slice a3 15 c3], .int .i64 0]) (by simp [results, Tryz.f37, go_sem, e0, e1, e2, e3]) rfl ?_
      rw [HO.out]
      refine ⟨a3, c3, ?_, ?_, HHI.out.less HB2.out, HBZ.out⟩
      · simp only [H15.out]
        rfl
      · simp only [H15.out]
        exact HPZ.out
set_option linter.unusedSimpArgs false in
set_option maxHeartbeats 4000000 in
theorem rsObject_any (L : Nat) (x : SAt) (S : StL) (p : Pt) (n : Int) (w : World) (h : StP L w x S) (hL : L ≤ w.heap.size) (hn : -9223372036854775808 ≤ n ∧ n ≤ 9223372036854775807) : Calls Tryz.prog 17 #[stV x S, ptV p, .int .i64 n] w (OutOs (objSO S p n) w) := by
  have hmx : Tryz.prog.follows Departure.mixedOrders = true := by kernel_rfl
  obtain ⟨pa, pb, pi, pt, ps⟩ := p
  obtain ⟨w0, hw0, b0, z0, q1, q2, q3⟩ := three_al w (stC x S) (ptA (pa, pb, pi, pt, ps)) #[.int .u8 0, .int .i64 0, .int .i64 0, .slice none 0 0] 30 32 40
  obtain ⟨g, hg⟩ : ∃ g, w.heap.size = g := ⟨_, rfl⟩
  obtain ⟨g1, hg1⟩ : ∃ g1, g + 1 = g1 := ⟨_, rfl⟩
  obtain ⟨g2, hg2⟩ : ∃ g2, g1 + 1 = g2 := ⟨_, rfl⟩
  rw [hg] at q1 q2 q3
  rw [hg1] at q2
  rw [show g + 2 = g1 + 1 by omega, hg2] at q3
  have HX := Lib.hid q1
  have HQ := Lib.hid q2
  have HZO := Lib.hid q3
  have HT := Lib.hid (h.bel b0)
  have HB := Lib.hid b0
  have HGE := Lib.hid (show w.heap.size ≤ g2 by omega)
  have HG2 := Lib.hid (show g2 < w0.heap.size by omega)
  have HGN := Lib.hid (show g ≠ g2 by omega)
  have HLW := Lib.hid (show L ≤ w0.heap.size from Nat.le_trans hL b0.size)
  simp only [stC, ptA] at hw0
  clear h b0 z0 q1 q2 q3 hL
  by_cases hm : MayS S ∧ MayP (pa, pb, pi, pt, ps)
  · by_cases hr : 0 ≤ n ∧ n < 16
    · have HM1 := Lib.hid hm
      obtain ⟨k, rfl⟩ : ∃ k : Nat, n = (k : Int) := ⟨n.toNat, by omega⟩
      have k0 : (0 : Int) ≤ k := by omega
      have k1 : (k : Int) < 16 := by omega
      have hk16 : k < 16 := by omega
      have HRW := Lib.hid (fun W hW hLW => rsRow_any L x S (pa, pb, pi, pt, ps) W hW hm.1 hm.2 hLW)
      rcases rowSO_cases S (pa, pb, pi, pt, ps) with ⟨e, her, hen⟩ | ⟨LL, her, hl16, hwf, hml⟩
      · have HMY := Lib.hid (rsMay_any L x S (pa, pb, pi, pt, ps) w0 HT.out HLW.out true ⟨fun _ => hm, fun _ => rfl⟩)
        have HO := Lib.hid (objSO_row hm.1 hm.2 (n := (k : Int)) ⟨k0, k1⟩ her hen)
        have e1 : ((e : Int) != 0) = true := by simp; omega
        clear hm hn hr hen
        have d0 := bx0 HX.out
        have d1 := bx1 HX.out
        have d2 := bx2 HX.out
        have d3 := bx3 HX.out
        have d4 := bx4 HX.out
        have q0 := bx0 HQ.out
        have q1 := bx1 HQ.out
        have q2 := bx2 HQ.out
        have q3 := bx3 HQ.out
        have q4 := bx4 HQ.out
        go_enter Tryz.func17, Tryz.ntmps17
        go_wp2_with fail
        try rw [hw0]
        try rw [hg]
        try rw [hg1]
        try rw [hg2]
        clear hw0 hg hg1 hg2
        clear d0 d1 d2 d3 d4
        clear q0 q1 q2 q3 q4
        refine HMY.out.mono ?_
        rintro e w1 ⟨rfl, b1⟩
        replace HX := Lib.hid (HX.out.below b1 HX.out.lt)
        replace HQ := Lib.hid (HQ.out.below b1 HQ.out.lt)
        replace HZO := Lib.hid (HZO.out.below b1 HZO.out.lt)
        replace HT := Lib.hid (HT.out.bel b1)
        replace HB := Lib.hid (HB.out.trans (b1.mono HB.out.size))
        replace HLW := Lib.hid (Nat.le_trans HLW.out b1.size)
        clear b1 HMY
        have d0 := bx0 HX.out
        have d1 := bx1 HX.out
        have d2 := bx2 HX.out
        have d3 := bx3 HX.out
        have d4 := bx4 HX.out
        have q0 := bx0 HQ.out
        have q1 := bx1 HQ.out
        have q2 := bx2 HQ.out
        have q3 := bx3 HQ.out
        have q4 := bx4 HQ.out
        go_wp2_with fail
        clear d0 d1 d2 d3 d4
        clear q0 q1 q2 q3 q4
        have HG1 := Lib.hid (show g2 < w1.heap.size from HZO.out.lt)
        have hrw := HRW.out w1 HT.out HLW.out
        rw [her] at hrw
        refine hrw.mono ?_
        rintro ev w2 ⟨a2, c2, rfl, ht2, hh2, b2⟩
        replace HX := Lib.hid (HX.out.below b2 HX.out.lt)
        replace HQ := Lib.hid (HQ.out.below b2 HQ.out.lt)
        replace HZO := Lib.hid (HZO.out.below b2 HZO.out.lt)
        replace HT := Lib.hid (HT.out.bel b2)
        replace HB := Lib.hid (HB.out.trans (b2.mono HB.out.size))
        replace HLW := Lib.hid (Nat.le_trans HLW.out b2.size)
        clear b2 HRW hrw her
        have m0 := ox0 HZO.out
        have m1 := ox1 HZO.out
        have m2 := ox2 HZO.out
        have m3 := ox3 HZO.out
        have hfz := fun i => HZO.out.frozen i
        have xz := HZO.out.set4 (.int .u8 0) (.int .i64 0) (.int .i64 0) (.slice none 0 0)
        have bz := below_set4 HB.out HGE.out (.int .u8 0) (.int .i64 0) (.int .i64 0) (.slice none 0 0)
        obtain ⟨wz, hwz⟩ : ∃ X, (((w2.setCell ⟨g2, 0, none⟩ (.int .u8 0)).setCell ⟨g2, 1, none⟩ (.int .i64 0)).setCell ⟨g2, 2, none⟩ (.int .i64 0)).setCell ⟨g2, 3, none⟩ (.slice none 0 0) = X := ⟨_, rfl⟩
        rw [hwz] at xz bz
        have HXZ := Lib.hid xz
        have HBZ := Lib.hid bz
        clear xz bz
        go_wp2_with fail
        clear m0 m1 m2 m3 hfz hwz
        have e0 := ox0 HXZ.out
        have e1 := ox1 HXZ.out
        have e2 := ox2 HXZ.out
        have e3 := ox3 HXZ.out
        refine bodyPost_ret (v := .tuple #[.agg #[.int .u8 0, .int .i64 0, .int .i64 0, .slice none 0 0], .int .i64 e]) (by simp [results, Tryz.f17, go_sem, e0, e1, e2, e3]) rfl ?_
        rw [HO.out]
        exact outOs_no e HBZ.out
      · have HMY := Lib.hid (rsMay_any L x S (pa, pb, pi, pt, ps) w0 HT.out HLW.out true ⟨fun _ => hm, fun _ => rfl⟩)
        have hob := objSO_at hm.1 hm.2 hk16 her
        have HO := Lib.hid hob
        have e1 : (((0 : Nat) : Int) != 0) = false := rfl
        have hkm : LL.getD k p0 ∈ LL := by
          rw [List.getD_eq_getElem?_getD, List.getElem?_eq_getElem (by omega)]
          exact List.getElem_mem _
        have HON := Lib.hid (fun W hW hLW => rsOne_any L x S (LL.getD k p0) W hW hm.1 (hml _ hkm) hLW)
        clear hm hn hr hob hwf hml hkm
        have d0 := bx0 HX.out
        have d1 := bx1 HX.out
        have d2 := bx2 HX.out
        have d3 := bx3 HX.out
        have d4 := bx4 HX.out
        have q0 := bx0 HQ.out
        have q1 := bx1 HQ.out
        have q2 := bx2 HQ.out
        have q3 := bx3 HQ.out
        have q4 := bx4 HQ.out
        go_enter Tryz.func17, Tryz.ntmps17
        go_wp2_with fail
        try rw [hw0]
        try rw [hg]
        try rw [hg1]
        try rw [hg2]
        clear hw0 hg hg1 hg2
        clear d0 d1 d2 d3 d4
        clear q0 q1 q2 q3 q4
        refine HMY.out.mono ?_
        rintro e w1 ⟨rfl, b1⟩
        replace HX := Lib.hid (HX.out.below b1 HX.out.lt)
        replace HQ := Lib.hid (HQ.out.below b1 HQ.out.lt)
        replace HZO := Lib.hid (HZO.out.below b1 HZO.out.lt)
        replace HT := Lib.hid (HT.out.bel b1)
        replace HB := Lib.hid (HB.out.trans (b1.mono HB.out.size))
        replace HLW := Lib.hid (Nat.le_trans HLW.out b1.size)
        clear b1 HMY
        have d0 := bx0 HX.out
        have d1 := bx1 HX.out
        have d2 := bx2 HX.out
        have d3 := bx3 HX.out
        have d4 := bx4 HX.out
        have q0 := bx0 HQ.out
        have q1 := bx1 HQ.out
        have q2 := bx2 HQ.out
        have q3 := bx3 HQ.out
        have q4 := bx4 HQ.out
        go_wp2_with fail
        clear d0 d1 d2 d3 d4
        clear q0 q1 q2 q3 q4
        have HG1 := Lib.hid (show g2 < w1.heap.size from HZO.out.lt)
        have hrw := HRW.out w1 HT.out HLW.out
        rw [her] at hrw
        refine hrw.mono ?_
        rintro e w2 ⟨a2, c2, rfl, ht2, hh2, b2⟩
        replace HX := Lib.hid (HX.out.below b2 HX.out.lt)
        replace HQ := Lib.hid (HQ.out.below b2 HQ.out.lt)
        replace HZO := Lib.hid (HZO.out.below b2 HZO.out.lt)
        replace HT := Lib.hid (HT.out.bel b2)
        replace HB := Lib.hid (HB.out.trans (b2.mono HB.out.size))
        replace HLW := Lib.hid (Nat.le_trans HLW.out b2.size)
        clear b2 HRW hrw her
        simp only [hl16] at ht2 ⊢
        have HP := Lib.hid ht2
        obtain ⟨ba, oa, rfl, _, _⟩ := ht2.2.2.2.2 (by omega)
        have HBA := Lib.hid (show w1.heap.size ≤ ba from hh2 _ rfl)
        clear ht2 hh2
        go_wp2_with fail
        obtain ⟨wd, hwd⟩ : ∃ wd, w2.drew = wd := ⟨_, rfl⟩
        have bq : Below w2.heap.size w2 wd := by rw [← hwd]; exact (Below.refl _ w2).drew
        replace HX := Lib.hid (HX.out.below bq HX.out.lt)
        replace HQ := Lib.hid (HQ.out.below bq HQ.out.lt)
        replace HT := Lib.hid (HT.out.bel bq)
        replace HB := Lib.hid (HB.out.trans (bq.mono HB.out.size))
        replace HZO := Lib.hid (HZO.out.below bq HZO.out.lt)
        replace HP := Lib.hid (HP.out.step bq)
        replace HLW := Lib.hid (Nat.le_trans HLW.out bq.size)
        obtain ⟨P, hP⟩ : ∃ X, LL.getD k p0 = X := ⟨_, rfl⟩
        rw [hP] at HON HO
        have HPE := Lib.hid hP
        have HX9 := Lib.hid HX.out
        have HG9 := Lib.hid (show g2 < wd.heap.size from HZO.out.lt)
        have HB9 := Lib.hid (show w.heap.size ≤ wd.heap.size from HB.out.size)
        have hwd0 := And.intro HX.out HP.out
        refine wpI_start (fun X => Blk X g 30 (stC x S) ∧ Pts X X.heap.size (some ⟨ba, oa, none⟩) 16 c2 LL) [0, 1, 2, 3, 4, 5, 6, 7, 8, 9] hmx rfl hwd ?_
        clear hwd bq hP
        obtain ⟨ya, yb, yi, yt, ys⟩ := P
        iterate 5 (
          refine wpI_read (v := ?_) hwd0 rfl (by kernel_rfl) (by kernel_rfl) (by kernel_rfl) (fun _ _ _ h => h) (.inl ⟨by rfl, ?_⟩) ?_
          rotate_left
          · intro X hX
            have d0 := bx0 hX.1
            have d1 := bx1 hX.1
            have d2 := bx2 hX.1
            have d3 := bx3 hX.1
            have d4 := bx4 hX.1
            obtain ⟨_, _, ea, _, _, p0_, p1_, p2_, p3_, p4_⟩ := hX.2.cells k hk16
            cases ea
            rw [HPE.out] at p0_ p1_ p2_ p3_ p4_
            simp only at p0_ p1_ p2_ p3_ p4_
            clear hX
            go_simp
            with_reducible rfl
          try simp only [Act.put, List.setIfInBounds_toArray, List.set_cons_zero, List.set_cons_succ])
        refine wpI_lone rfl (by kernel_rfl) (fun K hK => ?_)
        go_simp
        refine (HON.out wd HT.out HLW.out).mono ?_
        obtain ⟨⟨⟨k5, l5, r5, L5⟩, z5⟩, hoe⟩ : ∃ o, oneSO S (ya, yb, yi, yt, ys) = o := ⟨_, rfl⟩
        rw [hoe] at HO ⊢
        obtain ⟨n5, hn5⟩ : ∃ n, L5.length = n := ⟨_, rfl⟩
        rintro ev w4 ⟨a5, c5, rfl, ht5, hi5, bq⟩
        simp only [hn5] at ht5 hi5 ⊢
        replace HX := Lib.hid (HX.out.below bq HX.out.lt)
        replace HQ := Lib.hid (HQ.out.below bq HQ.out.lt)
        replace HT := Lib.hid (HT.out.bel bq)
        replace HB := Lib.hid (HB.out.trans (bq.mono HB.out.size))
        replace HZO := Lib.hid (HZO.out.below bq HZO.out.lt)
        replace HP := Lib.hid (HP.out.step bq)
        replace HLW := Lib.hid (Nat.le_trans HLW.out bq.size)
        have hs4 := And.intro HX.out HP.out
        refine hK _ _ hs4 ?_
        have HP5 := Lib.hid ht5
        have HI5 := Lib.hid hi5
        have HN5 := Lib.hid hn5
        clear hK K bq hoe ht5 hi5 hn5 HON
        try simp only [Act.put, List.setIfInBounds_toArray, List.set_cons_zero, List.set_cons_succ]
        iterate 2 (
          refine wpI_read (v := ?_) hs4 rfl (by kernel_rfl) (by kernel_rfl) (by kernel_rfl) (fun _ _ _ h => h) (.inl ⟨by rfl, ?_⟩) ?_
          rotate_left
          · intro X hX
            clear hX
            go_simp
            with_reducible rfl
          try simp only [Act.put, List.setIfInBounds_toArray, List.set_cons_zero, List.set_cons_succ])
        refine wpI_lone rfl (by kernel_rfl) (fun K hK => ?_)
        have m0 := ox0 HZO.out
        have m1 := ox1 HZO.out
        have m2 := ox2 HZO.out
        have m3 := ox3 HZO.out
        have hfz := fun i => HZO.out.frozen i
        have xz := HZO.out.set4 (.int .u8 (k5 : Int)) (.int .i64 l5) (.int .i64 r5) (.slice a5 n5 c5)
        have bz := below_set4 HB.out HGE.out (.int .u8 (k5 : Int)) (.int .i64 l5) (.int .i64 r5) (.slice a5 n5 c5)
        have hpz := HP5.out.box4 (fun p e => Nat.lt_of_lt_of_le HG9.out (HI5.out p e)) (.int .u8 (k5 : Int)) (.int .i64 l5) (.int .i64 r5) (.slice a5 n5 c5)
        obtain ⟨wz, hwz⟩ : ∃ X, (((w4.setCell ⟨g2, 0, none⟩ (.int .u8 (k5 : Int))).setCell ⟨g2, 1, none⟩ (.int .i64 l5)).setCell ⟨g2, 2, none⟩ (.int .i64 r5)).setCell ⟨g2, 3, none⟩ (.slice a5 n5 c5) = X := ⟨_, rfl⟩
        rw [hwz] at xz bz hpz
        have HXZ := Lib.hid xz
        have HBZ := Lib.hid bz
        clear xz bz
        have HPZ := Lib.hid (hpz.more (show w4.heap.size ≤ wz.heap.size by rw [← hwz]; simp [World.setCell]))
        clear hpz
        have hxz : Blk wz g 30 (stC x S) := by
          rw [← hwz]
          exact (((HX.out.far (p := ⟨g2, 0, none⟩) HGN.out _).far (p := ⟨g2, 1, none⟩) HGN.out _).far (p := ⟨g2, 2, none⟩) HGN.out _).far (p := ⟨g2, 3, none⟩) HGN.out _
        have hpz2 : Pts wz wz.heap.size (some ⟨ba, oa, none⟩) 16 c2 LL := by
          have h1 := HP.out.box4 (fun p e => by cases e; exact Nat.lt_of_lt_of_le HG1.out HBA.out) (.int .u8 (k5 : Int)) (.int .i64 l5) (.int .i64 r5) (.slice a5 n5 c5)
          rw [hwz] at h1
          exact h1.more (by rw [← hwz]; simp [World.setCell])
        have hsz := And.intro hxz hpz2
        go_simp
        try rw [hwz]
        refine hK _ _ hsz ?_
        clear hK K
        try simp only [Act.put, List.setIfInBounds_toArray, List.set_cons_zero, List.set_cons_succ]
        iterate 1 (
          refine wpI_read (v := ?_) hsz rfl (by kernel_rfl) (by kernel_rfl) (by kernel_rfl) (fun _ _ _ h => h) (.inl ⟨by rfl, ?_⟩) ?_
          rotate_left
          · intro X hX
            clear hX
            go_simp
            with_reducible rfl
          try simp only [Act.put, List.setIfInBounds_toArray, List.set_cons_zero, List.set_cons_succ])
        refine wpI_done (by kernel_rfl) ?_
        go_wp2_with fail
        clear m0 m1 m2 m3 hfz hwz
        have e0 := ox0 HXZ.out
        have e1 := ox1 HXZ.out
        have e2 := ox2 HXZ.out
        have e3 := ox3 HXZ.out
        refine bodyPost_ret (v := .tuple #[.agg #[.int .u8 (k5 : Int), .int .i64 l5, .int .i64 r5, .slice a5 n5 c5], .int .i64 z5]) (by simp [results, Tryz.f17, go_sem, e0, e1, e2, e3]) rfl ?_
        rw [HO.out]
        refine ⟨a5, c5, ?_, ?_, HI5.out.less HB9.out, HBZ.out⟩
        · simp only [HN5.out]
        · simp only [HN5.out]
          exact HPZ.out
    · by_cases h0 : n < 0
      · have HMY := Lib.hid (rsMay_any L x S (pa, pb, pi, pt, ps) w0 HT.out HLW.out true ⟨fun _ => hm, fun _ => rfl⟩)
        have HO := Lib.hid (objSO_arg hm.1 hm.2 hr)
        clear hm
        have d1 : decide (n < 0) = true := decide_eq_true h0
        clear hr h0 hn
        have d0 := bx0 HX.out
        have d1 := bx1 HX.out
        have d2 := bx2 HX.out
        have d3 := bx3 HX.out
        have d4 := bx4 HX.out
        have q0 := bx0 HQ.out
        have q1 := bx1 HQ.out
        have q2 := bx2 HQ.out
        have q3 := bx3 HQ.out
        have q4 := bx4 HQ.out
        go_enter Tryz.func17, Tryz.ntmps17
        go_wp2_with fail
        try rw [hw0]
        try rw [hg]
        try rw [hg1]
        try rw [hg2]
        clear hw0 hg hg1 hg2
        clear d0 d1 d2 d3 d4
        clear q0 q1 q2 q3 q4
        refine HMY.out.mono ?_
        rintro e w1 ⟨rfl, b1⟩
        replace HX := Lib.hid (HX.out.below b1 HX.out.lt)
        replace HQ := Lib.hid (HQ.out.below b1 HQ.out.lt)
        replace HZO := Lib.hid (HZO.out.below b1 HZO.out.lt)
        replace HT := Lib.hid (HT.out.bel b1)
        replace HB := Lib.hid (HB.out.trans (b1.mono HB.out.size))
        replace HLW := Lib.hid (Nat.le_trans HLW.out b1.size)
        clear b1 HMY
        have m0 := ox0 HZO.out
        have m1 := ox1 HZO.out
        have m2 := ox2 HZO.out
        have m3 := ox3 HZO.out
        have hfz := fun i => HZO.out.frozen i
        have xz := HZO.out.set4 (.int .u8 0) (.int .i64 0) (.int .i64 0) (.slice none 0 0)
        have bz := below_set4 HB.out HGE.out (.int .u8 0) (.int .i64 0) (.int .i64 0) (.slice none 0 0)
        obtain ⟨wz, hwz⟩ : ∃ X, (((w1.setCell ⟨g2, 0, none⟩ (.int .u8 0)).setCell ⟨g2, 1, none⟩ (.int .i64 0)).setCell ⟨g2, 2, none⟩ (.int .i64 0)).setCell ⟨g2, 3, none⟩ (.slice none 0 0) = X := ⟨_, rfl⟩
        rw [hwz] at xz bz
        have HXZ := Lib.hid xz
        have HBZ := Lib.hid bz
        clear xz bz
        go_wp2_with fail
        clear m0 m1 m2 m3 hfz hwz
        have e0 := ox0 HXZ.out
        have e1 := ox1 HXZ.out
        have e2 := ox2 HXZ.out
        have e3 := ox3 HXZ.out
        refine bodyPost_ret (v := .tuple #[.agg #[.int .u8 0, .int .i64 0, .int .i64 0, .slice none 0 0], .int .i64 2]) (by simp [results, Tryz.f17, go_sem, e0, e1, e2, e3]) rfl ?_
        rw [HO.out]
        exact outOs_no 2 HBZ.out
      · have h1 : 16 ≤ n := by omega
        have HMY := Lib.hid (rsMay_any L x S (pa, pb, pi, pt, ps) w0 HT.out HLW.out true ⟨fun _ => hm, fun _ => rfl⟩)
        have HO := Lib.hid (objSO_arg hm.1 hm.2 hr)
        clear hm
        have d1 : decide (n < 0) = false := decide_eq_false h0
        have d2 : decide (16 ≤ n) = true := decide_eq_true h1
        clear hr h0 h1 hn
        have d0 := bx0 HX.out
        have d1 := bx1 HX.out
        have d2 := bx2 HX.out
        have d3 := bx3 HX.out
        have d4 := bx4 HX.out
        have q0 := bx0 HQ.out
        have q1 := bx1 HQ.out
        have q2 := bx2 HQ.out
        have q3 := bx3 HQ.out
        have q4 := bx4 HQ.out
        go_enter Tryz.func17, Tryz.ntmps17
        go_wp2_with fail
        try rw [hw0]
        try rw [hg]
        try rw [hg1]
        try rw [hg2]
        clear hw0 hg hg1 hg2
        clear d0 d1 d2 d3 d4
        clear q0 q1 q2 q3 q4
        refine HMY.out.mono ?_
        rintro e w1 ⟨rfl, b1⟩
        replace HX := Lib.hid (HX.out.below b1 HX.out.lt)
        replace HQ := Lib.hid (HQ.out.below b1 HQ.out.lt)
        replace HZO := Lib.hid (HZO.out.below b1 HZO.out.lt)
        replace HT := Lib.hid (HT.out.bel b1)
        replace HB := Lib.hid (HB.out.trans (b1.mono HB.out.size))
        replace HLW := Lib.hid (Nat.le_trans HLW.out b1.size)
        clear b1 HMY
        have m0 := ox0 HZO.out
        have m1 := ox1 HZO.out
        have m2 := ox2 HZO.out
        have m3 := ox3 HZO.out
        have hfz := fun i => HZO.out.frozen i
        have xz := HZO.out.set4 (.int .u8 0) (.int .i64 0) (.int .i64 0) (.slice none 0 0)
        have bz := below_set4 HB.out HGE.out (.int .u8 0) (.int .i64 0) (.int .i64 0) (.slice none 0 0)
        obtain ⟨wz, hwz⟩ : ∃ X, (((w1.setCell ⟨g2, 0, none⟩ (.int .u8 0)).setCell ⟨g2, 1, none⟩ (.int .i64 0)).setCell ⟨g2, 2, none⟩ (.int .i64 0)).setCell ⟨g2, 3, none⟩ (.slice none 0 0) = X := ⟨_, rfl⟩
        rw [hwz] at xz bz
        have HXZ := Lib.hid xz
        have HBZ := Lib.hid bz
        clear xz bz
        go_wp2_with fail
        clear m0 m1 m2 m3 hfz hwz
        have e0 := ox0 HXZ.out
        have e1 := ox1 HXZ.out
        have e2 := ox2 HXZ.out
        have e3 := ox3 HXZ.out
        refine bodyPost_ret (v := .tuple #[.agg #[.int .u8 0, .int .i64 0, .int .i64 0, .slice none 0 0], .int .i64 2]) (by simp [results, Tryz.f17, go_sem, e0, e1, e2, e3]) rfl ?_
        rw [HO.out]
        exact outOs_no 2 HBZ.out
  · have HMY := Lib.hid (rsMay_any L x S (pa, pb, pi, pt, ps) w0 HT.out HLW.out false ⟨fun h => (by cases h), fun h => absurd h hm⟩)
    have HO := Lib.hid (objSO_no (n := n) hm)
    clear hm hn
    have d0 := bx0 HX.out
    have d1 := bx1 HX.out
    have d2 := bx2 HX.out
    have d3 := bx3 HX.out
    have d4 := bx4 HX.out
    have q0 := bx0 HQ.out
    have q1 := bx1 HQ.out
    have q2 := bx2 HQ.out
    have q3 := bx3 HQ.out
    have q4 := bx4 HQ.out
    go_enter Tryz.func17, Tryz.ntmps17
    go_wp2_with fail
    try rw [hw0]
    try rw [hg]
    try rw [hg1]
    try rw [hg2]
    clear hw0 hg hg1 hg2
    clear d0 d1 d2 d3 d4
    clear q0 q1 q2 q3 q4
    refine HMY.out.mono ?_
    rintro e w1 ⟨rfl, b1⟩
    replace HX := Lib.hid (HX.out.below b1 HX.out.lt)
    replace HQ := Lib.hid (HQ.out.below b1 HQ.out.lt)
    replace HZO := Lib.hid (HZO.out.below b1 HZO.out.lt)
    replace HT := Lib.hid (HT.out.bel b1)
    replace HB := Lib.hid (HB.out.trans (b1.mono HB.out.size))
    replace HLW := Lib.hid (Nat.le_trans HLW.out b1.size)
    clear b1 HMY
    have m0 := ox0 HZO.out
    have m1 := ox1 HZO.out
    have m2 := ox2 HZO.out
    have m3 := ox3 HZO.out
    have hfz := fun i => HZO.out.frozen i
    have xz := HZO.out.set4 (.int .u8 0) (.int .i64 0) (.int .i64 0) (.slice none 0 0)
    have bz := below_set4 HB.out HGE.out (.int .u8 0) (.int .i64 0) (.int .i64 0) (.slice none 0 0)
    obtain ⟨wz, hwz⟩ : ∃ X, (((w1.setCell ⟨g2, 0, none⟩ (.int .u8 0)).setCell ⟨g2, 1, none⟩ (.int .i64 0)).setCell ⟨g2, 2, none⟩ (.int .i64 0)).setCell ⟨g2, 3, none⟩ (.slice none 0 0) = X := ⟨_, rfl⟩
    rw [hwz] at xz bz
    have HXZ := Lib.hid xz
    have HBZ := Lib.hid bz
    clear xz bz
    go_wp2_with fail
    clear m0 m1 m2 m3 hfz hwz
    have e0 := ox0 HXZ.out
    have e1 := ox1 HXZ.out
    have e2 := ox2 HXZ.out
    have e3 := ox3 HXZ.out
    refine bodyPost_ret (v := .tuple #[.agg #[.int .u8 0, .int .i64 0, .int .i64 0, .slice none 0 0], .int .i64 8]) (by simp [results, Tryz.f17, go_sem, e0, e1, e2, e3]) rfl ?_
    rw [HO.out]
    exact outOs_no 8 HBZ.out
end Go.Proofs.YtbggkfomfeeikaaGreatDoor
