/-
  obj.Read, whatever bytes it is handed; nothing that was there is written.
-/
import Derived.Test.YtennhempdnpobaaDoorObWrite
import Derived.Test.YtennhempdnpobaaDoorPtRows
import Derived.Test.YtennhempdnpobaaDoorConcat
import Derived.Test.YtennhempdnpobaaDoorRoC
namespace Go.Proofs.YtennhempdnpobaaDoor
open Go.RowKit Go.Shelf
set_option maxRecDepth 100000

/-- Where a slice of pointers lies that the call made: in a block of its own. -/
def HiP (w : World) (base : Nat) (a : Option Addr) : Prop := ∀ p, a = some p → base ≤ p.block ∧ ∃ cs, Blk w p.block 42 cs
theorem HiP.none (w : World) (base : Nat) : HiP w base none := fun _ h => (by cases h)
theorem HiP.below {w w' : World} {base : Nat} {a : Option Addr} (h : HiP w base a) (hb : Below w.heap.size w w') : HiP w' base a := fun p e => by
  obtain ⟨h1, cs, h3⟩ := h p e
  exact ⟨h1, cs, h3.below hb h3.lt⟩
theorem HiP.less {w : World} {B B' : Nat} {a : Option Addr} (h : HiP w B a) (hB : B' ≤ B) : HiP w B' a := fun p e => by
  obtain ⟨h1, h2⟩ := h p e
  exact ⟨Nat.le_trans hB h1, h2⟩
/-- An object and an error's number; its pointers are new memory. -/
def OutOp (o : ObL × Nat) (w : World) (e : Ending) (w' : World) : Prop := ∃ a c, e = .returned (.tuple #[.agg #[.int .u8 (o.1.1 : Int), .int .i64 o.1.2.1, .int .i64 o.1.2.2.1, .slice a o.1.2.2.2.length c], .int .i64 o.2]) ∧ Pts w' w'.heap.size a o.1.2.2.2.length c o.1.2.2.2 ∧ HiP w' w.heap.size a ∧ Below w.heap.size w w'
theorem outOp_no (c : Nat) {w w' : World} (hb : Below w.heap.size w w') : OutOp (ob0, c) w (.returned (.tuple #[.agg #[.int .u8 0, .int .i64 0, .int .i64 0, .slice none 0 0], .int .i64 c])) w' := ⟨none, 0, rfl, pts_nil _ _, HiP.none _ _, hb⟩
/-- Two lists of bytes in a row that has just been made. -/
theorem concatB2 (w : World) (a : Option Addr) (la ca : Nat) (s : List UInt8) (b : Option Addr) (lb cb : Nat) (t : List UInt8) (hA : Bsl w w.heap.size a la ca s) (hB : Bsl w w.heap.size b lb cb t) (h0 : 0 < la + lb) (hm : la + lb ≤ 100000) :
    Calls Tryd.prog 22 #[.slice (some ⟨w.heap.size, 0, none⟩) 2 2] (w.alloc (.cells #[.slice a la ca, .slice b lb cb] 28)) (OwnPost (s ++ t) (w.alloc (.cells #[.slice a la ca, .slice b lb cb] 28))) := by
  have hb : Below w.heap.size w (w.alloc (.cells #[.slice a la ca, .slice b lb cb] 28)) := (Below.refl _ w).alloc (Nat.le_refl _) _
  have hk := Blk.new w 28 #[.slice a la ca, .slice b lb cb]
  have e : flat [⟨a, la, ca, s⟩, ⟨b, lb, cb, t⟩] = s ++ t := by simp [flat]
  have el : (flat [⟨a, la, ca, s⟩, ⟨b, lb, cb, t⟩]).length = la + lb := by rw [e, List.length_append, hA.1, hB.1]
  have := concat_own w.heap.size 2 [⟨a, la, ca, s⟩, ⟨b, lb, cb, t⟩] (w.alloc (.cells #[.slice a la ca, .slice b lb cb] 28)) hk.lt (by simp) (by simp)
    (fun i h => by
      rw [hk.cell i]
      match i, h with
      | 0, _ => rfl
      | 1, _ => rfl)
    (fun i h => by
      match i, h with
      | 0, _ => exact hA.step hb
      | 1, _ => exact hB.step hb)
    (by rw [el]; exact h0) (by rw [el]; exact hm)
  rw [e] at this
  exact this
theorem rows_of (b : List UInt8) : rowsL (zs16 ++ b.drop 16) = p0 :: ptsOb b 15 := by
  unfold rowsL ptsOb
  rw [List.range_succ_eq_map, List.map_cons, List.map_map]
  congr 1
  refine List.map_congr_left fun i _ => ?_
  show getP (winP _ (i + 1)) = _
  unfold winP winOb
  rw [List.drop_append, List.drop_of_length_le (by rw [zs16_length]; omega), List.nil_append, zs16_length, List.drop_drop]
  congr 3
theorem rowsO_of (b : List UInt8) (hb : b.length = 256) : rowsO (zs16 ++ b.drop 16) = if ∀ p ∈ ptsOb b 15, MayP p then (p0 :: ptsOb b 15, 0) else ([], 8) := by
  unfold rowsO
  rw [if_pos (by rw [List.length_append, zs16_length, List.length_drop, hb]), rows_of]
  by_cases h : ∀ p ∈ ptsOb b 15, MayP p
  · rw [if_pos h, if_pos]
    intro p hp
    rcases List.mem_cons.1 hp with rfl | hp
    · exact may_p0
    · exact h p hp
  · rw [if_neg h, if_neg]
    exact fun hh => h fun p hp => hh p (List.mem_cons_of_mem _ hp)
theorem prow_tail {w : World} {base : Nat} {v : Value} {p : Pt} {L : List Pt} (h : PRow w base v (p :: L)) : ∃ g c, v = .slice (some ⟨g, 0, none⟩) (L.length + 1) c ∧ base ≤ g ∧ L.length + 1 ≤ c ∧ (∃ cs, Blk w g 42 cs) ∧ Pts w w.heap.size (some ⟨g, 5, none⟩) L.length (c - 1) L := by
  obtain ⟨a, c, e, hp⟩ := h.pts
  obtain ⟨h1, h2, h3, h4, h5⟩ := hp
  obtain ⟨b, off, ea, hlt, hc⟩ := h5 (by simp)
  obtain ⟨⟨hl, ⟨rfl, h0⟩ | ⟨g, cap, cur, rfl, q1, q2, q3, q4, q5, q6⟩⟩, hw⟩ := h
  · simp at h0
  · cases e
    cases ea
    simp only [List.length_cons] at h2 h3
    refine ⟨_, _, rfl, q1, h2, ⟨_, q2⟩, rfl, by omega, by omega, fun e => (by cases e), fun _ => ⟨_, 5, rfl, hlt, fun i hi => ?_⟩⟩
    have := hc (i + 1) (by simpa using hi)
    refine ⟨this.1, fun j u hu => ?_⟩
    have := this.2 j u hu
    rwa [show 0 + (i + 1) * 5 + j = 5 + i * 5 + j by omega] at this
theorem slice_ptr1 (W : World) (g c : Nat) (hc : 16 ≤ c) : (Instr.slice 22 (.slice (some ⟨g, 0, none⟩) 16 c) (some (.int .i64 1)) none none).run Tryd.prog W = .ok (.slice (some ⟨g, 5, none⟩) 15 (c - 1)) W := by
  rw [run_slice_l W 22 _ _ _ (by kernel_rfl) .i64 _ (by omega) (by omega)]
  have hz : (Go.sizeOf (Tryd.prog.elem 22)).run Tryd.prog W = .ok 5 W := by kernel_rfl
  rw [hz]
  simp [Result.andThen, sliced, Addr.add]
  omega
theorem load16_run (W : World) (g : Nat) (s : List UInt8) (hb : Blk W g 53 (ar s)) (hs : s.length = 16) : (loadVar 53 ⟨g, 0, none⟩).run Tryd.prog W = .ok (.agg (ar s)) W :=
  run_loadVar_row W g 53 53 (ar s) (0, 0) _ hb Tryd.underlying53 rfl (by rw [infoA16, ar_size, hs])
theorem exec_load16 {ev : Operand → Value} {o : Oper} {x : Operand} {X : World} {g : Nat} {s : List UInt8} (ho : o.op = .load 53 x) (hx : ev x = .pointer (some ⟨g, 0, none⟩)) (hb : Blk X g 53 (ar s)) (hs : s.length = 16) : (execOp ev o).run Tryd.prog X = .ok (.value (.agg (ar s))) X := by
  unfold execOp
  simp only [ho, hx, Instr.loadAt, Instr.sureAddr, Sem.run_bind, Sem.run_pure, Result.andThen_ok, load16_run X g s hb hs]
theorem hd_take (b : List UInt8) (h : b.length = 256) : hdO (b.take 16) = ((b.getD 0 0).toNat, (b.getD 1 0).toNat, (b.getD 2 0).toNat + 256 * (b.getD 3 0).toNat) := by
  match b, h with
  | x0 :: x1 :: x2 :: x3 :: r, _ =>
    show (x0.toNat, x1.toNat, leN [x2, x3]) = _
    simp [leN]
theorem bytes_win (b : List UInt8) (h : b.length = 256) : dataTo (ptsOb b 15) 15 = b.drop 16 := by
  have e : ∀ k, k ≤ 15 → (List.range k).flatMap (fun i => bytesP ((ptsOb b 15).getD i p0)) = (b.drop 16).take (16 * k) := by
    intro k
    induction k with
    | zero => intro _; simp
    | succ k ih =>
      intro hk
      rw [List.range_succ, List.flatMap_append, ih (by omega)]
      have hg : (ptsOb b 15).getD k p0 = getP (winOb b k) := by
        unfold ptsOb
        rw [List.getD_eq_getElem?_getD, List.getElem?_map, List.getElem?_range (by omega)]
        rfl
      simp only [List.flatMap_cons, List.flatMap_nil, List.append_nil, hg]
      rw [bytesP_getP (by unfold winOb; rw [List.length_take, List.length_drop]; omega)]
      unfold winOb
      rw [← List.drop_drop]
      rw [show 16 * (k + 1) = 16 * k + 16 by omega, List.take_add]
  have := e 15 (Nat.le_refl _)
  rw [List.take_of_length_le (by rw [List.length_drop]; omega)] at this
  exact this
theorem Pts.same {w w' : World} {g off len cap B B' : Nat} {L : List Pt} {t : TypeId} {cs : Array Value} (h : Pts w B (some ⟨g, off, none⟩) len cap L) (h1 : Blk w g t cs) (h2 : Blk w' g t cs) (hB : g < B') : Pts w' B' (some ⟨g, off, none⟩) len cap L := by
  obtain ⟨q1, q2, q3, q4, q5⟩ := h
  refine ⟨q1, q2, q3, q4, fun hl => ?_⟩
  obtain ⟨b, o, e, _, hc⟩ := q5 hl
  cases e
  exact ⟨_, _, rfl, hB, fun i hi => ⟨(hc i hi).1, fun j u hu => ((h2.cell _).trans (h1.cell _).symm).trans ((hc i hi).2 j u hu)⟩⟩
theorem Pts.at_blk {w : World} {g off len cap : Nat} {f : _} {L : List Pt} {B g7 : Nat} (h : Pts w B (some ⟨g, off, f⟩) len cap L) (hg : g < g7) : True ∧ ∀ {w' : World} {B' : Nat}, Below g7 w w' → g < B' → Pts w' B' (some ⟨g, off, f⟩) len cap L :=
  ⟨trivial, fun {w' B'} hb hB => by
    obtain ⟨h1, h2, h3, h4, h5⟩ := h
    refine ⟨h1, h2, h3, h4, fun hl => ?_⟩
    obtain ⟨b, o, e, _, hc⟩ := h5 hl
    cases e
    exact ⟨_, _, rfl, hB, fun i hi => ⟨(hc i hi).1, fun j u hu => (hb.cell (p := ⟨g, off + i * 5 + j, none⟩) hg).trans ((hc i hi).2 j u hu)⟩⟩⟩
set_option linter.unusedSimpArgs false in
set_option maxHeartbeats 8000000 in
theorem obRead_any (a : Option Addr) (c : Nat) (b : List UInt8) (w : World) (hA : Bsl w w.heap.size a b.length c b) (hz : Szs w) : Calls Tryd.prog 8 #[.slice a b.length c] w (OutOp (oreadO b) w) := by
  have hmx : Tryd.prog.follows Departure.mixedOrders = true := by kernel_rfl
  have hl9 := hA.len_le
  have l0 : (0 : Int) ≤ b.length := by omega
  have xb := Blk.new w 24 #[.int .u8 0, .int .i64 0, .int .i64 0, .slice none 0 0]
  have b0 := (Below.refl w.heap.size w).alloc (Nat.le_refl _) (.cells #[.int .u8 0, .int .i64 0, .int .i64 0, .slice none 0 0] 24)
  obtain ⟨w0, hw0⟩ : ∃ w0, w.alloc (.cells #[.int .u8 0, .int .i64 0, .int .i64 0, .slice none 0 0] 24) = w0 := ⟨_, rfl⟩
  have hz0 : w0.heap.size = w.heap.size + 1 := by rw [← hw0, World.size_alloc]
  rw [hw0] at xb b0
  obtain ⟨g, hg⟩ : ∃ g, w.heap.size = g := ⟨_, rfl⟩
  have HGE := Lib.hid (show w.heap.size ≤ g by omega)
  have HG0 := Lib.hid (show g < w0.heap.size by omega)
  rw [hg] at xb
  have HZ := Lib.hid xb
  have HB := Lib.hid b0
  have HA := Lib.hid (hA.step b0)
  have HS := Lib.hid (hz.step b0)
  clear xb b0 hA hz0 hz
  by_cases h : b.length = 256
  · have HL := Lib.hid h
    rw [h] at HA ⊢
    obtain ⟨bb, off, rfl, _, _⟩ := HA.out.2.2.2.2 (by omega)
    have hcap := HA.out.2.1
    have e1 : (((256 : Nat) : Int) != 256) = false := rfl
    clear h
    go_enter Tryd.func8, Tryd.ntmps8
    go_wp2_with fail
    try rw [hw0]
    try rw [hg]
    obtain ⟨wd, hwd⟩ : ∃ wd, w0.drew = wd := ⟨_, rfl⟩
    have bb0 : Below w0.heap.size w0 wd := by rw [← hwd]; exact (Below.refl _ w0).drew
    replace HZ := Lib.hid (HZ.out.below bb0 HZ.out.lt)
    replace HB := Lib.hid (HB.out.trans (bb0.mono HB.out.size))
    replace HA := Lib.hid (HA.out.step bb0)
    replace HS := Lib.hid (HS.out.step bb0)
    have hsl : ∀ W : World, (Instr.slice 28 (.slice (some ⟨bb, off, none⟩) 256 c) (some (.int .i64 16)) none none).run Tryd.prog W = .ok (.slice (some ⟨bb, off + 16, none⟩) 240 (c - 16)) W := fun W => slice_from_l W bb off 256 c 16 (by omega) hcap
    have hmk : ∀ W : World, (Instr.makeSlice 28 (.int .i64 16) (.int .i64 16)).run Tryd.prog W = .ok (.slice (some ⟨W.heap.size, 0, none⟩) 16 16) (W.alloc (.cells (ar zs16) 5)) := fun W => mkBytes 16 (by omega) W
    have hwd0 := Below.refl wd.heap.size wd
    refine wpI_start (Below wd.heap.size wd) [1, 2, 0, 3, 4, 5, 6, 7, 8, 9, 10] hmx rfl hwd ?_
    clear hwd bb0 hw0 hg e1
    iterate 2 (
      refine wpI_read (v := ?_) hwd0 rfl (by kernel_rfl) (by kernel_rfl) (by kernel_rfl) (fun _ _ _ h => h) (.inl ⟨by rfl, ?_⟩) ?_
      rotate_left
      · intro X hX
        clear hX
        go_simp
        with_reducible rfl
      try simp only [Act.put, List.setIfInBounds_toArray, List.set_cons_zero, List.set_cons_succ])
    clear hsl
    refine wpI_lone rfl (by kernel_rfl) (fun K hK => ?_)
    go_simp
    have bq := (Below.refl wd.heap.size wd).alloc (Nat.le_refl _) (.cells (ar zs16) 5)
    have hx := (Blk.new wd 5 (ar zs16)).bsl zs16_length (by omega)
    obtain ⟨w1, hn⟩ : ∃ X, wd.alloc (.cells (ar zs16) 5) = X := ⟨_, rfl⟩
    obtain ⟨g1, hg1⟩ : ∃ X, wd.heap.size = X := ⟨_, rfl⟩
    rw [hn] at bq hx ⊢
    have hsb := bq
    rw [hg1] at hx ⊢
    have HX1 := Lib.hid hx
    replace HZ := Lib.hid (HZ.out.below bq HZ.out.lt)
    replace HB := Lib.hid (HB.out.trans (bq.mono HB.out.size))
    replace HA := Lib.hid (HA.out.step bq)
    replace HS := Lib.hid (HS.out.step bq)
    refine hK _ _ hsb ?_
    clear hK K hn hg1 bq hx hmk
    try simp only [Act.put, List.setIfInBounds_toArray, List.set_cons_zero, List.set_cons_succ]
    refine wpI_lone rfl (by kernel_rfl) (fun K hK => ?_)
    go_simp
    have bq := (Below.refl w1.heap.size w1).alloc (Nat.le_refl _) (.cells #[.slice (some ⟨g1, 0, none⟩) 16 16, .slice (some ⟨bb, off + 16, none⟩) 240 (c - 16)] 28)
    have hwin : Bsl w1 w1.heap.size (some ⟨bb, off + 16, none⟩) 240 (c - 16) (b.drop 16) := by
      have := HA.out.win 16 240 (by omega)
      rwa [List.take_of_length_le (by rw [List.length_drop, HL.out]; omega)] at this
    have hcc := concatB2 w1 (some ⟨g1, 0, none⟩) 16 16 zs16 (some ⟨bb, off + 16, none⟩) 240 (c - 16) (b.drop 16) HX1.out hwin (by omega) (by omega)
    obtain ⟨w2, hn⟩ : ∃ X, w1.alloc (.cells #[.slice (some ⟨g1, 0, none⟩) 16 16, .slice (some ⟨bb, off + 16, none⟩) 240 (c - 16)] 28) = X := ⟨_, rfl⟩
    obtain ⟨g2, hg2⟩ : ∃ X, w1.heap.size = X := ⟨_, rfl⟩
    rw [hn] at bq hcc ⊢
    rw [hg2] at hcc ⊢
    have hsb2 := hsb.trans (bq.mono hsb.size)
    have HCC := Lib.hid hcc
    replace HZ := Lib.hid (HZ.out.below bq HZ.out.lt)
    replace HB := Lib.hid (HB.out.trans (bq.mono HB.out.size))
    replace HA := Lib.hid (HA.out.step bq)
    replace HS := Lib.hid (HS.out.step bq)
    refine hK _ _ hsb2 ?_
    clear hK K hn hg2 bq hwin hcc HX1 hsb
    try simp only [Act.put, List.setIfInBounds_toArray, List.set_cons_zero, List.set_cons_succ]
    refine wpI_lone rfl (by kernel_rfl) (fun K hK => ?_)
    go_simp
    refine HCC.out.mono ?_
    rintro ev w3 ⟨v3, rfl, ho3, bq⟩
    have hlen : (zs16 ++ b.drop 16).length = 256 := by rw [List.length_append, zs16_length, List.length_drop, HL.out]
    rw [hlen] at ho3
    obtain ⟨A3, C3, rfl, hb3⟩ := own_to ho3
    have hsb3 := hsb2.trans (bq.mono hsb2.size)
    replace HZ := Lib.hid (HZ.out.below bq HZ.out.lt)
    replace HB := Lib.hid (HB.out.trans (bq.mono HB.out.size))
    replace HA := Lib.hid (HA.out.step bq)
    replace HS := Lib.hid (HS.out.step bq)
    have hrw := Rows_any A3 256 C3 _ w3 hb3 HS.out
    rw [rowsO_of b HL.out] at hrw
    refine hK _ _ hsb3 ?_
    clear hK K bq hlen ho3 hb3 hsb2 HCC
    try simp only [Act.put, List.setIfInBounds_toArray, List.set_cons_zero, List.set_cons_succ]
    by_cases hall : ∀ p ∈ ptsOb b 15, MayP p
    · rw [if_pos hall] at hrw
      have HRW := Lib.hid hrw
      have HAL := Lib.hid hall
      clear hrw hall
      refine wpI_lone rfl (by kernel_rfl) (fun K hK => ?_)
      go_simp
      refine HRW.out.mono ?_
      rintro ev w4 ⟨v4, rfl, hp4, bq⟩
      have HB3 := Lib.hid (show w.heap.size ≤ w3.heap.size from HB.out.size)
      have HZ0 := Lib.hid (show g < w3.heap.size from HZ.out.lt)
      have hsb4 := hsb3.trans (bq.mono hsb3.size)
      replace HZ := Lib.hid (HZ.out.below bq HZ.out.lt)
      replace HB := Lib.hid (HB.out.trans (bq.mono HB.out.size))
      replace HA := Lib.hid (HA.out.step bq)
      replace HS := Lib.hid (HS.out.step bq)
      obtain ⟨g4, c4, rfl, hg4, hc4, ⟨cs4, hk4⟩, ht4⟩ := prow_tail hp4
      have hl15 : (ptsOb b 15).length = 15 := ptsOb_length b 15
      rw [hl15] at ht4 hc4 ⊢
      have HP := Lib.hid ht4
      have HQ := Lib.hid hk4
      have HG4 := Lib.hid (show w.heap.size ≤ g4 from Nat.le_trans HB3.out hg4)
      have HZ3 := Lib.hid (show g < g4 from Nat.lt_of_lt_of_le HZ0.out hg4)
      refine hK _ _ hsb4 ?_
      clear hK K bq hsb3 HRW hp4 hg4 hk4 ht4 HB3
      try simp only [Act.put, List.setIfInBounds_toArray, List.set_cons_zero, List.set_cons_succ]
      iterate 5 (
        refine wpI_read (v := ?_) hsb4 rfl (by kernel_rfl) (by kernel_rfl) (by kernel_rfl) (fun _ _ _ h => h) (.inl ⟨by rfl, ?_⟩) ?_
        rotate_left
        · intro X hX
          clear hX
          go_simp
          with_reducible rfl
        try simp only [Act.put, List.setIfInBounds_toArray, List.set_cons_zero, List.set_cons_succ])
      refine wpI_done (by kernel_rfl) ?_
      clear hsb4 hwd0
      have hap : ∀ W : World, (Instr.arrayAt 53 (.slice (some ⟨bb, off, none⟩) 256 c)).run Tryd.prog W = .ok (.pointer (some ⟨bb, off, none⟩)) W := fun W => arrayAt16 _ 256 c (by omega) W
      have HH := Lib.hid (HA.out.pre 16 (by omega))
      have HHL := Lib.hid (show (b.take 16).length = 16 by rw [List.length_take, HL.out]; rfl)
      have HHD := Lib.hid (hd_take b HL.out)
      obtain ⟨hh, hhe⟩ : ∃ X, b.take 16 = X := ⟨_, rfl⟩
      rw [hhe] at HH HHL HHD
      have HHE := Lib.hid hhe
      clear hhe
      have bq := (Below.refl w4.heap.size w4).alloc (Nat.le_refl _) (.cells (ar zs16) 53)
      have HY4 := Lib.hid (Blk.new w4 53 (ar zs16))
      have HBA := Lib.hid bq
      clear bq
      go_wp2_with (first
        | (with_reducible refine at_load16 ?_
           refine wpList_load16_bsl rfl (.tmp 26) rfl bb off c _ hh rfl HH.out ?_)
        | (with_reducible refine at_store16 ?_
           refine wpList_store16 rfl (.tmp 6) (.tmp 27) rfl w4.heap.size hh zs16 rfl rfl HHL.out HY4.out zs16_length ?_
           intro w5 hx5 hg5
           have bq := HBA.out.grown hg5 HBA.out.size (fun k e => by injection e with e; omega)
           have HX := Lib.hid hx5
           replace HZ := Lib.hid (HZ.out.below bq HZ.out.lt)
           replace HB := Lib.hid (HB.out.trans (bq.mono HB.out.size))
           replace HA := Lib.hid (HA.out.step bq)
           replace HS := Lib.hid (HS.out.step bq)
           replace HP := Lib.hid (HP.out.step bq)
           replace HQ := Lib.hid (HQ.out.below bq HQ.out.lt)
           clear hx5 hg5 bq))
      simp only [Act.put]
      clear hap HY4 HBA HH
      obtain ⟨wd7, hwd⟩ : ∃ wd, w5.drew = wd := ⟨_, rfl⟩
      have bb0 : Below w5.heap.size w5 wd7 := by rw [← hwd]; exact (Below.refl _ w5).drew
      replace HZ := Lib.hid (HZ.out.below bb0 HZ.out.lt)
      replace HB := Lib.hid (HB.out.trans (bb0.mono HB.out.size))
      replace HA := Lib.hid (HA.out.step bb0)
      replace HS := Lib.hid (HS.out.step bb0)
      replace HP := Lib.hid (HP.out.step bb0)
      replace HQ := Lib.hid (HQ.out.below bb0 HQ.out.lt)
      replace HX := Lib.hid (HX.out.below bb0 HX.out.lt)
      have hsp : ∀ W : World, (Instr.slice 22 (.slice (some ⟨g4, 0, none⟩) 16 c4) (some (.int .i64 1)) none none).run Tryd.prog W = .ok (.slice (some ⟨g4, 5, none⟩) 15 (c4 - 1)) W := fun W => slice_ptr1 W g4 c4 (by omega)
      obtain ⟨g6, hg6⟩ : ∃ X, w4.heap.size = X := ⟨_, rfl⟩
      rw [hg6] at HX ⊢
      clear hg6
      have hob := obObject_any hh HHL.out (some ⟨g4, 5, none⟩) 15 (c4 - 1)
      obtain ⟨x0, hx0⟩ : ∃ n, (b.getD 0 0).toNat = n := ⟨_, rfl⟩
      obtain ⟨x1, hx1⟩ : ∃ n, (b.getD 1 0).toNat = n := ⟨_, rfl⟩
      obtain ⟨x2, hx2⟩ : ∃ n, (b.getD 2 0).toNat + 256 * (b.getD 3 0).toNat = n := ⟨_, rfl⟩
      have y0 := (b.getD 0 0).toNat_lt
      have y1 := (b.getD 1 0).toNat_lt
      have y2 := (b.getD 2 0).toNat_lt
      have y3 := (b.getD 3 0).toNat_lt
      rw [HHD.out, hx0, hx1, hx2] at hob
      have HOB := Lib.hid hob
      have HN := Lib.hid (And.intro hx0 (And.intro hx1 hx2))
      have HY0 := Lib.hid (show x0 < 256 ∧ x1 < 256 ∧ x2 < 65536 by omega)
      clear hob hx0 hx1 hx2 y0 y1 y2 y3 HHD
      have hwd7 := Below.refl wd7.heap.size wd7
      refine wpI_start (Below wd7.heap.size wd7) [0, 1, 2, 3, 4, 5] hmx rfl hwd ?_
      clear hwd bb0
      refine wpI_read (v := .agg (ar hh)) hwd7 rfl (by kernel_rfl) (by kernel_rfl) (by kernel_rfl) (fun _ _ _ h => h) (.inl ⟨by rfl, fun X hX => exec_load16 rfl rfl (HX.out.below hX (by have := HX.out.lt; omega)) HHL.out⟩) ?_
      try simp only [Act.put, List.setIfInBounds_toArray, List.set_cons_zero, List.set_cons_succ]
      iterate 2 (
        refine wpI_read (v := ?_) hwd7 rfl (by kernel_rfl) (by kernel_rfl) (by kernel_rfl) (fun _ _ _ h => h) (.inl ⟨by rfl, ?_⟩) ?_
        rotate_left
        · intro X hX
          clear hX
          go_simp
          with_reducible rfl
        try simp only [Act.put, List.setIfInBounds_toArray, List.set_cons_zero, List.set_cons_succ])
      clear hsp
      refine wpI_fork rfl rfl (by kernel_rfl) (fun K hK => ?_) (fun K hK => ?_)
      · go_simp
        refine (HOB.out wd7).mono ?_
        rintro ev w6 ⟨rfl, bq⟩
        have hsb6 := hwd7.trans (bq.mono hwd7.size)
        replace HZ := Lib.hid (HZ.out.below bq HZ.out.lt)
        replace HB := Lib.hid (HB.out.trans (bq.mono HB.out.size))
        replace HA := Lib.hid (HA.out.step bq)
        replace HS := Lib.hid (HS.out.step bq)
        replace HP := Lib.hid (HP.out.step bq)
        replace HQ := Lib.hid (HQ.out.below bq HQ.out.lt)
        replace HX := Lib.hid (HX.out.below bq HX.out.lt)
        refine hK _ _ hsb6 ?_
        clear hK K bq
        try simp only [Act.put, List.setIfInBounds_toArray, List.set_cons_zero, List.set_cons_succ]
        refine wpI_lone rfl (by kernel_rfl) (fun K hK => ?_)
        go_simp
        have bq := (Below.refl w6.heap.size w6).alloc (Nat.le_refl _) (.cells #[.int .u8 0, .int .i64 0, .int .i64 0, .slice none 0 0] 24)
        have hy := Blk.new w6 24 #[.int .u8 0, .int .i64 0, .int .i64 0, .slice none 0 0]
        obtain ⟨w7, hn⟩ : ∃ X, w6.alloc (.cells #[.int .u8 0, .int .i64 0, .int .i64 0, .slice none 0 0] 24) = X := ⟨_, rfl⟩
        obtain ⟨g7, hg7⟩ : ∃ X, w6.heap.size = X := ⟨_, rfl⟩
        have HG7 := Lib.hid (show wd7.heap.size ≤ g7 ∧ w.heap.size ≤ g7 ∧ g < g7 ∧ g4 < g7 ∧ g6 < g7 by have := hsb6.size; have := HB.out.size; have := HZ.out.lt; have := HQ.out.lt; have := HX.out.lt; omega)
        rw [hn] at bq hy ⊢
        rw [hg7] at hy ⊢
        have hsb7 := hsb6.trans (bq.mono hsb6.size)
        replace HZ := Lib.hid (HZ.out.below bq HZ.out.lt)
        replace HB := Lib.hid (HB.out.trans (bq.mono HB.out.size))
        replace HA := Lib.hid (HA.out.step bq)
        replace HS := Lib.hid (HS.out.step bq)
        replace HP := Lib.hid (HP.out.step bq)
        replace HQ := Lib.hid (HQ.out.below bq HQ.out.lt)
        replace HX := Lib.hid (HX.out.below bq HX.out.lt)
        have HY := Lib.hid hy
        refine hK _ _ hsb7 ?_
        clear hK K hn hg7 bq hy
        try simp only [Act.put, List.setIfInBounds_toArray, List.set_cons_zero, List.set_cons_succ]
        refine wpI_lone rfl (by kernel_rfl) (fun K hK => ?_)
        have m0 := ox0 HY.out
        have m1 := ox1 HY.out
        have m2 := ox2 HY.out
        have m3 := ox3 HY.out
        have hfz := fun i => HY.out.frozen i
        go_simp
        have xo := HY.out.set4 (.int .u8 (x0 : Int)) (.int .i64 (x1 : Int)) (.int .i64 (x2 : Int)) (.slice (some ⟨g4, 5, none⟩) 15 (c4 - 1))
        have bo := below_set4 hsb7 HG7.out.1 (.int .u8 (x0 : Int)) (.int .i64 (x1 : Int)) (.int .i64 (x2 : Int)) (.slice (some ⟨g4, 5, none⟩) 15 (c4 - 1))
        have bB := below_set4 HB.out HG7.out.2.1 (.int .u8 (x0 : Int)) (.int .i64 (x1 : Int)) (.int .i64 (x2 : Int)) (.slice (some ⟨g4, 5, none⟩) 15 (c4 - 1))
        have hfr := below_set4 (Below.refl g7 w7) (Nat.le_refl g7) (.int .u8 (x0 : Int)) (.int .i64 (x1 : Int)) (.int .i64 (x2 : Int)) (.slice (some ⟨g4, 5, none⟩) 15 (c4 - 1))
        obtain ⟨w8, hn⟩ : ∃ X, (((w7.setCell ⟨g7, 0, none⟩ (.int .u8 (x0 : Int))).setCell ⟨g7, 1, none⟩ (.int .i64 (x1 : Int))).setCell ⟨g7, 2, none⟩ (.int .i64 (x2 : Int))).setCell ⟨g7, 3, none⟩ (.slice (some ⟨g4, 5, none⟩) 15 (c4 - 1)) = X := ⟨_, rfl⟩
        rw [hn] at xo bo bB hfr ⊢
        refine hK _ _ bo ?_
        have hsz : w7.heap.size ≤ w8.heap.size := by rw [← hn]; simp [World.setCell]
        replace HY := Lib.hid xo
        replace HB := Lib.hid bB
        replace HZ := Lib.hid (HZ.out.below hfr HG7.out.2.2.1)
        replace HQ := Lib.hid (HQ.out.below hfr HG7.out.2.2.2.1)
        replace HX := Lib.hid (HX.out.below hfr HG7.out.2.2.2.2)
        replace HP := Lib.hid (show Pts w8 w8.heap.size (some ⟨g4, 5, none⟩) 15 (c4 - 1) (ptsOb b 15) from (HP.out.at_blk HG7.out.2.2.2.1).2 hfr HQ.out.lt)
        clear hK K hn m0 m1 m2 m3 hfz xo bo bB hfr hsz
        try simp only [Act.put, List.setIfInBounds_toArray, List.set_cons_zero, List.set_cons_succ]
        refine wpI_done (by kernel_rfl) ?_
        clear hsb7 hwd7 hsb6
        go_wp2_with fail
        obtain ⟨wd8, hwd⟩ : ∃ wd, w8.drew = wd := ⟨_, rfl⟩
        have bb0 : Below w8.heap.size w8 wd8 := by rw [← hwd]; exact (Below.refl _ w8).drew
        replace HZ := Lib.hid (HZ.out.below bb0 HZ.out.lt)
        replace HB := Lib.hid (HB.out.trans (bb0.mono HB.out.size))
        replace HP := Lib.hid (HP.out.step bb0)
        replace HQ := Lib.hid (HQ.out.below bb0 HQ.out.lt)
        replace HY := Lib.hid (HY.out.below bb0 HY.out.lt)
        replace HX := Lib.hid (HX.out.below bb0 HX.out.lt)
        have HY8 := Lib.hid HY.out
        have HX8 := Lib.hid HX.out
        have hde : decOb b = (x0, (x1 : Int), (x2 : Int), ptsOb b 15) := by
          unfold decOb headOb
          simp only [HN.out.1, HN.out.2.1, ← HN.out.2.2]
          congr 3
        have hl15 := ptsOb_length b 15
        have HDT := Lib.hid (bytes_win b HL.out)
        have HWF := Lib.hid (decOb_wf b)
        rw [hde] at HWF
        obtain ⟨LP, hLP⟩ : ∃ X, ptsOb b 15 = X := ⟨_, rfl⟩
        rw [hLP] at HP HAL hl15 hde HDT HWF
        have hmy := obMay_any (some ⟨g4, 5, none⟩) (c4 - 1) ((x0, (x1 : Int), (x2 : Int), LP) : ObL) wd8
        simp only [obV, hl15] at hmy
        have hmy2 := hmy HP.out HWF.out
        have HMY := Lib.hid hmy2
        have HL15 := Lib.hid hl15
        have HDE := Lib.hid hde
        clear hmy hmy2 hl15 hde hLP
        have hwd8 := Below.refl wd8.heap.size wd8
        refine wpI_start (Below wd8.heap.size wd8) [0, 1, 2, 3, 4, 5, 6, 7, 8] hmx rfl hwd ?_
        clear hwd bb0
        iterate 1 (
          refine wpI_read (v := ?_) hwd8 rfl (by kernel_rfl) (by kernel_rfl) (by kernel_rfl) (fun _ _ _ h => h) (.inl ⟨by rfl, ?_⟩) ?_
          rotate_left
          · intro X hX
            have j0 := ox0 (HY8.out.below hX HY8.out.lt)
            have j1 := ox1 (HY8.out.below hX HY8.out.lt)
            have j2 := ox2 (HY8.out.below hX HY8.out.lt)
            have j3 := ox3 (HY8.out.below hX HY8.out.lt)
            clear hX
            go_simp
            with_reducible rfl
          try simp only [Act.put, List.setIfInBounds_toArray, List.set_cons_zero, List.set_cons_succ])
        by_cases hm : MayOb (x0, (x1 : Int), (x2 : Int), LP)
        · have HCM := Lib.hid (HMY.out true ⟨fun _ => hm, fun _ => rfl⟩)
          have HM := Lib.hid hm
          clear hm
          refine wpI_lone rfl (by kernel_rfl) (fun K hK => ?_)
          go_simp
          refine HCM.out.mono ?_
          rintro ev w10 ⟨rfl, bq⟩
          have hsb10 := hwd8.trans (bq.mono hwd8.size)
          replace HZ := Lib.hid (HZ.out.below bq HZ.out.lt)
          replace HB := Lib.hid (HB.out.trans (bq.mono HB.out.size))
          replace HP := Lib.hid (HP.out.step bq)
          replace HQ := Lib.hid (HQ.out.below bq HQ.out.lt)
          replace HY := Lib.hid (HY.out.below bq HY.out.lt)
          refine hK _ _ hsb10 ?_
          clear hK K bq HCM HMY
          try simp only [Act.put, List.setIfInBounds_toArray, List.set_cons_zero, List.set_cons_succ]
          iterate 2 (
            refine wpI_read (v := ?_) hsb10 rfl (by kernel_rfl) (by kernel_rfl) (by kernel_rfl) (fun _ _ _ h => h) (.inl ⟨by rfl, ?_⟩) ?_
            rotate_left
            · intro X hX
              clear hX
              go_simp
              with_reducible rfl
            try simp only [Act.put, List.setIfInBounds_toArray, List.set_cons_zero, List.set_cons_succ])
          refine wpI_read (v := .agg (ar hh)) hsb10 rfl (by kernel_rfl) (by kernel_rfl) (by kernel_rfl) (fun _ _ _ h => h) (.inl ⟨by rfl, fun X hX => exec_load16 rfl rfl (HX8.out.below hX (by have := HX8.out.lt; omega)) HHL.out⟩) ?_
          try simp only [Act.put, List.setIfInBounds_toArray, List.set_cons_zero, List.set_cons_succ]
          iterate 1 (
            refine wpI_read (v := ?_) hsb10 rfl (by kernel_rfl) (by kernel_rfl) (by kernel_rfl) (fun _ _ _ h => h) (.inl ⟨by rfl, ?_⟩) ?_
            rotate_left
            · intro X hX
              have j0 := ox0 (HY8.out.below hX HY8.out.lt)
              have j1 := ox1 (HY8.out.below hX HY8.out.lt)
              have j2 := ox2 (HY8.out.below hX HY8.out.lt)
              have j3 := ox3 (HY8.out.below hX HY8.out.lt)
              clear hX
              go_simp
              with_reducible rfl
            try simp only [Act.put, List.setIfInBounds_toArray, List.set_cons_zero, List.set_cons_succ])
          refine wpI_lone rfl (by kernel_rfl) (fun K hK => ?_)
          go_simp
          refine (obHead_any (some ⟨g4, 5, none⟩) (c4 - 1) x0 x1 x2 15 w10 HY0.out.1 HY0.out.2.1 HY0.out.2.2).mono ?_
          rintro ev w11 ⟨rfl, bq⟩
          have hsb11 := hsb10.trans (bq.mono hsb10.size)
          replace HZ := Lib.hid (HZ.out.below bq HZ.out.lt)
          replace HB := Lib.hid (HB.out.trans (bq.mono HB.out.size))
          replace HP := Lib.hid (HP.out.step bq)
          replace HQ := Lib.hid (HQ.out.below bq HQ.out.lt)
          replace HY := Lib.hid (HY.out.below bq HY.out.lt)
          refine hK _ _ hsb11 ?_
          clear hK K bq
          try simp only [Act.put, List.setIfInBounds_toArray, List.set_cons_zero, List.set_cons_succ]
          have hq := eq16 hh (hd16 x0 x1 x2) HHL.out (hd16_length x0 x1 x2)
          have HHB := Lib.hid (head_bytes x0 x1 x2 LP HY0.out.2.2)
          have HBL := Lib.hid (show blockOb (x0, (x1 : Int), (x2 : Int), LP) = hd16 x0 x1 x2 ++ b.drop 16 by
            rw [HHB.out, ← HDT.out]
            rfl)
          obtain ⟨hd, hhd⟩ : ∃ X, hd16 x0 x1 x2 = X := ⟨_, rfl⟩
          rw [hhd] at hq HBL ⊢
          clear hhd
          have HBD := Lib.hid (show hh ++ b.drop 16 = b by rw [← HHE.out, List.take_append_drop])
          by_cases he : hh = hd
          · rw [decide_eq_true he] at hq
            have HO := Lib.hid (show oreadO b = ((x0, (x1 : Int), (x2 : Int), LP), 0) by
              have hb : blockOb (x0, (x1 : Int), (x2 : Int), LP) = b := by rw [HBL.out, ← he, HBD.out]
              unfold oreadO
              rw [if_pos HL.out, HDE.out, if_pos ⟨HM.out, hb⟩])
            clear he
            iterate 2 (
              refine wpI_read (v := ?_) hsb11 rfl (by kernel_rfl) (by kernel_rfl) (by kernel_rfl) (fun _ _ _ h => h) (.inl ⟨by rfl, ?_⟩) ?_
              rotate_left
              · intro X hX
                clear hX
                go_simp
                with_reducible rfl
              try simp only [Act.put, List.setIfInBounds_toArray, List.set_cons_zero, List.set_cons_succ])
            refine wpI_done (by kernel_rfl) ?_
            clear hq hsb11 hsb10 hwd8
            have n0 := ox0 HY.out
            have n1 := ox1 HY.out
            have n2 := ox2 HY.out
            have n3 := ox3 HY.out
            have m0 := ox0 HZ.out
            have m1 := ox1 HZ.out
            have m2 := ox2 HZ.out
            have m3 := ox3 HZ.out
            have hfz := fun i => HZ.out.frozen i
            have xz := HZ.out.set4 (.int .u8 (x0 : Int)) (.int .i64 (x1 : Int)) (.int .i64 (x2 : Int)) (.slice (some ⟨g4, 5, none⟩) 15 (c4 - 1))
            have bz := below_set4 HB.out HGE.out (.int .u8 (x0 : Int)) (.int .i64 (x1 : Int)) (.int .i64 (x2 : Int)) (.slice (some ⟨g4, 5, none⟩) 15 (c4 - 1))
            obtain ⟨wz, hwz⟩ : ∃ X, (((w11.setCell ⟨g, 0, none⟩ (.int .u8 (x0 : Int))).setCell ⟨g, 1, none⟩ (.int .i64 (x1 : Int))).setCell ⟨g, 2, none⟩ (.int .i64 (x2 : Int))).setCell ⟨g, 3, none⟩ (.slice (some ⟨g4, 5, none⟩) 15 (c4 - 1)) = X := ⟨_, rfl⟩
            rw [hwz] at xz bz
            have HXZ := Lib.hid xz
            have HBZ := Lib.hid bz
            have xq := far4 HQ.out (show g4 ≠ g by have := HZ3.out; omega) (.int .u8 (x0 : Int)) (.int .i64 (x1 : Int)) (.int .i64 (x2 : Int)) (.slice (some ⟨g4, 5, none⟩) 15 (c4 - 1))
            rw [hwz] at xq
            have HQF := Lib.hid xq
            have HPF := Lib.hid (HP.out.same HQ.out xq xq.lt)
            clear xq
            clear xz bz
            go_wp2_with fail
            clear n0 n1 n2 n3
            clear m0 m1 m2 m3 hfz hwz
            have e0 := ox0 HXZ.out
            have e1 := ox1 HXZ.out
            have e2 := ox2 HXZ.out
            have e3 := ox3 HXZ.out
            refine bodyPost_ret (v := .tuple #[.agg #[.int .u8 (x0 : Int), .int .i64 (x1 : Int), .int .i64 (x2 : Int), .slice (some ⟨g4, 5, none⟩) 15 (c4 - 1)], .int .i64 0]) (by simp [results, Tryd.f8, go_sem, e0, e1, e2, e3]) rfl ?_
            rw [HO.out]
            refine ⟨some ⟨g4, 5, none⟩, c4 - 1, ?_, ?_, ?_, HBZ.out⟩
            · simp only [HL15.out]
              rfl
            · simp only [HL15.out]
              exact HPF.out
            · exact fun p e => by
                injection e with e
                rw [← e]
                exact ⟨HG4.out, cs4, HQF.out⟩
          · rw [decide_eq_false he] at hq
            have HNO := Lib.hid (show ¬ (MayOb (decOb b) ∧ blockOb (decOb b) = b) by
              rw [HDE.out]
              rintro ⟨_, h⟩
              rw [HBL.out] at h
              have h2 := h.trans HBD.out.symm
              exact he (List.append_cancel_right h2).symm)
            clear he
            iterate 2 (
              refine wpI_read (v := ?_) hsb11 rfl (by kernel_rfl) (by kernel_rfl) (by kernel_rfl) (fun _ _ _ h => h) (.inl ⟨by rfl, ?_⟩) ?_
              rotate_left
              · intro X hX
                clear hX
                go_simp
                with_reducible rfl
              try simp only [Act.put, List.setIfInBounds_toArray, List.set_cons_zero, List.set_cons_succ])
            clear hq
            refine wpI_done (by kernel_rfl) ?_
            have HO := Lib.hid (show oreadO b = (ob0, 8) by
              unfold oreadO
              rw [if_pos HL.out, if_neg HNO.out])
            clear hsb11 hsb10 hwd8
            have m0 := ox0 HZ.out
            have m1 := ox1 HZ.out
            have m2 := ox2 HZ.out
            have m3 := ox3 HZ.out
            have hfz := fun i => HZ.out.frozen i
            have xz := HZ.out.set4 (.int .u8 0) (.int .i64 0) (.int .i64 0) (.slice none 0 0)
            have bz := below_set4 HB.out HGE.out (.int .u8 0) (.int .i64 0) (.int .i64 0) (.slice none 0 0)
            obtain ⟨wz, hwz⟩ : ∃ X, (((w11.setCell ⟨g, 0, none⟩ (.int .u8 0)).setCell ⟨g, 1, none⟩ (.int .i64 0)).setCell ⟨g, 2, none⟩ (.int .i64 0)).setCell ⟨g, 3, none⟩ (.slice none 0 0) = X := ⟨_, rfl⟩
            rw [hwz] at xz bz
            have HXZ := Lib.hid xz
            have HBZ := Lib.hid bz
            clear xz bz
            go_wp2_with fail
            clear m0 m1 m2 m3 hfz hwz
            have e0 := ox0 HXZ.out
            have e1 := ox1 HXZ.out
            have e2 := ox2 HXZ.out
            have e3 := ox3 HXZ.out
            refine bodyPost_ret (v := .tuple #[.agg #[.int .u8 0, .int .i64 0, .int .i64 0, .slice none 0 0], .int .i64 8]) (by simp [results, Tryd.f8, go_sem, e0, e1, e2, e3]) rfl ?_
            rw [HO.out]
            exact outOp_no 8 HBZ.out
        · have HCM := Lib.hid (HMY.out false ⟨fun x => (by cases x), fun x => absurd x hm⟩)
          have HM := Lib.hid hm
          clear hm
          refine wpI_lone rfl (by kernel_rfl) (fun K hK => ?_)
          go_simp
          refine HCM.out.mono ?_
          rintro ev w10 ⟨rfl, bq⟩
          have hsb10 := hwd8.trans (bq.mono hwd8.size)
          replace HZ := Lib.hid (HZ.out.below bq HZ.out.lt)
          replace HB := Lib.hid (HB.out.trans (bq.mono HB.out.size))
          replace HP := Lib.hid (HP.out.step bq)
          replace HQ := Lib.hid (HQ.out.below bq HQ.out.lt)
          replace HY := Lib.hid (HY.out.below bq HY.out.lt)
          refine hK _ _ hsb10 ?_
          clear hK K bq HCM HMY
          try simp only [Act.put, List.setIfInBounds_toArray, List.set_cons_zero, List.set_cons_succ]
          iterate 2 (
            refine wpI_read (v := ?_) hsb10 rfl (by kernel_rfl) (by kernel_rfl) (by kernel_rfl) (fun _ _ _ h => h) (.inl ⟨by rfl, ?_⟩) ?_
            rotate_left
            · intro X hX
              clear hX
              go_simp
              with_reducible rfl
            try simp only [Act.put, List.setIfInBounds_toArray, List.set_cons_zero, List.set_cons_succ])
          iterate 2 (
            refine wpI_read (v := undef) hsb10 rfl (by kernel_rfl) (by kernel_rfl) (by kernel_rfl) (fun _ _ _ h => h) (.inr ⟨by rfl, rfl⟩) ?_
            try simp only [Act.put, List.setIfInBounds_toArray, List.set_cons_zero, List.set_cons_succ])
          refine wpI_lone rfl (by kernel_rfl) (fun K hK => ?_)
          refine hK _ _ hsb10 ?_
          clear hK K
          try simp only [Act.put, List.setIfInBounds_toArray, List.set_cons_zero, List.set_cons_succ]
          iterate 1 (
            refine wpI_read (v := undef) hsb10 rfl (by kernel_rfl) (by kernel_rfl) (by kernel_rfl) (fun _ _ _ h => h) (.inr ⟨by rfl, rfl⟩) ?_
            try simp only [Act.put, List.setIfInBounds_toArray, List.set_cons_zero, List.set_cons_succ])
          iterate 1 (
            refine wpI_read (v := ?_) hsb10 rfl (by kernel_rfl) (by kernel_rfl) (by kernel_rfl) (fun _ _ _ h => h) (.inl ⟨by rfl, ?_⟩) ?_
            rotate_left
            · intro X hX
              clear hX
              go_simp
              with_reducible rfl
            try simp only [Act.put, List.setIfInBounds_toArray, List.set_cons_zero, List.set_cons_succ])
          have HNO := Lib.hid (show ¬ (MayOb (decOb b) ∧ blockOb (decOb b) = b) by rw [HDE.out]; exact fun h => HM.out h.1)
          refine wpI_done (by kernel_rfl) ?_
          have HO := Lib.hid (show oreadO b = (ob0, 8) by
            unfold oreadO
            rw [if_pos HL.out, if_neg HNO.out])
          clear hsb10 hwd8
          have m0 := ox0 HZ.out
          have m1 := ox1 HZ.out
          have m2 := ox2 HZ.out
          have m3 := ox3 HZ.out
          have hfz := fun i => HZ.out.frozen i
          have xz := HZ.out.set4 (.int .u8 0) (.int .i64 0) (.int .i64 0) (.slice none 0 0)
          have bz := below_set4 HB.out HGE.out (.int .u8 0) (.int .i64 0) (.int .i64 0) (.slice none 0 0)
          obtain ⟨wz, hwz⟩ : ∃ X, (((w10.setCell ⟨g, 0, none⟩ (.int .u8 0)).setCell ⟨g, 1, none⟩ (.int .i64 0)).setCell ⟨g, 2, none⟩ (.int .i64 0)).setCell ⟨g, 3, none⟩ (.slice none 0 0) = X := ⟨_, rfl⟩
          rw [hwz] at xz bz
          have HXZ := Lib.hid xz
          have HBZ := Lib.hid bz
          clear xz bz
          go_wp2_with fail
          clear m0 m1 m2 m3 hfz hwz
          have e0 := ox0 HXZ.out
          have e1 := ox1 HXZ.out
          have e2 := ox2 HXZ.out
          have e3 := ox3 HXZ.out
          refine bodyPost_ret (v := .tuple #[.agg #[.int .u8 0, .int .i64 0, .int .i64 0, .slice none 0 0], .int .i64 8]) (by simp [results, Tryd.f8, go_sem, e0, e1, e2, e3]) rfl ?_
          rw [HO.out]
          exact outOp_no 8 HBZ.out
      · go_simp
        have bq := (Below.refl wd7.heap.size wd7).alloc (Nat.le_refl _) (.cells #[.int .u8 0, .int .i64 0, .int .i64 0, .slice none 0 0] 24)
        have hy := Blk.new wd7 24 #[.int .u8 0, .int .i64 0, .int .i64 0, .slice none 0 0]
        obtain ⟨w7, hn⟩ : ∃ X, wd7.alloc (.cells #[.int .u8 0, .int .i64 0, .int .i64 0, .slice none 0 0] 24) = X := ⟨_, rfl⟩
        obtain ⟨g7, hg7⟩ : ∃ X, wd7.heap.size = X := ⟨_, rfl⟩
        have HG7 := Lib.hid (show wd7.heap.size ≤ g7 ∧ w.heap.size ≤ g7 ∧ g < g7 ∧ g4 < g7 ∧ g6 < g7 by have := hwd7.size; have := HB.out.size; have := HZ.out.lt; have := HQ.out.lt; have := HX.out.lt; omega)
        rw [hn] at bq hy ⊢
        rw [hg7] at hy ⊢
        have hsb7 := hwd7.trans (bq.mono hwd7.size)
        replace HZ := Lib.hid (HZ.out.below bq HZ.out.lt)
        replace HB := Lib.hid (HB.out.trans (bq.mono HB.out.size))
        replace HA := Lib.hid (HA.out.step bq)
        replace HS := Lib.hid (HS.out.step bq)
        replace HP := Lib.hid (HP.out.step bq)
        replace HQ := Lib.hid (HQ.out.below bq HQ.out.lt)
        replace HX := Lib.hid (HX.out.below bq HX.out.lt)
        have HY := Lib.hid hy
        refine hK _ _ hsb7 ?_
        clear hK K hn hg7 bq hy
        try simp only [Act.put, List.setIfInBounds_toArray, List.set_cons_zero, List.set_cons_succ]
        refine wpI_lone rfl (by kernel_rfl) (fun K hK => ?_)
        go_simp
        refine (HOB.out w7).mono ?_
        rintro ev w6 ⟨rfl, bq⟩
        have hsb6 := hsb7.trans (bq.mono hsb7.size)
        replace HZ := Lib.hid (HZ.out.below bq HZ.out.lt)
        replace HB := Lib.hid (HB.out.trans (bq.mono HB.out.size))
        replace HA := Lib.hid (HA.out.step bq)
        replace HS := Lib.hid (HS.out.step bq)
        replace HP := Lib.hid (HP.out.step bq)
        replace HQ := Lib.hid (HQ.out.below bq HQ.out.lt)
        replace HX := Lib.hid (HX.out.below bq HX.out.lt)
        replace HY := Lib.hid (HY.out.below bq HY.out.lt)
        refine hK _ _ hsb6 ?_
        clear hK K bq
        try simp only [Act.put, List.setIfInBounds_toArray, List.set_cons_zero, List.set_cons_succ]
        refine wpI_lone rfl (by kernel_rfl) (fun K hK => ?_)
        have m0 := ox0 HY.out
        have m1 := ox1 HY.out
        have m2 := ox2 HY.out
        have m3 := ox3 HY.out
        have hfz := fun i => HY.out.frozen i
        go_simp
        have xo := HY.out.set4 (.int .u8 (x0 : Int)) (.int .i64 (x1 : Int)) (.int .i64 (x2 : Int)) (.slice (some ⟨g4, 5, none⟩) 15 (c4 - 1))
        have bo := below_set4 hsb6 HG7.out.1 (.int .u8 (x0 : Int)) (.int .i64 (x1 : Int)) (.int .i64 (x2 : Int)) (.slice (some ⟨g4, 5, none⟩) 15 (c4 - 1))
        have bB := below_set4 HB.out HG7.out.2.1 (.int .u8 (x0 : Int)) (.int .i64 (x1 : Int)) (.int .i64 (x2 : Int)) (.slice (some ⟨g4, 5, none⟩) 15 (c4 - 1))
        have hfr := below_set4 (Below.refl g7 w6) (Nat.le_refl g7) (.int .u8 (x0 : Int)) (.int .i64 (x1 : Int)) (.int .i64 (x2 : Int)) (.slice (some ⟨g4, 5, none⟩) 15 (c4 - 1))
        obtain ⟨w8, hn⟩ : ∃ X, (((w6.setCell ⟨g7, 0, none⟩ (.int .u8 (x0 : Int))).setCell ⟨g7, 1, none⟩ (.int .i64 (x1 : Int))).setCell ⟨g7, 2, none⟩ (.int .i64 (x2 : Int))).setCell ⟨g7, 3, none⟩ (.slice (some ⟨g4, 5, none⟩) 15 (c4 - 1)) = X := ⟨_, rfl⟩
        rw [hn] at xo bo bB hfr ⊢
        refine hK _ _ bo ?_
        have hsz : w6.heap.size ≤ w8.heap.size := by rw [← hn]; simp [World.setCell]
        replace HY := Lib.hid xo
        replace HB := Lib.hid bB
        replace HZ := Lib.hid (HZ.out.below hfr HG7.out.2.2.1)
        replace HQ := Lib.hid (HQ.out.below hfr HG7.out.2.2.2.1)
        replace HX := Lib.hid (HX.out.below hfr HG7.out.2.2.2.2)
        replace HP := Lib.hid (show Pts w8 w8.heap.size (some ⟨g4, 5, none⟩) 15 (c4 - 1) (ptsOb b 15) from (HP.out.at_blk HG7.out.2.2.2.1).2 hfr HQ.out.lt)
        clear hK K hn m0 m1 m2 m3 hfz xo bo bB hfr hsz
        try simp only [Act.put, List.setIfInBounds_toArray, List.set_cons_zero, List.set_cons_succ]
        refine wpI_done (by kernel_rfl) ?_
        clear hsb6 hwd7 hsb7
        go_wp2_with fail
        obtain ⟨wd8, hwd⟩ : ∃ wd, w8.drew = wd := ⟨_, rfl⟩
        have bb0 : Below w8.heap.size w8 wd8 := by rw [← hwd]; exact (Below.refl _ w8).drew
        replace HZ := Lib.hid (HZ.out.below bb0 HZ.out.lt)
        replace HB := Lib.hid (HB.out.trans (bb0.mono HB.out.size))
        replace HP := Lib.hid (HP.out.step bb0)
        replace HQ := Lib.hid (HQ.out.below bb0 HQ.out.lt)
        replace HY := Lib.hid (HY.out.below bb0 HY.out.lt)
        replace HX := Lib.hid (HX.out.below bb0 HX.out.lt)
        have HY8 := Lib.hid HY.out
        have HX8 := Lib.hid HX.out
        have hde : decOb b = (x0, (x1 : Int), (x2 : Int), ptsOb b 15) := by
          unfold decOb headOb
          simp only [HN.out.1, HN.out.2.1, ← HN.out.2.2]
          congr 3
        have hl15 := ptsOb_length b 15
        have HDT := Lib.hid (bytes_win b HL.out)
        have HWF := Lib.hid (decOb_wf b)
        rw [hde] at HWF
        obtain ⟨LP, hLP⟩ : ∃ X, ptsOb b 15 = X := ⟨_, rfl⟩
        rw [hLP] at HP HAL hl15 hde HDT HWF
        have hmy := obMay_any (some ⟨g4, 5, none⟩) (c4 - 1) ((x0, (x1 : Int), (x2 : Int), LP) : ObL) wd8
        simp only [obV, hl15] at hmy
        have hmy2 := hmy HP.out HWF.out
        have HMY := Lib.hid hmy2
        have HL15 := Lib.hid hl15
        have HDE := Lib.hid hde
        clear hmy hmy2 hl15 hde hLP
        have hwd8 := Below.refl wd8.heap.size wd8
        refine wpI_start (Below wd8.heap.size wd8) [0, 1, 2, 3, 4, 5, 6, 7, 8] hmx rfl hwd ?_
        clear hwd bb0
        iterate 1 (
          refine wpI_read (v := ?_) hwd8 rfl (by kernel_rfl) (by kernel_rfl) (by kernel_rfl) (fun _ _ _ h => h) (.inl ⟨by rfl, ?_⟩) ?_
          rotate_left
          · intro X hX
            have j0 := ox0 (HY8.out.below hX HY8.out.lt)
            have j1 := ox1 (HY8.out.below hX HY8.out.lt)
            have j2 := ox2 (HY8.out.below hX HY8.out.lt)
            have j3 := ox3 (HY8.out.below hX HY8.out.lt)
            clear hX
            go_simp
            with_reducible rfl
          try simp only [Act.put, List.setIfInBounds_toArray, List.set_cons_zero, List.set_cons_succ])
        by_cases hm : MayOb (x0, (x1 : Int), (x2 : Int), LP)
        · have HCM := Lib.hid (HMY.out true ⟨fun _ => hm, fun _ => rfl⟩)
          have HM := Lib.hid hm
          clear hm
          refine wpI_lone rfl (by kernel_rfl) (fun K hK => ?_)
          go_simp
          refine HCM.out.mono ?_
          rintro ev w10 ⟨rfl, bq⟩
          have hsb10 := hwd8.trans (bq.mono hwd8.size)
          replace HZ := Lib.hid (HZ.out.below bq HZ.out.lt)
          replace HB := Lib.hid (HB.out.trans (bq.mono HB.out.size))
          replace HP := Lib.hid (HP.out.step bq)
          replace HQ := Lib.hid (HQ.out.below bq HQ.out.lt)
          replace HY := Lib.hid (HY.out.below bq HY.out.lt)
          refine hK _ _ hsb10 ?_
          clear hK K bq HCM HMY
          try simp only [Act.put, List.setIfInBounds_toArray, List.set_cons_zero, List.set_cons_succ]
          iterate 2 (
            refine wpI_read (v := ?_) hsb10 rfl (by kernel_rfl) (by kernel_rfl) (by kernel_rfl) (fun _ _ _ h => h) (.inl ⟨by rfl, ?_⟩) ?_
            rotate_left
            · intro X hX
              clear hX
              go_simp
              with_reducible rfl
            try simp only [Act.put, List.setIfInBounds_toArray, List.set_cons_zero, List.set_cons_succ])
          refine wpI_read (v := .agg (ar hh)) hsb10 rfl (by kernel_rfl) (by kernel_rfl) (by kernel_rfl) (fun _ _ _ h => h) (.inl ⟨by rfl, fun X hX => exec_load16 rfl rfl (HX8.out.below hX (by have := HX8.out.lt; omega)) HHL.out⟩) ?_
          try simp only [Act.put, List.setIfInBounds_toArray, List.set_cons_zero, List.set_cons_succ]
          iterate 1 (
            refine wpI_read (v := ?_) hsb10 rfl (by kernel_rfl) (by kernel_rfl) (by kernel_rfl) (fun _ _ _ h => h) (.inl ⟨by rfl, ?_⟩) ?_
            rotate_left
            · intro X hX
              have j0 := ox0 (HY8.out.below hX HY8.out.lt)
              have j1 := ox1 (HY8.out.below hX HY8.out.lt)
              have j2 := ox2 (HY8.out.below hX HY8.out.lt)
              have j3 := ox3 (HY8.out.below hX HY8.out.lt)
              clear hX
              go_simp
              with_reducible rfl
            try simp only [Act.put, List.setIfInBounds_toArray, List.set_cons_zero, List.set_cons_succ])
          refine wpI_lone rfl (by kernel_rfl) (fun K hK => ?_)
          go_simp
          refine (obHead_any (some ⟨g4, 5, none⟩) (c4 - 1) x0 x1 x2 15 w10 HY0.out.1 HY0.out.2.1 HY0.out.2.2).mono ?_
          rintro ev w11 ⟨rfl, bq⟩
          have hsb11 := hsb10.trans (bq.mono hsb10.size)
          replace HZ := Lib.hid (HZ.out.below bq HZ.out.lt)
          replace HB := Lib.hid (HB.out.trans (bq.mono HB.out.size))
          replace HP := Lib.hid (HP.out.step bq)
          replace HQ := Lib.hid (HQ.out.below bq HQ.out.lt)
          replace HY := Lib.hid (HY.out.below bq HY.out.lt)
          refine hK _ _ hsb11 ?_
          clear hK K bq
          try simp only [Act.put, List.setIfInBounds_toArray, List.set_cons_zero, List.set_cons_succ]
          have hq := eq16 hh (hd16 x0 x1 x2) HHL.out (hd16_length x0 x1 x2)
          have HHB := Lib.hid (head_bytes x0 x1 x2 LP HY0.out.2.2)
          have HBL := Lib.hid (show blockOb (x0, (x1 : Int), (x2 : Int), LP) = hd16 x0 x1 x2 ++ b.drop 16 by
            rw [HHB.out, ← HDT.out]
            rfl)
          obtain ⟨hd, hhd⟩ : ∃ X, hd16 x0 x1 x2 = X := ⟨_, rfl⟩
          rw [hhd] at hq HBL ⊢
          clear hhd
          have HBD := Lib.hid (show hh ++ b.drop 16 = b by rw [← HHE.out, List.take_append_drop])
          by_cases he : hh = hd
          · rw [decide_eq_true he] at hq
            have HO := Lib.hid (show oreadO b = ((x0, (x1 : Int), (x2 : Int), LP), 0) by
              have hb : blockOb (x0, (x1 : Int), (x2 : Int), LP) = b := by rw [HBL.out, ← he, HBD.out]
              unfold oreadO
              rw [if_pos HL.out, HDE.out, if_pos ⟨HM.out, hb⟩])
            clear he
            iterate 2 (
              refine wpI_read (v := ?_) hsb11 rfl (by kernel_rfl) (by kernel_rfl) (by kernel_rfl) (fun _ _ _ h => h) (.inl ⟨by rfl, ?_⟩) ?_
              rotate_left
              · intro X hX
                clear hX
                go_simp
                with_reducible rfl
              try simp only [Act.put, List.setIfInBounds_toArray, List.set_cons_zero, List.set_cons_succ])
            refine wpI_done (by kernel_rfl) ?_
            clear hq hsb11 hsb10 hwd8
            have n0 := ox0 HY.out
            have n1 := ox1 HY.out
            have n2 := ox2 HY.out
            have n3 := ox3 HY.out
            have m0 := ox0 HZ.out
            have m1 := ox1 HZ.out
            have m2 := ox2 HZ.out
            have m3 := ox3 HZ.out
            have hfz := fun i => HZ.out.frozen i
            have xz := HZ.out.set4 (.int .u8 (x0 : Int)) (.int .i64 (x1 : Int)) (.int .i64 (x2 : Int)) (.slice (some ⟨g4, 5, none⟩) 15 (c4 - 1))
            have bz := below_set4 HB.out HGE.out (.int .u8 (x0 : Int)) (.int .i64 (x1 : Int)) (.int .i64 (x2 : Int)) (.slice (some ⟨g4, 5, none⟩) 15 (c4 - 1))
            obtain ⟨wz, hwz⟩ : ∃ X, (((w11.setCell ⟨g, 0, none⟩ (.int .u8 (x0 : Int))).setCell ⟨g, 1, none⟩ (.int .i64 (x1 : Int))).setCell ⟨g, 2, none⟩ (.int .i64 (x2 : Int))).setCell ⟨g, 3, none⟩ (.slice (some ⟨g4, 5, none⟩) 15 (c4 - 1)) = X := ⟨_, rfl⟩
            rw [hwz] at xz bz
            have HXZ := Lib.hid xz
            have HBZ := Lib.hid bz
            have xq := far4 HQ.out (show g4 ≠ g by have := HZ3.out; omega) (.int .u8 (x0 : Int)) (.int .i64 (x1 : Int)) (.int .i64 (x2 : Int)) (.slice (some ⟨g4, 5, none⟩) 15 (c4 - 1))
            rw [hwz] at xq
            have HQF := Lib.hid xq
            have HPF := Lib.hid (HP.out.same HQ.out xq xq.lt)
            clear xq
            clear xz bz
            go_wp2_with fail
            clear n0 n1 n2 n3
            clear m0 m1 m2 m3 hfz hwz
            have e0 := ox0 HXZ.out
            have e1 := ox1 HXZ.out
            have e2 := ox2 HXZ.out
            have e3 := ox3 HXZ.out
            refine bodyPost_ret (v := .tuple #[.agg #[.int .u8 (x0 : Int), .int .i64 (x1 : Int), .int .i64 (x2 : Int), .slice (some ⟨g4, 5, none⟩) 15 (c4 - 1)], .int .i64 0]) (by simp [results, Tryd.f8, go_sem, e0, e1, e2, e3]) rfl ?_
            rw [HO.out]
            refine ⟨some ⟨g4, 5, none⟩, c4 - 1, ?_, ?_, ?_, HBZ.out⟩
            · simp only [HL15.out]
              rfl
            · simp only [HL15.out]
              exact HPF.out
            · exact fun p e => by
                injection e with e
                rw [← e]
                exact ⟨HG4.out, cs4, HQF.out⟩
          · rw [decide_eq_false he] at hq
            have HNO := Lib.hid (show ¬ (MayOb (decOb b) ∧ blockOb (decOb b) = b) by
              rw [HDE.out]
              rintro ⟨_, h⟩
              rw [HBL.out] at h
              have h2 := h.trans HBD.out.symm
              exact he (List.append_cancel_right h2).symm)
            clear he
            iterate 2 (
              refine wpI_read (v := ?_) hsb11 rfl (by kernel_rfl) (by kernel_rfl) (by kernel_rfl) (fun _ _ _ h => h) (.inl ⟨by rfl, ?_⟩) ?_
              rotate_left
              · intro X hX
                clear hX
                go_simp
                with_reducible rfl
              try simp only [Act.put, List.setIfInBounds_toArray, List.set_cons_zero, List.set_cons_succ])
            clear hq
            refine wpI_done (by kernel_rfl) ?_
            have HO := Lib.hid (show oreadO b = (ob0, 8) by
              unfold oreadO
              rw [if_pos HL.out, if_neg HNO.out])
            clear hsb11 hsb10 hwd8
            have m0 := ox0 HZ.out
            have m1 := ox1 HZ.out
            have m2 := ox2 HZ.out
            have m3 := ox3 HZ.out
            have hfz := fun i => HZ.out.frozen i
            have xz := HZ.out.set4 (.int .u8 0) (.int .i64 0) (.int .i64 0) (.slice none 0 0)
            have bz := below_set4 HB.out HGE.out (.int .u8 0) (.int .i64 0) (.int .i64 0) (.slice none 0 0)
            obtain ⟨wz, hwz⟩ : ∃ X, (((w11.setCell ⟨g, 0, none⟩ (.int .u8 0)).setCell ⟨g, 1, none⟩ (.int .i64 0)).setCell ⟨g, 2, none⟩ (.int .i64 0)).setCell ⟨g, 3, none⟩ (.slice none 0 0) = X := ⟨_, rfl⟩
            rw [hwz] at xz bz
            have HXZ := Lib.hid xz
            have HBZ := Lib.hid bz
            clear xz bz
            go_wp2_with fail
            clear m0 m1 m2 m3 hfz hwz
            have e0 := ox0 HXZ.out
            have e1 := ox1 HXZ.out
            have e2 := ox2 HXZ.out
            have e3 := ox3 HXZ.out
            refine bodyPost_ret (v := .tuple #[.agg #[.int .u8 0, .int .i64 0, .int .i64 0, .slice none 0 0], .int .i64 8]) (by simp [results, Tryd.f8, go_sem, e0, e1, e2, e3]) rfl ?_
            rw [HO.out]
            exact outOp_no 8 HBZ.out
        · have HCM := Lib.hid (HMY.out false ⟨fun x => (by cases x), fun x => absurd x hm⟩)
          have HM := Lib.hid hm
          clear hm
          refine wpI_lone rfl (by kernel_rfl) (fun K hK => ?_)
          go_simp
          refine HCM.out.mono ?_
          rintro ev w10 ⟨rfl, bq⟩
          have hsb10 := hwd8.trans (bq.mono hwd8.size)
          replace HZ := Lib.hid (HZ.out.below bq HZ.out.lt)
          replace HB := Lib.hid (HB.out.trans (bq.mono HB.out.size))
          replace HP := Lib.hid (HP.out.step bq)
          replace HQ := Lib.hid (HQ.out.below bq HQ.out.lt)
          replace HY := Lib.hid (HY.out.below bq HY.out.lt)
          refine hK _ _ hsb10 ?_
          clear hK K bq HCM HMY
          try simp only [Act.put, List.setIfInBounds_toArray, List.set_cons_zero, List.set_cons_succ]
          iterate 2 (
            refine wpI_read (v := ?_) hsb10 rfl (by kernel_rfl) (by kernel_rfl) (by kernel_rfl) (fun _ _ _ h => h) (.inl ⟨by rfl, ?_⟩) ?_
            rotate_left
            · intro X hX
              clear hX
              go_simp
              with_reducible rfl
            try simp only [Act.put, List.setIfInBounds_toArray, List.set_cons_zero, List.set_cons_succ])
          iterate 2 (
            refine wpI_read (v := undef) hsb10 rfl (by kernel_rfl) (by kernel_rfl) (by kernel_rfl) (fun _ _ _ h => h) (.inr ⟨by rfl, rfl⟩) ?_
            try simp only [Act.put, List.setIfInBounds_toArray, List.set_cons_zero, List.set_cons_succ])
          refine wpI_lone rfl (by kernel_rfl) (fun K hK => ?_)
          refine hK _ _ hsb10 ?_
          clear hK K
          try simp only [Act.put, List.setIfInBounds_toArray, List.set_cons_zero, List.set_cons_succ]
          iterate 1 (
            refine wpI_read (v := undef) hsb10 rfl (by kernel_rfl) (by kernel_rfl) (by kernel_rfl) (fun _ _ _ h => h) (.inr ⟨by rfl, rfl⟩) ?_
            try simp only [Act.put, List.setIfInBounds_toArray, List.set_cons_zero, List.set_cons_succ])
          iterate 1 (
            refine wpI_read (v := ?_) hsb10 rfl (by kernel_rfl) (by kernel_rfl) (by kernel_rfl) (fun _ _ _ h => h) (.inl ⟨by rfl, ?_⟩) ?_
            rotate_left
            · intro X hX
              clear hX
              go_simp
              with_reducible rfl
            try simp only [Act.put, List.setIfInBounds_toArray, List.set_cons_zero, List.set_cons_succ])
          have HNO := Lib.hid (show ¬ (MayOb (decOb b) ∧ blockOb (decOb b) = b) by rw [HDE.out]; exact fun h => HM.out h.1)
          refine wpI_done (by kernel_rfl) ?_
          have HO := Lib.hid (show oreadO b = (ob0, 8) by
            unfold oreadO
            rw [if_pos HL.out, if_neg HNO.out])
          clear hsb10 hwd8
          have m0 := ox0 HZ.out
          have m1 := ox1 HZ.out
          have m2 := ox2 HZ.out
          have m3 := ox3 HZ.out
          have hfz := fun i => HZ.out.frozen i
          have xz := HZ.out.set4 (.int .u8 0) (.int .i64 0) (.int .i64 0) (.slice none 0 0)
          have bz := below_set4 HB.out HGE.out (.int .u8 0) (.int .i64 0) (.int .i64 0) (.slice none 0 0)
          obtain ⟨wz, hwz⟩ : ∃ X, (((w10.setCell ⟨g, 0, none⟩ (.int .u8 0)).setCell ⟨g, 1, none⟩ (.int .i64 0)).setCell ⟨g, 2, none⟩ (.int .i64 0)).setCell ⟨g, 3, none⟩ (.slice none 0 0) = X := ⟨_, rfl⟩
          rw [hwz] at xz bz
          have HXZ := Lib.hid xz
          have HBZ := Lib.hid bz
          clear xz bz
          go_wp2_with fail
          clear m0 m1 m2 m3 hfz hwz
          have e0 := ox0 HXZ.out
          have e1 := ox1 HXZ.out
          have e2 := ox2 HXZ.out
          have e3 := ox3 HXZ.out
          refine bodyPost_ret (v := .tuple #[.agg #[.int .u8 0, .int .i64 0, .int .i64 0, .slice none 0 0], .int .i64 8]) (by simp [results, Tryd.f8, go_sem, e0, e1, e2, e3]) rfl ?_
          rw [HO.out]
          exact outOp_no 8 HBZ.out
    · rw [if_neg hall] at hrw
      have HRW := Lib.hid hrw
      have HO := Lib.hid (show oreadO b = (ob0, 8) by
        unfold oreadO
        rw [if_pos HL.out, if_neg]
        exact fun h => hall h.1.2)
      clear hrw hall
      refine wpI_lone rfl (by kernel_rfl) (fun K hK => ?_)
      go_simp
      refine HRW.out.mono ?_
      rintro ev w4 ⟨v4, rfl, hp4, bq⟩
      have hsb4 := hsb3.trans (bq.mono hsb3.size)
      replace HZ := Lib.hid (HZ.out.below bq HZ.out.lt)
      replace HB := Lib.hid (HB.out.trans (bq.mono HB.out.size))
      replace HA := Lib.hid (HA.out.step bq)
      replace HS := Lib.hid (HS.out.step bq)
      refine hK _ _ hsb4 ?_
      clear hK K bq hsb3 HRW
      try simp only [Act.put, List.setIfInBounds_toArray, List.set_cons_zero, List.set_cons_succ]
      iterate 5 (
        refine wpI_read (v := ?_) hsb4 rfl (by kernel_rfl) (by kernel_rfl) (by kernel_rfl) (fun _ _ _ h => h) (.inl ⟨by rfl, ?_⟩) ?_
        rotate_left
        · intro X hX
          clear hX
          go_simp
          with_reducible rfl
        try simp only [Act.put, List.setIfInBounds_toArray, List.set_cons_zero, List.set_cons_succ])
      refine wpI_done (by kernel_rfl) ?_
      clear hsb4 hwd0 hp4
      have m0 := ox0 HZ.out
      have m1 := ox1 HZ.out
      have m2 := ox2 HZ.out
      have m3 := ox3 HZ.out
      have hfz := fun i => HZ.out.frozen i
      have xz := HZ.out.set4 (.int .u8 0) (.int .i64 0) (.int .i64 0) (.slice none 0 0)
      have bz := below_set4 HB.out HGE.out (.int .u8 0) (.int .i64 0) (.int .i64 0) (.slice none 0 0)
      obtain ⟨wz, hwz⟩ : ∃ X, (((w4.setCell ⟨g, 0, none⟩ (.int .u8 0)).setCell ⟨g, 1, none⟩ (.int .i64 0)).setCell ⟨g, 2, none⟩ (.int .i64 0)).setCell ⟨g, 3, none⟩ (.slice none 0 0) = X := ⟨_, rfl⟩
      rw [hwz] at xz bz
      have HXZ := Lib.hid xz
      have HBZ := Lib.hid bz
      clear xz bz
      go_wp2_with fail
      clear m0 m1 m2 m3 hfz hwz
      have e0 := ox0 HXZ.out
      have e1 := ox1 HXZ.out
      have e2 := ox2 HXZ.out
      have e3 := ox3 HXZ.out
      refine bodyPost_ret (v := .tuple #[.agg #[.int .u8 0, .int .i64 0, .int .i64 0, .slice none 0 0], .int .i64 8]) (by simp [results, Tryd.f8, go_sem, e0, e1, e2, e3]) rfl ?_
      rw [HO.out]
      exact outOp_no 8 HBZ.out
  · have HO := Lib.hid (show oreadO b = (ob0, 3) by unfold oreadO; rw [if_neg h])
    rw [HO.out]
    have e1 : ((b.length : Int) != 256) = true := by simp; omega
    have m0 := ox0 HZ.out
    have m1 := ox1 HZ.out
    have m2 := ox2 HZ.out
    have m3 := ox3 HZ.out
    have hfz := fun i => HZ.out.frozen i
    have xz := HZ.out.set4 (.int .u8 0) (.int .i64 0) (.int .i64 0) (.slice none 0 0)
    have bz := below_set4 HB.out HGE.out (.int .u8 0) (.int .i64 0) (.int .i64 0) (.slice none 0 0)
    obtain ⟨wz, hwz⟩ : ∃ X, (((w0.setCell ⟨g, 0, none⟩ (.int .u8 0)).setCell ⟨g, 1, none⟩ (.int .i64 0)).setCell ⟨g, 2, none⟩ (.int .i64 0)).setCell ⟨g, 3, none⟩ (.slice none 0 0) = X := ⟨_, rfl⟩
    rw [hwz] at xz bz
    have HXZ := Lib.hid xz
    have HBZ := Lib.hid bz
    clear xz bz h
    go_enter Tryd.func8, Tryd.ntmps8
    go_wp2_with fail
    clear hw0
    clear m0 m1 m2 m3 hfz hwz
    have e0 := ox0 HXZ.out
    have e1 := ox1 HXZ.out
    have e2 := ox2 HXZ.out
    have e3 := ox3 HXZ.out
    refine bodyPost_ret (v := .tuple #[.agg #[.int .u8 0, .int .i64 0, .int .i64 0, .slice none 0 0], .int .i64 3]) (by simp [results, Tryd.f8, go_sem, e0, e1, e2, e3]) rfl ?_
    exact outOp_no 3 HBZ.out
end Go.Proofs.YtennhempdnpobaaDoor
