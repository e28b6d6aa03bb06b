/-
  DeadNamesSaid: the limits and errors have their numbers, and the chapter's examples are so. No condition but the tied one: ptr.sizes reads as its own initialiser says.
-/
import Derived.Test.YtadffkfalclpjaaGreatDoorRows
import Derived.Test.YtadffkfalclpjaaGreatDoorPkDA4
namespace Go.Proofs.YtadffkfalclpjaaGreatDoor
open Go.RowKit Go.Shelf
set_option maxRecDepth 100000

/-- Seventeen pointers. -/
def l17 : List Pt := (List.range 17).map fun (i : Nat) => ((40 : Int) + (i : Int), 1, 0, 0, 0)
theorem l17_at (j : Nat) (hj : j < 17) : l17.take j ++ [((40 : Int) + j, 1, 0, 0, 0)] = l17.take (j + 1) := by
  have h : ∀ j : Fin 17, l17.take j.val ++ [((40 : Int) + j.val, 1, 0, 0, 0)] = l17.take (j.val + 1) := by decide +kernel
  exact h ⟨j, hj⟩
theorem new_mk (i : Nat) (hi : i < 256) : mkT newS.2.1 i = if i < 12 then 1 else 0 := newTo_mk i hi
theorem new_put (s : List UInt8) : putS newS 1 0 0 s = some (putAt newS 12 s, (12, 1, 0, 0, sumOf s)) :=
  putS_some (k := 12) (by omega) (by rw [new_mk 12 (by omega)]; rfl) (fun i hi => by rw [new_mk i (by omega), if_pos hi]; decide) (by show 0 < 4096; omega)
theorem new_put2 (s t : List UInt8) : putS (putAt newS 12 s) 1 0 0 t = some (putAt (putAt newS 12 s) 13 t, (13, 1, 0, 0, sumOf t)) := by
  have hl : newS.2.1.length = 256 := newS_may.2.1.1
  refine putS_some (k := 13) (by omega) ?_ (fun i hi => ?_) ?_
  · rw [put_mark hl (by omega), if_neg (by omega), new_mk 13 (by omega)]; rfl
  · rw [put_mark hl (by omega)]
    by_cases e : i = 12
    · rw [if_pos e]; decide
    · rw [if_neg e, new_mk i (by omega), if_pos (by omega)]; decide
  · show (withD newS.1 ((12 : Nat) : Int) s).2.length < 4096
    unfold withD
    simp [newD]
theorem new_put3 (s t u : List UInt8) : ∃ T, putS (putAt (putAt newS 12 s) 13 t) 1 0 0 u = some (T, (14, 1, 0, 0, sumOf u)) := by
  have hl : newS.2.1.length = 256 := newS_may.2.1.1
  have hl2 : (putAt newS 12 s).2.1.length = 256 := by show (newS.2.1.set 12 1).length = 256; rw [List.length_set]; exact hl
  refine ⟨_, putS_some (k := 14) (by omega) ?_ (fun i hi => ?_) ?_⟩
  · rw [put_mark hl2 (by omega), if_neg (by omega), put_mark hl (by omega), if_neg (by omega), new_mk 14 (by omega)]; rfl
  · rw [put_mark hl2 (by omega), put_mark hl (by omega)]
    by_cases e : i = 13
    · rw [if_pos e]; decide
    · rw [if_neg e]
      by_cases e : i = 12
      · rw [if_pos e]; decide
      · rw [if_neg e, new_mk i (by omega), if_pos (by omega)]; decide
  · show (withD (withD newS.1 ((12 : Nat) : Int) s) ((13 : Nat) : Int) t).2.length < 4096
    unfold withD
    simp [newD]
theorem l17_may : MayDL l17 := by decide +kernel
theorem l17_laid : ∃ T z, layO newS 1 l17 = (T, (14, 1, 0, 0, z), [12, 13, 14], 0) := by
  obtain ⟨T, hT⟩ := new_put3 (rowTo (rowD l17 0) (rowD l17 0).length) (rowTo (rowD l17 1) (rowD l17 1).length) (rowTo [(12, 1, 0, 0, sumOf (rowTo (rowD l17 0) (rowD l17 0).length)), (13, 1, 0, 0, sumOf (rowTo (rowD l17 1) (rowD l17 1).length))] 2)
  obtain ⟨z, hzz⟩ : ∃ z, sumOf (rowTo [(12, 1, 0, 0, sumOf (rowTo (rowD l17 0) (rowD l17 0).length)), (13, 1, 0, 0, sumOf (rowTo (rowD l17 1) (rowD l17 1).length))] 2) = z := ⟨_, rfl⟩
  rw [hzz] at hT
  refine ⟨T, z, ?_⟩
  have h2 : laidTo newS 1 l17 (rowsN l17.length) = some (putAt (putAt newS 12 (rowTo (rowD l17 0) (rowD l17 0).length)) 13 (rowTo (rowD l17 1) (rowD l17 1).length), [(12, 1, 0, 0, sumOf (rowTo (rowD l17 0) (rowD l17 0).length)), (13, 1, 0, 0, sumOf (rowTo (rowD l17 1) (rowD l17 1).length))]) := by
    rw [show rowsN l17.length = 2 from rfl]
    unfold laidTo
    unfold laidTo
    unfold laidTo
    simp only [new_put, new_put2, List.nil_append, List.cons_append]
  unfold layO
  rw [if_pos ⟨newS_may, l17_may⟩, if_pos (by omega)]
  unfold layedO
  rw [if_neg (by decide), h2]
  simp only [List.length_cons, List.length_nil, Nat.reduceAdd, hT]
  rfl
theorem nil_laid : layO newS 1 [] = (newS, p0, [], 0) := by
  unfold layO
  rw [if_pos ⟨newS_may, by decide⟩, if_pos (by omega)]
  unfold layedO
  rw [if_pos rfl]
theorem nm_add : addO [(20, 1, 0, 0, 0)] (20, 2, 0, 0, 0) = ([], 2) := by decide +kernel
theorem nm_split : splitO [(20, 1, 0, 0, 0), (30, 5, 0, 0, 0)] 1 = ([(20, 1, 0, 0, 0)], [(30, 5, 0, 0, 0)], 0) := by
  unfold splitO
  rw [if_pos (by decide +kernel)]
  rfl
theorem nm_check : checkDO [p0] = 8 := by decide +kernel
theorem nm_wf (z : Int) (b : Nat) (hz : 0 ≤ z ∧ z ≤ 1000) (hb : b ≤ 100) : WfP (z, b, 0, 0, 0) := ⟨by constructor <;> simp only <;> omega, by show b < 4294967296; omega, by show 0 < 4294967296; decide, by show 0 < 4294967296; decide, by show 0 < 4294967296; decide⟩
set_option linter.unusedSimpArgs false in
set_option maxHeartbeats 16000000 in
theorem deadNames_walk (w : World) (hz : Szs w) : Calls Tryz.prog 3 #[] w fun e w' => e = .returned (.bool true) ∧ Below w.heap.size w w' := by
  have hmx : Tryz.prog.follows Departure.mixedOrders = true := by kernel_rfl
  have HZ := Lib.hid hz
  have HLW := Lib.hid (Nat.zero_le w.heap.size)
  have HZ0 := Lib.hid hz
  have HB := Lib.hid (Below.refl w.heap.size w)
  clear hz
  go_enter Tryz.func3, Tryz.ntmps3
  go_wp2_with fail
  refine (dlAt_any 20 1 w).mono ?_
  rintro ev w1 ⟨rfl, b1⟩
  replace HB := Lib.hid (HB.out.trans (b1.mono HB.out.size))
  replace HZ := Lib.hid (HZ.out.step b1)
  replace HLW := Lib.hid (Nat.le_trans HLW.out b1.size)
  clear b1
  have xl := Blk.new w1 28 (ptCs [(20, 1, 0, 0, 0)]).toArray
  have bl := (Below.refl w1.heap.size w1).alloc (Nat.le_refl _) (.cells (ptCs [(20, 1, 0, 0, 0)]).toArray 28)
  obtain ⟨w2, hw2⟩ : ∃ X, w1.alloc (.cells (ptCs [(20, 1, 0, 0, 0)]).toArray 28) = X := ⟨_, rfl⟩
  rw [hw2] at xl bl
  have HA := Lib.hid (lit_pts xl (fun p hp => by
    simp only [List.mem_cons, List.not_mem_nil, or_false] at hp
    rcases hp with rfl
    exact nm_wf 20 1 (by omega) (by omega)) (by decide))
  replace HB := Lib.hid (HB.out.trans (bl.mono HB.out.size))
  replace HZ := Lib.hid (HZ.out.step bl)
  replace HLW := Lib.hid (Nat.le_trans HLW.out bl.size)
  have hx2 : w1.alloc (.cells #[.int .i64 20, .int .u32 1, .int .u32 0, .int .u32 0, .int .u32 0] 28) = w2 := hw2
  have HW2 := Lib.hid hx2
  clear xl bl hw2 hx2
  go_wp2_with fail
  try rw [show w1.alloc (.cells #[.int .i64 20, .int .u32 1, .int .u32 0, .int .u32 0, .int .u32 0] 28) = w2 from HW2.out]
  clear HW2
  refine (dlAt_any 20 2 w2).mono ?_
  rintro ev w3 ⟨rfl, b3⟩
  replace HB := Lib.hid (HB.out.trans (b3.mono HB.out.size))
  replace HZ := Lib.hid (HZ.out.step b3)
  replace HA := Lib.hid (HA.out.step b3)
  replace HLW := Lib.hid (Nat.le_trans HLW.out b3.size)
  clear b3
  have hc := ddAdd_any _ _ _ _ (20, 2, 0, 0, 0) w3 HA.out (nm_wf 20 2 (by omega) (by omega))
  rw [nm_add] at hc
  have HC := Lib.hid hc
  clear hc
  go_wp2_with fail
  refine (HC.out).mono ?_
  rintro ev w4 ⟨v4, rfl, hp4, b4⟩
  replace HB := Lib.hid (HB.out.trans (b4.mono HB.out.size))
  replace HZ := Lib.hid (HZ.out.step b4)
  replace HA := Lib.hid (HA.out.step b4)
  replace HLW := Lib.hid (Nat.le_trans HLW.out b4.size)
  obtain ⟨a4, c4, rfl, _⟩ := hp4.pts
  clear b4 hp4 HC HA
  go_wp2_with fail
  refine (dlAt_any 20 1 w4).mono ?_
  rintro ev w5 ⟨rfl, b5⟩
  replace HB := Lib.hid (HB.out.trans (b5.mono HB.out.size))
  replace HZ := Lib.hid (HZ.out.step b5)
  replace HLW := Lib.hid (Nat.le_trans HLW.out b5.size)
  clear b5
  go_wp2_with fail
  refine (dlAt_any 30 5 w5).mono ?_
  rintro ev w6 ⟨rfl, b6⟩
  replace HB := Lib.hid (HB.out.trans (b6.mono HB.out.size))
  replace HZ := Lib.hid (HZ.out.step b6)
  replace HLW := Lib.hid (Nat.le_trans HLW.out b6.size)
  clear b6
  have xl := Blk.new w6 28 (ptCs [(20, 1, 0, 0, 0), (30, 5, 0, 0, 0)]).toArray
  have bl := (Below.refl w6.heap.size w6).alloc (Nat.le_refl _) (.cells (ptCs [(20, 1, 0, 0, 0), (30, 5, 0, 0, 0)]).toArray 28)
  obtain ⟨w7, hw7⟩ : ∃ X, w6.alloc (.cells (ptCs [(20, 1, 0, 0, 0), (30, 5, 0, 0, 0)]).toArray 28) = X := ⟨_, rfl⟩
  rw [hw7] at xl bl
  have HA := Lib.hid (lit_pts xl (fun p hp => by
    simp only [List.mem_cons, List.not_mem_nil, or_false] at hp
    rcases hp with rfl | rfl
    · exact nm_wf 20 1 (by omega) (by omega)
    · exact nm_wf 30 5 (by omega) (by omega)) (by decide))
  replace HB := Lib.hid (HB.out.trans (bl.mono HB.out.size))
  replace HZ := Lib.hid (HZ.out.step bl)
  replace HLW := Lib.hid (Nat.le_trans HLW.out bl.size)
  have hx7 : w6.alloc (.cells #[.int .i64 20, .int .u32 1, .int .u32 0, .int .u32 0, .int .u32 0, .int .i64 30, .int .u32 5, .int .u32 0, .int .u32 0, .int .u32 0] 28) = w7 := hw7
  have HW7 := Lib.hid hx7
  clear xl bl hw7 hx7
  have hc := ddSplit_any _ _ _ _ 1 w7 HA.out (by omega)
  rw [nm_split] at hc
  have HC := Lib.hid hc
  clear hc
  go_wp2_with fail
  try rw [show w6.alloc (.cells #[.int .i64 20, .int .u32 1, .int .u32 0, .int .u32 0, .int .u32 0, .int .i64 30, .int .u32 5, .int .u32 0, .int .u32 0, .int .u32 0] 28) = w7 from HW7.out]
  clear HW7
  refine HC.out.mono ?_
  rintro ev w8 ⟨v8, u8, rfl, hp8, hq8, _, b8⟩
  replace HB := Lib.hid (HB.out.trans (b8.mono HB.out.size))
  replace HZ := Lib.hid (HZ.out.step b8)
  replace HLW := Lib.hid (Nat.le_trans HLW.out b8.size)
  obtain ⟨a8, c8, rfl, ht8⟩ := hp8.pts
  obtain ⟨e8, f8, rfl, hu8⟩ := hq8.pts
  have HO := Lib.hid ht8
  have HY := Lib.hid hu8
  clear b8 hp8 hq8 ht8 hu8 HC HA
  go_wp2_with fail
  refine (stNew_any w8).mono ?_
  rintro ev w9 ⟨y9, rfl, st9, _, b9⟩
  replace HB := Lib.hid (HB.out.trans (b9.mono HB.out.size))
  replace HZ := Lib.hid (HZ.out.step b9)
  replace HO := Lib.hid (HO.out.step b9)
  replace HY := Lib.hid (HY.out.step b9)
  replace HLW := Lib.hid (Nat.le_trans HLW.out b9.size)
  have HS9 := Lib.hid st9
  clear b9 st9
  have hc := ddLay_any 0 y9 newS 1 none 0 0 [] w9 HS9.out (by omega) (pts_nil _ _) HZ.out (Nat.zero_le _)
  rw [nil_laid] at hc
  have HC := Lib.hid hc
  clear hc
  obtain ⟨S, hS⟩ : ∃ X, newS = X := ⟨_, rfl⟩
  have HSE := Lib.hid hS
  rw [hS] at HC HS9
  rw [hS]
  clear hS
  go_wp2_with fail
  refine (HC.out).mono ?_
  rintro ev w10 ⟨y10, u10, rfl, st10, _, hu10, b10⟩
  replace HB := Lib.hid (HB.out.trans (b10.mono HB.out.size))
  replace HS9 := Lib.hid (HS9.out.bel b10)
  replace HZ := Lib.hid (HZ.out.step b10)
  replace HO := Lib.hid (HO.out.step b10)
  replace HY := Lib.hid (HY.out.step b10)
  replace HLW := Lib.hid (Nat.le_trans HLW.out b10.size)
  obtain ⟨ua, uc, rfl⟩ := nrow_slice (s := []) hu10
  have HS10 := Lib.hid st10
  clear b10 st10 hu10 HC HS9
  have HO0 := HO
  have HY0 := HY
  obtain ⟨x4, hx4, b4, z4, q8, q9⟩ := two_al w10 stZ ptZ 38 28
  obtain ⟨gQA, hg8⟩ : ∃ k, w10.heap.size = k := ⟨_, rfl⟩
  obtain ⟨gQB, hg9⟩ : ∃ k, gQA + 1 = k := ⟨_, rfl⟩
  rw [hg8] at q8 q9 b4
  rw [hg9] at q9
  have b4' : Below w10.heap.size w10 x4 := hg8 ▸ b4
  have hgw : w.heap.size ≤ gQA := by rw [← hg8]; exact HB.out.size
  have HGE := Lib.hid (show gQA < x4.heap.size ∧ w10.heap.size = gQA from ⟨q8.lt, hg8⟩)
  replace HB := Lib.hid (HB.out.trans (b4'.mono HB.out.size))
  replace HS10 := Lib.hid (HS10.out.bel b4')
  replace HZ := Lib.hid (HZ.out.step b4')
  replace HO := Lib.hid (HO.out.step b4')
  replace HY := Lib.hid (HY.out.step b4')
  replace HLW := Lib.hid (Nat.le_trans HLW.out b4'.size)
  have z0 := stZ0 q8
  have z1 := stZ1 q8
  have z2 := stZ2 q8
  have z3 := stZ3 q8
  have z4_ := stZ4 q8
  have zf := fun i => q8.frozen i
  obtain ⟨xa, ka, ba⟩ := box_five (L := 0) q8 (by decide) (Nat.zero_le _) HB.out hgw (.slice y10.d.ba S.1.1.length y10.d.bc) (.slice y10.d.wa S.1.2.length y10.d.wc) (.slice y10.a S.2.1.length y10.c) (.int .u32 (S.2.2.1 : Int)) (.int .u32 (S.2.2.2 : Int))
  have y9_ := far5_bl q9 (show gQB ≠ gQA by omega) (.slice y10.d.ba S.1.1.length y10.d.bc) (.slice y10.d.wa S.1.2.length y10.d.wc) (.slice y10.a S.2.1.length y10.c) (.int .u32 (S.2.2.1 : Int)) (.int .u32 (S.2.2.2 : Int))
  have la := below_set5 (Below.refl gQA x4) (Nat.le_refl gQA) (.slice y10.d.ba S.1.1.length y10.d.bc) (.slice y10.d.wa S.1.2.length y10.d.wc) (.slice y10.a S.2.1.length y10.c) (.int .u32 (S.2.2.1 : Int)) (.int .u32 (S.2.2.2 : Int))
  obtain ⟨x5, dn⟩ : ∃ X, set5 x4 gQA (.slice y10.d.ba S.1.1.length y10.d.bc) (.slice y10.d.wa S.1.2.length y10.d.wc) (.slice y10.a S.2.1.length y10.c) (.int .u32 (S.2.2.1 : Int)) (.int .u32 (S.2.2.2 : Int)) = X := ⟨_, rfl⟩
  rw [dn] at xa ka ba y9_ la
  simp only [set5] at dn
  have p0_ := ptZ0 y9_
  have p1_ := ptZ1 y9_
  have p2_ := ptZ2 y9_
  have p3_ := ptZ3 y9_
  have p4_ := ptZ4 y9_
  have pf := fun i => y9_.frozen i
  obtain ⟨xc, kc, bc⟩ := box_five (L := 0) y9_ (by decide) (Nat.zero_le _) ba (show w.heap.size ≤ gQB by omega) (.int .i64 0) (.int .u32 0) (.int .u32 0) (.int .u32 0) (.int .u32 0)
  have v8_ := far5_bl xa (show gQA ≠ gQB by omega) (.int .i64 0) (.int .u32 0) (.int .u32 0) (.int .u32 0) (.int .u32 0)
  have lc := below_set5 la (show gQA ≤ gQB by omega) (.int .i64 0) (.int .u32 0) (.int .u32 0) (.int .u32 0) (.int .u32 0)
  obtain ⟨w11, pn⟩ : ∃ X, set5 x5 gQB (.int .i64 0) (.int .u32 0) (.int .u32 0) (.int .u32 0) (.int .u32 0) = X := ⟨_, rfl⟩
  rw [pn] at xc kc bc v8_ lc
  simp only [set5] at pn
  replace HB := Lib.hid bc
  replace HZ := Lib.hid (HZ0.out.step HB.out)
  have HAB := Lib.hid (show Below w10.heap.size w10 w11 by rw [hg8]; exact b4.trans lc)
  replace HO := Lib.hid (HO0.out.step HAB.out)
  replace HY := Lib.hid (HY0.out.step HAB.out)
  replace HS10 := Lib.hid (HS10.out.step (ka.trans kc))
  replace HLW := Lib.hid (Nat.zero_le w11.heap.size)
  have HQA := Lib.hid v8_
  have HQB := Lib.hid xc
  simp only [stZ, ptZ] at hx4
  clear b4 b4' z4 q8 q9 xa ka ba y9_ la xc kc bc v8_ lc
  clear HO0 HY0 HAB HS10
  have HL0 := Lib.hid (prow_nil w11 w11.heap.size)
  go_wp2_with fail
  clear z0 z1 z2 z3 z4_ zf dn p0_ p1_ p2_ p3_ p4_ pf pn hx4 hg8 hg9
  go_loopw [10, 11] (fun v i wr => ∃ j : Nat, j ≤ 17 ∧ i = .int .i64 j ∧ PRow wr w11.heap.size v (l17.take j) ∧ Below w11.heap.size w11 wr) (fun _ i _ => 17 - (intOf i).toNat)
  case atStart => exact ⟨0, Nat.zero_le _, rfl, HL0.out, Below.refl _ _⟩
  case round =>
    obtain ⟨j, hj, rfl, hpr, hb⟩ := hrel
    have j0 : (0 : Int) ≤ j := by omega
    by_cases hlt : j < 17
    · have j1 : (j : Int) < 17 := by omega
      have hlen : (l17.take j).length = j := by rw [List.length_take]; show min j 17 = j; omega
      have HPR := Lib.hid hpr
      have HBR := Lib.hid hb
      have HLN := Lib.hid hlen
      clear hpr hb hlen
      go_wp2_with fail
      refine (dlAt_any (40 + (j : Int)) 1 wr).mono ?_
      rintro ev wa ⟨rfl, ba⟩
      have hone := one_pts wa (40 + (j : Int), 1, 0, 0, 0) (nm_wf _ 1 (by omega) (by omega))
      have hal := (Below.refl wa.heap.size wa).alloc (Nat.le_refl _) (.cells (ptC (40 + (j : Int), 1, 0, 0, 0)).toArray 28)
      have HPA := Lib.hid ((HPR.out.below ba).below hal)
      have HBA := Lib.hid ((HBR.out.trans (ba.mono HBR.out.size)).trans (hal.mono (Nat.le_trans HBR.out.size ba.size)))
      have HON := Lib.hid hone
      clear ba hone hal HPR HBR
      go_wp2_with (
        at_builtin
        refine wpList_append_prow rfl (.tmp 42) (.tmp 46) rfl w11.heap.size _ (l17.take j) rfl HPA.out _ (some ⟨wa.heap.size, 0, none⟩) 1 1 [(40 + (j : Int), 1, 0, 0, 0)] rfl HON.out (by rw [HLN.out]; omega) HBA.out.size ?_
        intro vn wn hpn hgn
        have HPN := Lib.hid hpn
        have HBN := Lib.hid (below_prow HBA.out HPA.out hgn (Nat.le_refl _) HBA.out.size)
        clear hpn hgn)
      go_roundw
      case rel =>
        have hpn := HPN.out
        rw [l17_at j hlt] at hpn
        exact ⟨j + 1, by omega, by go_num, hpn, HBN.out⟩
      case measure => simp [intOf]; omega
    · obtain rfl : j = 17 := by omega
      rw [show l17.take 17 = l17 from rfl] at hpr
      obtain ⟨al, cl, rfl, htl⟩ := hpr.pts
      rw [show l17.length = 17 from rfl] at htl ⊢
      replace HB := Lib.hid (HB.out.trans (hb.mono HB.out.size))
      replace HQA := Lib.hid (HQA.out.below hb HQA.out.lt)
      replace HQB := Lib.hid (HQB.out.below hb HQB.out.lt)
      replace HZ := Lib.hid (HZ.out.step hb)
      replace HO := Lib.hid (HO.out.step hb)
      replace HY := Lib.hid (HY.out.step hb)
      replace HLW := Lib.hid (Nat.le_trans HLW.out hb.size)
      have HTL := Lib.hid htl
      have hnw := stNew_any wr
      rw [HSE.out] at hnw
      have HNW := Lib.hid hnw
      clear hpr htl hb hlt hnw hj
      go_wp2_with fail
      refine HNW.out.mono ?_
      rintro ev w12 ⟨y12, rfl, st12, _, b12⟩
      replace HB := Lib.hid (HB.out.trans (b12.mono HB.out.size))
      replace HQA := Lib.hid (HQA.out.below b12 HQA.out.lt)
      replace HQB := Lib.hid (HQB.out.below b12 HQB.out.lt)
      replace HZ := Lib.hid (HZ.out.step b12)
      replace HO := Lib.hid (HO.out.step b12)
      replace HY := Lib.hid (HY.out.step b12)
      replace HTL := Lib.hid (HTL.out.step b12)
      replace HLW := Lib.hid (Nat.le_trans HLW.out b12.size)
      have HS12 := Lib.hid st12
      have hc := ddLay_any 0 y12 S 1 al 17 cl l17 w12 HS12.out (by omega) HTL.out HZ.out (Nat.zero_le _)
      obtain ⟨T, z, hT⟩ := l17_laid
      rw [HSE.out] at hT
      rw [hT] at hc
      have HC := Lib.hid hc
      clear b12 st12 hc hT HNW
      go_wp2_with fail
      refine HC.out.mono ?_
      rintro ev w13 ⟨y13, u13, rfl, st13, _, hu13, b13⟩
      simp only at st13 hu13
      replace HB := Lib.hid (HB.out.trans (b13.mono HB.out.size))
      replace HQA := Lib.hid (HQA.out.below b13 HQA.out.lt)
      replace HQB := Lib.hid (HQB.out.below b13 HQB.out.lt)
      replace HZ := Lib.hid (HZ.out.step b13)
      replace HO := Lib.hid (HO.out.step b13)
      replace HY := Lib.hid (HY.out.step b13)
      replace HLW := Lib.hid (Nat.le_trans HLW.out b13.size)
      obtain ⟨ug, uc2, rfl, _, _, _⟩ := nsl_of_own hu13 (by decide)
      have HU := Lib.hid hu13
      have HS13 := Lib.hid st13
      clear b13 st13 hu13 HC HS12 HTL
      have HO0 := HO
      have HY0 := HY
      have HQA0 := HQA
      have HQB0 := HQB
      have HU0 := HU
      obtain ⟨x4, hx4, b4, z4, q8, q9⟩ := two_al w13 stZ ptZ 38 28
      obtain ⟨gQC, hg8⟩ : ∃ k, w13.heap.size = k := ⟨_, rfl⟩
      obtain ⟨gQD, hg9⟩ : ∃ k, gQC + 1 = k := ⟨_, rfl⟩
      rw [hg8] at q8 q9 b4
      rw [hg9] at q9
      have b4' : Below w13.heap.size w13 x4 := hg8 ▸ b4
      have hgw : w.heap.size ≤ gQC := by rw [← hg8]; exact HB.out.size
      have HGE := Lib.hid (show gQC < x4.heap.size ∧ w13.heap.size = gQC from ⟨q8.lt, hg8⟩)
      replace HB := Lib.hid (HB.out.trans (b4'.mono HB.out.size))
      replace HQA := Lib.hid (HQA.out.below b4' HQA.out.lt)
      replace HQB := Lib.hid (HQB.out.below b4' HQB.out.lt)
      replace HZ := Lib.hid (HZ.out.step b4')
      replace HO := Lib.hid (HO.out.step b4')
      replace HY := Lib.hid (HY.out.step b4')
      replace HLW := Lib.hid (Nat.le_trans HLW.out b4'.size)
      have z0 := stZ0 q8
      have z1 := stZ1 q8
      have z2 := stZ2 q8
      have z3 := stZ3 q8
      have z4_ := stZ4 q8
      have zf := fun i => q8.frozen i
      obtain ⟨xa, ka, ba⟩ := box_five (L := 0) q8 (by decide) (Nat.zero_le _) HB.out hgw (.slice y13.d.ba T.1.1.length y13.d.bc) (.slice y13.d.wa T.1.2.length y13.d.wc) (.slice y13.a T.2.1.length y13.c) (.int .u32 (T.2.2.1 : Int)) (.int .u32 (T.2.2.2 : Int))
      have y9_ := far5_bl q9 (show gQD ≠ gQC by omega) (.slice y13.d.ba T.1.1.length y13.d.bc) (.slice y13.d.wa T.1.2.length y13.d.wc) (.slice y13.a T.2.1.length y13.c) (.int .u32 (T.2.2.1 : Int)) (.int .u32 (T.2.2.2 : Int))
      have la := below_set5 (Below.refl gQC x4) (Nat.le_refl gQC) (.slice y13.d.ba T.1.1.length y13.d.bc) (.slice y13.d.wa T.1.2.length y13.d.wc) (.slice y13.a T.2.1.length y13.c) (.int .u32 (T.2.2.1 : Int)) (.int .u32 (T.2.2.2 : Int))
      obtain ⟨x5, dn⟩ : ∃ X, set5 x4 gQC (.slice y13.d.ba T.1.1.length y13.d.bc) (.slice y13.d.wa T.1.2.length y13.d.wc) (.slice y13.a T.2.1.length y13.c) (.int .u32 (T.2.2.1 : Int)) (.int .u32 (T.2.2.2 : Int)) = X := ⟨_, rfl⟩
      rw [dn] at xa ka ba y9_ la
      simp only [set5] at dn
      have p0_ := ptZ0 y9_
      have p1_ := ptZ1 y9_
      have p2_ := ptZ2 y9_
      have p3_ := ptZ3 y9_
      have p4_ := ptZ4 y9_
      have pf := fun i => y9_.frozen i
      obtain ⟨xc, kc, bc⟩ := box_five (L := 0) y9_ (by decide) (Nat.zero_le _) ba (show w.heap.size ≤ gQD by omega) (.int .i64 14) (.int .u32 1) (.int .u32 0) (.int .u32 0) (.int .u32 (z : Int))
      have v8_ := far5_bl xa (show gQC ≠ gQD by omega) (.int .i64 14) (.int .u32 1) (.int .u32 0) (.int .u32 0) (.int .u32 (z : Int))
      have lc := below_set5 la (show gQC ≤ gQD by omega) (.int .i64 14) (.int .u32 1) (.int .u32 0) (.int .u32 0) (.int .u32 (z : Int))
      obtain ⟨w14, pn⟩ : ∃ X, set5 x5 gQD (.int .i64 14) (.int .u32 1) (.int .u32 0) (.int .u32 0) (.int .u32 (z : Int)) = X := ⟨_, rfl⟩
      rw [pn] at xc kc bc v8_ lc
      simp only [set5] at pn
      replace HB := Lib.hid bc
      replace HZ := Lib.hid (HZ0.out.step HB.out)
      have HAB := Lib.hid (show Below w13.heap.size w13 w14 by rw [hg8]; exact b4.trans lc)
      replace HO := Lib.hid (HO0.out.step HAB.out)
      replace HY := Lib.hid (HY0.out.step HAB.out)
      replace HQA := Lib.hid (HQA0.out.below HAB.out HQA0.out.lt)
      replace HQB := Lib.hid (HQB0.out.below HAB.out HQB0.out.lt)
      replace HU := Lib.hid (own_below HU0.out HAB.out)
      replace HLW := Lib.hid (Nat.zero_le w14.heap.size)
      have HQC := Lib.hid v8_
      have HQD := Lib.hid xc
      simp only [stZ, ptZ] at hx4
      clear b4 b4' z4 q8 q9 xa ka ba y9_ la xc kc bc v8_ lc
      clear HO0 HY0 HQA0 HQB0 HU0 HAB HS13
      go_wp2_with fail
      clear z0 z1 z2 z3 z4_ zf dn p0_ p1_ p2_ p3_ p4_ pf pn hx4 hg8 hg9
      refine (ddAlive_any w14).mono ?_
      rintro ev w15 ⟨rfl, b15⟩
      replace HB := Lib.hid (HB.out.trans (b15.mono HB.out.size))
      replace HQA := Lib.hid (HQA.out.below b15 HQA.out.lt)
      replace HQB := Lib.hid (HQB.out.below b15 HQB.out.lt)
      replace HQC := Lib.hid (HQC.out.below b15 HQC.out.lt)
      replace HQD := Lib.hid (HQD.out.below b15 HQD.out.lt)
      replace HU := Lib.hid (own_below HU.out b15)
      replace HZ := Lib.hid (HZ.out.step b15)
      replace HO := Lib.hid (HO.out.step b15)
      replace HY := Lib.hid (HY.out.step b15)
      replace HLW := Lib.hid (Nat.le_trans HLW.out b15.size)
      clear b15
      obtain ⟨bo, oo, ea, _, _, o0_, _, _, _, _⟩ := HO.out.cells 0 (by decide)
      subst ea
      obtain ⟨by_, oy, ea, _, _, y0_, _, _, _, _⟩ := HY.out.cells 0 (by decide)
      subst ea
      obtain ⟨_, _, eu, _, _, hnu⟩ := nsl_of_own HU.out (by decide)
      injection eu with eu1 _ _
      injection eu1 with eu1
      injection eu1 with eu1 _ _
      subst eu1
      obtain ⟨_, _, eu3, _, cu⟩ := hnu.2.2.2.2 (by decide)
      cases eu3
      have c0_ := cu 0 (by decide)
      have c1_ := cu 1 (by decide)
      have c2_ := cu 2 (by decide)
      have f0 : w15.cell? ⟨bo, oo, none⟩ = some (.int .i64 20) := o0_
      have f1 : w15.cell? ⟨by_, oy, none⟩ = some (.int .i64 30) := y0_
      have f2 : w15.cell? ⟨ug, 0, none⟩ = some (.int .i64 12) := c0_
      have f3 : w15.cell? ⟨ug, 1, none⟩ = some (.int .i64 13) := c1_
      have f4 : w15.cell? ⟨ug, 2, none⟩ = some (.int .i64 14) := c2_
      have i0 := bx0 HQB.out
      have i1 := bx1 HQB.out
      have i2 := bx2 HQB.out
      have i3 := bx3 HQB.out
      have i4 := bx4 HQB.out
      have j0 := bx0 HQD.out
      have hlit := eqPt_zero 0 0 0 0 0
      rw [show eqP (0, 0, 0, 0, 0) p0 = true from by decide] at hlit
      clear cu c0_ c1_ c2_ o0_ y0_ hnu
      go_wp2_with fail
      have xl := Blk.new w15 28 (ptCs [p0]).toArray
      have bl := (Below.refl w15.heap.size w15).alloc (Nat.le_refl _) (.cells (ptCs [p0]).toArray 28)
      refine (ddCheck_any (some ⟨w15.heap.size, 0, none⟩) 1 1 [p0] (w15.alloc (.cells (ptCs [p0]).toArray 28)) (lit_pts xl (fun p hp => by
        rw [List.mem_singleton.1 hp]; exact wf_p0) (by decide))).mono ?_
      rintro ev w17 ⟨rfl, b17⟩
      rw [nm_check]
      have HBF := Lib.hid ((HB.out.trans (bl.mono HB.out.size)).trans (b17.mono (Nat.le_trans HB.out.size bl.size)))
      clear xl bl b17
      go_wp2_with fail
      go_ret
      exact ⟨rfl, HBF.out⟩
end Go.Proofs.YtadffkfalclpjaaGreatDoor
namespace Go.Proofs.YtadffkfalclpjaaGreatDoor.deadNames
open Go.ChangeShapes Go.WideShapes Go.ChangeAt Go.RowKit
set_option linter.unusedVariables false

theorem own : ownKnob Tryz.prog.godebug = none := by kernel_rfl
theorem laidOut : laidOutB Tryz.prog = true := by kernel_rfl

set_option maxRecDepth 100000 in
theorem lifted (os : Os) (started : os.Started) (H : Type) (enc : TypeId × Value → H) :
    ReturnsInHanded {} Tryz.checked os 3 .any (fun w args => (Rows.deadNamesSpec.pre enc Tryz.prog Tryz.f3 [] false w args ∧ laidMetH Tryz.prog [("charterhouse/ptr.sizes", Rows.laid_charterhouse_ptr_sizes)] w) ∧ sizedMet enc Tryz.prog Tryz.f3 (OpenSpec.ofChange Rows.deadNamesSpec) false w args)
      (Rows.deadNamesSpec.post enc Tryz.prog Tryz.f3 false true false false) := by
  refine returnsInHanded_of_change_and (C := Tryz.checked) (X := fun w _ => laidMetH Tryz.prog [("charterhouse/ptr.sizes", Rows.laid_charterhouse_ptr_sizes)] w) (fun _ _ _ hh h => h.of_heap hh) own started (by kernel_rfl) Tryz.func3
    (ChangeSpec.witness_shaped (enc := enc) (C := Tryz.checked) (os := os) (X := fun w _ => laidMetH Tryz.prog [("charterhouse/ptr.sizes", Rows.laid_charterhouse_ptr_sizes)] w) false (World.doorLaid Tryz.prog 400 os) #[] 8 rfl (World.shaped_of_RefB (by kernel_rfl) (by kernel_rfl)) (by kernel_rfl) (by kernel_rfl) (by kernel_rfl) (door_met os _)) ?_
  intro W base args ds gs before hval0 hW _ _ hL _
  have hval : ∀ (j : Nat) t v, Tryz.f3.params[j]? = some t → args[j]? = some v → Value.okWide Tryz.prog W .any base t v := hval0
  have hW' := hW
  obtain ⟨p, q, hA0, hV, rfl, hfz, hnd⟩ := hW
  have hA : DataW.TrodAll enc Tryz.prog W 0 (fun _ => true) true Tryz.f3.params.toList args.toList ds p := hA0
  rw [Tryz.params3] at hA hval
  obtain ⟨rfl, rfl, rfl⟩ := trodAll_none hA
  obtain ⟨rfl, rfl⟩ := trodVars_none hV
  clear hA0 hval0
  refine (deadNames_walk  W (szs_of_laid hL)).mono fun e W' ⟨he, bel⟩ => ?_
  subst he
  exact ⟨_, rfl, _, _, _, [], _, [], hW', trodAll_mk1 (shut_bool Tryz.underlying4 _), rfl, rfl, bel.frame _, fun h => by cases h⟩

theorem over : Rows.DeadNamesSaid :=
  OpenClaim.holds_of_wide 3 Tryz.f3 rfl rfl rfl rfl rfl rfl rfl ⟨rfl, rfl, rfl, rfl, rfl⟩ rfl rfl rfl rfl rfl (by kernel_rfl) Tryz.func3 (by kernel_rfl)
    (of_decide_eq_true (by kernel_rfl)) (by unfold Func.isWrapper; first | (rw [if_pos (by decide +kernel)]; kernel_rfl) | (rw [if_neg (by decide +kernel)]; exact ⟨rfl, rfl⟩))
    (fun os started H enc _ => lifted os started H enc)

/-- The statement. -/
theorem proved : Rows.DeadNamesCardSaid :=
  Claim7.holds_tied_plain_at .later [] [.data] true _ true
    over (fun _ h => by cases h) (by kernel_rfl) (fun _ h => by cases h) deadNames_row_tie rfl ⟨rfl, rfl⟩ (by kernel_rfl) rfl
    (fun f fn hf hfn => by
      obtain rfl : f = 3 := Option.some.inj ((show Tryz.prog.funcNamed "charterhouse/charterhouselaw16.DeadNames" = some 3 by kernel_rfl).symm.trans hf) |>.symm
      obtain rfl : fn = Tryz.f3 := (Option.some.inj (Tryz.func3.symm.trans hfn)).symm
      exact ⟨by kernel_rfl, fun j t ht => by
        rw [Tryz.params3] at ht
        simp at ht⟩)
    (by kernel_rfl)
end Go.Proofs.YtadffkfalclpjaaGreatDoor.deadNames
