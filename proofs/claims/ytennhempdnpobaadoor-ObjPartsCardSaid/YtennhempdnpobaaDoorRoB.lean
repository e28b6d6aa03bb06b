/-
  The document's own Block and Write of layer 14.
-/
import Derived.Test.YtennhempdnpobaaDoorRoA
import Derived.Test.YtennhempdnpobaaDoorRpC
import Derived.Test.YtennhempdnpobaaDoorAppZ
namespace Go.Proofs.YtennhempdnpobaaDoor
open Go.RowKit Go.Shelf
set_option maxRecDepth 100000

theorem own_fresh (w : World) (s : List UInt8) (hs : s.length ≤ 1000) : (w.alloc (.cells (ar s) 5)).ownsRow w.heap.size 5 1 (.slice (some ⟨w.heap.size, 0, none⟩) s.length s.length) s.length (vals s) := by
  exact ⟨by simp [vals], .inr ⟨w.heap.size, s.length, _, rfl, Nat.le_refl _, heap_alloc_new w _, Nat.le_refl _, by unfold maxLen; omega, by simp [ar, vals], by simp [ar, vals, List.take_of_length_le]⟩⟩
theorem head_cells (k l s : Nat) (hk : k < 256) (hl : l < 256) (hs : s ≤ 3840) (L : List Pt) : ar (headB (k, (l : Int), (s : Int), L)) = #[.int .u8 (k : Int), .int .u8 (l : Int), .int .u8 ((s : Int) % 256), .int .u8 ((s : Int) / 256)] := by
  unfold ar vals headB
  simp only [Int.toNat_natCast, List.map_cons, List.map_nil]
  rw [u8_of _ hk, u8_of _ hl, u8_of _ (by omega), u8_of _ (by omega)]
  simp only [Int.natCast_emod, Int.natCast_ediv]
  rfl
set_option maxHeartbeats 4000000 in
theorem roBlock_any (a : Option Addr) (c : Nat) (O : ObL) (w : World) (h : Pts w w.heap.size a O.2.2.2.length c O.2.2.2) (hm : MayOb O) : Calls Tryd.prog 29 #[obV a c O] w (OwnV 256 (blockOb O) w) := by
  have hwfa : ∀ p ∈ O.2.2.2, WfP p := fun p hp => h.wf hp
  obtain ⟨k, l, s, Lp⟩ := O
  obtain ⟨⟨hk, hl, hs, hn⟩, hall⟩ := hm
  simp only at hk hl hs hn hall h hwfa
  obtain ⟨l, rfl⟩ : ∃ n : Nat, l = (n : Int) := ⟨l.toNat, by omega⟩
  obtain ⟨s, rfl⟩ : ∃ n : Nat, s = (n : Int) := ⟨s.toNat, by omega⟩
  have hce := head_cells k l s (by omega) (by omega) (by omega) Lp
  have hbl : blockOb (k, (l : Int), (s : Int), Lp) = headB (k, (l : Int), (s : Int), Lp) ++ List.replicate 12 0 ++ dataTo Lp 15 := rfl
  obtain ⟨H, hH⟩ : ∃ H, headB (k, (l : Int), (s : Int), Lp) = H := ⟨_, rfl⟩
  have hHl : H.length = 4 := by rw [← hH]; rfl
  rw [hH] at hce hbl
  rw [hbl]
  simp only [obV]
  rw [hn] at h ⊢
  have xb := Blk.new w 24 #[.int .u8 (k : Int), .int .i64 (l : Int), .int .i64 (s : Int), .slice a 15 c]
  have b0 := (Below.refl w.heap.size w).alloc (Nat.le_refl _) (.cells #[.int .u8 (k : Int), .int .i64 (l : Int), .int .i64 (s : Int), .slice a 15 c] 24)
  obtain ⟨w0, hw0⟩ : ∃ w0, w.alloc (.cells #[.int .u8 (k : Int), .int .i64 (l : Int), .int .i64 (s : Int), .slice a 15 c] 24) = w0 := ⟨_, rfl⟩
  rw [hw0] at xb b0
  have c0 := ox0 xb
  have c1 := ox1 xb
  have c2 := ox2 xb
  have c3 := ox3 xb
  have l0 : (0 : Int) ≤ l := by omega
  have l1 : (l : Int) < 256 := by omega
  have s0 : (0 : Int) ≤ s := by omega
  have s1 : (s : Int) ≤ 3840 := by omega
  have HX := Lib.hid xb
  have HB := Lib.hid b0
  have HP := Lib.hid (h.step b0)
  have HAL := Lib.hid hall
  have HWF := Lib.hid hwfa
  have HN := Lib.hid hn
  have ho1 := own_fresh w0 H (by omega)
  rw [hce, hHl] at ho1
  have HO1 := Lib.hid ho1
  have hb1 := (Below.refl w0.heap.size w0).alloc (Nat.le_refl _) (.cells #[.int .u8 (k : Int), .int .u8 (l : Int), .int .u8 ((s : Int) % 256), .int .u8 ((s : Int) / 256)] 5)
  have HB1 := Lib.hid hb1
  have HHL := Lib.hid hHl
  clear h hk hl hs hn hall hwfa hce hbl hH hHl xb b0 ho1 hb1
  go_enter Tryd.func29, Tryd.ntmps29
  go_wp2_with (at_builtin
               obtain ⟨vB, wB, hB1, oB, gB⟩ := run_app_noughts w0.heap.size 28 _ 4 H HO1.out 12 (by omega) (by omega) (by omega) HB1.out.size
               refine Lib.wpList_append_run _ rfl (.tmp 19) (.const (.int .i64 12)) 28 3 rfl (.slice (some ⟨w0.heap.size, 0, none⟩) 4 4) (.int .i64 12) rfl rfl vB wB hB1 ?_
               have HBB := Lib.hid (app_below HB1.out HO1.out gB HB1.out.size)
               have HOB := Lib.hid oB
               clear oB gB hB1)
  clear c0 c1 c2 c3 l0 l1 s0 s1 hw0
  go_loopw [3, 4] (fun v i wr => ∃ j : Nat, j ≤ 15 ∧ i = .int .i64 j ∧ wr.ownsRow w0.heap.size 5 1 v (16 + 16 * j) (vals (H ++ List.replicate 12 0 ++ dataTo Lp j)) ∧ Below w0.heap.size w0 wr) (fun _ i _ => 15 - (intOf i).toNat)
  case atStart => exact ⟨0, Nat.zero_le _, rfl, by have := HOB.out; simpa [dataTo] using this, HBB.out⟩
  case round =>
    obtain ⟨j, hj, rfl, ho, hb⟩ := hrel
    have j0 : (0 : Int) ≤ j := by omega
    have HO := Lib.hid ho
    have HBR := Lib.hid hb
    have c3 := ox3 (HX.out.below hb HX.out.lt)
    clear ho hb
    obtain ⟨v, hv⟩ : ∃ v : Value, u3 = v := ⟨_, rfl⟩
    rw [hv] at HO ⊢
    clear hv
    by_cases hlt : j < 15
    · have j1 : (j : Int) < 15 := by omega
      obtain ⟨bp, op_, ea, hblt, hwf, p0_, p1_, p2_, p3_, p4_⟩ := (HP.out.below HBR.out).cells j hlt
      have hst := dataTo_step Lp j
      have hmP : MayP (Lp.getD j p0) := by
        have hi : j < Lp.length := by rw [HN.out]; exact hlt
        rw [List.getD_eq_getElem?_getD, List.getElem?_eq_getElem hi]
        exact HAL.out _ (List.getElem_mem hi)
      obtain ⟨P, hP⟩ : ∃ P, Lp.getD j p0 = P := ⟨_, rfl⟩
      rw [hP] at hwf p0_ p1_ p2_ p3_ p4_ hst hmP
      rw [ea] at c3
      have HBY := Lib.hid (rpBytes_any P hwf hmP.room wr)
      have HST := Lib.hid hst
      clear ea hst hmP hP hblt hwf
      obtain ⟨a', b', c', d', e'⟩ := P
      go_wp2_with fail
      clear c3 p0_ p1_ p2_ p3_ p4_
      refine HBY.out.mono ?_
      rintro ev w1 ⟨x1, rfl, o1, b1⟩
      obtain ⟨A1, C1, rfl, s1⟩ := own_to o1
      have HBA := Lib.hid (HBR.out.trans (b1.mono HBR.out.size))
      have HOA := Lib.hid (own_below HO.out b1)
      have HS1 := Lib.hid s1
      clear o1 b1 s1
      go_wp2_with (at_builtin
                   refine wpList_append_bsl rfl (.tmp 25) (.tmp 31) rfl w0.heap.size v (16 + 16 * j) _ rfl HOA.out w1.heap.size A1 16 C1 _ rfl HS1.out (by omega) HBA.out.size ?_
                   intro v2 w2 h2 hg2
                   rw [List.append_assoc _ (dataTo Lp j), ← HST.out] at h2
                   have HO2 := Lib.hid h2
                   have HB2 := Lib.hid (app_below HBA.out HOA.out hg2 HBA.out.size)
                   clear h2 hg2)
      go_roundw
      case rel => exact ⟨j + 1, by omega, by go_num, by rw [Nat.mul_add, Nat.mul_one, ← Nat.add_assoc]; exact HO2.out, HB2.out⟩
      case measure => simp [intOf]; omega
    · obtain rfl : j = 15 := by omega
      go_wp2_with fail
      go_ret
      exact ⟨_, rfl, own_mono HO.out HB.out.size, HB.out.trans (HBR.out.mono HB.out.size)⟩
theorem roWrite_any (a : Option Addr) (c : Nat) (O : ObL) (w : World) (h : Pts w w.heap.size a O.2.2.2.length c O.2.2.2) (hw : WfOb O) : Calls Tryd.prog 13 #[obV a c O] w (OutB (owriteO O).1 (owriteO O).2 w) := by
  have xb := Blk.new w 24 (obC a c O)
  have b0 := (Below.refl w.heap.size w).alloc (Nat.le_refl _) (.cells (obC a c O) 24)
  obtain ⟨w0, hw0⟩ : ∃ w0, w.alloc (.cells (obC a c O) 24) = w0 := ⟨_, rfl⟩
  rw [hw0] at xb b0
  have c0 := ox0 xb
  have c1 := ox1 xb
  have c2 := ox2 xb
  have c3 := ox3 xb
  have HX := Lib.hid xb
  have HB := Lib.hid b0
  have HP := Lib.hid (h.step b0)
  simp only [obC] at hw0
  clear xb b0 h
  unfold owriteO
  by_cases hm : MayOb O
  · rw [if_pos hm]
    have HC := Lib.hid (roMay_any a c O w0 HP.out hw true ⟨fun _ => hm, fun _ => rfl⟩)
    have HM := Lib.hid hm
    clear hm
    go_enter Tryd.func13, Tryd.ntmps13
    go_wp2_with fail
    clear c0 c1 c2 c3 hw0
    refine HC.out.mono ?_
    rintro e w1 ⟨rfl, b1⟩
    have HB1 := Lib.hid (HB.out.trans (b1.mono HB.out.size))
    have hx := HX.out.below b1 HX.out.lt
    have c0 := ox0 hx
    have c1 := ox1 hx
    have c2 := ox2 hx
    have c3 := ox3 hx
    have HD := Lib.hid (roBlock_any a c O w1 (HP.out.step b1) HM.out)
    clear b1 hx
    go_wp2_with fail
    clear c0 c1 c2 c3
    refine HD.out.mono ?_
    rintro e w2 ⟨v, rfl, ho, b2⟩
    have HO := Lib.hid (own_mono ho HB1.out.size)
    have HB2 := Lib.hid (HB1.out.trans (b2.mono HB1.out.size))
    clear ho b2
    obtain ⟨av, cv, rfl⟩ := own_slice HO.out
    go_wp2_with fail
    go_ret2
    exact ⟨_, rfl, by rw [blockOb_length]; exact HO.out, HB2.out⟩
  · rw [if_neg hm]
    have HC := Lib.hid (roMay_any a c O w0 HP.out hw false ⟨fun h => (by cases h), fun h => absurd h hm⟩)
    clear hm
    go_enter Tryd.func13, Tryd.ntmps13
    go_wp2_with fail
    clear c0 c1 c2 c3 hw0
    refine HC.out.mono ?_
    rintro e w1 ⟨rfl, b1⟩
    have HB1 := Lib.hid (HB.out.trans (b1.mono HB.out.size))
    clear b1
    go_wp2_with fail
    go_ret2
    exact outB_no rfl HB1.out
end Go.Proofs.YtennhempdnpobaaDoor
