/-
  obj.Write, whatever object it is handed; nothing that was there is written.
-/
import Derived.Test.YtennhempdnpobaaDoorObHead
import Derived.Test.YtennhempdnpobaaDoorObConc
import Derived.Test.YtennhempdnpobaaDoorPtRow
namespace Go.Proofs.YtennhempdnpobaaDoor
open Go.RowKit Go.Shelf
set_option maxRecDepth 100000

section
variable {ops : Array Oper} {Q : Exit → Act → World → Prop} {a : Act} {w : World} {rest : List Oper} {o : Oper}
/-- copy(row, src) into a row of one's own, where src is not longer. -/
theorem wpList_copy_into (hgd : o.guard = none) (d s : Operand)
    (ho : o.op = .call { callee := .builtin .copy, args := #[d, s], argTypes := #[28, 28] })
    (base n : Nat) (v : Value) (t : List UInt8) (hd : a.eval d = v) (hr : w.ownsRow base 5 1 v n (vals t))
    (B : Nat) (A : Option Addr) (m c : Nat) (news : List UInt8) (hs : a.eval s = .slice A m c) (hb : Bsl w B A m c news) (hm : 0 < m) (hmn : m ≤ n)
    (h : ∀ w', w'.ownsRow base 5 1 v n (vals (ovrL t 0 news)) → w.grownBy w' v.ownBlock → w'.heap.size = w.heap.size → wpList Tryd.prog ops Q rest (a.put o.dst (.int .i64 m)) w') : wpList Tryd.prog ops Q (o :: rest) a w := by
  obtain ⟨h1, h2, h3, h4, h5⟩ := hb
  obtain ⟨b, of, rfl, _, hc⟩ := h5 hm
  have hl : (vals news).length = m := by simp [vals, h1]
  obtain ⟨hl0, ⟨rfl, h0⟩ | ⟨g, cap, cur, rfl, q1, q2, q3, q4, q5, q6⟩⟩ := hr
  · omega
  have hcl : cur.toList.length = cap := by rw [Array.length_toList, q5]; omega
  refine wpList_copy_own hgd d s 28 28 ho 5 Tryd.underlying28 infoB1 g 0 n cap ⟨b, of, none⟩ m c hd hs cur 5 q2 (vals news) (by rw [hl]; exact (Nat.min_eq_left hmn).symm) (fun j v hv => ?_) (by rw [hl]; omega) (fun v hv => ?_) ?_
  · obtain ⟨hj, rfl⟩ := vals_get hv
    have : (⟨b, of, none⟩ : Addr).add j = ⟨b, of + j, none⟩ := by unfold Addr.add; split <;> simp_all
    rw [this]
    exact hc j hj
  · obtain ⟨y, _, rfl⟩ := List.mem_map.1 hv
    rfl
  · have hx : (goInt (vals news).length) = .int .i64 m := by rw [hl]; rfl
    rw [hx]
    have ht : t.length = n := by simpa [vals] using hl0
    refine h _ ⟨?_, .inr ⟨g, cap, _, rfl, q1, Blk.setRow (t := 5) q2, q3, q4, ?_, ?_⟩⟩ ⟨rfl, rfl, rfl, by simp [World.setRow], fun i hi hne => setRow_other w g i _ (fun e => hne (by rw [e]; rfl))⟩ (by simp [World.setRow])
    · simp only [vals, List.length_map]
      rw [ovrL_length (by omega), ht, Nat.mul_one]
    · simp only [List.size_toArray, List.take_zero, List.nil_append, List.length_append, List.length_drop, hl, hcl]
      omega
    · rw [Nat.mul_one]
      show (cur.toList.take 0 ++ (vals news ++ cur.toList.drop (0 + (vals news).length))).take n = _
      rw [List.take_zero, List.nil_append, hl, Nat.zero_add, List.take_append, hl, List.take_of_length_le (by omega), List.take_drop, Nat.add_sub_cancel' hmn]
      rw [Nat.mul_one] at q6
      rw [q6]
      simp [ovrL, vals, h1]
end
theorem head_bytes (k l s : Nat) (Lp : List Pt) (hs : s < 65536) : hd16 k l s = headB (k, (l : Int), (s : Int), Lp) ++ List.replicate 12 0 := by
  have e0 : byteAt s 0 = UInt8.ofNat (s % 256) := UInt8.toNat_inj.1 (by rw [byteAt_toNat, u8_of _ (by omega)]; simp)
  have e1 : byteAt s 1 = UInt8.ofNat (s / 256) := UInt8.toNat_inj.1 (by rw [byteAt_toNat, u8_of _ (by omega)]; omega)
  show [UInt8.ofNat k, UInt8.ofNat l] ++ [byteAt s 0, byteAt s 1] ++ List.replicate 12 0 = _
  rw [e0, e1]
  rfl
theorem flat_data (Lp : List Pt) : Lp.flatMap bytesP = dataTo Lp Lp.length := by
  have e : Lp = (List.range Lp.length).map fun i => Lp.getD i p0 := by
    refine List.ext_getElem (by simp) fun i h1 h2 => ?_
    simp [List.getD_eq_getElem?_getD, h1]
  conv => lhs; rw [e]
  rw [List.flatMap_map]
  rfl
/-- What Write lays. -/
theorem block_row (k l s : Nat) (Lp : List Pt) (hs : s < 65536) (hn : Lp.length = 15) : ovrL (rowTo (p0 :: Lp) 16) 0 (hd16 k l s) = blockOb (k, (l : Int), (s : Int), Lp) := by
  have e : rowTo (p0 :: Lp) 16 = bytesP p0 ++ dataTo Lp 15 := by
    unfold rowTo
    rw [List.take_of_length_le (by simp [hn]), List.flatMap_cons, flat_data, hn]
    simp
  have hb := bytesP_length p0
  rw [e, ovrL, List.take_zero, List.nil_append, hd16_length, Nat.zero_add, List.drop_append, hb, List.drop_of_length_le (by rw [hb]; exact Nat.le_refl _), List.nil_append, Nat.sub_self, List.drop_zero, head_bytes k l s Lp hs]
  rfl
set_option maxHeartbeats 2000000 in
theorem obWrite_any (a : Option Addr) (c : Nat) (O : ObL) (w : World) (h : Pts w w.heap.size a O.2.2.2.length c O.2.2.2) (hw : WfOb O) (hz : Szs w) : Calls Tryd.prog 12 #[obV a c O] w (OutB (owriteO O).1 (owriteO O).2 w) := by
  have hwf : ∀ p ∈ O.2.2.2, WfP p := fun p hp => h.wf hp
  obtain ⟨k, l, s, Lp⟩ := O
  obtain ⟨n, hn⟩ : ∃ n, Lp.length = n := ⟨_, rfl⟩
  simp only at h hwf
  have HMY := Lib.hid (fun W (hW : Pts W W.heap.size a Lp.length c Lp) => obMay_any a c (k, l, s, Lp) W hW hw)
  simp only [obV] at HMY ⊢
  rw [hn] at h HMY ⊢
  have xb := Blk.new w 24 #[.int .u8 (k : Int), .int .i64 l, .int .i64 s, .slice a n c]
  have b0 := (Below.refl w.heap.size w).alloc (Nat.le_refl _) (.cells #[.int .u8 (k : Int), .int .i64 l, .int .i64 s, .slice a n c] 24)
  obtain ⟨w0, hw0⟩ : ∃ w0, w.alloc (.cells #[.int .u8 (k : Int), .int .i64 l, .int .i64 s, .slice a n c] 24) = w0 := ⟨_, rfl⟩
  rw [hw0] at xb b0
  have c0 := ox0 xb
  have c1 := ox1 xb
  have c2 := ox2 xb
  have c3 := ox3 xb
  have HB := Lib.hid b0
  have HP := Lib.hid (h.step b0)
  have HZ := Lib.hid (hz.step b0)
  have HX := Lib.hid xb
  have HN := Lib.hid hn
  clear xb b0 h hz hn
  by_cases hm : MayOb (k, l, s, Lp)
  · have HO := Lib.hid (show owriteO (k, l, s, Lp) = (blockOb (k, l, s, Lp), 0) by unfold owriteO; rw [if_pos hm])
    rw [HO.out]
    have HC := Lib.hid (HMY.out w0 HP.out true ⟨fun _ => hm, fun _ => rfl⟩)
    obtain ⟨⟨hk, hl, hs, hn⟩, hall⟩ := hm
    simp only at hk hl hs hn hall
    obtain ⟨l, rfl⟩ : ∃ n : Nat, l = (n : Int) := ⟨l.toNat, by omega⟩
    obtain ⟨s, rfl⟩ : ∃ n : Nat, s = (n : Int) := ⟨s.toNat, by omega⟩
    obtain rfl : n = 15 := by rw [← HN.out]; exact hn
    have HK := Lib.hid hk
    have HL := Lib.hid hl
    have HS := Lib.hid hs
    have HA := Lib.hid hall
    have HWF := Lib.hid hwf
    clear HMY hw HO hk hl hs hn hall hwf
    go_enter Tryd.func12, Tryd.ntmps12
    go_wp2_with fail
    clear c0 c1 c2 c3 hw0
    refine HC.out.mono ?_
    rintro e w1 ⟨rfl, b1⟩
    have HX1 := Lib.hid (HX.out.below b1 HX.out.lt)
    have HP1 := Lib.hid (HP.out.step b1)
    have HZ1 := Lib.hid (HZ.out.step b1)
    have HB1 := Lib.hid (HB.out.trans (b1.mono HB.out.size))
    have c3 : ∀ o, (w1.alloc o).cell? ⟨w.heap.size, 3, none⟩ = some (.slice a 15 c) := fun o => ox3 (HX1.out.alloc o)
    clear b1 HC HX HP HZ HB
    go_wp2_with fail
    have hbz : Below w1.heap.size w1 (w1.alloc (.cells #[.int .i64 0, .int .u32 0, .int .u32 0, .int .u32 0, .int .u32 0] 42)) := (Below.refl _ w1).alloc (Nat.le_refl _) _
    have hcc := concatP2 (w1.alloc (.cells #[.int .i64 0, .int .u32 0, .int .u32 0, .int .u32 0, .int .u32 0] 42)) (some ⟨w1.heap.size, 0, none⟩) 1 1 [p0] a 15 c Lp (one_pts w1 p0 wf_p0) (HP1.out.step hbz) (by omega) (by omega)
    rw [World.size_alloc] at hcc
    have hb2 := HB1.out.trans ((hbz.alloc (by rw [World.size_alloc]; omega) (.cells #[.slice (some ⟨w1.heap.size, 0, none⟩) 1 1, .slice a 15 c] 22)).mono HB1.out.size)
    obtain ⟨W2, hW2⟩ : ∃ W2, (w1.alloc (.cells #[.int .i64 0, .int .u32 0, .int .u32 0, .int .u32 0, .int .u32 0] 42)).alloc (.cells #[.slice (some ⟨w1.heap.size, 0, none⟩) 1 1, .slice a 15 c] 22) = W2 := ⟨_, rfl⟩
    rw [hW2] at hcc hb2 ⊢
    have hb12 : Below w1.heap.size w1 W2 := by rw [← hW2]; exact hbz.alloc (by rw [World.size_alloc]; omega) _
    have HX2 := Lib.hid (HX1.out.below hb12 HX1.out.lt)
    have HZ2 := Lib.hid (HZ1.out.step hb12)
    have HB2 := Lib.hid hb2
    clear hbz hb2 hW2 hb12 c3
    refine hcc.mono ?_
    rintro e w2 ⟨v2, rfl, o2, b2⟩
    obtain ⟨A2, C2, hv, hp2⟩ := o2.pts
    have e16 : ([p0] ++ Lp).length = 16 := by rw [List.length_append, HN.out]; rfl
    rw [e16] at hv hp2
    subst hv
    have hro : rowO ([p0] ++ Lp) = (rowTo (p0 :: Lp) 16, 0) := by
      unfold rowO
      rw [if_neg (by rw [e16]; omega), if_pos, e16]
      · rfl
      · intro p hp
        rcases List.mem_append.1 hp with hp | hp
        · rw [List.mem_singleton.1 hp]; exact may_p0
        · exact HA.out p hp
    have hrw := Row_any A2 16 C2 ([p0] ++ Lp) w2 hp2 (HZ2.out.step b2)
    rw [hro] at hrw
    have HRW := Lib.hid hrw
    have HX3 := Lib.hid (HX2.out.below b2 HX2.out.lt)
    have HB3 := Lib.hid (HB2.out.trans (b2.mono HB2.out.size))
    clear hcc hrw hro e16 hp2 o2 b2
    go_wp2_with fail
    refine HRW.out.mono ?_
    rintro e w3 ⟨v3, rfl, o3, b3⟩
    have hx3 := HX3.out.below b3 HX3.out.lt
    have c0 := ox0 hx3
    have c1 := ox1 hx3
    have c2 := ox2 hx3
    have c3 := ox3 hx3
    have HB4 := Lib.hid (HB3.out.trans (b3.mono HB3.out.size))
    have hr16 := rowTo_length (p0 :: Lp) 16 (by simp [HN.out]) (Nat.le_refl _)
    simp only [hr16] at o3
    have HO3 := Lib.hid o3
    have HH := Lib.hid (obHead_any a c k l s 15 w3 (by have := HK.out; omega) (by have := HL.out; omega) (by have := HS.out; omega))
    clear hx3 o3 b3 hr16
    go_wp2_with fail
    clear c0 c1 c2 c3
    refine HH.out.mono ?_
    rintro e w4 ⟨rfl, b4⟩
    have HB5 := Lib.hid (HB4.out.trans (b4.mono HB4.out.size))
    have HB6 := Lib.hid (HB5.out.alloc HB5.out.size (.cells (ar zs16) 53))
    have HO4 := Lib.hid (own_below HO3.out (b4.alloc b4.size (.cells (ar zs16) 53)))
    have HY4 := Lib.hid (Blk.new w4 53 (ar zs16))
    have sl := sliceAt16
    have HLT := Lib.hid (show ∀ k, v3.ownBlock = some k → k < w4.heap.size from fun k e => Nat.lt_of_lt_of_le (HO3.out.lt k e).2 b4.size)
    clear b4
    go_wp2_with (first
      | (with_reducible refine copyAt ?_
         refine wpList_copy_into rfl (.tmp 22) (.tmp 23) rfl w2.heap.size 256 v3 (rowTo (p0 :: Lp) 16) rfl HO5.out w5.heap.size (some ⟨w4.heap.size, 0, none⟩) 16 16 (hd16 k l s) rfl HY5.out (by omega) (by omega) ?_
         intro w6 o6 g6 _
         have HO6 := Lib.hid o6
         have HB8 := Lib.hid (app_below HB7.out (own_mono HO5.out HB3.out.size) g6 HB7.out.size)
         clear o6 g6)
      | (with_reducible refine at_store16 ?_
         refine wpList_store16 rfl (.tmp 6) (.tmp 21) rfl w4.heap.size (hd16 k l s) zs16 rfl rfl (hd16_length k l s) HY4.out zs16_length ?_
         intro w5 hx5 hg5
         have HY5 := Lib.hid (hx5.bsl (hd16_length k l s) (by omega))
         have HO5 := Lib.hid (own_other HO4.out hg5 (fun k e => by have := HLT.out k e; omega))
         have HB7 := Lib.hid (below_only HB6.out HB5.out.size hg5 HB6.out.size)
         clear hx5 hg5))
    go_ret2
    refine ⟨v3, rfl, ?_, HB8.out⟩
    have ho := own_mono HO6.out HB3.out.size
    rw [block_row k l s Lp (by have := HS.out; omega) HN.out] at ho
    rw [blockOb_length]
    exact ho
  · have HO := Lib.hid (show owriteO (k, l, s, Lp) = ([], 8) by unfold owriteO; rw [if_neg hm])
    rw [HO.out]
    have HC := Lib.hid (HMY.out w0 HP.out false ⟨fun x => (by cases x), fun x => absurd x hm⟩)
    clear HMY hw HO hm hwf
    go_enter Tryd.func12, Tryd.ntmps12
    go_wp2_with fail
    clear c0 c1 c2 c3 hw0
    refine HC.out.mono ?_
    rintro e w1 ⟨rfl, b1⟩
    have HB1 := Lib.hid (HB.out.trans (b1.mono HB.out.size))
    clear b1
    go_wp2_with fail
    go_ret2
    exact outB_no rfl HB1.out
end Go.Proofs.YtennhempdnpobaaDoor
