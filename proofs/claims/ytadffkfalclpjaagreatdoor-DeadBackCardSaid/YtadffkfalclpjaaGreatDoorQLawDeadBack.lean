/-
  DeadBackSaid: for any store, birth and list (where the store is great, or the list has more than 1,000 pointers, the law itself answers what its example answers) what was laid is loaded as it was, with the blocks that were taken, all of which were free, and are used then; what is refused is nothing. No condition but the tied one: ptr.sizes reads as its own initialiser says.
-/
import Derived.Test.YtadffkfalclpjaaGreatDoorRows
import Derived.Test.YtadffkfalclpjaaGreatDoorPkDA4
namespace Go.Proofs.YtadffkfalclpjaaGreatDoor
open Go.RowKit Go.Shelf
set_option maxRecDepth 100000

/-- How many blocks a list has. -/
def rowsX (n : Nat) : Nat := if n = 0 then 0 else (n + 15) / 16 + 1
theorem dlRows_any (n : Nat) (hn : n ≤ 100000) (w : World) : Calls Tryz.prog 22 #[.int .i64 (n : Int)] w fun e w' => e = .returned (.int .i64 (rowsX n : Int)) ∧ Below w.heap.size w w' := by
  have n0 : (0 : Int) ≤ (n : Int) := by omega
  have n9 : (n : Int) ≤ 100000 := by omega
  by_cases h : n = 0
  · have e1 : ((n : Int) == 0) = true := by rw [h]; rfl
    have e2 : rowsX n = 0 := by unfold rowsX; rw [if_pos h]
    rw [e2]
    clear h e2
    go_enter Tryz.func22, Tryz.ntmps22
    go_wp2_with fail
    go_ret
    exact ⟨rfl, Below.refl _ _⟩
  · have e1 : ((n : Int) == 0) = false := by simp; omega
    have e2 : (rowsX n : Int) = (n + 15 : Int) / 16 + 1 := by unfold rowsX; rw [if_neg h]; omega
    have e3 : Int.tdiv ((n : Int) + 15) 16 = ((n : Int) + 15) / 16 := Int.tdiv_eq_ediv_of_nonneg (by omega)
    have HE := Lib.hid e2
    have e4 : (0 : Int) ≤ ((n : Int) + 15) / 16 := by omega
    have e5 : ((n : Int) + 15) / 16 ≤ 100000 := by omega
    clear h e2
    go_enter Tryz.func22, Tryz.ntmps22
    go_wp2_with fail
    go_ret
    refine ⟨?_, Below.refl _ _⟩
    rw [HE.out]
    rfl
/-- What is laid, in one word. -/
theorem lay_word (S : StL) (b : Nat) (l : List Pt) (hw : ∀ q ∈ l, WfP q) : (∃ e, layO S b l = (st0, p0, [], e) ∧ e ≠ 0) ∨
    ∃ (T : StL) (p : Pt) (own : List Nat), layO S b l = (T, p, own, 0) ∧ MayS S ∧ MayS T ∧ WfP p ∧ loadO T p = (l, own, 0) ∧ own.length = rowsX l.length ∧ l.length ≤ 240 ∧
      (∀ i, i < own.length → 12 ≤ own.getD i 0 ∧ own.getD i 0 < 256 ∧ mkT S.2.1 (own.getD i 0) = 0 ∧ mkT T.2.1 (own.getD i 0) = 1) ∧ (0 < own.length → p.1 = ((own.getD (own.length - 1) 0 : Nat) : Int) ∧ p.2.1 = b) := by
  rcases layO_cases S b l hw with h | ⟨hm, hl, hb, h⟩ | ⟨T, ps, p, hm, hl, hb, h0, h, ht, hn, hq, hld⟩
  · exact .inl h
  · subst hl
    refine .inr ⟨S, p0, [], h, hm, hm, wf_p0, ?_, rfl, by simp, fun i hi => absurd hi (Nat.not_lt_zero _), fun hi => absurd hi (Nat.lt_irrefl _)⟩
    unfold loadO loadedO
    rw [if_pos ⟨hm, .inl rfl⟩, if_pos rfl]
  · have hpm : p ∈ ps ++ [p] := List.mem_append_right _ (List.mem_singleton.2 rfl)
    have hlen : (blksD (ps ++ [p])).length = ps.length + 1 := by rw [blksD_len, List.length_append]; rfl
    have hge : ∀ i, i < ps.length + 1 → ∃ q ∈ ps ++ [p], (blksD (ps ++ [p])).getD i 0 = q.1.toNat := fun i hi => by
      have hi' : i < (ps ++ [p]).length := by rw [List.length_append]; exact hi
      refine ⟨(ps ++ [p])[i], List.getElem_mem _, ?_⟩
      unfold blksD
      rw [List.getD_eq_getElem?_getD, List.getElem?_map, List.getElem?_eq_getElem hi']
      rfl
    refine .inr ⟨T, p, blksD (ps ++ [p]), h, hm, ht, (hq p hpm).1.2.1, hld, ?_, hl.1, fun i hi => ?_, fun _ => ⟨?_, (hq p hpm).1.2.2⟩⟩
    · rw [hlen, hn]
      unfold rowsX rowsN
      rw [if_neg (fun e => h0 (List.eq_nil_of_length_eq_zero e))]
    · obtain ⟨q, hqm, e⟩ := hge i (by rw [← hlen]; exact hi)
      obtain ⟨_, k, hk, hk2, hk3, hk4⟩ := hq q hqm
      have : q.1.toNat = k := by omega
      rw [e, this]
      exact ⟨hk2.1, hk2.2, hk3, hk4⟩
    · rw [hlen]
      have : (blksD (ps ++ [p])).getD (ps.length + 1 - 1) 0 = p.1.toNat := by
        unfold blksD
        rw [List.getD_eq_getElem?_getD, List.getElem?_map, Nat.add_sub_cancel, List.getElem?_append_right (Nat.le_refl _), Nat.sub_self]
        rfl
      rw [this]
      obtain ⟨_, k, hk, _⟩ := hq p hpm
      omega
set_option linter.unusedSimpArgs false in
set_option maxHeartbeats 16000000 in
theorem deadBack_at (x : SAt) (S : StL) (b : Nat) (a : Option Addr) (n c : Nat) (l : List Pt) (w : World) (hz : Szs w) (h : Str w w.heap.size x S) (hnear : Near S.1) (hwf : WfS S) (hbi : b < 4294967296) (hp : Pts w w.heap.size a n c l) :
    Calls Tryz.prog 5 #[stV x S, .int .u32 (b : Int), .slice a n c] w fun e w' => e = .returned (.bool true) ∧ Below w.heap.size w w' := by
  have hmx : Tryz.prog.follows Departure.mixedOrders = true := by kernel_rfl
  have HZ0 := Lib.hid hz
  have HP0 := Lib.hid hp
  have hLL := h.lasts (Nat.le_refl _)
  obtain ⟨L, hLe⟩ : ∃ L, w.heap.size = L := ⟨_, rfl⟩
  rw [hLe] at hLL
  have hL : L ≤ w.heap.size := Nat.le_of_eq hLe.symm
  clear hLe h
  have b9 : (b : Int) ≤ 4294967295 := by omega
  have bb0 : (0 : Int) ≤ (b : Int) := by omega
  have n0 : (0 : Int) ≤ (n : Int) := by omega
  have xb := Blk.new w 38 (stC x S)
  have b0 := (Below.refl w.heap.size w).alloc (Nat.le_refl _) (.cells (stC x S) 38)
  obtain ⟨w0, hw0⟩ : ∃ w0, w.alloc (.cells (stC x S) 38) = w0 := ⟨_, rfl⟩
  obtain ⟨g, hg⟩ : ∃ g, w.heap.size = g := ⟨_, rfl⟩
  rw [hw0] at xb b0
  rw [hg] at xb
  have HX := Lib.hid xb
  have HT := Lib.hid (hLL.bel b0)
  have HB := Lib.hid b0
  have HLW := Lib.hid (show L ≤ w0.heap.size from Nat.le_trans hL b0.size)
  have HP := Lib.hid (hp.step b0)
  have HLN := Lib.hid hp.1
  have HWQ := Lib.hid (fun (q_ : Pt) (hq_ : q_ ∈ l) => hp.wf hq_)
  have HZ := Lib.hid (hz.step b0)
  have HN := Lib.hid hnear
  have HWF := Lib.hid hwf
  have HBI := Lib.hid hbi
  simp only [stC] at hw0
  clear hLL xb b0 hL hp hz hnear hwf hbi
  go_enter Tryz.func5, Tryz.ntmps5
  go_wp2_with fail
  try rw [hw0]
  try rw [hg]
  clear hw0 hg
  refine (ddAlive_any w0).mono ?_
  rintro e w1 ⟨rfl, b1⟩
  replace HX := Lib.hid (HX.out.below b1 HX.out.lt)
  replace HT := Lib.hid (HT.out.bel b1)
  replace HB := Lib.hid (HB.out.trans (b1.mono HB.out.size))
  replace HP := Lib.hid (HP.out.step b1)
  replace HZ := Lib.hid (HZ.out.step b1)
  replace HLW := Lib.hid (Nat.le_trans HLW.out b1.size)
  clear b1
  have d0 := bx0 HX.out
  have d1 := bx1 HX.out
  have d2 := bx2 HX.out
  have d3 := bx3 HX.out
  have d4 := bx4 HX.out
  have HGR := Lib.hid (rtGreat_any L x S w1 HT.out HN.out)
  go_wp2_with fail
  clear d0 d1 d2 d3 d4
  refine HGR.out.mono ?_
  rintro e w2 ⟨gr, rfl, hsm, b2⟩
  replace HX := Lib.hid (HX.out.below b2 HX.out.lt)
  replace HT := Lib.hid (HT.out.bel b2)
  replace HB := Lib.hid (HB.out.trans (b2.mono HB.out.size))
  replace HP := Lib.hid (HP.out.step b2)
  replace HZ := Lib.hid (HZ.out.step b2)
  replace HLW := Lib.hid (Nat.le_trans HLW.out b2.size)
  clear b2 HGR
  cases gr with
  | true =>
    go_wp2_with fail
    go_ret
    exact ⟨rfl, HB.out⟩
  | false =>
    have HOK := Lib.hid (show OkS S from ⟨small_fits (hsm rfl).1, by have := (hsm rfl).2; omega, HWF.out⟩)
    clear hsm
    by_cases hn : 1000 < n
    · have hn0 : decide ((n : Int) > 1000) = true := decide_eq_true (by omega)
      have hn1 : decide ((1000 : Int) < (n : Int)) = true := decide_eq_true (by omega)
      have hn2 : decide (1000 < n) = true := decide_eq_true (by omega)
      go_wp2_with fail
      go_ret
      exact ⟨rfl, HB.out⟩
    · have hn9 : (n : Int) ≤ 1000 := by omega
      have hn0 : decide ((n : Int) > 1000) = false := decide_eq_false (by omega)
      have hn1 : decide ((1000 : Int) < (n : Int)) = false := decide_eq_false (by omega)
      have hn2 : decide (1000 < n) = false := decide_eq_false (by omega)
      have HGX := Lib.hid (show g < w2.heap.size from HX.out.lt)
      have HLQ := Lib.hid HLW.out
      have HLAY := Lib.hid (ddLay_any L x S b a n c l w2 HT.out HBI.out HP.out HZ.out HLW.out)
      have d0 := bx0 HX.out
      have d1 := bx1 HX.out
      have d2 := bx2 HX.out
      have d3 := bx3 HX.out
      have d4 := bx4 HX.out
      go_wp2_with fail
      clear d0 d1 d2 d3 d4
      rcases lay_word S b l HWQ.out with ⟨ee, ho, hne⟩ | ⟨T, p, own, ho, hmS, hmT, hwp, hld, hlen, hl240, hall, hlast⟩
      · rw [ho] at HLAY
        refine HLAY.out.mono ?_
        rintro e w3 ⟨y, u, rfl, _, _, hu, b3⟩
        simp only [List.length_nil] at hu
        obtain ⟨ua, uc, rfl⟩ := nrow_slice (s := []) hu
        replace HX := Lib.hid (HX.out.below b3 HX.out.lt)
        replace HT := Lib.hid (HT.out.bel b3)
        replace HB := Lib.hid (HB.out.trans (b3.mono HB.out.size))
        replace HP := Lib.hid (HP.out.step b3)
        replace HZ := Lib.hid (HZ.out.step b3)
        replace HLW := Lib.hid (Nat.le_trans HLW.out b3.size)
        replace HGX := Lib.hid (Nat.lt_of_lt_of_le HGX.out b3.size)
        replace HLQ := Lib.hid (Nat.le_trans HLQ.out b3.size)
        have z1e : ((ee : Int) != 0) = true := by simp; omega
        clear b3 hu HLAY ho hne
        obtain ⟨w4, hw4, b4, z4, q8, q9⟩ := two_al w3 stZ ptZ 38 28
        obtain ⟨g8, hg8⟩ : ∃ k, w3.heap.size = k := ⟨_, rfl⟩
        obtain ⟨g9, hg9⟩ : ∃ k, g8 + 1 = k := ⟨_, rfl⟩
        rw [hg8] at q8 q9 b4
        rw [hg9] at q9
        have b4' : Below w3.heap.size w3 w4 := hg8 ▸ b4
        have hg8w : w.heap.size ≤ g8 := by rw [← hg8]; exact HB.out.size
        replace HX := Lib.hid (HX.out.below b4' HX.out.lt)
        replace HT := Lib.hid (HT.out.bel b4')
        replace HB := Lib.hid (HB.out.trans (b4'.mono HB.out.size))
        replace HP := Lib.hid (HP.out.step b4')
        replace HZ := Lib.hid (HZ.out.step b4')
        replace HLW := Lib.hid (Nat.le_trans HLW.out b4'.size)
        have z0 := stZ0 q8
        have z1 := stZ1 q8
        have z2 := stZ2 q8
        have z3 := stZ3 q8
        have z4_ := stZ4 q8
        have zf := fun i => q8.frozen i
        obtain ⟨xa, ka, ba⟩ := box_five (L := 0) q8 (by decide) (Nat.zero_le _) HB.out hg8w (.slice y.d.ba 0 y.d.bc) (.slice y.d.wa 0 y.d.wc) (.slice y.a 0 y.c) (.int .u32 0) (.int .u32 0)
        have kaL : Keeps L w4 (set5 w4 g8 (.slice y.d.ba 0 y.d.bc) (.slice y.d.wa 0 y.d.wc) (.slice y.a 0 y.c) (.int .u32 0) (.int .u32 0)) := (box_five (L := L) q8 (by decide) (by have := HLQ.out; omega) HB.out hg8w (.slice y.d.ba 0 y.d.bc) (.slice y.d.wa 0 y.d.wc) (.slice y.a 0 y.c) (.int .u32 0) (.int .u32 0)).2.1
        have yx := far5_bl HX.out (show g ≠ g8 by have := HGX.out; omega) (.slice y.d.ba 0 y.d.bc) (.slice y.d.wa 0 y.d.wc) (.slice y.a 0 y.c) (.int .u32 0) (.int .u32 0)
        have y9 := far5_bl q9 (show g9 ≠ g8 by omega) (.slice y.d.ba 0 y.d.bc) (.slice y.d.wa 0 y.d.wc) (.slice y.a 0 y.c) (.int .u32 0) (.int .u32 0)
        have fa := only_set5 (World.grownBy.refl w4 (some g8)) (.slice y.d.ba 0 y.d.bc) (.slice y.d.wa 0 y.d.wc) (.slice y.a 0 y.c) (.int .u32 0) (.int .u32 0)
        obtain ⟨w5, dn⟩ : ∃ X, set5 w4 g8 (.slice y.d.ba 0 y.d.bc) (.slice y.d.wa 0 y.d.wc) (.slice y.a 0 y.c) (.int .u32 0) (.int .u32 0) = X := ⟨_, rfl⟩
        rw [dn] at xa ka kaL ba yx y9 fa
        simp only [set5] at dn
        have p0_ := ptZ0 y9
        have p1_ := ptZ1 y9
        have p2_ := ptZ2 y9
        have p3_ := ptZ3 y9
        have p4_ := ptZ4 y9
        have pf := fun i => y9.frozen i
        obtain ⟨xc, kc, bc⟩ := box_five (L := 0) y9 (by decide) (Nat.zero_le _) ba (show w.heap.size ≤ g9 by omega) (.int .i64 0) (.int .u32 0) (.int .u32 0) (.int .u32 0) (.int .u32 0)
        have kcL : Keeps L w5 (set5 w5 g9 (.int .i64 0) (.int .u32 0) (.int .u32 0) (.int .u32 0) (.int .u32 0)) := (box_five (L := L) y9 (by decide) (by have := HLQ.out; omega) ba (show w.heap.size ≤ g9 by omega) (.int .i64 0) (.int .u32 0) (.int .u32 0) (.int .u32 0) (.int .u32 0)).2.1
        have vx := far5_bl yx (show g ≠ g9 by have := HGX.out; omega) (.int .i64 0) (.int .u32 0) (.int .u32 0) (.int .u32 0) (.int .u32 0)
        have v8 := far5_bl xa (show g8 ≠ g9 by omega) (.int .i64 0) (.int .u32 0) (.int .u32 0) (.int .u32 0) (.int .u32 0)
        have fc := only_set5 (World.grownBy.refl w5 (some g9)) (.int .i64 0) (.int .u32 0) (.int .u32 0) (.int .u32 0) (.int .u32 0)
        obtain ⟨w6, pn⟩ : ∃ X, set5 w5 g9 (.int .i64 0) (.int .u32 0) (.int .u32 0) (.int .u32 0) (.int .u32 0) = X := ⟨_, rfl⟩
        rw [pn] at xc kc kcL bc vx v8 fc
        simp only [set5] at pn
        replace HX := Lib.hid vx
        replace HB := Lib.hid bc
        replace HT := Lib.hid (HT.out.step (kaL.trans kcL))
        replace HZ := Lib.hid (HZ0.out.step HB.out)
        replace HP := Lib.hid (HP0.out.step HB.out)
        replace HLW := Lib.hid (Nat.le_trans HLW.out (kaL.trans kcL).size)
        have H8 := Lib.hid v8
        have H9 := Lib.hid xc
        simp only [stZ, ptZ] at hw4
        clear b4 b4' z4 q8 q9 xa ka kaL ba yx y9 fa xc kc kcL bc vx v8 fc
        have e2 := bx2 H8.out
        go_wp2_with fail
        go_ret
        exact ⟨rfl, HB.out⟩
      · obtain ⟨pa, pb, pi, pt, ps⟩ := p
        rw [ho] at HLAY
        refine HLAY.out.mono ?_
        rintro e w3 ⟨y, u, rfl, st3, hi3, hu, b3⟩
        simp only at st3 hu
        obtain ⟨ua, uc, rfl⟩ := nrow_slice hu
        replace HX := Lib.hid (HX.out.below b3 HX.out.lt)
        replace HT := Lib.hid (HT.out.bel b3)
        replace HB := Lib.hid (HB.out.trans (b3.mono HB.out.size))
        replace HP := Lib.hid (HP.out.step b3)
        replace HZ := Lib.hid (HZ.out.step b3)
        replace HLW := Lib.hid (Nat.le_trans HLW.out b3.size)
        replace HGX := Lib.hid (Nat.lt_of_lt_of_le HGX.out b3.size)
        replace HLQ := Lib.hid (Nat.le_trans HLQ.out b3.size)
        have HST := Lib.hid st3
        have HU := Lib.hid hu
        have z1e : ((0 : Int) != 0) = false := rfl
        clear b3 hu hi3 st3 HLAY ho
        obtain ⟨w4, hw4, b4, z4, q8, q9⟩ := two_al w3 stZ ptZ 38 28
        obtain ⟨g8, hg8⟩ : ∃ k, w3.heap.size = k := ⟨_, rfl⟩
        obtain ⟨g9, hg9⟩ : ∃ k, g8 + 1 = k := ⟨_, rfl⟩
        rw [hg8] at q8 q9 b4
        rw [hg9] at q9
        have b4' : Below w3.heap.size w3 w4 := hg8 ▸ b4
        have hg8w : w.heap.size ≤ g8 := by rw [← hg8]; exact HB.out.size
        replace HX := Lib.hid (HX.out.below b4' HX.out.lt)
        replace HT := Lib.hid (HT.out.bel b4')
        replace HB := Lib.hid (HB.out.trans (b4'.mono HB.out.size))
        replace HST := Lib.hid (HST.out.bel b4')
        replace HU := Lib.hid (own_below HU.out b4')
        replace HP := Lib.hid (HP.out.step b4')
        replace HZ := Lib.hid (HZ.out.step b4')
        replace HLW := Lib.hid (Nat.le_trans HLW.out b4'.size)
        have z0 := stZ0 q8
        have z1 := stZ1 q8
        have z2 := stZ2 q8
        have z3 := stZ3 q8
        have z4_ := stZ4 q8
        have zf := fun i => q8.frozen i
        obtain ⟨xa, ka, ba⟩ := box_five (L := 0) q8 (by decide) (Nat.zero_le _) HB.out hg8w (.slice y.d.ba T.1.1.length y.d.bc) (.slice y.d.wa T.1.2.length y.d.wc) (.slice y.a T.2.1.length y.c) (.int .u32 (T.2.2.1 : Int)) (.int .u32 (T.2.2.2 : Int))
        have kaL : Keeps L w4 (set5 w4 g8 (.slice y.d.ba T.1.1.length y.d.bc) (.slice y.d.wa T.1.2.length y.d.wc) (.slice y.a T.2.1.length y.c) (.int .u32 (T.2.2.1 : Int)) (.int .u32 (T.2.2.2 : Int))) := (box_five (L := L) q8 (by decide) (by have := HLQ.out; omega) HB.out hg8w (.slice y.d.ba T.1.1.length y.d.bc) (.slice y.d.wa T.1.2.length y.d.wc) (.slice y.a T.2.1.length y.c) (.int .u32 (T.2.2.1 : Int)) (.int .u32 (T.2.2.2 : Int))).2.1
        have yx := far5_bl HX.out (show g ≠ g8 by have := HGX.out; omega) (.slice y.d.ba T.1.1.length y.d.bc) (.slice y.d.wa T.1.2.length y.d.wc) (.slice y.a T.2.1.length y.c) (.int .u32 (T.2.2.1 : Int)) (.int .u32 (T.2.2.2 : Int))
        have y9 := far5_bl q9 (show g9 ≠ g8 by omega) (.slice y.d.ba T.1.1.length y.d.bc) (.slice y.d.wa T.1.2.length y.d.wc) (.slice y.a T.2.1.length y.c) (.int .u32 (T.2.2.1 : Int)) (.int .u32 (T.2.2.2 : Int))
        have fa := only_set5 (World.grownBy.refl w4 (some g8)) (.slice y.d.ba T.1.1.length y.d.bc) (.slice y.d.wa T.1.2.length y.d.wc) (.slice y.a T.2.1.length y.c) (.int .u32 (T.2.2.1 : Int)) (.int .u32 (T.2.2.2 : Int))
        obtain ⟨w5, dn⟩ : ∃ X, set5 w4 g8 (.slice y.d.ba T.1.1.length y.d.bc) (.slice y.d.wa T.1.2.length y.d.wc) (.slice y.a T.2.1.length y.c) (.int .u32 (T.2.2.1 : Int)) (.int .u32 (T.2.2.2 : Int)) = X := ⟨_, rfl⟩
        rw [dn] at xa ka kaL ba yx y9 fa
        simp only [set5] at dn
        have p0_ := ptZ0 y9
        have p1_ := ptZ1 y9
        have p2_ := ptZ2 y9
        have p3_ := ptZ3 y9
        have p4_ := ptZ4 y9
        have pf := fun i => y9.frozen i
        obtain ⟨xc, kc, bc⟩ := box_five (L := 0) y9 (by decide) (Nat.zero_le _) ba (show w.heap.size ≤ g9 by omega) (.int .i64 pa) (.int .u32 (pb : Int)) (.int .u32 (pi : Int)) (.int .u32 (pt : Int)) (.int .u32 (ps : Int))
        have kcL : Keeps L w5 (set5 w5 g9 (.int .i64 pa) (.int .u32 (pb : Int)) (.int .u32 (pi : Int)) (.int .u32 (pt : Int)) (.int .u32 (ps : Int))) := (box_five (L := L) y9 (by decide) (by have := HLQ.out; omega) ba (show w.heap.size ≤ g9 by omega) (.int .i64 pa) (.int .u32 (pb : Int)) (.int .u32 (pi : Int)) (.int .u32 (pt : Int)) (.int .u32 (ps : Int))).2.1
        have vx := far5_bl yx (show g ≠ g9 by have := HGX.out; omega) (.int .i64 pa) (.int .u32 (pb : Int)) (.int .u32 (pi : Int)) (.int .u32 (pt : Int)) (.int .u32 (ps : Int))
        have v8 := far5_bl xa (show g8 ≠ g9 by omega) (.int .i64 pa) (.int .u32 (pb : Int)) (.int .u32 (pi : Int)) (.int .u32 (pt : Int)) (.int .u32 (ps : Int))
        have fc := only_set5 (World.grownBy.refl w5 (some g9)) (.int .i64 pa) (.int .u32 (pb : Int)) (.int .u32 (pi : Int)) (.int .u32 (pt : Int)) (.int .u32 (ps : Int))
        obtain ⟨w6, pn⟩ : ∃ X, set5 w5 g9 (.int .i64 pa) (.int .u32 (pb : Int)) (.int .u32 (pi : Int)) (.int .u32 (pt : Int)) (.int .u32 (ps : Int)) = X := ⟨_, rfl⟩
        rw [pn] at xc kc kcL bc vx v8 fc
        simp only [set5] at pn
        replace HX := Lib.hid vx
        replace HB := Lib.hid bc
        replace HT := Lib.hid (HT.out.step (kaL.trans kcL))
        replace HZ := Lib.hid (HZ0.out.step HB.out)
        replace HP := Lib.hid (HP0.out.step HB.out)
        replace HLW := Lib.hid (Nat.le_trans HLW.out (kaL.trans kcL).size)
        have H8 := Lib.hid v8
        have H9 := Lib.hid xc
        replace HST := Lib.hid (HST.out.step (ka.trans kc))
        replace HU := Lib.hid (ly_own HU.out (ka.trans kc))
        simp only [stZ, ptZ] at hw4
        clear b4 b4' z4 q8 q9 xa ka kaL ba yx y9 fa xc kc kcL bc vx v8 fc
        have e0 := bx0 H8.out
        have e1 := bx1 H8.out
        have e2 := bx2 H8.out
        have e3 := bx3 H8.out
        have e4 := bx4 H8.out
        have i0 := bx0 H9.out
        have i1 := bx1 H9.out
        have i2 := bx2 H9.out
        have i3 := bx3 H9.out
        have i4 := bx4 H9.out
        have HLD := Lib.hid (ddLoad_any 0 y T (pa, pb, pi, pt, ps) w6 HST.out hwp HZ.out (Nat.zero_le _))
        rw [hld] at HLD
        have HALL := Lib.hid hall
        have HLAST := Lib.hid hlast
        have HMS := Lib.hid hmS
        have HMT := Lib.hid hmT
        rw [HLN.out] at hlen
        have HRX := Lib.hid hlen
        clear hall hlast hmS hmT hwp hld hlen
        go_wp2_with fail
        clear z0 z1 z2 z3 z4_ zf dn p0_ p1_ p2_ p3_ p4_ pf pn
        clear e0 i0 e1 i1 e2 i2 e3 i3 e4 i4 hw4 hg8 hg9
        refine HLD.out.mono ?_
        rintro e w7 ⟨v7, u7, rfl, hp7, hu7, b7⟩
        simp only at hp7 hu7
        obtain ⟨va, vc, rfl, ht7⟩ := hp7.pts
        obtain ⟨ma, mc, rfl⟩ := nrow_slice hu7
        rw [HLN.out] at ht7 ⊢
        replace HX := Lib.hid (HX.out.below b7 HX.out.lt)
        replace HT := Lib.hid (HT.out.bel b7)
        replace HB := Lib.hid (HB.out.trans (b7.mono HB.out.size))
        replace HST := Lib.hid (HST.out.bel b7)
        replace HU := Lib.hid (own_below HU.out b7)
        replace H8 := Lib.hid (H8.out.below b7 H8.out.lt)
        replace H9 := Lib.hid (H9.out.below b7 H9.out.lt)
        replace HP := Lib.hid (HP.out.step b7)
        replace HZ := Lib.hid (HZ.out.step b7)
        replace HLW := Lib.hid (Nat.le_trans HLW.out b7.size)
        have HM7 := Lib.hid hu7
        have HT7 := Lib.hid ht7
        clear b7 hu7 ht7 hp7 HLD
        have HSM := Lib.hid (dlSame_any a n c l va n vc l w7 HP.out HT7.out)
        rw [decide_eq_true (show l = l from rfl)] at HSM
        go_wp2_with fail
        refine HSM.out.mono ?_
        rintro e w8 ⟨rfl, b8⟩
        replace HX := Lib.hid (HX.out.below b8 HX.out.lt)
        replace HT := Lib.hid (HT.out.bel b8)
        replace HB := Lib.hid (HB.out.trans (b8.mono HB.out.size))
        replace HST := Lib.hid (HST.out.bel b8)
        replace HU := Lib.hid (own_below HU.out b8)
        replace H8 := Lib.hid (H8.out.below b8 H8.out.lt)
        replace H9 := Lib.hid (H9.out.below b8 H9.out.lt)
        replace HM7 := Lib.hid (own_below HM7.out b8)
        replace HP := Lib.hid (HP.out.step b8)
        replace HZ := Lib.hid (HZ.out.step b8)
        replace HLW := Lib.hid (Nat.le_trans HLW.out b8.size)
        clear b8 HSM HT7
        have HRW := Lib.hid (dlRows_any n (by omega) w8)
        obtain ⟨k, hk⟩ : ∃ k, own.length = k := ⟨_, rfl⟩
        rw [← HRX.out] at HRW
        simp only [hk] at HRW HRX HU HM7 HALL HLAST ⊢
        clear hk
        go_wp2_with fail
        refine HRW.out.mono ?_
        rintro e w9 ⟨rfl, b9⟩
        replace HX := Lib.hid (HX.out.below b9 HX.out.lt)
        replace HT := Lib.hid (HT.out.bel b9)
        replace HB := Lib.hid (HB.out.trans (b9.mono HB.out.size))
        replace HST := Lib.hid (HST.out.bel b9)
        replace HU := Lib.hid (own_below HU.out b9)
        replace H8 := Lib.hid (H8.out.below b9 H8.out.lt)
        replace H9 := Lib.hid (H9.out.below b9 H9.out.lt)
        replace HM7 := Lib.hid (own_below HM7.out b9)
        replace HP := Lib.hid (HP.out.step b9)
        replace HZ := Lib.hid (HZ.out.step b9)
        replace HLW := Lib.hid (Nat.le_trans HLW.out b9.size)
        clear b9 HRW
        have HK9 := Lib.hid (show k ≤ 16 by have := HLN.out; rw [HRX.out]; unfold rowsX; split <;> omega)
        go_wp2_with fail
        obtain ⟨wq, hwq⟩ : ∃ wq, w9 = wq := ⟨_, rfl⟩
        have HW9 := Lib.hid (Below.refl w9.heap.size w9)
        go_loopw [15] (fun i wr => ∃ j : Nat, j ≤ k ∧ i = .int .i64 j ∧ Below w9.heap.size w9 wr) (fun i _ => k - (intOf i).toNat)
        case atStart => exact ⟨0, Nat.zero_le _, rfl, Below.refl _ _⟩
        case round =>
          obtain ⟨j, hj, rfl, hb⟩ := hrel
          have j0 : (0 : Int) ≤ j := by omega
          have k9 : (k : Int) ≤ 16 := by have := HK9.out; omega
          by_cases hlt : j < k
          · have j1 : (j : Int) < k := by omega
            obtain ⟨o, ho⟩ : ∃ o, own.getD j 0 = o := ⟨_, rfl⟩
            obtain ⟨o12, o256, oS, oT⟩ := HALL.out j hlt
            rw [ho] at o12 o256 oS oT
            obtain ⟨ug, uc', eu, _, _, hnu⟩ := nsl_of_own HU.out (by omega)
            obtain ⟨mg, mc', em, _, _, hnm⟩ := nsl_of_own HM7.out (by omega)
            injection eu with eu1 _ eu2
            injection em with em1 _ em2
            subst eu1
            subst em1
            have hnu2 := hnu.below hb
            have hnm2 := hnm.below hb
            obtain ⟨_, _, eu3, _, cu⟩ := hnu2.2.2.2.2 (by omega)
            cases eu3
            obtain ⟨_, _, em3, _, cm⟩ := hnm2.2.2.2.2 (by omega)
            cases em3
            have cu := cu j (by rw [hnu.1]; exact hlt)
            have cm := cm j (by rw [hnm.1]; exact hlt)
            have hoj : ∀ h : j < own.length, own[j] = o := fun h => by rw [← ho, List.getD_eq_getElem?_getD, List.getElem?_eq_getElem h]; rfl
            rw [hoj, Nat.zero_add] at cu cm
            have hTS := (HT.out.bel hb).now.2
            have hTT := (HST.out.bel hb).now.2
            have lS : S.2.1.length = 256 := HMS.out.2.1.1
            have lT : T.2.1.length = 256 := HMT.out.2.1.1
            obtain ⟨sb, so, es, _⟩ := hTS.at_ (by omega)
            obtain ⟨tb, to_, et, _⟩ := hTT.at_ (by omega)
            rw [es] at hTS
            rw [et] at hTT
            have cs := hTS.mk o (by omega)
            have ct := hTT.mk o (by omega)
            rw [oS] at cs
            rw [oT] at ct
            have d2 := bx2 (HX.out.below hb HX.out.lt)
            have e2 := bx2 (H8.out.below hb H8.out.lt)
            rw [es, lS] at d2
            rw [et, lT] at e2
            have f1 : decide ((o : Int) < 12) = false := decide_eq_false (by omega)
            have f2 : decide (o < 12) = false := decide_eq_false (by omega)
            have f3 : decide ((o : Int) > 255) = false := decide_eq_false (by omega)
            have f4 : decide ((255 : Int) < (o : Int)) = false := decide_eq_false (by omega)
            have f5 : decide (255 < o) = false := decide_eq_false (by omega)
            have o0 : (0 : Int) ≤ (o : Int) := by omega
            have o9 : (o : Int) < 256 := by omega
            have HBR := Lib.hid hb
            have HLT := Lib.hid hlt
            clear hb hnu hnm hnu2 hnm2 hTS hTT ho oS oT hoj o12 o256 es et lS lT eu2 em2 hlt
            go_wp2_with fail
            go_quiet (fail)
            go_wp2_with fail
            go_roundw
            case rel => exact ⟨j + 1, by have := HLT.out; omega, by go_num, below_drewN HBR.out _⟩
            case measure => simp [intOf]; have := HLT.out; omega
          · obtain rfl : j = k := by omega
            by_cases hk0 : j = 0
            · have e1 : ((j : Int) == 0) = true := by rw [hk0]; rfl
              have HBR := Lib.hid hb
              clear hb hk0
              go_wp2_with fail
              go_quiet (fail)
              go_wp2_with fail
              go_ret
              exact ⟨rfl, below_drewN (HB.out.trans (HBR.out.mono HB.out.size)) _⟩
            · have e1 : ((j : Int) == 0) = false := by simp; omega
              obtain ⟨ug, uc', eu, _, _, hnu⟩ := nsl_of_own HU.out (by omega)
              injection eu with eu1 _ eu2
              subst eu1
              have hnu2 := hnu.below hb
              obtain ⟨_, _, eu3, _, cu⟩ := hnu2.2.2.2.2 (by omega)
              cases eu3
              obtain ⟨hpa, hpb⟩ := HLAST.out (by omega)
              obtain ⟨o, ho⟩ : ∃ o, own.getD (j - 1) 0 = o := ⟨_, rfl⟩
              have cu := cu (j - 1) (by rw [hnu.1]; omega)
              have hoj : ∀ h : j - 1 < own.length, own[j - 1] = o := fun h => by rw [← ho, List.getD_eq_getElem?_getD, List.getElem?_eq_getElem h]; rfl
              rw [hoj, Nat.zero_add] at cu
              rw [ho] at hpa
              obtain ⟨r, hr⟩ : ∃ r, j - 1 = r := ⟨_, rfl⟩
              rw [hr] at cu
              have i0 := bx0 (H9.out.below hb H9.out.lt)
              have i1 := bx1 (H9.out.below hb H9.out.lt)
              rw [hpa] at i0
              rw [hpb] at i1
              have r1 : (j : Int) - 1 = (r : Int) := by omega
              have r0 : (0 : Int) ≤ (r : Int) := by omega
              have r9 : (r : Int) < (j : Int) := by omega
              have j1 : (0 : Int) < (j : Int) := by omega
              have HBR := Lib.hid hb
              clear hb hnu hnu2 ho hoj hr hpa hpb hk0 eu2
              go_wp2_with fail
              go_quiet (fail)
              go_wp2_with fail
              go_ret
              exact ⟨rfl, below_drewN (HB.out.trans (HBR.out.mono HB.out.size)) _⟩
theorem deadBack_walk (x : SAt) (S : StL) (bi : Int) (a : Option Addr) (n c : Nat) (l : List Pt) (w : World) (hz : Szs w) (h : Str w w.heap.size x S) (hnear : Near S.1) (hwf : WfS S) (hbi : (Lit.int .u32 bi).wf = true) (hp : Pts w w.heap.size a n c l) :
    Calls Tryz.prog 5 #[stV x S, .int .u32 bi, .slice a n c] w fun e w' => e = .returned (.bool true) ∧ Below w.heap.size w w' := by
  obtain ⟨m, rfl, hm⟩ := u32_wf hbi
  exact deadBack_at x S m a n c l w hz h hnear hwf hm hp
end Go.Proofs.YtadffkfalclpjaaGreatDoor
namespace Go.Proofs.YtadffkfalclpjaaGreatDoor.deadBack
open Go.ChangeShapes Go.WideShapes Go.ChangeAt Go.RowKit
set_option linter.unusedVariables false

theorem own : ownKnob Tryz.prog.godebug = none := by kernel_rfl
theorem laidOut : laidOutB Tryz.prog = true := by kernel_rfl

set_option maxRecDepth 100000 in
theorem lifted (os : Os) (started : os.Started) (H : Type) (enc : TypeId × Value → H) :
    ReturnsInHanded {} Tryz.checked os 5 .any (fun w args => (Rows.deadBackSpec.pre enc Tryz.prog Tryz.f5 [] false w args ∧ laidMetH Tryz.prog [("charterhouse/ptr.sizes", Rows.laid_charterhouse_ptr_sizes)] w) ∧ sizedMet enc Tryz.prog Tryz.f5 (OpenSpec.ofChange Rows.deadBackSpec) false w args)
      (Rows.deadBackSpec.post enc Tryz.prog Tryz.f5 false true false false) := by
  refine returnsInHanded_of_change_and (C := Tryz.checked) (X := fun w _ => laidMetH Tryz.prog [("charterhouse/ptr.sizes", Rows.laid_charterhouse_ptr_sizes)] w) (fun _ _ _ hh h => h.of_heap hh) own started (by kernel_rfl) Tryz.func5
    (ChangeSpec.witness_shaped (enc := enc) (C := Tryz.checked) (os := os) (X := fun w _ => laidMetH Tryz.prog [("charterhouse/ptr.sizes", Rows.laid_charterhouse_ptr_sizes)] w) false (World.doorLaid Tryz.prog 400 os) #[.agg #[.slice none 0 0, .slice none 0 0, .slice none 0 0, .int .u32 0, .int .u32 0], .int .u32 0, .slice none 0 0] 8 rfl (World.shaped_of_RefB (by kernel_rfl) (by kernel_rfl)) (by kernel_rfl) (by kernel_rfl) (by kernel_rfl) (door_met os _)) ?_
  intro W base args ds gs before hval0 hW _ hsz hL _
  have hval : ∀ (j : Nat) t v, Tryz.f5.params[j]? = some t → args[j]? = some v → Value.okWide Tryz.prog W .any base t v := hval0
  have hW' := hW
  obtain ⟨p, q, hA0, hV, rfl, hfz, hnd⟩ := hW
  have hA : DataW.TrodAll enc Tryz.prog W 0 (fun _ => true) true Tryz.f5.params.toList args.toList ds p := hA0
  rw [Tryz.params5] at hA hval
  obtain ⟨v0, vs0, d0, ds0, p0, q0, hargs, rfl, rfl, h0, r0⟩ := trodAll_cons hA
  obtain ⟨v1, vs1, d1, ds1, p1, q1, rfl, rfl, rfl, h1, r1⟩ := trodAll_cons r0
  obtain ⟨v2, vs2, d2, ds2, p2, q2, rfl, rfl, rfl, h2, r2⟩ := trodAll_cons r1
  obtain ⟨rfl, rfl, rfl⟩ := trodAll_nil r2
  obtain rfl : args = #[v0, v1, v2] := by cases args; simp_all
  obtain ⟨rfl, rfl⟩ := trodVars_none hV
  have k0 := h0
  have lt0 : ∀ x ∈ p0, x.block < W.heap.size := by obtain ⟨m, hm⟩ := k0; exact DataW.trod_lt m _ _ _ hm
  obtain ⟨x0, S0, rfl, w0, m0, f0⟩ := open_store (hval 0 38 v0 rfl rfl) h0 (fun n hn => by
    have := List.all_eq_true.1 hsz n (DataW.weights_mem_each (j := 0) (t := 38) (by kernel_rfl) rfl n hn)
    simpa using this)
  obtain ⟨a1, rfl, rfl, rfl, w1⟩ := open_int Tryz.underlying26 (hval 1 26 v1 rfl rfl) h1
  obtain ⟨a2, len2, cap2, rfl⟩ := okWide_slice Tryz.underlying22 (hval 2 22 v2 rfl rfl)
  have k2 := h2
  have lt2 : ∀ x ∈ p2, x.block < W.heap.size := by obtain ⟨m, hm⟩ := k2; exact DataW.trod_lt m _ _ _ hm
  obtain ⟨L2, w2⟩ := open_ptrs h2
  clear hA0 hval0
  refine (deadBack_walk x0 S0 a1 a2 len2 cap2 L2 W (szs_of_laid hL) w0 m0 f0 w1 w2).mono fun e W' ⟨he, bel⟩ => ?_
  subst he
  exact ⟨_, rfl, _, _, _, [], _, [], hW', trodAll_mk1 (shut_bool Tryz.underlying4 _), (trodAll_cons_mk (Below.trod laidOut (by kernel_rfl) (of_decide_eq_true (by kernel_rfl)) k0 bel lt0) (trodAll_cons_mk (shut_int Tryz.underlying26 w1) (trodAll_cons_mk (Below.trod laidOut (by kernel_rfl) (of_decide_eq_true (by kernel_rfl)) k2 bel lt2) trodAll_mk0))), rfl, bel.frame _, fun h => by cases h⟩

theorem over : Rows.DeadBackSaid :=
  OpenClaim.holds_of_wide 5 Tryz.f5 rfl rfl rfl rfl rfl rfl rfl ⟨rfl, rfl, rfl, rfl, rfl⟩ rfl rfl rfl rfl rfl (by kernel_rfl) Tryz.func5 (by kernel_rfl)
    (of_decide_eq_true (by kernel_rfl)) (by unfold Func.isWrapper; first | (rw [if_pos (by decide +kernel)]; kernel_rfl) | (rw [if_neg (by decide +kernel)]; exact ⟨rfl, rfl⟩))
    (fun os started H enc _ => lifted os started H enc)

/-- The statement. -/
theorem proved : Rows.DeadBackCardSaid :=
  Claim7.holds_tied_plain_at .later [] [.data] true _ true
    over (fun _ h => by cases h) (by kernel_rfl) (fun _ h => by cases h) deadBack_row_tie rfl ⟨rfl, rfl⟩ (by kernel_rfl) rfl
    (fun f fn hf hfn => by
      obtain rfl : f = 5 := Option.some.inj ((show Tryz.prog.funcNamed "charterhouse/charterhouselaw16.DeadBack" = some 5 by kernel_rfl).symm.trans hf) |>.symm
      obtain rfl : fn = Tryz.f5 := (Option.some.inj (Tryz.func5.symm.trans hfn)).symm
      exact ⟨by kernel_rfl, fun j t ht => by
        rw [Tryz.params5] at ht
        have hm : t ∈ [38, 26, 22] := by simpa using Array.mem_of_getElem? ht
        have hall : ([38, 26, 22].all fun u => !Tryz.prog.wantsStandIn u) = true := by kernel_rfl
        exact (show Tryz.prog.wantsStandIn t = false by simpa using List.all_eq_true.1 hall t hm)⟩)
    (by kernel_rfl)
end Go.Proofs.YtadffkfalclpjaaGreatDoor.deadBack
