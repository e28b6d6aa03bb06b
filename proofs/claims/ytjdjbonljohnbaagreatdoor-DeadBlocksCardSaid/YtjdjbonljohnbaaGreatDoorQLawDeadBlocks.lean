/-
  DeadBlocksSaid: for any store, birth, list and pointer (where the store is great, or the list has more than 1,000 pointers, the law itself answers true) dead lists are laid and loaded as the document's own functions do it; what was handed in stays where what was answered is turned. No condition but the tied one: ptr.sizes reads as its own initialiser says.
-/
import Derived.Test.YtjdjbonljohnbaaGreatDoorRows
import Derived.Test.YtjdjbonljohnbaaGreatDoorPkDB7
namespace Go.Proofs.YtjdjbonljohnbaaGreatDoor
open Go.RowKit Go.Shelf
set_option maxRecDepth 100000

theorem lay_few (S : StL) (b : Nat) (l : List Pt) (hw : ∀ q ∈ l, WfP q) : (layO S b l).1 = st0 ∨ MayS (layO S b l).1 := by
  rcases layO_cases S b l hw with ⟨e, h, _⟩ | ⟨hm, _, _, h⟩ | ⟨T, ps, p, _, _, _, _, h, ht, _⟩
  · exact .inl (by rw [h])
  · exact .inr (by rw [h]; exact hm)
  · exact .inr (by rw [h]; exact ht)
theorem lay_own_few (S : StL) (b : Nat) (l : List Pt) (hw : ∀ q ∈ l, WfP q) : (layO S b l).2.2.1.length ≤ 100000 := by
  rcases layO_cases S b l hw with ⟨e, h, _⟩ | ⟨hm, _, _, h⟩ | ⟨T, ps, p, _, hl, _, _, h, _, hn, _⟩
  · rw [h]; simp
  · rw [h]; simp
  · rw [h]
    have := rowsN_le hl.1
    rw [← hn] at this
    simp only [blksD, List.length_map, List.length_append, List.length_cons, List.length_nil]
    omega
theorem load_own_few (S : StL) (p : Pt) : (loadO S p).2.1.length ≤ 100000 := by
  unfold loadO
  split
  · unfold loadedO
    split
    · simp
    · split
      · simp
      · split
        · simp
        · split
          · simp
          · split
            · simp
            · split
              · rename_i rows ht _ _ _
                have h1 := (trimD_some ht).1
                have h2 : rows.length ≤ (seenR S p).1.length := by rw [h1, List.length_take]; omega
                have h3 : (seenR S p).1.length ≤ 16 := by
                  rcases seenR_cases S p with ⟨e2, h2_, _⟩ | ⟨R3, h2_, hl3, _⟩
                  · rw [h2_]; simp
                  · rw [h2_]; simp only; omega
                simp only [blksD, List.length_append, List.length_map, List.length_cons, List.length_nil]
                omega
              · simp
  · simp
theorem rpSame_one {f : Nat} {args : Array Value} {w : World} {L : List Pt} (h : Calls Tryz.prog f args w fun e w' => e = .returned (.bool (decide (L = L))) ∧ Below w.heap.size w w') : Calls Tryz.prog f args w fun e w' => e = .returned (.bool true) ∧ Below w.heap.size w w' := by
  rw [decide_eq_true (show L = L from rfl)] at h
  exact h
/-- Behind a box of another block. -/
theorem hiS_bel {w w' : World} {B : Nat} {x : SAt} {S : StL} (h : HiS w B x S) (b : Below w.heap.size w w') : HiS w' B x S := h.keeps (Keeps.of_below (L := 0) b)
theorem pts_far5 {w w1 : World} {g n c : Nat} {a : Option Addr} {l : List Pt} (h : Pts w w.heap.size a n c l) (b : Below w.heap.size w w1) (hg : w.heap.size = g) (v0 v1 v2 v3 v4 : Value) : Pts (set5 w1 g v0 v1 v2 v3 v4) (set5 w1 g v0 v1 v2 v3 v4).heap.size a n c l :=
  h.step (below_set5 b (Nat.le_of_eq hg) v0 v1 v2 v3 v4)
set_option linter.unusedSimpArgs false in
set_option maxHeartbeats 32000000 in
theorem deadBlocks_at (x : SAt) (S : StL) (b : Nat) (a : Option Addr) (n c : Nat) (l : List Pt) (pa : Int) (pb pi pt ps : Nat) (w : World) (hz : Szs w) (h : Str w w.heap.size x S) (hnear : Near S.1) (hwf : WfS S) (hbi : b < 4294967296) (hp : Pts w w.heap.size a n c l) (hwp : WfP (pa, pb, pi, pt, ps)) :
    Calls Tryz.prog 3 #[stV x S, .int .u32 (b : Int), .slice a n c, ptV (pa, pb, pi, pt, ps)] w fun e w' => e = .returned (.bool true) ∧ Below w.heap.size w w' := by
  have hmx : Tryz.prog.follows Departure.mixedOrders = true := by kernel_rfl
  have HST := Lib.hid h
  have HPS := Lib.hid hp
  have HZ0 := Lib.hid hz
  have b9 : (b : Int) ≤ 4294967295 := by omega
  have bb0 : (0 : Int) ≤ (b : Int) := by omega
  have n0 : (0 : Int) ≤ (n : Int) := by omega
  obtain ⟨w0, hw0, b0, z0, q1, q2⟩ := two_al w (stC x S) (ptA (pa, pb, pi, pt, ps)) 29 32
  obtain ⟨g, hg⟩ : ∃ g, w.heap.size = g := ⟨_, rfl⟩
  obtain ⟨g1, hg1⟩ : ∃ g1, g + 1 = g1 := ⟨_, rfl⟩
  rw [hg] at q1 q2
  rw [hg1] at q2
  have HX := Lib.hid q1
  have HPB := Lib.hid q2
  have HB := Lib.hid b0
  have HZ := Lib.hid (hz.step b0)
  have HN := Lib.hid hnear
  have HWF := Lib.hid hwf
  have HBI := Lib.hid hbi
  have HWP := Lib.hid hwp
  have HWQ := Lib.hid (fun (q_ : Pt) (hq_ : q_ ∈ l) => hp.wf hq_)
  have HLN := Lib.hid hp.1
  simp only [stC, ptA] at hw0
  clear b0 z0 q1 q2 hz hnear hwf hbi hwp h hp
  have HTN := Lib.hid (fun (W : World) (b_ : Below w.heap.size w W) => (HST.out.below b_).lasts b_.size)
  have HPN := Lib.hid (fun (W : World) (b_ : Below w.heap.size w W) => HPS.out.step b_)
  have d0 := bx0 HX.out
  have d1 := bx1 HX.out
  have d2 := bx2 HX.out
  have d3 := bx3 HX.out
  have d4 := bx4 HX.out
  have HGR := Lib.hid (rtGreat_any w.heap.size x S w0 (HTN.out w0 HB.out) HN.out)
  go_enter Tryz.func3, Tryz.ntmps3
  go_wp2_with fail
  try rw [hw0]
  try rw [hg]
  try rw [hg1]
  clear hw0 hg1
  clear d0 d1 d2 d3 d4
  refine HGR.out.mono ?_
  rintro e w2 ⟨gr, rfl, hsm, b2⟩
  replace HX := Lib.hid (HX.out.below b2 HX.out.lt)
  replace HPB := Lib.hid (HPB.out.below b2 HPB.out.lt)
  replace HB := Lib.hid (HB.out.trans (b2.mono HB.out.size))
  replace HZ := Lib.hid (HZ.out.step b2)
  clear b2 HGR
  cases gr with
  | true =>
    go_wp2_with fail
    go_ret
    exact ⟨rfl, HB.out⟩
  | false =>
    have HOK := Lib.hid (show OkS S from ⟨small_fits (hsm rfl).1, by have := (hsm rfl).2; omega, HWF.out⟩)
    have HSM := Lib.hid (hsm rfl)
    clear hsm
    by_cases hn : 1000 < n
    · have hn0 : decide ((n : Int) > 1000) = true := decide_eq_true (by omega)
      have hn1 : decide ((1000 : Int) < (n : Int)) = true := decide_eq_true (by omega)
      have hn2 : decide (1000 < n) = true := decide_eq_true (by omega)
      go_wp2_with fail
      go_ret
      exact ⟨rfl, HB.out⟩
    · have hn9 : (n : Int) ≤ 1000 := by omega
      have hn0 : decide ((n : Int) > 1000) = false := decide_eq_false (by omega)
      have hn1 : decide ((1000 : Int) < (n : Int)) = false := decide_eq_false (by omega)
      have hn2 : decide (1000 < n) = false := decide_eq_false (by omega)
      have d0 := bx0 HX.out
      have d1 := bx1 HX.out
      have d2 := bx2 HX.out
      have d3 := bx3 HX.out
      have d4 := bx4 HX.out
      have HTW := Lib.hid (rtTwin_any w.heap.size x S w2 (HTN.out w2 HB.out) HOK.out.1 (by have := HSM.out.2; omega) HB.out.size)
      have HN9 := Lib.hid hn9
      go_wp2_with fail
      clear d0 d1 d2 d3 d4
      clear hn0 hn1 hn2 hn hn9
      refine HTW.out.mono ?_
      rintro e w3 ⟨y, rfl, hy, b3⟩
      replace HX := Lib.hid (HX.out.below b3 HX.out.lt)
      replace HPB := Lib.hid (HPB.out.below b3 HPB.out.lt)
      replace HB := Lib.hid (HB.out.trans (b3.mono HB.out.size))
      replace HZ := Lib.hid (HZ.out.step b3)
      have HY3 := Lib.hid hy
      clear b3 hy HTW
      go_wp2_with (
        at_builtin
        refine wpList_append_prow rfl (.const (.slice none 0 0)) (.tmp 35) rfl w3.heap.size _ [] rfl (prow_nil w3 _) _ a n c l rfl (HPN.out w3 HB.out) (by have := HN9.out; simp only [List.length_nil]; omega) (Nat.le_refl _) ?_
        intro v4 w4 hp4 hg4
        rw [List.nil_append] at hp4
        have b4 := app_below (Below.refl w3.heap.size w3) (prow_nil w3 w3.heap.size).1 hg4 (Nat.le_refl _)
        obtain ⟨am, cm, rfl, hm4⟩ := hp4.pts
        replace HX := Lib.hid (HX.out.below b4 HX.out.lt)
        replace HPB := Lib.hid (HPB.out.below b4 HPB.out.lt)
        replace HB := Lib.hid (HB.out.trans (b4.mono HB.out.size))
        replace HZ := Lib.hid (HZ.out.step b4)
        have HY4 := Lib.hid (HY3.out.bel b4)
        obtain ⟨w5a, g5, hn5, hg5, b5, x5⟩ := new_box w4 #[.slice none 0 0, .slice none 0 0, .slice none 0 0, .int .u32 0, .int .u32 0] 29
        have l0 : g < g5 ∧ g1 < g5 := hg5 ▸ And.intro HX.out.lt HPB.out.lt
        have k0 : w.heap.size ≤ g5 := hg5 ▸ HB.out.size
        have HM5 := Lib.hid (hm4.step b5)
        have HY5 := Lib.hid (HY4.out.bel b5)
        replace HX := Lib.hid (HX.out.below b5 HX.out.lt)
        replace HPB := Lib.hid (HPB.out.below b5 HPB.out.lt)
        replace HB := Lib.hid (HB.out.trans (b5.mono HB.out.size))
        replace HZ := Lib.hid (HZ.out.step b5)
        have z0 := stZ0 x5
        have z1 := stZ1 x5
        have z2 := stZ2 x5
        have z3 := stZ3 x5
        have z4_ := stZ4 x5
        have zf := fun i => x5.frozen i
        have xa := x5.set5 (.slice y.d.ba S.1.1.length y.d.bc) (.slice y.d.wa S.1.2.length y.d.wc) (.slice y.a S.2.1.length y.c) (.int .u32 (S.2.2.1 : Int)) (.int .u32 (S.2.2.2 : Int))
        have yX := far5_bl (g := g5) HX.out (show g ≠ g5 by omega) (.slice y.d.ba S.1.1.length y.d.bc) (.slice y.d.wa S.1.2.length y.d.wc) (.slice y.a S.2.1.length y.c) (.int .u32 (S.2.2.1 : Int)) (.int .u32 (S.2.2.2 : Int))
        have yP := far5_bl (g := g5) HPB.out (show g1 ≠ g5 by omega) (.slice y.d.ba S.1.1.length y.d.bc) (.slice y.d.wa S.1.2.length y.d.wc) (.slice y.a S.2.1.length y.c) (.int .u32 (S.2.2.1 : Int)) (.int .u32 (S.2.2.2 : Int))
        have wB := below_set5 HB.out k0 (.slice y.d.ba S.1.1.length y.d.bc) (.slice y.d.wa S.1.2.length y.d.wc) (.slice y.a S.2.1.length y.c) (.int .u32 (S.2.2.1 : Int)) (.int .u32 (S.2.2.2 : Int))
        have kk := Keeps.of_box (L := 0) (only_set5 (World.grownBy.refl w5a (some g5)) (.slice y.d.ba S.1.1.length y.d.bc) (.slice y.d.wa S.1.2.length y.d.wc) (.slice y.a S.2.1.length y.c) (.int .u32 (S.2.2.1 : Int)) (.int .u32 (S.2.2.2 : Int))) x5 (by decide) (Nat.zero_le _)
        have mm : Pts (set5 w5a g5 (.slice y.d.ba S.1.1.length y.d.bc) (.slice y.d.wa S.1.2.length y.d.wc) (.slice y.a S.2.1.length y.c) (.int .u32 (S.2.2.1 : Int)) (.int .u32 (S.2.2.2 : Int))) (set5 w5a g5 (.slice y.d.ba S.1.1.length y.d.bc) (.slice y.d.wa S.1.2.length y.d.wc) (.slice y.a S.2.1.length y.c) (.int .u32 (S.2.2.1 : Int)) (.int .u32 (S.2.2.2 : Int))).heap.size am l.length cm l := pts_far5 hm4 b5 hg5 (.slice y.d.ba S.1.1.length y.d.bc) (.slice y.d.wa S.1.2.length y.d.wc) (.slice y.a S.2.1.length y.c) (.int .u32 (S.2.2.1 : Int)) (.int .u32 (S.2.2.2 : Int))
        obtain ⟨w5, dn⟩ : ∃ X, set5 w5a g5 (.slice y.d.ba S.1.1.length y.d.bc) (.slice y.d.wa S.1.2.length y.d.wc) (.slice y.a S.2.1.length y.c) (.int .u32 (S.2.2.1 : Int)) (.int .u32 (S.2.2.2 : Int)) = X := ⟨_, rfl⟩
        rw [dn] at xa yX yP wB kk mm
        simp only [set5] at dn
        replace HX := Lib.hid yX
        replace HPB := Lib.hid yP
        replace HB := Lib.hid wB
        replace HZ := Lib.hid (HZ0.out.step HB.out)
        have H5 := Lib.hid xa
        have HOWN := Lib.hid (HY5.out.step kk).now
        have HM := Lib.hid mm
        rw [HLN.out] at HM
        rw [HLN.out]
        clear b4 hp4 hg4 hm4 b5 x5 l0 k0 xa yX yP wB kk mm HM5 HY5 HY4 HY3
        have d0 := bx0 H5.out
        have d1 := bx1 H5.out
        have d2 := bx2 H5.out
        have d3 := bx3 H5.out
        have d4 := bx4 H5.out)
      clear z0 z1 z2 z3 z4_ zf dn d0 d1 d2 d3 d4
      have HBS := Lib.hid (show w.heap.size ≤ w5.heap.size from HB.out.size)
      have HK5 := Lib.hid (Below.refl w5.heap.size w5)
      have HYN := Lib.hid (fun (W : World) (b_ : Below w5.heap.size w5 W) => (HOWN.out.below b_).lasts b_.size)
      have HMN := Lib.hid (fun (W : World) (b_ : Below w5.heap.size w5 W) => HM.out.step b_)
      obtain ⟨⟨T, ⟨qa, qb, qi, qt, qs⟩, own, ee⟩, ho⟩ : ∃ o, layO S b l = o := ⟨_, rfl⟩
      obtain ⟨⟨l2, own2, e2⟩, ho2⟩ : ∃ o, loadO S (pa, pb, pi, pt, ps) = o := ⟨_, rfl⟩
      have hf1 := lay_few S b l HWQ.out
      have hf2 := lay_own_few S b l HWQ.out
      have hf3 := load_own_few S (pa, pb, pi, pt, ps)
      rw [ho] at hf1 hf2
      rw [ho2] at hf3
      simp only at hf1 hf2 hf3
      have HF1 := Lib.hid hf1
      have HF2 := Lib.hid hf2
      have HF3 := Lib.hid hf3
      have HFE := Lib.hid (show FewS T from hf1.elim (fun e => e ▸ few_st0) few_may)
      have HO := Lib.hid ho
      have HO2 := Lib.hid ho2
      obtain ⟨nn, hnn⟩ : ∃ k, own.length = k := ⟨_, rfl⟩
      obtain ⟨n2, hn2⟩ : ∃ k, own2.length = k := ⟨_, rfl⟩
      obtain ⟨m2, hm2⟩ : ∃ k, l2.length = k := ⟨_, rfl⟩
      have HNN := Lib.hid hnn
      have HN2 := Lib.hid hn2
      have HM2 := Lib.hid hm2
      clear hf1 hf2 hf3 ho ho2 hnn hn2 hm2
      have hc := ddLay_any w5.heap.size y S b am n cm l w5 (HYN.out w5 HK5.out) HBI.out (HMN.out w5 HK5.out) HZ.out (Nat.le_refl _)
      rw [HO.out] at hc
      have HCC := Lib.hid hc
      clear hc
      refine HCC.out.mono ?_
      rintro e w6 ⟨y1, u1, rfl, st_, hi_, hu_, b_⟩
      simp only at st_ hu_ hi_
      rw [HNN.out] at hu_
      obtain ⟨u1a, u1c, rfl⟩ := nrow_slice hu_
      replace HX := Lib.hid (HX.out.below b_ HX.out.lt)
      replace HPB := Lib.hid (HPB.out.below b_ HPB.out.lt)
      replace HB := Lib.hid (HB.out.trans (b_.mono HB.out.size))
      replace H5 := Lib.hid (H5.out.below b_ H5.out.lt)
      replace HK5 := Lib.hid (HK5.out.trans (b_.mono HK5.out.size))
      replace HZ := Lib.hid (HZ.out.step b_)
      have Sy1 := Lib.hid st_.now
      have Uy1 := Lib.hid hu_
      have Iy1 := Lib.hid hi_
      have HK6 := Lib.hid (Below.refl w6.heap.size w6)
      clear st_ hu_ b_ HCC hi_
      obtain ⟨w7a, hwa, ba_, za_, q8, q9⟩ := two_al w6 #[.slice none 0 0, .slice none 0 0, .slice none 0 0, .int .u32 0, .int .u32 0] #[.int .i64 0, .int .u32 0, .int .u32 0, .int .u32 0, .int .u32 0] 29 32
      obtain ⟨gA, hgA⟩ : ∃ k, w6.heap.size = k := ⟨_, rfl⟩
      obtain ⟨gAP, hgB⟩ : ∃ k, gA + 1 = k := ⟨_, rfl⟩
      rw [hgA] at q8 q9 ba_
      rw [hgB] at q9
      have bq : Below w6.heap.size w6 w7a := hgA ▸ ba_
      have lHX : g < gA := hgA ▸ HX.out.lt
      have lHPB : g1 < gA := hgA ▸ HPB.out.lt
      have lH5 : g5 < gA := hgA ▸ H5.out.lt
      have kHB : w.heap.size ≤ gA := by rw [← hgA]; exact HB.out.size
      have kHK5 : w5.heap.size ≤ gA := by rw [← hgA]; exact HK5.out.size
      have kHK6 : w6.heap.size ≤ gA := by rw [← hgA]; exact HK6.out.size
      replace HX := Lib.hid (HX.out.below bq HX.out.lt)
      replace HPB := Lib.hid (HPB.out.below bq HPB.out.lt)
      replace HB := Lib.hid (HB.out.trans (bq.mono HB.out.size))
      replace H5 := Lib.hid (H5.out.below bq H5.out.lt)
      replace HK5 := Lib.hid (HK5.out.trans (bq.mono HK5.out.size))
      replace HK6 := Lib.hid (HK6.out.trans (bq.mono HK6.out.size))
      replace HZ := Lib.hid (HZ.out.step bq)
      have z0 := stZ0 q8
      have z1 := stZ1 q8
      have z2 := stZ2 q8
      have z3 := stZ3 q8
      have z4_ := stZ4 q8
      have zf := fun i => q8.frozen i
      have xa := q8.set5 (.slice y1.d.ba T.1.1.length y1.d.bc) (.slice y1.d.wa T.1.2.length y1.d.wc) (.slice y1.a T.2.1.length y1.c) (.int .u32 (T.2.2.1 : Int)) (.int .u32 (T.2.2.2 : Int))
      have y9 := far5_bl (g := gA) q9 (show gAP ≠ gA by omega) (.slice y1.d.ba T.1.1.length y1.d.bc) (.slice y1.d.wa T.1.2.length y1.d.wc) (.slice y1.a T.2.1.length y1.c) (.int .u32 (T.2.2.1 : Int)) (.int .u32 (T.2.2.2 : Int))
      have yHX := far5_bl (g := gA) HX.out (show g ≠ gA by omega) (.slice y1.d.ba T.1.1.length y1.d.bc) (.slice y1.d.wa T.1.2.length y1.d.wc) (.slice y1.a T.2.1.length y1.c) (.int .u32 (T.2.2.1 : Int)) (.int .u32 (T.2.2.2 : Int))
      have yHPB := far5_bl (g := gA) HPB.out (show g1 ≠ gA by omega) (.slice y1.d.ba T.1.1.length y1.d.bc) (.slice y1.d.wa T.1.2.length y1.d.wc) (.slice y1.a T.2.1.length y1.c) (.int .u32 (T.2.2.1 : Int)) (.int .u32 (T.2.2.2 : Int))
      have yH5 := far5_bl (g := gA) H5.out (show g5 ≠ gA by omega) (.slice y1.d.ba T.1.1.length y1.d.bc) (.slice y1.d.wa T.1.2.length y1.d.wc) (.slice y1.a T.2.1.length y1.c) (.int .u32 (T.2.2.1 : Int)) (.int .u32 (T.2.2.2 : Int))
      have wHB := below_set5 HB.out kHB (.slice y1.d.ba T.1.1.length y1.d.bc) (.slice y1.d.wa T.1.2.length y1.d.wc) (.slice y1.a T.2.1.length y1.c) (.int .u32 (T.2.2.1 : Int)) (.int .u32 (T.2.2.2 : Int))
      have wHK5 := below_set5 HK5.out kHK5 (.slice y1.d.ba T.1.1.length y1.d.bc) (.slice y1.d.wa T.1.2.length y1.d.wc) (.slice y1.a T.2.1.length y1.c) (.int .u32 (T.2.2.1 : Int)) (.int .u32 (T.2.2.2 : Int))
      have wHK6 := below_set5 HK6.out kHK6 (.slice y1.d.ba T.1.1.length y1.d.bc) (.slice y1.d.wa T.1.2.length y1.d.wc) (.slice y1.a T.2.1.length y1.c) (.int .u32 (T.2.2.1 : Int)) (.int .u32 (T.2.2.2 : Int))
      obtain ⟨w7b, dn⟩ : ∃ X, set5 w7a gA (.slice y1.d.ba T.1.1.length y1.d.bc) (.slice y1.d.wa T.1.2.length y1.d.wc) (.slice y1.a T.2.1.length y1.c) (.int .u32 (T.2.2.1 : Int)) (.int .u32 (T.2.2.2 : Int)) = X := ⟨_, rfl⟩
      rw [dn] at xa y9 yHX yHPB yH5 wHB wHK5 wHK6
      simp only [set5] at dn
      have p0_ := ptZ0 y9
      have p1_ := ptZ1 y9
      have p2_ := ptZ2 y9
      have p3_ := ptZ3 y9
      have p4_ := ptZ4 y9
      have pf := fun i => y9.frozen i
      have xc := y9.set5 (.int .i64 qa) (.int .u32 (qb : Int)) (.int .u32 (qi : Int)) (.int .u32 (qt : Int)) (.int .u32 (qs : Int))
      have v8 := far5_bl (g := gAP) xa (show gA ≠ gAP by omega) (.int .i64 qa) (.int .u32 (qb : Int)) (.int .u32 (qi : Int)) (.int .u32 (qt : Int)) (.int .u32 (qs : Int))
      have vHX := far5_bl (g := gAP) yHX (show g ≠ gAP by omega) (.int .i64 qa) (.int .u32 (qb : Int)) (.int .u32 (qi : Int)) (.int .u32 (qt : Int)) (.int .u32 (qs : Int))
      have vHPB := far5_bl (g := gAP) yHPB (show g1 ≠ gAP by omega) (.int .i64 qa) (.int .u32 (qb : Int)) (.int .u32 (qi : Int)) (.int .u32 (qt : Int)) (.int .u32 (qs : Int))
      have vH5 := far5_bl (g := gAP) yH5 (show g5 ≠ gAP by omega) (.int .i64 qa) (.int .u32 (qb : Int)) (.int .u32 (qi : Int)) (.int .u32 (qt : Int)) (.int .u32 (qs : Int))
      have uHB := below_set5 wHB (Nat.le_trans kHB (show gA ≤ gAP by omega)) (.int .i64 qa) (.int .u32 (qb : Int)) (.int .u32 (qi : Int)) (.int .u32 (qt : Int)) (.int .u32 (qs : Int))
      have uHK5 := below_set5 wHK5 (Nat.le_trans kHK5 (show gA ≤ gAP by omega)) (.int .i64 qa) (.int .u32 (qb : Int)) (.int .u32 (qi : Int)) (.int .u32 (qt : Int)) (.int .u32 (qs : Int))
      have uHK6 := below_set5 wHK6 (Nat.le_trans kHK6 (show gA ≤ gAP by omega)) (.int .i64 qa) (.int .u32 (qb : Int)) (.int .u32 (qi : Int)) (.int .u32 (qt : Int)) (.int .u32 (qs : Int))
      obtain ⟨w8, pn⟩ : ∃ X, set5 w7b gAP (.int .i64 qa) (.int .u32 (qb : Int)) (.int .u32 (qi : Int)) (.int .u32 (qt : Int)) (.int .u32 (qs : Int)) = X := ⟨_, rfl⟩
      rw [pn] at xc v8 vHX vHPB vH5 uHB uHK5 uHK6
      simp only [set5] at pn
      replace HX := Lib.hid vHX
      replace HPB := Lib.hid vHPB
      replace H5 := Lib.hid vH5
      replace HB := Lib.hid uHB
      replace HK5 := Lib.hid uHK5
      replace HK6 := Lib.hid uHK6
      replace HZ := Lib.hid (HZ0.out.step HB.out)
      have HA := Lib.hid v8
      have HAP := Lib.hid xc
      clear ba_ za_ q8 q9 bq xa y9 xc v8 lHX yHX vHX lHPB yHPB vHPB lH5 yH5 vH5 kHB wHB uHB kHK5 wHK5 uHK5 kHK6 wHK6 uHK6
      have d0 := bx0 HX.out
      have d1 := bx1 HX.out
      have d2 := bx2 HX.out
      have d3 := bx3 HX.out
      have d4 := bx4 HX.out
      have hc := ruLay_any w.heap.size x S b a n c l w8 (HTN.out w8 HB.out) HBI.out (HPN.out w8 HB.out) HB.out.size
      rw [HO.out] at hc
      have HCC := Lib.hid hc
      clear hc
      go_wp2_with fail
      clear z0 z1 z2 z3 z4_ zf dn p0_ p1_ p2_ p3_ p4_ pf pn hwa hgA hgB
      clear d0 d1 d2 d3 d4
      refine HCC.out.mono ?_
      rintro e w9 ⟨y2, u2, rfl, st_, hu_, b_⟩
      simp only at st_ hu_
      rw [HNN.out] at hu_
      obtain ⟨u2a, u2c, rfl⟩ := nrow_slice hu_
      replace HX := Lib.hid (HX.out.below b_ HX.out.lt)
      replace HPB := Lib.hid (HPB.out.below b_ HPB.out.lt)
      replace HB := Lib.hid (HB.out.trans (b_.mono HB.out.size))
      replace H5 := Lib.hid (H5.out.below b_ H5.out.lt)
      replace HK5 := Lib.hid (HK5.out.trans (b_.mono HK5.out.size))
      replace HK6 := Lib.hid (HK6.out.trans (b_.mono HK6.out.size))
      replace HA := Lib.hid (HA.out.below b_ HA.out.lt)
      replace HAP := Lib.hid (HAP.out.below b_ HAP.out.lt)
      replace HZ := Lib.hid (HZ.out.step b_)
      have Sy2 := Lib.hid st_.now
      have Uy2 := Lib.hid hu_
      have HK9 := Lib.hid (Below.refl w9.heap.size w9)
      clear st_ hu_ b_ HCC
      obtain ⟨waa, hwa, ba_, za_, q8, q9⟩ := two_al w9 #[.slice none 0 0, .slice none 0 0, .slice none 0 0, .int .u32 0, .int .u32 0] #[.int .i64 0, .int .u32 0, .int .u32 0, .int .u32 0, .int .u32 0] 29 32
      obtain ⟨gC, hgA⟩ : ∃ k, w9.heap.size = k := ⟨_, rfl⟩
      obtain ⟨gCP, hgB⟩ : ∃ k, gC + 1 = k := ⟨_, rfl⟩
      rw [hgA] at q8 q9 ba_
      rw [hgB] at q9
      have bq : Below w9.heap.size w9 waa := hgA ▸ ba_
      have lHX : g < gC := hgA ▸ HX.out.lt
      have lHPB : g1 < gC := hgA ▸ HPB.out.lt
      have lH5 : g5 < gC := hgA ▸ H5.out.lt
      have lHA : gA < gC := hgA ▸ HA.out.lt
      have lHAP : gAP < gC := hgA ▸ HAP.out.lt
      have kHB : w.heap.size ≤ gC := by rw [← hgA]; exact HB.out.size
      have kHK5 : w5.heap.size ≤ gC := by rw [← hgA]; exact HK5.out.size
      have kHK6 : w6.heap.size ≤ gC := by rw [← hgA]; exact HK6.out.size
      have kHK9 : w9.heap.size ≤ gC := by rw [← hgA]; exact HK9.out.size
      replace HX := Lib.hid (HX.out.below bq HX.out.lt)
      replace HPB := Lib.hid (HPB.out.below bq HPB.out.lt)
      replace HB := Lib.hid (HB.out.trans (bq.mono HB.out.size))
      replace H5 := Lib.hid (H5.out.below bq H5.out.lt)
      replace HK5 := Lib.hid (HK5.out.trans (bq.mono HK5.out.size))
      replace HK6 := Lib.hid (HK6.out.trans (bq.mono HK6.out.size))
      replace HA := Lib.hid (HA.out.below bq HA.out.lt)
      replace HAP := Lib.hid (HAP.out.below bq HAP.out.lt)
      replace HK9 := Lib.hid (HK9.out.trans (bq.mono HK9.out.size))
      replace HZ := Lib.hid (HZ.out.step bq)
      have z0 := stZ0 q8
      have z1 := stZ1 q8
      have z2 := stZ2 q8
      have z3 := stZ3 q8
      have z4_ := stZ4 q8
      have zf := fun i => q8.frozen i
      have xa := q8.set5 (.slice y2.d.ba T.1.1.length y2.d.bc) (.slice y2.d.wa T.1.2.length y2.d.wc) (.slice y2.a T.2.1.length y2.c) (.int .u32 (T.2.2.1 : Int)) (.int .u32 (T.2.2.2 : Int))
      have y9 := far5_bl (g := gC) q9 (show gCP ≠ gC by omega) (.slice y2.d.ba T.1.1.length y2.d.bc) (.slice y2.d.wa T.1.2.length y2.d.wc) (.slice y2.a T.2.1.length y2.c) (.int .u32 (T.2.2.1 : Int)) (.int .u32 (T.2.2.2 : Int))
      have yHX := far5_bl (g := gC) HX.out (show g ≠ gC by omega) (.slice y2.d.ba T.1.1.length y2.d.bc) (.slice y2.d.wa T.1.2.length y2.d.wc) (.slice y2.a T.2.1.length y2.c) (.int .u32 (T.2.2.1 : Int)) (.int .u32 (T.2.2.2 : Int))
      have yHPB := far5_bl (g := gC) HPB.out (show g1 ≠ gC by omega) (.slice y2.d.ba T.1.1.length y2.d.bc) (.slice y2.d.wa T.1.2.length y2.d.wc) (.slice y2.a T.2.1.length y2.c) (.int .u32 (T.2.2.1 : Int)) (.int .u32 (T.2.2.2 : Int))
      have yH5 := far5_bl (g := gC) H5.out (show g5 ≠ gC by omega) (.slice y2.d.ba T.1.1.length y2.d.bc) (.slice y2.d.wa T.1.2.length y2.d.wc) (.slice y2.a T.2.1.length y2.c) (.int .u32 (T.2.2.1 : Int)) (.int .u32 (T.2.2.2 : Int))
      have yHA := far5_bl (g := gC) HA.out (show gA ≠ gC by omega) (.slice y2.d.ba T.1.1.length y2.d.bc) (.slice y2.d.wa T.1.2.length y2.d.wc) (.slice y2.a T.2.1.length y2.c) (.int .u32 (T.2.2.1 : Int)) (.int .u32 (T.2.2.2 : Int))
      have yHAP := far5_bl (g := gC) HAP.out (show gAP ≠ gC by omega) (.slice y2.d.ba T.1.1.length y2.d.bc) (.slice y2.d.wa T.1.2.length y2.d.wc) (.slice y2.a T.2.1.length y2.c) (.int .u32 (T.2.2.1 : Int)) (.int .u32 (T.2.2.2 : Int))
      have wHB := below_set5 HB.out kHB (.slice y2.d.ba T.1.1.length y2.d.bc) (.slice y2.d.wa T.1.2.length y2.d.wc) (.slice y2.a T.2.1.length y2.c) (.int .u32 (T.2.2.1 : Int)) (.int .u32 (T.2.2.2 : Int))
      have wHK5 := below_set5 HK5.out kHK5 (.slice y2.d.ba T.1.1.length y2.d.bc) (.slice y2.d.wa T.1.2.length y2.d.wc) (.slice y2.a T.2.1.length y2.c) (.int .u32 (T.2.2.1 : Int)) (.int .u32 (T.2.2.2 : Int))
      have wHK6 := below_set5 HK6.out kHK6 (.slice y2.d.ba T.1.1.length y2.d.bc) (.slice y2.d.wa T.1.2.length y2.d.wc) (.slice y2.a T.2.1.length y2.c) (.int .u32 (T.2.2.1 : Int)) (.int .u32 (T.2.2.2 : Int))
      have wHK9 := below_set5 HK9.out kHK9 (.slice y2.d.ba T.1.1.length y2.d.bc) (.slice y2.d.wa T.1.2.length y2.d.wc) (.slice y2.a T.2.1.length y2.c) (.int .u32 (T.2.2.1 : Int)) (.int .u32 (T.2.2.2 : Int))
      obtain ⟨wab, dn⟩ : ∃ X, set5 waa gC (.slice y2.d.ba T.1.1.length y2.d.bc) (.slice y2.d.wa T.1.2.length y2.d.wc) (.slice y2.a T.2.1.length y2.c) (.int .u32 (T.2.2.1 : Int)) (.int .u32 (T.2.2.2 : Int)) = X := ⟨_, rfl⟩
      rw [dn] at xa y9 yHX yHPB yH5 yHA yHAP wHB wHK5 wHK6 wHK9
      simp only [set5] at dn
      have p0_ := ptZ0 y9
      have p1_ := ptZ1 y9
      have p2_ := ptZ2 y9
      have p3_ := ptZ3 y9
      have p4_ := ptZ4 y9
      have pf := fun i => y9.frozen i
      have xc := y9.set5 (.int .i64 qa) (.int .u32 (qb : Int)) (.int .u32 (qi : Int)) (.int .u32 (qt : Int)) (.int .u32 (qs : Int))
      have v8 := far5_bl (g := gCP) xa (show gC ≠ gCP by omega) (.int .i64 qa) (.int .u32 (qb : Int)) (.int .u32 (qi : Int)) (.int .u32 (qt : Int)) (.int .u32 (qs : Int))
      have vHX := far5_bl (g := gCP) yHX (show g ≠ gCP by omega) (.int .i64 qa) (.int .u32 (qb : Int)) (.int .u32 (qi : Int)) (.int .u32 (qt : Int)) (.int .u32 (qs : Int))
      have vHPB := far5_bl (g := gCP) yHPB (show g1 ≠ gCP by omega) (.int .i64 qa) (.int .u32 (qb : Int)) (.int .u32 (qi : Int)) (.int .u32 (qt : Int)) (.int .u32 (qs : Int))
      have vH5 := far5_bl (g := gCP) yH5 (show g5 ≠ gCP by omega) (.int .i64 qa) (.int .u32 (qb : Int)) (.int .u32 (qi : Int)) (.int .u32 (qt : Int)) (.int .u32 (qs : Int))
      have vHA := far5_bl (g := gCP) yHA (show gA ≠ gCP by omega) (.int .i64 qa) (.int .u32 (qb : Int)) (.int .u32 (qi : Int)) (.int .u32 (qt : Int)) (.int .u32 (qs : Int))
      have vHAP := far5_bl (g := gCP) yHAP (show gAP ≠ gCP by omega) (.int .i64 qa) (.int .u32 (qb : Int)) (.int .u32 (qi : Int)) (.int .u32 (qt : Int)) (.int .u32 (qs : Int))
      have uHB := below_set5 wHB (Nat.le_trans kHB (show gC ≤ gCP by omega)) (.int .i64 qa) (.int .u32 (qb : Int)) (.int .u32 (qi : Int)) (.int .u32 (qt : Int)) (.int .u32 (qs : Int))
      have uHK5 := below_set5 wHK5 (Nat.le_trans kHK5 (show gC ≤ gCP by omega)) (.int .i64 qa) (.int .u32 (qb : Int)) (.int .u32 (qi : Int)) (.int .u32 (qt : Int)) (.int .u32 (qs : Int))
      have uHK6 := below_set5 wHK6 (Nat.le_trans kHK6 (show gC ≤ gCP by omega)) (.int .i64 qa) (.int .u32 (qb : Int)) (.int .u32 (qi : Int)) (.int .u32 (qt : Int)) (.int .u32 (qs : Int))
      have uHK9 := below_set5 wHK9 (Nat.le_trans kHK9 (show gC ≤ gCP by omega)) (.int .i64 qa) (.int .u32 (qb : Int)) (.int .u32 (qi : Int)) (.int .u32 (qt : Int)) (.int .u32 (qs : Int))
      obtain ⟨wc, pn⟩ : ∃ X, set5 wab gCP (.int .i64 qa) (.int .u32 (qb : Int)) (.int .u32 (qi : Int)) (.int .u32 (qt : Int)) (.int .u32 (qs : Int)) = X := ⟨_, rfl⟩
      rw [pn] at xc v8 vHX vHPB vH5 vHA vHAP uHB uHK5 uHK6 uHK9
      simp only [set5] at pn
      replace HX := Lib.hid vHX
      replace HPB := Lib.hid vHPB
      replace H5 := Lib.hid vH5
      replace HA := Lib.hid vHA
      replace HAP := Lib.hid vHAP
      replace HB := Lib.hid uHB
      replace HK5 := Lib.hid uHK5
      replace HK6 := Lib.hid uHK6
      replace HK9 := Lib.hid uHK9
      replace HZ := Lib.hid (HZ0.out.step HB.out)
      have HC := Lib.hid v8
      have HCP := Lib.hid xc
      clear ba_ za_ q8 q9 bq xa y9 xc v8 lHX yHX vHX lHPB yHPB vHPB lH5 yH5 vH5 lHA yHA vHA lHAP yHAP vHAP kHB wHB uHB kHK5 wHK5 uHK5 kHK6 wHK6 uHK6 kHK9 wHK9 uHK9
      have d0 := bx0 H5.out
      have d1 := bx1 H5.out
      have d2 := bx2 H5.out
      have d3 := bx3 H5.out
      have d4 := bx4 H5.out
      have q0 := bx0 HPB.out
      have q1 := bx1 HPB.out
      have q2 := bx2 HPB.out
      have q3 := bx3 HPB.out
      have q4 := bx4 HPB.out
      have hc := ddLoad_any w5.heap.size y S (pa, pb, pi, pt, ps) wc (HYN.out wc HK5.out) HWP.out HZ.out HK5.out.size
      rw [HO2.out] at hc
      have HCC := Lib.hid hc
      clear hc
      go_wp2_with fail
      clear z0 z1 z2 z3 z4_ zf dn p0_ p1_ p2_ p3_ p4_ pf pn hwa hgA hgB
      clear d0 d1 d2 d3 d4
      clear q0 q1 q2 q3 q4
      refine HCC.out.mono ?_
      rintro e wd ⟨v3, u3, rfl, hv_, hu_, b_⟩
      simp only at hv_ hu_
      rw [HN2.out] at hu_
      obtain ⟨u3a, u3c, rfl⟩ := nrow_slice hu_
      obtain ⟨v3a, v3c, rfl, hv3⟩ := hv_.pts
      rw [HM2.out] at hv3 ⊢
      replace HX := Lib.hid (HX.out.below b_ HX.out.lt)
      replace HPB := Lib.hid (HPB.out.below b_ HPB.out.lt)
      replace HB := Lib.hid (HB.out.trans (b_.mono HB.out.size))
      replace H5 := Lib.hid (H5.out.below b_ H5.out.lt)
      replace HK5 := Lib.hid (HK5.out.trans (b_.mono HK5.out.size))
      replace HK6 := Lib.hid (HK6.out.trans (b_.mono HK6.out.size))
      replace HA := Lib.hid (HA.out.below b_ HA.out.lt)
      replace HAP := Lib.hid (HAP.out.below b_ HAP.out.lt)
      replace HK9 := Lib.hid (HK9.out.trans (b_.mono HK9.out.size))
      replace HC := Lib.hid (HC.out.below b_ HC.out.lt)
      replace HCP := Lib.hid (HCP.out.below b_ HCP.out.lt)
      replace HZ := Lib.hid (HZ.out.step b_)
      have V3 := Lib.hid hv3
      have U3 := Lib.hid hu_
      have HKD := Lib.hid (Below.refl wd.heap.size wd)
      clear hv_ hu_ hv3 b_ HCC
      have d0 := bx0 HX.out
      have d1 := bx1 HX.out
      have d2 := bx2 HX.out
      have d3 := bx3 HX.out
      have d4 := bx4 HX.out
      have q0 := bx0 HPB.out
      have q1 := bx1 HPB.out
      have q2 := bx2 HPB.out
      have q3 := bx3 HPB.out
      have q4 := bx4 HPB.out
      have hc := ruLoad_any w.heap.size x S (pa, pb, pi, pt, ps) wd (HTN.out wd HB.out) HB.out.size
      rw [HO2.out] at hc
      have HCC := Lib.hid hc
      clear hc
      go_wp2_with fail
      clear d0 d1 d2 d3 d4
      clear q0 q1 q2 q3 q4
      refine HCC.out.mono ?_
      rintro e we ⟨v4, u4, rfl, hv_, hu_, b_⟩
      simp only at hv_ hu_
      rw [HN2.out] at hu_
      obtain ⟨u4a, u4c, rfl⟩ := nrow_slice hu_
      obtain ⟨v4a, v4c, rfl, hv4⟩ := hv_.pts
      rw [HM2.out] at hv4 ⊢
      replace HX := Lib.hid (HX.out.below b_ HX.out.lt)
      replace HPB := Lib.hid (HPB.out.below b_ HPB.out.lt)
      replace HB := Lib.hid (HB.out.trans (b_.mono HB.out.size))
      replace H5 := Lib.hid (H5.out.below b_ H5.out.lt)
      replace HK5 := Lib.hid (HK5.out.trans (b_.mono HK5.out.size))
      replace HK6 := Lib.hid (HK6.out.trans (b_.mono HK6.out.size))
      replace HA := Lib.hid (HA.out.below b_ HA.out.lt)
      replace HAP := Lib.hid (HAP.out.below b_ HAP.out.lt)
      replace HK9 := Lib.hid (HK9.out.trans (b_.mono HK9.out.size))
      replace HC := Lib.hid (HC.out.below b_ HC.out.lt)
      replace HCP := Lib.hid (HCP.out.below b_ HCP.out.lt)
      replace HKD := Lib.hid (HKD.out.trans (b_.mono HKD.out.size))
      replace HZ := Lib.hid (HZ.out.step b_)
      have V4 := Lib.hid hv4
      have U4 := Lib.hid hu_
      have HKE := Lib.hid (Below.refl we.heap.size we)
      clear hv_ hu_ hv4 b_ HCC
      have HCC := Lib.hid (rtSame_any we.heap.size y1 y2 T T we (((Sy1.out.below HK6.out).lasts HK6.out.size).less (show w6.heap.size ≤ we.heap.size from HK6.out.size)) (((Sy2.out.below HK9.out).lasts HK9.out.size).less (show w9.heap.size ≤ we.heap.size from HK9.out.size)) ⟨HFE.out.1, HFE.out.2.1⟩ true (by simp))
      have d0 := bx0 HA.out
      have d1 := bx1 HA.out
      have d2 := bx2 HA.out
      have d3 := bx3 HA.out
      have d4 := bx4 HA.out
      have i0 := bx0 HC.out
      have i1 := bx1 HC.out
      have i2 := bx2 HC.out
      have i3 := bx3 HC.out
      have i4 := bx4 HC.out
      go_wp2_with fail
      clear d0 d1 d2 d3 d4
      clear i0 i1 i2 i3 i4
      refine HCC.out.mono ?_
      rintro e wf ⟨rfl, b_⟩
      replace HX := Lib.hid (HX.out.below b_ HX.out.lt)
      replace HPB := Lib.hid (HPB.out.below b_ HPB.out.lt)
      replace HB := Lib.hid (HB.out.trans (b_.mono HB.out.size))
      replace H5 := Lib.hid (H5.out.below b_ H5.out.lt)
      replace HK5 := Lib.hid (HK5.out.trans (b_.mono HK5.out.size))
      replace HK6 := Lib.hid (HK6.out.trans (b_.mono HK6.out.size))
      replace HA := Lib.hid (HA.out.below b_ HA.out.lt)
      replace HAP := Lib.hid (HAP.out.below b_ HAP.out.lt)
      replace HK9 := Lib.hid (HK9.out.trans (b_.mono HK9.out.size))
      replace HC := Lib.hid (HC.out.below b_ HC.out.lt)
      replace HCP := Lib.hid (HCP.out.below b_ HCP.out.lt)
      replace HKD := Lib.hid (HKD.out.trans (b_.mono HKD.out.size))
      replace HKE := Lib.hid (HKE.out.trans (b_.mono HKE.out.size))
      replace HZ := Lib.hid (HZ.out.step b_)
      clear b_ HCC
      have HCC := Lib.hid (rsSame_yes u1a nn u1c u2a u2c own wf (ownN_nsl (own_below Uy1.out HK6.out)) (ownN_nsl (own_below Uy2.out HK9.out)) (by have := HF2.out; have := HNN.out; omega))
      have d0 := bx0 HAP.out
      have d1 := bx1 HAP.out
      have d2 := bx2 HAP.out
      have d3 := bx3 HAP.out
      have d4 := bx4 HAP.out
      have i0 := bx0 HCP.out
      have i1 := bx1 HCP.out
      have i2 := bx2 HCP.out
      have i3 := bx3 HCP.out
      have i4 := bx4 HCP.out
      have hpe := eqP_lit qa qb qi qt qs
      go_wp2_with fail
      clear d0 d1 d2 d3 d4
      clear i0 i1 i2 i3 i4
      clear hpe
      refine HCC.out.mono ?_
      rintro e wg ⟨rfl, b_⟩
      replace HX := Lib.hid (HX.out.below b_ HX.out.lt)
      replace HPB := Lib.hid (HPB.out.below b_ HPB.out.lt)
      replace HB := Lib.hid (HB.out.trans (b_.mono HB.out.size))
      replace H5 := Lib.hid (H5.out.below b_ H5.out.lt)
      replace HK5 := Lib.hid (HK5.out.trans (b_.mono HK5.out.size))
      replace HK6 := Lib.hid (HK6.out.trans (b_.mono HK6.out.size))
      replace HA := Lib.hid (HA.out.below b_ HA.out.lt)
      replace HAP := Lib.hid (HAP.out.below b_ HAP.out.lt)
      replace HK9 := Lib.hid (HK9.out.trans (b_.mono HK9.out.size))
      replace HC := Lib.hid (HC.out.below b_ HC.out.lt)
      replace HCP := Lib.hid (HCP.out.below b_ HCP.out.lt)
      replace HKD := Lib.hid (HKD.out.trans (b_.mono HKD.out.size))
      replace HKE := Lib.hid (HKE.out.trans (b_.mono HKE.out.size))
      replace HZ := Lib.hid (HZ.out.step b_)
      clear b_ HCC
      have he1 : ((ee : Int) != ee) = false := by simp
      have HCC := Lib.hid (rpSame_one (rpSame_any v3a m2 v3c l2 v4a m2 v4c l2 wg (V3.out.step HKD.out) (V4.out.step HKE.out)))
      go_wp2_with fail
      clear he1
      refine HCC.out.mono ?_
      rintro e wh ⟨rfl, b_⟩
      replace HX := Lib.hid (HX.out.below b_ HX.out.lt)
      replace HPB := Lib.hid (HPB.out.below b_ HPB.out.lt)
      replace HB := Lib.hid (HB.out.trans (b_.mono HB.out.size))
      replace H5 := Lib.hid (H5.out.below b_ H5.out.lt)
      replace HK5 := Lib.hid (HK5.out.trans (b_.mono HK5.out.size))
      replace HK6 := Lib.hid (HK6.out.trans (b_.mono HK6.out.size))
      replace HA := Lib.hid (HA.out.below b_ HA.out.lt)
      replace HAP := Lib.hid (HAP.out.below b_ HAP.out.lt)
      replace HK9 := Lib.hid (HK9.out.trans (b_.mono HK9.out.size))
      replace HC := Lib.hid (HC.out.below b_ HC.out.lt)
      replace HCP := Lib.hid (HCP.out.below b_ HCP.out.lt)
      replace HKD := Lib.hid (HKD.out.trans (b_.mono HKD.out.size))
      replace HKE := Lib.hid (HKE.out.trans (b_.mono HKE.out.size))
      replace HZ := Lib.hid (HZ.out.step b_)
      clear b_ HCC
      have HCC := Lib.hid (rsSame_yes u3a n2 u3c u4a u4c own2 wh (ownN_nsl (own_below U3.out HKD.out)) (ownN_nsl (own_below U4.out HKE.out)) (by have := HF3.out; have := HN2.out; omega))
      go_wp2_with fail
      refine HCC.out.mono ?_
      rintro e wi ⟨rfl, b_⟩
      replace HX := Lib.hid (HX.out.below b_ HX.out.lt)
      replace HPB := Lib.hid (HPB.out.below b_ HPB.out.lt)
      replace HB := Lib.hid (HB.out.trans (b_.mono HB.out.size))
      replace H5 := Lib.hid (H5.out.below b_ H5.out.lt)
      replace HK5 := Lib.hid (HK5.out.trans (b_.mono HK5.out.size))
      replace HK6 := Lib.hid (HK6.out.trans (b_.mono HK6.out.size))
      replace HA := Lib.hid (HA.out.below b_ HA.out.lt)
      replace HAP := Lib.hid (HAP.out.below b_ HAP.out.lt)
      replace HK9 := Lib.hid (HK9.out.trans (b_.mono HK9.out.size))
      replace HC := Lib.hid (HC.out.below b_ HC.out.lt)
      replace HCP := Lib.hid (HCP.out.below b_ HCP.out.lt)
      replace HKD := Lib.hid (HKD.out.trans (b_.mono HKD.out.size))
      replace HKE := Lib.hid (HKE.out.trans (b_.mono HKE.out.size))
      replace HZ := Lib.hid (HZ.out.step b_)
      clear b_ HCC
      have he2 : ((e2 : Int) != e2) = false := by simp
      have HHI := Lib.hid (hiS_bel Iy1.out HK6.out)
      have HK := Lib.hid (Spoils.refl w5.heap.size wi)
      obtain ⟨m, hm⟩ : ∃ k, T.2.1.length = k := ⟨_, rfl⟩
      have HTM := Lib.hid (show 0 < m → m = 256 ∧ T.1.1.length = 256 ∧ ∀ k, k < 256 → (T.1.1.getD k []).length = 256 from fun h0 => by
        rcases HF1.out with e | ht
        · rw [← hm, e] at h0; exact absurd h0 (Nat.lt_irrefl _)
        · refine ⟨by rw [← hm]; exact ht.2.1.1, ht.1.1.1, fun k hk => ht.1.1.2 k hk⟩)
      have HM9 := Lib.hid (show m ≤ 1000000 from hm ▸ HFE.out.2.2)
      have HMT := Lib.hid hm
      clear hm
      go_wp2_with fail
      clear he2
      have HWI := Lib.hid HK5.out.size
      go_loopw [25] (fun i wr => ∃ k : Nat, k ≤ m ∧ i = .int .i64 k ∧ Spoils w5.heap.size wi wr ∧ Blk wr gA 29 (stC y1 T) ∧ HiS wr w5.heap.size y1 T) (fun i _ => m - (intOf i).toNat)
      case atStart => exact ⟨0, Nat.zero_le _, rfl, HK.out, HA.out, HHI.out⟩
      case round =>
        obtain ⟨k, hkn, rfl, hk, hxr, hhr⟩ := hrel
        have i0 : (0 : Int) ≤ k := by omega
        have m9 : (m : Int) ≤ 1000000 := by have := HM9.out; omega
        have c2 := bx2 hxr
        rw [HMT.out] at c2
        by_cases hlt : k < m
        · have i1 : (k : Int) < m := by omega
          obtain ⟨hm256, hb256, hall⟩ := HTM.out (by omega)
          obtain ⟨sb, so, scs, sz, hse, hsB, hsk, hsz⟩ := hhr.2.2.at_ (show k < T.2.1.length by rw [HMT.out]; exact hlt)
          rw [hse] at c2
          have hfs := hsk.frozen (so + k)
          have ksp0 := Spoils.byte hsk hsB (so + k) 9
          have hk1 := hk.trans ksp0
          have hx1 := ksp0.box gA _ _ hxr (by decide)
          have hh1 := hhr.spoils ksp0
          obtain ⟨w1, hw1⟩ : ∃ X, wr.setCell ⟨sb, so + k, none⟩ (.int .u8 9) = X := ⟨_, rfl⟩
          rw [hw1] at hk1 hx1 hh1
          have c0 := bx0 hx1
          rw [hb256] at c0
          obtain ⟨hb, ho, A, cA, hae, hrow, hpc⟩ := hh1.1.at_ (show k < T.1.1.length by omega)
          simp only [Nat.mul_one, Nat.add_zero] at hrow
          rw [hall k (by omega)] at hrow hpc
          rw [hae] at c0
          obtain ⟨pb', po, pcs, z, hpe, hpB, hpk, hpz⟩ := hpc.at_ (show 0 < 256 by omega)
          rw [Nat.add_zero] at hpz
          rw [hpe] at hrow
          obtain ⟨z', hz'⟩ : ∃ z', IntKind.u8.wrap (z + 1) = z' := ⟨_, rfl⟩
          obtain ⟨wq, hwq⟩ : ∃ wq, w1.drew = wq := ⟨_, rfl⟩
          have bb : Below w1.heap.size w1 wq := by rw [← hwq]; exact (Below.refl _ w1).drew
          have ksp := Spoils.of_below (B := w5.heap.size) bb (Nat.le_trans HWI.out hk1.below.size)
          have hpkd := hpk.below bb hpk.lt
          have ksp2 := Spoils.byte hpkd hpB po z'
          have HK2 := Lib.hid (hk1.trans (ksp.trans ksp2))
          have HX2 := Lib.hid (ksp2.box gA _ _ (ksp.box gA _ _ hx1 (by decide)) (by decide))
          have HH2 := Lib.hid ((hh1.spoils ksp).spoils ksp2)
          have C0 := fun X (hX : Below wq.heap.size wq X) => (((bb.trans (hX.mono bb.size)).cell (p := ⟨gA, 0, none⟩) hx1.lt)).trans c0
          have C1 := fun X (hX : Below wq.heap.size wq X) => (((bb.trans (hX.mono bb.size)).cell (p := ⟨hb, ho + k, none⟩) (World.block_lt_of_cell? w1 _ hrow))).trans hrow
          have C2 := fun X (hX : Below wq.heap.size wq X) => (((bb.trans (hX.mono bb.size)).cell (p := ⟨pb', po, none⟩) hpk.lt)).trans hpz
          have hf := hpkd.frozen po
          have hS : Below wq.heap.size wq wq := Below.refl _ _
          have hpd := C2 wq hS
          have i2 : (k : Int) < 256 := by omega
          have HLT := Lib.hid hlt
          subst hm256
          clear bb ksp ksp2 hpkd hk hxr hhr hpc hpk hk1 hx1 hh1 hse hae hpe ksp0 hsB hsk hall hb256 hlt
          go_wp2_with fail
          try rw [hw1]
          clear c0 hrow hpz c2 hsz hfs hw1
          refine wpS_start [0, 1, 2, 3, 4, 5, 6, 7, 8, 9, 10, 11, 12, 13, 14, 15, 16] hmx rfl hwq ?_
          clear hwq
          iterate 16 (
            refine wpS_read (v := ?_) rfl (by kernel_rfl) (by kernel_rfl) (by kernel_rfl) (fun _ _ _ h => h) (.inl ⟨by rfl, ?_⟩) ?_
            rotate_left
            · intro X hX
              have hXa := C0 X (hX _ hS)
              have hXb := C1 X (hX _ hS)
              have hXc := C2 X (hX _ hS)
              clear hX
              go_simp
              with_reducible rfl
            try simp only [Act.put, List.setIfInBounds_toArray, List.set_cons_zero, List.set_cons_succ])
          clear C0 C1 C2 hS
          refine wpS_last rfl (by kernel_rfl) (by kernel_rfl) (fun K hK => ?_)
          go_simp
          refine hK _ _ ?_
          clear hK K
          try simp only [Act.put, List.setIfInBounds_toArray, List.set_cons_zero, List.set_cons_succ]
          refine wpS_done (by kernel_rfl) ?_
          clear hpd hf
          go_wp2_with fail
          go_roundw
          case rel => exact ⟨k + 1, by have := HLT.out; omega, by go_num, HK2.out, HX2.out, HH2.out⟩
          case measure => simp [intOf]; have := HLT.out; omega
        · obtain rfl : k = m := by omega
          have i2 : decide ((k : Int) < (k : Int)) = false := decide_eq_false (by omega)
          have bk := HK5.out.trans hk.below
          have HBW := Lib.hid (HB.out.trans (hk.below.mono (show w.heap.size ≤ w5.heap.size from HBS.out)))
          have HKW := Lib.hid bk
          have HX5 := Lib.hid (hk.box g5 _ _ H5.out (by decide))
          have HXX := Lib.hid (hk.box g _ _ HX.out (by decide))
          have d0 := bx0 HX5.out
          have d1 := bx1 HX5.out
          have d2 := bx2 HX5.out
          have d3 := bx3 HX5.out
          have d4 := bx4 HX5.out
          have i0_ := bx0 HXX.out
          have i1_ := bx1 HXX.out
          have i2_ := bx2 HXX.out
          have i3_ := bx3 HXX.out
          have i4_ := bx4 HXX.out
          have HCC := Lib.hid (rtSame_any w5.heap.size y x S S wr (HYN.out wr HKW.out) ((HTN.out wr HBW.out).less HBS.out) ⟨by have := HSM.out.1.1; omega, by have := HSM.out.1.2.2.1; omega⟩ true (by simp))
          clear hk hxr hhr bk hlt hkn
          go_wp2_with fail
          clear d0 d1 d2 d3 d4 i0_ i1_ i2_ i3_ i4_ c2
          refine HCC.out.mono ?_
          rintro e wj ⟨rfl, b_⟩
          replace HBW := Lib.hid (HBW.out.trans (b_.mono HBW.out.size))
          replace HKW := Lib.hid (HKW.out.trans (b_.mono HKW.out.size))
          clear b_ HCC
          have HCC := Lib.hid (rpSame_one (rpSame_any am n cm l a n c l wj (HMN.out wj HKW.out) (HPN.out wj HBW.out)))
          go_wp2_with fail
          refine HCC.out.mono ?_
          rintro e wk ⟨rfl, b_⟩
          replace HBW := Lib.hid (HBW.out.trans (b_.mono HBW.out.size))
          go_wp2_with fail
          go_ret
          exact ⟨rfl, HBW.out⟩
theorem deadBlocks_walk (x : SAt) (S : StL) (bi : Int) (a : Option Addr) (n c : Nat) (l : List Pt) (p : Pt) (w : World) (hz : Szs w) (h : Str w w.heap.size x S) (hnear : Near S.1) (hwf : WfS S) (hbi : (Lit.int .u32 bi).wf = true) (hp : Pts w w.heap.size a n c l) (hwp : WfP p) :
    Calls Tryz.prog 3 #[stV x S, .int .u32 bi, .slice a n c, ptV p] w fun e w' => e = .returned (.bool true) ∧ Below w.heap.size w w' := by
  obtain ⟨m, rfl, hm⟩ := u32_wf hbi
  obtain ⟨pa, pb, pi, pt, ps⟩ := p
  exact deadBlocks_at x S m a n c l pa pb pi pt ps w hz h hnear hwf hm hp hwp
end Go.Proofs.YtjdjbonljohnbaaGreatDoor
namespace Go.Proofs.YtjdjbonljohnbaaGreatDoor.deadBlocks
open Go.ChangeShapes Go.WideShapes Go.ChangeAt Go.RowKit
set_option linter.unusedVariables false

theorem own : ownKnob Tryz.prog.godebug = none := by kernel_rfl
theorem laidOut : laidOutB Tryz.prog = true := by kernel_rfl

set_option maxRecDepth 100000 in
theorem lifted (os : Os) (started : os.Started) (H : Type) (enc : TypeId × Value → H) :
    ReturnsInHanded {} Tryz.checked os 3 .any (fun w args => (Rows.deadBlocksSpec.pre enc Tryz.prog Tryz.f3 [] false w args ∧ laidMetH Tryz.prog [("charterhouse/ptr.sizes", Rows.laid_charterhouse_ptr_sizes)] w) ∧ sizedMet enc Tryz.prog Tryz.f3 (OpenSpec.ofChange Rows.deadBlocksSpec) false w args)
      (Rows.deadBlocksSpec.post enc Tryz.prog Tryz.f3 false true false false) := by
  refine returnsInHanded_of_change_and (C := Tryz.checked) (X := fun w _ => laidMetH Tryz.prog [("charterhouse/ptr.sizes", Rows.laid_charterhouse_ptr_sizes)] w) (fun _ _ _ hh h => h.of_heap hh) own started (by kernel_rfl) Tryz.func3
    (ChangeSpec.witness_shaped (enc := enc) (C := Tryz.checked) (os := os) (X := fun w _ => laidMetH Tryz.prog [("charterhouse/ptr.sizes", Rows.laid_charterhouse_ptr_sizes)] w) false (World.doorLaid Tryz.prog 400 os) #[.agg #[.slice none 0 0, .slice none 0 0, .slice none 0 0, .int .u32 0, .int .u32 0], .int .u32 0, .slice none 0 0, .agg #[.int .i64 0, .int .u32 0, .int .u32 0, .int .u32 0, .int .u32 0]] 8 rfl (World.shaped_of_RefB (by kernel_rfl) (by kernel_rfl)) (by kernel_rfl) (by kernel_rfl) (by kernel_rfl) (door_met os _)) ?_
  intro W base args ds gs before hval0 hW _ hsz hL _
  have hval : ∀ (j : Nat) t v, Tryz.f3.params[j]? = some t → args[j]? = some v → Value.okWide Tryz.prog W .any base t v := hval0
  have hW' := hW
  obtain ⟨p, q, hA0, hV, rfl, hfz, hnd⟩ := hW
  have hA : DataW.TrodAll enc Tryz.prog W 0 (fun _ => true) true Tryz.f3.params.toList args.toList ds p := hA0
  rw [Tryz.params3] at hA hval
  obtain ⟨v0, vs0, d0, ds0, p0, q0, hargs, rfl, rfl, h0, r0⟩ := trodAll_cons hA
  obtain ⟨v1, vs1, d1, ds1, p1, q1, rfl, rfl, rfl, h1, r1⟩ := trodAll_cons r0
  obtain ⟨v2, vs2, d2, ds2, p2, q2, rfl, rfl, rfl, h2, r2⟩ := trodAll_cons r1
  obtain ⟨v3, vs3, d3, ds3, p3, q3, rfl, rfl, rfl, h3, r3⟩ := trodAll_cons r2
  obtain ⟨rfl, rfl, rfl⟩ := trodAll_nil r3
  obtain rfl : args = #[v0, v1, v2, v3] := by cases args; simp_all
  obtain ⟨rfl, rfl⟩ := trodVars_none hV
  have k0 := h0
  have lt0 : ∀ x ∈ p0, x.block < W.heap.size := by obtain ⟨m, hm⟩ := k0; exact DataW.trod_lt m _ _ _ hm
  obtain ⟨x0, S0, rfl, w0, m0, f0⟩ := open_store (hval 0 29 v0 rfl rfl) h0 (fun n hn => by
    have := List.all_eq_true.1 hsz n (DataW.weights_mem_each (j := 0) (t := 29) (by kernel_rfl) rfl n hn)
    simpa using this)
  obtain ⟨a1, rfl, rfl, rfl, w1⟩ := open_int Tryz.underlying27 (hval 1 27 v1 rfl rfl) h1
  obtain ⟨a2, len2, cap2, rfl⟩ := okWide_slice Tryz.underlying30 (hval 2 30 v2 rfl rfl)
  have k2 := h2
  have lt2 : ∀ x ∈ p2, x.block < W.heap.size := by obtain ⟨m, hm⟩ := k2; exact DataW.trod_lt m _ _ _ hm
  obtain ⟨L2, w2⟩ := open_ptrs h2
  have k3 := h3
  have lt3 : ∀ x ∈ p3, x.block < W.heap.size := by obtain ⟨m, hm⟩ := k3; exact DataW.trod_lt m _ _ _ hm
  obtain ⟨z3, rfl, w3⟩ := open_ptr (hval 3 32 v3 rfl rfl) h3
  clear hA0 hval0
  refine (deadBlocks_walk x0 S0 a1 a2 len2 cap2 L2 z3 W (szs_of_laid hL) w0 m0 f0 w1 w2 w3).mono fun e W' ⟨he, bel⟩ => ?_
  subst he
  exact ⟨_, rfl, _, _, _, [], _, [], hW', trodAll_mk1 (shut_bool Tryz.underlying4 _), (trodAll_cons_mk (Below.trod laidOut (by kernel_rfl) (of_decide_eq_true (by kernel_rfl)) k0 bel lt0) (trodAll_cons_mk (shut_int Tryz.underlying27 w1) (trodAll_cons_mk (Below.trod laidOut (by kernel_rfl) (of_decide_eq_true (by kernel_rfl)) k2 bel lt2) (trodAll_cons_mk (Below.trod laidOut (by kernel_rfl) (of_decide_eq_true (by kernel_rfl)) k3 bel lt3) trodAll_mk0)))), rfl, bel.frame _, fun h => by cases h⟩

theorem over : Rows.DeadBlocksSaid :=
  OpenClaim.holds_of_wide 3 Tryz.f3 rfl rfl rfl rfl rfl rfl rfl ⟨rfl, rfl, rfl, rfl, rfl⟩ rfl rfl rfl rfl rfl (by kernel_rfl) Tryz.func3 (by kernel_rfl)
    (of_decide_eq_true (by kernel_rfl)) (by unfold Func.isWrapper; first | (rw [if_pos (by decide +kernel)]; kernel_rfl) | (rw [if_neg (by decide +kernel)]; exact ⟨rfl, rfl⟩))
    (fun os started H enc _ => lifted os started H enc)

/-- The statement. -/
theorem proved : Rows.DeadBlocksCardSaid :=
  Claim7.holds_tied_plain_at .later [] [.data] true _ true
    over (fun _ h => by cases h) (by kernel_rfl) (fun _ h => by cases h) deadBlocks_row_tie rfl ⟨rfl, rfl⟩ (by kernel_rfl) rfl
    (fun f fn hf hfn => by
      obtain rfl : f = 3 := Option.some.inj ((show Tryz.prog.funcNamed "charterhouse/charterhouselaw16.DeadBlocks" = some 3 by kernel_rfl).symm.trans hf) |>.symm
      obtain rfl : fn = Tryz.f3 := (Option.some.inj (Tryz.func3.symm.trans hfn)).symm
      exact ⟨by kernel_rfl, fun j t ht => by
        rw [Tryz.params3] at ht
        have hm : t ∈ [29, 27, 30, 32] := by simpa using Array.mem_of_getElem? ht
        have hall : ([29, 27, 30, 32].all fun u => !Tryz.prog.wantsStandIn u) = true := by kernel_rfl
        exact (show Tryz.prog.wantsStandIn t = false by simpa using List.all_eq_true.1 hall t hm)⟩)
    (by kernel_rfl)
end Go.Proofs.YtjdjbonljohnbaaGreatDoor.deadBlocks
