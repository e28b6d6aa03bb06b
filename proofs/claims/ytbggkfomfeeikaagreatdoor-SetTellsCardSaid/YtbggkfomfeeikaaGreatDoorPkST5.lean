/-
  Texts of one seat, one behind the other.
-/
import Derived.Deep.AppendLies
import Derived.Laws.CopyOwn
import Derived.Lib.SmallJoins
import Derived.Deep.Matrix
import Derived.Deep.SlicePairs
import Derived.Deep.Grids
import Derived.SizedLaws
import Derived.ProofKit
import Derived.OpenShut
import Derived.Test.YtbggkfomfeeikaaGreatDoorRows
import Derived.Test.YtbggkfomfeeikaaGreatDoorTie
import Derived.Test.YtbggkfomfeeikaaGreatDoorCards
import Derived.LaidMore
import Derived.Stop.Joined
import Derived.SevenTiedAt
import Derived.Test.YtbggkfomfeeikaaGreatDoorPkST4
/-
  The document's own Young and Walk of layer 15.
-/
namespace Go.Proofs.YtbggkfomfeeikaaGreatDoor
open Go.RowKit Go.Shelf
set_option maxRecDepth 100000

/-- append of pointers to a row of the call's own: where the new row lies. -/
theorem wpList_append_plie {w : World} {o : Oper} {a : Act} {Q : Exit → Act → World → Prop} {ops : Array Oper} {rest : List Oper} (hgd : o.guard = none) (x y : Operand) (ho : o.op = .call { callee := .builtin .append, args := #[x, y], argTypes := #[35, 35] })
    (base : Nat) (v : Value) (L : List Pt) (hx : a.eval x = v) (hr : PRow w base v L) (B : Nat) (A : Option Addr) (m c : Nat) (M : List Pt) (hy : a.eval y = .slice A m c) (hs : Pts w B A m c M) (hm0 : 0 < m)
    (hn : L.length + m ≤ 1000000) (hbase : base ≤ w.heap.size)
    (h : ∀ g cap w', PRow w' base (.slice (some ⟨g, 0, none⟩) (L.length + m) cap) (L ++ M) → w.grownBy w' v.ownBlock → (v.ownBlock = some g ∨ g = w.heap.size) → g < w'.heap.size → wpList Tryz.prog ops Q rest (a.put o.dst (.slice (some ⟨g, 0, none⟩) (L.length + m) cap)) w') : wpList Tryz.prog ops Q (o :: rest) a w := by
  obtain ⟨i0, hi0, hz0, hz1, hz2⟩ := info_parts infoPt
  obtain ⟨h1, h2⟩ := hr
  have hwf : ∀ p ∈ L ++ M, WfP p := fun p hp => by
    rcases List.mem_append.1 hp with hp | hp
    · exact h2 p hp
    · exact hs.wf hp
  have hml := hs.1
  obtain ⟨b, off, rfl, _, _⟩ := hs.2.2.2.2 hm0
  refine wpList_append_lies w hgd x y 35 ho base 32 i0 (.agg #[.int .i64 0, .int .u32 0, .int .u32 0, .int .u32 0, .int .u32 0]) 5 24 Tryz.underlying35 hi0 hz0 hz1 hz2 rfl (by decide) v L.length (ptCs L) hx h1 ⟨b, off, none⟩ m c (ptCs M) hy (by rw [ptCs_length, hml]) (fun j u hu => ?_) (fun u hu => ptCs_mem hu) hm0 (by unfold maxLen; omega) (by omega) hbase _ rfl fun g cap w' h6 h7 h8 h9 => ?_
  · have e1 : (⟨b, off, none⟩ : Addr).add j = ⟨b, off + j, none⟩ := by unfold Addr.add; split <;> simp_all
    rw [e1]
    exact hs.row j u hu
  · refine h g cap w' ⟨?_, hwf⟩ h7 h8 h9
    rw [List.length_append, hml, ptCs_append]
    exact h6
/-- A slice literal of one pointer, as a row of one's own. -/
theorem prow_one (w : World) (p : Pt) (hp : WfP p) : PRow (w.alloc (.cells (ptC p).toArray 32)) w.heap.size (.slice (some ⟨w.heap.size, 0, none⟩) 1 1) [p] :=
  ⟨⟨rfl, .inr ⟨w.heap.size, 1, _, rfl, Nat.le_refl _, heap_alloc_new w _, Nat.le_refl _, by unfold maxLen; omega, rfl, rfl⟩⟩, fun q hq => by rw [List.mem_singleton.1 hq]; exact hp⟩
theorem Pts.grown {w w' : World} {B len cap : Nat} {a : Option Addr} {L : List Pt} {row : Option Nat} (h : Pts w B a len cap L) (hB : B ≤ w.heap.size) (hg : w.grownBy w' row) (hne : 0 < len → ∀ p, a = some p → some p.block ≠ row) : Pts w' w'.heap.size a len cap L := by
  obtain ⟨h1, h2, h3, h4, h5⟩ := h
  refine ⟨h1, h2, h3, h4, fun hl => ?_⟩
  obtain ⟨b, off, e, hlt, hc⟩ := h5 hl
  have hn := hne hl _ e
  refine ⟨b, off, e, Nat.lt_of_lt_of_le (Nat.lt_of_lt_of_le hlt hB) hg.size, fun i hi => ⟨(hc i hi).1, fun j u hu => (hg.cell_far ⟨b, off + i * 5 + j, none⟩ (Nat.lt_of_lt_of_le hlt hB) hn).trans ((hc i hi).2 j u hu)⟩⟩
/-- Where a row of one's own lies: below H1, or not below H2. -/
def Out9 (H1 H2 : Nat) (v : Value) : Prop := ∀ k, v.ownBlock = some k → k < H1 ∨ H2 ≤ k
theorem own_row_blk {w : World} {B : Nat} {v : Value} {L : List Pt} (h : PRow w B v L) (h0 : 0 < L.length) : ∃ g c cs, v = .slice (some ⟨g, 0, none⟩) L.length c ∧ B ≤ g ∧ Blk w g 32 cs := by
  obtain ⟨_, ⟨_, e⟩ | ⟨g, cap, cur, e, q1, q2, _⟩⟩ := h.1
  · omega
  · exact ⟨g, cap, cur, e, q1, q2⟩
/-- What a write to a row of pointers keeps. -/
theorem row_keeps {w w' : World} {L B : Nat} {v : Value} {l : List Pt} (hr : PRow w B v l) (h0 : 0 < l.length) (hg : w.grownBy w' v.ownBlock) (hL : L ≤ B) : Keeps L w w' := by
  obtain ⟨g, c, cs, rfl, h1, h2⟩ := own_row_blk hr h0
  exact Keeps.of_box hg h2 (by decide) (Nat.le_trans hL h1)
theorem flat_take_l {L : List Pt} {f : Pt → List Pt} {j : Nat} (hj : j < L.length) : (L.take (j + 1)).flatMap f = (L.take j).flatMap f ++ f (L.getD j p0) := by
  have : L.getD j p0 = L[j] := by rw [List.getD_eq_getElem?_getD, List.getElem?_eq_getElem hj]; rfl
  rw [List.take_succ_eq_append_getElem hj, List.flatMap_append, this]
  simp
/-- What Young's loops keep of what was there. -/
structure YgI (w : World) (L HH g b2 o2 c2 : Nat) (x : SAt) (S : StL) (LL : List Pt) (W : World) : Prop where
  st : StP L W x S
  bx : Blk W g 30 (stC x S)
  pl : Pts W W.heap.size (some ⟨b2, o2, none⟩) 16 c2 LL
  lw : L ≤ W.heap.size
  hw : HH ≤ W.heap.size
  be : Below w.heap.size w W
  k1 : L ≤ HH
  k2 : w.heap.size ≤ HH
  k3 : g < HH
  k4 : b2 < HH
section
variable {w W W' : World} {L HH g b2 o2 c2 : Nat} {x : SAt} {S : StL} {LL : List Pt}
theorem YgI.bel (h : YgI w L HH g b2 o2 c2 x S LL W) (b : Below W.heap.size W W') : YgI w L HH g b2 o2 c2 x S LL W' :=
  ⟨h.st.bel b, h.bx.below b h.bx.lt, h.pl.step b, Nat.le_trans h.lw b.size, Nat.le_trans h.hw b.size, h.be.trans (b.mono h.be.size), h.k1, h.k2, h.k3, h.k4⟩
theorem YgI.app (h : YgI w L HH g b2 o2 c2 x S LL W) {v : Value} {l : List Pt} (hr : PRow W HH v l) (h0 : 0 < l.length) (hg : W.grownBy W' v.ownBlock) : YgI w L HH g b2 o2 c2 x S LL W' := by
  have hb : Below HH W W' := app_below (Below.refl _ _) hr.1 hg h.hw
  refine ⟨h.st.step (row_keeps hr h0 hg h.k1), h.bx.below hb h.k3, h.pl.grown (Nat.le_refl _) hg ?_, Nat.le_trans h.lw hg.size, Nat.le_trans h.hw hg.size, h.be.trans (hb.mono h.k2), h.k1, h.k2, h.k3, h.k4⟩
  rintro _ p e e2
  cases e
  have := (hr.1.lt b2 e2.symm).1
  have := h.k4
  omega
end
/-- What the inner loop keeps of the object. -/
structure YgO (H1 H2 g7 n5 c5 : Nat) (a5 : Option Addr) (cs : Array Value) (L5 : List Pt) (W : World) : Prop where
  bx : Blk W g7 40 cs
  pl : Pts W W.heap.size a5 n5 c5 L5
  hw : H2 ≤ W.heap.size
  k1 : H1 ≤ g7
  k2 : g7 < H2
  k3 : 0 < n5 → ∀ p, a5 = some p → H1 ≤ p.block ∧ p.block < H2
section
variable {W W' : World} {H1 H2 g7 n5 c5 : Nat} {a5 : Option Addr} {cs : Array Value} {L5 : List Pt}
theorem YgO.bel (h : YgO H1 H2 g7 n5 c5 a5 cs L5 W) (b : Below W.heap.size W W') : YgO H1 H2 g7 n5 c5 a5 cs L5 W' :=
  ⟨h.bx.below b h.bx.lt, h.pl.step b, Nat.le_trans h.hw b.size, h.k1, h.k2, h.k3⟩
theorem YgO.app (h : YgO H1 H2 g7 n5 c5 a5 cs L5 W) {v : Value} (ho : Out9 H1 H2 v) (hg : W.grownBy W' v.ownBlock) : YgO H1 H2 g7 n5 c5 a5 cs L5 W' := by
  refine ⟨h.bx.grown hg fun e => ?_, h.pl.grown (Nat.le_refl _) hg fun hl p e e2 => ?_, Nat.le_trans h.hw hg.size, h.k1, h.k2, h.k3⟩
  · have := ho _ e.symm
    have := h.k1
    have := h.k2
    omega
  · have := ho _ e2.symm
    have := h.k3 hl p e
    omega
theorem Out9.app {H1 H2 g9 n cap : Nat} {v : Value} (ho : Out9 H1 H2 v) (hw : H2 ≤ W.heap.size) (h : v.ownBlock = some g9 ∨ g9 = W.heap.size) : Out9 H1 H2 (.slice (some ⟨g9, 0, none⟩) n cap) := fun k e => by
  have : g9 = k := by simpa [Value.ownBlock] using e
  subst this
  rcases h with h | h
  · exact ho _ h
  · exact .inr (by omega)
end
/-- One pointer more behind the row. -/
theorem yg_app {w W W' : World} {L HH H1 H2 g b2 o2 c2 g7 n5 c5 gg n cap : Nat} {x : SAt} {S : StL} {LL L5 l : List Pt} {a5 : Option Addr} {cs : Array Value} {v : Value} {o : Obj} (hr : PRow W HH v l) (h0 : 0 < l.length) (hy : YgI w L HH g b2 o2 c2 x S LL W) (ho : YgO H1 H2 g7 n5 c5 a5 cs L5 W) (h9 : Out9 H1 H2 v)
    (hg : (W.alloc o).grownBy W' v.ownBlock) (hd : v.ownBlock = some gg ∨ gg = (W.alloc o).heap.size) : YgI w L HH g b2 o2 c2 x S LL W' ∧ YgO H1 H2 g7 n5 c5 a5 cs L5 W' ∧ Out9 H1 H2 (.slice (some ⟨gg, 0, none⟩) n cap) := by
  have b := (Below.refl W.heap.size W).alloc (Nat.le_refl _) o
  have ho2 := ho.bel b
  exact ⟨(hy.bel b).app (hr.below b) h0 hg, ho2.app h9 hg, h9.app ho2.hw hd⟩
theorem Pts.cellx {w : World} {B len cap g i : Nat} {a : Option Addr} {L : List Pt} (h : Pts w B a len cap L) (ha : 0 < len → ∀ p, a = some p → p.block ≠ g) (v : Value) : Pts (w.setCell ⟨g, i, none⟩ v) B a len cap L := by
  obtain ⟨h1, h2, h3, h4, h5⟩ := h
  refine ⟨h1, h2, h3, h4, fun hl => ?_⟩
  obtain ⟨b, off, e, hlt, hc⟩ := h5 hl
  have hne := ha hl _ e
  refine ⟨b, off, e, hlt, fun i hi => ⟨(hc i hi).1, fun j u hu => ((World.cell?_setCell_other w _ _ _ ?_).trans ((hc i hi).2 j u hu))⟩⟩
  simp only at hne
  intro e2
  injection e2 with e2
  omega
theorem Pts.box4x {w : World} {B len cap g : Nat} {a : Option Addr} {L : List Pt} (h : Pts w B a len cap L) (ha : 0 < len → ∀ p, a = some p → p.block ≠ g) (v0 v1 v2 v3 : Value) : Pts ((((w.setCell ⟨g, 0, none⟩ v0).setCell ⟨g, 1, none⟩ v1).setCell ⟨g, 2, none⟩ v2).setCell ⟨g, 3, none⟩ v3) B a len cap L :=
  (((h.cellx ha v0).cellx ha v1).cellx ha v2).cellx ha v3
theorem Pts.blk_lt {w : World} {B len cap : Nat} {a : Option Addr} {L : List Pt} (h : Pts w B a len cap L) (hl : 0 < len) {p : Addr} (e : a = some p) : p.block < B := by
  obtain ⟨b, off, e2, hlt, _⟩ := h.2.2.2.2 hl
  rw [e] at e2
  injection e2 with e2
  subst e2
  exact hlt
theorem youngSO_err {S : StL} {p : Pt} {a j : Nat} {L : List Pt} (hy : Yng a p) (hr : rowSO S p = (L, 0)) (hj : j < L.length) (h0 : ∀ t, t < j → errS S a (L.getD t p0) = 0) (h1 : errS S a (L.getD j p0) ≠ 0) : youngSO S p a = ([], errS S a (L.getD j p0)) := by
  have hm : ∀ t, t < L.length → (L.map (errS S a)).getD t 0 = errS S a (L.getD t p0) := fun t ht => by
    rw [List.getD_eq_getElem?_getD, List.getD_eq_getElem?_getD, List.getElem?_map, List.getElem?_eq_getElem ht]
    rfl
  have hf : firstE (L.map (errS S a)) = errS S a (L.getD j p0) := by
    rw [firstE_at (k := j) (by rw [List.length_map]; exact hj) (fun i hi => by rw [hm i (by omega)]; exact h0 i hi) (by rw [hm j hj]; exact h1), hm j hj]
  unfold youngSO
  rw [if_neg (fun h => h hy), hr, if_neg (fun h => h rfl), hf, if_pos h1]
theorem take_len {S : StL} {a j : Nat} {L : List Pt} (hl : L.length = 16) (hj : j ≤ 16) (h : ∀ t, t < j → errS S a (L.getD t p0) = 0) : ((L.take j).flatMap (chunkS S a)).length ≤ 256 := by
  have := flat_len (L := L.take j) (f := chunkS S a) fun p hp => by
    obtain ⟨i, hi, rfl⟩ := List.getElem_of_mem hp
    rw [List.length_take] at hi
    have h1 := h i (by omega)
    rw [List.getD_eq_getElem?_getD, List.getElem?_eq_getElem (by omega)] at h1
    rw [List.getElem_take]
    unfold errS at h1
    by_cases hy : Yng a L[i]
    · exact chunkS_len S a _ (by rwa [if_pos (show Yng a ((some L[i]).getD p0) from hy)] at h1)
    · unfold chunkS
      rw [if_neg hy]
      simp
  rw [List.length_take] at this
  omega
theorem dataY_take {a k : Nat} {L : List Pt} (hk : k < L.length) : dataY a (L.take (k + 1)) = dataY a (L.take k) ++ (if Yng a (L.getD k p0) then [L.getD k p0] else []) := by
  have : L.getD k p0 = L[k] := by rw [List.getD_eq_getElem?_getD, List.getElem?_eq_getElem hk]; rfl
  unfold dataY
  rw [List.take_succ_eq_append_getElem hk, List.filter_append, this]
  congr 1
  by_cases h : Yng a L[k] <;> simp [h]
theorem dataY_len (a k : Nat) (L : List Pt) : (dataY a (L.take k)).length ≤ k := by
  unfold dataY
  exact Nat.le_trans (List.length_filter_le _ _) (by rw [List.length_take]; omega)
set_option linter.unusedSimpArgs false in
set_option maxHeartbeats 16000000 in
theorem rsYoung_any (L : Nat) (x : SAt) (S : StL) (p : Pt) (af : Nat) (w : World) (h : StP L w x S) (hm : MayS S) (hmp : MayP p) (hwp : WfP p) (haf : af < 4294967296) (hL : L ≤ w.heap.size) : Calls Tryz.prog 38 #[stV x S, ptV p, .int .u32 (af : Int)] w (OutLs (youngSO S p af) w) := by
  have hmx : Tryz.prog.follows Departure.mixedOrders = true := by kernel_rfl
  have af0 : (0 : Int) ≤ (af : Int) := by omega
  have af9 : (af : Int) ≤ 4294967295 := by omega
  have hmp2 := hmp
  obtain ⟨pa, pb, pi, pt, ps⟩ := p
  obtain ⟨w0, hw0, b0, z0, q1, q2⟩ := two_al w (stC x S) (ptA (pa, pb, pi, pt, ps)) 30 32
  obtain ⟨g, hg⟩ : ∃ g, w.heap.size = g := ⟨_, rfl⟩
  obtain ⟨g1, hg1⟩ : ∃ g1, g + 1 = g1 := ⟨_, rfl⟩
  rw [hg] at q1 q2
  rw [hg1] at q2
  have HX := Lib.hid q1
  have HQ := Lib.hid q2
  have HT := Lib.hid (h.bel b0)
  have HB := Lib.hid b0
  have HLW := Lib.hid (show L ≤ w0.heap.size from Nat.le_trans hL b0.size)
  simp only [stC, ptA] at hw0
  clear h b0 z0 q1 q2 hL
  by_cases hp0 : ((pa, pb, pi, pt, ps) : Pt) = p0
  · have hnn : eqP (pa, pb, pi, pt, ps) p0 = true := (eqP_iff _ _).2 hp0
    have HO := Lib.hid (show youngSO S (pa, pb, pi, pt, ps) af = ([], 0) by unfold youngSO; rw [hp0, if_pos (yng_p0 af)])
    clear hp0
    have q0 := bx0 HQ.out
    have q1 := bx1 HQ.out
    have q2 := bx2 HQ.out
    have q3 := bx3 HQ.out
    have q4 := bx4 HQ.out
    go_enter Tryz.func38, Tryz.ntmps38
    go_wp2_with fail
    try rw [hw0]
    try rw [hg]
    try rw [hg1]
    clear hw0 hg hg1
    clear q0 q1 q2 q3 q4
    refine (rpNone_any (pa, pb, pi, pt, ps) w0).mono ?_
    rintro e w1 ⟨rfl, b1⟩
    replace HX := Lib.hid (HX.out.below b1 HX.out.lt)
    replace HQ := Lib.hid (HQ.out.below b1 HQ.out.lt)
    replace HT := Lib.hid (HT.out.bel b1)
    replace HB := Lib.hid (HB.out.trans (b1.mono HB.out.size))
    replace HLW := Lib.hid (Nat.le_trans HLW.out b1.size)
    clear b1
    rw [hnn]
    clear hnn
    go_wp2_with fail
    go_ret2
    rw [HO.out]
    exact outLs_no 0 HB.out
  · have hnn : eqP (pa, pb, pi, pt, ps) p0 = false := decide_eq_false hp0
    by_cases hy : pb ≤ af
    · have HO := Lib.hid (show youngSO S (pa, pb, pi, pt, ps) af = ([], 0) by unfold youngSO; rw [if_pos fun h : Yng af _ => absurd h.2 (by show ¬ af < pb; omega)])
      have d1 : decide ((pb : Int) ≤ (af : Int)) = true := decide_eq_true (by omega)
      have d1n : decide (pb ≤ af) = true := decide_eq_true (by omega)
      clear hp0 hy
      have q0 := bx0 HQ.out
      have q1 := bx1 HQ.out
      have q2 := bx2 HQ.out
      have q3 := bx3 HQ.out
      have q4 := bx4 HQ.out
      go_enter Tryz.func38, Tryz.ntmps38
      go_wp2_with fail
      try rw [hw0]
      try rw [hg]
      try rw [hg1]
      clear hw0 hg hg1
      clear q0 q1 q2 q3 q4
      refine (rpNone_any (pa, pb, pi, pt, ps) w0).mono ?_
      rintro e w1 ⟨rfl, b1⟩
      replace HX := Lib.hid (HX.out.below b1 HX.out.lt)
      replace HQ := Lib.hid (HQ.out.below b1 HQ.out.lt)
      replace HT := Lib.hid (HT.out.bel b1)
      replace HB := Lib.hid (HB.out.trans (b1.mono HB.out.size))
      replace HLW := Lib.hid (Nat.le_trans HLW.out b1.size)
      clear b1
      rw [hnn]
      clear hnn
      have q1 := bx1 HQ.out
      go_wp2_with fail
      go_ret2
      rw [HO.out]
      exact outLs_no 0 HB.out
    · have d1 : decide ((pb : Int) ≤ (af : Int)) = false := decide_eq_false (by omega)
      have d1n : decide (pb ≤ af) = false := decide_eq_false (by omega)
      have hyp : Yng af (pa, pb, pi, pt, ps) := ⟨hp0, by show af < pb; omega⟩
      have HRW := Lib.hid (fun W hW hLW => rsRow_any L x S (pa, pb, pi, pt, ps) W hW hm hmp hLW)
      rcases rowSO_cases S (pa, pb, pi, pt, ps) with ⟨e, her, hen⟩ | ⟨LL, her, hl16, hwf, hml⟩
      · have HO := Lib.hid (show youngSO S (pa, pb, pi, pt, ps) af = ([], e) by unfold youngSO; rw [if_neg (fun h => h hyp), her, if_pos hen])
        have e1 : ((e : Int) != 0) = true := by simp; omega
        clear hp0 hy hyp hen
        have q0 := bx0 HQ.out
        have q1 := bx1 HQ.out
        have q2 := bx2 HQ.out
        have q3 := bx3 HQ.out
        have q4 := bx4 HQ.out
        go_enter Tryz.func38, Tryz.ntmps38
        go_wp2_with fail
        try rw [hw0]
        try rw [hg]
        try rw [hg1]
        clear hw0 hg hg1
        clear q0 q1 q2 q3 q4
        refine (rpNone_any (pa, pb, pi, pt, ps) w0).mono ?_
        rintro e w1 ⟨rfl, b1⟩
        replace HX := Lib.hid (HX.out.below b1 HX.out.lt)
        replace HQ := Lib.hid (HQ.out.below b1 HQ.out.lt)
        replace HT := Lib.hid (HT.out.bel b1)
        replace HB := Lib.hid (HB.out.trans (b1.mono HB.out.size))
        replace HLW := Lib.hid (Nat.le_trans HLW.out b1.size)
        clear b1
        rw [hnn]
        clear hnn
        have d0 := bx0 HX.out
        have d1 := bx1 HX.out
        have d2 := bx2 HX.out
        have d3 := bx3 HX.out
        have d4 := bx4 HX.out
        have q0 := bx0 HQ.out
        have q1 := bx1 HQ.out
        have q2 := bx2 HQ.out
        have q3 := bx3 HQ.out
        have q4 := bx4 HQ.out
        go_wp2_with fail
        clear d0 d1 d2 d3 d4
        clear q0 q1 q2 q3 q4
        clear d1 d1n
        have hrw := HRW.out w1 HT.out HLW.out
        rw [her] at hrw
        refine hrw.mono ?_
        rintro ev w2 ⟨a2, c2, rfl, ht2, hh2, b2⟩
        replace HX := Lib.hid (HX.out.below b2 HX.out.lt)
        replace HQ := Lib.hid (HQ.out.below b2 HQ.out.lt)
        replace HT := Lib.hid (HT.out.bel b2)
        replace HB := Lib.hid (HB.out.trans (b2.mono HB.out.size))
        replace HLW := Lib.hid (Nat.le_trans HLW.out b2.size)
        clear b2 HRW hrw
        go_wp2_with fail
        go_ret2
        rw [HO.out]
        exact outLs_no e HB.out
      · have HER := Lib.hid her
        have HYP := Lib.hid hyp
        have HL16 := Lib.hid hl16
        have HWL := Lib.hid hwf
        have HML := Lib.hid hml
        have HMS := Lib.hid hm
        have HWP := Lib.hid hwp
        clear hp0 hy hyp hl16 hwf hml
        have q0 := bx0 HQ.out
        have q1 := bx1 HQ.out
        have q2 := bx2 HQ.out
        have q3 := bx3 HQ.out
        have q4 := bx4 HQ.out
        go_enter Tryz.func38, Tryz.ntmps38
        go_wp2_with fail
        try rw [hw0]
        try rw [hg]
        try rw [hg1]
        clear hw0 hg hg1
        clear q0 q1 q2 q3 q4
        refine (rpNone_any (pa, pb, pi, pt, ps) w0).mono ?_
        rintro e w1 ⟨rfl, b1⟩
        replace HX := Lib.hid (HX.out.below b1 HX.out.lt)
        replace HQ := Lib.hid (HQ.out.below b1 HQ.out.lt)
        replace HT := Lib.hid (HT.out.bel b1)
        replace HB := Lib.hid (HB.out.trans (b1.mono HB.out.size))
        replace HLW := Lib.hid (Nat.le_trans HLW.out b1.size)
        clear b1
        rw [hnn]
        clear hnn
        have d0 := bx0 HX.out
        have d1 := bx1 HX.out
        have d2 := bx2 HX.out
        have d3 := bx3 HX.out
        have d4 := bx4 HX.out
        have q0 := bx0 HQ.out
        have q1 := bx1 HQ.out
        have q2 := bx2 HQ.out
        have q3 := bx3 HQ.out
        have q4 := bx4 HQ.out
        go_wp2_with fail
        clear d0 d1 d2 d3 d4
        clear q0 q1 q2 q3 q4
        clear d1 d1n
        have hrw := HRW.out w1 HT.out HLW.out
        rw [her] at hrw
        refine hrw.mono ?_
        rintro ev w2 ⟨a2, c2, rfl, ht2, hh2, b2⟩
        replace HX := Lib.hid (HX.out.below b2 HX.out.lt)
        replace HQ := Lib.hid (HQ.out.below b2 HQ.out.lt)
        replace HT := Lib.hid (HT.out.bel b2)
        replace HB := Lib.hid (HB.out.trans (b2.mono HB.out.size))
        replace HLW := Lib.hid (Nat.le_trans HLW.out b2.size)
        clear b2 HRW hrw
        simp only [HL16.out] at ht2 ⊢
        have HP := Lib.hid ht2
        obtain ⟨b2, o2, rfl, _⟩ := ht2.2.2.2.2 (by omega)
        have HB2 := Lib.hid (show b2 < w2.heap.size from by obtain ⟨_, _, e, h, _⟩ := ht2.2.2.2.2 (by omega); cases e; exact h)
        clear ht2 hh2 her
        have HH0 := Lib.hid (And.intro HLW.out (And.intro HB.out.size (And.intro HX.out.lt HB2.out)))
        have ez : (((0 : Nat) : Int)) = 0 := rfl
        rw [ez]
        clear ez
        have q0 := bx0 HQ.out
        have q1 := bx1 HQ.out
        have q2 := bx2 HQ.out
        have q3 := bx3 HQ.out
        have q4 := bx4 HQ.out
        have bx := (Below.refl w2.heap.size w2).alloc (Nat.le_refl _) (.cells #[.int .i64 pa, .int .u32 (pb : Int), .int .u32 (pi : Int), .int .u32 (pt : Int), .int .u32 (ps : Int)] 32)
        have pr := prow_one w2 (pa, pb, pi, pt, ps) HWP.out
        go_wp2_with fail
        clear q0 q1 q2 q3 q4
        obtain ⟨w3, hn⟩ : ∃ X, w2.alloc (.cells #[.int .i64 pa, .int .u32 (pb : Int), .int .u32 (pi : Int), .int .u32 (pt : Int), .int .u32 (ps : Int)] 32) = X := ⟨_, rfl⟩
        replace pr : PRow w3 w2.heap.size (.slice (some ⟨w2.heap.size, 0, none⟩) 1 1) [(pa, pb, pi, pt, ps)] := by rw [← hn]; exact pr
        rw [hn] at bx
        try rw [hn]
        replace HX := Lib.hid (HX.out.below bx HX.out.lt)
        replace HQ := Lib.hid (HQ.out.below bx HQ.out.lt)
        replace HT := Lib.hid (HT.out.bel bx)
        replace HB := Lib.hid (HB.out.trans (bx.mono HB.out.size))
        replace HP := Lib.hid (HP.out.step bx)
        replace HLW := Lib.hid (Nat.le_trans HLW.out bx.size)
        obtain ⟨HH, hHH⟩ : ∃ H, w2.heap.size = H := ⟨_, rfl⟩
        rw [hHH] at pr HH0
        try rw [hHH]
        have HY := Lib.hid (show YgI w L HH g b2 o2 c2 x S LL w3 from ⟨HT.out, HX.out, HP.out, HLW.out, by rw [← hHH]; exact bx.size, HB.out, HH0.out.1, HH0.out.2.1, HH0.out.2.2.1, HH0.out.2.2.2⟩)
        clear hn bx hHH HT HX HP HLW HB HQ HH0 HB2
        have HRO := Lib.hid pr
        clear pr
        go_loopw [10, 11] (fun v i wr => ∃ j : Nat, j ≤ 16 ∧ i = .int .i64 j ∧ (∀ t, t < j → errS S af (LL.getD t p0) = 0) ∧ PRow wr HH v ((pa, pb, pi, pt, ps) :: (LL.take j).flatMap (chunkS S af)) ∧ YgI w L HH g b2 o2 c2 x S LL wr) (fun _ i _ => 16 - (intOf i).toNat)
        case atStart => exact ⟨0, Nat.zero_le _, rfl, fun j hj => absurd hj (Nat.not_lt_zero _), HRO.out, HY.out⟩
        case round =>
          clear HRO HY
          obtain ⟨j, hj, rfl, herr, hro, hyi⟩ := hrel
          obtain ⟨v, hv⟩ : ∃ v : Value, u10 = v := ⟨_, rfl⟩
          rw [hv] at hro ⊢
          clear hv
          have HRO := Lib.hid hro
          have HY := Lib.hid hyi
          have HE := Lib.hid herr
          have j0 : (0 : Int) ≤ j := by omega
          clear hro hyi herr
          by_cases hlt : j < 16
          · have j1 : (j : Int) < 16 := by omega
            obtain ⟨⟨ya, yb, yi, yt, ys⟩, hP⟩ : ∃ X, LL.getD j p0 = X := ⟨_, rfl⟩
            have hmem : LL.getD j p0 ∈ LL := by
              rw [List.getD_eq_getElem?_getD, List.getElem?_eq_getElem (by rw [HL16.out]; exact hlt)]
              exact List.getElem_mem _
            have hmq := HML.out _ hmem
            have hwq := HWL.out _ hmem
            have hfl := flat_take_l (f := chunkS S af) (j := j) (L := LL) (by rw [HL16.out]; exact hlt)
            rw [hP] at hmq hwq hfl
            have HPE := Lib.hid hP
            have HMQ := Lib.hid hmq
            have HWQ := Lib.hid hwq
            have HFL := Lib.hid hfl
            clear hP hmem hmq hwq hfl
            obtain ⟨_, _, ea, _, _, v0_, v1_, v2_, v3_, v4_⟩ := HY.out.pl.cells j hlt
            cases ea
            rw [HPE.out] at v0_ v1_ v2_ v3_ v4_
            simp only at v0_ v1_ v2_ v3_ v4_
            go_wp2_with fail
            clear v0_ v1_ v2_ v3_ v4_
            refine (rpNone_any (ya, yb, yi, yt, ys) wr).mono ?_
            rintro e w5 ⟨rfl, bq⟩
            replace HRO := Lib.hid (HRO.out.below bq)
            replace HY := Lib.hid (HY.out.bel bq)
            clear bq
            by_cases hq0 : ((ya, yb, yi, yt, ys) : Pt) = p0
            · rw [(eqP_iff _ _).2 hq0]
              have HNY := Lib.hid (show ¬ Yng af (ya, yb, yi, yt, ys) from fun h => h.1 hq0)
              clear hq0
              go_wp2_with fail
              go_roundw
              case rel =>
                refine ⟨j + 1, by omega, by go_num, fun t ht => ?_, ?_, HY.out⟩
                · by_cases e : t = j
                  · subst e
                    rw [HPE.out]
                    unfold errS
                    rw [if_neg HNY.out]
                  · exact HE.out t (by omega)
                · have hc : chunkS S af (ya, yb, yi, yt, ys) = [] := by unfold chunkS; rw [if_neg HNY.out]
                  rw [HFL.out, hc, List.append_nil]
                  exact HRO.out
              case measure => simp [intOf]; omega
            · rw [eqP_not hq0]
              obtain ⟨_, _, ea, _, _, v0_, v1_, v2_, v3_, v4_⟩ := HY.out.pl.cells j hlt
              cases ea
              rw [HPE.out] at v0_ v1_ v2_ v3_ v4_
              simp only at v0_ v1_ v2_ v3_ v4_
              by_cases hyb : yb ≤ af
              · have d1 : decide ((yb : Int) ≤ (af : Int)) = true := decide_eq_true (by omega)
                have d1n : decide (yb ≤ af) = true := decide_eq_true (by omega)
                have HNY := Lib.hid (show ¬ Yng af (ya, yb, yi, yt, ys) from fun h => absurd h.2 (by show ¬ af < yb; omega))
                clear hq0 hyb
                go_wp2_with fail
                clear v0_ v1_ v2_ v3_ v4_ d1 d1n
                go_roundw
                case rel =>
                  refine ⟨j + 1, by omega, by go_num, fun t ht => ?_, ?_, HY.out⟩
                  · by_cases e : t = j
                    · subst e
                      rw [HPE.out]
                      unfold errS
                      rw [if_neg HNY.out]
                    · exact HE.out t (by omega)
                  · have hc : chunkS S af (ya, yb, yi, yt, ys) = [] := by unfold chunkS; rw [if_neg HNY.out]
                    rw [HFL.out, hc, List.append_nil]
                    exact HRO.out
                case measure => simp [intOf]; omega
              · have d1 : decide ((yb : Int) ≤ (af : Int)) = false := decide_eq_false (by omega)
                have d1n : decide (yb ≤ af) = false := decide_eq_false (by omega)
                have HYQ := Lib.hid (show Yng af (ya, yb, yi, yt, ys) from ⟨hq0, by show af < yb; omega⟩)
                obtain ⟨⟨⟨k5, l5, r5, L5⟩, z5⟩, hoe⟩ : ∃ o, oneSO S (ya, yb, yi, yt, ys) = o := ⟨_, rfl⟩
                obtain ⟨n5, hn5⟩ : ∃ n, L5.length = n := ⟨_, rfl⟩
                have HOE := Lib.hid hoe
                have HN5 := Lib.hid hn5
                clear hq0 hyb hoe hn5
                go_wp2_with fail
                clear v0_ v1_ v2_ v3_ v4_ d1 d1n
                obtain ⟨wd, hwd⟩ : ∃ wd, w5.drew = wd := ⟨_, rfl⟩
                have bq : Below w5.heap.size w5 wd := by rw [← hwd]; exact (Below.refl _ w5).drew
                replace HRO := Lib.hid (HRO.out.below bq)
                replace HY := Lib.hid (HY.out.bel bq)
                have HY9 := Lib.hid HY.out
                have HRD := Lib.hid HRO.out
                have hwd0 := Below.refl wd.heap.size wd
                refine wpI_start (Below wd.heap.size wd) [0, 1, 2, 3, 4, 5, 9, 6, 7, 8, 10, 11] hmx rfl hwd ?_
                clear hwd bq
                iterate 5 (
                  refine wpI_read (v := ?_) hwd0 rfl (by kernel_rfl) (by kernel_rfl) (by kernel_rfl) (fun _ _ _ h => h) (.inl ⟨by rfl, ?_⟩) ?_
                  rotate_left
                  · intro X hX
                    have d0 := bx0 (HY9.out.bel hX).bx
                    have d1 := bx1 (HY9.out.bel hX).bx
                    have d2 := bx2 (HY9.out.bel hX).bx
                    have d3 := bx3 (HY9.out.bel hX).bx
                    have d4 := bx4 (HY9.out.bel hX).bx
                    obtain ⟨_, _, ea, _, _, v0_, v1_, v2_, v3_, v4_⟩ := (HY9.out.bel hX).pl.cells j hlt
                    cases ea
                    rw [HPE.out] at v0_ v1_ v2_ v3_ v4_
                    simp only at v0_ v1_ v2_ v3_ v4_
                    clear hX
                    go_simp
                    with_reducible rfl
                  try simp only [Act.put, List.setIfInBounds_toArray, List.set_cons_zero, List.set_cons_succ])
                refine wpI_fork rfl rfl (by kernel_rfl) (fun K hK => ?_) (fun K hK => ?_)
                · go_simp
                  have hoc := rsOne_any L x S (ya, yb, yi, yt, ys) wd HY.out.st HMS.out HMQ.out HY.out.lw
                  rw [HOE.out] at hoc
                  refine hoc.mono ?_
                  rintro ev w7 ⟨a5, c5, rfl, ht5, hi5, bq⟩
                  simp only [HN5.out] at ht5 hi5 ⊢

                  have hs7 := hwd0.trans (bq.mono hwd0.size)
                  have HP5 := Lib.hid ht5
                  have HI5 := Lib.hid (hi5.less hwd0.size)
                  replace HRO := Lib.hid (HRO.out.below bq)
                  replace HY := Lib.hid (HY.out.bel bq)
                  refine hK _ _ hs7 ?_
                  clear hK K bq hoc ht5 hi5
                  try simp only [Act.put, List.setIfInBounds_toArray, List.set_cons_zero, List.set_cons_succ]
                  refine wpI_turn [6, 7, 8, 9, 10, 11] rfl ?_
                  iterate 3 (
                    refine wpI_read (v := ?_) hs7 rfl (by kernel_rfl) (by kernel_rfl) (by kernel_rfl) (fun _ _ _ h => h) (.inl ⟨by rfl, ?_⟩) ?_
                    rotate_left
                    · intro X hX
                      clear hX
                      go_simp
                      with_reducible rfl
                    try simp only [Act.put, List.setIfInBounds_toArray, List.set_cons_zero, List.set_cons_succ])
                  refine wpI_lone rfl (by kernel_rfl) (fun K hK => ?_)
                  go_simp
                  have bq := (Below.refl w7.heap.size w7).alloc (Nat.le_refl _) (.cells #[.int .u8 0, .int .i64 0, .int .i64 0, .slice none 0 0] 40)
                  have xq := Blk.new w7 40 #[.int .u8 0, .int .i64 0, .int .i64 0, .slice none 0 0]
                  have hn7 := fun (h : 0 < n5) p (e : a5 = some p) => HP5.out.blk_lt h e
                  obtain ⟨w8, hn⟩ : ∃ X, w7.alloc (.cells #[.int .u8 0, .int .i64 0, .int .i64 0, .slice none 0 0] 40) = X := ⟨_, rfl⟩
                  obtain ⟨g7, hg7⟩ : ∃ X, w7.heap.size = X := ⟨_, rfl⟩
                  have HG7 := Lib.hid (show wd.heap.size ≤ g7 ∧ w.heap.size ≤ g7 by have := hs7.size; have := HY.out.be.size; omega)
                  rw [hn] at bq xq ⊢
                  rw [hg7] at xq ⊢
                  have HN7 := Lib.hid (show 0 < n5 → ∀ p, a5 = some p → p.block ≠ g7 from fun h p e => by have := hn7 h p e; omega)
                  clear hn7
                  have hs8 := hs7.trans (bq.mono hs7.size)
                  replace HRO := Lib.hid (HRO.out.below bq)
                  replace HY := Lib.hid (HY.out.bel bq)
                  replace HP5 := Lib.hid (HP5.out.step bq)
                  have HBX := Lib.hid xq
                  refine hK _ _ hs8 ?_
                  clear hK K hn hg7 bq xq
                  try simp only [Act.put, List.setIfInBounds_toArray, List.set_cons_zero, List.set_cons_succ]
                  refine wpI_lone rfl (by kernel_rfl) (fun K hK => ?_)
                  have m0 := ox0 HBX.out
                  have m1 := ox1 HBX.out
                  have m2 := ox2 HBX.out
                  have m3 := ox3 HBX.out
                  have hfz := fun i => HBX.out.frozen i
                  go_simp
                  have xz := HBX.out.set4 (.int .u8 (k5 : Int)) (.int .i64 l5) (.int .i64 r5) (.slice a5 n5 c5)
                  have hpz := HP5.out.box4x HN7.out (.int .u8 (k5 : Int)) (.int .i64 l5) (.int .i64 r5) (.slice a5 n5 c5)
                  have bz := below_set4 (Below.refl wd.heap.size wd |>.trans (hs8)) HG7.out.1 (.int .u8 (k5 : Int)) (.int .i64 l5) (.int .i64 r5) (.slice a5 n5 c5)
                  obtain ⟨w9, hwz⟩ : ∃ X, (((w8.setCell ⟨g7, 0, none⟩ (.int .u8 (k5 : Int))).setCell ⟨g7, 1, none⟩ (.int .i64 l5)).setCell ⟨g7, 2, none⟩ (.int .i64 r5)).setCell ⟨g7, 3, none⟩ (.slice a5 n5 c5) = X := ⟨_, rfl⟩
                  have hsz : w8.heap.size = w9.heap.size := by rw [← hwz]; simp [World.setCell]
                  rw [hwz] at xz bz hpz ⊢
                  rw [hsz] at hpz
                  refine hK _ _ bz ?_
                  clear hK K m0 m1 m2 m3 hfz hwz
                  try simp only [Act.put, List.setIfInBounds_toArray, List.set_cons_zero, List.set_cons_succ]
                  have HBX9 := Lib.hid xz
                  have HP9 := Lib.hid hpz
                  have HYW := Lib.hid (HY9.out.bel bz)
                  have HRW := Lib.hid (HRD.out.below bz)
                  clear xz hpz HBX HP5 HY HRO
                  iterate 1 (
                    refine wpI_read (v := ?_) bz rfl (by kernel_rfl) (by kernel_rfl) (by kernel_rfl) (fun _ _ _ h => h) (.inl ⟨by rfl, ?_⟩) ?_
                    rotate_left
                    · intro X hX
                      clear hX
                      go_simp
                      with_reducible rfl
                    try simp only [Act.put, List.setIfInBounds_toArray, List.set_cons_zero, List.set_cons_succ])
                  refine wpI_done (by kernel_rfl) ?_
                  have HO9 := Lib.hid (show Out9 wd.heap.size w9.heap.size v from fun k e => .inl (HRD.out.1.lt k e).2)
                  have HYO := Lib.hid (show YgO wd.heap.size w9.heap.size g7 n5 c5 a5 #[.int .u8 (k5 : Int), .int .i64 l5, .int .i64 r5, .slice a5 n5 c5] L5 w9 from ⟨HBX9.out, HP9.out, Nat.le_refl _, HG7.out.1, HBX9.out.lt, fun h p e => ⟨HI5.out p e, HP9.out.blk_lt h e⟩⟩)
                  have HY := HYW
                  have HRO := HRW
                  clear bz HYW HRW HBX9 HP9 HI5 HN7 HY9 HRD hsz HG7 
                  by_cases hz5 : z5 = 0
                  · have e1 : ((z5 : Int) != 0) = false := by simp; omega
                    have hco : n5 = 15 ∧ (∀ q ∈ L5, WfP q) := by
                      rcases oneSO_cases S (ya, yb, yi, yt, ys) with ⟨e, h1, h2⟩ | ⟨O, h1, h2, h3⟩
                      · rw [HOE.out] at h1
                        injection h1 with _ h1
                        exact absurd (h1.symm.trans hz5) h2
                      · rw [HOE.out] at h1
                        injection h1 with h1 _
                        subst h1
                        exact ⟨HN5.out.symm.trans h2.1.2.2.2, h3⟩
                    have hch : chunkS S af (ya, yb, yi, yt, ys) = (ya, yb, yi, yt, ys) :: dataY af L5 := by
                      unfold chunkS
                      rw [if_pos HYQ.out, HOE.out]
                    have HN15 := Lib.hid hco.1
                    have HWQ5 := Lib.hid hco.2
                    have HCH := Lib.hid hch
                    have HZ5 := Lib.hid hz5
                    have HLB := Lib.hid (take_len HL16.out hj HE.out)
                    clear hco hch hz5
                    obtain ⟨H1, hH1⟩ : ∃ X, wd.heap.size = X := ⟨_, rfl⟩
                    obtain ⟨H2, hH2⟩ : ∃ X, w9.heap.size = X := ⟨_, rfl⟩
                    rw [hH1, hH2] at HO9 HYO
                    clear hH1 hH2
                    obtain ⟨_, _, ea, _, _, v0_, v1_, v2_, v3_, v4_⟩ := HY.out.pl.cells j hlt
                    cases ea
                    rw [HPE.out] at v0_ v1_ v2_ v3_ v4_
                    simp only at v0_ v1_ v2_ v3_ v4_
                    obtain ⟨RA, hRA⟩ : ∃ X : List Pt, (pa, pb, pi, pt, ps) :: (LL.take j).flatMap (chunkS S af) = X := ⟨_, rfl⟩
                    have HRA := Lib.hid hRA
                    have HLR := Lib.hid (show RA.length + 1 ≤ 1000000 from by rw [← hRA]; have := HLB.out; simp only [List.length_cons]; omega)
                    have h0 : 0 < RA.length := by rw [← hRA]; simp
                    rw [hRA] at HRO
                    clear hRA
                    have HL1 := Lib.hid h0
                    have hbb := (Below.refl w9.heap.size w9).alloc (Nat.le_refl _) (.cells (ptC (ya, yb, yi, yt, ys)).toArray 32)
                    have HAR := Lib.hid (HRO.out.below hbb)
                    have HAH := Lib.hid (show HH ≤ (w9.alloc (.cells (ptC (ya, yb, yi, yt, ys)).toArray 32)).heap.size from Nat.le_trans HY.out.hw hbb.size)
                    have hpt := one_pts w9 (ya, yb, yi, yt, ys) HWQ.out
                    have HPT := Lib.hid hpt
                    clear hbb hpt h0
                    go_wp2_with (first
                      | (at_builtin
                         refine wpList_append_plie rfl (.tmp 64) (.tmp 69) rfl HH v _ rfl HAR.out _ _ 1 1 [(ya, yb, yi, yt, ys)] rfl HPT.out (by decide) HLR.out HAH.out ?_
                         intro gg cg wn1 hp' hg' hd' hl'
                         obtain ⟨hy', ho', h9'⟩ := yg_app (n := RA.length + 1) (cap := cg) HRO.out HL1.out HY.out HYO.out HO9.out hg' hd'
                         have HRN := Lib.hid hp'
                         have HYN := Lib.hid hy'
                         have HON := Lib.hid ho'
                         have H9N := Lib.hid h9'
                         clear hp' hg' hd' hl' hy' ho' h9'))
                    clear v0_ v1_ v2_ v3_ v4_
                    clear e1 HRO HY HYO HO9 HAR HAH HPT HL1 HLR
                    go_loopw [10, 14] (fun v i wr => ∃ k : Nat, k ≤ n5 ∧ i = .int .i64 k ∧ PRow wr HH v (((pa, pb, pi, pt, ps) :: (LL.take j).flatMap (chunkS S af)) ++ (ya, yb, yi, yt, ys) :: dataY af (L5.take k)) ∧ YgI w L HH g b2 o2 c2 x S LL wr ∧ YgO H1 H2 g7 n5 c5 a5 #[.int .u8 (k5 : Int), .int .i64 l5, .int .i64 r5, .slice a5 n5 c5] L5 wr ∧ Out9 H1 H2 v) (fun _ i _ => n5 - (intOf i).toNat)
                    case atStart => exact ⟨0, Nat.zero_le _, rfl, (by have := HRN.out; rw [← HRA.out] at this ⊢; exact this), HYN.out, HON.out, H9N.out⟩
                    case round =>
                      clear HRN HYN HON H9N
                      obtain ⟨k, hk, rfl, hro, hyi, hyo, h9⟩ := hrel
                      obtain ⟨v, hv⟩ : ∃ v : Value, u10 = v := ⟨_, rfl⟩
                      rw [hv] at hro h9 ⊢
                      clear hv
                      have HRO := Lib.hid hro
                      have HY := Lib.hid hyi
                      have HYO := Lib.hid hyo
                      have HO9 := Lib.hid h9
                      have k0 : (0 : Int) ≤ k := by omega
                      clear hro hyi hyo h9
                      by_cases hlk : k < n5
                      · have k1 : (k : Int) < n5 := by omega
                        have k15 : (k : Int) < 15 := by have := HN15.out; omega
                        obtain ⟨⟨ua, ub, ui, ut, us⟩, hP⟩ : ∃ X, L5.getD k p0 = X := ⟨_, rfl⟩
                        have hwq : WfP (L5.getD k p0) := HWQ5.out _ (by
                          rw [List.getD_eq_getElem?_getD, List.getElem?_eq_getElem (by rw [HN5.out]; exact hlk)]
                          exact List.getElem_mem _)
                        rw [hP] at hwq
                        have HQE := Lib.hid hP
                        have HWU := Lib.hid hwq
                        clear hP hwq
                        have m3 := ox3 HYO.out.bx
                        obtain ⟨_, _, ea, _, _, v0_, v1_, v2_, v3_, v4_⟩ := HYO.out.pl.cells k hlk
                        subst ea
                        rw [HQE.out] at v0_ v1_ v2_ v3_ v4_
                        simp only at v0_ v1_ v2_ v3_ v4_
                        go_wp2_with fail
                        clear v0_ v1_ v2_ v3_ v4_ m3
                        refine (rpNone_any (ua, ub, ui, ut, us) wr).mono ?_
                        rintro e wp ⟨rfl, bq⟩
                        replace HRO := Lib.hid (HRO.out.below bq)
                        replace HY := Lib.hid (HY.out.bel bq)
                        replace HYO := Lib.hid (HYO.out.bel bq)
                        clear bq
                        by_cases hu0 : ((ua, ub, ui, ut, us) : Pt) = p0
                        · rw [(eqP_iff _ _).2 hu0]
                          have HNU := Lib.hid (show ¬ Yng af (ua, ub, ui, ut, us) from fun h => h.1 hu0)
                          clear hu0
                          go_wp2_with fail
                          go_roundw
                          case rel =>
                            have h15 := HN15.out
                            refine ⟨k + 1, by omega, by go_num, ?_, HY.out, HYO.out, HO9.out⟩
                            rw [dataY_take (by rw [HN5.out]; exact hlk), HQE.out, if_neg HNU.out, List.append_nil]
                            exact HRO.out
                          case measure => have h15 := HN15.out; simp [intOf]; omega
                        · rw [eqP_not hu0]
                          have m3 := ox3 HYO.out.bx
                          obtain ⟨_, _, ea, _, _, v0_, v1_, v2_, v3_, v4_⟩ := HYO.out.pl.cells k hlk
                          cases ea
                          rw [HQE.out] at v0_ v1_ v2_ v3_ v4_
                          simp only at v0_ v1_ v2_ v3_ v4_
                          by_cases hub : af < ub
                          · have d1 : decide ((ub : Int) > (af : Int)) = true := decide_eq_true (by omega)
                            have d2 : decide ((af : Int) < (ub : Int)) = true := decide_eq_true (by omega)
                            have d1n : decide (ub > af) = true := decide_eq_true (by omega)
                            have HYU := Lib.hid (show Yng af (ua, ub, ui, ut, us) from ⟨hu0, hub⟩)
                            clear hu0 hub
                            obtain ⟨RA, hRA⟩ : ∃ X : List Pt, ((pa, pb, pi, pt, ps) :: (LL.take j).flatMap (chunkS S af)) ++ (ya, yb, yi, yt, ys) :: dataY af (L5.take k) = X := ⟨_, rfl⟩
                            have HRA := Lib.hid hRA
                            have HLR := Lib.hid (show RA.length + 1 ≤ 1000000 from by rw [← hRA]; have := HLB.out; have := dataY_len af k L5; have := HN15.out; simp only [List.length_append, List.length_cons]; omega)
                            have h0 : 0 < RA.length := by rw [← hRA]; simp
                            rw [hRA] at HRO
                            clear hRA
                            have HL1 := Lib.hid h0
                            have hbb := (Below.refl wp.heap.size wp).alloc (Nat.le_refl _) (.cells (ptC (ua, ub, ui, ut, us)).toArray 32)
                            have HAR := Lib.hid (HRO.out.below hbb)
                            have HAH := Lib.hid (show HH ≤ (wp.alloc (.cells (ptC (ua, ub, ui, ut, us)).toArray 32)).heap.size from Nat.le_trans HY.out.hw hbb.size)
                            have hpt := one_pts wp (ua, ub, ui, ut, us) HWU.out
                            have HPT := Lib.hid hpt
                            clear hbb hpt h0
                            go_wp2_with (first
                              | (at_builtin
                                 refine wpList_append_plie rfl (.tmp 95) (.tmp 101) rfl HH v _ rfl HAR.out _ _ 1 1 [(ua, ub, ui, ut, us)] rfl HPT.out (by decide) HLR.out HAH.out ?_
                                 intro gg cg wn2 hp' hg' hd' hl'
                                 obtain ⟨hy', ho', h9'⟩ := yg_app (n := RA.length + 1) (cap := cg) HRO.out HL1.out HY.out HYO.out HO9.out hg' hd'
                                 have HRN := Lib.hid hp'
                                 have HYN := Lib.hid hy'
                                 have HON := Lib.hid ho'
                                 have H9N := Lib.hid h9'
                                 clear hp' hg' hd' hl' hy' ho' h9'))
                            clear v0_ v1_ v2_ v3_ v4_ m3 d1 d2 d1n
                            go_roundw
                            case rel =>
                              have h15 := HN15.out
                              refine ⟨k + 1, by omega, by go_num, ?_, HYN.out, HON.out, H9N.out⟩
                              rw [dataY_take (by rw [HN5.out]; exact hlk), HQE.out, if_pos HYU.out]
                              (have hrn := HRN.out; rw [← HRA.out] at hrn ⊢; simpa using hrn)
                            case measure => have h15 := HN15.out; simp [intOf]; omega
                          · have d1 : decide ((ub : Int) > (af : Int)) = false := decide_eq_false (by omega)
                            have d2 : decide ((af : Int) < (ub : Int)) = false := decide_eq_false (by omega)
                            have d1n : decide (ub > af) = false := decide_eq_false (by omega)
                            have HNU := Lib.hid (show ¬ Yng af (ua, ub, ui, ut, us) from fun h => absurd h.2 (by show ¬ af < ub; omega))
                            clear hu0 hub
                            go_wp2_with fail
                            clear v0_ v1_ v2_ v3_ v4_ m3 d1 d2 d1n
                            go_roundw
                            case rel =>
                              have h15 := HN15.out
                              refine ⟨k + 1, by omega, by go_num, ?_, HY.out, HYO.out, HO9.out⟩
                              rw [dataY_take (by rw [HN5.out]; exact hlk), HQE.out, if_neg HNU.out, List.append_nil]
                              exact HRO.out
                            case measure => have h15 := HN15.out; simp [intOf]; omega
                      · obtain rfl : k = n5 := by omega
                        have hto : L5.take k = L5 := List.take_of_length_le (by rw [HN5.out]; exact Nat.le_refl _)
                        have hro := HRO.out
                        rw [hto] at hro
                        have HRX := Lib.hid hro
                        clear hro hto
                        have m3 := ox3 HYO.out.bx
                        go_wp2_with fail
                        clear m3
                        go_roundw
                        case rel =>
                          refine ⟨j + 1, by omega, by go_num, fun t ht => ?_, ?_, HY.out⟩
                          · by_cases e : t = j
                            · subst e
                              rw [HPE.out]
                              unfold errS
                              rw [if_pos HYQ.out, HOE.out]
                              exact HZ5.out
                            · exact HE.out t (by omega)
                          · rw [HFL.out, HCH.out]
                            exact HRX.out
                        case measure => simp [intOf]; omega
                  · have e1 : ((z5 : Int) != 0) = true := by simp; omega
                    have hpe : errS S af (ya, yb, yi, yt, ys) = z5 := by
                      unfold errS
                      rw [if_pos HYQ.out, HOE.out]
                    have hye : youngSO S (pa, pb, pi, pt, ps) af = ([], z5) := by
                      rw [youngSO_err (j := j) HYP.out HER.out (by rw [HL16.out]; exact hlt) HE.out (by rw [HPE.out, hpe]; exact hz5), HPE.out, hpe]
                    have HYE := Lib.hid hye
                    clear hpe hye hz5
                    go_wp2_with fail
                    go_ret2
                    rw [HYE.out]
                    exact outLs_no z5 HY.out.be
                · go_simp
                  have bq := (Below.refl wd.heap.size wd).alloc (Nat.le_refl _) (.cells #[.int .u8 0, .int .i64 0, .int .i64 0, .slice none 0 0] 40)
                  have xq := Blk.new wd 40 #[.int .u8 0, .int .i64 0, .int .i64 0, .slice none 0 0]

                  obtain ⟨w7, hn⟩ : ∃ X, wd.alloc (.cells #[.int .u8 0, .int .i64 0, .int .i64 0, .slice none 0 0] 40) = X := ⟨_, rfl⟩
                  obtain ⟨g7, hg7⟩ : ∃ X, wd.heap.size = X := ⟨_, rfl⟩
                  have HG7 := Lib.hid (show wd.heap.size ≤ g7 ∧ w.heap.size ≤ g7 by have := hwd0.size; have := HY.out.be.size; omega)
                  rw [hn] at bq xq ⊢
                  rw [hg7] at xq ⊢


                  have hs7 := hwd0.trans (bq.mono hwd0.size)
                  replace HRO := Lib.hid (HRO.out.below bq)
                  replace HY := Lib.hid (HY.out.bel bq)
                  have HBX := Lib.hid xq
                  refine hK _ _ hs7 ?_
                  clear hK K hn hg7 bq xq
                  try simp only [Act.put, List.setIfInBounds_toArray, List.set_cons_zero, List.set_cons_succ]
                  refine wpI_lone rfl (by kernel_rfl) (fun K hK => ?_)
                  go_simp
                  have hoc := rsOne_any L x S (ya, yb, yi, yt, ys) w7 HY.out.st HMS.out HMQ.out HY.out.lw
                  rw [HOE.out] at hoc
                  refine hoc.mono ?_
                  rintro ev w8 ⟨a5, c5, rfl, ht5, hi5, bq⟩
                  simp only [HN5.out] at ht5 hi5 ⊢
                  have HN7 := Lib.hid (show 0 < n5 → ∀ p, a5 = some p → p.block ≠ g7 from fun _ p e => by have := hi5 p e; have := HBX.out.lt; omega)
                  have hs8 := hs7.trans (bq.mono hs7.size)
                  have HP5 := Lib.hid ht5
                  have HI5 := Lib.hid (hi5.less hs7.size)
                  replace HRO := Lib.hid (HRO.out.below bq)
                  replace HY := Lib.hid (HY.out.bel bq)
                  replace HBX := Lib.hid (HBX.out.below bq HBX.out.lt)
                  refine hK _ _ hs8 ?_
                  clear hK K bq hoc ht5 hi5
                  try simp only [Act.put, List.setIfInBounds_toArray, List.set_cons_zero, List.set_cons_succ]
                  iterate 3 (
                    refine wpI_read (v := ?_) hs8 rfl (by kernel_rfl) (by kernel_rfl) (by kernel_rfl) (fun _ _ _ h => h) (.inl ⟨by rfl, ?_⟩) ?_
                    rotate_left
                    · intro X hX
                      clear hX
                      go_simp
                      with_reducible rfl
                    try simp only [Act.put, List.setIfInBounds_toArray, List.set_cons_zero, List.set_cons_succ])
                  refine wpI_lone rfl (by kernel_rfl) (fun K hK => ?_)
                  have m0 := ox0 HBX.out
                  have m1 := ox1 HBX.out
                  have m2 := ox2 HBX.out
                  have m3 := ox3 HBX.out
                  have hfz := fun i => HBX.out.frozen i
                  go_simp
                  have xz := HBX.out.set4 (.int .u8 (k5 : Int)) (.int .i64 l5) (.int .i64 r5) (.slice a5 n5 c5)
                  have hpz := HP5.out.box4x HN7.out (.int .u8 (k5 : Int)) (.int .i64 l5) (.int .i64 r5) (.slice a5 n5 c5)
                  have bz := below_set4 (Below.refl wd.heap.size wd |>.trans (hs8)) HG7.out.1 (.int .u8 (k5 : Int)) (.int .i64 l5) (.int .i64 r5) (.slice a5 n5 c5)
                  obtain ⟨w9, hwz⟩ : ∃ X, (((w8.setCell ⟨g7, 0, none⟩ (.int .u8 (k5 : Int))).setCell ⟨g7, 1, none⟩ (.int .i64 l5)).setCell ⟨g7, 2, none⟩ (.int .i64 r5)).setCell ⟨g7, 3, none⟩ (.slice a5 n5 c5) = X := ⟨_, rfl⟩
                  have hsz : w8.heap.size = w9.heap.size := by rw [← hwz]; simp [World.setCell]
                  rw [hwz] at xz bz hpz ⊢
                  rw [hsz] at hpz
                  refine hK _ _ bz ?_
                  clear hK K m0 m1 m2 m3 hfz hwz
                  try simp only [Act.put, List.setIfInBounds_toArray, List.set_cons_zero, List.set_cons_succ]
                  have HBX9 := Lib.hid xz
                  have HP9 := Lib.hid hpz
                  have HYW := Lib.hid (HY9.out.bel bz)
                  have HRW := Lib.hid (HRD.out.below bz)
                  clear xz hpz HBX HP5 HY HRO
                  iterate 1 (
                    refine wpI_read (v := ?_) bz rfl (by kernel_rfl) (by kernel_rfl) (by kernel_rfl) (fun _ _ _ h => h) (.inl ⟨by rfl, ?_⟩) ?_
                    rotate_left
                    · intro X hX
                      clear hX
                      go_simp
                      with_reducible rfl
                    try simp only [Act.put, List.setIfInBounds_toArray, List.set_cons_zero, List.set_cons_succ])
                  refine wpI_done (by kernel_rfl) ?_
                  have HO9 := Lib.hid (show Out9 wd.heap.size w9.heap.size v from fun k e => .inl (HRD.out.1.lt k e).2)
                  have HYO := Lib.hid (show YgO wd.heap.size w9.heap.size g7 n5 c5 a5 #[.int .u8 (k5 : Int), .int .i64 l5, .int .i64 r5, .slice a5 n5 c5] L5 w9 from ⟨HBX9.out, HP9.out, Nat.le_refl _, HG7.out.1, HBX9.out.lt, fun h p e => ⟨HI5.out p e, HP9.out.blk_lt h e⟩⟩)
                  have HY := HYW
                  have HRO := HRW
                  clear bz HYW HRW HBX9 HP9 HI5 HN7 HY9 HRD hsz HG7 
                  by_cases hz5 : z5 = 0
                  · have e1 : ((z5 : Int) != 0) = false := by simp; omega
                    have hco : n5 = 15 ∧ (∀ q ∈ L5, WfP q) := by
                      rcases oneSO_cases S (ya, yb, yi, yt, ys) with ⟨e, h1, h2⟩ | ⟨O, h1, h2, h3⟩
                      · rw [HOE.out] at h1
                        injection h1 with _ h1
                        exact absurd (h1.symm.trans hz5) h2
                      · rw [HOE.out] at h1
                        injection h1 with h1 _
                        subst h1
                        exact ⟨HN5.out.symm.trans h2.1.2.2.2, h3⟩
                    have hch : chunkS S af (ya, yb, yi, yt, ys) = (ya, yb, yi, yt, ys) :: dataY af L5 := by
                      unfold chunkS
                      rw [if_pos HYQ.out, HOE.out]
                    have HN15 := Lib.hid hco.1
                    have HWQ5 := Lib.hid hco.2
                    have HCH := Lib.hid hch
                    have HZ5 := Lib.hid hz5
                    have HLB := Lib.hid (take_len HL16.out hj HE.out)
                    clear hco hch hz5
                    obtain ⟨H1, hH1⟩ : ∃ X, wd.heap.size = X := ⟨_, rfl⟩
                    obtain ⟨H2, hH2⟩ : ∃ X, w9.heap.size = X := ⟨_, rfl⟩
                    rw [hH1, hH2] at HO9 HYO
                    clear hH1 hH2
                    obtain ⟨_, _, ea, _, _, v0_, v1_, v2_, v3_, v4_⟩ := HY.out.pl.cells j hlt
                    cases ea
                    rw [HPE.out] at v0_ v1_ v2_ v3_ v4_
                    simp only at v0_ v1_ v2_ v3_ v4_
                    obtain ⟨RA, hRA⟩ : ∃ X : List Pt, (pa, pb, pi, pt, ps) :: (LL.take j).flatMap (chunkS S af) = X := ⟨_, rfl⟩
                    have HRA := Lib.hid hRA
                    have HLR := Lib.hid (show RA.length + 1 ≤ 1000000 from by rw [← hRA]; have := HLB.out; simp only [List.length_cons]; omega)
                    have h0 : 0 < RA.length := by rw [← hRA]; simp
                    rw [hRA] at HRO
                    clear hRA
                    have HL1 := Lib.hid h0
                    have hbb := (Below.refl w9.heap.size w9).alloc (Nat.le_refl _) (.cells (ptC (ya, yb, yi, yt, ys)).toArray 32)
                    have HAR := Lib.hid (HRO.out.below hbb)
                    have HAH := Lib.hid (show HH ≤ (w9.alloc (.cells (ptC (ya, yb, yi, yt, ys)).toArray 32)).heap.size from Nat.le_trans HY.out.hw hbb.size)
                    have hpt := one_pts w9 (ya, yb, yi, yt, ys) HWQ.out
                    have HPT := Lib.hid hpt
                    clear hbb hpt h0
                    go_wp2_with (first
                      | (at_builtin
                         refine wpList_append_plie rfl (.tmp 64) (.tmp 69) rfl HH v _ rfl HAR.out _ _ 1 1 [(ya, yb, yi, yt, ys)] rfl HPT.out (by decide) HLR.out HAH.out ?_
                         intro gg cg wn1 hp' hg' hd' hl'
                         obtain ⟨hy', ho', h9'⟩ := yg_app (n := RA.length + 1) (cap := cg) HRO.out HL1.out HY.out HYO.out HO9.out hg' hd'
                         have HRN := Lib.hid hp'
                         have HYN := Lib.hid hy'
                         have HON := Lib.hid ho'
                         have H9N := Lib.hid h9'
                         clear hp' hg' hd' hl' hy' ho' h9'))
                    clear v0_ v1_ v2_ v3_ v4_
                    clear e1 HRO HY HYO HO9 HAR HAH HPT HL1 HLR
                    go_loopw [10, 14] (fun v i wr => ∃ k : Nat, k ≤ n5 ∧ i = .int .i64 k ∧ PRow wr HH v (((pa, pb, pi, pt, ps) :: (LL.take j).flatMap (chunkS S af)) ++ (ya, yb, yi, yt, ys) :: dataY af (L5.take k)) ∧ YgI w L HH g b2 o2 c2 x S LL wr ∧ YgO H1 H2 g7 n5 c5 a5 #[.int .u8 (k5 : Int), .int .i64 l5, .int .i64 r5, .slice a5 n5 c5] L5 wr ∧ Out9 H1 H2 v) (fun _ i _ => n5 - (intOf i).toNat)
                    case atStart => exact ⟨0, Nat.zero_le _, rfl, (by have := HRN.out; rw [← HRA.out] at this ⊢; exact this), HYN.out, HON.out, H9N.out⟩
                    case round =>
                      clear HRN HYN HON H9N
                      obtain ⟨k, hk, rfl, hro, hyi, hyo, h9⟩ := hrel
                      obtain ⟨v, hv⟩ : ∃ v : Value, u10 = v := ⟨_, rfl⟩
                      rw [hv] at hro h9 ⊢
                      clear hv
                      have HRO := Lib.hid hro
                      have HY := Lib.hid hyi
                      have HYO := Lib.hid hyo
                      have HO9 := Lib.hid h9
                      have k0 : (0 : Int) ≤ k := by omega
                      clear hro hyi hyo h9
                      by_cases hlk : k < n5
                      · have k1 : (k : Int) < n5 := by omega
                        have k15 : (k : Int) < 15 := by have := HN15.out; omega
                        obtain ⟨⟨ua, ub, ui, ut, us⟩, hP⟩ : ∃ X, L5.getD k p0 = X := ⟨_, rfl⟩
                        have hwq : WfP (L5.getD k p0) := HWQ5.out _ (by
                          rw [List.getD_eq_getElem?_getD, List.getElem?_eq_getElem (by rw [HN5.out]; exact hlk)]
                          exact List.getElem_mem _)
                        rw [hP] at hwq
                        have HQE := Lib.hid hP
                        have HWU := Lib.hid hwq
                        clear hP hwq
                        have m3 := ox3 HYO.out.bx
                        obtain ⟨_, _, ea, _, _, v0_, v1_, v2_, v3_, v4_⟩ := HYO.out.pl.cells k hlk
                        subst ea
                        rw [HQE.out] at v0_ v1_ v2_ v3_ v4_
                        simp only at v0_ v1_ v2_ v3_ v4_
                        go_wp2_with fail
                        clear v0_ v1_ v2_ v3_ v4_ m3
                        refine (rpNone_any (ua, ub, ui, ut, us) wr).mono ?_
                        rintro e wp ⟨rfl, bq⟩
                        replace HRO := Lib.hid (HRO.out.below bq)
                        replace HY := Lib.hid (HY.out.bel bq)
                        replace HYO := Lib.hid (HYO.out.bel bq)
                        clear bq
                        by_cases hu0 : ((ua, ub, ui, ut, us) : Pt) = p0
                        · rw [(eqP_iff _ _).2 hu0]
                          have HNU := Lib.hid (show ¬ Yng af (ua, ub, ui, ut, us) from fun h => h.1 hu0)
                          clear hu0
                          go_wp2_with fail
                          go_roundw
                          case rel =>
                            have h15 := HN15.out
                            refine ⟨k + 1, by omega, by go_num, ?_, HY.out, HYO.out, HO9.out⟩
                            rw [dataY_take (by rw [HN5.out]; exact hlk), HQE.out, if_neg HNU.out, List.append_nil]
                            exact HRO.out
                          case measure => have h15 := HN15.out; simp [intOf]; omega
                        · rw [eqP_not hu0]
                          have m3 := ox3 HYO.out.bx
                          obtain ⟨_, _, ea, _, _, v0_, v1_, v2_, v3_, v4_⟩ := HYO.out.pl.cells k hlk
                          cases ea
                          rw [HQE.out] at v0_ v1_ v2_ v3_ v4_
                          simp only at v0_ v1_ v2_ v3_ v4_
                          by_cases hub : af < ub
                          · have d1 : decide ((ub : Int) > (af : Int)) = true := decide_eq_true (by omega)
                            have d2 : decide ((af : Int) < (ub : Int)) = true := decide_eq_true (by omega)
                            have d1n : decide (ub > af) = true := decide_eq_true (by omega)
                            have HYU := Lib.hid (show Yng af (ua, ub, ui, ut, us) from ⟨hu0, hub⟩)
                            clear hu0 hub
                            obtain ⟨RA, hRA⟩ : ∃ X : List Pt, ((pa, pb, pi, pt, ps) :: (LL.take j).flatMap (chunkS S af)) ++ (ya, yb, yi, yt, ys) :: dataY af (L5.take k) = X := ⟨_, rfl⟩
                            have HRA := Lib.hid hRA
                            have HLR := Lib.hid (show RA.length + 1 ≤ 1000000 from by rw [← hRA]; have := HLB.out; have := dataY_len af k L5; have := HN15.out; simp only [List.length_append, List.length_cons]; omega)
                            have h0 : 0 < RA.length := by rw [← hRA]; simp
                            rw [hRA] at HRO
                            clear hRA
                            have HL1 := Lib.hid h0
                            have hbb := (Below.refl wp.heap.size wp).alloc (Nat.le_refl _) (.cells (ptC (ua, ub, ui, ut, us)).toArray 32)
                            have HAR := Lib.hid (HRO.out.below hbb)
                            have HAH := Lib.hid (show HH ≤ (wp.alloc (.cells (ptC (ua, ub, ui, ut, us)).toArray 32)).heap.size from Nat.le_trans HY.out.hw hbb.size)
                            have hpt := one_pts wp (ua, ub, ui, ut, us) HWU.out
                            have HPT := Lib.hid hpt
                            clear hbb hpt h0
                            go_wp2_with (first
                              | (at_builtin
                                 refine wpList_append_plie rfl (.tmp 95) (.tmp 101) rfl HH v _ rfl HAR.out _ _ 1 1 [(ua, ub, ui, ut, us)] rfl HPT.out (by decide) HLR.out HAH.out ?_
                                 intro gg cg wn2 hp' hg' hd' hl'
                                 obtain ⟨hy', ho', h9'⟩ := yg_app (n := RA.length + 1) (cap := cg) HRO.out HL1.out HY.out HYO.out HO9.out hg' hd'
                                 have HRN := Lib.hid hp'
                                 have HYN := Lib.hid hy'
                                 have HON := Lib.hid ho'
                                 have H9N := Lib.hid h9'
                                 clear hp' hg' hd' hl' hy' ho' h9'))
                            clear v0_ v1_ v2_ v3_ v4_ m3 d1 d2 d1n
                            go_roundw
                            case rel =>
                              have h15 := HN15.out
                              refine ⟨k + 1, by omega, by go_num, ?_, HYN.out, HON.out, H9N.out⟩
                              rw [dataY_take (by rw [HN5.out]; exact hlk), HQE.out, if_pos HYU.out]
                              (have hrn := HRN.out; rw [← HRA.out] at hrn ⊢; simpa using hrn)
                            case measure => have h15 := HN15.out; simp [intOf]; omega
                          · have d1 : decide ((ub : Int) > (af : Int)) = false := decide_eq_false (by omega)
                            have d2 : decide ((af : Int) < (ub : Int)) = false := decide_eq_false (by omega)
                            have d1n : decide (ub > af) = false := decide_eq_false (by omega)
                            have HNU := Lib.hid (show ¬ Yng af (ua, ub, ui, ut, us) from fun h => absurd h.2 (by show ¬ af < ub; omega))
                            clear hu0 hub
                            go_wp2_with fail
                            clear v0_ v1_ v2_ v3_ v4_ m3 d1 d2 d1n
                            go_roundw
                            case rel =>
                              have h15 := HN15.out
                              refine ⟨k + 1, by omega, by go_num, ?_, HY.out, HYO.out, HO9.out⟩
                              rw [dataY_take (by rw [HN5.out]; exact hlk), HQE.out, if_neg HNU.out, List.append_nil]
                              exact HRO.out
                            case measure => have h15 := HN15.out; simp [intOf]; omega
                      · obtain rfl : k = n5 := by omega
                        have hto : L5.take k = L5 := List.take_of_length_le (by rw [HN5.out]; exact Nat.le_refl _)
                        have hro := HRO.out
                        rw [hto] at hro
                        have HRX := Lib.hid hro
                        clear hro hto
                        have m3 := ox3 HYO.out.bx
                        go_wp2_with fail
                        clear m3
                        go_roundw
                        case rel =>
                          refine ⟨j + 1, by omega, by go_num, fun t ht => ?_, ?_, HY.out⟩
                          · by_cases e : t = j
                            · subst e
                              rw [HPE.out]
                              unfold errS
                              rw [if_pos HYQ.out, HOE.out]
                              exact HZ5.out
                            · exact HE.out t (by omega)
                          · rw [HFL.out, HCH.out]
                            exact HRX.out
                        case measure => simp [intOf]; omega
                  · have e1 : ((z5 : Int) != 0) = true := by simp; omega
                    have hpe : errS S af (ya, yb, yi, yt, ys) = z5 := by
                      unfold errS
                      rw [if_pos HYQ.out, HOE.out]
                    have hye : youngSO S (pa, pb, pi, pt, ps) af = ([], z5) := by
                      rw [youngSO_err (j := j) HYP.out HER.out (by rw [HL16.out]; exact hlt) HE.out (by rw [HPE.out, hpe]; exact hz5), HPE.out, hpe]
                    have HYE := Lib.hid hye
                    clear hpe hye hz5
                    go_wp2_with fail
                    go_ret2
                    rw [HYE.out]
                    exact outLs_no z5 HY.out.be
          · obtain rfl : j = 16 := by omega
            have htk : LL.take 16 = LL := List.take_of_length_le (by rw [HL16.out]; exact Nat.le_refl _)
            have hro := HRO.out
            rw [htk] at hro
            have hyo : youngSO S (pa, pb, pi, pt, ps) af = ((pa, pb, pi, pt, ps) :: LL.flatMap (chunkS S af), 0) := by
              refine youngSO_row HYP.out HER.out fun q hq hy => ?_
              obtain ⟨i, hi, rfl⟩ := List.getElem_of_mem hq
              have := HE.out i (by rw [← HL16.out]; exact hi)
              rw [List.getD_eq_getElem?_getD, List.getElem?_eq_getElem hi] at this
              unfold errS at this
              rwa [if_pos (show Yng af ((some LL[i]).getD p0) from hy)] at this
            obtain ⟨av, cv, rfl, htv⟩ := hro.pts
            have hhv := prow_hi hro
            go_wp2_with fail
            go_ret2
            rw [hyo]
            exact ⟨_, _, rfl, htv, hhv.less HY.out.k2, HY.out.be⟩
theorem rsWalk_any (L : Nat) (x : SAt) (S : StL) (p : Pt) (af : Nat) (w : World) (h : StP L w x S) (hwp : WfP p) (haf : af < 4294967296) (hL : L ≤ w.heap.size) : Calls Tryz.prog 18 #[stV x S, ptV p, .int .u32 (af : Int)] w (OutLs (walkSO S p af) w) := by
  have af0 : (0 : Int) ≤ (af : Int) := by omega
  have af9 : (af : Int) ≤ 4294967295 := by omega
  obtain ⟨pa, pb, pi, pt, ps⟩ := p
  obtain ⟨w0, hw0, b0, z0, q1, q2⟩ := two_al w (stC x S) (ptA (pa, pb, pi, pt, ps)) 30 32
  obtain ⟨g, hg⟩ : ∃ g, w.heap.size = g := ⟨_, rfl⟩
  obtain ⟨g1, hg1⟩ : ∃ g1, g + 1 = g1 := ⟨_, rfl⟩
  rw [hg] at q1 q2
  rw [hg1] at q2
  have HX := Lib.hid q1
  have HQ := Lib.hid q2
  have HT := Lib.hid (h.bel b0)
  have HB := Lib.hid b0
  have HLW := Lib.hid (show L ≤ w0.heap.size from Nat.le_trans hL b0.size)
  simp only [stC, ptA] at hw0
  clear h b0 z0 q1 q2 hL
  by_cases hm : MayS S ∧ MayP (pa, pb, pi, pt, ps)
  · have HMY := Lib.hid (rsMay_any L x S (pa, pb, pi, pt, ps) w0 HT.out HLW.out true ⟨fun _ => hm, fun _ => rfl⟩)
    have HO := Lib.hid (walkSO_may (a := af) hm.1 hm.2)
    have HRW := Lib.hid (fun W hW hLW => rsYoung_any L x S (pa, pb, pi, pt, ps) af W hW hm.1 hm.2 hwp haf hLW)
    clear hm
    have d0 := bx0 HX.out
    have d1 := bx1 HX.out
    have d2 := bx2 HX.out
    have d3 := bx3 HX.out
    have d4 := bx4 HX.out
    have q0 := bx0 HQ.out
    have q1 := bx1 HQ.out
    have q2 := bx2 HQ.out
    have q3 := bx3 HQ.out
    have q4 := bx4 HQ.out
    go_enter Tryz.func18, Tryz.ntmps18
    go_wp2_with fail
    try rw [hw0]
    try rw [hg]
    try rw [hg1]
    clear hw0 hg hg1
    clear d0 d1 d2 d3 d4
    clear q0 q1 q2 q3 q4
    refine HMY.out.mono ?_
    rintro e w1 ⟨rfl, b1⟩
    replace HX := Lib.hid (HX.out.below b1 HX.out.lt)
    replace HQ := Lib.hid (HQ.out.below b1 HQ.out.lt)
    replace HT := Lib.hid (HT.out.bel b1)
    replace HB := Lib.hid (HB.out.trans (b1.mono HB.out.size))
    replace HLW := Lib.hid (Nat.le_trans HLW.out b1.size)
    clear b1 HMY
    have d0 := bx0 HX.out
    have d1 := bx1 HX.out
    have d2 := bx2 HX.out
    have d3 := bx3 HX.out
    have d4 := bx4 HX.out
    have q0 := bx0 HQ.out
    have q1 := bx1 HQ.out
    have q2 := bx2 HQ.out
    have q3 := bx3 HQ.out
    have q4 := bx4 HQ.out
    go_wp2_with fail
    clear d0 d1 d2 d3 d4
    clear q0 q1 q2 q3 q4
    refine (HRW.out w1 HT.out HLW.out).mono ?_
    rintro e w2 ⟨a2, c2, rfl, ht2, hh2, b2⟩
    have HB1 := Lib.hid (show w.heap.size ≤ w1.heap.size from HB.out.size)
    replace HX := Lib.hid (HX.out.below b2 HX.out.lt)
    replace HQ := Lib.hid (HQ.out.below b2 HQ.out.lt)
    replace HT := Lib.hid (HT.out.bel b2)
    replace HB := Lib.hid (HB.out.trans (b2.mono HB.out.size))
    replace HLW := Lib.hid (Nat.le_trans HLW.out b2.size)
    clear b2 HRW
    go_wp2_with fail
    go_ret2
    rw [HO.out]
    exact ⟨_, _, rfl, ht2, hh2.less HB1.out, HB.out⟩
  · have HMY := Lib.hid (rsMay_any L x S (pa, pb, pi, pt, ps) w0 HT.out HLW.out false ⟨fun h => (by cases h), fun h => absurd h hm⟩)
    have HO := Lib.hid (walkSO_no (a := af) hm)
    clear hm
    have d0 := bx0 HX.out
    have d1 := bx1 HX.out
    have d2 := bx2 HX.out
    have d3 := bx3 HX.out
    have d4 := bx4 HX.out
    have q0 := bx0 HQ.out
    have q1 := bx1 HQ.out
    have q2 := bx2 HQ.out
    have q3 := bx3 HQ.out
    have q4 := bx4 HQ.out
    go_enter Tryz.func18, Tryz.ntmps18
    go_wp2_with fail
    try rw [hw0]
    try rw [hg]
    try rw [hg1]
    clear hw0 hg hg1
    clear d0 d1 d2 d3 d4
    clear q0 q1 q2 q3 q4
    refine HMY.out.mono ?_
    rintro e w1 ⟨rfl, b1⟩
    replace HX := Lib.hid (HX.out.below b1 HX.out.lt)
    replace HQ := Lib.hid (HQ.out.below b1 HQ.out.lt)
    replace HT := Lib.hid (HT.out.bel b1)
    replace HB := Lib.hid (HB.out.trans (b1.mono HB.out.size))
    replace HLW := Lib.hid (Nat.le_trans HLW.out b1.size)
    clear b1 HMY
    go_wp2_with fail
    go_ret2
    rw [HO.out]
    exact outLs_no 8 HB.out
end Go.Proofs.YtbggkfomfeeikaaGreatDoor
/-
  Set's own generator of young pointers, gone through by whatever loop: what it tells, and by which error it ends.
-/
namespace Go.Proofs.YtbggkfomfeeikaaGreatDoor
open Go.RowKit Go.Shelf
set_option maxRecDepth 100000
attribute [local go_sem] Oper.semAt_some

theorem grown_set4 (W : World) (g : Nat) (v0 v1 v2 v3 : Value) : W.grownBy ((((W.setCell ⟨g, 0, none⟩ v0).setCell ⟨g, 1, none⟩ v1).setCell ⟨g, 2, none⟩ v2).setCell ⟨g, 3, none⟩ v3) (some g) := by
  have h0 : W.grownBy (W.setCell ⟨g, 0, none⟩ v0) (some g) := only_setCell (World.grownBy.refl W (some g)) (p := ⟨g, 0, none⟩) (.inl rfl) v0
  obtain ⟨W1, hW1⟩ : ∃ X, W.setCell ⟨g, 0, none⟩ v0 = X := ⟨_, rfl⟩
  rw [hW1] at h0 ⊢
  have h1 : W.grownBy (W1.setCell ⟨g, 1, none⟩ v1) (some g) := only_setCell h0 (p := ⟨g, 1, none⟩) (.inl rfl) v1
  obtain ⟨W2, hW2⟩ : ∃ X, W1.setCell ⟨g, 1, none⟩ v1 = X := ⟨_, rfl⟩
  rw [hW2] at h1 ⊢
  have h2 : W.grownBy (W2.setCell ⟨g, 2, none⟩ v2) (some g) := only_setCell h1 (p := ⟨g, 2, none⟩) (.inl rfl) v2
  obtain ⟨W3, hW3⟩ : ∃ X, W2.setCell ⟨g, 2, none⟩ v2 = X := ⟨_, rfl⟩
  rw [hW3] at h2 ⊢
  exact only_setCell h2 (p := ⟨g, 3, none⟩) (.inl rfl) v3
theorem grown_set1 (W : World) (g : Nat) (v : Value) : W.grownBy (W.setCell ⟨g, 0, none⟩ v) (some g) := only_setCell (World.grownBy.refl W (some g)) (p := ⟨g, 0, none⟩) (.inl rfl) v
theorem below_al (W : World) (o : Obj) : Below W.heap.size W (W.alloc o) := (Below.refl _ _).alloc (Nat.le_refl _) o
theorem YgB.mk_new {L D0 gl g a e : Nat} {x : SAt} {S : StL} {p : Pt} {W : World} (h : YgW L D0 gl g a x S p e W) (t : TypeId) (cs : Array Value) : YgB D0 gl W.heap.size t cs (W.alloc (.cells cs t)) :=
  ⟨Blk.new W t cs, Fr.new (below_al W _) h.dw h.gw h.rw (Nat.le_refl _) (by simp)⟩
theorem YgP.mk_new {L D0 gl g a e n c : Nat} {x : SAt} {S : StL} {p : Pt} {W W' : World} {A : Option Addr} {M : List Pt} (h : YgW L D0 gl g a x S p e W) (hb : Below W.heap.size W W') (hp : Pts W' W'.heap.size A n c M) (hi : HiA W.heap.size A) : YgP D0 gl n A c M W' :=
  ⟨hp, fun hl q e => Fr.new hb h.dw h.gw h.rw (hi q e) (hp.blk_lt hl e)⟩
set_option linter.unusedSimpArgs false in
set_option maxHeartbeats 16000000 in
theorem seGo_in (m : Nat) (hm : 2 ≤ m) (L D0 gl g a : Nat) (x : SAt) (S : StL) (p : Pt) (l : Nat) (hms : MayS S) (hmp : MayP p) (hwp : WfP p) (hLg : L ≤ g) (hg0 : 0 < g) (hD : 0 < D0) (hDg : D0 ≤ g) (hl : g + 5 ≤ l)
    (J : List Pt → World → Prop) (W : World) (hlW : l < W.heap.size)
    (hJ : ∀ pre A A' row, J pre A → A.grownBy A' row → (∀ k, row = some k → Fr D0 gl k A ∧ k + 1 ≠ l ∧ k ≠ l) → J pre A')
    (hJr : ∀ pre A r, J pre A → rowAt gl A = some r → r < A.heap.size)
    (hY : ∀ pre x W1, J pre W1 → WfP x → pre.length < 1000 → YieldAt Fence.wide (m - 1) Tryz.prog l #[ptV x] W1 fun e W' => e = .returned (.bool true) ∧ J (pre ++ [x]) W' ∧ Rd L D0 gl (some l) W1 W')
    (h0 : J [] W) (hW : YgW L D0 gl g a x S p 0 W) :
    CallsIn Fence.wide m Tryz.prog 52 #[.func (.yield l) #[] #[], .pointer (some ⟨g + 4, 0, none⟩), .pointer (some ⟨g + 1, 0, none⟩), .pointer (some ⟨g, 0, none⟩), .pointer (some ⟨g + 3, 0, none⟩)] W fun e W' => (∃ v, e = .returned v) ∧ ∃ xs, YgS S p a g xs W' ∧ J xs W' := by
  obtain ⟨pa, pb, pi, pt, ps⟩ := p
  have HY := Lib.hid hW
  have HLW := Lib.hid hlW
  have HJJ := Lib.hid h0
  have HJ := Lib.hid hJ
  have HJR := Lib.hid hJr
  have HYL := Lib.hid hY
  have HMS := Lib.hid hms
  have HMP := Lib.hid hmp
  have HWP := Lib.hid hwp
  have HLG := Lib.hid hLg
  have HG0 := Lib.hid hg0
  have HD := Lib.hid hD
  have HDG := Lib.hid hDg
  have HL := Lib.hid hl
  clear hW hlW h0 hJ hJr hY hms hmp hwp hLg hg0 hD hDg hl
  have hd : 1 ≤ m := by omega
  have hd1 : 1 ≤ m - 1 := by omega
  by_cases hy : a < pb
  · have HYD := Lib.hid (show true = decide (a < pb) from (decide_eq_true hy).symm)
    have HYP := Lib.hid (show Yng a (pa, pb, pi, pt, ps) from (yng_iff a _).2 hy)
    clear hy
    have y0_ : W.cell? ⟨g + 4, 0, none⟩ = some (.func (.func 51) #[] #[.pointer (some ⟨g + 2, 0, none⟩)]) := HY.out.kp.bY.cell 0
    have r0_ := bx0 HY.out.kp.bR
    have r1_ := bx1 HY.out.kp.bR
    have r2_ := bx2 HY.out.kp.bR
    have r3_ := bx3 HY.out.kp.bR
    have r4_ := bx4 HY.out.kp.bR
    refine callsIn_of_wp Tryz.func52 rfl trivial ?_ rfl
    simp only [Tryz.ntmps52, List.size_toArray, List.length_cons, List.length_nil, Nat.reduceAdd, Nat.reduceSub, Array.replicate_succ, Array.replicate_zero, List.push_toArray, List.append_toArray, List.nil_append, List.cons_append]
    gi_wp2
    clear y0_ r0_ r1_ r2_ r3_ r4_
    refine ⟨trivial, ?_⟩
    have his := seIs_any (pa, pb, pi, pt, ps) a (g + 2) W (HY.out.kp.bA.cell 0) true (by exact HYD.out)
    refine (callsIn_wide.2 his).mono ?_
    rintro e w1 ⟨rfl, bq⟩
    clear his
    replace HJJ := Lib.hid (HJ.out _ _ _ none HJJ.out (below_grown bq) (fun _ e => by cases e))
    replace HLW := Lib.hid (Nat.lt_of_lt_of_le HLW.out bq.size)
    replace HY := Lib.hid (HY.out.bel bq)
    clear bq HYD
    have r0_ := bx0 HY.out.kp.bR
    have r1_ := bx1 HY.out.kp.bR
    have r2_ := bx2 HY.out.kp.bR
    have r3_ := bx3 HY.out.kp.bR
    have r4_ := bx4 HY.out.kp.bR
    obtain ⟨fn, tmps, assign, body, hy, hR⟩ := HYL.out [] (pa, pb, pi, pt, ps) w1 HJJ.out HWP.out (by decide)
    simp only [ptV] at hy
    gi_wp2
    refine hR.mono ?_
    rintro e w2 ⟨rfl, hj, hrd⟩
    clear hR hy
    replace HY := Lib.hid (HY.out.rd hrd HL.out HD.out (fun q h => HJR.out _ _ q hj h))
    replace HLW := Lib.hid (Nat.lt_of_lt_of_le HLW.out hrd.kp.size)
    replace HJJ := Lib.hid hj
    clear hrd hj
    clear r0_ r1_ r2_ r3_ r4_
    rcases rowSO_cases S (pa, pb, pi, pt, ps) with ⟨e, her, hen⟩ | ⟨LL, her, hl16, hwf, hml⟩
    · have HO := Lib.hid (show youngSO S (pa, pb, pi, pt, ps) a = ([], e) by unfold youngSO; rw [if_neg (fun h => h HYP.out), her, if_pos hen])
      have HEN := Lib.hid hen
      have e2_ : ((e : Int) != 0) = true := by simp; omega
      clear hen
      have r0_ := bx0 HY.out.kp.bR
      have r1_ := bx1 HY.out.kp.bR
      have r2_ := bx2 HY.out.kp.bR
      have r3_ := bx3 HY.out.kp.bR
      have r4_ := bx4 HY.out.kp.bR
      have s0_ := bx0 HY.out.kp.bS
      have s1_ := bx1 HY.out.kp.bS
      have s2_ := bx2 HY.out.kp.bS
      have s3_ := bx3 HY.out.kp.bS
      have s4_ := bx4 HY.out.kp.bS
      gi_wp2
      clear r0_ r1_ r2_ r3_ r4_ s0_ s1_ s2_ s3_ s4_
      refine ⟨trivial, ?_⟩
      have hrw := seRow_any L x S (pa, pb, pi, pt, ps) w2 HY.out.st HMS.out HMP.out HWP.out HY.out.lw HY.out.sz
      rw [her] at hrw
      refine (callsIn_wide.2 hrw).mono ?_
      rintro ev w3 ⟨a2, c2, rfl, ht2, hh2, bq⟩
      clear hrw
      clear ht2 hh2 her
      replace HJJ := Lib.hid (HJ.out _ _ _ none HJJ.out (below_grown bq) (fun _ e => by cases e))
      replace HLW := Lib.hid (Nat.lt_of_lt_of_le HLW.out bq.size)
      replace HY := Lib.hid (HY.out.bel bq)
      clear bq
      have e0_ : w3.cell? ⟨g + 3, 0, none⟩ = some (.int .i64 0) := HY.out.er.cell 0
      have ef_ := HY.out.er.frozen 0
      have hge := grown_set1 w3 (g + 3) (.int .i64 (e : Int))
      have hye := HY.out.err HLG.out HG0.out e
      have hne3 : some (g + 3) ≠ some gl := fun e => (HY.out.fr 3 (by omega)).ne (Option.some.inj e)
      have hje := HJ.out _ _ _ (some (g + 3)) HJJ.out hge (fun k e => by cases e; exact ⟨HY.out.fr 3 (by omega), by have := HL.out; omega, by have := HL.out; omega⟩)
      have hse := hge.size
      obtain ⟨w4, hne⟩ : ∃ X, w3.setCell ⟨g + 3, 0, none⟩ (.int .i64 (e : Int)) = X := ⟨_, rfl⟩
      rw [hne] at hye hje hse 
      replace HY := Lib.hid hye
      replace HJJ := Lib.hid hje
      replace HLW := Lib.hid (Nat.lt_of_lt_of_le HLW.out hse)
      have e1_ : w4.cell? ⟨g + 3, 0, none⟩ = some (.int .i64 (e : Int)) := HY.out.er.cell 0
      clear hge hye hne3 hje hse 
      gi_wp2
      refine bodyPost_ret (results_none rfl _ _ _) rfl ?_
      exact ⟨⟨_, rfl⟩, _, ⟨e, HY.out.er, .inr ⟨HEN.out, HO.out⟩⟩, HJJ.out⟩
    · have HER := Lib.hid her
      have HL16 := Lib.hid hl16
      have HWL := Lib.hid hwf
      have HML := Lib.hid hml
      clear hl16 hwf hml
      have r0_ := bx0 HY.out.kp.bR
      have r1_ := bx1 HY.out.kp.bR
      have r2_ := bx2 HY.out.kp.bR
      have r3_ := bx3 HY.out.kp.bR
      have r4_ := bx4 HY.out.kp.bR
      have s0_ := bx0 HY.out.kp.bS
      have s1_ := bx1 HY.out.kp.bS
      have s2_ := bx2 HY.out.kp.bS
      have s3_ := bx3 HY.out.kp.bS
      have s4_ := bx4 HY.out.kp.bS
      gi_wp2
      clear r0_ r1_ r2_ r3_ r4_ s0_ s1_ s2_ s3_ s4_
      refine ⟨trivial, ?_⟩
      have hrw := seRow_any L x S (pa, pb, pi, pt, ps) w2 HY.out.st HMS.out HMP.out HWP.out HY.out.lw HY.out.sz
      rw [her] at hrw
      refine (callsIn_wide.2 hrw).mono ?_
      rintro ev w3 ⟨a2, c2, rfl, ht2, hh2, bq⟩
      clear hrw
      simp only [HL16.out] at ht2 ⊢
      have hpn := YgP.mk_new HY.out bq ht2 hh2
      obtain ⟨b2, o2, rfl, _⟩ := ht2.2.2.2.2 (by omega)
      have HLP := Lib.hid hpn
      have HLHLP := Lib.hid (show 0 < 16 → ∀ p, some (⟨b2, o2, none⟩ : Addr) = some p → l < p.block from fun _ p e => by cases e; exact Nat.lt_of_lt_of_le HLW.out (hh2 _ rfl))
      clear hpn ht2 hh2 her
      replace HJJ := Lib.hid (HJ.out _ _ _ none HJJ.out (below_grown bq) (fun _ e => by cases e))
      replace HLW := Lib.hid (Nat.lt_of_lt_of_le HLW.out bq.size)
      replace HY := Lib.hid (HY.out.bel bq)
      clear bq
      have ez : (((0 : Nat) : Int)) = 0 := rfl
      rw [ez]
      clear ez
      have e0_ : w3.cell? ⟨g + 3, 0, none⟩ = some (.int .i64 0) := HY.out.er.cell 0
      have ef_ := HY.out.er.frozen 0
      have hge := grown_set1 w3 (g + 3) (.int .i64 0)
      have hye := HY.out.err HLG.out HG0.out 0
      have hne3 : some (g + 3) ≠ some gl := fun e => (HY.out.fr 3 (by omega)).ne (Option.some.inj e)
      have hje := HJ.out _ _ _ (some (g + 3)) HJJ.out hge (fun k e => by cases e; exact ⟨HY.out.fr 3 (by omega), by have := HL.out; omega, by have := HL.out; omega⟩)
      have HLPe := HLP.out.grown hge HY.out.gw hne3 (fun h p e e2 => by have := HLHLP.out h p e; have := HL.out; injection e2; omega)
      have hse := hge.size
      obtain ⟨w4, hne⟩ : ∃ X, w3.setCell ⟨g + 3, 0, none⟩ (.int .i64 0) = X := ⟨_, rfl⟩
      change YgW _ _ _ _ _ _ _ _ _ (w3.setCell ⟨g + 3, 0, none⟩ (.int .i64 0)) at hye
      rw [hne] at hye hje hse HLPe
      replace HLP := Lib.hid (HLPe)
      replace HY := Lib.hid hye
      replace HJJ := Lib.hid hje
      replace HLW := Lib.hid (Nat.lt_of_lt_of_le HLW.out hse)
      have e1_ : w4.cell? ⟨g + 3, 0, none⟩ = some (.int .i64 0) := HY.out.er.cell 0
      clear hge hye hne3 hje hse HLPe
      gi_wp2
      clear e0_ ef_ e1_ hne
      gi_loopw [32] (fun i wr => ∃ j : Nat, j ≤ 16 ∧ i = .int .i64 j ∧ (∀ t, t < j → errS S a (LL.getD t p0) = 0) ∧ J ((pa, pb, pi, pt, ps) :: (LL.take j).flatMap (chunkS S a)) wr ∧ YgW L D0 gl g a x S (pa, pb, pi, pt, ps) 0 wr ∧ YgP D0 gl 16 (some ⟨b2, o2, none⟩) c2 LL wr ∧ l < wr.heap.size) (fun i _ => 16 - (intOf i).toNat)
      case atStart => exact ⟨0, Nat.zero_le _, rfl, fun j hj => absurd hj (Nat.not_lt_zero _), HJJ.out, HY.out, HLP.out, HLW.out⟩
      case round =>
        clear HJJ HY HLP HLW
        obtain ⟨j, hj, rfl, herr, hjj, hyw, hlp, hlw⟩ := hrel
        have HE := Lib.hid herr
        have HJJ := Lib.hid hjj
        have HY := Lib.hid hyw
        have HLP := Lib.hid hlp
        have HLW := Lib.hid hlw
        have j0 : (0 : Int) ≤ j := by omega
        clear herr hjj hyw hlp hlw
        by_cases hlt : j < 16
        · have j1 : (j : Int) < 16 := by omega
          obtain ⟨⟨ya, yb, yi, yt, ys⟩, hP⟩ : ∃ X, LL.getD j p0 = X := ⟨_, rfl⟩
          have hmem : LL.getD j p0 ∈ LL := by
            rw [List.getD_eq_getElem?_getD, List.getElem?_eq_getElem (by rw [HL16.out]; exact hlt)]
            exact List.getElem_mem _
          have hmq := HML.out _ hmem
          have hwq := HWL.out _ hmem
          have hfl := flat_take_l (f := chunkS S a) (j := j) (L := LL) (by rw [HL16.out]; exact hlt)
          rw [hP] at hmq hwq hfl
          have HPE := Lib.hid hP
          have HMQ := Lib.hid hmq
          have HWQ := Lib.hid hwq
          have HFL := Lib.hid hfl
          have HPL := Lib.hid (take_len HL16.out hj HE.out)
          clear hP hmem hmq hwq hfl
          obtain ⟨_, _, ea, _, _, v0_, v1_, v2_, v3_, v4_⟩ := HLP.out.pt.cells j hlt
          cases ea
          rw [HPE.out] at v0_ v1_ v2_ v3_ v4_
          simp only at v0_ v1_ v2_ v3_ v4_
          have y0_ : ∀ o : Obj, (wr.alloc o).cell? ⟨g + 4, 0, none⟩ = some (.func (.func 51) #[] #[.pointer (some ⟨g + 2, 0, none⟩)]) := fun o => (HY.out.bel (below_al wr o)).kp.bY.cell 0
          gi_wp2
          clear v0_ v1_ v2_ v3_ v4_ y0_
          have hbx := YgB.mk_new HY.out 32 #[.int .i64 ya, .int .u32 (yb : Int), .int .u32 (yi : Int), .int .u32 (yt : Int), .int .u32 (ys : Int)]
          have bq := below_al wr (.cells #[.int .i64 ya, .int .u32 (yb : Int), .int .u32 (yi : Int), .int .u32 (yt : Int), .int .u32 (ys : Int)] 32)
          obtain ⟨w5, hn⟩ : ∃ X, wr.alloc (.cells #[.int .i64 ya, .int .u32 (yb : Int), .int .u32 (yi : Int), .int .u32 (yt : Int), .int .u32 (ys : Int)] 32) = X := ⟨_, rfl⟩
          obtain ⟨g8, hgn⟩ : ∃ X, wr.heap.size = X := ⟨_, rfl⟩
          have hlb : l < g8 := by rw [← hgn]; exact HLW.out
          have hgb : L ≤ g8 ∧ gl < g8 := by rw [← hgn]; exact ⟨HY.out.lw, HY.out.gw⟩
          rw [hn] at hbx bq ⊢
          rw [hgn] at hbx
          rw [hgn]
          have HB8 := Lib.hid hbx
          have HLHB8 := Lib.hid hlb
          have HGHB8 := Lib.hid hgb
          replace HLP := Lib.hid (HLP.out.bel bq HY.out.gw)
          replace HJJ := Lib.hid (HJ.out _ _ _ none HJJ.out (below_grown bq) (fun _ e => by cases e))
          replace HLW := Lib.hid (Nat.lt_of_lt_of_le HLW.out bq.size)
          replace HY := Lib.hid (HY.out.bel bq)
          clear bq hbx hlb hgb hn hgn
          by_cases hyb : a < yb
          · have HYD := Lib.hid (show true = decide (a < yb) from (decide_eq_true hyb).symm)
            have HYQ := Lib.hid (show Yng a (ya, yb, yi, yt, ys) from (yng_iff a _).2 hyb)
            clear hyb
            refine ⟨trivial, ?_⟩
            have his := seIs_any (ya, yb, yi, yt, ys) a (g + 2) w5 (HY.out.kp.bA.cell 0) true (by exact HYD.out)
            refine (callsIn_wide.2 his).mono ?_
            rintro e w6 ⟨rfl, bq⟩
            clear his
            replace HLP := Lib.hid (HLP.out.bel bq HY.out.gw)
            replace HB8 := Lib.hid (HB8.out.bel bq HY.out.gw)
            replace HJJ := Lib.hid (HJ.out _ _ _ none HJJ.out (below_grown bq) (fun _ e => by cases e))
            replace HLW := Lib.hid (Nat.lt_of_lt_of_le HLW.out bq.size)
            replace HY := Lib.hid (HY.out.bel bq)
            clear bq HYD
            have q0 := bx0 HB8.out.bx
            have q1 := bx1 HB8.out.bx
            have q2 := bx2 HB8.out.bx
            have q3 := bx3 HB8.out.bx
            have q4 := bx4 HB8.out.bx
            obtain ⟨fn, tmps, assign, body, hy, hR⟩ := HYL.out ((pa, pb, pi, pt, ps) :: (LL.take j).flatMap (chunkS S a)) (ya, yb, yi, yt, ys) w6 HJJ.out HWQ.out (by rw [List.length_cons]; have := HPL.out; omega)
            simp only [ptV] at hy
            gi_wp2
            refine hR.mono ?_
            rintro e w7 ⟨rfl, hj, hrd⟩
            clear hR hy
            replace HLP := Lib.hid (HLP.out.rd hrd HLHLP.out)
            replace HB8 := Lib.hid (HB8.out.rd hrd HLHB8.out)
            replace HY := Lib.hid (HY.out.rd hrd HL.out HD.out (fun q h => HJR.out _ _ q hj h))
            replace HLW := Lib.hid (Nat.lt_of_lt_of_le HLW.out hrd.kp.size)
            replace HJJ := Lib.hid hj
            clear hrd hj
            clear q0 q1 q2 q3 q4
            have s0_ := fun o : Obj => bx0 (HY.out.bel (below_al w7 o)).kp.bS
            have s1_ := fun o : Obj => bx1 (HY.out.bel (below_al w7 o)).kp.bS
            have s2_ := fun o : Obj => bx2 (HY.out.bel (below_al w7 o)).kp.bS
            have s3_ := fun o : Obj => bx3 (HY.out.bel (below_al w7 o)).kp.bS
            have s4_ := fun o : Obj => bx4 (HY.out.bel (below_al w7 o)).kp.bS
            have q0_ := fun o : Obj => bx0 (HB8.out.bel (below_al w7 o) HY.out.gw).bx
            have q1_ := fun o : Obj => bx1 (HB8.out.bel (below_al w7 o) HY.out.gw).bx
            have q2_ := fun o : Obj => bx2 (HB8.out.bel (below_al w7 o) HY.out.gw).bx
            have q3_ := fun o : Obj => bx3 (HB8.out.bel (below_al w7 o) HY.out.gw).bx
            have q4_ := fun o : Obj => bx4 (HB8.out.bel (below_al w7 o) HY.out.gw).bx
            obtain ⟨⟨⟨k5, l5, r5, L5⟩, z5⟩, hoe⟩ : ∃ o, oneSO S (ya, yb, yi, yt, ys) = o := ⟨_, rfl⟩
            obtain ⟨n5, hn5⟩ : ∃ n, L5.length = n := ⟨_, rfl⟩
            have HOE := Lib.hid hoe
            have HK15 := Lib.hid (show n5 ≤ 15 by
              rcases oneSO_cases S (ya, yb, yi, yt, ys) with ⟨e, h1, h2⟩ | ⟨O, h1, h2, _⟩
              · rw [hoe] at h1
                cases h1
                rw [← hn5]
                exact Nat.zero_le _
              · rw [hoe] at h1
                cases h1
                have := h2.1.2.2.2
                simp only at this
                omega)
            have HN5 := Lib.hid hn5
            clear hoe hn5
            gi_wp2
            clear s0_ q0_ s1_ q1_ s2_ q2_ s3_ q3_ s4_ q4_ HB8 HLHB8 HGHB8
            have hbx := YgB.mk_new HY.out 40 #[.int .u8 0, .int .i64 0, .int .i64 0, .slice none 0 0]
            have bq := below_al w7 (.cells #[.int .u8 0, .int .i64 0, .int .i64 0, .slice none 0 0] 40)
            obtain ⟨w8, hn⟩ : ∃ X, w7.alloc (.cells #[.int .u8 0, .int .i64 0, .int .i64 0, .slice none 0 0] 40) = X := ⟨_, rfl⟩
            obtain ⟨g9, hgn⟩ : ∃ X, w7.heap.size = X := ⟨_, rfl⟩
            have hlb : l < g9 := by rw [← hgn]; exact HLW.out
            have hgb : L ≤ g9 ∧ gl < g9 := by rw [← hgn]; exact ⟨HY.out.lw, HY.out.gw⟩
            have HB29 := Lib.hid (show b2 < g9 by rw [← hgn]; exact (HLP.out.fr (by omega) _ rfl).lt)
            rw [hn] at hbx bq ⊢
            rw [hgn] at hbx
            rw [hgn]
            have HB9 := Lib.hid hbx
            have HLHB9 := Lib.hid hlb
            have HGHB9 := Lib.hid hgb
            replace HLP := Lib.hid (HLP.out.bel bq HY.out.gw)
            replace HJJ := Lib.hid (HJ.out _ _ _ none HJJ.out (below_grown bq) (fun _ e => by cases e))
            replace HLW := Lib.hid (Nat.lt_of_lt_of_le HLW.out bq.size)
            replace HY := Lib.hid (HY.out.bel bq)
            clear bq hbx hlb hgb hn hgn
            refine ⟨trivial, ?_⟩
            have hoc := seOne_any L x S (ya, yb, yi, yt, ys) w8 HY.out.st HMS.out HMQ.out HWQ.out HY.out.lw HY.out.sz
            rw [HOE.out] at hoc
            refine (callsIn_wide.2 hoc).mono ?_
            rintro ev w9 ⟨a5, c5, rfl, ht5, hi5, bq⟩
            clear hoc
            simp only [HN5.out] at ht5 hi5 ⊢
            have HP5 := Lib.hid (YgP.mk_new HY.out bq ht5 hi5)
            have HLHP5 := Lib.hid (show 0 < n5 → ∀ p, a5 = some p → l < p.block from fun _ p e => Nat.lt_of_lt_of_le HLW.out (hi5 p e))
            have HN9 := Lib.hid (show ∀ p, a5 = some p → g9 < p.block from fun p e => Nat.lt_of_lt_of_le HB9.out.bx.lt (hi5 p e))
            clear ht5 hi5
            replace HLP := Lib.hid (HLP.out.bel bq HY.out.gw)
            replace HB9 := Lib.hid (HB9.out.bel bq HY.out.gw)
            replace HJJ := Lib.hid (HJ.out _ _ _ none HJJ.out (below_grown bq) (fun _ e => by cases e))
            replace HLW := Lib.hid (Nat.lt_of_lt_of_le HLW.out bq.size)
            replace HY := Lib.hid (HY.out.bel bq)
            clear bq
            have m0 := ox0 HB9.out.bx
            have m1 := ox1 HB9.out.bx
            have m2 := ox2 HB9.out.bx
            have m3 := ox3 HB9.out.bx
            have hfz := fun i => HB9.out.bx.frozen i
            have xz := HB9.out.bx.set4 (.int .u8 (k5 : Int)) (.int .i64 l5) (.int .i64 r5) (.slice a5 n5 c5)
            have hg4 := grown_set4 w9 g9 (.int .u8 (k5 : Int)) (.int .i64 l5) (.int .i64 r5) (.slice a5 n5 c5)
            have hn9 : some g9 ≠ some gl := fun e => HB9.out.fr.ne (Option.some.inj e)
            have hy4 := HY.out.own hg4 HB9.out.bx (by decide) HGHB9.out.1 (by have := HLHB9.out; omega) (by have := HLHB9.out; have := HL.out; omega) HB9.out.fr.ne
            have hj4 := HJ.out _ _ _ (some g9) HJJ.out hg4 (fun k e => by cases e; exact ⟨HB9.out.fr, by have := HLHB9.out; omega, by have := HLHB9.out; omega⟩)
            have hp4 := HLP.out.grown hg4 HY.out.gw hn9 (fun _ p e e2 => by cases e; injection e2 with e2; have := HB29.out; simp only at e2; omega)
            have hp54 := HP5.out.grown hg4 HY.out.gw hn9 (fun _ p e e2 => by injection e2 with e2; have := HN9.out p e; omega)
            have hb94 := (show YgB D0 gl g9 _ _ _ from ⟨xz, HB9.out.fr.grown hg4 HY.out.gw hn9⟩)
            have hs4 := hg4.size
            obtain ⟨wz, hwz⟩ : ∃ X, (((w9.setCell ⟨g9, 0, none⟩ (.int .u8 (k5 : Int))).setCell ⟨g9, 1, none⟩ (.int .i64 l5)).setCell ⟨g9, 2, none⟩ (.int .i64 r5)).setCell ⟨g9, 3, none⟩ (.slice a5 n5 c5) = X := ⟨_, rfl⟩
            rw [hwz] at hy4 hj4 hp4 hp54 hb94 hs4
            replace HLP := Lib.hid hp4
            replace HP5 := Lib.hid hp54
            replace HB9 := Lib.hid hb94
            replace HY := Lib.hid hy4
            replace HJJ := Lib.hid hj4
            replace HLW := Lib.hid (Nat.lt_of_lt_of_le HLW.out hs4)
            clear hg4 hn9 hy4 hj4 hp4 hp54 hb94 hs4 xz
            by_cases hz5 : z5 ≠ 0
            · have e2_ : ((z5 : Int) != 0) = true := by simp; omega
              have hpe : errS S a (ya, yb, yi, yt, ys) = z5 := by
                unfold errS
                rw [if_pos HYQ.out, HOE.out]
              have HO := Lib.hid (show youngSO S (pa, pb, pi, pt, ps) a = ([], z5) by
                rw [youngSO_err (j := j) HYP.out HER.out (by rw [HL16.out]; exact hlt) HE.out (by rw [HPE.out, hpe]; exact hz5), HPE.out, hpe])
              have HZ5 := Lib.hid hz5
              clear hpe hz5
              have e0_ : wz.cell? ⟨g + 3, 0, none⟩ = some (.int .i64 0) := HY.out.er.cell 0
              have ef_ := HY.out.er.frozen 0
              have hge := grown_set1 wz (g + 3) (.int .i64 (z5 : Int))
              have hye := HY.out.err HLG.out HG0.out z5
              have hne3 : some (g + 3) ≠ some gl := fun e => (HY.out.fr 3 (by omega)).ne (Option.some.inj e)
              have hje := HJ.out _ _ _ (some (g + 3)) HJJ.out hge (fun k e => by cases e; exact ⟨HY.out.fr 3 (by omega), by have := HL.out; omega, by have := HL.out; omega⟩)
              have hse := hge.size
              obtain ⟨w10, hne⟩ : ∃ X, wz.setCell ⟨g + 3, 0, none⟩ (.int .i64 (z5 : Int)) = X := ⟨_, rfl⟩
              rw [hne] at hye hje hse 
              replace HY := Lib.hid hye
              replace HJJ := Lib.hid hje
              replace HLW := Lib.hid (Nat.lt_of_lt_of_le HLW.out hse)
              have e1_ : w10.cell? ⟨g + 3, 0, none⟩ = some (.int .i64 (z5 : Int)) := HY.out.er.cell 0
              clear hge hye hne3 hje hse 
              gi_wp2
              refine bodyPost_ret (results_none rfl _ _ _) rfl ?_
              exact ⟨⟨_, rfl⟩, _, ⟨z5, HY.out.er, .inr ⟨HZ5.out, HO.out⟩⟩, HJJ.out⟩
            · have hz0 : z5 = 0 := by omega
              subst hz0
              clear hz5
              have ez : (((0 : Nat) : Int)) = 0 := rfl
              try rw [ez]
              clear ez
              have e0_ : wz.cell? ⟨g + 3, 0, none⟩ = some (.int .i64 0) := HY.out.er.cell 0
              have ef_ := HY.out.er.frozen 0
              have hge := grown_set1 wz (g + 3) (.int .i64 0)
              have hye := HY.out.err HLG.out HG0.out 0
              have hne3 : some (g + 3) ≠ some gl := fun e => (HY.out.fr 3 (by omega)).ne (Option.some.inj e)
              have hje := HJ.out _ _ _ (some (g + 3)) HJJ.out hge (fun k e => by cases e; exact ⟨HY.out.fr 3 (by omega), by have := HL.out; omega, by have := HL.out; omega⟩)
              have HLPe := HLP.out.grown hge HY.out.gw hne3 (fun h p e e2 => by have := HLHLP.out h p e; have := HL.out; injection e2; omega)
              have HP5e := HP5.out.grown hge HY.out.gw hne3 (fun h p e e2 => by have := HLHP5.out h p e; have := HL.out; injection e2; omega)
              have HB9e := HB9.out.grown hge HY.out.gw hne3 (fun e2 => by have := HLHB9.out; have := HL.out; injection e2; omega)
              have hse := hge.size
              obtain ⟨w10, hne⟩ : ∃ X, wz.setCell ⟨g + 3, 0, none⟩ (.int .i64 0) = X := ⟨_, rfl⟩
              change YgW _ _ _ _ _ _ _ _ _ (wz.setCell ⟨g + 3, 0, none⟩ (.int .i64 0)) at hye
              rw [hne] at hye hje hse HLPe HP5e HB9e
              replace HLP := Lib.hid (HLPe)
              replace HP5 := Lib.hid (HP5e)
              replace HB9 := Lib.hid (HB9e)
              replace HY := Lib.hid hye
              replace HJJ := Lib.hid hje
              replace HLW := Lib.hid (Nat.lt_of_lt_of_le HLW.out hse)
              have e1_ : w10.cell? ⟨g + 3, 0, none⟩ = some (.int .i64 0) := HY.out.er.cell 0
              clear hge hye hne3 hje hse HLPe HP5e HB9e
              have n3_ : w10.cell? ⟨g9, 3, none⟩ = some (.slice a5 n5 c5) := HB9.out.bx.cell 3
              have n50 : (0 : Int) ≤ n5 := by omega
              gi_wp2
              clear n3_ m0 m1 m2 m3 hfz hwz HB9 HLHB9 HGHB9 HN9 HB29
              clear e0_ ef_ e1_ hne
              gi_loopw [55] (fun i wr => ∃ k : Nat, k ≤ n5 ∧ i = .int .i64 k ∧ J (((pa, pb, pi, pt, ps) :: (LL.take j).flatMap (chunkS S a)) ++ ((ya, yb, yi, yt, ys) :: dataY a (L5.take k))) wr ∧ YgW L D0 gl g a x S (pa, pb, pi, pt, ps) 0 wr ∧ YgP D0 gl 16 (some ⟨b2, o2, none⟩) c2 LL wr ∧ YgP D0 gl n5 a5 c5 L5 wr ∧ l < wr.heap.size) (fun i _ => n5 - (intOf i).toNat)
              case atStart => exact ⟨0, Nat.zero_le _, rfl, HJJ.out, HY.out, HLP.out, HP5.out, HLW.out⟩
              case round =>
                clear HJJ HY HLP HLW HP5
                obtain ⟨k, hk, rfl, hjj, hyw, hlp, hp5, hlw⟩ := hrel
                have HJJ := Lib.hid hjj
                have HY := Lib.hid hyw
                have HLP := Lib.hid hlp
                have HP5 := Lib.hid hp5
                have HLW := Lib.hid hlw
                have k0 : (0 : Int) ≤ k := by omega
                clear hjj hyw hlp hp5 hlw
                by_cases hkt : k < n5
                · have k1 : (k : Int) < n5 := by omega
                  have k2 : (k : Int) < 15 := by have := HK15.out; omega
                  obtain ⟨⟨za, zb, zi, zt, zs⟩, hZ⟩ : ∃ X, L5.getD k p0 = X := ⟨_, rfl⟩
                  have hdt := dataY_take (a := a) (k := k) (L := L5) (by rw [HN5.out]; exact hkt)
                  have hzw : WfP (L5.getD k p0) := HP5.out.pt.wf (by
                    rw [List.getD_eq_getElem?_getD, List.getElem?_eq_getElem (by rw [HN5.out]; exact hkt)]
                    exact List.getElem_mem _)
                  rw [hZ] at hdt hzw
                  have HZE := Lib.hid hZ
                  have HDT := Lib.hid hdt
                  have HZW := Lib.hid hzw
                  clear hZ hdt hzw
                  obtain ⟨b5, o5, ea, _, _, v0_, v1_, v2_, v3_, v4_⟩ := HP5.out.pt.cells k hkt
                  cases ea
                  rw [HZE.out] at v0_ v1_ v2_ v3_ v4_
                  simp only at v0_ v1_ v2_ v3_ v4_
                  have y0_ : ∀ o : Obj, (wr.alloc o).cell? ⟨g + 4, 0, none⟩ = some (.func (.func 51) #[] #[.pointer (some ⟨g + 2, 0, none⟩)]) := fun o => (HY.out.bel (below_al wr o)).kp.bY.cell 0
                  gi_wp2
                  clear v0_ v1_ v2_ v3_ v4_ y0_
                  have hbx := YgB.mk_new HY.out 32 #[.int .i64 za, .int .u32 (zb : Int), .int .u32 (zi : Int), .int .u32 (zt : Int), .int .u32 (zs : Int)]
                  have bq := below_al wr (.cells #[.int .i64 za, .int .u32 (zb : Int), .int .u32 (zi : Int), .int .u32 (zt : Int), .int .u32 (zs : Int)] 32)
                  obtain ⟨w11, hn⟩ : ∃ X, wr.alloc (.cells #[.int .i64 za, .int .u32 (zb : Int), .int .u32 (zi : Int), .int .u32 (zt : Int), .int .u32 (zs : Int)] 32) = X := ⟨_, rfl⟩
                  obtain ⟨g11, hgn⟩ : ∃ X, wr.heap.size = X := ⟨_, rfl⟩
                  have hlb : l < g11 := by rw [← hgn]; exact HLW.out
                  have hgb : L ≤ g11 ∧ gl < g11 := by rw [← hgn]; exact ⟨HY.out.lw, HY.out.gw⟩
                  rw [hn] at hbx bq ⊢
                  rw [hgn] at hbx
                  rw [hgn]
                  have HB11 := Lib.hid hbx
                  have HLHB11 := Lib.hid hlb
                  have HGHB11 := Lib.hid hgb
                  replace HLP := Lib.hid (HLP.out.bel bq HY.out.gw)
                  replace HP5 := Lib.hid (HP5.out.bel bq HY.out.gw)
                  replace HJJ := Lib.hid (HJ.out _ _ _ none HJJ.out (below_grown bq) (fun _ e => by cases e))
                  replace HLW := Lib.hid (Nat.lt_of_lt_of_le HLW.out bq.size)
                  replace HY := Lib.hid (HY.out.bel bq)
                  clear bq hbx hlb hgb hn hgn
                  by_cases hzb : a < zb
                  · have HYD := Lib.hid (show true = decide (a < zb) from (decide_eq_true hzb).symm)
                    have HNZ := Lib.hid (show Yng a (za, zb, zi, zt, zs) from (yng_iff a _).2 hzb)
                    clear hzb
                    refine ⟨trivial, ?_⟩
                    have his := seIs_any (za, zb, zi, zt, zs) a (g + 2) w11 (HY.out.kp.bA.cell 0) true (by exact HYD.out)
                    refine (callsIn_wide.2 his).mono ?_
                    rintro e w12 ⟨rfl, bq⟩
                    clear his
                    replace HLP := Lib.hid (HLP.out.bel bq HY.out.gw)
                    replace HP5 := Lib.hid (HP5.out.bel bq HY.out.gw)
                    replace HB11 := Lib.hid (HB11.out.bel bq HY.out.gw)
                    replace HJJ := Lib.hid (HJ.out _ _ _ none HJJ.out (below_grown bq) (fun _ e => by cases e))
                    replace HLW := Lib.hid (Nat.lt_of_lt_of_le HLW.out bq.size)
                    replace HY := Lib.hid (HY.out.bel bq)
                    clear bq HYD
                    have q0 := bx0 HB11.out.bx
                    have q1 := bx1 HB11.out.bx
                    have q2 := bx2 HB11.out.bx
                    have q3 := bx3 HB11.out.bx
                    have q4 := bx4 HB11.out.bx
                    obtain ⟨fn, tmps, assign, body, hy, hR⟩ := HYL.out (((pa, pb, pi, pt, ps) :: (LL.take j).flatMap (chunkS S a)) ++ ((ya, yb, yi, yt, ys) :: dataY a (L5.take k))) (za, zb, zi, zt, zs) w12 HJJ.out HZW.out (by have h1 := HPL.out; have h2 := dataY_len a k L5; have h3 := HK15.out; rw [List.length_append, List.length_cons, List.length_cons]; omega)
                    simp only [ptV] at hy
                    gi_wp2
                    refine hR.mono ?_
                    rintro e w13 ⟨rfl, hj, hrd⟩
                    clear hR hy
                    replace HLP := Lib.hid (HLP.out.rd hrd HLHLP.out)
                    replace HP5 := Lib.hid (HP5.out.rd hrd HLHP5.out)
                    replace HY := Lib.hid (HY.out.rd hrd HL.out HD.out (fun q h => HJR.out _ _ q hj h))
                    replace HLW := Lib.hid (Nat.lt_of_lt_of_le HLW.out hrd.kp.size)
                    replace HJJ := Lib.hid hj
                    clear hrd hj
                    clear q0 q1 q2 q3 q4
                    gi_wp2
                    go_roundw
                    case rel =>
                      have hk15 := HK15.out
                      refine ⟨k + 1, by omega, by go_num, ?_, HY.out, HLP.out, HP5.out, HLW.out⟩
                      have e := HDT.out
                      rw [if_pos HNZ.out] at e
                      rw [e]
                      have h := HJJ.out
                      simpa using h
                    case measure =>
                      have hk15 := HK15.out
                      simp [intOf]
                      omega
                  · have HYD := Lib.hid (show false = decide (a < zb) from (decide_eq_false hzb).symm)
                    have HNZ := Lib.hid (show ¬ Yng a (za, zb, zi, zt, zs) from fun h => hzb ((yng_iff a _).1 h))
                    clear hzb
                    refine ⟨trivial, ?_⟩
                    have his := seIs_any (za, zb, zi, zt, zs) a (g + 2) w11 (HY.out.kp.bA.cell 0) false (by exact HYD.out)
                    refine (callsIn_wide.2 his).mono ?_
                    rintro e w12 ⟨rfl, bq⟩
                    clear his
                    replace HLP := Lib.hid (HLP.out.bel bq HY.out.gw)
                    replace HP5 := Lib.hid (HP5.out.bel bq HY.out.gw)
                    replace HJJ := Lib.hid (HJ.out _ _ _ none HJJ.out (below_grown bq) (fun _ e => by cases e))
                    replace HLW := Lib.hid (Nat.lt_of_lt_of_le HLW.out bq.size)
                    replace HY := Lib.hid (HY.out.bel bq)
                    clear bq HYD
                    gi_wp2
                    refine ⟨fun _ h => (by cases h), ?_⟩
                    gi_wp2
                    go_roundw
                    case rel =>
                      have hk15 := HK15.out
                      refine ⟨k + 1, by omega, by go_num, ?_, HY.out, HLP.out, HP5.out, HLW.out⟩
                      have e := HDT.out
                      rw [if_neg HNZ.out] at e
                      rw [e]
                      have h := HJJ.out
                      simpa using h
                    case measure =>
                      have hk15 := HK15.out
                      simp [intOf]
                      omega
                · have hkn : k = n5 := by omega
                  subst hkn
                  have HDE := Lib.hid (show dataY a (L5.take k) = dataY a L5 by rw [List.take_of_length_le (by rw [HN5.out]; exact Nat.le_refl _)])
                  clear hkt hk
                  gi_wp2
                  go_roundw
                  case rel =>
                    refine ⟨j + 1, by omega, by go_num, fun t ht => ?_, ?_, HY.out, HLP.out, HLW.out⟩
                    · by_cases e : t = j
                      · subst e
                        rw [HPE.out]
                        unfold errS
                        rw [if_pos HYQ.out, HOE.out]
                      · exact HE.out t (by omega)
                    · have hc : chunkS S a (ya, yb, yi, yt, ys) = (ya, yb, yi, yt, ys) :: dataY a L5 := by unfold chunkS; rw [if_pos HYQ.out, HOE.out]
                      rw [HFL.out, hc]
                      have h := HJJ.out
                      rw [HDE.out] at h
                      exact h
                  case measure => simp [intOf]; omega
          · have HYD := Lib.hid (show false = decide (a < yb) from (decide_eq_false hyb).symm)
            have HNY := Lib.hid (show ¬ Yng a (ya, yb, yi, yt, ys) from fun h => hyb ((yng_iff a _).1 h))
            clear hyb
            refine ⟨trivial, ?_⟩
            have his := seIs_any (ya, yb, yi, yt, ys) a (g + 2) w5 (HY.out.kp.bA.cell 0) false (by exact HYD.out)
            refine (callsIn_wide.2 his).mono ?_
            rintro e w6 ⟨rfl, bq⟩
            clear his
            replace HLP := Lib.hid (HLP.out.bel bq HY.out.gw)
            replace HJJ := Lib.hid (HJ.out _ _ _ none HJJ.out (below_grown bq) (fun _ e => by cases e))
            replace HLW := Lib.hid (Nat.lt_of_lt_of_le HLW.out bq.size)
            replace HY := Lib.hid (HY.out.bel bq)
            clear bq HYD
            gi_wp2
            go_roundw
            case rel =>
              refine ⟨j + 1, by omega, by go_num, fun t ht => ?_, ?_, HY.out, HLP.out, HLW.out⟩
              · by_cases e : t = j
                · subst e
                  rw [HPE.out]
                  unfold errS
                  rw [if_neg HNY.out]
                · exact HE.out t (by omega)
              · have hc : chunkS S a (ya, yb, yi, yt, ys) = [] := by unfold chunkS; rw [if_neg HNY.out]
                rw [HFL.out, hc, List.append_nil]
                exact HJJ.out
            case measure => simp [intOf]; omega
        · have hj16 : j = 16 := by omega
          subst hj16
          have HO := Lib.hid (show youngSO S (pa, pb, pi, pt, ps) a = ((pa, pb, pi, pt, ps) :: LL.flatMap (chunkS S a), 0) from youngSO_row HYP.out HER.out fun q hq hy => by
            obtain ⟨i, hi, rfl⟩ := List.getElem_of_mem hq
            have h := HE.out i (by have := HL16.out; omega)
            rw [List.getD_eq_getElem?_getD, List.getElem?_eq_getElem hi] at h
            unfold errS at h
            rw [if_pos (show Yng a ((some LL[i]).getD p0) from hy)] at h
            exact h)
          have HT := Lib.hid (show LL.take 16 = LL from List.take_of_length_le (by rw [HL16.out]; exact Nat.le_refl _))
          clear hlt hj
          gi_wp2
          go_end0
          have h := HJJ.out
          rw [HT.out] at h
          exact ⟨⟨_, rfl⟩, _, ⟨0, HY.out.er, .inl ⟨rfl, HO.out⟩⟩, h⟩
  · have HYD := Lib.hid (show false = decide (a < pb) from (decide_eq_false hy).symm)
    have HO := Lib.hid (show youngSO S (pa, pb, pi, pt, ps) a = ([], 0) by unfold youngSO; rw [if_pos (fun h => hy ((yng_iff a _).1 h))])
    clear hy
    have y0_ : W.cell? ⟨g + 4, 0, none⟩ = some (.func (.func 51) #[] #[.pointer (some ⟨g + 2, 0, none⟩)]) := HY.out.kp.bY.cell 0
    have r0_ := bx0 HY.out.kp.bR
    have r1_ := bx1 HY.out.kp.bR
    have r2_ := bx2 HY.out.kp.bR
    have r3_ := bx3 HY.out.kp.bR
    have r4_ := bx4 HY.out.kp.bR
    refine callsIn_of_wp Tryz.func52 rfl trivial ?_ rfl
    simp only [Tryz.ntmps52, List.size_toArray, List.length_cons, List.length_nil, Nat.reduceAdd, Nat.reduceSub, Array.replicate_succ, Array.replicate_zero, List.push_toArray, List.append_toArray, List.nil_append, List.cons_append]
    gi_wp2
    clear y0_ r0_ r1_ r2_ r3_ r4_
    refine ⟨trivial, ?_⟩
    have his := seIs_any (pa, pb, pi, pt, ps) a (g + 2) W (HY.out.kp.bA.cell 0) false (by exact HYD.out)
    refine (callsIn_wide.2 his).mono ?_
    rintro e w1 ⟨rfl, bq⟩
    clear his
    replace HJJ := Lib.hid (HJ.out _ _ _ none HJJ.out (below_grown bq) (fun _ e => by cases e))
    replace HLW := Lib.hid (Nat.lt_of_lt_of_le HLW.out bq.size)
    replace HY := Lib.hid (HY.out.bel bq)
    clear bq HYD
    gi_wp2
    refine ⟨fun _ h => (by cases h), ?_⟩
    gi_wp2
    refine bodyPost_ret (results_none rfl _ _ _) rfl ?_
    exact ⟨⟨_, rfl⟩, [], ⟨0, HY.out.er, .inl ⟨rfl, HO.out⟩⟩, HJJ.out⟩
end Go.Proofs.YtbggkfomfeeikaaGreatDoor
/-
  Set's own Walk: what it answers, in new memory; nothing that was there is written.
-/
namespace Go.Proofs.YtbggkfomfeeikaaGreatDoor
open Go.RowKit Go.Shelf
set_option maxRecDepth 100000
attribute [local go_sem] Oper.semAt_some

/-- append of pointers in the round of a loop over a function: where the new row lies. -/
theorem wpListIn_append_plie {F : Fence} {nF : Nat} {w : World} {o : Oper} {a : Act} {Q : Exit → Act → World → Prop} {ops : Array Oper} {rest : List Oper} (hgd : o.guard = none) (x y : Operand) (ho : o.op = .call { callee := .builtin .append, args := #[x, y], argTypes := #[35, 35] })
    (base : Nat) (v : Value) (L : List Pt) (hx : a.eval x = v) (hr : PRow w base v L) (B : Nat) (A : Option Addr) (m c : Nat) (M : List Pt) (hy : a.eval y = .slice A m c) (hs : Pts w B A m c M) (hm0 : 0 < m)
    (hn : L.length + m ≤ 1000000) (hbase : base ≤ w.heap.size)
    (h : ∀ g cap w', PRow w' base (.slice (some ⟨g, 0, none⟩) (L.length + m) cap) (L ++ M) → w.grownBy w' v.ownBlock → (v.ownBlock = some g ∨ g = w.heap.size) → g < w'.heap.size → wpListIn F nF Tryz.prog ops Q rest (a.put o.dst (.slice (some ⟨g, 0, none⟩) (L.length + m) cap)) w') : wpListIn F nF Tryz.prog ops Q (o :: rest) a w := by
  refine wpListIn_plain hgd fun K hK => ?_
  obtain ⟨i0, hi0, hz0, hz1, hz2⟩ := info_parts infoPt
  obtain ⟨h1, h2⟩ := hr
  have hwf : ∀ p ∈ L ++ M, WfP p := fun p hp => by
    rcases List.mem_append.1 hp with hp | hp
    · exact h2 p hp
    · exact hs.wf hp
  have hml := hs.1
  obtain ⟨b, off, rfl, _, _⟩ := hs.2.2.2.2 hm0
  obtain ⟨g, cap, w', hrun, h6, h7, h8, h9⟩ := run_append_lies (P := Tryz.prog) w 35 o.type base 32 i0 (.agg #[.int .i64 0, .int .u32 0, .int .u32 0, .int .u32 0, .int .u32 0]) 5 24 Tryz.underlying35 hi0 hz0 hz1 hz2 rfl (by decide) v L.length (ptCs L) h1 ⟨b, off, none⟩ m c (ptCs M) (by rw [ptCs_length, hml]) (fun j u hu => by
    have e1 : (⟨b, off, none⟩ : Addr).add j = ⟨b, off + j, none⟩ := by unfold Addr.add; split <;> simp_all
    rw [e1]
    exact hs.row j u hu) (fun u hu => ptCs_mem hu) hm0 (by unfold maxLen; omega) (by omega) hbase _ rfl
  unfold Oper.wpIn
  refine ⟨by simp [Oper.about, ho, resolve, Target.leads, Sem.run_pure], ?_⟩
  rw [Oper.semAt_plain F _ _ (by rw [ho]; intro c hc'; cases hc')]
  simp [execOp, ho, resolve, invoke, builtin, hx, hy, hrun, Result.andThen]
  refine hK _ _ (h g cap w' ⟨?_, hwf⟩ h7 h8 h9)
  rw [List.length_append, hml, ptCs_append]
  exact h6
/-- What the loop of Walk keeps. -/
def WkI (D0 gl B : Nat) (w : World) (pre : List Pt) (W : World) : Prop := ∃ v, Blk W gl 35 #[v] ∧ PRow W B v pre ∧ Below D0 w W
theorem WkI.row {D0 gl B : Nat} {w W : World} {pre : List Pt} (h : WkI D0 gl B w pre W) : ∀ r, rowAt gl W = some r → B ≤ r ∧ r < W.heap.size := fun r hr => by
  obtain ⟨v, h1, h2, _⟩ := h
  rw [rowAt_of (h1.cell 0)] at hr
  exact h2.1.lt r hr
theorem WkI.grown {D0 gl B : Nat} {w A A' : World} {pre : List Pt} {row : Option Nat} (h : WkI D0 gl B w pre A) (hD : D0 ≤ A.heap.size) (hg : A.grownBy A' row) (hr : ∀ k, row = some k → Fr D0 gl k A) : WkI D0 gl B w pre A' := by
  obtain ⟨v, h1, h2, h3⟩ := h
  refine ⟨v, h1.grown hg fun e => (hr gl e.symm).ne rfl, ⟨?_, h2.2⟩, h3.trans ⟨hg.os, hg.tape, hg.output, hg.size, fun b hb => hg.block b (by omega) fun e => by have := (hr b e.symm).lo; omega⟩⟩
  cases row with
  | none => exact h2.1.kept hg (by cases v.ownBlock with | none => exact .inl rfl | some k => exact .inr (by simp))
  | some k =>
    refine own_other h2.1 hg fun q hq e => ?_
    subst e
    exact (hr q rfl).row (by rw [rowAt_of (h1.cell 0)]; exact hq.symm)
/-- A round of Walk's loop: one pointer more. -/
theorem wk_round {L D0 gl B gg : Nat} {w W W2 W3 : World} {pre : List Pt} {x : Pt} {v : Value} {c : Nat} (hb : Blk W gl 35 #[v]) (hr : PRow W B v pre) (hbe : Below D0 w W) (hL : L ≤ gl) (hD : D0 ≤ gl) (hglB : gl < B) (hBW : B ≤ W.heap.size)
    (b2 : Below W.heap.size W W2) (hr3 : PRow W3 B (.slice (some ⟨gg, 0, none⟩) (pre.length + 1) c) (pre ++ [x])) (hg3 : W2.grownBy W3 v.ownBlock) (hat : v.ownBlock = some gg ∨ gg = W2.heap.size) :
    Rd L D0 gl none W (W3.setCell ⟨gl, 0, none⟩ (.slice (some ⟨gg, 0, none⟩) (pre.length + 1) c)) ∧ WkI D0 gl B w (pre ++ [x]) (W3.setCell ⟨gl, 0, none⟩ (.slice (some ⟨gg, 0, none⟩) (pre.length + 1) c)) ∧ (∀ k, k < B → k ≠ gl → (W3.setCell ⟨gl, 0, none⟩ (.slice (some ⟨gg, 0, none⟩) (pre.length + 1) c)).heap[k]? = W.heap[k]?) := by
  have hown : ∀ k, v.ownBlock = some k → B ≤ k ∧ k < W.heap.size := fun k hk => hr.1.lt k hk
  have hgg : B ≤ gg := by
    rcases hat with h | h
    · exact (hown gg h).1
    · have := b2.size; omega
  have hbl := hb.lt
  have hb2 := hb.below b2 hb.lt
  have hb3 : Blk W3 gl 35 #[v] := hb2.grown hg3 fun e => by have := (hown gl e.symm).1; omega
  obtain ⟨W4, hW4⟩ : ∃ X, W3.setCell ⟨gl, 0, none⟩ (.slice (some ⟨gg, 0, none⟩) (pre.length + 1) c) = X := ⟨_, rfl⟩
  have hg4 : W3.grownBy W4 (some gl) := by rw [← hW4]; exact grown_set1 W3 gl _
  have hb4 : Blk W4 gl 35 #[.slice (some ⟨gg, 0, none⟩) (pre.length + 1) c] := by rw [← hW4]; exact hb3.set_ 0 _
  rw [hW4]
  have hr2 := own_below hr.1 b2
  have hk3 : Keeps L W2 W3 := by
    obtain ⟨_, ⟨e, _⟩ | ⟨g', cap', cur, e, q1, q2, _⟩⟩ := hr2
    · rw [e] at hg3
      exact Keeps.of_below ⟨hg3.os, hg3.tape, hg3.output, hg3.size, fun k hk => hg3.block k hk (by simp [Value.ownBlock])⟩
    · rw [e] at hg3
      exact Keeps.of_box (g := g') hg3 q2 (by decide) (by omega)
  have hn3 : ∀ k, some k ≠ v.ownBlock → k ≠ gl → k < W.heap.size → W4.heap[k]? = W.heap[k]? := fun k h1 h2 h3 => by
    have h4 : k < W2.heap.size := Nat.lt_of_lt_of_le h3 b2.size
    have h5 : k < W3.heap.size := Nat.lt_of_lt_of_le h4 hg3.size
    exact (hg4.block k h5 (fun e => h2 (Option.some.inj e))).trans ((hg3.block k h4 h1).trans (b2.block k h3))
  have hD4 : Below D0 W W4 := ⟨hg4.os.trans (hg3.os.trans b2.os), hg4.tape.trans (hg3.tape.trans b2.tape), hg4.output.trans (hg3.output.trans b2.output), Nat.le_trans b2.size (Nat.le_trans hg3.size hg4.size), fun k hk => hn3 k (fun e => by have := (hown k e.symm).1; omega) (by omega) (by omega)⟩
  refine ⟨⟨(Keeps.of_below b2).trans (hk3.trans (Keeps.of_box hg4 hb3 (by decide) hL)), hD4, fun k hk _ => ?_⟩, ⟨_, hb4, ⟨own_other hr3.1 hg4 fun q hq => ?_, hr3.2⟩, hbe.trans hD4⟩, fun k h1 h2 => hn3 k (fun e => by have := (hown k e.symm).1; omega) h2 (by omega)⟩
  · have hne : some k ≠ v.ownBlock := by
      have := hk.row
      rwa [rowAt_of (hb.cell 0)] at this
    refine ⟨hn3 k hne hk.ne hk.lt, hk.lo, Nat.lt_of_lt_of_le hk.lt (Nat.le_trans b2.size (Nat.le_trans hg3.size hg4.size)), hk.ne, ?_⟩
    rw [rowAt_of (hb4.cell 0)]
    intro e
    have e2 : gg = k := by simpa [Value.ownBlock] using e.symm
    subst e2
    rcases hat with h | h
    · exact hne h.symm
    · have := hk.lt
      have := b2.size
      omega
  · have e2 : gg = q := by simpa [Value.ownBlock] using hq
    omega
theorem prow_put {B D : Nat} {W : World} {v : Value} {M : List Pt} {ds : Option (List Deferred)} (h : PRow W B v M) (hD : W.heap[D]? = some (.deferred ds)) (o : Obj) : PRow (W.putObj D o) B v M := by
  refine ⟨own_other h.1 (grownBy_putObj' W D o) fun k hk e => ?_, h.2⟩
  subst e
  obtain ⟨_, ⟨e, _⟩ | ⟨g', cap', cur, e, q1, q2, _⟩⟩ := h.1
  · rw [e] at hk; cases hk
  · rw [e] at hk
    have e2 : g' = k := by simpa [Value.ownBlock] using hk
    subst e2
    have e3 : some (Obj.cells cur 32 (0, 0)) = some (Obj.deferred ds) := (show W.heap[g']? = _ from q2).symm.trans hD
    cases e3
theorem outLs_end {B D : Nat} {w W : World} {v : Value} {M : List Pt} {ds : Option (List Deferred)} (h : PRow W B v M) (hb : Below w.heap.size w W) (hB : w.heap.size ≤ B) (hD : W.heap[D]? = some (.deferred ds)) (hDg : w.heap.size ≤ D) (o : Obj) : ∃ a c, v = .slice a M.length c ∧ Pts (W.putObj D o) (W.putObj D o).heap.size a M.length c M ∧ HiA w.heap.size a ∧ Below w.heap.size w (W.putObj D o) := by
  have h2 := prow_put h hD o
  obtain ⟨a, c, rfl, ht⟩ := h2.pts
  exact ⟨a, c, rfl, ht, (prow_hi h2).less hB, hb.trans (below_putObj _ hDg)⟩
set_option linter.unusedSimpArgs false in
set_option maxHeartbeats 16000000 in
theorem seWalk_in (m : Nat) (hm : 4 ≤ m) (L : Nat) (x : SAt) (S : StL) (p : Pt) (a : Nat) (w : World) (h : StP L w x S) (hwp : WfP p) (hL : L ≤ w.heap.size) (hz : Szs w) (hms : MayS S) (hmp : MayP p) : CallsIn Fence.wide m Tryz.prog 11 #[stV x S, ptV p, .int .u32 (a : Int)] w (OutLs (youngSO S p a) w) := by
  have hwp2 := hwp
  have HLL := Lib.hid hL
  clear hwp
  obtain ⟨pa, pb, pi, pt, ps⟩ := p
  obtain ⟨w0, hw0, b0, z0, q1, q2⟩ := two_al w (stC x S) (ptA (pa, pb, pi, pt, ps)) 30 32
  obtain ⟨g, hg⟩ : ∃ g, w.heap.size = g := ⟨_, rfl⟩
  obtain ⟨g1, hg1⟩ : ∃ g1, g + 1 = g1 := ⟨_, rfl⟩
  rw [hg] at q1 q2
  rw [hg1] at q2
  have HX := Lib.hid q1
  have HQ := Lib.hid q2
  have HT := Lib.hid (h.bel b0)
  have HB := Lib.hid b0
  have HLW := Lib.hid (show L ≤ w0.heap.size from Nat.le_trans hL b0.size)
  simp only [stC, ptA] at hw0
  clear h b0 z0 q1 q2 hL
  have HZ0 := Lib.hid hz.1
  have HZ := Lib.hid (hz.step HB.out)
  clear hz
  have HMY := Lib.hid (seMay_any L x S (pa, pb, pi, pt, ps) w0 HT.out HLW.out true ⟨fun _ => ⟨hms, hmp⟩, fun _ => rfl⟩)
  have HMS := Lib.hid hms
  have HMP := Lib.hid hmp
  have HWP := Lib.hid hwp2
  clear hms hmp hwp2
  have hd : 1 ≤ m := by omega
  have hd1 : 1 ≤ m - 1 := by omega
  have d0 := bx0 HX.out
  have d1 := bx1 HX.out
  have d2 := bx2 HX.out
  have d3 := bx3 HX.out
  have d4 := bx4 HX.out
  have q0 := bx0 HQ.out
  have q1 := bx1 HQ.out
  have q2 := bx2 HQ.out
  have q3 := bx3 HQ.out
  have q4 := bx4 HQ.out
  refine callsIn_of_wp_marks Tryz.func11 rfl trivial ?_ rfl
  simp only [Tryz.ntmps11, List.size_toArray, List.length_cons, List.length_nil, Nat.reduceAdd, Nat.reduceSub, Array.replicate_succ, Array.replicate_zero, List.push_toArray, List.append_toArray, List.nil_append, List.cons_append]
  gi_wp2
  try rw [hw0]
  try rw [hg]
  try rw [hg1]
  clear hw0 hg hg1
  clear d0 d1 d2 d3 d4
  clear q0 q1 q2 q3 q4
  refine ⟨trivial, ?_⟩
  refine (callsIn_wide.2 HMY.out).mono ?_
  rintro e w1 ⟨rfl, b1⟩
  replace HX := Lib.hid (HX.out.below b1 HX.out.lt)
  replace HQ := Lib.hid (HQ.out.below b1 HQ.out.lt)
  replace HT := Lib.hid (HT.out.bel b1)
  replace HB := Lib.hid (HB.out.trans (b1.mono HB.out.size))
  replace HZ := Lib.hid (HZ.out.step b1)
  replace HLW := Lib.hid (Nat.le_trans HLW.out b1.size)
  clear b1 HMY
  have d0 := bx0 HX.out
  have d1 := bx1 HX.out
  have d2 := bx2 HX.out
  have d3 := bx3 HX.out
  have d4 := bx4 HX.out
  have q0 := bx0 HQ.out
  have q1 := bx1 HQ.out
  have q2 := bx2 HQ.out
  have q3 := bx3 HQ.out
  have q4 := bx4 HQ.out
  gi_wp2
  clear d0 d1 d2 d3 d4
  clear q0 q1 q2 q3 q4
  have hon := seOnes_any x S (pa, pb, pi, pt, ps) a w1
  obtain ⟨W1z, hW1z⟩ : ∃ X, w1.heap.size = X := ⟨_, rfl⟩
  refine ⟨trivial, ?_⟩
  refine (callsIn_wide.2 hon).mono ?_
  rintro e w2 ⟨gy, hgy, rfl, hkp, her, b2, hz2⟩
  clear hon
  have HGY := Lib.hid (show w.heap.size ≤ gy by rw [← hgy]; exact HB.out.size)
  replace HT := Lib.hid (HT.out.bel b2)
  replace HB := Lib.hid (HB.out.trans (b2.mono HB.out.size))
  replace HZ := Lib.hid (HZ.out.step b2)
  replace HLW := Lib.hid (Nat.le_trans HLW.out b2.size)
  have HK := Lib.hid hkp
  have HE := Lib.hid her
  have HZ2 := Lib.hid hz2
  clear b2 HX HQ hkp her hz2 hgy hW1z
  gi_wp2
  have hb3 := below_al w2 (.cells #[.slice none 0 0] 35)
  have hx3 := Blk.new w2 35 #[.slice none 0 0]
  have hz3 : (w2.alloc (.cells #[.slice none 0 0] 35)).heap.size = w2.heap.size + 1 := by simp
  obtain ⟨w3, hn3⟩ : ∃ X, w2.alloc (.cells #[.slice none 0 0] 35) = X := ⟨_, rfl⟩
  rw [hn3] at hb3 hx3 hz3 ⊢
  obtain ⟨gl, hgl⟩ : ∃ X, w2.heap.size = X := ⟨_, rfl⟩
  have hgl2 : gl = gy + 5 := by rw [← hgl]; exact HZ2.out
  have hglw : w2.heap.size ≤ gl := by omega
  rw [hgl] at hx3 hz3
  rw [hgl]
  have hr3 : rowAt gl w3 = none := rowAt_of (hx3.cell 0)
  have hk3 : Kept gy a x S (pa, pb, pi, pt, ps) w3 := HK.out.blocks fun i hi _ => hb3.block _ (by omega)
  have he3 : Blk w3 (gy + 3) 36 #[.int .i64 ((0 : Nat) : Int)] := HE.out.below hb3 HE.out.lt
  have hgyw := HGY.out
  have hw0 : 0 < w.heap.size := HZ0.out
  have hyw : YgW L w.heap.size gl gy a x S (pa, pb, pi, pt, ps) 0 w3 := ⟨HT.out.bel hb3, hk3, he3, fun i hi => ⟨by omega, by omega, by omega, by rw [hr3]; simp⟩, Nat.le_trans HLW.out hb3.size, HZ.out.step hb3, by omega, by omega, fun r hr => by rw [hr3] at hr; cases hr⟩
  have hbw : Below w.heap.size w w3 := HB.out.trans (hb3.mono HB.out.size)
  have hLw : L ≤ w.heap.size := HLL.out
  have hi0 : WkI w.heap.size gl (w3.heap.size + 2) w [] w3 := ⟨_, hx3, ⟨World.ownsRow_nil _ _ _ _, fun _ h => (by cases h)⟩, hbw⟩
  have HY3 := Lib.hid hyw
  have HGL := Lib.hid (show L ≤ w.heap.size ∧ w.heap.size ≤ gy ∧ gl = gy + 5 ∧ w3.heap.size = gl + 1 from ⟨hLw, hgyw, hgl2, hz3⟩)
  clear hb3 hx3 hz3 hn3 hgl hgl2 hglw hr3 hk3 he3 hyw hbw HT HZ HB HLW HK HE HZ2 HGY
  have hsz := HGL.out.2.2.2
  have hg5 := HGL.out.2.2.1
  have hgy2 := HGL.out.2.1
  refine range_priv (gf := 52) (lb := #[.pointer (some ⟨gy + 4, 0, none⟩), .pointer (some ⟨gy + 1, 0, none⟩), .pointer (some ⟨gy, 0, none⟩), .pointer (some ⟨gy + 3, 0, none⟩)]) rfl (enters_of Tryz.func52 (by kernel_rfl) rfl) (fun p : Pt => #[ptV p]) (fun _ => rfl) WfP L w.heap.size gl 1000 (by omega) (by omega) (by omega)
    (WkI w.heap.size gl (w3.heap.size + 2) w) (fun pre A A' row h hg hr => h.grown (by obtain ⟨_, _, _, hb⟩ := h; exact hb.size) hg hr) (fun pre A k h hk e => by have := (h.row _ e.symm).1; omega) (fun pre A r h hr => (h.row r hr).2)
    (YgS S (pa, pb, pi, pt, ps) a gy) (fun xs A A' h hg => by obtain ⟨c, h1, h2⟩ := h; exact ⟨c, h1.grown hg (fun e => by injection e; omega), h2⟩) hi0
    (fun J W hb hsw hJ hJr hY h0 => seGo_in (m - 1) (by omega) L w.heap.size gl gy a x S (pa, pb, pi, pt, ps) (w3.heap.size + 1) HMS.out HMP.out HWP.out (by omega) (by omega) hw0 hgy2 (by omega) J W (by omega) (fun pre A A' row h1 h2 h3 => hJ pre A A' row h1 h2 (fun k e => ⟨(h3 k e).1, by have := (h3 k e).2.1; omega, (h3 k e).2.2⟩)) hJr hY h0 (HY3.out.bel (hb.mono (Nat.le_refl _))))
    (fun y b W => ∃ Bx, Blk W Bx 32 (ptA y) ∧ b = { tmps := #[stV x S, ptV (pa, pb, pi, pt, ps), .int .u32 (a : Int), .pointer (some ⟨g, 0, none⟩), .pointer (some ⟨g1, 0, none⟩), undef, .slice none 0 0, .int .i64 0, .func (.func 52) #[] #[.pointer (some ⟨gy + 4, 0, none⟩), .pointer (some ⟨gy + 1, 0, none⟩), .pointer (some ⟨gy, 0, none⟩), .pointer (some ⟨gy + 3, 0, none⟩)], .func (.func 53) #[] #[.pointer (some ⟨gy + 3, 0, none⟩)], .pointer (some ⟨gl, 0, none⟩), .pointer (some ⟨Bx, 0, none⟩), undef, .agg #[.slice x.d.ba S.1.1.length x.d.bc, .slice x.d.wa S.1.2.length x.d.wc, .slice x.a S.2.1.length x.c, .int .u32 (S.2.2.1 : Int), .int .u32 (S.2.2.2 : Int)], .agg #[.int .i64 pa, .int .u32 (pb : Int), .int .u32 (pi : Int), .int .u32 (pt : Int), .int .u32 (ps : Int)], .bool true, .bool false, .tuple #[.func (.func 52) #[] #[.pointer (some ⟨gy + 4, 0, none⟩), .pointer (some ⟨gy + 1, 0, none⟩), .pointer (some ⟨gy, 0, none⟩), .pointer (some ⟨gy + 3, 0, none⟩)], .func (.func 53) #[] #[.pointer (some ⟨gy + 3, 0, none⟩)]], .agg #[.slice x.d.ba S.1.1.length x.d.bc, .slice x.d.wa S.1.2.length x.d.wc, .slice x.a S.2.1.length x.c, .int .u32 (S.2.2.1 : Int), .int .u32 (S.2.2.2 : Int)], .agg #[.int .i64 pa, .int .u32 (pb : Int), .int .u32 (pi : Int), .int .u32 (pt : Int), .int .u32 (ps : Int)], .int .u32 (a : Int), .tuple #[.func (.func 52) #[] #[.pointer (some ⟨gy + 4, 0, none⟩), .pointer (some ⟨gy + 1, 0, none⟩), .pointer (some ⟨gy, 0, none⟩), .pointer (some ⟨gy + 3, 0, none⟩)], .func (.func 53) #[] #[.pointer (some ⟨gy + 3, 0, none⟩)]], .func (.func 52) #[] #[.pointer (some ⟨gy + 4, 0, none⟩), .pointer (some ⟨gy + 1, 0, none⟩), .pointer (some ⟨gy, 0, none⟩), .pointer (some ⟨gy + 3, 0, none⟩)], .func (.func 53) #[] #[.pointer (some ⟨gy + 3, 0, none⟩)], .func (.func 52) #[] #[.pointer (some ⟨gy + 4, 0, none⟩), .pointer (some ⟨gy + 1, 0, none⟩), .pointer (some ⟨gy, 0, none⟩), .pointer (some ⟨gy + 3, 0, none⟩)], ptV y, undef, undef, undef, undef, undef, undef, undef, undef, undef, undef], defers := [] })
    (fun y b A l r o' h hl => by
      obtain ⟨Bx, h1, h2⟩ := h
      refine ⟨Bx, h1.grown (grownBy_putObj' A l o') (fun e => ?_), h2⟩
      obtain rfl : Bx = l := Option.some.inj e
      have e3 : some (Obj.cells (ptA y) 32 (0, 0)) = some (Obj.loop r) := (show A.heap[Bx]? = _ from h1).symm.trans hl
      cases e3) ?assign ?body ?done
  case assign =>
    clear hsz hg5 hgy2
    intro l pre y W K _ _ hK
    obtain ⟨ya, yb, yi, yt, ys⟩ := y
    simp only [ptV]
    gi_wp2
    exact hK _ _ ⟨W.heap.size, Blk.new W _ _, rfl⟩ (below_al W _)
  case body =>
    clear hsz hg5 hgy2
    rintro l pre y b W ⟨v, hb, hr, hbe⟩ hwy ⟨Bx, hbx, rfl⟩ hlen hsW
    obtain ⟨ya, yb, yi, yt, ys⟩ := y
    have q0_ := bx0 hbx
    have q1_ := bx1 hbx
    have q2_ := bx2 hbx
    have q3_ := bx3 hbx
    have q4_ := bx4 hbx
    have c0_ : W.cell? ⟨gl, 0, none⟩ = some v := hb.cell 0
    have h1p := one_pts W (ya, yb, yi, yt, ys) hwy
    have hba := below_al W (.cells (ptC (ya, yb, yi, yt, ys)).toArray 32)
    have hra : PRow (W.alloc (.cells (ptC (ya, yb, yi, yt, ys)).toArray 32)) (w3.heap.size + 2) v pre := hr.below hba
    have hca : Blk (W.alloc (.cells (ptC (ya, yb, yi, yt, ys)).toArray 32)) gl 35 #[v] := hb.alloc _
    obtain ⟨W2, hW2⟩ : ∃ X, W.alloc (.cells (ptC (ya, yb, yi, yt, ys)).toArray 32) = X := ⟨_, rfl⟩
    rw [hW2] at h1p hba hra hca
    have HB := Lib.hid hb
    have HR := Lib.hid hr
    have HBE := Lib.hid hbe
    have H1P := Lib.hid h1p
    have HBA := Lib.hid hba
    have HRA := Lib.hid hra
    have HCA := Lib.hid hca
    have HW2 := Lib.hid hW2
    clear hb hr hbe h1p hba hra hca hW2 hbx
    gi_wp2_with (with_reducible refine atAppendIn ?_
                 have hW2 := HW2.out
                 simp only [ptC] at hW2
                 rw [hW2]
                 clear hW2
                 refine wpListIn_append_plie (w := W2) rfl (.tmp 26) (.tmp 28) rfl (w3.heap.size + 2) v pre rfl HRA.out W2.heap.size _ 1 1 [(ya, yb, yi, yt, ys)] rfl H1P.out (by decide) (by omega) (by have := HBA.out.size; omega) ?_
                 intro gg cg W3 hp' hg' hd' hl'
                 have y3 : Blk W3 gl 35 #[v] := HCA.out.grown hg' (fun e => by have := (HRA.out.1.lt gl e.symm).1; have := HGL.out; omega)
                 have c4_ : W3.cell? ⟨gl, 0, none⟩ = some v := y3.cell 0
                 have f4_ : W3.frozen? ⟨gl, 0, none⟩ = false := y3.frozen 0
                 have HP3 := Lib.hid hp'
                 have HG3 := Lib.hid hg'
                 have HD3 := Lib.hid hd'
                 clear hp' hg' hd' hl' y3)
    obtain ⟨r1, r2, r3⟩ := wk_round (L := L) (D0 := w.heap.size) (w := w) HB.out HR.out HBE.out (by have := HGL.out; omega) (by have := HGL.out; omega) (by have := HGL.out; omega) hsW HBA.out HP3.out HG3.out HD3.out
    exact ⟨r3 _ (by omega) (by have := HGL.out; omega), r3 _ (by omega) (by have := HGL.out; omega), r1, r2⟩
  case done =>
    clear hsz hg5 hgy2
    rintro D xs W hD ⟨c, her, hcs⟩ ⟨v, hbl, hpr, hbe⟩ hKD
    have c0_ : W.cell? ⟨gl, 0, none⟩ = some v := hbl.cell 0
    have e0_ : W.cell? ⟨gy + 3, 0, none⟩ = some (.int .i64 (c : Int)) := her.cell 0
    have hen := seEnded_any (c : Int) (gy + 3) W e0_
    have HEN := Lib.hid hen
    have HPR := Lib.hid hpr
    have HBE := Lib.hid hbe
    have HKD := Lib.hid hKD
    have HDD := Lib.hid hD
    have HCS := Lib.hid hcs
    clear her hbl hpr hbe hKD hen hcs e0_ hD
    by_cases hc : c = 0
    · subst hc
      have HO := Lib.hid (show youngSO S (pa, pb, pi, pt, ps) a = (xs, 0) by
        rcases HCS.out with ⟨_, h⟩ | ⟨h, _⟩
        · exact h
        · exact absurd rfl h)
      have e1_ : (((0 : Nat) : Int) != 0) = false := rfl
      gi_wp2
      refine ⟨trivial, ?_⟩
      refine (callsIn_wide.2 HEN.out).mono ?_
      rintro e W' ⟨rfl, rfl⟩
      gi_wp2
      refine ⟨by simp, .inl ⟨_, _, rfl, run_takeDeferred HKD.out, ?_⟩⟩
      obtain ⟨a3, c3, rfl, h3, h4, h5⟩ := outLs_end HPR.out HBE.out (by have := HGL.out; omega) HKD.out (by have := HDD.out; have := HGL.out; omega) (.deferred none)
      refine ⟨.tuple #[.slice a3 xs.length c3, .int .i64 0], by simp [results, Tryz.f11, go_sem], ?_⟩
      rw [HO.out]
      exact ⟨a3, c3, rfl, h3, h4, h5⟩
    · have HO := Lib.hid (show youngSO S (pa, pb, pi, pt, ps) a = ([], c) by
        rcases HCS.out with ⟨h, _⟩ | ⟨_, h⟩
        · exact absurd h hc
        · exact h)
      have e1_ : ((c : Int) != 0) = true := by simp; omega
      gi_wp2
      refine ⟨trivial, ?_⟩
      refine (callsIn_wide.2 HEN.out).mono ?_
      rintro e W' ⟨rfl, rfl⟩
      gi_wp2
      refine ⟨by simp, .inl ⟨_, _, rfl, run_takeDeferred HKD.out, ?_⟩⟩
      refine ⟨.tuple #[.slice none 0 0, .int .i64 (c : Int)], by simp [results, Tryz.f11, go_sem], ?_⟩
      rw [HO.out]
      exact outLs_no c (HBE.out.trans (below_putObj _ (by have := HDD.out; have := HGL.out; omega)))
theorem setWalk_no (L : Nat) (x : SAt) (S : StL) (p : Pt) (a : Nat) (w : World) (h : StP L w x S) (hL : L ≤ w.heap.size) (hm : ¬ (MayS S ∧ MayP p)) : Calls Tryz.prog 11 #[stV x S, ptV p, .int .u32 (a : Int)] w (OutLs ([], 8) w) := by
  obtain ⟨pa, pb, pi, pt, ps⟩ := p
  obtain ⟨w0, hw0, b0, z0, q1, q2⟩ := two_al w (stC x S) (ptA (pa, pb, pi, pt, ps)) 30 32
  obtain ⟨g, hg⟩ : ∃ g, w.heap.size = g := ⟨_, rfl⟩
  obtain ⟨g1, hg1⟩ : ∃ g1, g + 1 = g1 := ⟨_, rfl⟩
  rw [hg] at q1 q2
  rw [hg1] at q2
  have HX := Lib.hid q1
  have HQ := Lib.hid q2
  have HT := Lib.hid (h.bel b0)
  have HB := Lib.hid b0
  have HLW := Lib.hid (show L ≤ w0.heap.size from Nat.le_trans hL b0.size)
  simp only [stC, ptA] at hw0
  clear h b0 z0 q1 q2 hL
  have HMY := Lib.hid (seMay_any L x S (pa, pb, pi, pt, ps) w0 HT.out HLW.out false ⟨fun h => (by cases h), fun h => absurd h hm⟩)
  clear hm
  have d0 := bx0 HX.out
  have d1 := bx1 HX.out
  have d2 := bx2 HX.out
  have d3 := bx3 HX.out
  have d4 := bx4 HX.out
  have q0 := bx0 HQ.out
  have q1 := bx1 HQ.out
  have q2 := bx2 HQ.out
  have q3 := bx3 HQ.out
  have q4 := bx4 HQ.out
  go_enter Tryz.func11, Tryz.ntmps11
  go_wp2_with fail
  try rw [hw0]
  try rw [hg]
  try rw [hg1]
  clear hw0 hg hg1
  clear d0 d1 d2 d3 d4
  clear q0 q1 q2 q3 q4
  refine HMY.out.mono ?_
  rintro e w1 ⟨rfl, b1⟩
  replace HX := Lib.hid (HX.out.below b1 HX.out.lt)
  replace HQ := Lib.hid (HQ.out.below b1 HQ.out.lt)
  replace HT := Lib.hid (HT.out.bel b1)
  replace HB := Lib.hid (HB.out.trans (b1.mono HB.out.size))
  replace HLW := Lib.hid (Nat.le_trans HLW.out b1.size)
  clear b1 HMY
  go_wp2_with fail
  go_ret2
  exact outLs_no 8 HB.out
theorem setWalk_any (L : Nat) (x : SAt) (S : StL) (p : Pt) (a : Nat) (w : World) (h : StP L w x S) (_hwf : WfS S) (hwp : WfP p) (_ha : a < 4294967296) (hL : L ≤ w.heap.size) (hz : Szs w) : Calls Tryz.prog 11 #[stV x S, ptV p, .int .u32 (a : Int)] w (OutLs (walkSO S p a) w) := by
  by_cases hm : MayS S ∧ MayP p
  · rw [walkSO_may hm.1 hm.2]
    exact callsIn_wide.1 (seWalk_in 4 (Nat.le_refl _) L x S p a w h hwp hL hz hm.1 hm.2)
  · rw [walkSO_no hm]
    exact setWalk_no L x S p a w h hL hm
end Go.Proofs.YtbggkfomfeeikaaGreatDoor
/-
  Store's own: laid; a block is laid, if there is room, and nothing that was there is written.
-/
namespace Go.Proofs.YtbggkfomfeeikaaGreatDoor
open Go.RowKit Go.Shelf
set_option maxRecDepth 100000

/-- What comes behind a block's bytes: nothing, or two numbers. -/
def BySl (w : World) (sl : Value) (iv tag : Nat) : Prop := (sl = .slice none 0 0 ∧ iv = 0 ∧ tag = 0) ∨ ∃ g, sl = .slice (some ⟨g, 0, none⟩) 2 2 ∧ Blk w g 28 #[.int .u32 (iv : Int), .int .u32 (tag : Int)]
theorem BySl.below {w w' : World} {sl : Value} {iv tag : Nat} (h : BySl w sl iv tag) (b : Below w.heap.size w w') : BySl w' sl iv tag := h.imp id fun ⟨g, e, hb⟩ => ⟨g, e, hb.below b hb.lt⟩
theorem BySl.slice {w : World} {sl : Value} {iv tag : Nat} (h : BySl w sl iv tag) : ∃ a n c, sl = .slice a n c := by
  rcases h with ⟨rfl, _⟩ | ⟨g, rfl, _⟩ <;> exact ⟨_, _, _, rfl⟩
end Go.Proofs.YtbggkfomfeeikaaGreatDoor
/-
  What layer 13's comparing statements need: how long the answers' lists are; stores that came in where blocks above them are written.
-/
namespace Go.Proofs.YtbggkfomfeeikaaGreatDoor
open Go.RowKit Go.Shelf
set_option maxRecDepth 100000

theorem Str.below {w w' : World} {B : Nat} {x : SAt} {S : StL} (h : Str w B x S) (k : Below B w w') : Str w' B x S := ⟨⟨h.1.1.below k, h.1.2.below k⟩, h.2.below k⟩
end Go.Proofs.YtbggkfomfeeikaaGreatDoor
/-
  What a disk that came in by value is; what a slice of marks that came in is.
-/
namespace Go.Proofs.YtbggkfomfeeikaaGreatDoor
open Go.RowKit Go.Shelf Go.Joins Go.ChangeShapes Go.WideShapes Go.ChangeAt
set_option maxRecDepth 100000

theorem weights_of {H : Type} {P : Program} {e : TypeId} {d : DataW H} {n : Nat} (hn : n ∈ d.weights P e) : ∀ {l : List (DataW H)}, d ∈ l → n ∈ DataW.weightsAll P e l
  | [], h => by cases h
  | x :: l, h => by
    unfold DataW.weightsAll
    rcases List.mem_cons.1 h with rfl | h
    · exact List.mem_append_left _ hn
    · exact List.mem_append_right _ (weights_of hn h)
/-- A slice of bytes that came in, and how long it may be. -/
theorem open_piece {H : Type} {enc : TypeId × Value → H} {W : World} {fuel : Nat} {v : Value} {y : DataW H × List MemPlace} (hf : DataW.trod enc Tryz.prog W 0 (fun _ => true) true fuel 27 [v] = some y) :
    ∃ a len cap s, v = .slice a len cap ∧ Bsl W W.heap.size a len cap s ∧ ((∀ n ∈ y.1.weights Tryz.prog 27, n ≤ reachBytes) → s.length ≤ reachBytes) := by
  have hb : Tryz.prog.bytesOf 5 = 1 := by kernel_rfl
  rcases open_ints Tryz.underlying27 Tryz.underlying5 (by kernel_rfl) hf with ⟨hcs, rfl⟩ | ⟨x, l, c, zs, hcs, _, hl, hm, hz, rfl, hcell, hwz⟩
  · obtain rfl : v = .slice none 0 0 := by simpa using hcs
    exact ⟨none, 0, 0, _, rfl, bsl_of_row (.inl ⟨rfl, rfl, rfl, rfl⟩), fun _ => Nat.zero_le _⟩
  · obtain rfl : v = .slice (some x) l c := by simpa using hcs
    have hz' : zs.length = c := by simpa using hz
    refine ⟨_, l, c, _, rfl, bsl_of_row (.inr ⟨x, rfl, hl, hm, hz', hcell, hwz⟩), fun hw => ?_⟩
    have := hw ((lits (H := H) .u8 (zs.take l)).length + (lits (H := H) .u8 (zs.drop l)).length) (by
      simp only [DataW.weights, Tryz.underlying27, hb, Nat.mul_one]
      exact List.mem_cons_self ..)
    simp only [lits, List.length_map, List.length_take, List.length_drop] at this ⊢
    omega
/-- A slice of slices of bytes that came in. -/
theorem open_blocks {H : Type} {enc : TypeId × Value → H} {W : World} {fuel : Nat} {v : Value} {y : DataW H × List MemPlace} (hf : DataW.trod enc Tryz.prog W 0 (fun _ => true) true fuel 23 [v] = some y) :
    ∃ a len cap bl, v = .slice a len cap ∧ Bls W W.heap.size a len cap bl ∧ ((∀ n ∈ y.1.weights Tryz.prog 23, n ≤ reachBytes) → ∀ i, i < bl.length → (bl.getD i []).length ≤ reachBytes) := by
  rcases Go.Deep.open_slice1 Tryz.underlying23 (by kernel_rfl) hf with ⟨hcs, rfl⟩ | ⟨x, len, cap, m, n, V, D, Pl, hcs, _, hl, hm, hmm, rfl, hr⟩
  · obtain rfl : v = .slice none 0 0 := by simpa using hcs
    exact ⟨none, 0, 0, [], rfl, bls_nil _ _, fun _ i hi => absurd hi (Nat.not_lt_zero _)⟩
  · obtain rfl : v = .slice (some x) len cap := by simpa using hcs
    obtain ⟨A, L, C, s, hs⟩ : ∃ (A : Nat → Option Addr) (L C : Nat → Nat) (s : Nat → List UInt8), ∀ i, i < len → V i = .slice (A i) (L i) (C i) ∧ Bsl W W.heap.size (A i) (L i) (C i) (s i) ∧ ((∀ n ∈ (D i).weights Tryz.prog 27, n ≤ reachBytes) → (s i).length ≤ reachBytes) := by
      have : ∀ i, ∃ q : Option Addr × Nat × Nat × List UInt8, i < len → V i = .slice q.1 q.2.1 q.2.2.1 ∧ Bsl W W.heap.size q.1 q.2.1 q.2.2.1 q.2.2.2 ∧ ((∀ n ∈ (D i).weights Tryz.prog 27, n ≤ reachBytes) → q.2.2.2.length ≤ reachBytes) := fun i => by
        by_cases hi : i < len
        · obtain ⟨a, l, c, s, h1, h2, h3⟩ := open_piece (hr i (by simp only [if_true] at hmm; omega)).2
          exact ⟨(a, l, c, s), fun _ => ⟨h1, h2, h3⟩⟩
        · exact ⟨(none, 0, 0, []), fun h => absurd h hi⟩
      exact ⟨fun i => (this i).choose.1, fun i => (this i).choose.2.1, fun i => (this i).choose.2.2.1, fun i => (this i).choose.2.2.2, fun i hi => (this i).choose_spec hi⟩
    have hg : ∀ i, i < len → ((List.range len).map s).getD i [] = s i := fun i hi => by simp [List.getD_eq_getElem?_getD, hi]
    refine ⟨_, len, cap, (List.range len).map s, rfl, ⟨by simp, hl, hm, fun h0 => ?_⟩, fun hw i hi => ?_⟩
    · obtain ⟨b, off, spot⟩ := x
      have h00 := (hr 0 (by simp only [if_true] at hmm; omega)).1
      have hspot : spot = none := by simpa [Addr.add] using World.cell?_spot h00
      subst hspot
      have hadd : ∀ i, (⟨b, off, none⟩ : Addr).add i = ⟨b, off + i, none⟩ := fun i => by unfold Addr.add; split <;> simp_all
      refine ⟨b, off, rfl, ?_, fun i hi => ?_⟩
      · rw [hadd] at h00
        exact World.block_lt_of_cell? W _ h00
      · have h1 := (hr i (by simp only [if_true] at hmm; omega)).1
        obtain ⟨e1, e2, _⟩ := hs i hi
        rw [hadd, e1] at h1
        rw [hg i hi, e2.1]
        exact ⟨A i, C i, h1, e2⟩
    · have hi' : i < len := by simpa using hi
      rw [hg i hi']
      refine (hs i hi').2.2 fun n hn => hw n ?_
      simp only [DataW.weights, Tryz.underlying23]
      exact List.mem_cons_of_mem _ (List.mem_append_left _ (weights_of hn (List.mem_map.2 ⟨i, List.mem_range.2 hi', rfl⟩)))
/-- A slice of writes that came in. -/
theorem open_writes {H : Type} {enc : TypeId × Value → H} {W : World} {fuel : Nat} {v : Value} {y : DataW H × List MemPlace} (hf : DataW.trod enc Tryz.prog W 0 (fun _ => true) true fuel 24 [v] = some y) :
    ∃ a len cap ws, v = .slice a len cap ∧ Wts W W.heap.size a len cap ws ∧ ((∀ n ∈ y.1.weights Tryz.prog 24, n ≤ reachBytes) → ∀ i, i < ws.length → (wr_ ws i).2.length ≤ reachBytes) := by
  rcases Go.Deep.open_slice_pairs Tryz.underlying24 Tryz.underlying91 (by kernel_rfl) rfl rfl (by kernel_rfl) (by kernel_rfl) hf with ⟨hcs, rfl⟩ | ⟨x, len, cap, m, n, V0, V1, D0, D1, P0, P1, hcs, _, hl, hm, hmm, rfl, hr⟩
  · obtain rfl : v = .slice none 0 0 := by simpa using hcs
    exact ⟨none, 0, 0, [], rfl, wts_nil _ _, fun _ i hi => absurd hi (Nat.not_lt_zero _)⟩
  · obtain rfl : v = .slice (some x) len cap := by simpa using hcs
    obtain ⟨A, L, C, s, p, hs⟩ : ∃ (A : Nat → Option Addr) (L C : Nat → Nat) (s : Nat → List UInt8) (p : Nat → Int), ∀ i, i < len → V1 i = .slice (A i) (L i) (C i) ∧ Bsl W W.heap.size (A i) (L i) (C i) (s i) ∧ ((∀ n ∈ (D1 i).weights Tryz.prog 27, n ≤ reachBytes) → (s i).length ≤ reachBytes) ∧ V0 i = .int .i64 (p i) ∧ (Lit.int .i64 (p i)).wf = true := by
      have : ∀ i, ∃ q : Option Addr × Nat × Nat × List UInt8 × Int, i < len → V1 i = .slice q.1 q.2.1 q.2.2.1 ∧ Bsl W W.heap.size q.1 q.2.1 q.2.2.1 q.2.2.2.1 ∧ ((∀ n ∈ (D1 i).weights Tryz.prog 27, n ≤ reachBytes) → q.2.2.2.1.length ≤ reachBytes) ∧ V0 i = .int .i64 q.2.2.2.2 ∧ (Lit.int .i64 q.2.2.2.2).wf = true := fun i => by
        by_cases hi : i < len
        · obtain ⟨_, _, h3, h4⟩ := hr i (by simp only [if_true] at hmm; omega)
          obtain ⟨a, l, c, s, h5, h6, h7⟩ := open_piece h4
          obtain ⟨p, e1, _, wn⟩ := DataW.trod_int Tryz.underlying3 h3
          exact ⟨(a, l, c, s, p), fun _ => ⟨h5, h6, h7, by simpa using e1, wn⟩⟩
        · exact ⟨(none, 0, 0, [], 0), fun h => absurd h hi⟩
      exact ⟨fun i => (this i).choose.1, fun i => (this i).choose.2.1, fun i => (this i).choose.2.2.1, fun i => (this i).choose.2.2.2.1, fun i => (this i).choose.2.2.2.2, fun i hi => (this i).choose_spec hi⟩
    have hg : ∀ i, i < len → wr_ ((List.range len).map fun i => (p i, s i)) i = (p i, s i) := fun i hi => by simp [wr_, List.getD_eq_getElem?_getD, hi]
    refine ⟨_, len, cap, (List.range len).map fun i => (p i, s i), rfl, ⟨by simp, hl, hm, fun h0 => ?_⟩, fun hw i hi => ?_⟩
    · obtain ⟨b, off, spot⟩ := x
      have h00 := (hr 0 (by simp only [if_true] at hmm; omega)).1
      have hspot : spot = none := by simpa [Addr.add] using World.cell?_spot h00
      subst hspot
      have hadd : ∀ i, (⟨b, off, none⟩ : Addr).add i = ⟨b, off + i, none⟩ := fun i => by unfold Addr.add; split <;> simp_all
      refine ⟨b, off, rfl, ?_, fun i hi => ?_⟩
      · rw [hadd] at h00
        exact World.block_lt_of_cell? W _ h00
      · obtain ⟨h1, h2, _⟩ := hr i (by simp only [if_true] at hmm; omega)
        obtain ⟨e1, e2, _, e3, e4⟩ := hs i hi
        rw [hadd, e3] at h1
        rw [hadd, e1, ← Nat.add_assoc] at h2
        rw [hg i hi]
        refine ⟨e4, h1, A i, C i, ?_, ?_⟩
        · show _ = some (Value.slice (A i) (s i).length (C i))
          rw [e2.1]
          exact h2
        · show Bsl _ _ _ (s i).length _ _
          rw [e2.1]
          exact e2
    · have hi' : i < len := by simpa using hi
      rw [hg i hi']
      refine (hs i hi').2.2.1 fun n hn => hw n ?_
      simp only [DataW.weights, Tryz.underlying24]
      refine List.mem_cons_of_mem _ (List.mem_append_left _ (weights_of (d := .agg [D0 i, D1 i]) ?_ (List.mem_map.2 ⟨i, List.mem_range.2 hi', rfl⟩)))
      simp only [DataW.weights, Tryz.underlying91]
      simp only [DataW.weightsEach, List.map_cons, List.map_nil]
      exact List.mem_append_right _ (List.mem_append_left _ hn)
end Go.Proofs.YtbggkfomfeeikaaGreatDoor
/-
  What a store that came in by value is.
-/
namespace Go.Proofs.YtbggkfomfeeikaaGreatDoor
open Go.RowKit Go.Shelf Go.Joins Go.ChangeShapes Go.WideShapes Go.ChangeAt
set_option maxRecDepth 100000

/-- Two cells that read as a disk are one. -/
theorem disk_of_trod {H : Type} {enc : TypeId × Value → H} {W : World} {fuel : Nat} {cs : List Value} {y : DataW H × List MemPlace} (h : DataW.trod enc Tryz.prog W 0 (fun _ => true) true fuel 26 cs = some y) :
    ∃ (x : DAt) (D : DkL), cs = [.slice x.ba D.1.length x.bc, .slice x.wa D.2.length x.wc] ∧ Dsk W W.heap.size x D ∧ ((∀ n ∈ y.1.weights Tryz.prog 26, n ≤ reachBytes) → Near D) := by
  obtain ⟨f0, f1, hu, t0, t1, o0, o1⟩ : ∃ f0 f1 : Field, Tryz.prog.underlying 26 = some (.struct #[f0, f1]) ∧ f0.type = 23 ∧ f1.type = 24 ∧ f0.offset = 0 ∧ f1.offset = 1 := ⟨_, _, Tryz.underlying26, rfl, rfl, rfl, rfl⟩
  have cB : Tryz.prog.cellsOf 23 = 1 := by kernel_rfl
  have cW : Tryz.prog.cellsOf 24 = 1 := by kernel_rfl
  have cD : Tryz.prog.cellsOf 26 = 2 := by kernel_rfl
  obtain ⟨xs, k, hk, hxy, hcl, hxl, hf⟩ := DataW.trod_struct hu h
  rw [cD] at hcl
  match xs, hxl, cs, hcl with
  | [y0, y1], _, [v0, v1], _ =>
    have g0 := hf 0 f0 rfl
    have g1 := hf 1 f1 rfl
    simp [t0, t1, o0, o1, cB, cW] at g0 g1
    obtain ⟨ba, bn, bc, bl, rfl, hb, hb2⟩ := open_blocks g0
    obtain ⟨wa, wn, wc, ws, rfl, hs, hs2⟩ := open_writes g1
    obtain rfl := hb.1
    obtain rfl := hs.1
    refine ⟨⟨ba, bc, wa, wc⟩, (bl, ws), rfl, ⟨hb, hs⟩, fun hw => ?_⟩
    have hwt : ∀ n, n ∈ y0.1.weights Tryz.prog 23 ∨ n ∈ y1.1.weights Tryz.prog 24 → n ≤ reachBytes := fun n hn => hw n (by
      rw [hxy]
      simp only [List.map_cons, List.map_nil]
      simp only [DataW.weights, Tryz.underlying26]
      simp only [DataW.weightsEach, List.map_cons, List.map_nil]
      rcases hn with hn | hn
      · exact List.mem_append_left _ hn
      · exact List.mem_append_right _ (List.mem_append_left _ hn))
    exact ⟨hb2 fun n hn => hwt n (.inl hn), hs2 fun n hn => hwt n (.inr hn)⟩
/-- A store that came in by value. -/
theorem open_store {H : Type} {enc : TypeId × Value → H} {W : World} {r : Go.Reach} {b0 : Nat} {v : Value} {d : DataW H} {p : List MemPlace} (hv : Value.okWide Tryz.prog W r b0 30 v) (h : DataW.Trod enc Tryz.prog W 0 (fun _ => true) true 30 v d p)
    (hw : ∀ n ∈ d.weights Tryz.prog 30, n ≤ reachBytes) : ∃ x S, v = stV x S ∧ Str W W.heap.size x S ∧ Near S.1 ∧ WfS S := by
  obtain ⟨f0, f1, f2, f3, hu, t0, t1, t2, t3, o0, o1, o2, o3⟩ : ∃ f0 f1 f2 f3 : Field, Tryz.prog.underlying 30 = some (.struct #[f0, f1, f2, f3]) ∧ f0.type = 26 ∧ f1.type = 27 ∧ f2.type = 28 ∧ f3.type = 28 ∧ f0.offset = 0 ∧ f1.offset = 2 ∧ f2.offset = 3 ∧ f3.offset = 4 :=
    ⟨_, _, _, _, Tryz.underlying30, rfl, rfl, rfl, rfl, rfl, rfl, rfl, rfl⟩
  have cS : Tryz.prog.cellsOf 27 = 1 := by kernel_rfl
  have cU : Tryz.prog.cellsOf 28 = 1 := by kernel_rfl
  have cD : Tryz.prog.cellsOf 26 = 2 := by kernel_rfl
  have cT : Tryz.prog.cellsOf 30 = 5 := by kernel_rfl
  obtain ⟨cs, rfl, hsz⟩ := okWide_struct hu hv
  obtain ⟨fuel, hf⟩ := h
  obtain ⟨xs, k, hk, hxy, hcl, hxl, hg⟩ := DataW.trod_struct hu hf
  rw [cT] at hsz
  obtain ⟨c0, c1, c2, c3, c4, rfl⟩ : ∃ c0 c1 c2 c3 c4, cs = #[c0, c1, c2, c3, c4] := by
    obtain ⟨l⟩ := cs
    match l, hsz with
    | [a, b, c, d, e], _ => exact ⟨a, b, c, d, e, rfl⟩
  match xs, hxl with
  | [y0, y1, y2, y3], _ =>
    have g0 := hg 0 f0 rfl
    have g1 := hg 1 f1 rfl
    have g2 := hg 2 f2 rfl
    have g3 := hg 3 f3 rfl
    simp [t0, t1, t2, t3, o0, o1, o2, o3, cS, cU, cD, Value.cells] at g0 g1 g2 g3
    obtain ⟨x, D, hcs, hd, hn⟩ := disk_of_trod g0
    obtain ⟨a, len, cap, s, rfl, hs, _⟩ := open_piece g1
    obtain ⟨n2, e2, _, w2⟩ := DataW.trod_int Tryz.underlying28 g2
    obtain ⟨n3, e3, _, w3⟩ := DataW.trod_int Tryz.underlying28 g3
    have l2 : 0 ≤ n2 ∧ n2 ≤ 4294967295 := by simpa [Lit.wf, IntKind.min, IntKind.max, IntKind.signed, IntKind.bits] using w2
    have l3 : 0 ≤ n3 ∧ n3 ≤ 4294967295 := by simpa [Lit.wf, IntKind.min, IntKind.max, IntKind.signed, IntKind.bits] using w3
    obtain ⟨m2, rfl⟩ := Int.eq_ofNat_of_zero_le l2.1
    obtain ⟨m3, rfl⟩ := Int.eq_ofNat_of_zero_le l3.1
    obtain rfl : c3 = .int .u32 (m2 : Int) := by simpa using e2
    obtain rfl : c4 = .int .u32 (m3 : Int) := by simpa using e3
    obtain rfl := hs.1
    simp only [List.cons.injEq, and_true] at hcs
    obtain ⟨rfl, rfl⟩ := hcs
    refine ⟨⟨x, a, cap⟩, (D, s, m2, m3), rfl, ⟨hd, hs⟩, hn fun n hn' => hw n ?_, ⟨by show m2 < 4294967296; omega, by show m3 < 4294967296; omega⟩⟩
    have hdd : d = .agg [y0.1, y1.1, y2.1, y3.1] := by
      have := hxy
      simp only [Prod.mk.injEq] at this
      simpa using this.1
    rw [hdd]
    simp only [DataW.weights, Tryz.underlying30]
    simp only [DataW.weightsEach, List.map_cons, List.map_nil]
    exact List.mem_append_left _ hn'
end Go.Proofs.YtbggkfomfeeikaaGreatDoor
/-
  What a pointer that came in by value is; what a slice of pointers that came in is.
-/
namespace Go.Proofs.YtbggkfomfeeikaaGreatDoor
open Go.RowKit Go.Shelf Go.Joins Go.ChangeShapes Go.WideShapes Go.ChangeAt
set_option maxRecDepth 100000

theorem u32_wf {n : Int} (h : (Lit.int .u32 n).wf = true) : ∃ m : Nat, n = (m : Int) ∧ m < 4294967296 := by
  simp [Lit.wf, IntKind.min, IntKind.max, IntKind.signed, IntKind.bits] at h
  exact ⟨n.toNat, by omega, by omega⟩
theorem i64_wf {n : Int} (h : (Lit.int .i64 n).wf = true) : -9223372036854775808 ≤ n ∧ n ≤ 9223372036854775807 := by
  simpa [Lit.wf, IntKind.min, IntKind.max, IntKind.signed, IntKind.bits] using h
/-- Five cells that read as a pointer are one. -/
theorem pt_of_trod {H : Type} {enc : TypeId × Value → H} {W : World} {fuel : Nat} {cs : List Value} {x : DataW H × List MemPlace} (h : DataW.trod enc Tryz.prog W 0 (fun _ => true) true fuel 32 cs = some x) : ∃ p, WfP p ∧ cs = ptC p := by
  obtain ⟨f0, f1, f2, f3, f4, hu, t0, t1, t2, t3, t4, o0, o1, o2, o3, o4⟩ : ∃ f0 f1 f2 f3 f4 : Field, Tryz.prog.underlying 32 = some (.struct #[f0, f1, f2, f3, f4]) ∧ f0.type = 3 ∧ f1.type = 28 ∧ f2.type = 28 ∧ f3.type = 28 ∧ f4.type = 28 ∧ f0.offset = 0 ∧ f1.offset = 1 ∧ f2.offset = 2 ∧ f3.offset = 3 ∧ f4.offset = 4 :=
    ⟨_, _, _, _, _, Tryz.underlying32, rfl, rfl, rfl, rfl, rfl, rfl, rfl, rfl, rfl, rfl⟩
  have cI : Tryz.prog.cellsOf 3 = 1 := by kernel_rfl
  have cU : Tryz.prog.cellsOf 28 = 1 := by kernel_rfl
  have cP : Tryz.prog.cellsOf 32 = 5 := by kernel_rfl
  obtain ⟨xs, k, hk, hxy, hcl, hxl, hf⟩ := DataW.trod_struct hu h
  rw [cP] at hcl
  match xs, hxl, cs, hcl with
  | [y0, y1, y2, y3, y4], _, [v0, v1, v2, v3, v4], _ =>
    have g0 := hf 0 f0 rfl
    have g1 := hf 1 f1 rfl
    have g2 := hf 2 f2 rfl
    have g3 := hf 3 f3 rfl
    have g4 := hf 4 f4 rfl
    simp [t0, t1, t2, t3, t4, o0, o1, o2, o3, o4, cI, cU] at g0 g1 g2 g3 g4
    obtain ⟨n0, e0, _, w0⟩ := DataW.trod_int Tryz.underlying3 g0
    obtain ⟨n1, e1, _, w1⟩ := DataW.trod_int Tryz.underlying28 g1
    obtain ⟨n2, e2, _, w2⟩ := DataW.trod_int Tryz.underlying28 g2
    obtain ⟨n3, e3, _, w3⟩ := DataW.trod_int Tryz.underlying28 g3
    obtain ⟨n4, e4, _, w4⟩ := DataW.trod_int Tryz.underlying28 g4
    obtain ⟨m1, rfl, l1⟩ := u32_wf w1
    obtain ⟨m2, rfl, l2⟩ := u32_wf w2
    obtain ⟨m3, rfl, l3⟩ := u32_wf w3
    obtain ⟨m4, rfl, l4⟩ := u32_wf w4
    refine ⟨(n0, m1, m2, m3, m4), ⟨i64_wf w0, l1, l2, l3, l4⟩, ?_⟩
    simp at e0 e1 e2 e3 e4
    rw [e0, e1, e2, e3, e4]
    rfl
/-- A pointer that came in by value. -/
theorem open_ptr {H : Type} {enc : TypeId × Value → H} {W : World} {r : Go.Reach} {b0 : Nat} {v : Value} {d : DataW H} {p : List MemPlace} (hv : Value.okWide Tryz.prog W r b0 32 v) (h : DataW.Trod enc Tryz.prog W 0 (fun _ => true) true 32 v d p) :
    ∃ q, v = ptV q ∧ WfP q := by
  obtain ⟨cs, rfl, hsz⟩ := okWide_struct Tryz.underlying32 hv
  obtain ⟨fuel, hf⟩ := h
  obtain ⟨q, hw, hq⟩ := pt_of_trod hf
  refine ⟨q, ?_, hw⟩
  have : cs = (ptC q).toArray := by
    rw [← hq]
    simp [Value.cells]
  rw [this]
  rfl
end Go.Proofs.YtbggkfomfeeikaaGreatDoor
/-
  What the program's sizes are where they lie as they were laid.
-/
namespace Go.Proofs.YtbggkfomfeeikaaGreatDoor
open Go.RowKit Go.Shelf Go.Joins Go.ChangeShapes Go.WideShapes Go.ChangeAt
set_option maxRecDepth 100000

theorem gSizes : Tryz.prog.globalNamed "charterhouse/ptr.sizes" = some 0 := by kernel_rfl
theorem tSizes : (Tryz.prog.globals[0]?).map (·.type) = some 148 := by kernel_rfl
/-- The door's own heap meets the condition: closed facts. -/
theorem door_met (os : Os) (args : Array Value) : laidMetH Tryz.prog [("charterhouse/ptr.sizes", Rows.laid_charterhouse_ptr_sizes)] ((World.doorLaid Tryz.prog 400 os).forCall (fun _ _ => 0) ⟨#[], args, []⟩).memory :=
  laidMetH_of_parts3 (fuel := 8) (laidMet_of_run' 8 (by kernel_rfl) (by kernel_rfl)) (by kernel_rfl) (by kernel_rfl)
theorem szs_of_laid {W : World} (h : laidMetH Tryz.prog [("charterhouse/ptr.sizes", Rows.laid_charterhouse_ptr_sizes)] W) : Szs W := by
  rw [MakeChecks.laidMetH_plain _ _ _ (by kernel_rfl)] at h
  obtain ⟨ps, ⟨g0, t0, cs0, f0, q0, r0, hg0, ht0, hv0, hd0, _⟩, _⟩ := h
  obtain rfl := Option.some.inj (gSizes.symm.trans hg0)
  obtain rfl := Option.some.inj (tSizes.symm.trans ht0)
  obtain ⟨xs, m1, rfl, hx1, hlen, hn5, hel⟩ := DataW.trod_array Tryz.underlying148 hd0
  have c3 : Tryz.prog.cellsOf 3 = 1 := by kernel_rfl
  simp only [Prod.mk.injEq, Rows.laid_charterhouse_ptr_sizes, DataW.agg.injEq] at hx1
  have one : ∀ (i : Nat) (x : DataW Unit × List MemPlace) (n : Int), i < 5 → xs[i]? = some x → x.1 = .lit (.int .i64 n) → W.cell? ⟨0, i, none⟩ = some (.int .i64 n) := fun i x n hi hx hn => by
    have h0 := hel i hi
    rw [hx, c3, Nat.mul_one] at h0
    obtain ⟨k, e1, e2, _⟩ := DataW.trod_int Tryz.underlying3 h0
    have hk : k = n := by rw [e2] at hn; simpa using hn
    subst hk
    have hv := World.var?_cell hg0 hv0 i
    have e3 : (cs0.toList.drop i)[0]? = some (.int .i64 k) := by
      have : ((cs0.toList.drop i).take 1)[0]? = some (.int .i64 k) := by rw [e1]; rfl
      rwa [List.getElem?_take_of_lt (by omega)] at this
    rw [List.getElem?_drop, Nat.add_zero, Array.getElem?_toList] at e3
    rw [← e3]
    exact hv
  match xs, hn5, hx1, one with
  | [x0, x1, x2, x3, x4], _, hx1, one =>
    simp only [List.map_cons, List.map_nil, List.cons.injEq] at hx1
    have d0 := one 0 x0 1 (by omega) rfl hx1.1.1.symm
    exact ⟨World.block_lt_of_cell? W _ d0, d0, one 1 x1 3 (by omega) rfl hx1.1.2.1.symm, one 2 x2 4 (by omega) rfl hx1.1.2.2.1.symm, one 3 x3 4 (by omega) rfl hx1.1.2.2.2.1.symm, one 4 x4 4 (by omega) rfl hx1.1.2.2.2.2.1.symm⟩

end Go.Proofs.YtbggkfomfeeikaaGreatDoor
