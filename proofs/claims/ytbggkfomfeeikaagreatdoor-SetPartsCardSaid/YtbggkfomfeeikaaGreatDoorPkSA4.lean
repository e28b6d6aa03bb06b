/-
  Texts of one seat, one behind the other.
-/
import Derived.Laws.CopyOwn
import Derived.IntWalk
import Derived.Test.YtbggkfomfeeikaaGreatDoorPkSA3
/-
  Store's own: laid; a block is laid, if there is room, and nothing that was there is written.
-/
namespace Go.Proofs.YtbggkfomfeeikaaGreatDoor
open Go.RowKit Go.Shelf
set_option maxRecDepth 100000

/-- What comes behind a block's bytes: nothing, or two numbers. -/
def BySl (w : World) (sl : Value) (iv tag : Nat) : Prop := (sl = .slice none 0 0 ∧ iv = 0 ∧ tag = 0) ∨ ∃ g, sl = .slice (some ⟨g, 0, none⟩) 2 2 ∧ Blk w g 28 #[.int .u32 (iv : Int), .int .u32 (tag : Int)]
theorem BySl.below {w w' : World} {sl : Value} {iv tag : Nat} (h : BySl w sl iv tag) (b : Below w.heap.size w w') : BySl w' sl iv tag := h.imp id fun ⟨g, e, hb⟩ => ⟨g, e, hb.below b hb.lt⟩
theorem BySl.slice {w : World} {sl : Value} {iv tag : Nat} (h : BySl w sl iv tag) : ∃ a n c, sl = .slice a n c := by
  rcases h with ⟨rfl, _⟩ | ⟨g, rfl, _⟩ <;> exact ⟨_, _, _, rfl⟩
theorem atCopy2 {P : Program} {ops : Array Oper} {Q : Exit → Act → World → Prop} {a : Act} {w : World} {rest : List Oper} {d : Option Tmp} {ty : TypeId} {x : Array Operand} {y : Array TypeId} {pos : String} {af : Array Edge} (h : wpList P ops Q (⟨d, .call { callee := .builtin .copy, args := x, argTypes := y }, ty, pos, af, none⟩ :: rest) a w) : wpList P ops Q (⟨d, .call { callee := .builtin .copy, args := x, argTypes := y }, ty, pos, af, none⟩ :: rest) a w := h
theorem infoU32' : (Tryz.prog.info? 28).map (·.size) = some 1 := by kernel_rfl
theorem wpList_copy_two {w : World} {ops : Array Oper} {rest : List Oper} {o : Oper} {a : Act} {Q : Exit → Act → World → Prop} (hgd : o.guard = none) (d s : Operand) (ho : o.op = .call { callee := .builtin .copy, args := #[d, s], argTypes := #[99, 99] }) (g5 : Nat) (sl : Value) (iv tag : Nat)
    (hd : a.eval d = .slice (some ⟨g5, 0, none⟩) 2 2) (hs : a.eval s = sl) (hsl : BySl w sl iv tag) (hx : Blk w g5 104 #[.int .u32 0, .int .u32 0])
    (h : ∀ (m : Nat) w', Blk w' g5 104 #[.int .u32 (iv : Int), .int .u32 (tag : Int)] → Below g5 w w' → wpList Tryz.prog ops Q rest (a.put o.dst (.int .i64 m)) w') : wpList Tryz.prog ops Q (o :: rest) a w := by
  rcases hsl with ⟨rfl, rfl, rfl⟩ | ⟨g, rfl, hg⟩
  · refine wpList_copy_splice hgd d s 99 99 ho 28 Tryz.underlying99 infoU32' (some ⟨g5, 0, none⟩) none 2 2 0 0 hd hs g5 0 [.int .u32 0, .int .u32 0] 104 hx [] rfl
      (fun h => absurd h (by simp)) (by simp) (fun u hu => by cases hu) g5 w (Below.refl _ _) (Nat.le_refl _) ?_
    intro w2 hx2 hb2
    exact h 0 w2 hx2.out hb2
  · refine wpList_copy_splice hgd d s 99 99 ho 28 Tryz.underlying99 infoU32' (some ⟨g5, 0, none⟩) (some ⟨g, 0, none⟩) 2 2 2 2 hd hs g5 0 [.int .u32 0, .int .u32 0] 104 hx [.int .u32 (iv : Int), .int .u32 (tag : Int)] rfl
      (fun _ => ⟨rfl, _, rfl, fun j u hu => ?_⟩) (by simp) (fun u hu => ?_) g5 w (Below.refl _ _) (Nat.le_refl _) ?_
    · have hc := hg.cell j
      have e : (⟨g, 0, none⟩ : Addr).add j = ⟨g, j, none⟩ := by unfold Addr.add; split <;> simp_all
      rw [e, hc]
      simpa using hu
    · simp only [List.mem_cons, List.not_mem_nil, or_false] at hu
      rcases hu with rfl | rfl <;> rfl
    · intro w2 hx2 hb2
      exact h 2 w2 hx2.out hb2
theorem hiS_zero (w : World) (B : Nat) : HiS w B at0 st0 := ⟨.inl rfl, .inl rfl, .inl rfl⟩
theorem newSP_zero (z : Nat) {w w' : World} (hb : Below w.heap.size w w') : NewSP (st0, p0, z) w (.returned (.tuple #[.agg #[.slice none 0 0, .slice none 0 0, .slice none 0 0, .int .u32 0, .int .u32 0], .agg #[.int .i64 0, .int .u32 0, .int .u32 0, .int .u32 0, .int .u32 0], .int .i64 z])) w' :=
  ⟨at0, rfl, st0_lasts 0 w', hiS_zero w' _, hb⟩
theorem far5_bl {w : World} {g g' : Nat} {t : TypeId} {cs : Array Value} (h : Blk w g' t cs) (hne : g' ≠ g) (v0 v1 v2 v3 v4 : Value) : Blk (set5 w g v0 v1 v2 v3 v4) g' t cs :=
  ((((h.far (p := ⟨g, 0, none⟩) hne v0).far (p := ⟨g, 1, none⟩) hne v1).far (p := ⟨g, 2, none⟩) hne v2).far (p := ⟨g, 3, none⟩) hne v3).far (p := ⟨g, 4, none⟩) hne v4
theorem newS_of {w w1 w2 : World} {y : DAt} {D : DkL} {sa : Option Addr} {sc n : Nat} {t : List UInt8} {B B' B'' : Nat} (hd : OutD w1 B y D) (ho : w2.ownsRow B' 5 1 (.slice sa n sc) n (vals t)) (hn : t.length = n) (k : Keeps 0 w1 w) (k2 : Keeps 0 w2 w) (hB : B'' ≤ B) (hB' : B'' ≤ B') (e c : Nat) :
    StP 0 w ⟨y, sa, sc⟩ (D, t, e, c) ∧ HiS w B'' ⟨y, sa, sc⟩ (D, t, e, c) := by
  subst hn
  have hd' := (outD_keeps hd k).lower hB
  have ho' := own_keeps ho (by decide) k2
  have hh := outD_hi hd'
  exact ⟨fun W kk => ⟨(outD_keeps hd (k.trans kk)).dsk, own_bsl (own_keeps ho' (by decide) kk)⟩, hh.1, hh.2, piece_own (own_mono ho' hB')⟩
set_option maxHeartbeats 4000000 in
theorem stLaid_full (L : Nat) (x : SAt) (S : StL) (birth iv tag : Nat) (a : Option Addr) (c : Nat) (b : List UInt8) (sl : Value) (w : World) (h : StP L w x S) (hb : Bsl w w.heap.size a b.length c b) (hsl : BySl w sl iv tag) (hm : MayS S) (hbl : b.length = 256) (h0' : ∀ i, i < 256 → mkT S.2.1 i ≠ 0) : Calls Tryz.prog 42 #[stV x S, .int .u32 birth, .slice a b.length c, sl] w (NewSP (putR (putS S birth iv tag b)) w) := by
  rw [putS_none h0']
  obtain ⟨w0, hw0, b0, z0, x0, y0, q0⟩ := three_al w (stC x S) stZ ptZ 30 30 32
  obtain ⟨g, hg⟩ : ∃ g, w.heap.size = g := ⟨_, rfl⟩
  obtain ⟨g1, hg1⟩ : ∃ g1, g + 1 = g1 := ⟨_, rfl⟩
  obtain ⟨g2, hg2⟩ : ∃ g2, g1 + 1 = g2 := ⟨_, rfl⟩
  have h0 := h.bel b0
  have hb0 := hb.step b0
  have hs0 := hsl.below b0
  rw [hg] at x0 y0 q0 z0 b0
  rw [hg1] at y0
  rw [show g + 2 = g1 + 1 by omega, hg2] at q0
  obtain ⟨sla, sln, slc, rfl⟩ := hsl.slice
  have HI := Lib.hid (show g ≤ g1 ∧ g ≤ g2 ∧ g1 ≠ g ∧ g2 ≠ g ∧ g2 ≠ g1 ∧ g1 ≠ g2 ∧ w0.heap.size = g + 3 by omega)
  have hle : S.2.1.length = 256 := hm.2.1.1
  have hwl : S.1.2.length ≤ 4096 := hm.1.2.1
  have c0 := stC0 x0
  have c1 := stC1 x0
  have c2 := stC2 x0
  have hsp := h0.now.2
  rw [hle] at c2 hsp
  have HX := Lib.hid x0
  have HY := Lib.hid y0
  have HQ := Lib.hid q0
  have HB := Lib.hid b0
  have HS := Lib.hid h0
  have HA := Lib.hid hb0
  have HY2 := Lib.hid hs0
  have HG := Lib.hid hg
  have HLE := Lib.hid hle
  have HMS := Lib.hid hm
  have HBL := Lib.hid hbl
  have HZ := Lib.hid (show g ≤ w0.heap.size by omega)
  simp only [stC, stZ, ptZ] at hw0
  clear h hb hsl h0 hb0 hs0 x0 y0 q0 b0 z0
  have HT := Lib.hid (spTake_full x.a 256 x.c S.2.1 w0 hsp HMS.out.2.1 h0')
  clear h0' hsp hle hwl hm hbl
  go_enter Tryz.func42, Tryz.ntmps42
  go_wp2_with fail
  clear hw0 c0 c1 c2
  refine HT.out.mono ?_
  rintro e w1 ⟨v, rfl, ho, b1⟩
  replace HX := Lib.hid (HX.out.below b1 HX.out.lt)
  replace HY := Lib.hid (HY.out.below b1 HY.out.lt)
  replace HQ := Lib.hid (HQ.out.below b1 HQ.out.lt)
  replace HB := Lib.hid (HB.out.trans (b1.mono HZ.out))
  clear ho b1 HT
  have m0 := stZ0 HY.out
  have m1 := stZ1 HY.out
  have m2 := stZ2 HY.out
  have m3 := stZ3 HY.out
  have m4 := stZ4 HY.out
  have n0 := ptZ0 HQ.out
  have n1 := ptZ1 HQ.out
  have n2 := ptZ2 HQ.out
  have n3 := ptZ3 HQ.out
  have n4 := ptZ4 HQ.out
  go_wp2_with fail
  refine bodyPost_ret (v := .tuple #[.agg #[.slice none 0 0, .slice none 0 0, .slice none 0 0, .int .u32 0, .int .u32 0], .agg #[.int .i64 0, .int .u32 0, .int .u32 0, .int .u32 0, .int .u32 0], .int .i64 9]) (by simp [results, Tryz.f42, go_sem, m0, m1, m2, m3, m4, n0, n1, n2, n3, n4]) rfl ?_
  exact newSP_zero 9 (by rw [HG.out]; exact HB.out)
set_option maxHeartbeats 4000000 in
theorem stLaid_great (L : Nat) (x : SAt) (S : StL) (birth iv tag : Nat) (a : Option Addr) (c : Nat) (b : List UInt8) (sl : Value) (w : World) (h : StP L w x S) (hb : Bsl w w.heap.size a b.length c b) (hsl : BySl w sl iv tag) (hm : MayS S) (hbl : b.length = 256) (k : Nat) (hk : k < 256) (hz : mkT S.2.1 k = 0) (h0' : ∀ i, i < k → mkT S.2.1 i ≠ 0) (hgr : 4096 ≤ S.1.2.length) : Calls Tryz.prog 42 #[stV x S, .int .u32 birth, .slice a b.length c, sl] w (NewSP (putR (putS S birth iv tag b)) w) := by
  rw [putS_great hgr]
  obtain ⟨w0, hw0, b0, z0, x0, y0, q0⟩ := three_al w (stC x S) stZ ptZ 30 30 32
  obtain ⟨g, hg⟩ : ∃ g, w.heap.size = g := ⟨_, rfl⟩
  obtain ⟨g1, hg1⟩ : ∃ g1, g + 1 = g1 := ⟨_, rfl⟩
  obtain ⟨g2, hg2⟩ : ∃ g2, g1 + 1 = g2 := ⟨_, rfl⟩
  have h0 := h.bel b0
  have hb0 := hb.step b0
  have hs0 := hsl.below b0
  rw [hg] at x0 y0 q0 z0 b0
  rw [hg1] at y0
  rw [show g + 2 = g1 + 1 by omega, hg2] at q0
  obtain ⟨sla, sln, slc, rfl⟩ := hsl.slice
  have HI := Lib.hid (show g ≤ g1 ∧ g ≤ g2 ∧ g1 ≠ g ∧ g2 ≠ g ∧ g2 ≠ g1 ∧ g1 ≠ g2 ∧ w0.heap.size = g + 3 by omega)
  have hle : S.2.1.length = 256 := hm.2.1.1
  have hwl : S.1.2.length ≤ 4096 := hm.1.2.1
  have c0 := stC0 x0
  have c1 := stC1 x0
  have c2 := stC2 x0
  have hsp := h0.now.2
  rw [hle] at c2 hsp
  have HX := Lib.hid x0
  have HY := Lib.hid y0
  have HQ := Lib.hid q0
  have HB := Lib.hid b0
  have HS := Lib.hid h0
  have HA := Lib.hid hb0
  have HY2 := Lib.hid hs0
  have HG := Lib.hid hg
  have HLE := Lib.hid hle
  have HMS := Lib.hid hm
  have HBL := Lib.hid hbl
  have HZ := Lib.hid (show g ≤ w0.heap.size by omega)
  simp only [stC, stZ, ptZ] at hw0
  clear h hb hsl h0 hb0 hs0 x0 y0 q0 b0 z0
  have HT := Lib.hid (spTake_ok x.a 256 x.c S.2.1 k w0 hsp HMS.out.2.1 hk hz h0')
  have hwo : writeO S.1 (k : Int) b = (([], []), 9) := by
    unfold writeO
    rw [if_pos hm.1, if_pos (by omega), if_pos hbl, if_pos (by omega)]
  have HWO := Lib.hid hwo
  clear h0' hsp hle hwl hm hbl hk hz hgr hwo
  go_enter Tryz.func42, Tryz.ntmps42
  go_wp2_with fail
  clear hw0 c0 c1 c2
  refine HT.out.mono ?_
  rintro e w1 ⟨v, rfl, ho, b1⟩
  rw [show (S.2.1.set k 1).length = 256 by rw [List.length_set]; exact HLE.out] at ho
  obtain ⟨sa, sc, rfl⟩ := own_slice ho
  replace HX := Lib.hid (HX.out.below b1 HX.out.lt)
  replace HY := Lib.hid (HY.out.below b1 HY.out.lt)
  replace HQ := Lib.hid (HQ.out.below b1 HQ.out.lt)
  replace HS := Lib.hid (HS.out.bel b1)
  replace HA := Lib.hid (HA.out.step b1)
  replace HY2 := Lib.hid (HY2.out.below b1)
  replace HB := Lib.hid (HB.out.trans (b1.mono HZ.out))
  replace HZ := Lib.hid (Nat.le_trans HZ.out b1.size)
  have HO := Lib.hid ho
  have HZ1 := Lib.hid HZ.out
  clear b1 ho HT
  have c0 := stC0 HX.out
  have c1 := stC1 HX.out
  have hwr := dWrite_any x.d S.1 (k : Int) a b.length c b w1 HS.out.now.1 HA.out
  simp only [dval] at hwr
  rw [HWO.out] at hwr
  have HW := Lib.hid hwr
  clear hwr
  go_wp2_with fail
  clear c0 c1
  refine HW.out.mono ?_
  rintro e w2 ⟨y, rfl, hd, b2⟩
  simp only [dval]
  replace HX := Lib.hid (HX.out.below b2 HX.out.lt)
  replace HY := Lib.hid (HY.out.below b2 HY.out.lt)
  replace HQ := Lib.hid (HQ.out.below b2 HQ.out.lt)
  replace HB := Lib.hid (HB.out.trans (b2.mono HZ.out))
  replace HZ := Lib.hid (Nat.le_trans HZ.out b2.size)
  clear hd b2 HW
  have b3 := (Below.refl w2.heap.size w2).alloc (Nat.le_refl _) (.cells #[.slice y.ba 0 y.bc, .slice y.wa 0 y.wc] 26)
  replace HX := Lib.hid (HX.out.below b3 HX.out.lt)
  replace HY := Lib.hid (HY.out.below b3 HY.out.lt)
  replace HQ := Lib.hid (HQ.out.below b3 HQ.out.lt)
  replace HB := Lib.hid (HB.out.trans (b3.mono HZ.out))
  have m0 := stZ0 HY.out
  have m1 := stZ1 HY.out
  have m2 := stZ2 HY.out
  have m3 := stZ3 HY.out
  have m4 := stZ4 HY.out
  have n0 := ptZ0 HQ.out
  have n1 := ptZ1 HQ.out
  have n2 := ptZ2 HQ.out
  have n3 := ptZ3 HQ.out
  have n4 := ptZ4 HQ.out
  clear b3
  go_wp2_with fail
  refine bodyPost_ret (v := .tuple #[.agg #[.slice none 0 0, .slice none 0 0, .slice none 0 0, .int .u32 0, .int .u32 0], .agg #[.int .i64 0, .int .u32 0, .int .u32 0, .int .u32 0, .int .u32 0], .int .i64 9]) (by simp [results, Tryz.f42, go_sem, m0, m1, m2, m3, m4, n0, n1, n2, n3, n4]) rfl ?_
  exact newSP_zero 9 (by rw [HG.out]; exact HB.out)
set_option maxHeartbeats 8000000 in
theorem stLaid_ok (L : Nat) (x : SAt) (S : StL) (birth iv tag : Nat) (a : Option Addr) (c : Nat) (b : List UInt8) (sl : Value) (w : World) (h : StP L w x S) (hb : Bsl w w.heap.size a b.length c b) (hsl : BySl w sl iv tag) (hm : MayS S) (hbl : b.length = 256) (k : Nat) (hk : k < 256) (hz : mkT S.2.1 k = 0) (h0' : ∀ i, i < k → mkT S.2.1 i ≠ 0) (hgr : S.1.2.length < 4096) : Calls Tryz.prog 42 #[stV x S, .int .u32 birth, .slice a b.length c, sl] w (NewSP (putR (putS S birth iv tag b)) w) := by
  rw [putS_some hk hz h0' hgr]
  have hmx : Tryz.prog.follows Departure.mixedOrders = true := by kernel_rfl
  obtain ⟨w0, hw0, b0, z0, x0, y0, q0⟩ := three_al w (stC x S) stZ ptZ 30 30 32
  obtain ⟨g, hg⟩ : ∃ g, w.heap.size = g := ⟨_, rfl⟩
  obtain ⟨g1, hg1⟩ : ∃ g1, g + 1 = g1 := ⟨_, rfl⟩
  obtain ⟨g2, hg2⟩ : ∃ g2, g1 + 1 = g2 := ⟨_, rfl⟩
  have h0 := h.bel b0
  have hb0 := hb.step b0
  have hs0 := hsl.below b0
  rw [hg] at x0 y0 q0 z0 b0
  rw [hg1] at y0
  rw [show g + 2 = g1 + 1 by omega, hg2] at q0
  obtain ⟨sla, sln, slc, rfl⟩ := hsl.slice
  have HI := Lib.hid (show g ≤ g1 ∧ g ≤ g2 ∧ g1 ≠ g ∧ g2 ≠ g ∧ g2 ≠ g1 ∧ g1 ≠ g2 ∧ w0.heap.size = g + 3 by omega)
  have hle : S.2.1.length = 256 := hm.2.1.1
  have hwl : S.1.2.length ≤ 4096 := hm.1.2.1
  have c0 := stC0 x0
  have c1 := stC1 x0
  have c2 := stC2 x0
  have hsp := h0.now.2
  rw [hle] at c2 hsp
  have HX := Lib.hid x0
  have HY := Lib.hid y0
  have HQ := Lib.hid q0
  have HB := Lib.hid b0
  have HS := Lib.hid h0
  have HA := Lib.hid hb0
  have HY2 := Lib.hid hs0
  have HG := Lib.hid hg
  have HLE := Lib.hid hle
  have HMS := Lib.hid hm
  have HBL := Lib.hid hbl
  have HZ := Lib.hid (show g ≤ w0.heap.size by omega)
  simp only [stC, stZ, ptZ] at hw0
  clear h hb hsl h0 hb0 hs0 x0 y0 q0 b0 z0
  have HT := Lib.hid (spTake_ok x.a 256 x.c S.2.1 k w0 hsp HMS.out.2.1 hk hz h0')
  have hwo : writeO S.1 (k : Int) b = (withD S.1 (k : Int) b, 0) := by
    unfold writeO
    rw [if_pos hm.1, if_pos (by omega), if_pos hbl, if_neg (by omega)]
  have HWO := Lib.hid hwo
  have HKK := Lib.hid hk
  clear h0' hsp hle hwl hm hbl hk hz hgr hwo
  go_enter Tryz.func42, Tryz.ntmps42
  go_wp2_with fail
  clear hw0 c0 c1 c2
  refine HT.out.mono ?_
  rintro e w1 ⟨v, rfl, ho, b1⟩
  rw [show (S.2.1.set k 1).length = 256 by rw [List.length_set]; exact HLE.out] at ho
  obtain ⟨sa, sc, rfl⟩ := own_slice ho
  replace HX := Lib.hid (HX.out.below b1 HX.out.lt)
  replace HY := Lib.hid (HY.out.below b1 HY.out.lt)
  replace HQ := Lib.hid (HQ.out.below b1 HQ.out.lt)
  replace HS := Lib.hid (HS.out.bel b1)
  replace HA := Lib.hid (HA.out.step b1)
  replace HY2 := Lib.hid (HY2.out.below b1)
  replace HB := Lib.hid (HB.out.trans (b1.mono HZ.out))
  replace HZ := Lib.hid (Nat.le_trans HZ.out b1.size)
  have HO := Lib.hid ho
  have HZ1 := Lib.hid HZ.out
  clear b1 ho HT
  have c0 := stC0 HX.out
  have c1 := stC1 HX.out
  have hwr := dWrite_any x.d S.1 (k : Int) a b.length c b w1 HS.out.now.1 HA.out
  simp only [dval] at hwr
  rw [HWO.out] at hwr
  have HW := Lib.hid hwr
  clear hwr
  go_wp2_with fail
  clear c0 c1
  refine HW.out.mono ?_
  rintro e w2 ⟨y, rfl, hd, b2⟩
  simp only [dval]
  replace HX := Lib.hid (HX.out.below b2 HX.out.lt)
  replace HY := Lib.hid (HY.out.below b2 HY.out.lt)
  replace HQ := Lib.hid (HQ.out.below b2 HQ.out.lt)
  replace HA := Lib.hid (HA.out.step b2)
  replace HY2 := Lib.hid (HY2.out.below b2)
  replace HO := Lib.hid (own_below HO.out b2)
  replace HB := Lib.hid (HB.out.trans (b2.mono HZ.out))
  replace HZ := Lib.hid (Nat.le_trans HZ.out b2.size)
  have HD := Lib.hid hd
  obtain ⟨g3, hg3⟩ : ∃ g3, w2.heap.size = g3 := ⟨_, rfl⟩
  obtain ⟨g4, hg4⟩ : ∃ g4, g3 + 1 = g4 := ⟨_, rfl⟩
  obtain ⟨w3, hw3, b3, z3, k3, v3⟩ := two_al w2 #[.slice y.ba (withD S.1 (k : Int) b).1.length y.bc, .slice y.wa (withD S.1 (k : Int) b).2.length y.wc] #[.int .u32 0, .int .u32 0] 26 104
  rw [hg3] at k3 v3
  rw [hg4] at v3
  have HC0 := Lib.hid (show Blk ((w2.alloc (.cells #[.slice y.ba (withD S.1 (k : Int) b).1.length y.bc, .slice y.wa (withD S.1 (k : Int) b).2.length y.wc] 26)).alloc (.cells #[.int .u32 0, .int .u32 0] 104)) g4 104 #[.int .u32 0, .int .u32 0] by rw [hw3]; exact v3)
  have HSL := Lib.hid (show BySl ((w2.alloc (.cells #[.slice y.ba (withD S.1 (k : Int) b).1.length y.bc, .slice y.wa (withD S.1 (k : Int) b).2.length y.wc] 26)).alloc (.cells #[.int .u32 0, .int .u32 0] 104)) (.slice sla sln slc) iv tag by rw [hw3]; exact HY2.out.below b3)
  have HK := Lib.hid k3
  have HB3 := Lib.hid b3
  have HW3 := Lib.hid hw3
  have HG3 := Lib.hid (show w2.heap.size ≤ g4 ∧ g3 < g4 ∧ g1 < g3 ∧ g2 < g3 ∧ g < g3 by have := HY.out.lt; have := HQ.out.lt; have := HX.out.lt; omega)
  clear hd b2 HW b3 hw3 z3 k3 v3
  go_wp2_with (with_reducible refine atCopy2 ?_
               refine wpList_copy_two rfl (.tmp 34) (.tmp 35) rfl g4 (.slice sla sln slc) iv tag rfl rfl HSL.out HC0.out ?_
               intro m w4 hx4 hb4
               rw [HW3.out] at hb4
               have b4 := HB3.out.trans (hb4.mono HG3.out.1)
               replace HK := Lib.hid (HK.out.below hb4 HG3.out.2.1)
               have HV := Lib.hid hx4
               clear hb4 hx4)
  replace HX := Lib.hid (HX.out.below b4 HX.out.lt)
  replace HY := Lib.hid (HY.out.below b4 HY.out.lt)
  replace HQ := Lib.hid (HQ.out.below b4 HQ.out.lt)
  replace HA := Lib.hid (HA.out.step b4)
  replace HO := Lib.hid (own_below HO.out b4)
  replace HB := Lib.hid (HB.out.trans (b4.mono HZ.out))
  replace HZ := Lib.hid (Nat.le_trans HZ.out b4.size)
  have HD4 := Lib.hid (HD.out.below b4)
  clear b4 HD HB3 HC0 HSL HY2 HW3
  obtain ⟨wd, hwd⟩ : ∃ wd, w4.drew = wd := ⟨_, rfl⟩
  have bb : Below w4.heap.size w4 wd := by rw [← hwd]; exact (Below.refl _ w4).drew
  replace HX := Lib.hid (HX.out.below bb HX.out.lt)
  replace HY := Lib.hid (HY.out.below bb HY.out.lt)
  replace HQ := Lib.hid (HQ.out.below bb HQ.out.lt)
  replace HK := Lib.hid (HK.out.below bb HK.out.lt)
  replace HA := Lib.hid (HA.out.step bb)
  replace HO := Lib.hid (own_below HO.out bb)
  replace HB := Lib.hid (HB.out.trans (bb.mono HZ.out))
  replace HZ := Lib.hid (Nat.le_trans HZ.out bb.size)
  replace HV := Lib.hid (HV.out.below bb HV.out.lt)
  have HD := Lib.hid (HD4.out.below bb)
  clear bb HD4
  have hsu := sum_any a b.length c b wd HA.out (by have := HBL.out; omega)
  rw [show (fourW b).a.toNat = sumOf b from rfl] at hsu
  obtain ⟨sb, hsb⟩ : ∃ sb, sumOf b = sb := ⟨_, rfl⟩
  rw [hsb] at hsu
  have HSU := Lib.hid hsu
  have HSB := Lib.hid hsb
  have v0 : wd.cell? ⟨g4, 0, none⟩ = some (.int .u32 (iv : Int)) := HV.out.cell 0
  have v1 : wd.cell? ⟨g4, 1, none⟩ = some (.int .u32 (tag : Int)) := HV.out.cell 1
  have hv := And.intro v0 v1
  clear hsu hsb v0 v1
  refine wpI_start (fun X => X.cell? ⟨g4, 0, none⟩ = some (.int .u32 (iv : Int)) ∧ X.cell? ⟨g4, 1, none⟩ = some (.int .u32 (tag : Int))) [0, 1, 2, 3, 4, 5, 6, 7, 8, 9] hmx rfl hwd ?_
  clear hwd
  iterate 7 (
    refine wpI_read (v := ?_) hv rfl (by kernel_rfl) (by kernel_rfl) (by kernel_rfl) (fun _ _ _ h => h) (.inl ⟨by rfl, ?_⟩) ?_
    rotate_left
    · intro X hX
      obtain ⟨j0, j1⟩ := hX
      go_simp
      with_reducible rfl
    try simp only [Act.put, List.setIfInBounds_toArray, List.set_cons_zero, List.set_cons_succ])
  refine wpI_lone rfl (by kernel_rfl) (fun K hK => ?_)
  go_simp
  refine HSU.out.mono ?_
  rintro ev w5 ⟨rfl, b5⟩
  replace HX := Lib.hid (HX.out.below b5 HX.out.lt)
  replace HY := Lib.hid (HY.out.below b5 HY.out.lt)
  replace HQ := Lib.hid (HQ.out.below b5 HQ.out.lt)
  replace HK := Lib.hid (HK.out.below b5 HK.out.lt)
  replace HA := Lib.hid (HA.out.step b5)
  replace HO := Lib.hid (own_below HO.out b5)
  replace HD := Lib.hid (HD.out.below b5)
  replace HB := Lib.hid (HB.out.trans (b5.mono HZ.out))
  replace HZ := Lib.hid (Nat.le_trans HZ.out b5.size)
  replace HV := Lib.hid (HV.out.below b5 HV.out.lt)
  have v0 : w5.cell? ⟨g4, 0, none⟩ = some (.int .u32 (iv : Int)) := HV.out.cell 0
  have v1 : w5.cell? ⟨g4, 1, none⟩ = some (.int .u32 (tag : Int)) := HV.out.cell 1
  have hv5 := And.intro v0 v1
  refine hK _ _ hv5 ?_
  clear hK K b5 HSU hv v0 v1
  try simp only [Act.put, List.setIfInBounds_toArray, List.set_cons_zero, List.set_cons_succ]
  iterate 1 (
    refine wpI_read (v := ?_) hv5 rfl (by kernel_rfl) (by kernel_rfl) (by kernel_rfl) (fun _ _ _ h => h) (.inl ⟨by rfl, ?_⟩) ?_
    rotate_left
    · intro X hX
      obtain ⟨j0, j1⟩ := hX
      go_simp
      with_reducible rfl
    try simp only [Act.put, List.setIfInBounds_toArray, List.set_cons_zero, List.set_cons_succ])
  refine wpI_lone rfl (by kernel_rfl) (fun K hK => ?_)
  go_simp
  obtain ⟨q6, k6, b6⟩ := box_five (L := g) HQ.out (by decide) HI.out.2.1 HB.out HI.out.2.1 (.int .i64 (k : Int)) (.int .u32 (birth : Int)) (.int .u32 (iv : Int)) (.int .u32 (tag : Int)) (.int .u32 (sb : Int))
  have n0 := ptZ0 HQ.out
  have n1 := ptZ1 HQ.out
  have n2 := ptZ2 HQ.out
  have n3 := ptZ3 HQ.out
  have n4 := ptZ4 HQ.out
  have hfq := fun i => HQ.out.frozen i
  have x6 := far5_bl HX.out HI.out.2.2.2.1.symm (.int .i64 (k : Int)) (.int .u32 (birth : Int)) (.int .u32 (iv : Int)) (.int .u32 (tag : Int)) (.int .u32 (sb : Int))
  have y6 := far5_bl HY.out HI.out.2.2.2.2.2.1 (.int .i64 (k : Int)) (.int .u32 (birth : Int)) (.int .u32 (iv : Int)) (.int .u32 (tag : Int)) (.int .u32 (sb : Int))
  have t6 := far5_bl HK.out (show g3 ≠ g2 by have := HG3.out.2.2.2.1; omega) (.int .i64 (k : Int)) (.int .u32 (birth : Int)) (.int .u32 (iv : Int)) (.int .u32 (tag : Int)) (.int .u32 (sb : Int))
  have v6 := far5_bl HV.out (show g4 ≠ g2 by have := HG3.out; omega) (.int .i64 (k : Int)) (.int .u32 (birth : Int)) (.int .u32 (iv : Int)) (.int .u32 (tag : Int)) (.int .u32 (sb : Int))
  obtain ⟨w6, hw6⟩ : ∃ w6, set5 w5 g2 (.int .i64 (k : Int)) (.int .u32 (birth : Int)) (.int .u32 (iv : Int)) (.int .u32 (tag : Int)) (.int .u32 (sb : Int)) = w6 := ⟨_, rfl⟩
  rw [hw6] at q6 k6 b6 x6 y6 t6 v6
  replace HX := Lib.hid x6
  replace HY := Lib.hid y6
  replace HK := Lib.hid t6
  replace HQ := Lib.hid q6
  replace HB := Lib.hid b6
  replace HO := Lib.hid (own_keeps HO.out (by decide) k6)
  replace HD := Lib.hid (outD_keeps HD.out k6)
  replace HZ := Lib.hid (Nat.le_trans HZ.out k6.size)
  have v0 : w6.cell? ⟨g4, 0, none⟩ = some (.int .u32 (iv : Int)) := v6.cell 0
  have v1 : w6.cell? ⟨g4, 1, none⟩ = some (.int .u32 (tag : Int)) := v6.cell 1
  have hv6 := And.intro v0 v1
  simp only [set5] at hw6
  clear q6 k6 b6 x6 y6 t6 v6 v0 v1 HV
  go_simp
  refine hK _ _ hv6 ?_
  clear hK K n0 n1 n2 n3 n4 hfq hv6 hw6 hv5
  try simp only [Act.put, List.setIfInBounds_toArray, List.set_cons_zero, List.set_cons_succ]
  refine wpI_done (by kernel_rfl) ?_
  have c0 := stC0 HX.out
  have c1 := stC1 HX.out
  have c2 := stC2 HX.out
  have c3 := stC3 HX.out
  have c4 := stC4 HX.out
  have t0 : w6.cell? ⟨g3, 0, none⟩ = some (.slice y.ba (withD S.1 (k : Int) b).1.length y.bc) := HK.out.cell 0
  have t1 : w6.cell? ⟨g3, 1, none⟩ = some (.slice y.wa (withD S.1 (k : Int) b).2.length y.wc) := HK.out.cell 1
  have hwi := stWith_any x S y (withD S.1 (k : Int) b) sa 256 sc w6
  simp only [dval] at hwi
  have HWI := Lib.hid hwi
  clear hwi
  go_wp2_with fail
  clear c0 c1 c2 c3 c4 t0 t1
  refine HWI.out.mono ?_
  rintro ev w7 ⟨rfl, b7⟩
  replace HY := Lib.hid (HY.out.below b7 HY.out.lt)
  replace HQ := Lib.hid (HQ.out.below b7 HQ.out.lt)
  replace HO := Lib.hid (own_below HO.out b7)
  replace HD := Lib.hid (HD.out.below b7)
  replace HB := Lib.hid (HB.out.trans (b7.mono HZ.out))
  replace HZ := Lib.hid (Nat.le_trans HZ.out b7.size)
  clear b7 HWI
  obtain ⟨y8, k8, b8⟩ := box_five (L := g) HY.out (by decide) HI.out.1 HB.out HI.out.1 (.slice y.ba (withD S.1 (k : Int) b).1.length y.bc) (.slice y.wa (withD S.1 (k : Int) b).2.length y.wc) (.slice sa 256 sc) (.int .u32 (S.2.2.1 : Int)) (.int .u32 (S.2.2.2 : Int))
  have q8 := far5_bl HQ.out HI.out.2.2.2.2.1 (.slice y.ba (withD S.1 (k : Int) b).1.length y.bc) (.slice y.wa (withD S.1 (k : Int) b).2.length y.wc) (.slice sa 256 sc) (.int .u32 (S.2.2.1 : Int)) (.int .u32 (S.2.2.2 : Int))
  have m0 := stZ0 HY.out
  have m1 := stZ1 HY.out
  have m2 := stZ2 HY.out
  have m3 := stZ3 HY.out
  have m4 := stZ4 HY.out
  have hfy := fun i => HY.out.frozen i
  obtain ⟨w8, hw8⟩ : ∃ w8, set5 w7 g1 (.slice y.ba (withD S.1 (k : Int) b).1.length y.bc) (.slice y.wa (withD S.1 (k : Int) b).2.length y.wc) (.slice sa 256 sc) (.int .u32 (S.2.2.1 : Int)) (.int .u32 (S.2.2.2 : Int)) = w8 := ⟨_, rfl⟩
  rw [hw8] at y8 k8 b8 q8
  have H8 := Lib.hid (newS_of (B'' := w.heap.size) HD.out HO.out (show (S.2.1.set k 1).length = 256 by rw [List.length_set]; exact HLE.out) (k8.more (Nat.zero_le _)) (k8.more (Nat.zero_le _)) (by rw [HG.out]; exact HZ1.out) (by rw [HG.out, HI.out.2.2.2.2.2.2]; omega) S.2.2.1 S.2.2.2)
  have HY8 := Lib.hid y8
  have HQ8 := Lib.hid q8
  have HB8 := Lib.hid b8
  simp only [set5] at hw8
  clear y8 k8 b8 q8
  go_wp2_with fail
  clear m0 m1 m2 m3 m4 hfy hw8
  have e0 := bx0 HY8.out
  have e1 := bx1 HY8.out
  have e2 := bx2 HY8.out
  have e3 := bx3 HY8.out
  have e4 := bx4 HY8.out
  have f0 := bx0 HQ8.out
  have f1 := bx1 HQ8.out
  have f2 := bx2 HQ8.out
  have f3 := bx3 HQ8.out
  have f4 := bx4 HQ8.out
  refine bodyPost_ret (v := .tuple #[.agg #[.slice y.ba (withD S.1 (k : Int) b).1.length y.bc, .slice y.wa (withD S.1 (k : Int) b).2.length y.wc, .slice sa 256 sc, .int .u32 (S.2.2.1 : Int), .int .u32 (S.2.2.2 : Int)], .agg #[.int .i64 (k : Int), .int .u32 (birth : Int), .int .u32 (iv : Int), .int .u32 (tag : Int), .int .u32 (sb : Int)], .int .i64 0]) (by simp [results, Tryz.f42, go_sem, e0, e1, e2, e3, e4, f0, f1, f2, f3, f4]) rfl ?_
  refine ⟨⟨y, sa, sc⟩, ?_, H8.out.1, H8.out.2, by rw [HG.out]; exact HB8.out⟩
  simp only [putR, stV, ptV]
  rw [show (S.2.1.set k 1).length = 256 by rw [List.length_set]; exact HLE.out, HSB.out]
  rfl
end Go.Proofs.YtbggkfomfeeikaaGreatDoor
/-
  Store's own: Lay, Raw, Seal; what they answer is new memory, and nothing that was there is written.
-/
namespace Go.Proofs.YtbggkfomfeeikaaGreatDoor
open Go.RowKit Go.Shelf
set_option maxRecDepth 100000

theorem Piece.keeps {L : Nat} {w w' : World} {B : Nat} {A : Option Addr} {l : Nat} (h : Piece w B A l) (k : Keeps L w w') : Piece w' B A l := h.imp id fun ⟨b, off, cs, e, hB, hb, hc⟩ => ⟨b, off, cs, e, hB, k.row _ _ _ hb (by decide), hc⟩
theorem Piece.lower {w : World} {B B' : Nat} {A : Option Addr} {l : Nat} (h : Piece w B A l) (hB : B' ≤ B) : Piece w B' A l := h.imp id fun ⟨b, off, cs, e, h1, hb, hc⟩ => ⟨b, off, cs, e, Nat.le_trans hB h1, hb, hc⟩
theorem Rows9.keeps {K : Nat} {w w' : World} {B : Nat} {a : Option Addr} {n : Nat} {t : TypeId} {st at_ : Nat} {L : Nat → Nat} (h : Rows9 w B a n t st at_ L) (ht : rowT t = true) (k : Keeps K w w') : Rows9 w' B a n t st at_ L :=
  h.imp id fun ⟨b, off, cs, e, hb, hc⟩ => ⟨b, off, cs, e, k.row _ _ _ hb ht, fun i hi => by
    obtain ⟨A, c, h1, h2⟩ := hc i hi
    exact ⟨A, c, h1, h2.keeps k⟩⟩
theorem Rows9.lower {w : World} {B B' : Nat} {a : Option Addr} {n : Nat} {t : TypeId} {st at_ : Nat} {L : Nat → Nat} (h : Rows9 w B a n t st at_ L) (hB : B' ≤ B) : Rows9 w B' a n t st at_ L :=
  h.imp id fun ⟨b, off, cs, e, hb, hc⟩ => ⟨b, off, cs, e, hb, fun i hi => by
    obtain ⟨A, c, h1, h2⟩ := hc i hi
    exact ⟨A, c, h1, h2.lower hB⟩⟩
theorem HiS.keeps {K B : Nat} {w w' : World} {x : SAt} {S : StL} (h : HiS w B x S) (k : Keeps K w w') : HiS w' B x S := ⟨h.1.keeps (by decide) k, h.2.1.keeps (by decide) k, h.2.2.keeps k⟩
theorem HiS.lower {B B' : Nat} {w : World} {x : SAt} {S : StL} (h : HiS w B x S) (hB : B' ≤ B) : HiS w B' x S := ⟨h.1.lower hB, h.2.1.lower hB, h.2.2.lower hB⟩
theorem stLaid_any (L : Nat) (x : SAt) (S : StL) (birth iv tag : Nat) (a : Option Addr) (c : Nat) (b : List UInt8) (sl : Value) (w : World) (h : StP L w x S) (hb : Bsl w w.heap.size a b.length c b) (hsl : BySl w sl iv tag) (hm : MayS S) (hbl : b.length = 256) :
    Calls Tryz.prog 42 #[stV x S, .int .u32 birth, .slice a b.length c, sl] w (NewSP (putR (putS S birth iv tag b)) w) := by
  rcases first_from (fun i => mkT S.2.1 i = 0) 0 256 with ⟨k, _, hk, hz, h0⟩ | h0
  · rcases Nat.lt_or_ge S.1.2.length 4096 with hw | hw
    · exact stLaid_ok L x S birth iv tag a c b sl w h hb hsl hm hbl k hk hz (fun i hi => h0 i (Nat.zero_le _) hi) hw
    · exact stLaid_great L x S birth iv tag a c b sl w h hb hsl hm hbl k hk hz (fun i hi => h0 i (Nat.zero_le _) hi) hw
  · exact stLaid_full L x S birth iv tag a c b sl w h hb hsl hm hbl (fun i hi => h0 i (Nat.zero_le _) hi)
theorem rawO_wrong {S : StL} {birth iv tag z : Nat} {b : List UInt8} (h : wrongO S birth b.length = z) (hz : z ≠ 0) : rawO S birth iv tag b = (st0, p0, z) := by
  unfold wrongO at h
  unfold rawO
  split at h
  · rw [if_pos (by assumption)]
    split at h
    · rw [if_pos (by assumption)]
      split at h
      · exact absurd h.symm hz
      · rw [if_neg (by assumption), ← h]
    · rw [if_neg (by assumption), ← h]
  · rw [if_neg (by assumption), ← h]
theorem wrongO_no {S : StL} {birth n : Nat} (h : wrongO S birth n = 0) : MayS S ∧ (1 ≤ birth ∧ birth ≤ 16777215) ∧ n = 256 := by
  unfold wrongO at h
  split at h
  · split at h
    · split at h
      · exact ⟨by assumption, by assumption, by assumption⟩
      · cases h
    · cases h
  · cases h
theorem rawO_right {S : StL} {birth iv tag : Nat} {b : List UInt8} (h : wrongO S birth b.length = 0) : rawO S birth iv tag b = putR (putS S birth iv tag b) := by
  obtain ⟨h1, h2, h3⟩ := wrongO_no h
  unfold rawO
  rw [if_pos h1, if_pos h2, if_pos h3]
set_option maxHeartbeats 4000000 in
theorem stLay_any (L : Nat) (x : SAt) (S : StL) (birth : Nat) (a : Option Addr) (c : Nat) (b : List UInt8) (w : World) (h : StP L w x S) (hb : Bsl w w.heap.size a b.length c b) (_ho : OkS S) (hL : L ≤ w.heap.size) (_hbi : birth < 4294967296) : Calls Tryz.prog 24 #[stV x S, .int .u32 birth, .slice a b.length c] w (NewSP (rawO S birth 0 0 b) w) := by
  obtain ⟨o, ho'⟩ : ∃ o, rawO S birth 0 0 b = o := ⟨_, rfl⟩
  obtain ⟨w0, hw0, b0, z0, x0, y0, q0⟩ := three_al w (stC x S) stZ ptZ 30 30 32
  obtain ⟨g, hg⟩ : ∃ g, w.heap.size = g := ⟨_, rfl⟩
  obtain ⟨g1, hg1⟩ : ∃ g1, g + 1 = g1 := ⟨_, rfl⟩
  obtain ⟨g2, hg2⟩ : ∃ g2, g1 + 1 = g2 := ⟨_, rfl⟩
  have h0 := h.bel b0
  have hb0 := hb.step b0
  have _ := hL
  rw [hg] at x0 y0 q0 z0 b0
  rw [hg1] at y0
  rw [show g + 2 = g1 + 1 by omega, hg2] at q0
  have HI := Lib.hid (show g ≤ g1 ∧ g ≤ g2 ∧ g1 ≠ g ∧ g2 ≠ g ∧ g2 ≠ g1 ∧ g1 ≠ g2 ∧ w0.heap.size = g + 3 by omega)
  have c0 := stC0 x0
  have c1 := stC1 x0
  have c2 := stC2 x0
  have c3 := stC3 x0
  have c4 := stC4 x0
  have HX := Lib.hid x0
  have HY := Lib.hid y0
  have HQ := Lib.hid q0
  have HB := Lib.hid b0
  have HS := Lib.hid h0
  have HA := Lib.hid hb0
  have HG := Lib.hid hg
  have HZ := Lib.hid (show g ≤ w0.heap.size by omega)
  have HOO := Lib.hid ho'
  rw [ho']
  obtain ⟨z, hz⟩ : ∃ z, wrongO S birth b.length = z := ⟨_, rfl⟩
  have HZZ := Lib.hid hz
  have HWR := Lib.hid (stWrong_any L x S birth a b.length c w0 h0 z hz)
  simp only [stC, stZ, ptZ] at hw0
  clear h hb h0 hb0 x0 y0 q0 b0 z0 ho' hz hL
  by_cases hz0 : z = 0
  · subst hz0
    have hoo := HOO.out
    rw [rawO_right HZZ.out] at hoo
    obtain ⟨hms, hbr, hbl⟩ := wrongO_no HZZ.out
    have HMS := Lib.hid hms
    have HBL := Lib.hid hbl
    have HO := Lib.hid hoo
    clear hoo hms hbr hbl
    have e1 : (((0 : Nat) : Int) != 0) = false := rfl
    go_enter Tryz.func24, Tryz.ntmps24
    go_wp2_with fail
    clear c0 c1 c2 c3 c4 hw0
    refine HWR.out.mono ?_
    rintro e w1 ⟨rfl, b1⟩
    replace HX := Lib.hid (HX.out.below b1 HX.out.lt)
    replace HY := Lib.hid (HY.out.below b1 HY.out.lt)
    replace HQ := Lib.hid (HQ.out.below b1 HQ.out.lt)
    replace HS := Lib.hid (HS.out.bel b1)
    replace HA := Lib.hid (HA.out.step b1)
    replace HB := Lib.hid (HB.out.trans (b1.mono HZ.out))
    replace HZ := Lib.hid (Nat.le_trans HZ.out b1.size)
    have c0 := stC0 HX.out
    have c1 := stC1 HX.out
    have c2 := stC2 HX.out
    have c3 := stC3 HX.out
    have c4 := stC4 HX.out
    have hld := stLaid_any L x S birth 0 0 a c b (.slice none 0 0) w1 HS.out HA.out (.inl ⟨rfl, rfl, rfl⟩) HMS.out HBL.out
    rw [HO.out] at hld
    have HLD := Lib.hid hld
    clear hld b1 HWR
    go_wp2_with fail
    clear c0 c1 c2 c3 c4
    obtain ⟨T, ⟨pa, pb, pi, pt, ps⟩, ze⟩ := o
    simp only [stV] at HLD
    refine HLD.out.mono ?_
    rintro ev w9 ⟨y, rfl, ht, hh, b9⟩
    replace HY := Lib.hid (HY.out.below b9 HY.out.lt)
    replace HQ := Lib.hid (HQ.out.below b9 HQ.out.lt)
    replace HB := Lib.hid (HB.out.trans (b9.mono HZ.out))
    have HT := Lib.hid ht
    have HH := Lib.hid (hh.lower (Nat.le_refl _))
    clear ht hh b9 HLD
    obtain ⟨ya, ka, ba⟩ := box_five (L := g) HY.out (by decide) HI.out.1 HB.out HI.out.1 (.slice y.d.ba T.1.1.length y.d.bc) (.slice y.d.wa T.1.2.length y.d.wc) (.slice y.a T.2.1.length y.c) (.int .u32 (T.2.2.1 : Int)) (.int .u32 (T.2.2.2 : Int))
    have qa := far5_bl HQ.out HI.out.2.2.2.2.1 (.slice y.d.ba T.1.1.length y.d.bc) (.slice y.d.wa T.1.2.length y.d.wc) (.slice y.a T.2.1.length y.c) (.int .u32 (T.2.2.1 : Int)) (.int .u32 (T.2.2.2 : Int))
    have m0 := stZ0 HY.out
    have m1 := stZ1 HY.out
    have m2 := stZ2 HY.out
    have m3 := stZ3 HY.out
    have m4 := stZ4 HY.out
    have hfy := fun i => HY.out.frozen i
    obtain ⟨wa, hwa⟩ : ∃ wa, set5 w9 g1 (.slice y.d.ba T.1.1.length y.d.bc) (.slice y.d.wa T.1.2.length y.d.wc) (.slice y.a T.2.1.length y.c) (.int .u32 (T.2.2.1 : Int)) (.int .u32 (T.2.2.2 : Int)) = wa := ⟨_, rfl⟩
    rw [hwa] at ya ka ba qa
    obtain ⟨qb, kb, bb⟩ := box_five (L := g) qa (by decide) HI.out.2.1 ba HI.out.2.1 (.int .i64 pa) (.int .u32 (pb : Int)) (.int .u32 (pi : Int)) (.int .u32 (pt : Int)) (.int .u32 (ps : Int))
    have yb := far5_bl ya HI.out.2.2.2.2.2.1 (.int .i64 pa) (.int .u32 (pb : Int)) (.int .u32 (pi : Int)) (.int .u32 (pt : Int)) (.int .u32 (ps : Int))
    have n0 := ptZ0 qa
    have n1 := ptZ1 qa
    have n2 := ptZ2 qa
    have n3 := ptZ3 qa
    have n4 := ptZ4 qa
    have hfq := fun i => qa.frozen i
    obtain ⟨wb, hwb⟩ : ∃ wb, set5 wa g2 (.int .i64 pa) (.int .u32 (pb : Int)) (.int .u32 (pi : Int)) (.int .u32 (pt : Int)) (.int .u32 (ps : Int)) = wb := ⟨_, rfl⟩
    rw [hwb] at qb kb bb yb
    have HKK := Lib.hid (ka.trans kb)
    have HBF := Lib.hid bb
    have HYF := Lib.hid yb
    have HQF := Lib.hid qb
    simp only [set5] at hwa hwb
    clear ya ka ba qa qb kb bb yb
    go_wp2_with fail
    clear m0 m1 m2 m3 m4 n0 n1 n2 n3 n4 hfy hfq hwa hwb
    have e0 := bx0 HYF.out
    have e1 := bx1 HYF.out
    have e2 := bx2 HYF.out
    have e3 := bx3 HYF.out
    have e4 := bx4 HYF.out
    have f0 := bx0 HQF.out
    have f1 := bx1 HQF.out
    have f2 := bx2 HQF.out
    have f3 := bx3 HQF.out
    have f4 := bx4 HQF.out
    refine bodyPost_ret (v := .tuple #[.agg #[.slice y.d.ba T.1.1.length y.d.bc, .slice y.d.wa T.1.2.length y.d.wc, .slice y.a T.2.1.length y.c, .int .u32 (T.2.2.1 : Int), .int .u32 (T.2.2.2 : Int)], .agg #[.int .i64 pa, .int .u32 (pb : Int), .int .u32 (pi : Int), .int .u32 (pt : Int), .int .u32 (ps : Int)], .int .i64 ze]) (by simp [results, Tryz.f24, go_sem, e0, e1, e2, e3, e4, f0, f1, f2, f3, f4]) rfl ?_
    exact ⟨y, rfl, HT.out.step (HKK.out.more (Nat.zero_le _)), (HH.out.keeps HKK.out).lower (by rw [HG.out]; exact HZ.out), by rw [HG.out]; exact HBF.out⟩
  · have hoo := HOO.out
    rw [rawO_wrong HZZ.out hz0] at hoo
    subst hoo
    have e1 : ((z : Int) != 0) = true := by simp; omega
    have e2 : ¬ ((z : Int) = 0) := by omega
    clear hz0
    go_enter Tryz.func24, Tryz.ntmps24
    go_wp2_with fail
    clear c0 c1 c2 c3 c4 hw0
    refine HWR.out.mono ?_
    rintro e w1 ⟨rfl, b1⟩
    replace HX := Lib.hid (HX.out.below b1 HX.out.lt)
    replace HY := Lib.hid (HY.out.below b1 HY.out.lt)
    replace HQ := Lib.hid (HQ.out.below b1 HQ.out.lt)
    replace HS := Lib.hid (HS.out.bel b1)
    replace HA := Lib.hid (HA.out.step b1)
    replace HB := Lib.hid (HB.out.trans (b1.mono HZ.out))
    replace HZ := Lib.hid (Nat.le_trans HZ.out b1.size)
    clear b1
    have m0 := stZ0 HY.out
    have m1 := stZ1 HY.out
    have m2 := stZ2 HY.out
    have m3 := stZ3 HY.out
    have m4 := stZ4 HY.out
    have n0 := ptZ0 HQ.out
    have n1 := ptZ1 HQ.out
    have n2 := ptZ2 HQ.out
    have n3 := ptZ3 HQ.out
    have n4 := ptZ4 HQ.out
    go_wp2_with fail
    refine bodyPost_ret (v := .tuple #[.agg #[.slice none 0 0, .slice none 0 0, .slice none 0 0, .int .u32 0, .int .u32 0], .agg #[.int .i64 0, .int .u32 0, .int .u32 0, .int .u32 0, .int .u32 0], .int .i64 z]) (by simp [results, Tryz.f24, go_sem, m0, m1, m2, m3, m4, n0, n1, n2, n3, n4]) rfl ?_
    exact newSP_zero z (by rw [HG.out]; exact HB.out)
end Go.Proofs.YtbggkfomfeeikaaGreatDoor
/-
  Store's own: Look, Open; what they answer is new memory, and nothing that was there is written.
-/
namespace Go.Proofs.YtbggkfomfeeikaaGreatDoor
open Go.RowKit Go.Shelf
set_option maxRecDepth 100000

theorem wrongPO_no {S : StL} {p : Pt} (h : wrongPO S p = 0) : MayS S ∧ MayP p ∧ p ≠ p0 := by
  unfold wrongPO at h
  split at h
  · rename_i hm
    split at h
    · cases h
    · exact ⟨hm.1, hm.2, by assumption⟩
  · cases h
theorem lookO_wrong {S : StL} {p : Pt} {z : Nat} (h : wrongPO S p = z) (hz : z ≠ 0) : lookO S p = ([], z) := by
  unfold wrongPO at h
  unfold lookO
  split at h
  · rw [if_pos (by assumption)]
    split at h
    · unfold seenO
      rw [if_pos (by assumption), ← h]
    · exact absurd h.symm hz
  · rw [if_neg (by assumption), ← h]
set_option maxHeartbeats 4000000 in
theorem stLook_all (L : Nat) (x : SAt) (S : StL) (p : Pt) (w : World) (h : StP L w x S) (_hwp : WfP p) (_hL : L ≤ w.heap.size) : Calls Tryz.prog 54 #[stV x S, ptV p] w (OutBE (lookO S p) w) := by
  have hmx : Tryz.prog.follows Departure.mixedOrders = true := by kernel_rfl
  obtain ⟨w0, hw0, b0, z0, x0, q0⟩ := two_al w (stC x S) (ptA p) 30 32
  obtain ⟨g, hg⟩ : ∃ g, w.heap.size = g := ⟨_, rfl⟩
  obtain ⟨g1, hg1⟩ : ∃ g1, g + 1 = g1 := ⟨_, rfl⟩
  have h0 := h.bel b0
  rw [hg] at x0 q0 z0 b0
  rw [hg1] at q0
  have c0 := stC0 x0
  have c1 := stC1 x0
  have c2 := stC2 x0
  have c3 := stC3 x0
  have c4 := stC4 x0
  have d0 := bx0 q0
  have d1 := bx1 q0
  have d2 := bx2 q0
  have d3 := bx3 q0
  have d4 := bx4 q0
  have HX := Lib.hid x0
  have HQ := Lib.hid q0
  have HB := Lib.hid b0
  have HS := Lib.hid h0
  have HG := Lib.hid hg
  have HW := Lib.hid (show g ≤ w0.heap.size by omega)
  simp only [stC, ptA] at hw0
  clear h h0 x0 q0 b0 z0
  obtain ⟨z, hz⟩ : ∃ z, wrongPO S p = z := ⟨_, rfl⟩
  have HWR := Lib.hid (stWrongPtr_any L x S p w0 HS.out z hz)
  obtain ⟨o, ho⟩ : ∃ o, lookO S p = o := ⟨_, rfl⟩
  rw [ho]
  by_cases hz0 : z = 0
  · subst hz0
    obtain ⟨hm, hmp, hp⟩ := wrongPO_no hz
    rw [lookO_may hm hmp] at ho
    unfold seenO at ho
    rw [if_neg hp] at ho
    obtain ⟨k, hk, k12, k256⟩ := mayP_at hmp hp
    have hkt : p.1.toNat = k := by omega
    rw [hkt] at ho
    have hln := leftD_length hm.1 (fun _ => true) k256
    obtain ⟨B, hBk⟩ : ∃ B, seenS S k = B := ⟨_, rfl⟩
    have hln2 : B.length = 256 := by rw [← hBk]; exact hln
    rw [hBk] at ho
    have HOO := Lib.hid ho
    have hrd : readO S.1 (k : Int) = (B, 0) := by
      unfold readO
      rw [if_pos hm.1, if_pos (by omega), Int.toNat_natCast, ← hBk]
      rfl
    have hsn : ∀ W, StP L W x S → Calls Tryz.prog 80 #[dval x.d S.1, .int .i64 (k : Int)] W (ToldL (B, 0) W) := fun W hs => by
      have := dRead_any x.d S.1 (k : Int) W hs.now.1
      rw [hrd] at this
      exact this
    simp only [dval] at hsn
    have HSN := Lib.hid hsn
    have HL2 := Lib.hid hln2
    have HKK := Lib.hid hk
    clear hm hmp hp hz hk hkt hln hsn hln2 hBk ho hrd
    go_enter Tryz.func54, Tryz.ntmps54
    go_wp2_with fail
    clear c0 c1 c2 c3 c4 d0 d1 d2 d3 d4 hw0
    refine HWR.out.mono ?_
    rintro e w1 ⟨rfl, b1⟩
    replace HX := Lib.hid (HX.out.below b1 HX.out.lt)
    replace HQ := Lib.hid (HQ.out.below b1 HQ.out.lt)
    replace HS := Lib.hid (HS.out.bel b1)
    replace HB := Lib.hid (HB.out.trans (b1.mono HW.out))
    replace HW := Lib.hid (Nat.le_trans HW.out b1.size)
    clear b1 HWR
    have c0 := stC0 HX.out
    have c1 := stC1 HX.out
    have d0 := bx0 HQ.out
    rw [HKK.out] at d0
    go_wp2_with fail
    clear c0 c1 d0
    refine (HSN.out w1 HS.out).mono ?_
    rintro e w2 ⟨v, rfl, ho, b2⟩
    simp only at ho
    rw [HL2.out] at ho
    obtain ⟨ab, cb, rfl⟩ := own_slice ho
    have HO := Lib.hid (own_mono ho HW.out)
    replace HX := Lib.hid (HX.out.below b2 HX.out.lt)
    replace HQ := Lib.hid (HQ.out.below b2 HQ.out.lt)
    replace HS := Lib.hid (HS.out.bel b2)
    replace HB := Lib.hid (HB.out.trans (b2.mono HW.out))
    replace HW := Lib.hid (Nat.le_trans HW.out b2.size)
    clear b2 ho HSN
    go_wp2_with fail
    obtain ⟨wd, hwd⟩ : ∃ wd, w2.drew = wd := ⟨_, rfl⟩
    have bb : Below w2.heap.size w2 wd := by rw [← hwd]; exact (Below.refl _ w2).drew
    replace HO := Lib.hid (own_below HO.out bb)
    replace HX := Lib.hid (HX.out.below bb HX.out.lt)
    replace HQ := Lib.hid (HQ.out.below bb HQ.out.lt)
    replace HS := Lib.hid (HS.out.bel bb)
    replace HB := Lib.hid (HB.out.trans (bb.mono HW.out))
    replace HW := Lib.hid (Nat.le_trans HW.out bb.size)
    clear bb
    have hsu := sum_any ab 256 cb B wd (own_bsl HO.out) (by omega)
    rw [show (fourW B).a.toNat = sumOf B from rfl] at hsu
    have hc4 := bx4 HQ.out
    obtain ⟨u, hu⟩ : ∃ u : Nat, p.2.2.2.2 = u := ⟨_, rfl⟩
    obtain ⟨m, hmm⟩ : ∃ m : Nat, sumOf B = m := ⟨_, rfl⟩
    rw [hu] at hc4
    rw [hmm] at hsu
    have HSU := Lib.hid hsu
    have HO5 := HOO.out
    rw [hu, hmm] at HO5
    refine wpI_start (fun X => X.cell? ⟨g1, 4, none⟩ = some (.int .u32 (u : Int))) [0, 2, 3, 1, 4] hmx rfl hwd ?_
    clear hu hmm hwd hsu
    have HO5' := Lib.hid HO5
    clear HO5
    iterate 3 (
      refine wpI_read (v := ?_) hc4 rfl (by kernel_rfl) (by kernel_rfl) (by kernel_rfl) (fun _ _ _ h => h) (.inl ⟨by rfl, ?_⟩) ?_
      rotate_left
      · intro X hX
        go_simp
        with_reducible rfl
      try simp only [Act.put, List.setIfInBounds_toArray, List.set_cons_zero, List.set_cons_succ])
    refine wpI_lone rfl (by kernel_rfl) (fun K hK => ?_)
    go_simp
    refine HSU.out.mono ?_
    rintro ev w3 ⟨rfl, b3⟩
    have hc5 : w3.cell? ⟨g1, 4, none⟩ = some (.int .u32 (u : Int)) := (b3.cell (p := ⟨g1, 4, none⟩) HQ.out.lt).trans hc4
    replace HO := Lib.hid (own_below HO.out b3)
    replace HX := Lib.hid (HX.out.below b3 HX.out.lt)
    replace HQ := Lib.hid (HQ.out.below b3 HQ.out.lt)
    replace HS := Lib.hid (HS.out.bel b3)
    replace HB := Lib.hid (HB.out.trans (b3.mono HW.out))
    replace HW := Lib.hid (Nat.le_trans HW.out b3.size)
    refine hK _ _ hc5 ?_
    clear hK K hc4 b3 HSU
    try simp only [Act.put, List.setIfInBounds_toArray, List.set_cons_zero, List.set_cons_succ]
    by_cases hmu : m = u
    · have HO5 := HO5'.out
      rw [if_pos hmu] at HO5
      subst HO5
      have he : ((m : Int) != (u : Int)) = false := by simp; omega
      clear hmu
      iterate 1 (
        refine wpI_read (v := ?_) hc5 rfl (by kernel_rfl) (by kernel_rfl) (by kernel_rfl) (fun _ _ _ h => h) (.inl ⟨by rfl, ?_⟩) ?_
        rotate_left
        · intro X hX
          go_simp
          with_reducible rfl
        try simp only [Act.put, List.setIfInBounds_toArray, List.set_cons_zero, List.set_cons_succ])
      refine wpI_done (by kernel_rfl) ?_
      clear he hc5
      go_wp2_with fail
      go_ret2
      exact ⟨_, rfl, by rw [HG.out, HL2.out]; exact HO.out, by rw [HG.out]; exact HB.out⟩
    · have HO5 := HO5'.out
      rw [if_neg hmu] at HO5
      subst HO5
      have he : ((m : Int) != (u : Int)) = true := by simp; omega
      clear hmu
      iterate 1 (
        refine wpI_read (v := ?_) hc5 rfl (by kernel_rfl) (by kernel_rfl) (by kernel_rfl) (fun _ _ _ h => h) (.inl ⟨by rfl, ?_⟩) ?_
        rotate_left
        · intro X hX
          go_simp
          with_reducible rfl
        try simp only [Act.put, List.setIfInBounds_toArray, List.set_cons_zero, List.set_cons_succ])
      refine wpI_done (by kernel_rfl) ?_
      clear he hc5
      go_wp2_with fail
      go_ret2
      exact outBE_no 130 (by rw [HG.out]; exact HB.out)
  · rw [lookO_wrong hz hz0] at ho
    subst ho
    have e1 : ((z : Int) != 0) = true := by simp; omega
    have e2 : ¬ ((z : Int) = 0) := by omega
    clear hz hz0
    go_enter Tryz.func54, Tryz.ntmps54
    go_wp2_with fail
    clear c0 c1 c2 c3 c4 d0 d1 d2 d3 d4 hw0
    refine HWR.out.mono ?_
    rintro e w1 ⟨rfl, b1⟩
    replace HX := Lib.hid (HX.out.below b1 HX.out.lt)
    replace HQ := Lib.hid (HQ.out.below b1 HQ.out.lt)
    replace HS := Lib.hid (HS.out.bel b1)
    replace HB := Lib.hid (HB.out.trans (b1.mono HW.out))
    replace HW := Lib.hid (Nat.le_trans HW.out b1.size)
    clear b1 HWR
    go_wp2_with fail
    go_ret2
    exact outBE_no z (by rw [HG.out]; exact HB.out)
end Go.Proofs.YtbggkfomfeeikaaGreatDoor
/-
  Store's own: Same, New; with Lay, Raw, Seal, Look, Open, Give, Twin, Check all that layer 13 tells.
-/
namespace Go.Proofs.YtbggkfomfeeikaaGreatDoor
open Go.RowKit Go.Shelf
set_option maxRecDepth 100000

set_option maxHeartbeats 1000000 in
theorem stNew_any (w : World) : Calls Tryz.prog 26 #[] w (NewS newS w) := by
  have xb := Blk.new w 30 stZ
  have b0 := (Below.refl w.heap.size w).alloc (Nat.le_refl _) (.cells stZ 30)
  obtain ⟨w0, hw0⟩ : ∃ w0, w.alloc (.cells stZ 30) = w0 := ⟨_, rfl⟩
  rw [hw0] at xb b0
  obtain ⟨g, hg⟩ : ∃ g, w.heap.size = g := ⟨_, rfl⟩
  rw [hg] at xb b0
  have HG := Lib.hid hg
  have HX := Lib.hid xb
  have HB := Lib.hid b0
  have HW := Lib.hid (show g ≤ w0.heap.size by rw [← hg]; rw [← hw0, World.size_alloc]; omega)
  have HN := Lib.hid (dNew_any w0)
  simp only [stZ] at hw0
  clear xb b0
  go_enter Tryz.func26, Tryz.ntmps26
  go_wp2_with fail
  refine HN.out.mono ?_
  rintro e w1 ⟨y, rfl, hd, b1⟩
  replace HX := Lib.hid (HX.out.below b1 HX.out.lt)
  replace HB := Lib.hid (HB.out.trans (b1.mono HW.out))
  have HD := Lib.hid (show OutD w1 w0.heap.size y newD from .inr hd)
  have HW1 := Lib.hid (Nat.le_trans HW.out b1.size)
  clear hd b1 HN hw0
  simp only [dval, show newD.1.length = 256 from newD_len, show newD.2.length = 0 from rfl]
  have HN2 := Lib.hid (spNew_any w1)
  go_wp2_with fail
  refine HN2.out.mono ?_
  rintro e w2 ⟨v, rfl, ho, b2⟩
  obtain ⟨a, c, rfl⟩ := own_slice ho
  have x2 := HX.out.below b2 HX.out.lt
  have HD2 := Lib.hid (HD.out.below b2)
  have HO2 := Lib.hid (own_mono ho HW1.out)
  have HB2 := Lib.hid (HB.out.trans (b2.mono HW1.out))
  have d0 := stZ0 x2
  have d1 := stZ1 x2
  have d2 := stZ2 x2
  have d3 := stZ3 x2
  have d4 := stZ4 x2
  have hfz := fun i => x2.frozen i
  have HX2 := Lib.hid x2
  clear b2 ho HX HB HD x2
  go_wp2_with fail
  clear d0 d1 d2 d3 d4 hfz
  obtain ⟨xf, kf, bf⟩ := box_five (L := 0) HX2.out (by decide) (Nat.zero_le _) HB2.out (Nat.le_refl _) (.slice y.ba 256 y.bc) (.slice y.wa 0 y.wc) (.slice a 256 c) (.int .u32 1) (.int .u32 0)
  obtain ⟨wf, hwf⟩ : ∃ wf, set5 w2 g (.slice y.ba 256 y.bc) (.slice y.wa 0 y.wc) (.slice a 256 c) (.int .u32 1) (.int .u32 0) = wf := ⟨_, rfl⟩
  rw [hwf] at xf kf bf
  simp only [set5] at hwf
  rw [hwf]
  have e0 := bx0 xf
  have e1 := bx1 xf
  have e2 := bx2 xf
  have e3 := bx3 xf
  have e4 := bx4 xf
  refine bodyPost_ret (v := .agg #[.slice y.ba 256 y.bc, .slice y.wa 0 y.wc, .slice a 256 c, .int .u32 1, .int .u32 0]) (by simp [results, Tryz.f26, go_sem, e0, e1, e2, e3, e4]) rfl ?_
  have hn := newS_of (B'' := w.heap.size) HD2.out HO2.out (newTo_length (show 12 ≤ 256 by omega)) kf kf (by rw [HG.out]; exact HW.out) (by rw [HG.out]; exact Nat.le_refl _) 1 0
  refine ⟨⟨y, a, c⟩, ?_, hn.1, hn.2, by rw [HG.out]; exact bf⟩
  simp only [stV, show newD.1.length = 256 from newD_len, show newD.2.length = 0 from rfl, newTo_length (show 12 ≤ 256 by omega)]
  rfl
end Go.Proofs.YtbggkfomfeeikaaGreatDoor
/-
  What layer 14's statements call beside obj: empty, an object of holes.
-/
namespace Go.Proofs.YtbggkfomfeeikaaGreatDoor
open Go.RowKit Go.Shelf
set_option maxRecDepth 100000

theorem infoPtr3 : (Tryz.prog.info? 32).map (fun i => (i.zero, i.size, i.bytes)) = some (some (.agg #[.int .i64 0, .int .u32 0, .int .u32 0, .int .u32 0, .int .u32 0]), 5, 24) := by kernel_rfl
/-- The cells of fifteen holes. -/
def noPts : Array Value := (ptCs (List.replicate 15 p0)).toArray
theorem noPts_eq : madeCells #[.int .i64 0, .int .u32 0, .int .u32 0, .int .u32 0, .int .u32 0] (15 * 5) = noPts := by kernel_rfl
theorem make_holes (W : World) : (Instr.makeSlice 35 (.int .i64 15) (.int .i64 15)).run Tryz.prog W = .ok (.slice (some ⟨W.heap.size, 0, none⟩) 15 15) (W.alloc (.cells noPts 32)) := by
  obtain ⟨i0, hi, hz0, hz1, hz2⟩ := info_parts infoPtr3
  have hr := run_make (P := Tryz.prog) W 35 32 i0 (.agg #[.int .i64 0, .int .u32 0, .int .u32 0, .int .u32 0, .int .u32 0]) Tryz.underlying35 hi hz0 .i64 .i64 15 15 (by omega) (Int.le_refl _) (by rw [hz2]; omega) (by omega)
  rw [hz1] at hr
  rw [← noPts_eq]
  exact hr
end Go.Proofs.YtbggkfomfeeikaaGreatDoor
/-
  Law 15's made: the chapter's dataset is laid as the document says.
-/
namespace Go.Proofs.YtbggkfomfeeikaaGreatDoor
open Go.RowKit Go.Shelf
set_option maxRecDepth 100000

/-- The chapter's dataset, made. -/
def NewM (w : World) (e : Ending) (w' : World) : Prop := ∃ y Z, Z.length = 256 ∧ e = .returned (.tuple #[stV y (madeS Z), ptV (madeR Z), .bool true]) ∧ StP 0 w' y (madeS Z) ∧ Below w.heap.size w w'
theorem fill_0 (p : Pt) : (((((ptCs (List.replicate 15 p0)).toArray.setIfInBounds 0 (.int .i64 p.1)).setIfInBounds 1 (.int .u32 (p.2.1 : Int))).setIfInBounds 2 (.int .u32 (p.2.2.1 : Int))).setIfInBounds 3 (.int .u32 (p.2.2.2.1 : Int))).setIfInBounds 4 (.int .u32 (p.2.2.2.2 : Int)) = (ptCs ((List.replicate 15 p0).set 0 p)).toArray := rfl
theorem fill_04 (q p : Pt) : (((((ptCs ((List.replicate 15 p0).set 0 q)).toArray.setIfInBounds 20 (.int .i64 p.1)).setIfInBounds 21 (.int .u32 (p.2.1 : Int))).setIfInBounds 22 (.int .u32 (p.2.2.1 : Int))).setIfInBounds 23 (.int .u32 (p.2.2.2.1 : Int))).setIfInBounds 24 (.int .u32 (p.2.2.2.2 : Int)) = (ptCs (((List.replicate 15 p0).set 0 q).set 4 p)).toArray := rfl
@[reducible] def five (w : World) (g i0 i1 i2 i3 i4 : Nat) (v0 v1 v2 v3 v4 : Value) : World := ((((w.setCell ⟨g, i0, none⟩ v0).setCell ⟨g, i1, none⟩ v1).setCell ⟨g, i2, none⟩ v2).setCell ⟨g, i3, none⟩ v3).setCell ⟨g, i4, none⟩ v4
theorem five_far {w : World} {g g' : Nat} {t : TypeId} {cs : Array Value} (h : Blk w g' t cs) (hne : g' ≠ g) (i0 i1 i2 i3 i4 : Nat) (v0 v1 v2 v3 v4 : Value) : Blk (five w g i0 i1 i2 i3 i4 v0 v1 v2 v3 v4) g' t cs :=
  ((((h.far (p := ⟨g, i0, none⟩) hne v0).far (p := ⟨g, i1, none⟩) hne v1).far (p := ⟨g, i2, none⟩) hne v2).far (p := ⟨g, i3, none⟩) hne v3).far (p := ⟨g, i4, none⟩) hne v4
theorem five_at {L B g : Nat} {a w : World} {t : TypeId} {cs : Array Value} (h : Blk w g t cs) (ht : rowT t = false) (hL : L ≤ g) (hB : Below B a w) (hg : B ≤ g) (i0 i1 i2 i3 i4 : Nat) (v0 v1 v2 v3 v4 : Value) :
    Blk (five w g i0 i1 i2 i3 i4 v0 v1 v2 v3 v4) g t (((((cs.setIfInBounds i0 v0).setIfInBounds i1 v1).setIfInBounds i2 v2).setIfInBounds i3 v3).setIfInBounds i4 v4) ∧ Keeps L w (five w g i0 i1 i2 i3 i4 v0 v1 v2 v3 v4) ∧ Below B a (five w g i0 i1 i2 i3 i4 v0 v1 v2 v3 v4) :=
  ⟨((((h.set_ i0 v0).set_ i1 v1).set_ i2 v2).set_ i3 v3).set_ i4 v4,
   Keeps.of_box (only_setCell (only_setCell (only_setCell (only_setCell (only_setCell (World.grownBy.refl w (some g)) (p := ⟨g, i0, none⟩) (.inl rfl) v0) (p := ⟨g, i1, none⟩) (.inl rfl) v1) (p := ⟨g, i2, none⟩) (.inl rfl) v2) (p := ⟨g, i3, none⟩) (.inl rfl) v3) (p := ⟨g, i4, none⟩) (.inl rfl) v4) h ht hL,
   ((((hB.setCell (p := ⟨g, i0, none⟩) hg v0).setCell (p := ⟨g, i1, none⟩) hg v1).setCell (p := ⟨g, i2, none⟩) hg v2).setCell (p := ⟨g, i3, none⟩) hg v3).setCell (p := ⟨g, i4, none⟩) hg v4⟩
theorem blk_pts9 {w : World} {g : Nat} {L : List Pt} (h : Blk w g 32 (ptCs L).toArray) (hw : ∀ q ∈ L, WfP q) (hl : L.length ≤ 1000) : Pts w w.heap.size (some ⟨g, 0, none⟩) L.length L.length L :=
  ⟨rfl, Nat.le_refl _, by unfold maxLen; omega, fun e => (by cases e), fun _ => ⟨g, 0, rfl, h.lt, fun i hi => ⟨hw _ (List.getElem_mem hi), fun j u hu => by
    rw [h.cell, Nat.zero_add]
    simpa using ptCs_get L i hi j u hu⟩⟩⟩
theorem new_box (W : World) (cs : Array Value) (t : TypeId) : ∃ V g, W.alloc (.cells cs t) = V ∧ W.heap.size = g ∧ Below W.heap.size W V ∧ Blk V g t cs := ⟨_, _, rfl, rfl, (Below.refl _ W).alloc (Nat.le_refl _) _, Blk.new W t cs⟩
section
open Go
variable {P : Program} {Q : Exit → Act → World → Prop} {md : Region.Mode} {S : World → Prop}
/-- Four operations side by side. -/
theorem wpI_fork4 {l : List Oper} {i j k m : Nat} {σ : List Nat} {oi oj ok om : Oper} {listed : Array Bool} {a : Act} {w : World} (hi : nthOp l i = some oi) (hj : nthOp l j = some oj) (hk : nthOp l k = some ok) (hm : nthOp l m = some om) (hr : Region.ready md l.toArray listed = [i, j, k, m])
    (h1 : ∀ K : Act → World → Prop, (∀ a' w', S w' → wpI P md S l Q (j :: k :: m :: σ) (listed.setIfInBounds i true) a' w' → K a' w') → if Region.wanted oi (yielded l.toArray a.tmps) then oi.wp P a w K Q else K (a.put oi.dst undef) w)
    (h2 : ∀ K : Act → World → Prop, (∀ a' w', S w' → wpI P md S l Q (i :: k :: m :: σ) (listed.setIfInBounds j true) a' w' → K a' w') → if Region.wanted oj (yielded l.toArray a.tmps) then oj.wp P a w K Q else K (a.put oj.dst undef) w)
    (h3 : ∀ K : Act → World → Prop, (∀ a' w', S w' → wpI P md S l Q (i :: j :: m :: σ) (listed.setIfInBounds k true) a' w' → K a' w') → if Region.wanted ok (yielded l.toArray a.tmps) then ok.wp P a w K Q else K (a.put ok.dst undef) w)
    (h4 : ∀ K : Act → World → Prop, (∀ a' w', S w' → wpI P md S l Q (i :: j :: k :: σ) (listed.setIfInBounds m true) a' w' → K a' w') → if Region.wanted om (yielded l.toArray a.tmps) then om.wp P a w K Q else K (a.put om.dst undef) w) :
    wpI P md S l Q (i :: j :: k :: m :: σ) listed a w := by
  refine ⟨fun h0 => (by rw [hr] at h0; cases h0), fun n hn => ?_⟩
  rw [hr] at hn
  rcases List.mem_cons.1 hn with rfl | hn
  · exact wpOp_of hi (h1 (fun a' w' => S w' ∧ wpMI P md S l.toArray Q (j :: k :: m :: σ).length (listed.setIfInBounds n true) a' w') (fun a' w' hS hs => ⟨hS, hs⟩))
  · rcases List.mem_cons.1 hn with rfl | hn
    · exact wpOp_of hj (h2 (fun a' w' => S w' ∧ wpMI P md S l.toArray Q (i :: k :: m :: σ).length (listed.setIfInBounds n true) a' w') (fun a' w' hS hs => ⟨hS, hs⟩))
    · rcases List.mem_cons.1 hn with rfl | hn
      · exact wpOp_of hk (h3 (fun a' w' => S w' ∧ wpMI P md S l.toArray Q (i :: j :: m :: σ).length (listed.setIfInBounds n true) a' w') (fun a' w' hS hs => ⟨hS, hs⟩))
      · rw [List.mem_singleton] at hn
        subst hn
        exact wpOp_of hm (h4 (fun a' w' => S w' ∧ wpMI P md S l.toArray Q (i :: j :: k :: σ).length (listed.setIfInBounds n true) a' w') (fun a' w' hS hs => ⟨hS, hs⟩))
end
set_option linter.unusedSimpArgs false in
set_option maxHeartbeats 32000000 in
theorem seMade_any (w : World) (hz : Szs w) : Calls Tryz.prog 10 #[] w (NewM w) := by
  have hmx : Tryz.prog.follows Departure.mixedOrders = true := by kernel_rfl
  obtain ⟨Z, hZ⟩ : ∃ X : List UInt8, List.replicate 256 0 = X := ⟨_, rfl⟩
  have hl : Z.length = 256 := by rw [← hZ]; exact List.length_replicate ..
  have mz : ∀ W : World, (Instr.makeSlice 27 (.int .i64 256) (.int .i64 256)).run Tryz.prog W = .ok (.slice (some ⟨W.heap.size, 0, none⟩) 256 256) (W.alloc (.cells (ar Z) 5)) := fun W => by rw [← hZ]; exact mkBytes 256 (by omega) W
  have HLZ := Lib.hid hl
  have L1 := (made_lay1 hl).1
  have L2 := (made_lay2 hl).1
  have M1 := Lib.hid (MayS.ok (made_lay1 hl).2.1)
  obtain ⟨⟨a1, b1, i1, t1, s1⟩, hp1⟩ : ∃ X, madeP 12 3 Z = X := ⟨_, rfl⟩
  obtain ⟨⟨a2, b2, i2, t2, s2⟩, hp2⟩ : ∃ X, madeP 13 5 Z = X := ⟨_, rfl⟩
  have HE1 := Lib.hid hp1
  have HE2 := Lib.hid hp2
  rw [hp1] at L1
  rw [hp2] at L2
  obtain ⟨T1, hT1⟩ : ∃ X, madeS1 Z = X := ⟨_, rfl⟩
  obtain ⟨T2, hT2⟩ : ∃ X, madeS2 Z = X := ⟨_, rfl⟩
  rw [hT1] at L1 L2 M1
  rw [hT2] at L2
  have HT1 := Lib.hid hT1
  have HT2 := Lib.hid hT2
  have HL1 := Lib.hid L1
  have HL2 := Lib.hid L2
  have L3 := (made_lay3 hl).1
  have L4 := (made_lay4 hl).1
  have M2 := Lib.hid (MayS.ok (made_lay2 hl).2.1)
  have M3 := Lib.hid (MayS.ok (made_lay3 hl).2.1)
  have HOW : Hid (owriteO (madeO Z) = (blockOb (madeO Z), 0)) := Lib.hid (if_pos (madeO_may Z))
  have HMO : Hid (madeO Z = (1, 0, 0, ((List.replicate 15 p0).set 0 (a1, b1, i1, t1, s1)).set 4 (a2, b2, i2, t2, s2))) := Lib.hid (by rw [← hp1, ← hp2]; rfl)
  have HWO := Lib.hid (madeO_wf Z)
  have HPW := Lib.hid (madeO_pts Z)
  have HLR := Lib.hid (madeL_row Z)
  have HLW9 := Lib.hid (madeL_wf Z)
  have HBL := Lib.hid (show (blockOb (madeO Z)).length = 256 from blockOb_length _)
  have HWL := Lib.hid (madeW_len Z)
  obtain ⟨BB, hBB⟩ : ∃ X, blockOb (madeO Z) = X := ⟨_, rfl⟩
  obtain ⟨WW, hWW⟩ : ∃ X, madeW Z = X := ⟨_, rfl⟩
  obtain ⟨⟨a3, b3, i3, t3, s3⟩, hp3⟩ : ∃ X, madeT Z = X := ⟨_, rfl⟩
  obtain ⟨⟨a4, b4, i4, t4, s4⟩, hp4⟩ : ∃ X, madeR Z = X := ⟨_, rfl⟩
  obtain ⟨T3, hT3⟩ : ∃ X, madeS3 Z = X := ⟨_, rfl⟩
  obtain ⟨T4, hT4⟩ : ∃ X, madeS Z = X := ⟨_, rfl⟩
  have HML : Hid (madeL Z = [p0, p0, (a3, b3, i3, t3, s3)]) := Lib.hid (by rw [← hp3]; rfl)
  rw [hBB] at L3 HOW HBL
  rw [hWW] at L4 HLR HWL
  rw [hT2, hT3, hp3] at L3
  rw [hT3, hT4, hp4] at L4
  rw [hT2] at M2
  rw [hT3] at M3
  have HT4 := Lib.hid hT4
  have HE4 := Lib.hid hp4
  have HL3 := Lib.hid L3
  have HL4 := Lib.hid L4
  clear hZ hl L1 L2 L3 L4 hp1 hp2 hT1 hT2 hp3 hp4 hT3 hT4 hBB hWW
  obtain ⟨w0, hw0, b0, z0, q0, q1⟩ := two_al w stZ ptZ 30 32
  obtain ⟨g0, hg0⟩ : ∃ g, w.heap.size = g := ⟨_, rfl⟩
  obtain ⟨g1, hg1⟩ : ∃ g1, g0 + 1 = g1 := ⟨_, rfl⟩
  rw [hg0] at q0 q1 z0
  rw [hg1] at q1
  obtain ⟨w2, hw2, b2, z2, q2, q3⟩ := two_al w0 noPts #[.int .u8 1, .int .i64 0, .int .i64 0, .slice (some ⟨w0.heap.size, 0, none⟩) 15 15] 32 40
  obtain ⟨gh, hgh⟩ : ∃ g, w0.heap.size = g := ⟨_, rfl⟩
  obtain ⟨g3, hg3⟩ : ∃ g, gh + 1 = g := ⟨_, rfl⟩
  rw [hgh] at q2 q3 hw2 z2
  rw [hg3] at q3
  have HB := Lib.hid (b0.trans (b2.mono b0.size))
  have HX0 := Lib.hid (q0.below b2 q0.lt)
  have HQ0 := Lib.hid (q1.below b2 q1.lt)
  have HR := Lib.hid q2
  have HO := Lib.hid q3
  have HZ0 := Lib.hid hz
  have HLW := Lib.hid (Nat.zero_le w2.heap.size)
  have HOR := Lib.hid (show w.heap.size = g0 ∧ g0 < g1 ∧ g1 < gh ∧ gh < g3 ∧ g3 < w2.heap.size by omega)
  have mh := make_holes
  clear b0 z0 q0 q1 b2 z2 q2 q3 hz
  go_enter Tryz.func10, Tryz.ntmps10
  go_wp2_with fail
  clear hw0 hw2 hg0 hg1 hgh hg3 mh
  go_cut [4, 5, 6] from 17 to 92 (fun a b c wx => ∃ gA gB y, a = .pointer (some ⟨gA, 0, none⟩) ∧ b = .pointer (some ⟨gB, 0, none⟩) ∧ c = .int .i64 0 ∧ Blk wx gA 30 (stC y T1) ∧ Blk wx gB 32 #[.int .i64 a1, .int .u32 (b1 : Int), .int .u32 (i1 : Int), .int .u32 (t1 : Int), .int .u32 (s1 : Int)] ∧ StP 0 wx y T1 ∧ Below w2.heap.size w2 wx ∧ w2.heap.size ≤ gA ∧ w2.heap.size ≤ gB ∧ gA ≠ gB)
  case first =>
    obtain ⟨wd, hwd⟩ : ∃ wd, w2.drew = wd := ⟨_, rfl⟩
    have HBd := Lib.hid (show Below w2.heap.size w2 wd by rw [← hwd]; exact (Below.refl _ _).drew)
    have HC1 : Hid (∀ (gz : Nat) (y : SAt) (W : World), StP 0 W y newS → Blk W gz 5 (ar Z) → Calls Tryz.prog 24 #[stV y newS, .int .u32 3, .slice (some ⟨gz, 0, none⟩) 256 256] W (NewSP (T1, (a1, b1, i1, t1, s1), 0) W)) := Lib.hid (fun gz y W hy hzb => by
      have hc := stLay_any 0 y newS 3 (some ⟨gz, 0, none⟩) 256 Z W hy (by rw [HLZ.out]; exact hzb.bsl HLZ.out (by omega)) (MayS.ok newS_may) (Nat.zero_le _) (by omega)
      rw [HL1.out, HLZ.out] at hc
      exact hc)
    clear HB HLW HX0 HQ0 HR HO
    have HB := Lib.hid (Below.refl wd.heap.size wd)
    refine wpI_start (Below wd.heap.size wd) [0, 1, 2, 7, 8, 3, 4, 5, 6, 9, 10, 11] hmx rfl hwd ?_
    clear hwd
    refine wpI_turn [0, 1, 7, 8, 2, 3, 4, 5, 6, 9, 10, 11] rfl ?_
    refine wpI_fork4 rfl rfl rfl rfl (by kernel_rfl) (fun K hK => ?_) (fun K hK => ?_) (fun K hK => ?_) (fun K hK => ?_)
    go_simp
    have HC := Lib.hid (stNew_any wd)
    refine HC.out.mono ?_
    rintro ev v1 ⟨y0, rfl, hy, _, b9⟩
    replace HB := Lib.hid (HB.out.trans (b9.mono HB.out.size))
    have HY0 := Lib.hid hy
    clear hy
    simp only [stV]
    refine hK _ _ HB.out ?_
    clear hK K b9 HC
    try simp only [Act.put, List.setIfInBounds_toArray, List.set_cons_zero, List.set_cons_succ]
    refine wpI_turn [1, 7, 8, 2, 3, 4, 5, 6, 9, 10, 11] rfl ?_
    refine wpI_fork3 rfl rfl rfl (by kernel_rfl) (fun K hK => ?_) (fun K hK => ?_) (fun K hK => ?_)
    go_simp
    obtain ⟨v2, gz, hn, hg, bq, xq⟩ := new_box v1 (ar Z) 5
    have HLHZ1 := Lib.hid (show wd.heap.size ≤ gz from hg ▸ HB.out.size)
    rw [hn, hg]
    replace HB := Lib.hid (HB.out.trans (bq.mono HB.out.size))
    replace HY0 := Lib.hid (HY0.out.bel bq)
    have HZ1 := Lib.hid xq
    refine hK _ _ HB.out ?_
    clear hK K hn hg xq bq
    try simp only [Act.put, List.setIfInBounds_toArray, List.set_cons_zero, List.set_cons_succ]
    refine wpI_turn [2, 7, 8, 3, 4, 5, 6, 9, 10, 11] rfl ?_
    refine wpI_fork3 rfl rfl rfl (by kernel_rfl) (fun K hK => ?_) (fun K hK => ?_) (fun K hK => ?_)
    go_simp
    have HC := Lib.hid (HC1.out gz y0 v2 HY0.out HZ1.out)
    refine HC.out.mono ?_
    rintro ev v3 ⟨y1, rfl, hy, _, b9⟩
    replace HB := Lib.hid (HB.out.trans (b9.mono HB.out.size))
    replace HY0 := Lib.hid (HY0.out.bel b9)
    replace HZ1 := Lib.hid (HZ1.out.below b9 HZ1.out.lt)
    have HY1 := Lib.hid hy
    clear hy
    simp only [stV, ptV]
    refine hK _ _ HB.out ?_
    clear hK K b9 HC
    try simp only [Act.put, List.setIfInBounds_toArray, List.set_cons_zero, List.set_cons_succ]
    refine wpI_turn [3, 4, 5, 6, 7, 8, 9, 10, 11] rfl ?_
    iterate 4 (
      refine wpI_read (v := ?_) HB.out rfl (by kernel_rfl) (by kernel_rfl) (by kernel_rfl) (fun _ _ _ h => h) (.inl ⟨by rfl, ?_⟩) ?_
      rotate_left
      · intro X hX
        clear hX
        go_simp
        with_reducible rfl
      try simp only [Act.put, List.setIfInBounds_toArray, List.set_cons_zero, List.set_cons_succ])
    refine wpI_turn [7, 8, 9, 10, 11] rfl ?_
    refine wpI_fork rfl rfl (by kernel_rfl) (fun K hK => ?_) (fun K hK => ?_)
    go_simp
    obtain ⟨v4, gA, hn, hg, bq, xq⟩ := new_box v3 stZ 30
    have HLHA := Lib.hid (show wd.heap.size ≤ gA from hg ▸ HB.out.size)
    rw [hn, hg]
    replace HB := Lib.hid (HB.out.trans (bq.mono HB.out.size))
    replace HY0 := Lib.hid (HY0.out.bel bq)
    replace HZ1 := Lib.hid (HZ1.out.below bq HZ1.out.lt)
    replace HY1 := Lib.hid (HY1.out.bel bq)
    have HA := Lib.hid xq
    refine hK _ _ HB.out ?_
    clear hK K hn hg xq bq
    try simp only [Act.put, List.setIfInBounds_toArray, List.set_cons_zero, List.set_cons_succ]
    refine wpI_turn [8, 9, 10, 11] rfl ?_
    refine wpI_lone rfl (by kernel_rfl) (fun K hK => ?_)
    go_simp
    obtain ⟨v5, gB, hn, hg, bq, xq⟩ := new_box v4 ptZ 32
    have HLHP := Lib.hid (show wd.heap.size ≤ gB from hg ▸ HB.out.size)
    rw [hn, hg]
    replace HB := Lib.hid (HB.out.trans (bq.mono HB.out.size))
    replace HY0 := Lib.hid (HY0.out.bel bq)
    replace HZ1 := Lib.hid (HZ1.out.below bq HZ1.out.lt)
    replace HY1 := Lib.hid (HY1.out.bel bq)
    replace HA := Lib.hid (HA.out.below bq HA.out.lt)
    have HP := Lib.hid xq
    refine hK _ _ HB.out ?_
    clear hK K hn hg xq bq
    try simp only [Act.put, List.setIfInBounds_toArray, List.set_cons_zero, List.set_cons_succ]
    rotate_left
    go_simp
    obtain ⟨v4, gB, hn, hg, bq, xq⟩ := new_box v3 ptZ 32
    have HLHP := Lib.hid (show wd.heap.size ≤ gB from hg ▸ HB.out.size)
    rw [hn, hg]
    replace HB := Lib.hid (HB.out.trans (bq.mono HB.out.size))
    replace HY0 := Lib.hid (HY0.out.bel bq)
    replace HZ1 := Lib.hid (HZ1.out.below bq HZ1.out.lt)
    replace HY1 := Lib.hid (HY1.out.bel bq)
    have HP := Lib.hid xq
    refine hK _ _ HB.out ?_
    clear hK K hn hg xq bq
    try simp only [Act.put, List.setIfInBounds_toArray, List.set_cons_zero, List.set_cons_succ]
    refine wpI_turn [7, 9, 10, 11] rfl ?_
    refine wpI_lone rfl (by kernel_rfl) (fun K hK => ?_)
    go_simp
    obtain ⟨v5, gA, hn, hg, bq, xq⟩ := new_box v4 stZ 30
    have HLHA := Lib.hid (show wd.heap.size ≤ gA from hg ▸ HB.out.size)
    rw [hn, hg]
    replace HB := Lib.hid (HB.out.trans (bq.mono HB.out.size))
    replace HY0 := Lib.hid (HY0.out.bel bq)
    replace HZ1 := Lib.hid (HZ1.out.below bq HZ1.out.lt)
    replace HY1 := Lib.hid (HY1.out.bel bq)
    replace HP := Lib.hid (HP.out.below bq HP.out.lt)
    have HA := Lib.hid xq
    refine hK _ _ HB.out ?_
    clear hK K hn hg xq bq
    try simp only [Act.put, List.setIfInBounds_toArray, List.set_cons_zero, List.set_cons_succ]
    rotate_left
    go_simp
    obtain ⟨v3, gA, hn, hg, bq, xq⟩ := new_box v2 stZ 30
    have HLHA := Lib.hid (show wd.heap.size ≤ gA from hg ▸ HB.out.size)
    rw [hn, hg]
    replace HB := Lib.hid (HB.out.trans (bq.mono HB.out.size))
    replace HY0 := Lib.hid (HY0.out.bel bq)
    replace HZ1 := Lib.hid (HZ1.out.below bq HZ1.out.lt)
    have HA := Lib.hid xq
    refine hK _ _ HB.out ?_
    clear hK K hn hg xq bq
    try simp only [Act.put, List.setIfInBounds_toArray, List.set_cons_zero, List.set_cons_succ]
    refine wpI_turn [2, 8, 3, 4, 5, 6, 9, 10, 11] rfl ?_
    refine wpI_fork rfl rfl (by kernel_rfl) (fun K hK => ?_) (fun K hK => ?_)
    go_simp
    have HC := Lib.hid (HC1.out gz y0 v3 HY0.out HZ1.out)
    refine HC.out.mono ?_
    rintro ev v4 ⟨y1, rfl, hy, _, b9⟩
    replace HB := Lib.hid (HB.out.trans (b9.mono HB.out.size))
    replace HY0 := Lib.hid (HY0.out.bel b9)
    replace HZ1 := Lib.hid (HZ1.out.below b9 HZ1.out.lt)
    replace HA := Lib.hid (HA.out.below b9 HA.out.lt)
    have HY1 := Lib.hid hy
    clear hy
    simp only [stV, ptV]
    refine hK _ _ HB.out ?_
    clear hK K b9 HC
    try simp only [Act.put, List.setIfInBounds_toArray, List.set_cons_zero, List.set_cons_succ]
    refine wpI_turn [3, 4, 5, 6, 8, 9, 10, 11] rfl ?_
    iterate 4 (
      refine wpI_read (v := ?_) HB.out rfl (by kernel_rfl) (by kernel_rfl) (by kernel_rfl) (fun _ _ _ h => h) (.inl ⟨by rfl, ?_⟩) ?_
      rotate_left
      · intro X hX
        clear hX
        go_simp
        with_reducible rfl
      try simp only [Act.put, List.setIfInBounds_toArray, List.set_cons_zero, List.set_cons_succ])
    refine wpI_turn [8, 9, 10, 11] rfl ?_
    refine wpI_lone rfl (by kernel_rfl) (fun K hK => ?_)
    go_simp
    obtain ⟨v5, gB, hn, hg, bq, xq⟩ := new_box v4 ptZ 32
    have HLHP := Lib.hid (show wd.heap.size ≤ gB from hg ▸ HB.out.size)
    rw [hn, hg]
    replace HB := Lib.hid (HB.out.trans (bq.mono HB.out.size))
    replace HY0 := Lib.hid (HY0.out.bel bq)
    replace HZ1 := Lib.hid (HZ1.out.below bq HZ1.out.lt)
    replace HA := Lib.hid (HA.out.below bq HA.out.lt)
    replace HY1 := Lib.hid (HY1.out.bel bq)
    have HP := Lib.hid xq
    refine hK _ _ HB.out ?_
    clear hK K hn hg xq bq
    try simp only [Act.put, List.setIfInBounds_toArray, List.set_cons_zero, List.set_cons_succ]
    rotate_left
    go_simp
    obtain ⟨v4, gB, hn, hg, bq, xq⟩ := new_box v3 ptZ 32
    have HLHP := Lib.hid (show wd.heap.size ≤ gB from hg ▸ HB.out.size)
    rw [hn, hg]
    replace HB := Lib.hid (HB.out.trans (bq.mono HB.out.size))
    replace HY0 := Lib.hid (HY0.out.bel bq)
    replace HZ1 := Lib.hid (HZ1.out.below bq HZ1.out.lt)
    replace HA := Lib.hid (HA.out.below bq HA.out.lt)
    have HP := Lib.hid xq
    refine hK _ _ HB.out ?_
    clear hK K hn hg xq bq
    try simp only [Act.put, List.setIfInBounds_toArray, List.set_cons_zero, List.set_cons_succ]
    refine wpI_turn [2, 3, 4, 5, 6, 9, 10, 11] rfl ?_
    refine wpI_lone rfl (by kernel_rfl) (fun K hK => ?_)
    go_simp
    have HC := Lib.hid (HC1.out gz y0 v4 HY0.out HZ1.out)
    refine HC.out.mono ?_
    rintro ev v5 ⟨y1, rfl, hy, _, b9⟩
    replace HB := Lib.hid (HB.out.trans (b9.mono HB.out.size))
    replace HY0 := Lib.hid (HY0.out.bel b9)
    replace HZ1 := Lib.hid (HZ1.out.below b9 HZ1.out.lt)
    replace HA := Lib.hid (HA.out.below b9 HA.out.lt)
    replace HP := Lib.hid (HP.out.below b9 HP.out.lt)
    have HY1 := Lib.hid hy
    clear hy
    simp only [stV, ptV]
    refine hK _ _ HB.out ?_
    clear hK K b9 HC
    try simp only [Act.put, List.setIfInBounds_toArray, List.set_cons_zero, List.set_cons_succ]
    refine wpI_turn [3, 4, 5, 6, 9, 10, 11] rfl ?_
    iterate 4 (
      refine wpI_read (v := ?_) HB.out rfl (by kernel_rfl) (by kernel_rfl) (by kernel_rfl) (fun _ _ _ h => h) (.inl ⟨by rfl, ?_⟩) ?_
      rotate_left
      · intro X hX
        clear hX
        go_simp
        with_reducible rfl
      try simp only [Act.put, List.setIfInBounds_toArray, List.set_cons_zero, List.set_cons_succ])
    rotate_left
    go_simp
    obtain ⟨v3, gB, hn, hg, bq, xq⟩ := new_box v2 ptZ 32
    have HLHP := Lib.hid (show wd.heap.size ≤ gB from hg ▸ HB.out.size)
    rw [hn, hg]
    replace HB := Lib.hid (HB.out.trans (bq.mono HB.out.size))
    replace HY0 := Lib.hid (HY0.out.bel bq)
    replace HZ1 := Lib.hid (HZ1.out.below bq HZ1.out.lt)
    have HP := Lib.hid xq
    refine hK _ _ HB.out ?_
    clear hK K hn hg xq bq
    try simp only [Act.put, List.setIfInBounds_toArray, List.set_cons_zero, List.set_cons_succ]
    refine wpI_turn [2, 7, 3, 4, 5, 6, 9, 10, 11] rfl ?_
    refine wpI_fork rfl rfl (by kernel_rfl) (fun K hK => ?_) (fun K hK => ?_)
    go_simp
    have HC := Lib.hid (HC1.out gz y0 v3 HY0.out HZ1.out)
    refine HC.out.mono ?_
    rintro ev v4 ⟨y1, rfl, hy, _, b9⟩
    replace HB := Lib.hid (HB.out.trans (b9.mono HB.out.size))
    replace HY0 := Lib.hid (HY0.out.bel b9)
    replace HZ1 := Lib.hid (HZ1.out.below b9 HZ1.out.lt)
    replace HP := Lib.hid (HP.out.below b9 HP.out.lt)
    have HY1 := Lib.hid hy
    clear hy
    simp only [stV, ptV]
    refine hK _ _ HB.out ?_
    clear hK K b9 HC
    try simp only [Act.put, List.setIfInBounds_toArray, List.set_cons_zero, List.set_cons_succ]
    refine wpI_turn [3, 4, 5, 6, 7, 9, 10, 11] rfl ?_
    iterate 4 (
      refine wpI_read (v := ?_) HB.out rfl (by kernel_rfl) (by kernel_rfl) (by kernel_rfl) (fun _ _ _ h => h) (.inl ⟨by rfl, ?_⟩) ?_
      rotate_left
      · intro X hX
        clear hX
        go_simp
        with_reducible rfl
      try simp only [Act.put, List.setIfInBounds_toArray, List.set_cons_zero, List.set_cons_succ])
    refine wpI_turn [7, 9, 10, 11] rfl ?_
    refine wpI_lone rfl (by kernel_rfl) (fun K hK => ?_)
    go_simp
    obtain ⟨v5, gA, hn, hg, bq, xq⟩ := new_box v4 stZ 30
    have HLHA := Lib.hid (show wd.heap.size ≤ gA from hg ▸ HB.out.size)
    rw [hn, hg]
    replace HB := Lib.hid (HB.out.trans (bq.mono HB.out.size))
    replace HY0 := Lib.hid (HY0.out.bel bq)
    replace HZ1 := Lib.hid (HZ1.out.below bq HZ1.out.lt)
    replace HP := Lib.hid (HP.out.below bq HP.out.lt)
    replace HY1 := Lib.hid (HY1.out.bel bq)
    have HA := Lib.hid xq
    refine hK _ _ HB.out ?_
    clear hK K hn hg xq bq
    try simp only [Act.put, List.setIfInBounds_toArray, List.set_cons_zero, List.set_cons_succ]
    rotate_left
    go_simp
    obtain ⟨v4, gA, hn, hg, bq, xq⟩ := new_box v3 stZ 30
    have HLHA := Lib.hid (show wd.heap.size ≤ gA from hg ▸ HB.out.size)
    rw [hn, hg]
    replace HB := Lib.hid (HB.out.trans (bq.mono HB.out.size))
    replace HY0 := Lib.hid (HY0.out.bel bq)
    replace HZ1 := Lib.hid (HZ1.out.below bq HZ1.out.lt)
    replace HP := Lib.hid (HP.out.below bq HP.out.lt)
    have HA := Lib.hid xq
    refine hK _ _ HB.out ?_
    clear hK K hn hg xq bq
    try simp only [Act.put, List.setIfInBounds_toArray, List.set_cons_zero, List.set_cons_succ]
    refine wpI_turn [2, 3, 4, 5, 6, 9, 10, 11] rfl ?_
    refine wpI_lone rfl (by kernel_rfl) (fun K hK => ?_)
    go_simp
    have HC := Lib.hid (HC1.out gz y0 v4 HY0.out HZ1.out)
    refine HC.out.mono ?_
    rintro ev v5 ⟨y1, rfl, hy, _, b9⟩
    replace HB := Lib.hid (HB.out.trans (b9.mono HB.out.size))
    replace HY0 := Lib.hid (HY0.out.bel b9)
    replace HZ1 := Lib.hid (HZ1.out.below b9 HZ1.out.lt)
    replace HP := Lib.hid (HP.out.below b9 HP.out.lt)
    replace HA := Lib.hid (HA.out.below b9 HA.out.lt)
    have HY1 := Lib.hid hy
    clear hy
    simp only [stV, ptV]
    refine hK _ _ HB.out ?_
    clear hK K b9 HC
    try simp only [Act.put, List.setIfInBounds_toArray, List.set_cons_zero, List.set_cons_succ]
    refine wpI_turn [3, 4, 5, 6, 9, 10, 11] rfl ?_
    iterate 4 (
      refine wpI_read (v := ?_) HB.out rfl (by kernel_rfl) (by kernel_rfl) (by kernel_rfl) (fun _ _ _ h => h) (.inl ⟨by rfl, ?_⟩) ?_
      rotate_left
      · intro X hX
        clear hX
        go_simp
        with_reducible rfl
      try simp only [Act.put, List.setIfInBounds_toArray, List.set_cons_zero, List.set_cons_succ])
    rotate_left
    go_simp
    obtain ⟨v2, gA, hn, hg, bq, xq⟩ := new_box v1 stZ 30
    have HLHA := Lib.hid (show wd.heap.size ≤ gA from hg ▸ HB.out.size)
    rw [hn, hg]
    replace HB := Lib.hid (HB.out.trans (bq.mono HB.out.size))
    replace HY0 := Lib.hid (HY0.out.bel bq)
    have HA := Lib.hid xq
    refine hK _ _ HB.out ?_
    clear hK K hn hg xq bq
    try simp only [Act.put, List.setIfInBounds_toArray, List.set_cons_zero, List.set_cons_succ]
    refine wpI_turn [1, 8, 2, 3, 4, 5, 6, 9, 10, 11] rfl ?_
    refine wpI_fork rfl rfl (by kernel_rfl) (fun K hK => ?_) (fun K hK => ?_)
    go_simp
    obtain ⟨v3, gz, hn, hg, bq, xq⟩ := new_box v2 (ar Z) 5
    have HLHZ1 := Lib.hid (show wd.heap.size ≤ gz from hg ▸ HB.out.size)
    rw [hn, hg]
    replace HB := Lib.hid (HB.out.trans (bq.mono HB.out.size))
    replace HY0 := Lib.hid (HY0.out.bel bq)
    replace HA := Lib.hid (HA.out.below bq HA.out.lt)
    have HZ1 := Lib.hid xq
    refine hK _ _ HB.out ?_
    clear hK K hn hg xq bq
    try simp only [Act.put, List.setIfInBounds_toArray, List.set_cons_zero, List.set_cons_succ]
    refine wpI_turn [2, 8, 3, 4, 5, 6, 9, 10, 11] rfl ?_
    refine wpI_fork rfl rfl (by kernel_rfl) (fun K hK => ?_) (fun K hK => ?_)
    go_simp
    have HC := Lib.hid (HC1.out gz y0 v3 HY0.out HZ1.out)
    refine HC.out.mono ?_
    rintro ev v4 ⟨y1, rfl, hy, _, b9⟩
    replace HB := Lib.hid (HB.out.trans (b9.mono HB.out.size))
    replace HY0 := Lib.hid (HY0.out.bel b9)
    replace HA := Lib.hid (HA.out.below b9 HA.out.lt)
    replace HZ1 := Lib.hid (HZ1.out.below b9 HZ1.out.lt)
    have HY1 := Lib.hid hy
    clear hy
    simp only [stV, ptV]
    refine hK _ _ HB.out ?_
    clear hK K b9 HC
    try simp only [Act.put, List.setIfInBounds_toArray, List.set_cons_zero, List.set_cons_succ]
    refine wpI_turn [3, 4, 5, 6, 8, 9, 10, 11] rfl ?_
    iterate 4 (
      refine wpI_read (v := ?_) HB.out rfl (by kernel_rfl) (by kernel_rfl) (by kernel_rfl) (fun _ _ _ h => h) (.inl ⟨by rfl, ?_⟩) ?_
      rotate_left
      · intro X hX
        clear hX
        go_simp
        with_reducible rfl
      try simp only [Act.put, List.setIfInBounds_toArray, List.set_cons_zero, List.set_cons_succ])
    refine wpI_turn [8, 9, 10, 11] rfl ?_
    refine wpI_lone rfl (by kernel_rfl) (fun K hK => ?_)
    go_simp
    obtain ⟨v5, gB, hn, hg, bq, xq⟩ := new_box v4 ptZ 32
    have HLHP := Lib.hid (show wd.heap.size ≤ gB from hg ▸ HB.out.size)
    rw [hn, hg]
    replace HB := Lib.hid (HB.out.trans (bq.mono HB.out.size))
    replace HY0 := Lib.hid (HY0.out.bel bq)
    replace HA := Lib.hid (HA.out.below bq HA.out.lt)
    replace HZ1 := Lib.hid (HZ1.out.below bq HZ1.out.lt)
    replace HY1 := Lib.hid (HY1.out.bel bq)
    have HP := Lib.hid xq
    refine hK _ _ HB.out ?_
    clear hK K hn hg xq bq
    try simp only [Act.put, List.setIfInBounds_toArray, List.set_cons_zero, List.set_cons_succ]
    rotate_left
    go_simp
    obtain ⟨v4, gB, hn, hg, bq, xq⟩ := new_box v3 ptZ 32
    have HLHP := Lib.hid (show wd.heap.size ≤ gB from hg ▸ HB.out.size)
    rw [hn, hg]
    replace HB := Lib.hid (HB.out.trans (bq.mono HB.out.size))
    replace HY0 := Lib.hid (HY0.out.bel bq)
    replace HA := Lib.hid (HA.out.below bq HA.out.lt)
    replace HZ1 := Lib.hid (HZ1.out.below bq HZ1.out.lt)
    have HP := Lib.hid xq
    refine hK _ _ HB.out ?_
    clear hK K hn hg xq bq
    try simp only [Act.put, List.setIfInBounds_toArray, List.set_cons_zero, List.set_cons_succ]
    refine wpI_turn [2, 3, 4, 5, 6, 9, 10, 11] rfl ?_
    refine wpI_lone rfl (by kernel_rfl) (fun K hK => ?_)
    go_simp
    have HC := Lib.hid (HC1.out gz y0 v4 HY0.out HZ1.out)
    refine HC.out.mono ?_
    rintro ev v5 ⟨y1, rfl, hy, _, b9⟩
    replace HB := Lib.hid (HB.out.trans (b9.mono HB.out.size))
    replace HY0 := Lib.hid (HY0.out.bel b9)
    replace HA := Lib.hid (HA.out.below b9 HA.out.lt)
    replace HZ1 := Lib.hid (HZ1.out.below b9 HZ1.out.lt)
    replace HP := Lib.hid (HP.out.below b9 HP.out.lt)
    have HY1 := Lib.hid hy
    clear hy
    simp only [stV, ptV]
    refine hK _ _ HB.out ?_
    clear hK K b9 HC
    try simp only [Act.put, List.setIfInBounds_toArray, List.set_cons_zero, List.set_cons_succ]
    refine wpI_turn [3, 4, 5, 6, 9, 10, 11] rfl ?_
    iterate 4 (
      refine wpI_read (v := ?_) HB.out rfl (by kernel_rfl) (by kernel_rfl) (by kernel_rfl) (fun _ _ _ h => h) (.inl ⟨by rfl, ?_⟩) ?_
      rotate_left
      · intro X hX
        clear hX
        go_simp
        with_reducible rfl
      try simp only [Act.put, List.setIfInBounds_toArray, List.set_cons_zero, List.set_cons_succ])
    rotate_left
    go_simp
    obtain ⟨v3, gB, hn, hg, bq, xq⟩ := new_box v2 ptZ 32
    have HLHP := Lib.hid (show wd.heap.size ≤ gB from hg ▸ HB.out.size)
    rw [hn, hg]
    replace HB := Lib.hid (HB.out.trans (bq.mono HB.out.size))
    replace HY0 := Lib.hid (HY0.out.bel bq)
    replace HA := Lib.hid (HA.out.below bq HA.out.lt)
    have HP := Lib.hid xq
    refine hK _ _ HB.out ?_
    clear hK K hn hg xq bq
    try simp only [Act.put, List.setIfInBounds_toArray, List.set_cons_zero, List.set_cons_succ]
    refine wpI_turn [1, 2, 3, 4, 5, 6, 9, 10, 11] rfl ?_
    refine wpI_lone rfl (by kernel_rfl) (fun K hK => ?_)
    go_simp
    obtain ⟨v4, gz, hn, hg, bq, xq⟩ := new_box v3 (ar Z) 5
    have HLHZ1 := Lib.hid (show wd.heap.size ≤ gz from hg ▸ HB.out.size)
    rw [hn, hg]
    replace HB := Lib.hid (HB.out.trans (bq.mono HB.out.size))
    replace HY0 := Lib.hid (HY0.out.bel bq)
    replace HA := Lib.hid (HA.out.below bq HA.out.lt)
    replace HP := Lib.hid (HP.out.below bq HP.out.lt)
    have HZ1 := Lib.hid xq
    refine hK _ _ HB.out ?_
    clear hK K hn hg xq bq
    try simp only [Act.put, List.setIfInBounds_toArray, List.set_cons_zero, List.set_cons_succ]
    refine wpI_turn [2, 3, 4, 5, 6, 9, 10, 11] rfl ?_
    refine wpI_lone rfl (by kernel_rfl) (fun K hK => ?_)
    go_simp
    have HC := Lib.hid (HC1.out gz y0 v4 HY0.out HZ1.out)
    refine HC.out.mono ?_
    rintro ev v5 ⟨y1, rfl, hy, _, b9⟩
    replace HB := Lib.hid (HB.out.trans (b9.mono HB.out.size))
    replace HY0 := Lib.hid (HY0.out.bel b9)
    replace HA := Lib.hid (HA.out.below b9 HA.out.lt)
    replace HP := Lib.hid (HP.out.below b9 HP.out.lt)
    replace HZ1 := Lib.hid (HZ1.out.below b9 HZ1.out.lt)
    have HY1 := Lib.hid hy
    clear hy
    simp only [stV, ptV]
    refine hK _ _ HB.out ?_
    clear hK K b9 HC
    try simp only [Act.put, List.setIfInBounds_toArray, List.set_cons_zero, List.set_cons_succ]
    refine wpI_turn [3, 4, 5, 6, 9, 10, 11] rfl ?_
    iterate 4 (
      refine wpI_read (v := ?_) HB.out rfl (by kernel_rfl) (by kernel_rfl) (by kernel_rfl) (fun _ _ _ h => h) (.inl ⟨by rfl, ?_⟩) ?_
      rotate_left
      · intro X hX
        clear hX
        go_simp
        with_reducible rfl
      try simp only [Act.put, List.setIfInBounds_toArray, List.set_cons_zero, List.set_cons_succ])
    rotate_left
    go_simp
    obtain ⟨v2, gB, hn, hg, bq, xq⟩ := new_box v1 ptZ 32
    have HLHP := Lib.hid (show wd.heap.size ≤ gB from hg ▸ HB.out.size)
    rw [hn, hg]
    replace HB := Lib.hid (HB.out.trans (bq.mono HB.out.size))
    replace HY0 := Lib.hid (HY0.out.bel bq)
    have HP := Lib.hid xq
    refine hK _ _ HB.out ?_
    clear hK K hn hg xq bq
    try simp only [Act.put, List.setIfInBounds_toArray, List.set_cons_zero, List.set_cons_succ]
    refine wpI_turn [1, 7, 2, 3, 4, 5, 6, 9, 10, 11] rfl ?_
    refine wpI_fork rfl rfl (by kernel_rfl) (fun K hK => ?_) (fun K hK => ?_)
    go_simp
    obtain ⟨v3, gz, hn, hg, bq, xq⟩ := new_box v2 (ar Z) 5
    have HLHZ1 := Lib.hid (show wd.heap.size ≤ gz from hg ▸ HB.out.size)
    rw [hn, hg]
    replace HB := Lib.hid (HB.out.trans (bq.mono HB.out.size))
    replace HY0 := Lib.hid (HY0.out.bel bq)
    replace HP := Lib.hid (HP.out.below bq HP.out.lt)
    have HZ1 := Lib.hid xq
    refine hK _ _ HB.out ?_
    clear hK K hn hg xq bq
    try simp only [Act.put, List.setIfInBounds_toArray, List.set_cons_zero, List.set_cons_succ]
    refine wpI_turn [2, 7, 3, 4, 5, 6, 9, 10, 11] rfl ?_
    refine wpI_fork rfl rfl (by kernel_rfl) (fun K hK => ?_) (fun K hK => ?_)
    go_simp
    have HC := Lib.hid (HC1.out gz y0 v3 HY0.out HZ1.out)
    refine HC.out.mono ?_
    rintro ev v4 ⟨y1, rfl, hy, _, b9⟩
    replace HB := Lib.hid (HB.out.trans (b9.mono HB.out.size))
    replace HY0 := Lib.hid (HY0.out.bel b9)
    replace HP := Lib.hid (HP.out.below b9 HP.out.lt)
    replace HZ1 := Lib.hid (HZ1.out.below b9 HZ1.out.lt)
    have HY1 := Lib.hid hy
    clear hy
    simp only [stV, ptV]
    refine hK _ _ HB.out ?_
    clear hK K b9 HC
    try simp only [Act.put, List.setIfInBounds_toArray, List.set_cons_zero, List.set_cons_succ]
    refine wpI_turn [3, 4, 5, 6, 7, 9, 10, 11] rfl ?_
    iterate 4 (
      refine wpI_read (v := ?_) HB.out rfl (by kernel_rfl) (by kernel_rfl) (by kernel_rfl) (fun _ _ _ h => h) (.inl ⟨by rfl, ?_⟩) ?_
      rotate_left
      · intro X hX
        clear hX
        go_simp
        with_reducible rfl
      try simp only [Act.put, List.setIfInBounds_toArray, List.set_cons_zero, List.set_cons_succ])
    refine wpI_turn [7, 9, 10, 11] rfl ?_
    refine wpI_lone rfl (by kernel_rfl) (fun K hK => ?_)
    go_simp
    obtain ⟨v5, gA, hn, hg, bq, xq⟩ := new_box v4 stZ 30
    have HLHA := Lib.hid (show wd.heap.size ≤ gA from hg ▸ HB.out.size)
    rw [hn, hg]
    replace HB := Lib.hid (HB.out.trans (bq.mono HB.out.size))
    replace HY0 := Lib.hid (HY0.out.bel bq)
    replace HP := Lib.hid (HP.out.below bq HP.out.lt)
    replace HZ1 := Lib.hid (HZ1.out.below bq HZ1.out.lt)
    replace HY1 := Lib.hid (HY1.out.bel bq)
    have HA := Lib.hid xq
    refine hK _ _ HB.out ?_
    clear hK K hn hg xq bq
    try simp only [Act.put, List.setIfInBounds_toArray, List.set_cons_zero, List.set_cons_succ]
    rotate_left
    go_simp
    obtain ⟨v4, gA, hn, hg, bq, xq⟩ := new_box v3 stZ 30
    have HLHA := Lib.hid (show wd.heap.size ≤ gA from hg ▸ HB.out.size)
    rw [hn, hg]
    replace HB := Lib.hid (HB.out.trans (bq.mono HB.out.size))
    replace HY0 := Lib.hid (HY0.out.bel bq)
    replace HP := Lib.hid (HP.out.below bq HP.out.lt)
    replace HZ1 := Lib.hid (HZ1.out.below bq HZ1.out.lt)
    have HA := Lib.hid xq
    refine hK _ _ HB.out ?_
    clear hK K hn hg xq bq
    try simp only [Act.put, List.setIfInBounds_toArray, List.set_cons_zero, List.set_cons_succ]
    refine wpI_turn [2, 3, 4, 5, 6, 9, 10, 11] rfl ?_
    refine wpI_lone rfl (by kernel_rfl) (fun K hK => ?_)
    go_simp
    have HC := Lib.hid (HC1.out gz y0 v4 HY0.out HZ1.out)
    refine HC.out.mono ?_
    rintro ev v5 ⟨y1, rfl, hy, _, b9⟩
    replace HB := Lib.hid (HB.out.trans (b9.mono HB.out.size))
    replace HY0 := Lib.hid (HY0.out.bel b9)
    replace HP := Lib.hid (HP.out.below b9 HP.out.lt)
    replace HZ1 := Lib.hid (HZ1.out.below b9 HZ1.out.lt)
    replace HA := Lib.hid (HA.out.below b9 HA.out.lt)
    have HY1 := Lib.hid hy
    clear hy
    simp only [stV, ptV]
    refine hK _ _ HB.out ?_
    clear hK K b9 HC
    try simp only [Act.put, List.setIfInBounds_toArray, List.set_cons_zero, List.set_cons_succ]
    refine wpI_turn [3, 4, 5, 6, 9, 10, 11] rfl ?_
    iterate 4 (
      refine wpI_read (v := ?_) HB.out rfl (by kernel_rfl) (by kernel_rfl) (by kernel_rfl) (fun _ _ _ h => h) (.inl ⟨by rfl, ?_⟩) ?_
      rotate_left
      · intro X hX
        clear hX
        go_simp
        with_reducible rfl
      try simp only [Act.put, List.setIfInBounds_toArray, List.set_cons_zero, List.set_cons_succ])
    rotate_left
    go_simp
    obtain ⟨v3, gA, hn, hg, bq, xq⟩ := new_box v2 stZ 30
    have HLHA := Lib.hid (show wd.heap.size ≤ gA from hg ▸ HB.out.size)
    rw [hn, hg]
    replace HB := Lib.hid (HB.out.trans (bq.mono HB.out.size))
    replace HY0 := Lib.hid (HY0.out.bel bq)
    replace HP := Lib.hid (HP.out.below bq HP.out.lt)
    have HA := Lib.hid xq
    refine hK _ _ HB.out ?_
    clear hK K hn hg xq bq
    try simp only [Act.put, List.setIfInBounds_toArray, List.set_cons_zero, List.set_cons_succ]
    refine wpI_turn [1, 2, 3, 4, 5, 6, 9, 10, 11] rfl ?_
    refine wpI_lone rfl (by kernel_rfl) (fun K hK => ?_)
    go_simp
    obtain ⟨v4, gz, hn, hg, bq, xq⟩ := new_box v3 (ar Z) 5
    have HLHZ1 := Lib.hid (show wd.heap.size ≤ gz from hg ▸ HB.out.size)
    rw [hn, hg]
    replace HB := Lib.hid (HB.out.trans (bq.mono HB.out.size))
    replace HY0 := Lib.hid (HY0.out.bel bq)
    replace HP := Lib.hid (HP.out.below bq HP.out.lt)
    replace HA := Lib.hid (HA.out.below bq HA.out.lt)
    have HZ1 := Lib.hid xq
    refine hK _ _ HB.out ?_
    clear hK K hn hg xq bq
    try simp only [Act.put, List.setIfInBounds_toArray, List.set_cons_zero, List.set_cons_succ]
    refine wpI_turn [2, 3, 4, 5, 6, 9, 10, 11] rfl ?_
    refine wpI_lone rfl (by kernel_rfl) (fun K hK => ?_)
    go_simp
    have HC := Lib.hid (HC1.out gz y0 v4 HY0.out HZ1.out)
    refine HC.out.mono ?_
    rintro ev v5 ⟨y1, rfl, hy, _, b9⟩
    replace HB := Lib.hid (HB.out.trans (b9.mono HB.out.size))
    replace HY0 := Lib.hid (HY0.out.bel b9)
    replace HP := Lib.hid (HP.out.below b9 HP.out.lt)
    replace HA := Lib.hid (HA.out.below b9 HA.out.lt)
    replace HZ1 := Lib.hid (HZ1.out.below b9 HZ1.out.lt)
    have HY1 := Lib.hid hy
    clear hy
    simp only [stV, ptV]
    refine hK _ _ HB.out ?_
    clear hK K b9 HC
    try simp only [Act.put, List.setIfInBounds_toArray, List.set_cons_zero, List.set_cons_succ]
    refine wpI_turn [3, 4, 5, 6, 9, 10, 11] rfl ?_
    iterate 4 (
      refine wpI_read (v := ?_) HB.out rfl (by kernel_rfl) (by kernel_rfl) (by kernel_rfl) (fun _ _ _ h => h) (.inl ⟨by rfl, ?_⟩) ?_
      rotate_left
      · intro X hX
        clear hX
        go_simp
        with_reducible rfl
      try simp only [Act.put, List.setIfInBounds_toArray, List.set_cons_zero, List.set_cons_succ])
    rotate_left
    go_simp
    obtain ⟨v1, gz, hn, hg, bq, xq⟩ := new_box wd (ar Z) 5
    have HLHZ1 := Lib.hid (show wd.heap.size ≤ gz from hg ▸ HB.out.size)
    rw [hn, hg]
    replace HB := Lib.hid (HB.out.trans (bq.mono HB.out.size))
    have HZ1 := Lib.hid xq
    refine hK _ _ HB.out ?_
    clear hK K hn hg xq bq
    try simp only [Act.put, List.setIfInBounds_toArray, List.set_cons_zero, List.set_cons_succ]
    refine wpI_turn [0, 7, 8, 2, 3, 4, 5, 6, 9, 10, 11] rfl ?_
    refine wpI_fork3 rfl rfl rfl (by kernel_rfl) (fun K hK => ?_) (fun K hK => ?_) (fun K hK => ?_)
    go_simp
    have HC := Lib.hid (stNew_any v1)
    refine HC.out.mono ?_
    rintro ev v2 ⟨y0, rfl, hy, _, b9⟩
    replace HB := Lib.hid (HB.out.trans (b9.mono HB.out.size))
    replace HZ1 := Lib.hid (HZ1.out.below b9 HZ1.out.lt)
    have HY0 := Lib.hid hy
    clear hy
    simp only [stV]
    refine hK _ _ HB.out ?_
    clear hK K b9 HC
    try simp only [Act.put, List.setIfInBounds_toArray, List.set_cons_zero, List.set_cons_succ]
    refine wpI_turn [2, 7, 8, 3, 4, 5, 6, 9, 10, 11] rfl ?_
    refine wpI_fork3 rfl rfl rfl (by kernel_rfl) (fun K hK => ?_) (fun K hK => ?_) (fun K hK => ?_)
    go_simp
    have HC := Lib.hid (HC1.out gz y0 v2 HY0.out HZ1.out)
    refine HC.out.mono ?_
    rintro ev v3 ⟨y1, rfl, hy, _, b9⟩
    replace HB := Lib.hid (HB.out.trans (b9.mono HB.out.size))
    replace HZ1 := Lib.hid (HZ1.out.below b9 HZ1.out.lt)
    replace HY0 := Lib.hid (HY0.out.bel b9)
    have HY1 := Lib.hid hy
    clear hy
    simp only [stV, ptV]
    refine hK _ _ HB.out ?_
    clear hK K b9 HC
    try simp only [Act.put, List.setIfInBounds_toArray, List.set_cons_zero, List.set_cons_succ]
    refine wpI_turn [3, 4, 5, 6, 7, 8, 9, 10, 11] rfl ?_
    iterate 4 (
      refine wpI_read (v := ?_) HB.out rfl (by kernel_rfl) (by kernel_rfl) (by kernel_rfl) (fun _ _ _ h => h) (.inl ⟨by rfl, ?_⟩) ?_
      rotate_left
      · intro X hX
        clear hX
        go_simp
        with_reducible rfl
      try simp only [Act.put, List.setIfInBounds_toArray, List.set_cons_zero, List.set_cons_succ])
    refine wpI_turn [7, 8, 9, 10, 11] rfl ?_
    refine wpI_fork rfl rfl (by kernel_rfl) (fun K hK => ?_) (fun K hK => ?_)
    go_simp
    obtain ⟨v4, gA, hn, hg, bq, xq⟩ := new_box v3 stZ 30
    have HLHA := Lib.hid (show wd.heap.size ≤ gA from hg ▸ HB.out.size)
    rw [hn, hg]
    replace HB := Lib.hid (HB.out.trans (bq.mono HB.out.size))
    replace HZ1 := Lib.hid (HZ1.out.below bq HZ1.out.lt)
    replace HY0 := Lib.hid (HY0.out.bel bq)
    replace HY1 := Lib.hid (HY1.out.bel bq)
    have HA := Lib.hid xq
    refine hK _ _ HB.out ?_
    clear hK K hn hg xq bq
    try simp only [Act.put, List.setIfInBounds_toArray, List.set_cons_zero, List.set_cons_succ]
    refine wpI_turn [8, 9, 10, 11] rfl ?_
    refine wpI_lone rfl (by kernel_rfl) (fun K hK => ?_)
    go_simp
    obtain ⟨v5, gB, hn, hg, bq, xq⟩ := new_box v4 ptZ 32
    have HLHP := Lib.hid (show wd.heap.size ≤ gB from hg ▸ HB.out.size)
    rw [hn, hg]
    replace HB := Lib.hid (HB.out.trans (bq.mono HB.out.size))
    replace HZ1 := Lib.hid (HZ1.out.below bq HZ1.out.lt)
    replace HY0 := Lib.hid (HY0.out.bel bq)
    replace HY1 := Lib.hid (HY1.out.bel bq)
    replace HA := Lib.hid (HA.out.below bq HA.out.lt)
    have HP := Lib.hid xq
    refine hK _ _ HB.out ?_
    clear hK K hn hg xq bq
    try simp only [Act.put, List.setIfInBounds_toArray, List.set_cons_zero, List.set_cons_succ]
    rotate_left
    go_simp
    obtain ⟨v4, gB, hn, hg, bq, xq⟩ := new_box v3 ptZ 32
    have HLHP := Lib.hid (show wd.heap.size ≤ gB from hg ▸ HB.out.size)
    rw [hn, hg]
    replace HB := Lib.hid (HB.out.trans (bq.mono HB.out.size))
    replace HZ1 := Lib.hid (HZ1.out.below bq HZ1.out.lt)
    replace HY0 := Lib.hid (HY0.out.bel bq)
    replace HY1 := Lib.hid (HY1.out.bel bq)
    have HP := Lib.hid xq
    refine hK _ _ HB.out ?_
    clear hK K hn hg xq bq
    try simp only [Act.put, List.setIfInBounds_toArray, List.set_cons_zero, List.set_cons_succ]
    refine wpI_turn [7, 9, 10, 11] rfl ?_
    refine wpI_lone rfl (by kernel_rfl) (fun K hK => ?_)
    go_simp
    obtain ⟨v5, gA, hn, hg, bq, xq⟩ := new_box v4 stZ 30
    have HLHA := Lib.hid (show wd.heap.size ≤ gA from hg ▸ HB.out.size)
    rw [hn, hg]
    replace HB := Lib.hid (HB.out.trans (bq.mono HB.out.size))
    replace HZ1 := Lib.hid (HZ1.out.below bq HZ1.out.lt)
    replace HY0 := Lib.hid (HY0.out.bel bq)
    replace HY1 := Lib.hid (HY1.out.bel bq)
    replace HP := Lib.hid (HP.out.below bq HP.out.lt)
    have HA := Lib.hid xq
    refine hK _ _ HB.out ?_
    clear hK K hn hg xq bq
    try simp only [Act.put, List.setIfInBounds_toArray, List.set_cons_zero, List.set_cons_succ]
    rotate_left
    go_simp
    obtain ⟨v3, gA, hn, hg, bq, xq⟩ := new_box v2 stZ 30
    have HLHA := Lib.hid (show wd.heap.size ≤ gA from hg ▸ HB.out.size)
    rw [hn, hg]
    replace HB := Lib.hid (HB.out.trans (bq.mono HB.out.size))
    replace HZ1 := Lib.hid (HZ1.out.below bq HZ1.out.lt)
    replace HY0 := Lib.hid (HY0.out.bel bq)
    have HA := Lib.hid xq
    refine hK _ _ HB.out ?_
    clear hK K hn hg xq bq
    try simp only [Act.put, List.setIfInBounds_toArray, List.set_cons_zero, List.set_cons_succ]
    refine wpI_turn [2, 8, 3, 4, 5, 6, 9, 10, 11] rfl ?_
    refine wpI_fork rfl rfl (by kernel_rfl) (fun K hK => ?_) (fun K hK => ?_)
    go_simp
    have HC := Lib.hid (HC1.out gz y0 v3 HY0.out HZ1.out)
    refine HC.out.mono ?_
    rintro ev v4 ⟨y1, rfl, hy, _, b9⟩
    replace HB := Lib.hid (HB.out.trans (b9.mono HB.out.size))
    replace HZ1 := Lib.hid (HZ1.out.below b9 HZ1.out.lt)
    replace HY0 := Lib.hid (HY0.out.bel b9)
    replace HA := Lib.hid (HA.out.below b9 HA.out.lt)
    have HY1 := Lib.hid hy
    clear hy
    simp only [stV, ptV]
    refine hK _ _ HB.out ?_
    clear hK K b9 HC
    try simp only [Act.put, List.setIfInBounds_toArray, List.set_cons_zero, List.set_cons_succ]
    refine wpI_turn [3, 4, 5, 6, 8, 9, 10, 11] rfl ?_
    iterate 4 (
      refine wpI_read (v := ?_) HB.out rfl (by kernel_rfl) (by kernel_rfl) (by kernel_rfl) (fun _ _ _ h => h) (.inl ⟨by rfl, ?_⟩) ?_
      rotate_left
      · intro X hX
        clear hX
        go_simp
        with_reducible rfl
      try simp only [Act.put, List.setIfInBounds_toArray, List.set_cons_zero, List.set_cons_succ])
    refine wpI_turn [8, 9, 10, 11] rfl ?_
    refine wpI_lone rfl (by kernel_rfl) (fun K hK => ?_)
    go_simp
    obtain ⟨v5, gB, hn, hg, bq, xq⟩ := new_box v4 ptZ 32
    have HLHP := Lib.hid (show wd.heap.size ≤ gB from hg ▸ HB.out.size)
    rw [hn, hg]
    replace HB := Lib.hid (HB.out.trans (bq.mono HB.out.size))
    replace HZ1 := Lib.hid (HZ1.out.below bq HZ1.out.lt)
    replace HY0 := Lib.hid (HY0.out.bel bq)
    replace HA := Lib.hid (HA.out.below bq HA.out.lt)
    replace HY1 := Lib.hid (HY1.out.bel bq)
    have HP := Lib.hid xq
    refine hK _ _ HB.out ?_
    clear hK K hn hg xq bq
    try simp only [Act.put, List.setIfInBounds_toArray, List.set_cons_zero, List.set_cons_succ]
    rotate_left
    go_simp
    obtain ⟨v4, gB, hn, hg, bq, xq⟩ := new_box v3 ptZ 32
    have HLHP := Lib.hid (show wd.heap.size ≤ gB from hg ▸ HB.out.size)
    rw [hn, hg]
    replace HB := Lib.hid (HB.out.trans (bq.mono HB.out.size))
    replace HZ1 := Lib.hid (HZ1.out.below bq HZ1.out.lt)
    replace HY0 := Lib.hid (HY0.out.bel bq)
    replace HA := Lib.hid (HA.out.below bq HA.out.lt)
    have HP := Lib.hid xq
    refine hK _ _ HB.out ?_
    clear hK K hn hg xq bq
    try simp only [Act.put, List.setIfInBounds_toArray, List.set_cons_zero, List.set_cons_succ]
    refine wpI_turn [2, 3, 4, 5, 6, 9, 10, 11] rfl ?_
    refine wpI_lone rfl (by kernel_rfl) (fun K hK => ?_)
    go_simp
    have HC := Lib.hid (HC1.out gz y0 v4 HY0.out HZ1.out)
    refine HC.out.mono ?_
    rintro ev v5 ⟨y1, rfl, hy, _, b9⟩
    replace HB := Lib.hid (HB.out.trans (b9.mono HB.out.size))
    replace HZ1 := Lib.hid (HZ1.out.below b9 HZ1.out.lt)
    replace HY0 := Lib.hid (HY0.out.bel b9)
    replace HA := Lib.hid (HA.out.below b9 HA.out.lt)
    replace HP := Lib.hid (HP.out.below b9 HP.out.lt)
    have HY1 := Lib.hid hy
    clear hy
    simp only [stV, ptV]
    refine hK _ _ HB.out ?_
    clear hK K b9 HC
    try simp only [Act.put, List.setIfInBounds_toArray, List.set_cons_zero, List.set_cons_succ]
    refine wpI_turn [3, 4, 5, 6, 9, 10, 11] rfl ?_
    iterate 4 (
      refine wpI_read (v := ?_) HB.out rfl (by kernel_rfl) (by kernel_rfl) (by kernel_rfl) (fun _ _ _ h => h) (.inl ⟨by rfl, ?_⟩) ?_
      rotate_left
      · intro X hX
        clear hX
        go_simp
        with_reducible rfl
      try simp only [Act.put, List.setIfInBounds_toArray, List.set_cons_zero, List.set_cons_succ])
    rotate_left
    go_simp
    obtain ⟨v3, gB, hn, hg, bq, xq⟩ := new_box v2 ptZ 32
    have HLHP := Lib.hid (show wd.heap.size ≤ gB from hg ▸ HB.out.size)
    rw [hn, hg]
    replace HB := Lib.hid (HB.out.trans (bq.mono HB.out.size))
    replace HZ1 := Lib.hid (HZ1.out.below bq HZ1.out.lt)
    replace HY0 := Lib.hid (HY0.out.bel bq)
    have HP := Lib.hid xq
    refine hK _ _ HB.out ?_
    clear hK K hn hg xq bq
    try simp only [Act.put, List.setIfInBounds_toArray, List.set_cons_zero, List.set_cons_succ]
    refine wpI_turn [2, 7, 3, 4, 5, 6, 9, 10, 11] rfl ?_
    refine wpI_fork rfl rfl (by kernel_rfl) (fun K hK => ?_) (fun K hK => ?_)
    go_simp
    have HC := Lib.hid (HC1.out gz y0 v3 HY0.out HZ1.out)
    refine HC.out.mono ?_
    rintro ev v4 ⟨y1, rfl, hy, _, b9⟩
    replace HB := Lib.hid (HB.out.trans (b9.mono HB.out.size))
    replace HZ1 := Lib.hid (HZ1.out.below b9 HZ1.out.lt)
    replace HY0 := Lib.hid (HY0.out.bel b9)
    replace HP := Lib.hid (HP.out.below b9 HP.out.lt)
    have HY1 := Lib.hid hy
    clear hy
    simp only [stV, ptV]
    refine hK _ _ HB.out ?_
    clear hK K b9 HC
    try simp only [Act.put, List.setIfInBounds_toArray, List.set_cons_zero, List.set_cons_succ]
    refine wpI_turn [3, 4, 5, 6, 7, 9, 10, 11] rfl ?_
    iterate 4 (
      refine wpI_read (v := ?_) HB.out rfl (by kernel_rfl) (by kernel_rfl) (by kernel_rfl) (fun _ _ _ h => h) (.inl ⟨by rfl, ?_⟩) ?_
      rotate_left
      · intro X hX
        clear hX
        go_simp
        with_reducible rfl
      try simp only [Act.put, List.setIfInBounds_toArray, List.set_cons_zero, List.set_cons_succ])
    refine wpI_turn [7, 9, 10, 11] rfl ?_
    refine wpI_lone rfl (by kernel_rfl) (fun K hK => ?_)
    go_simp
    obtain ⟨v5, gA, hn, hg, bq, xq⟩ := new_box v4 stZ 30
    have HLHA := Lib.hid (show wd.heap.size ≤ gA from hg ▸ HB.out.size)
    rw [hn, hg]
    replace HB := Lib.hid (HB.out.trans (bq.mono HB.out.size))
    replace HZ1 := Lib.hid (HZ1.out.below bq HZ1.out.lt)
    replace HY0 := Lib.hid (HY0.out.bel bq)
    replace HP := Lib.hid (HP.out.below bq HP.out.lt)
    replace HY1 := Lib.hid (HY1.out.bel bq)
    have HA := Lib.hid xq
    refine hK _ _ HB.out ?_
    clear hK K hn hg xq bq
    try simp only [Act.put, List.setIfInBounds_toArray, List.set_cons_zero, List.set_cons_succ]
    rotate_left
    go_simp
    obtain ⟨v4, gA, hn, hg, bq, xq⟩ := new_box v3 stZ 30
    have HLHA := Lib.hid (show wd.heap.size ≤ gA from hg ▸ HB.out.size)
    rw [hn, hg]
    replace HB := Lib.hid (HB.out.trans (bq.mono HB.out.size))
    replace HZ1 := Lib.hid (HZ1.out.below bq HZ1.out.lt)
    replace HY0 := Lib.hid (HY0.out.bel bq)
    replace HP := Lib.hid (HP.out.below bq HP.out.lt)
    have HA := Lib.hid xq
    refine hK _ _ HB.out ?_
    clear hK K hn hg xq bq
    try simp only [Act.put, List.setIfInBounds_toArray, List.set_cons_zero, List.set_cons_succ]
    refine wpI_turn [2, 3, 4, 5, 6, 9, 10, 11] rfl ?_
    refine wpI_lone rfl (by kernel_rfl) (fun K hK => ?_)
    go_simp
    have HC := Lib.hid (HC1.out gz y0 v4 HY0.out HZ1.out)
    refine HC.out.mono ?_
    rintro ev v5 ⟨y1, rfl, hy, _, b9⟩
    replace HB := Lib.hid (HB.out.trans (b9.mono HB.out.size))
    replace HZ1 := Lib.hid (HZ1.out.below b9 HZ1.out.lt)
    replace HY0 := Lib.hid (HY0.out.bel b9)
    replace HP := Lib.hid (HP.out.below b9 HP.out.lt)
    replace HA := Lib.hid (HA.out.below b9 HA.out.lt)
    have HY1 := Lib.hid hy
    clear hy
    simp only [stV, ptV]
    refine hK _ _ HB.out ?_
    clear hK K b9 HC
    try simp only [Act.put, List.setIfInBounds_toArray, List.set_cons_zero, List.set_cons_succ]
    refine wpI_turn [3, 4, 5, 6, 9, 10, 11] rfl ?_
    iterate 4 (
      refine wpI_read (v := ?_) HB.out rfl (by kernel_rfl) (by kernel_rfl) (by kernel_rfl) (fun _ _ _ h => h) (.inl ⟨by rfl, ?_⟩) ?_
      rotate_left
      · intro X hX
        clear hX
        go_simp
        with_reducible rfl
      try simp only [Act.put, List.setIfInBounds_toArray, List.set_cons_zero, List.set_cons_succ])
    rotate_left
    go_simp
    obtain ⟨v2, gA, hn, hg, bq, xq⟩ := new_box v1 stZ 30
    have HLHA := Lib.hid (show wd.heap.size ≤ gA from hg ▸ HB.out.size)
    rw [hn, hg]
    replace HB := Lib.hid (HB.out.trans (bq.mono HB.out.size))
    replace HZ1 := Lib.hid (HZ1.out.below bq HZ1.out.lt)
    have HA := Lib.hid xq
    refine hK _ _ HB.out ?_
    clear hK K hn hg xq bq
    try simp only [Act.put, List.setIfInBounds_toArray, List.set_cons_zero, List.set_cons_succ]
    refine wpI_turn [0, 8, 2, 3, 4, 5, 6, 9, 10, 11] rfl ?_
    refine wpI_fork rfl rfl (by kernel_rfl) (fun K hK => ?_) (fun K hK => ?_)
    go_simp
    have HC := Lib.hid (stNew_any v2)
    refine HC.out.mono ?_
    rintro ev v3 ⟨y0, rfl, hy, _, b9⟩
    replace HB := Lib.hid (HB.out.trans (b9.mono HB.out.size))
    replace HZ1 := Lib.hid (HZ1.out.below b9 HZ1.out.lt)
    replace HA := Lib.hid (HA.out.below b9 HA.out.lt)
    have HY0 := Lib.hid hy
    clear hy
    simp only [stV]
    refine hK _ _ HB.out ?_
    clear hK K b9 HC
    try simp only [Act.put, List.setIfInBounds_toArray, List.set_cons_zero, List.set_cons_succ]
    refine wpI_turn [2, 8, 3, 4, 5, 6, 9, 10, 11] rfl ?_
    refine wpI_fork rfl rfl (by kernel_rfl) (fun K hK => ?_) (fun K hK => ?_)
    go_simp
    have HC := Lib.hid (HC1.out gz y0 v3 HY0.out HZ1.out)
    refine HC.out.mono ?_
    rintro ev v4 ⟨y1, rfl, hy, _, b9⟩
    replace HB := Lib.hid (HB.out.trans (b9.mono HB.out.size))
    replace HZ1 := Lib.hid (HZ1.out.below b9 HZ1.out.lt)
    replace HA := Lib.hid (HA.out.below b9 HA.out.lt)
    replace HY0 := Lib.hid (HY0.out.bel b9)
    have HY1 := Lib.hid hy
    clear hy
    simp only [stV, ptV]
    refine hK _ _ HB.out ?_
    clear hK K b9 HC
    try simp only [Act.put, List.setIfInBounds_toArray, List.set_cons_zero, List.set_cons_succ]
    refine wpI_turn [3, 4, 5, 6, 8, 9, 10, 11] rfl ?_
    iterate 4 (
      refine wpI_read (v := ?_) HB.out rfl (by kernel_rfl) (by kernel_rfl) (by kernel_rfl) (fun _ _ _ h => h) (.inl ⟨by rfl, ?_⟩) ?_
      rotate_left
      · intro X hX
        clear hX
        go_simp
        with_reducible rfl
      try simp only [Act.put, List.setIfInBounds_toArray, List.set_cons_zero, List.set_cons_succ])
    refine wpI_turn [8, 9, 10, 11] rfl ?_
    refine wpI_lone rfl (by kernel_rfl) (fun K hK => ?_)
    go_simp
    obtain ⟨v5, gB, hn, hg, bq, xq⟩ := new_box v4 ptZ 32
    have HLHP := Lib.hid (show wd.heap.size ≤ gB from hg ▸ HB.out.size)
    rw [hn, hg]
    replace HB := Lib.hid (HB.out.trans (bq.mono HB.out.size))
    replace HZ1 := Lib.hid (HZ1.out.below bq HZ1.out.lt)
    replace HA := Lib.hid (HA.out.below bq HA.out.lt)
    replace HY0 := Lib.hid (HY0.out.bel bq)
    replace HY1 := Lib.hid (HY1.out.bel bq)
    have HP := Lib.hid xq
    refine hK _ _ HB.out ?_
    clear hK K hn hg xq bq
    try simp only [Act.put, List.setIfInBounds_toArray, List.set_cons_zero, List.set_cons_succ]
    rotate_left
    go_simp
    obtain ⟨v4, gB, hn, hg, bq, xq⟩ := new_box v3 ptZ 32
    have HLHP := Lib.hid (show wd.heap.size ≤ gB from hg ▸ HB.out.size)
    rw [hn, hg]
    replace HB := Lib.hid (HB.out.trans (bq.mono HB.out.size))
    replace HZ1 := Lib.hid (HZ1.out.below bq HZ1.out.lt)
    replace HA := Lib.hid (HA.out.below bq HA.out.lt)
    replace HY0 := Lib.hid (HY0.out.bel bq)
    have HP := Lib.hid xq
    refine hK _ _ HB.out ?_
    clear hK K hn hg xq bq
    try simp only [Act.put, List.setIfInBounds_toArray, List.set_cons_zero, List.set_cons_succ]
    refine wpI_turn [2, 3, 4, 5, 6, 9, 10, 11] rfl ?_
    refine wpI_lone rfl (by kernel_rfl) (fun K hK => ?_)
    go_simp
    have HC := Lib.hid (HC1.out gz y0 v4 HY0.out HZ1.out)
    refine HC.out.mono ?_
    rintro ev v5 ⟨y1, rfl, hy, _, b9⟩
    replace HB := Lib.hid (HB.out.trans (b9.mono HB.out.size))
    replace HZ1 := Lib.hid (HZ1.out.below b9 HZ1.out.lt)
    replace HA := Lib.hid (HA.out.below b9 HA.out.lt)
    replace HY0 := Lib.hid (HY0.out.bel b9)
    replace HP := Lib.hid (HP.out.below b9 HP.out.lt)
    have HY1 := Lib.hid hy
    clear hy
    simp only [stV, ptV]
    refine hK _ _ HB.out ?_
    clear hK K b9 HC
    try simp only [Act.put, List.setIfInBounds_toArray, List.set_cons_zero, List.set_cons_succ]
    refine wpI_turn [3, 4, 5, 6, 9, 10, 11] rfl ?_
    iterate 4 (
      refine wpI_read (v := ?_) HB.out rfl (by kernel_rfl) (by kernel_rfl) (by kernel_rfl) (fun _ _ _ h => h) (.inl ⟨by rfl, ?_⟩) ?_
      rotate_left
      · intro X hX
        clear hX
        go_simp
        with_reducible rfl
      try simp only [Act.put, List.setIfInBounds_toArray, List.set_cons_zero, List.set_cons_succ])
    rotate_left
    go_simp
    obtain ⟨v3, gB, hn, hg, bq, xq⟩ := new_box v2 ptZ 32
    have HLHP := Lib.hid (show wd.heap.size ≤ gB from hg ▸ HB.out.size)
    rw [hn, hg]
    replace HB := Lib.hid (HB.out.trans (bq.mono HB.out.size))
    replace HZ1 := Lib.hid (HZ1.out.below bq HZ1.out.lt)
    replace HA := Lib.hid (HA.out.below bq HA.out.lt)
    have HP := Lib.hid xq
    refine hK _ _ HB.out ?_
    clear hK K hn hg xq bq
    try simp only [Act.put, List.setIfInBounds_toArray, List.set_cons_zero, List.set_cons_succ]
    refine wpI_turn [0, 2, 3, 4, 5, 6, 9, 10, 11] rfl ?_
    refine wpI_lone rfl (by kernel_rfl) (fun K hK => ?_)
    go_simp
    have HC := Lib.hid (stNew_any v3)
    refine HC.out.mono ?_
    rintro ev v4 ⟨y0, rfl, hy, _, b9⟩
    replace HB := Lib.hid (HB.out.trans (b9.mono HB.out.size))
    replace HZ1 := Lib.hid (HZ1.out.below b9 HZ1.out.lt)
    replace HA := Lib.hid (HA.out.below b9 HA.out.lt)
    replace HP := Lib.hid (HP.out.below b9 HP.out.lt)
    have HY0 := Lib.hid hy
    clear hy
    simp only [stV]
    refine hK _ _ HB.out ?_
    clear hK K b9 HC
    try simp only [Act.put, List.setIfInBounds_toArray, List.set_cons_zero, List.set_cons_succ]
    refine wpI_turn [2, 3, 4, 5, 6, 9, 10, 11] rfl ?_
    refine wpI_lone rfl (by kernel_rfl) (fun K hK => ?_)
    go_simp
    have HC := Lib.hid (HC1.out gz y0 v4 HY0.out HZ1.out)
    refine HC.out.mono ?_
    rintro ev v5 ⟨y1, rfl, hy, _, b9⟩
    replace HB := Lib.hid (HB.out.trans (b9.mono HB.out.size))
    replace HZ1 := Lib.hid (HZ1.out.below b9 HZ1.out.lt)
    replace HA := Lib.hid (HA.out.below b9 HA.out.lt)
    replace HP := Lib.hid (HP.out.below b9 HP.out.lt)
    replace HY0 := Lib.hid (HY0.out.bel b9)
    have HY1 := Lib.hid hy
    clear hy
    simp only [stV, ptV]
    refine hK _ _ HB.out ?_
    clear hK K b9 HC
    try simp only [Act.put, List.setIfInBounds_toArray, List.set_cons_zero, List.set_cons_succ]
    refine wpI_turn [3, 4, 5, 6, 9, 10, 11] rfl ?_
    iterate 4 (
      refine wpI_read (v := ?_) HB.out rfl (by kernel_rfl) (by kernel_rfl) (by kernel_rfl) (fun _ _ _ h => h) (.inl ⟨by rfl, ?_⟩) ?_
      rotate_left
      · intro X hX
        clear hX
        go_simp
        with_reducible rfl
      try simp only [Act.put, List.setIfInBounds_toArray, List.set_cons_zero, List.set_cons_succ])
    rotate_left
    go_simp
    obtain ⟨v2, gB, hn, hg, bq, xq⟩ := new_box v1 ptZ 32
    have HLHP := Lib.hid (show wd.heap.size ≤ gB from hg ▸ HB.out.size)
    rw [hn, hg]
    replace HB := Lib.hid (HB.out.trans (bq.mono HB.out.size))
    replace HZ1 := Lib.hid (HZ1.out.below bq HZ1.out.lt)
    have HP := Lib.hid xq
    refine hK _ _ HB.out ?_
    clear hK K hn hg xq bq
    try simp only [Act.put, List.setIfInBounds_toArray, List.set_cons_zero, List.set_cons_succ]
    refine wpI_turn [0, 7, 2, 3, 4, 5, 6, 9, 10, 11] rfl ?_
    refine wpI_fork rfl rfl (by kernel_rfl) (fun K hK => ?_) (fun K hK => ?_)
    go_simp
    have HC := Lib.hid (stNew_any v2)
    refine HC.out.mono ?_
    rintro ev v3 ⟨y0, rfl, hy, _, b9⟩
    replace HB := Lib.hid (HB.out.trans (b9.mono HB.out.size))
    replace HZ1 := Lib.hid (HZ1.out.below b9 HZ1.out.lt)
    replace HP := Lib.hid (HP.out.below b9 HP.out.lt)
    have HY0 := Lib.hid hy
    clear hy
    simp only [stV]
    refine hK _ _ HB.out ?_
    clear hK K b9 HC
    try simp only [Act.put, List.setIfInBounds_toArray, List.set_cons_zero, List.set_cons_succ]
    refine wpI_turn [2, 7, 3, 4, 5, 6, 9, 10, 11] rfl ?_
    refine wpI_fork rfl rfl (by kernel_rfl) (fun K hK => ?_) (fun K hK => ?_)
    go_simp
    have HC := Lib.hid (HC1.out gz y0 v3 HY0.out HZ1.out)
    refine HC.out.mono ?_
    rintro ev v4 ⟨y1, rfl, hy, _, b9⟩
    replace HB := Lib.hid (HB.out.trans (b9.mono HB.out.size))
    replace HZ1 := Lib.hid (HZ1.out.below b9 HZ1.out.lt)
    replace HP := Lib.hid (HP.out.below b9 HP.out.lt)
    replace HY0 := Lib.hid (HY0.out.bel b9)
    have HY1 := Lib.hid hy
    clear hy
    simp only [stV, ptV]
    refine hK _ _ HB.out ?_
    clear hK K b9 HC
    try simp only [Act.put, List.setIfInBounds_toArray, List.set_cons_zero, List.set_cons_succ]
    refine wpI_turn [3, 4, 5, 6, 7, 9, 10, 11] rfl ?_
    iterate 4 (
      refine wpI_read (v := ?_) HB.out rfl (by kernel_rfl) (by kernel_rfl) (by kernel_rfl) (fun _ _ _ h => h) (.inl ⟨by rfl, ?_⟩) ?_
      rotate_left
      · intro X hX
        clear hX
        go_simp
        with_reducible rfl
      try simp only [Act.put, List.setIfInBounds_toArray, List.set_cons_zero, List.set_cons_succ])
    refine wpI_turn [7, 9, 10, 11] rfl ?_
    refine wpI_lone rfl (by kernel_rfl) (fun K hK => ?_)
    go_simp
    obtain ⟨v5, gA, hn, hg, bq, xq⟩ := new_box v4 stZ 30
    have HLHA := Lib.hid (show wd.heap.size ≤ gA from hg ▸ HB.out.size)
    rw [hn, hg]
    replace HB := Lib.hid (HB.out.trans (bq.mono HB.out.size))
    replace HZ1 := Lib.hid (HZ1.out.below bq HZ1.out.lt)
    replace HP := Lib.hid (HP.out.below bq HP.out.lt)
    replace HY0 := Lib.hid (HY0.out.bel bq)
    replace HY1 := Lib.hid (HY1.out.bel bq)
    have HA := Lib.hid xq
    refine hK _ _ HB.out ?_
    clear hK K hn hg xq bq
    try simp only [Act.put, List.setIfInBounds_toArray, List.set_cons_zero, List.set_cons_succ]
    rotate_left
    go_simp
    obtain ⟨v4, gA, hn, hg, bq, xq⟩ := new_box v3 stZ 30
    have HLHA := Lib.hid (show wd.heap.size ≤ gA from hg ▸ HB.out.size)
    rw [hn, hg]
    replace HB := Lib.hid (HB.out.trans (bq.mono HB.out.size))
    replace HZ1 := Lib.hid (HZ1.out.below bq HZ1.out.lt)
    replace HP := Lib.hid (HP.out.below bq HP.out.lt)
    replace HY0 := Lib.hid (HY0.out.bel bq)
    have HA := Lib.hid xq
    refine hK _ _ HB.out ?_
    clear hK K hn hg xq bq
    try simp only [Act.put, List.setIfInBounds_toArray, List.set_cons_zero, List.set_cons_succ]
    refine wpI_turn [2, 3, 4, 5, 6, 9, 10, 11] rfl ?_
    refine wpI_lone rfl (by kernel_rfl) (fun K hK => ?_)
    go_simp
    have HC := Lib.hid (HC1.out gz y0 v4 HY0.out HZ1.out)
    refine HC.out.mono ?_
    rintro ev v5 ⟨y1, rfl, hy, _, b9⟩
    replace HB := Lib.hid (HB.out.trans (b9.mono HB.out.size))
    replace HZ1 := Lib.hid (HZ1.out.below b9 HZ1.out.lt)
    replace HP := Lib.hid (HP.out.below b9 HP.out.lt)
    replace HY0 := Lib.hid (HY0.out.bel b9)
    replace HA := Lib.hid (HA.out.below b9 HA.out.lt)
    have HY1 := Lib.hid hy
    clear hy
    simp only [stV, ptV]
    refine hK _ _ HB.out ?_
    clear hK K b9 HC
    try simp only [Act.put, List.setIfInBounds_toArray, List.set_cons_zero, List.set_cons_succ]
    refine wpI_turn [3, 4, 5, 6, 9, 10, 11] rfl ?_
    iterate 4 (
      refine wpI_read (v := ?_) HB.out rfl (by kernel_rfl) (by kernel_rfl) (by kernel_rfl) (fun _ _ _ h => h) (.inl ⟨by rfl, ?_⟩) ?_
      rotate_left
      · intro X hX
        clear hX
        go_simp
        with_reducible rfl
      try simp only [Act.put, List.setIfInBounds_toArray, List.set_cons_zero, List.set_cons_succ])
    rotate_left
    go_simp
    obtain ⟨v3, gA, hn, hg, bq, xq⟩ := new_box v2 stZ 30
    have HLHA := Lib.hid (show wd.heap.size ≤ gA from hg ▸ HB.out.size)
    rw [hn, hg]
    replace HB := Lib.hid (HB.out.trans (bq.mono HB.out.size))
    replace HZ1 := Lib.hid (HZ1.out.below bq HZ1.out.lt)
    replace HP := Lib.hid (HP.out.below bq HP.out.lt)
    have HA := Lib.hid xq
    refine hK _ _ HB.out ?_
    clear hK K hn hg xq bq
    try simp only [Act.put, List.setIfInBounds_toArray, List.set_cons_zero, List.set_cons_succ]
    refine wpI_turn [0, 2, 3, 4, 5, 6, 9, 10, 11] rfl ?_
    refine wpI_lone rfl (by kernel_rfl) (fun K hK => ?_)
    go_simp
    have HC := Lib.hid (stNew_any v3)
    refine HC.out.mono ?_
    rintro ev v4 ⟨y0, rfl, hy, _, b9⟩
    replace HB := Lib.hid (HB.out.trans (b9.mono HB.out.size))
    replace HZ1 := Lib.hid (HZ1.out.below b9 HZ1.out.lt)
    replace HP := Lib.hid (HP.out.below b9 HP.out.lt)
    replace HA := Lib.hid (HA.out.below b9 HA.out.lt)
    have HY0 := Lib.hid hy
    clear hy
    simp only [stV]
    refine hK _ _ HB.out ?_
    clear hK K b9 HC
    try simp only [Act.put, List.setIfInBounds_toArray, List.set_cons_zero, List.set_cons_succ]
    refine wpI_turn [2, 3, 4, 5, 6, 9, 10, 11] rfl ?_
    refine wpI_lone rfl (by kernel_rfl) (fun K hK => ?_)
    go_simp
    have HC := Lib.hid (HC1.out gz y0 v4 HY0.out HZ1.out)
    refine HC.out.mono ?_
    rintro ev v5 ⟨y1, rfl, hy, _, b9⟩
    replace HB := Lib.hid (HB.out.trans (b9.mono HB.out.size))
    replace HZ1 := Lib.hid (HZ1.out.below b9 HZ1.out.lt)
    replace HP := Lib.hid (HP.out.below b9 HP.out.lt)
    replace HA := Lib.hid (HA.out.below b9 HA.out.lt)
    replace HY0 := Lib.hid (HY0.out.bel b9)
    have HY1 := Lib.hid hy
    clear hy
    simp only [stV, ptV]
    refine hK _ _ HB.out ?_
    clear hK K b9 HC
    try simp only [Act.put, List.setIfInBounds_toArray, List.set_cons_zero, List.set_cons_succ]
    refine wpI_turn [3, 4, 5, 6, 9, 10, 11] rfl ?_
    iterate 4 (
      refine wpI_read (v := ?_) HB.out rfl (by kernel_rfl) (by kernel_rfl) (by kernel_rfl) (fun _ _ _ h => h) (.inl ⟨by rfl, ?_⟩) ?_
      rotate_left
      · intro X hX
        clear hX
        go_simp
        with_reducible rfl
      try simp only [Act.put, List.setIfInBounds_toArray, List.set_cons_zero, List.set_cons_succ])
    rotate_left
    go_simp
    obtain ⟨v1, gA, hn, hg, bq, xq⟩ := new_box wd stZ 30
    have HLHA := Lib.hid (show wd.heap.size ≤ gA from hg ▸ HB.out.size)
    rw [hn, hg]
    replace HB := Lib.hid (HB.out.trans (bq.mono HB.out.size))
    have HA := Lib.hid xq
    refine hK _ _ HB.out ?_
    clear hK K hn hg xq bq
    try simp only [Act.put, List.setIfInBounds_toArray, List.set_cons_zero, List.set_cons_succ]
    refine wpI_turn [0, 1, 8, 2, 3, 4, 5, 6, 9, 10, 11] rfl ?_
    refine wpI_fork3 rfl rfl rfl (by kernel_rfl) (fun K hK => ?_) (fun K hK => ?_) (fun K hK => ?_)
    go_simp
    have HC := Lib.hid (stNew_any v1)
    refine HC.out.mono ?_
    rintro ev v2 ⟨y0, rfl, hy, _, b9⟩
    replace HB := Lib.hid (HB.out.trans (b9.mono HB.out.size))
    replace HA := Lib.hid (HA.out.below b9 HA.out.lt)
    have HY0 := Lib.hid hy
    clear hy
    simp only [stV]
    refine hK _ _ HB.out ?_
    clear hK K b9 HC
    try simp only [Act.put, List.setIfInBounds_toArray, List.set_cons_zero, List.set_cons_succ]
    refine wpI_turn [1, 8, 2, 3, 4, 5, 6, 9, 10, 11] rfl ?_
    refine wpI_fork rfl rfl (by kernel_rfl) (fun K hK => ?_) (fun K hK => ?_)
    go_simp
    obtain ⟨v3, gz, hn, hg, bq, xq⟩ := new_box v2 (ar Z) 5
    have HLHZ1 := Lib.hid (show wd.heap.size ≤ gz from hg ▸ HB.out.size)
    rw [hn, hg]
    replace HB := Lib.hid (HB.out.trans (bq.mono HB.out.size))
    replace HA := Lib.hid (HA.out.below bq HA.out.lt)
    replace HY0 := Lib.hid (HY0.out.bel bq)
    have HZ1 := Lib.hid xq
    refine hK _ _ HB.out ?_
    clear hK K hn hg xq bq
    try simp only [Act.put, List.setIfInBounds_toArray, List.set_cons_zero, List.set_cons_succ]
    refine wpI_turn [2, 8, 3, 4, 5, 6, 9, 10, 11] rfl ?_
    refine wpI_fork rfl rfl (by kernel_rfl) (fun K hK => ?_) (fun K hK => ?_)
    go_simp
    have HC := Lib.hid (HC1.out gz y0 v3 HY0.out HZ1.out)
    refine HC.out.mono ?_
    rintro ev v4 ⟨y1, rfl, hy, _, b9⟩
    replace HB := Lib.hid (HB.out.trans (b9.mono HB.out.size))
    replace HA := Lib.hid (HA.out.below b9 HA.out.lt)
    replace HY0 := Lib.hid (HY0.out.bel b9)
    replace HZ1 := Lib.hid (HZ1.out.below b9 HZ1.out.lt)
    have HY1 := Lib.hid hy
    clear hy
    simp only [stV, ptV]
    refine hK _ _ HB.out ?_
    clear hK K b9 HC
    try simp only [Act.put, List.setIfInBounds_toArray, List.set_cons_zero, List.set_cons_succ]
    refine wpI_turn [3, 4, 5, 6, 8, 9, 10, 11] rfl ?_
    iterate 4 (
      refine wpI_read (v := ?_) HB.out rfl (by kernel_rfl) (by kernel_rfl) (by kernel_rfl) (fun _ _ _ h => h) (.inl ⟨by rfl, ?_⟩) ?_
      rotate_left
      · intro X hX
        clear hX
        go_simp
        with_reducible rfl
      try simp only [Act.put, List.setIfInBounds_toArray, List.set_cons_zero, List.set_cons_succ])
    refine wpI_turn [8, 9, 10, 11] rfl ?_
    refine wpI_lone rfl (by kernel_rfl) (fun K hK => ?_)
    go_simp
    obtain ⟨v5, gB, hn, hg, bq, xq⟩ := new_box v4 ptZ 32
    have HLHP := Lib.hid (show wd.heap.size ≤ gB from hg ▸ HB.out.size)
    rw [hn, hg]
    replace HB := Lib.hid (HB.out.trans (bq.mono HB.out.size))
    replace HA := Lib.hid (HA.out.below bq HA.out.lt)
    replace HY0 := Lib.hid (HY0.out.bel bq)
    replace HZ1 := Lib.hid (HZ1.out.below bq HZ1.out.lt)
    replace HY1 := Lib.hid (HY1.out.bel bq)
    have HP := Lib.hid xq
    refine hK _ _ HB.out ?_
    clear hK K hn hg xq bq
    try simp only [Act.put, List.setIfInBounds_toArray, List.set_cons_zero, List.set_cons_succ]
    rotate_left
    go_simp
    obtain ⟨v4, gB, hn, hg, bq, xq⟩ := new_box v3 ptZ 32
    have HLHP := Lib.hid (show wd.heap.size ≤ gB from hg ▸ HB.out.size)
    rw [hn, hg]
    replace HB := Lib.hid (HB.out.trans (bq.mono HB.out.size))
    replace HA := Lib.hid (HA.out.below bq HA.out.lt)
    replace HY0 := Lib.hid (HY0.out.bel bq)
    replace HZ1 := Lib.hid (HZ1.out.below bq HZ1.out.lt)
    have HP := Lib.hid xq
    refine hK _ _ HB.out ?_
    clear hK K hn hg xq bq
    try simp only [Act.put, List.setIfInBounds_toArray, List.set_cons_zero, List.set_cons_succ]
    refine wpI_turn [2, 3, 4, 5, 6, 9, 10, 11] rfl ?_
    refine wpI_lone rfl (by kernel_rfl) (fun K hK => ?_)
    go_simp
    have HC := Lib.hid (HC1.out gz y0 v4 HY0.out HZ1.out)
    refine HC.out.mono ?_
    rintro ev v5 ⟨y1, rfl, hy, _, b9⟩
    replace HB := Lib.hid (HB.out.trans (b9.mono HB.out.size))
    replace HA := Lib.hid (HA.out.below b9 HA.out.lt)
    replace HY0 := Lib.hid (HY0.out.bel b9)
    replace HZ1 := Lib.hid (HZ1.out.below b9 HZ1.out.lt)
    replace HP := Lib.hid (HP.out.below b9 HP.out.lt)
    have HY1 := Lib.hid hy
    clear hy
    simp only [stV, ptV]
    refine hK _ _ HB.out ?_
    clear hK K b9 HC
    try simp only [Act.put, List.setIfInBounds_toArray, List.set_cons_zero, List.set_cons_succ]
    refine wpI_turn [3, 4, 5, 6, 9, 10, 11] rfl ?_
    iterate 4 (
      refine wpI_read (v := ?_) HB.out rfl (by kernel_rfl) (by kernel_rfl) (by kernel_rfl) (fun _ _ _ h => h) (.inl ⟨by rfl, ?_⟩) ?_
      rotate_left
      · intro X hX
        clear hX
        go_simp
        with_reducible rfl
      try simp only [Act.put, List.setIfInBounds_toArray, List.set_cons_zero, List.set_cons_succ])
    rotate_left
    go_simp
    obtain ⟨v3, gB, hn, hg, bq, xq⟩ := new_box v2 ptZ 32
    have HLHP := Lib.hid (show wd.heap.size ≤ gB from hg ▸ HB.out.size)
    rw [hn, hg]
    replace HB := Lib.hid (HB.out.trans (bq.mono HB.out.size))
    replace HA := Lib.hid (HA.out.below bq HA.out.lt)
    replace HY0 := Lib.hid (HY0.out.bel bq)
    have HP := Lib.hid xq
    refine hK _ _ HB.out ?_
    clear hK K hn hg xq bq
    try simp only [Act.put, List.setIfInBounds_toArray, List.set_cons_zero, List.set_cons_succ]
    refine wpI_turn [1, 2, 3, 4, 5, 6, 9, 10, 11] rfl ?_
    refine wpI_lone rfl (by kernel_rfl) (fun K hK => ?_)
    go_simp
    obtain ⟨v4, gz, hn, hg, bq, xq⟩ := new_box v3 (ar Z) 5
    have HLHZ1 := Lib.hid (show wd.heap.size ≤ gz from hg ▸ HB.out.size)
    rw [hn, hg]
    replace HB := Lib.hid (HB.out.trans (bq.mono HB.out.size))
    replace HA := Lib.hid (HA.out.below bq HA.out.lt)
    replace HY0 := Lib.hid (HY0.out.bel bq)
    replace HP := Lib.hid (HP.out.below bq HP.out.lt)
    have HZ1 := Lib.hid xq
    refine hK _ _ HB.out ?_
    clear hK K hn hg xq bq
    try simp only [Act.put, List.setIfInBounds_toArray, List.set_cons_zero, List.set_cons_succ]
    refine wpI_turn [2, 3, 4, 5, 6, 9, 10, 11] rfl ?_
    refine wpI_lone rfl (by kernel_rfl) (fun K hK => ?_)
    go_simp
    have HC := Lib.hid (HC1.out gz y0 v4 HY0.out HZ1.out)
    refine HC.out.mono ?_
    rintro ev v5 ⟨y1, rfl, hy, _, b9⟩
    replace HB := Lib.hid (HB.out.trans (b9.mono HB.out.size))
    replace HA := Lib.hid (HA.out.below b9 HA.out.lt)
    replace HY0 := Lib.hid (HY0.out.bel b9)
    replace HP := Lib.hid (HP.out.below b9 HP.out.lt)
    replace HZ1 := Lib.hid (HZ1.out.below b9 HZ1.out.lt)
    have HY1 := Lib.hid hy
    clear hy
    simp only [stV, ptV]
    refine hK _ _ HB.out ?_
    clear hK K b9 HC
    try simp only [Act.put, List.setIfInBounds_toArray, List.set_cons_zero, List.set_cons_succ]
    refine wpI_turn [3, 4, 5, 6, 9, 10, 11] rfl ?_
    iterate 4 (
      refine wpI_read (v := ?_) HB.out rfl (by kernel_rfl) (by kernel_rfl) (by kernel_rfl) (fun _ _ _ h => h) (.inl ⟨by rfl, ?_⟩) ?_
      rotate_left
      · intro X hX
        clear hX
        go_simp
        with_reducible rfl
      try simp only [Act.put, List.setIfInBounds_toArray, List.set_cons_zero, List.set_cons_succ])
    rotate_left
    go_simp
    obtain ⟨v2, gz, hn, hg, bq, xq⟩ := new_box v1 (ar Z) 5
    have HLHZ1 := Lib.hid (show wd.heap.size ≤ gz from hg ▸ HB.out.size)
    rw [hn, hg]
    replace HB := Lib.hid (HB.out.trans (bq.mono HB.out.size))
    replace HA := Lib.hid (HA.out.below bq HA.out.lt)
    have HZ1 := Lib.hid xq
    refine hK _ _ HB.out ?_
    clear hK K hn hg xq bq
    try simp only [Act.put, List.setIfInBounds_toArray, List.set_cons_zero, List.set_cons_succ]
    refine wpI_turn [0, 8, 2, 3, 4, 5, 6, 9, 10, 11] rfl ?_
    refine wpI_fork rfl rfl (by kernel_rfl) (fun K hK => ?_) (fun K hK => ?_)
    go_simp
    have HC := Lib.hid (stNew_any v2)
    refine HC.out.mono ?_
    rintro ev v3 ⟨y0, rfl, hy, _, b9⟩
    replace HB := Lib.hid (HB.out.trans (b9.mono HB.out.size))
    replace HA := Lib.hid (HA.out.below b9 HA.out.lt)
    replace HZ1 := Lib.hid (HZ1.out.below b9 HZ1.out.lt)
    have HY0 := Lib.hid hy
    clear hy
    simp only [stV]
    refine hK _ _ HB.out ?_
    clear hK K b9 HC
    try simp only [Act.put, List.setIfInBounds_toArray, List.set_cons_zero, List.set_cons_succ]
    refine wpI_turn [2, 8, 3, 4, 5, 6, 9, 10, 11] rfl ?_
    refine wpI_fork rfl rfl (by kernel_rfl) (fun K hK => ?_) (fun K hK => ?_)
    go_simp
    have HC := Lib.hid (HC1.out gz y0 v3 HY0.out HZ1.out)
    refine HC.out.mono ?_
    rintro ev v4 ⟨y1, rfl, hy, _, b9⟩
    replace HB := Lib.hid (HB.out.trans (b9.mono HB.out.size))
    replace HA := Lib.hid (HA.out.below b9 HA.out.lt)
    replace HZ1 := Lib.hid (HZ1.out.below b9 HZ1.out.lt)
    replace HY0 := Lib.hid (HY0.out.bel b9)
    have HY1 := Lib.hid hy
    clear hy
    simp only [stV, ptV]
    refine hK _ _ HB.out ?_
    clear hK K b9 HC
    try simp only [Act.put, List.setIfInBounds_toArray, List.set_cons_zero, List.set_cons_succ]
    refine wpI_turn [3, 4, 5, 6, 8, 9, 10, 11] rfl ?_
    iterate 4 (
      refine wpI_read (v := ?_) HB.out rfl (by kernel_rfl) (by kernel_rfl) (by kernel_rfl) (fun _ _ _ h => h) (.inl ⟨by rfl, ?_⟩) ?_
      rotate_left
      · intro X hX
        clear hX
        go_simp
        with_reducible rfl
      try simp only [Act.put, List.setIfInBounds_toArray, List.set_cons_zero, List.set_cons_succ])
    refine wpI_turn [8, 9, 10, 11] rfl ?_
    refine wpI_lone rfl (by kernel_rfl) (fun K hK => ?_)
    go_simp
    obtain ⟨v5, gB, hn, hg, bq, xq⟩ := new_box v4 ptZ 32
    have HLHP := Lib.hid (show wd.heap.size ≤ gB from hg ▸ HB.out.size)
    rw [hn, hg]
    replace HB := Lib.hid (HB.out.trans (bq.mono HB.out.size))
    replace HA := Lib.hid (HA.out.below bq HA.out.lt)
    replace HZ1 := Lib.hid (HZ1.out.below bq HZ1.out.lt)
    replace HY0 := Lib.hid (HY0.out.bel bq)
    replace HY1 := Lib.hid (HY1.out.bel bq)
    have HP := Lib.hid xq
    refine hK _ _ HB.out ?_
    clear hK K hn hg xq bq
    try simp only [Act.put, List.setIfInBounds_toArray, List.set_cons_zero, List.set_cons_succ]
    rotate_left
    go_simp
    obtain ⟨v4, gB, hn, hg, bq, xq⟩ := new_box v3 ptZ 32
    have HLHP := Lib.hid (show wd.heap.size ≤ gB from hg ▸ HB.out.size)
    rw [hn, hg]
    replace HB := Lib.hid (HB.out.trans (bq.mono HB.out.size))
    replace HA := Lib.hid (HA.out.below bq HA.out.lt)
    replace HZ1 := Lib.hid (HZ1.out.below bq HZ1.out.lt)
    replace HY0 := Lib.hid (HY0.out.bel bq)
    have HP := Lib.hid xq
    refine hK _ _ HB.out ?_
    clear hK K hn hg xq bq
    try simp only [Act.put, List.setIfInBounds_toArray, List.set_cons_zero, List.set_cons_succ]
    refine wpI_turn [2, 3, 4, 5, 6, 9, 10, 11] rfl ?_
    refine wpI_lone rfl (by kernel_rfl) (fun K hK => ?_)
    go_simp
    have HC := Lib.hid (HC1.out gz y0 v4 HY0.out HZ1.out)
    refine HC.out.mono ?_
    rintro ev v5 ⟨y1, rfl, hy, _, b9⟩
    replace HB := Lib.hid (HB.out.trans (b9.mono HB.out.size))
    replace HA := Lib.hid (HA.out.below b9 HA.out.lt)
    replace HZ1 := Lib.hid (HZ1.out.below b9 HZ1.out.lt)
    replace HY0 := Lib.hid (HY0.out.bel b9)
    replace HP := Lib.hid (HP.out.below b9 HP.out.lt)
    have HY1 := Lib.hid hy
    clear hy
    simp only [stV, ptV]
    refine hK _ _ HB.out ?_
    clear hK K b9 HC
    try simp only [Act.put, List.setIfInBounds_toArray, List.set_cons_zero, List.set_cons_succ]
    refine wpI_turn [3, 4, 5, 6, 9, 10, 11] rfl ?_
    iterate 4 (
      refine wpI_read (v := ?_) HB.out rfl (by kernel_rfl) (by kernel_rfl) (by kernel_rfl) (fun _ _ _ h => h) (.inl ⟨by rfl, ?_⟩) ?_
      rotate_left
      · intro X hX
        clear hX
        go_simp
        with_reducible rfl
      try simp only [Act.put, List.setIfInBounds_toArray, List.set_cons_zero, List.set_cons_succ])
    rotate_left
    go_simp
    obtain ⟨v3, gB, hn, hg, bq, xq⟩ := new_box v2 ptZ 32
    have HLHP := Lib.hid (show wd.heap.size ≤ gB from hg ▸ HB.out.size)
    rw [hn, hg]
    replace HB := Lib.hid (HB.out.trans (bq.mono HB.out.size))
    replace HA := Lib.hid (HA.out.below bq HA.out.lt)
    replace HZ1 := Lib.hid (HZ1.out.below bq HZ1.out.lt)
    have HP := Lib.hid xq
    refine hK _ _ HB.out ?_
    clear hK K hn hg xq bq
    try simp only [Act.put, List.setIfInBounds_toArray, List.set_cons_zero, List.set_cons_succ]
    refine wpI_turn [0, 2, 3, 4, 5, 6, 9, 10, 11] rfl ?_
    refine wpI_lone rfl (by kernel_rfl) (fun K hK => ?_)
    go_simp
    have HC := Lib.hid (stNew_any v3)
    refine HC.out.mono ?_
    rintro ev v4 ⟨y0, rfl, hy, _, b9⟩
    replace HB := Lib.hid (HB.out.trans (b9.mono HB.out.size))
    replace HA := Lib.hid (HA.out.below b9 HA.out.lt)
    replace HZ1 := Lib.hid (HZ1.out.below b9 HZ1.out.lt)
    replace HP := Lib.hid (HP.out.below b9 HP.out.lt)
    have HY0 := Lib.hid hy
    clear hy
    simp only [stV]
    refine hK _ _ HB.out ?_
    clear hK K b9 HC
    try simp only [Act.put, List.setIfInBounds_toArray, List.set_cons_zero, List.set_cons_succ]
    refine wpI_turn [2, 3, 4, 5, 6, 9, 10, 11] rfl ?_
    refine wpI_lone rfl (by kernel_rfl) (fun K hK => ?_)
    go_simp
    have HC := Lib.hid (HC1.out gz y0 v4 HY0.out HZ1.out)
    refine HC.out.mono ?_
    rintro ev v5 ⟨y1, rfl, hy, _, b9⟩
    replace HB := Lib.hid (HB.out.trans (b9.mono HB.out.size))
    replace HA := Lib.hid (HA.out.below b9 HA.out.lt)
    replace HZ1 := Lib.hid (HZ1.out.below b9 HZ1.out.lt)
    replace HP := Lib.hid (HP.out.below b9 HP.out.lt)
    replace HY0 := Lib.hid (HY0.out.bel b9)
    have HY1 := Lib.hid hy
    clear hy
    simp only [stV, ptV]
    refine hK _ _ HB.out ?_
    clear hK K b9 HC
    try simp only [Act.put, List.setIfInBounds_toArray, List.set_cons_zero, List.set_cons_succ]
    refine wpI_turn [3, 4, 5, 6, 9, 10, 11] rfl ?_
    iterate 4 (
      refine wpI_read (v := ?_) HB.out rfl (by kernel_rfl) (by kernel_rfl) (by kernel_rfl) (fun _ _ _ h => h) (.inl ⟨by rfl, ?_⟩) ?_
      rotate_left
      · intro X hX
        clear hX
        go_simp
        with_reducible rfl
      try simp only [Act.put, List.setIfInBounds_toArray, List.set_cons_zero, List.set_cons_succ])
    rotate_left
    go_simp
    obtain ⟨v2, gB, hn, hg, bq, xq⟩ := new_box v1 ptZ 32
    have HLHP := Lib.hid (show wd.heap.size ≤ gB from hg ▸ HB.out.size)
    rw [hn, hg]
    replace HB := Lib.hid (HB.out.trans (bq.mono HB.out.size))
    replace HA := Lib.hid (HA.out.below bq HA.out.lt)
    have HP := Lib.hid xq
    refine hK _ _ HB.out ?_
    clear hK K hn hg xq bq
    try simp only [Act.put, List.setIfInBounds_toArray, List.set_cons_zero, List.set_cons_succ]
    refine wpI_turn [0, 1, 2, 3, 4, 5, 6, 9, 10, 11] rfl ?_
    refine wpI_fork rfl rfl (by kernel_rfl) (fun K hK => ?_) (fun K hK => ?_)
    go_simp
    have HC := Lib.hid (stNew_any v2)
    refine HC.out.mono ?_
    rintro ev v3 ⟨y0, rfl, hy, _, b9⟩
    replace HB := Lib.hid (HB.out.trans (b9.mono HB.out.size))
    replace HA := Lib.hid (HA.out.below b9 HA.out.lt)
    replace HP := Lib.hid (HP.out.below b9 HP.out.lt)
    have HY0 := Lib.hid hy
    clear hy
    simp only [stV]
    refine hK _ _ HB.out ?_
    clear hK K b9 HC
    try simp only [Act.put, List.setIfInBounds_toArray, List.set_cons_zero, List.set_cons_succ]
    refine wpI_turn [1, 2, 3, 4, 5, 6, 9, 10, 11] rfl ?_
    refine wpI_lone rfl (by kernel_rfl) (fun K hK => ?_)
    go_simp
    obtain ⟨v4, gz, hn, hg, bq, xq⟩ := new_box v3 (ar Z) 5
    have HLHZ1 := Lib.hid (show wd.heap.size ≤ gz from hg ▸ HB.out.size)
    rw [hn, hg]
    replace HB := Lib.hid (HB.out.trans (bq.mono HB.out.size))
    replace HA := Lib.hid (HA.out.below bq HA.out.lt)
    replace HP := Lib.hid (HP.out.below bq HP.out.lt)
    replace HY0 := Lib.hid (HY0.out.bel bq)
    have HZ1 := Lib.hid xq
    refine hK _ _ HB.out ?_
    clear hK K hn hg xq bq
    try simp only [Act.put, List.setIfInBounds_toArray, List.set_cons_zero, List.set_cons_succ]
    refine wpI_turn [2, 3, 4, 5, 6, 9, 10, 11] rfl ?_
    refine wpI_lone rfl (by kernel_rfl) (fun K hK => ?_)
    go_simp
    have HC := Lib.hid (HC1.out gz y0 v4 HY0.out HZ1.out)
    refine HC.out.mono ?_
    rintro ev v5 ⟨y1, rfl, hy, _, b9⟩
    replace HB := Lib.hid (HB.out.trans (b9.mono HB.out.size))
    replace HA := Lib.hid (HA.out.below b9 HA.out.lt)
    replace HP := Lib.hid (HP.out.below b9 HP.out.lt)
    replace HY0 := Lib.hid (HY0.out.bel b9)
    replace HZ1 := Lib.hid (HZ1.out.below b9 HZ1.out.lt)
    have HY1 := Lib.hid hy
    clear hy
    simp only [stV, ptV]
    refine hK _ _ HB.out ?_
    clear hK K b9 HC
    try simp only [Act.put, List.setIfInBounds_toArray, List.set_cons_zero, List.set_cons_succ]
    refine wpI_turn [3, 4, 5, 6, 9, 10, 11] rfl ?_
    iterate 4 (
      refine wpI_read (v := ?_) HB.out rfl (by kernel_rfl) (by kernel_rfl) (by kernel_rfl) (fun _ _ _ h => h) (.inl ⟨by rfl, ?_⟩) ?_
      rotate_left
      · intro X hX
        clear hX
        go_simp
        with_reducible rfl
      try simp only [Act.put, List.setIfInBounds_toArray, List.set_cons_zero, List.set_cons_succ])
    rotate_left
    go_simp
    obtain ⟨v3, gz, hn, hg, bq, xq⟩ := new_box v2 (ar Z) 5
    have HLHZ1 := Lib.hid (show wd.heap.size ≤ gz from hg ▸ HB.out.size)
    rw [hn, hg]
    replace HB := Lib.hid (HB.out.trans (bq.mono HB.out.size))
    replace HA := Lib.hid (HA.out.below bq HA.out.lt)
    replace HP := Lib.hid (HP.out.below bq HP.out.lt)
    have HZ1 := Lib.hid xq
    refine hK _ _ HB.out ?_
    clear hK K hn hg xq bq
    try simp only [Act.put, List.setIfInBounds_toArray, List.set_cons_zero, List.set_cons_succ]
    refine wpI_turn [0, 2, 3, 4, 5, 6, 9, 10, 11] rfl ?_
    refine wpI_lone rfl (by kernel_rfl) (fun K hK => ?_)
    go_simp
    have HC := Lib.hid (stNew_any v3)
    refine HC.out.mono ?_
    rintro ev v4 ⟨y0, rfl, hy, _, b9⟩
    replace HB := Lib.hid (HB.out.trans (b9.mono HB.out.size))
    replace HA := Lib.hid (HA.out.below b9 HA.out.lt)
    replace HP := Lib.hid (HP.out.below b9 HP.out.lt)
    replace HZ1 := Lib.hid (HZ1.out.below b9 HZ1.out.lt)
    have HY0 := Lib.hid hy
    clear hy
    simp only [stV]
    refine hK _ _ HB.out ?_
    clear hK K b9 HC
    try simp only [Act.put, List.setIfInBounds_toArray, List.set_cons_zero, List.set_cons_succ]
    refine wpI_turn [2, 3, 4, 5, 6, 9, 10, 11] rfl ?_
    refine wpI_lone rfl (by kernel_rfl) (fun K hK => ?_)
    go_simp
    have HC := Lib.hid (HC1.out gz y0 v4 HY0.out HZ1.out)
    refine HC.out.mono ?_
    rintro ev v5 ⟨y1, rfl, hy, _, b9⟩
    replace HB := Lib.hid (HB.out.trans (b9.mono HB.out.size))
    replace HA := Lib.hid (HA.out.below b9 HA.out.lt)
    replace HP := Lib.hid (HP.out.below b9 HP.out.lt)
    replace HZ1 := Lib.hid (HZ1.out.below b9 HZ1.out.lt)
    replace HY0 := Lib.hid (HY0.out.bel b9)
    have HY1 := Lib.hid hy
    clear hy
    simp only [stV, ptV]
    refine hK _ _ HB.out ?_
    clear hK K b9 HC
    try simp only [Act.put, List.setIfInBounds_toArray, List.set_cons_zero, List.set_cons_succ]
    refine wpI_turn [3, 4, 5, 6, 9, 10, 11] rfl ?_
    iterate 4 (
      refine wpI_read (v := ?_) HB.out rfl (by kernel_rfl) (by kernel_rfl) (by kernel_rfl) (fun _ _ _ h => h) (.inl ⟨by rfl, ?_⟩) ?_
      rotate_left
      · intro X hX
        clear hX
        go_simp
        with_reducible rfl
      try simp only [Act.put, List.setIfInBounds_toArray, List.set_cons_zero, List.set_cons_succ])
    rotate_left
    go_simp
    obtain ⟨v1, gB, hn, hg, bq, xq⟩ := new_box wd ptZ 32
    have HLHP := Lib.hid (show wd.heap.size ≤ gB from hg ▸ HB.out.size)
    rw [hn, hg]
    replace HB := Lib.hid (HB.out.trans (bq.mono HB.out.size))
    have HP := Lib.hid xq
    refine hK _ _ HB.out ?_
    clear hK K hn hg xq bq
    try simp only [Act.put, List.setIfInBounds_toArray, List.set_cons_zero, List.set_cons_succ]
    refine wpI_turn [0, 1, 7, 2, 3, 4, 5, 6, 9, 10, 11] rfl ?_
    refine wpI_fork3 rfl rfl rfl (by kernel_rfl) (fun K hK => ?_) (fun K hK => ?_) (fun K hK => ?_)
    go_simp
    have HC := Lib.hid (stNew_any v1)
    refine HC.out.mono ?_
    rintro ev v2 ⟨y0, rfl, hy, _, b9⟩
    replace HB := Lib.hid (HB.out.trans (b9.mono HB.out.size))
    replace HP := Lib.hid (HP.out.below b9 HP.out.lt)
    have HY0 := Lib.hid hy
    clear hy
    simp only [stV]
    refine hK _ _ HB.out ?_
    clear hK K b9 HC
    try simp only [Act.put, List.setIfInBounds_toArray, List.set_cons_zero, List.set_cons_succ]
    refine wpI_turn [1, 7, 2, 3, 4, 5, 6, 9, 10, 11] rfl ?_
    refine wpI_fork rfl rfl (by kernel_rfl) (fun K hK => ?_) (fun K hK => ?_)
    go_simp
    obtain ⟨v3, gz, hn, hg, bq, xq⟩ := new_box v2 (ar Z) 5
    have HLHZ1 := Lib.hid (show wd.heap.size ≤ gz from hg ▸ HB.out.size)
    rw [hn, hg]
    replace HB := Lib.hid (HB.out.trans (bq.mono HB.out.size))
    replace HP := Lib.hid (HP.out.below bq HP.out.lt)
    replace HY0 := Lib.hid (HY0.out.bel bq)
    have HZ1 := Lib.hid xq
    refine hK _ _ HB.out ?_
    clear hK K hn hg xq bq
    try simp only [Act.put, List.setIfInBounds_toArray, List.set_cons_zero, List.set_cons_succ]
    refine wpI_turn [2, 7, 3, 4, 5, 6, 9, 10, 11] rfl ?_
    refine wpI_fork rfl rfl (by kernel_rfl) (fun K hK => ?_) (fun K hK => ?_)
    go_simp
    have HC := Lib.hid (HC1.out gz y0 v3 HY0.out HZ1.out)
    refine HC.out.mono ?_
    rintro ev v4 ⟨y1, rfl, hy, _, b9⟩
    replace HB := Lib.hid (HB.out.trans (b9.mono HB.out.size))
    replace HP := Lib.hid (HP.out.below b9 HP.out.lt)
    replace HY0 := Lib.hid (HY0.out.bel b9)
    replace HZ1 := Lib.hid (HZ1.out.below b9 HZ1.out.lt)
    have HY1 := Lib.hid hy
    clear hy
    simp only [stV, ptV]
    refine hK _ _ HB.out ?_
    clear hK K b9 HC
    try simp only [Act.put, List.setIfInBounds_toArray, List.set_cons_zero, List.set_cons_succ]
    refine wpI_turn [3, 4, 5, 6, 7, 9, 10, 11] rfl ?_
    iterate 4 (
      refine wpI_read (v := ?_) HB.out rfl (by kernel_rfl) (by kernel_rfl) (by kernel_rfl) (fun _ _ _ h => h) (.inl ⟨by rfl, ?_⟩) ?_
      rotate_left
      · intro X hX
        clear hX
        go_simp
        with_reducible rfl
      try simp only [Act.put, List.setIfInBounds_toArray, List.set_cons_zero, List.set_cons_succ])
    refine wpI_turn [7, 9, 10, 11] rfl ?_
    refine wpI_lone rfl (by kernel_rfl) (fun K hK => ?_)
    go_simp
    obtain ⟨v5, gA, hn, hg, bq, xq⟩ := new_box v4 stZ 30
    have HLHA := Lib.hid (show wd.heap.size ≤ gA from hg ▸ HB.out.size)
    rw [hn, hg]
    replace HB := Lib.hid (HB.out.trans (bq.mono HB.out.size))
    replace HP := Lib.hid (HP.out.below bq HP.out.lt)
    replace HY0 := Lib.hid (HY0.out.bel bq)
    replace HZ1 := Lib.hid (HZ1.out.below bq HZ1.out.lt)
    replace HY1 := Lib.hid (HY1.out.bel bq)
    have HA := Lib.hid xq
    refine hK _ _ HB.out ?_
    clear hK K hn hg xq bq
    try simp only [Act.put, List.setIfInBounds_toArray, List.set_cons_zero, List.set_cons_succ]
    rotate_left
    go_simp
    obtain ⟨v4, gA, hn, hg, bq, xq⟩ := new_box v3 stZ 30
    have HLHA := Lib.hid (show wd.heap.size ≤ gA from hg ▸ HB.out.size)
    rw [hn, hg]
    replace HB := Lib.hid (HB.out.trans (bq.mono HB.out.size))
    replace HP := Lib.hid (HP.out.below bq HP.out.lt)
    replace HY0 := Lib.hid (HY0.out.bel bq)
    replace HZ1 := Lib.hid (HZ1.out.below bq HZ1.out.lt)
    have HA := Lib.hid xq
    refine hK _ _ HB.out ?_
    clear hK K hn hg xq bq
    try simp only [Act.put, List.setIfInBounds_toArray, List.set_cons_zero, List.set_cons_succ]
    refine wpI_turn [2, 3, 4, 5, 6, 9, 10, 11] rfl ?_
    refine wpI_lone rfl (by kernel_rfl) (fun K hK => ?_)
    go_simp
    have HC := Lib.hid (HC1.out gz y0 v4 HY0.out HZ1.out)
    refine HC.out.mono ?_
    rintro ev v5 ⟨y1, rfl, hy, _, b9⟩
    replace HB := Lib.hid (HB.out.trans (b9.mono HB.out.size))
    replace HP := Lib.hid (HP.out.below b9 HP.out.lt)
    replace HY0 := Lib.hid (HY0.out.bel b9)
    replace HZ1 := Lib.hid (HZ1.out.below b9 HZ1.out.lt)
    replace HA := Lib.hid (HA.out.below b9 HA.out.lt)
    have HY1 := Lib.hid hy
    clear hy
    simp only [stV, ptV]
    refine hK _ _ HB.out ?_
    clear hK K b9 HC
    try simp only [Act.put, List.setIfInBounds_toArray, List.set_cons_zero, List.set_cons_succ]
    refine wpI_turn [3, 4, 5, 6, 9, 10, 11] rfl ?_
    iterate 4 (
      refine wpI_read (v := ?_) HB.out rfl (by kernel_rfl) (by kernel_rfl) (by kernel_rfl) (fun _ _ _ h => h) (.inl ⟨by rfl, ?_⟩) ?_
      rotate_left
      · intro X hX
        clear hX
        go_simp
        with_reducible rfl
      try simp only [Act.put, List.setIfInBounds_toArray, List.set_cons_zero, List.set_cons_succ])
    rotate_left
    go_simp
    obtain ⟨v3, gA, hn, hg, bq, xq⟩ := new_box v2 stZ 30
    have HLHA := Lib.hid (show wd.heap.size ≤ gA from hg ▸ HB.out.size)
    rw [hn, hg]
    replace HB := Lib.hid (HB.out.trans (bq.mono HB.out.size))
    replace HP := Lib.hid (HP.out.below bq HP.out.lt)
    replace HY0 := Lib.hid (HY0.out.bel bq)
    have HA := Lib.hid xq
    refine hK _ _ HB.out ?_
    clear hK K hn hg xq bq
    try simp only [Act.put, List.setIfInBounds_toArray, List.set_cons_zero, List.set_cons_succ]
    refine wpI_turn [1, 2, 3, 4, 5, 6, 9, 10, 11] rfl ?_
    refine wpI_lone rfl (by kernel_rfl) (fun K hK => ?_)
    go_simp
    obtain ⟨v4, gz, hn, hg, bq, xq⟩ := new_box v3 (ar Z) 5
    have HLHZ1 := Lib.hid (show wd.heap.size ≤ gz from hg ▸ HB.out.size)
    rw [hn, hg]
    replace HB := Lib.hid (HB.out.trans (bq.mono HB.out.size))
    replace HP := Lib.hid (HP.out.below bq HP.out.lt)
    replace HY0 := Lib.hid (HY0.out.bel bq)
    replace HA := Lib.hid (HA.out.below bq HA.out.lt)
    have HZ1 := Lib.hid xq
    refine hK _ _ HB.out ?_
    clear hK K hn hg xq bq
    try simp only [Act.put, List.setIfInBounds_toArray, List.set_cons_zero, List.set_cons_succ]
    refine wpI_turn [2, 3, 4, 5, 6, 9, 10, 11] rfl ?_
    refine wpI_lone rfl (by kernel_rfl) (fun K hK => ?_)
    go_simp
    have HC := Lib.hid (HC1.out gz y0 v4 HY0.out HZ1.out)
    refine HC.out.mono ?_
    rintro ev v5 ⟨y1, rfl, hy, _, b9⟩
    replace HB := Lib.hid (HB.out.trans (b9.mono HB.out.size))
    replace HP := Lib.hid (HP.out.below b9 HP.out.lt)
    replace HY0 := Lib.hid (HY0.out.bel b9)
    replace HA := Lib.hid (HA.out.below b9 HA.out.lt)
    replace HZ1 := Lib.hid (HZ1.out.below b9 HZ1.out.lt)
    have HY1 := Lib.hid hy
    clear hy
    simp only [stV, ptV]
    refine hK _ _ HB.out ?_
    clear hK K b9 HC
    try simp only [Act.put, List.setIfInBounds_toArray, List.set_cons_zero, List.set_cons_succ]
    refine wpI_turn [3, 4, 5, 6, 9, 10, 11] rfl ?_
    iterate 4 (
      refine wpI_read (v := ?_) HB.out rfl (by kernel_rfl) (by kernel_rfl) (by kernel_rfl) (fun _ _ _ h => h) (.inl ⟨by rfl, ?_⟩) ?_
      rotate_left
      · intro X hX
        clear hX
        go_simp
        with_reducible rfl
      try simp only [Act.put, List.setIfInBounds_toArray, List.set_cons_zero, List.set_cons_succ])
    rotate_left
    go_simp
    obtain ⟨v2, gz, hn, hg, bq, xq⟩ := new_box v1 (ar Z) 5
    have HLHZ1 := Lib.hid (show wd.heap.size ≤ gz from hg ▸ HB.out.size)
    rw [hn, hg]
    replace HB := Lib.hid (HB.out.trans (bq.mono HB.out.size))
    replace HP := Lib.hid (HP.out.below bq HP.out.lt)
    have HZ1 := Lib.hid xq
    refine hK _ _ HB.out ?_
    clear hK K hn hg xq bq
    try simp only [Act.put, List.setIfInBounds_toArray, List.set_cons_zero, List.set_cons_succ]
    refine wpI_turn [0, 7, 2, 3, 4, 5, 6, 9, 10, 11] rfl ?_
    refine wpI_fork rfl rfl (by kernel_rfl) (fun K hK => ?_) (fun K hK => ?_)
    go_simp
    have HC := Lib.hid (stNew_any v2)
    refine HC.out.mono ?_
    rintro ev v3 ⟨y0, rfl, hy, _, b9⟩
    replace HB := Lib.hid (HB.out.trans (b9.mono HB.out.size))
    replace HP := Lib.hid (HP.out.below b9 HP.out.lt)
    replace HZ1 := Lib.hid (HZ1.out.below b9 HZ1.out.lt)
    have HY0 := Lib.hid hy
    clear hy
    simp only [stV]
    refine hK _ _ HB.out ?_
    clear hK K b9 HC
    try simp only [Act.put, List.setIfInBounds_toArray, List.set_cons_zero, List.set_cons_succ]
    refine wpI_turn [2, 7, 3, 4, 5, 6, 9, 10, 11] rfl ?_
    refine wpI_fork rfl rfl (by kernel_rfl) (fun K hK => ?_) (fun K hK => ?_)
    go_simp
    have HC := Lib.hid (HC1.out gz y0 v3 HY0.out HZ1.out)
    refine HC.out.mono ?_
    rintro ev v4 ⟨y1, rfl, hy, _, b9⟩
    replace HB := Lib.hid (HB.out.trans (b9.mono HB.out.size))
    replace HP := Lib.hid (HP.out.below b9 HP.out.lt)
    replace HZ1 := Lib.hid (HZ1.out.below b9 HZ1.out.lt)
    replace HY0 := Lib.hid (HY0.out.bel b9)
    have HY1 := Lib.hid hy
    clear hy
    simp only [stV, ptV]
    refine hK _ _ HB.out ?_
    clear hK K b9 HC
    try simp only [Act.put, List.setIfInBounds_toArray, List.set_cons_zero, List.set_cons_succ]
    refine wpI_turn [3, 4, 5, 6, 7, 9, 10, 11] rfl ?_
    iterate 4 (
      refine wpI_read (v := ?_) HB.out rfl (by kernel_rfl) (by kernel_rfl) (by kernel_rfl) (fun _ _ _ h => h) (.inl ⟨by rfl, ?_⟩) ?_
      rotate_left
      · intro X hX
        clear hX
        go_simp
        with_reducible rfl
      try simp only [Act.put, List.setIfInBounds_toArray, List.set_cons_zero, List.set_cons_succ])
    refine wpI_turn [7, 9, 10, 11] rfl ?_
    refine wpI_lone rfl (by kernel_rfl) (fun K hK => ?_)
    go_simp
    obtain ⟨v5, gA, hn, hg, bq, xq⟩ := new_box v4 stZ 30
    have HLHA := Lib.hid (show wd.heap.size ≤ gA from hg ▸ HB.out.size)
    rw [hn, hg]
    replace HB := Lib.hid (HB.out.trans (bq.mono HB.out.size))
    replace HP := Lib.hid (HP.out.below bq HP.out.lt)
    replace HZ1 := Lib.hid (HZ1.out.below bq HZ1.out.lt)
    replace HY0 := Lib.hid (HY0.out.bel bq)
    replace HY1 := Lib.hid (HY1.out.bel bq)
    have HA := Lib.hid xq
    refine hK _ _ HB.out ?_
    clear hK K hn hg xq bq
    try simp only [Act.put, List.setIfInBounds_toArray, List.set_cons_zero, List.set_cons_succ]
    rotate_left
    go_simp
    obtain ⟨v4, gA, hn, hg, bq, xq⟩ := new_box v3 stZ 30
    have HLHA := Lib.hid (show wd.heap.size ≤ gA from hg ▸ HB.out.size)
    rw [hn, hg]
    replace HB := Lib.hid (HB.out.trans (bq.mono HB.out.size))
    replace HP := Lib.hid (HP.out.below bq HP.out.lt)
    replace HZ1 := Lib.hid (HZ1.out.below bq HZ1.out.lt)
    replace HY0 := Lib.hid (HY0.out.bel bq)
    have HA := Lib.hid xq
    refine hK _ _ HB.out ?_
    clear hK K hn hg xq bq
    try simp only [Act.put, List.setIfInBounds_toArray, List.set_cons_zero, List.set_cons_succ]
    refine wpI_turn [2, 3, 4, 5, 6, 9, 10, 11] rfl ?_
    refine wpI_lone rfl (by kernel_rfl) (fun K hK => ?_)
    go_simp
    have HC := Lib.hid (HC1.out gz y0 v4 HY0.out HZ1.out)
    refine HC.out.mono ?_
    rintro ev v5 ⟨y1, rfl, hy, _, b9⟩
    replace HB := Lib.hid (HB.out.trans (b9.mono HB.out.size))
    replace HP := Lib.hid (HP.out.below b9 HP.out.lt)
    replace HZ1 := Lib.hid (HZ1.out.below b9 HZ1.out.lt)
    replace HY0 := Lib.hid (HY0.out.bel b9)
    replace HA := Lib.hid (HA.out.below b9 HA.out.lt)
    have HY1 := Lib.hid hy
    clear hy
    simp only [stV, ptV]
    refine hK _ _ HB.out ?_
    clear hK K b9 HC
    try simp only [Act.put, List.setIfInBounds_toArray, List.set_cons_zero, List.set_cons_succ]
    refine wpI_turn [3, 4, 5, 6, 9, 10, 11] rfl ?_
    iterate 4 (
      refine wpI_read (v := ?_) HB.out rfl (by kernel_rfl) (by kernel_rfl) (by kernel_rfl) (fun _ _ _ h => h) (.inl ⟨by rfl, ?_⟩) ?_
      rotate_left
      · intro X hX
        clear hX
        go_simp
        with_reducible rfl
      try simp only [Act.put, List.setIfInBounds_toArray, List.set_cons_zero, List.set_cons_succ])
    rotate_left
    go_simp
    obtain ⟨v3, gA, hn, hg, bq, xq⟩ := new_box v2 stZ 30
    have HLHA := Lib.hid (show wd.heap.size ≤ gA from hg ▸ HB.out.size)
    rw [hn, hg]
    replace HB := Lib.hid (HB.out.trans (bq.mono HB.out.size))
    replace HP := Lib.hid (HP.out.below bq HP.out.lt)
    replace HZ1 := Lib.hid (HZ1.out.below bq HZ1.out.lt)
    have HA := Lib.hid xq
    refine hK _ _ HB.out ?_
    clear hK K hn hg xq bq
    try simp only [Act.put, List.setIfInBounds_toArray, List.set_cons_zero, List.set_cons_succ]
    refine wpI_turn [0, 2, 3, 4, 5, 6, 9, 10, 11] rfl ?_
    refine wpI_lone rfl (by kernel_rfl) (fun K hK => ?_)
    go_simp
    have HC := Lib.hid (stNew_any v3)
    refine HC.out.mono ?_
    rintro ev v4 ⟨y0, rfl, hy, _, b9⟩
    replace HB := Lib.hid (HB.out.trans (b9.mono HB.out.size))
    replace HP := Lib.hid (HP.out.below b9 HP.out.lt)
    replace HZ1 := Lib.hid (HZ1.out.below b9 HZ1.out.lt)
    replace HA := Lib.hid (HA.out.below b9 HA.out.lt)
    have HY0 := Lib.hid hy
    clear hy
    simp only [stV]
    refine hK _ _ HB.out ?_
    clear hK K b9 HC
    try simp only [Act.put, List.setIfInBounds_toArray, List.set_cons_zero, List.set_cons_succ]
    refine wpI_turn [2, 3, 4, 5, 6, 9, 10, 11] rfl ?_
    refine wpI_lone rfl (by kernel_rfl) (fun K hK => ?_)
    go_simp
    have HC := Lib.hid (HC1.out gz y0 v4 HY0.out HZ1.out)
    refine HC.out.mono ?_
    rintro ev v5 ⟨y1, rfl, hy, _, b9⟩
    replace HB := Lib.hid (HB.out.trans (b9.mono HB.out.size))
    replace HP := Lib.hid (HP.out.below b9 HP.out.lt)
    replace HZ1 := Lib.hid (HZ1.out.below b9 HZ1.out.lt)
    replace HA := Lib.hid (HA.out.below b9 HA.out.lt)
    replace HY0 := Lib.hid (HY0.out.bel b9)
    have HY1 := Lib.hid hy
    clear hy
    simp only [stV, ptV]
    refine hK _ _ HB.out ?_
    clear hK K b9 HC
    try simp only [Act.put, List.setIfInBounds_toArray, List.set_cons_zero, List.set_cons_succ]
    refine wpI_turn [3, 4, 5, 6, 9, 10, 11] rfl ?_
    iterate 4 (
      refine wpI_read (v := ?_) HB.out rfl (by kernel_rfl) (by kernel_rfl) (by kernel_rfl) (fun _ _ _ h => h) (.inl ⟨by rfl, ?_⟩) ?_
      rotate_left
      · intro X hX
        clear hX
        go_simp
        with_reducible rfl
      try simp only [Act.put, List.setIfInBounds_toArray, List.set_cons_zero, List.set_cons_succ])
    rotate_left
    go_simp
    obtain ⟨v2, gA, hn, hg, bq, xq⟩ := new_box v1 stZ 30
    have HLHA := Lib.hid (show wd.heap.size ≤ gA from hg ▸ HB.out.size)
    rw [hn, hg]
    replace HB := Lib.hid (HB.out.trans (bq.mono HB.out.size))
    replace HP := Lib.hid (HP.out.below bq HP.out.lt)
    have HA := Lib.hid xq
    refine hK _ _ HB.out ?_
    clear hK K hn hg xq bq
    try simp only [Act.put, List.setIfInBounds_toArray, List.set_cons_zero, List.set_cons_succ]
    refine wpI_turn [0, 1, 2, 3, 4, 5, 6, 9, 10, 11] rfl ?_
    refine wpI_fork rfl rfl (by kernel_rfl) (fun K hK => ?_) (fun K hK => ?_)
    go_simp
    have HC := Lib.hid (stNew_any v2)
    refine HC.out.mono ?_
    rintro ev v3 ⟨y0, rfl, hy, _, b9⟩
    replace HB := Lib.hid (HB.out.trans (b9.mono HB.out.size))
    replace HP := Lib.hid (HP.out.below b9 HP.out.lt)
    replace HA := Lib.hid (HA.out.below b9 HA.out.lt)
    have HY0 := Lib.hid hy
    clear hy
    simp only [stV]
    refine hK _ _ HB.out ?_
    clear hK K b9 HC
    try simp only [Act.put, List.setIfInBounds_toArray, List.set_cons_zero, List.set_cons_succ]
    refine wpI_turn [1, 2, 3, 4, 5, 6, 9, 10, 11] rfl ?_
    refine wpI_lone rfl (by kernel_rfl) (fun K hK => ?_)
    go_simp
    obtain ⟨v4, gz, hn, hg, bq, xq⟩ := new_box v3 (ar Z) 5
    have HLHZ1 := Lib.hid (show wd.heap.size ≤ gz from hg ▸ HB.out.size)
    rw [hn, hg]
    replace HB := Lib.hid (HB.out.trans (bq.mono HB.out.size))
    replace HP := Lib.hid (HP.out.below bq HP.out.lt)
    replace HA := Lib.hid (HA.out.below bq HA.out.lt)
    replace HY0 := Lib.hid (HY0.out.bel bq)
    have HZ1 := Lib.hid xq
    refine hK _ _ HB.out ?_
    clear hK K hn hg xq bq
    try simp only [Act.put, List.setIfInBounds_toArray, List.set_cons_zero, List.set_cons_succ]
    refine wpI_turn [2, 3, 4, 5, 6, 9, 10, 11] rfl ?_
    refine wpI_lone rfl (by kernel_rfl) (fun K hK => ?_)
    go_simp
    have HC := Lib.hid (HC1.out gz y0 v4 HY0.out HZ1.out)
    refine HC.out.mono ?_
    rintro ev v5 ⟨y1, rfl, hy, _, b9⟩
    replace HB := Lib.hid (HB.out.trans (b9.mono HB.out.size))
    replace HP := Lib.hid (HP.out.below b9 HP.out.lt)
    replace HA := Lib.hid (HA.out.below b9 HA.out.lt)
    replace HY0 := Lib.hid (HY0.out.bel b9)
    replace HZ1 := Lib.hid (HZ1.out.below b9 HZ1.out.lt)
    have HY1 := Lib.hid hy
    clear hy
    simp only [stV, ptV]
    refine hK _ _ HB.out ?_
    clear hK K b9 HC
    try simp only [Act.put, List.setIfInBounds_toArray, List.set_cons_zero, List.set_cons_succ]
    refine wpI_turn [3, 4, 5, 6, 9, 10, 11] rfl ?_
    iterate 4 (
      refine wpI_read (v := ?_) HB.out rfl (by kernel_rfl) (by kernel_rfl) (by kernel_rfl) (fun _ _ _ h => h) (.inl ⟨by rfl, ?_⟩) ?_
      rotate_left
      · intro X hX
        clear hX
        go_simp
        with_reducible rfl
      try simp only [Act.put, List.setIfInBounds_toArray, List.set_cons_zero, List.set_cons_succ])
    rotate_left
    go_simp
    obtain ⟨v3, gz, hn, hg, bq, xq⟩ := new_box v2 (ar Z) 5
    have HLHZ1 := Lib.hid (show wd.heap.size ≤ gz from hg ▸ HB.out.size)
    rw [hn, hg]
    replace HB := Lib.hid (HB.out.trans (bq.mono HB.out.size))
    replace HP := Lib.hid (HP.out.below bq HP.out.lt)
    replace HA := Lib.hid (HA.out.below bq HA.out.lt)
    have HZ1 := Lib.hid xq
    refine hK _ _ HB.out ?_
    clear hK K hn hg xq bq
    try simp only [Act.put, List.setIfInBounds_toArray, List.set_cons_zero, List.set_cons_succ]
    refine wpI_turn [0, 2, 3, 4, 5, 6, 9, 10, 11] rfl ?_
    refine wpI_lone rfl (by kernel_rfl) (fun K hK => ?_)
    go_simp
    have HC := Lib.hid (stNew_any v3)
    refine HC.out.mono ?_
    rintro ev v4 ⟨y0, rfl, hy, _, b9⟩
    replace HB := Lib.hid (HB.out.trans (b9.mono HB.out.size))
    replace HP := Lib.hid (HP.out.below b9 HP.out.lt)
    replace HA := Lib.hid (HA.out.below b9 HA.out.lt)
    replace HZ1 := Lib.hid (HZ1.out.below b9 HZ1.out.lt)
    have HY0 := Lib.hid hy
    clear hy
    simp only [stV]
    refine hK _ _ HB.out ?_
    clear hK K b9 HC
    try simp only [Act.put, List.setIfInBounds_toArray, List.set_cons_zero, List.set_cons_succ]
    refine wpI_turn [2, 3, 4, 5, 6, 9, 10, 11] rfl ?_
    refine wpI_lone rfl (by kernel_rfl) (fun K hK => ?_)
    go_simp
    have HC := Lib.hid (HC1.out gz y0 v4 HY0.out HZ1.out)
    refine HC.out.mono ?_
    rintro ev v5 ⟨y1, rfl, hy, _, b9⟩
    replace HB := Lib.hid (HB.out.trans (b9.mono HB.out.size))
    replace HP := Lib.hid (HP.out.below b9 HP.out.lt)
    replace HA := Lib.hid (HA.out.below b9 HA.out.lt)
    replace HZ1 := Lib.hid (HZ1.out.below b9 HZ1.out.lt)
    replace HY0 := Lib.hid (HY0.out.bel b9)
    have HY1 := Lib.hid hy
    clear hy
    simp only [stV, ptV]
    refine hK _ _ HB.out ?_
    clear hK K b9 HC
    try simp only [Act.put, List.setIfInBounds_toArray, List.set_cons_zero, List.set_cons_succ]
    refine wpI_turn [3, 4, 5, 6, 9, 10, 11] rfl ?_
    iterate 4 (
      refine wpI_read (v := ?_) HB.out rfl (by kernel_rfl) (by kernel_rfl) (by kernel_rfl) (fun _ _ _ h => h) (.inl ⟨by rfl, ?_⟩) ?_
      rotate_left
      · intro X hX
        clear hX
        go_simp
        with_reducible rfl
      try simp only [Act.put, List.setIfInBounds_toArray, List.set_cons_zero, List.set_cons_succ])
    rotate_left
    all_goals (
      have HNE := Lib.hid (show gA ≠ gB from HA.out.ne HP.out (by decide))
      refine wpI_lone rfl (by kernel_rfl) (fun K hK => ?_)
      have m0 := stZ0 HA.out
      have m1 := stZ1 HA.out
      have m2 := stZ2 HA.out
      have m3 := stZ3 HA.out
      have m4 := stZ4 HA.out
      have hfz := fun i => HA.out.frozen i
      obtain ⟨xa, ka, ba⟩ := box_five (L := 0) HA.out (by decide) (Nat.zero_le _) HB.out HLHA.out (.slice y1.d.ba T1.1.1.length y1.d.bc) (.slice y1.d.wa T1.1.2.length y1.d.wc) (.slice y1.a T1.2.1.length y1.c) (.int .u32 (T1.2.2.1 : Int)) (.int .u32 (T1.2.2.2 : Int))
      have yHP := far5_bl (g := gA) HP.out HNE.out.symm (.slice y1.d.ba T1.1.1.length y1.d.bc) (.slice y1.d.wa T1.1.2.length y1.d.wc) (.slice y1.a T1.2.1.length y1.c) (.int .u32 (T1.2.2.1 : Int)) (.int .u32 (T1.2.2.2 : Int))
      obtain ⟨v6, hn⟩ : ∃ X, set5 v5 gA (.slice y1.d.ba T1.1.1.length y1.d.bc) (.slice y1.d.wa T1.1.2.length y1.d.wc) (.slice y1.a T1.2.1.length y1.c) (.int .u32 (T1.2.2.1 : Int)) (.int .u32 (T1.2.2.2 : Int)) = X := ⟨_, rfl⟩
      rw [hn] at xa ka ba yHP
      simp only [set5] at hn
      go_simp
      replace HB := Lib.hid ba
      replace HA := Lib.hid xa
      replace HP := Lib.hid yHP
      replace HY0 := Lib.hid (HY0.out.step ka)
      replace HY1 := Lib.hid (HY1.out.step ka)
      refine hK _ _ HB.out ?_
      clear hK K hn xa ka ba hfz m0 m1 m2 m3 m4 yHP
      try simp only [Act.put, List.setIfInBounds_toArray, List.set_cons_zero, List.set_cons_succ]
      refine wpI_lone rfl (by kernel_rfl) (fun K hK => ?_)
      have m0 := ptZ0 HP.out
      have m1 := ptZ1 HP.out
      have m2 := ptZ2 HP.out
      have m3 := ptZ3 HP.out
      have m4 := ptZ4 HP.out
      have hfz := fun i => HP.out.frozen i
      obtain ⟨xa, ka, ba⟩ := box_five (L := 0) HP.out (by decide) (Nat.zero_le _) HB.out HLHP.out (.int .i64 a1) (.int .u32 (b1 : Int)) (.int .u32 (i1 : Int)) (.int .u32 (t1 : Int)) (.int .u32 (s1 : Int))
      have yHA := far5_bl (g := gB) HA.out HNE.out (.int .i64 a1) (.int .u32 (b1 : Int)) (.int .u32 (i1 : Int)) (.int .u32 (t1 : Int)) (.int .u32 (s1 : Int))
      obtain ⟨v7, hn⟩ : ∃ X, set5 v6 gB (.int .i64 a1) (.int .u32 (b1 : Int)) (.int .u32 (i1 : Int)) (.int .u32 (t1 : Int)) (.int .u32 (s1 : Int)) = X := ⟨_, rfl⟩
      rw [hn] at xa ka ba yHA
      simp only [set5] at hn
      go_simp
      replace HB := Lib.hid ba
      replace HP := Lib.hid xa
      replace HA := Lib.hid yHA
      replace HY0 := Lib.hid (HY0.out.step ka)
      replace HY1 := Lib.hid (HY1.out.step ka)
      refine hK _ _ HB.out ?_
      clear hK K hn xa ka ba hfz m0 m1 m2 m3 m4 yHA
      try simp only [Act.put, List.setIfInBounds_toArray, List.set_cons_zero, List.set_cons_succ]
      iterate 1 (
        refine wpI_read (v := ?_) HB.out rfl (by kernel_rfl) (by kernel_rfl) (by kernel_rfl) (fun _ _ _ h => h) (.inl ⟨by rfl, ?_⟩) ?_
        rotate_left
        · intro X hX
          clear hX
          go_simp
          with_reducible rfl
        try simp only [Act.put, List.setIfInBounds_toArray, List.set_cons_zero, List.set_cons_succ])
      refine wpI_done (by kernel_rfl) ?_
      go_wp2_with fail
      go_meet
      exact ⟨gA, gB, y1, rfl, rfl, rfl, HA.out, HP.out, HY1.out, HBd.out.trans (HB.out.mono HBd.out.size), Nat.le_trans HBd.out.size HLHA.out, Nat.le_trans HBd.out.size HLHP.out, HNE.out⟩)
  obtain ⟨gA, gB, y1, rfl, rfl, rfl, hA, hP, hy, hbw, hgA, hgB, hne⟩ := hcut
  rename World => w3
  replace HX0 := Lib.hid (HX0.out.below hbw HX0.out.lt)
  replace HQ0 := Lib.hid (HQ0.out.below hbw HQ0.out.lt)
  replace HR := Lib.hid (HR.out.below hbw HR.out.lt)
  replace HO := Lib.hid (HO.out.below hbw HO.out.lt)
  replace HB := Lib.hid (HB.out.trans (hbw.mono HB.out.size))
  replace HLW := Lib.hid (Nat.le_trans HLW.out hbw.size)
  have HA := Lib.hid hA
  have HP := Lib.hid hP
  have HY := Lib.hid hy
  have HOA := Lib.hid (show g3 < gA ∧ g3 < gB ∧ gA ≠ gB by have := HOR.out; omega)
  clear hA hP hy hbw hgA hgB hne
  have HOAW := Lib.hid (show g3 < w3.heap.size ∧ gA < w3.heap.size ∧ gB < w3.heap.size from ⟨HO.out.lt, HA.out.lt, HP.out.lt⟩)
  go_wp2_with fail
  go_cut [7, 8] from 26 to 92 (fun a b wx => ∃ gC y, a = .pointer (some ⟨gC, 0, none⟩) ∧ b = .int .i64 0 ∧ Blk wx g0 30 stZ ∧ Blk wx g1 32 ptZ ∧ Blk wx gh 32 noPts ∧ Blk wx g3 40 #[.int .u8 1, .int .i64 0, .int .i64 0, .slice (some ⟨gh, 0, none⟩) 15 15] ∧ Blk wx gA 30 (stC y T2) ∧ Blk wx gB 32 #[.int .i64 a1, .int .u32 (b1 : Int), .int .u32 (i1 : Int), .int .u32 (t1 : Int), .int .u32 (s1 : Int)] ∧ Blk wx gC 32 #[.int .i64 a2, .int .u32 (b2 : Int), .int .u32 (i2 : Int), .int .u32 (t2 : Int), .int .u32 (s2 : Int)] ∧ StP 0 wx y T2 ∧ Below w.heap.size w wx ∧ w3.heap.size ≤ gC)
  case first =>
    obtain ⟨wd, hwd⟩ : ∃ wd, w3.drew = wd := ⟨_, rfl⟩
    have bq : Below w3.heap.size w3 wd := by rw [← hwd]; exact (Below.refl _ _).drew
    have HSD := Lib.hid bq.size
    have HAH := Lib.hid (show gA < wd.heap.size by have := HA.out.lt; have := bq.size; omega)
    replace HX0 := Lib.hid (HX0.out.below bq HX0.out.lt)
    replace HQ0 := Lib.hid (HQ0.out.below bq HQ0.out.lt)
    replace HR := Lib.hid (HR.out.below bq HR.out.lt)
    replace HO := Lib.hid (HO.out.below bq HO.out.lt)
    replace HB := Lib.hid (HB.out.trans (bq.mono HB.out.size))
    replace HA := Lib.hid (HA.out.below bq HA.out.lt)
    replace HP := Lib.hid (HP.out.below bq HP.out.lt)
    replace HY := Lib.hid (HY.out.bel bq)
    replace HLW := Lib.hid (Nat.le_trans HLW.out bq.size)
    clear bq
    have HC2 : Hid (∀ (gz : Nat) (W : World), StP 0 W y1 T1 → Blk W gz 5 (ar Z) → Calls Tryz.prog 24 #[stV y1 T1, .int .u32 5, .slice (some ⟨gz, 0, none⟩) 256 256] W (NewSP (T2, (a2, b2, i2, t2, s2), 0) W)) := Lib.hid (fun gz W hy hzb => by
      have hc := stLay_any 0 y1 T1 5 (some ⟨gz, 0, none⟩) 256 Z W hy (by rw [HLZ.out]; exact hzb.bsl HLZ.out (by omega)) M1.out (Nat.zero_le _) (by omega)
      rw [HL2.out, HLZ.out] at hc
      exact hc)
    have HLHA := Lib.hid (show w.heap.size ≤ gA by have := HOR.out; have := HOA.out; omega)
    obtain ⟨HH, hHH⟩ : ∃ n, wd.heap.size = n := ⟨_, rfl⟩
    have HSZ := Lib.hid (show HH ≤ wd.heap.size from Nat.le_of_eq hHH.symm)
    rw [hHH] at HAH HSD
    clear hHH
    refine wpI_start (Below w.heap.size w) [0, 1, 7, 2, 3, 4, 5, 6, 8, 9, 10] hmx rfl hwd ?_
    clear hwd
    refine wpI_turn [0, 1, 7, 2, 3, 4, 5, 6, 8, 9, 10] rfl ?_
    refine wpI_fork3 rfl rfl rfl (by kernel_rfl) (fun K hK => ?_) (fun K hK => ?_) (fun K hK => ?_)
    have d0 := bx0 HA.out
    have d1 := bx1 HA.out
    have d2 := bx2 HA.out
    have d3 := bx3 HA.out
    have d4 := bx4 HA.out
    go_simp
    refine hK _ _ HB.out ?_
    clear hK K d0 d1 d2 d3 d4
    try simp only [Act.put, List.setIfInBounds_toArray, List.set_cons_zero, List.set_cons_succ]
    refine wpI_turn [1, 7, 2, 3, 4, 5, 6, 8, 9, 10] rfl ?_
    refine wpI_fork rfl rfl (by kernel_rfl) (fun K hK => ?_) (fun K hK => ?_)
    go_simp
    obtain ⟨v1, gz, hn, hg, bq, xq⟩ := new_box wd (ar Z) 5
    have HLHZ1 := Lib.hid (show w.heap.size ≤ gz from hg ▸ HB.out.size)
    have HGHZ1 := Lib.hid (show HH ≤ gz from hg ▸ HSZ.out)
    rw [hn, hg]
    replace HX0 := Lib.hid (HX0.out.below bq HX0.out.lt)
    replace HQ0 := Lib.hid (HQ0.out.below bq HQ0.out.lt)
    replace HR := Lib.hid (HR.out.below bq HR.out.lt)
    replace HO := Lib.hid (HO.out.below bq HO.out.lt)
    replace HB := Lib.hid (HB.out.trans (bq.mono HB.out.size))
    replace HA := Lib.hid (HA.out.below bq HA.out.lt)
    replace HP := Lib.hid (HP.out.below bq HP.out.lt)
    replace HY := Lib.hid (HY.out.bel bq)
    replace HSZ := Lib.hid (Nat.le_trans HSZ.out bq.size)
    have HZ1 := Lib.hid xq
    refine hK _ _ HB.out ?_
    clear hK K hn hg xq bq
    try simp only [Act.put, List.setIfInBounds_toArray, List.set_cons_zero, List.set_cons_succ]
    refine wpI_turn [2, 7, 3, 4, 5, 6, 8, 9, 10] rfl ?_
    refine wpI_fork rfl rfl (by kernel_rfl) (fun K hK => ?_) (fun K hK => ?_)
    go_simp
    have HC := Lib.hid (HC2.out gz v1 HY.out HZ1.out)
    refine HC.out.mono ?_
    rintro ev v2 ⟨y2, rfl, hy, _, b9⟩
    replace HX0 := Lib.hid (HX0.out.below b9 HX0.out.lt)
    replace HQ0 := Lib.hid (HQ0.out.below b9 HQ0.out.lt)
    replace HR := Lib.hid (HR.out.below b9 HR.out.lt)
    replace HO := Lib.hid (HO.out.below b9 HO.out.lt)
    replace HB := Lib.hid (HB.out.trans (b9.mono HB.out.size))
    replace HA := Lib.hid (HA.out.below b9 HA.out.lt)
    replace HP := Lib.hid (HP.out.below b9 HP.out.lt)
    replace HY := Lib.hid (HY.out.bel b9)
    replace HZ1 := Lib.hid (HZ1.out.below b9 HZ1.out.lt)
    replace HSZ := Lib.hid (Nat.le_trans HSZ.out b9.size)
    have HY2 := Lib.hid hy
    clear hy
    simp only [stV, ptV]
    refine hK _ _ HB.out ?_
    clear hK K b9 HC
    try simp only [Act.put, List.setIfInBounds_toArray, List.set_cons_zero, List.set_cons_succ]
    refine wpI_turn [3, 4, 5, 6, 7, 8, 9, 10] rfl ?_
    iterate 4 (
      refine wpI_read (v := ?_) HB.out rfl (by kernel_rfl) (by kernel_rfl) (by kernel_rfl) (fun _ _ _ h => h) (.inl ⟨by rfl, ?_⟩) ?_
      rotate_left
      · intro X hX
        clear hX
        go_simp
        with_reducible rfl
      try simp only [Act.put, List.setIfInBounds_toArray, List.set_cons_zero, List.set_cons_succ])
    refine wpI_turn [7, 8, 9, 10] rfl ?_
    refine wpI_lone rfl (by kernel_rfl) (fun K hK => ?_)
    go_simp
    obtain ⟨v3, gC, hn, hg, bq, xq⟩ := new_box v2 ptZ 32
    have HLHP2 := Lib.hid (show w.heap.size ≤ gC from hg ▸ HB.out.size)
    have HGHP2 := Lib.hid (show HH ≤ gC from hg ▸ HSZ.out)
    rw [hn, hg]
    replace HX0 := Lib.hid (HX0.out.below bq HX0.out.lt)
    replace HQ0 := Lib.hid (HQ0.out.below bq HQ0.out.lt)
    replace HR := Lib.hid (HR.out.below bq HR.out.lt)
    replace HO := Lib.hid (HO.out.below bq HO.out.lt)
    replace HB := Lib.hid (HB.out.trans (bq.mono HB.out.size))
    replace HA := Lib.hid (HA.out.below bq HA.out.lt)
    replace HP := Lib.hid (HP.out.below bq HP.out.lt)
    replace HY := Lib.hid (HY.out.bel bq)
    replace HZ1 := Lib.hid (HZ1.out.below bq HZ1.out.lt)
    replace HY2 := Lib.hid (HY2.out.bel bq)
    replace HSZ := Lib.hid (Nat.le_trans HSZ.out bq.size)
    have HP2 := Lib.hid xq
    refine hK _ _ HB.out ?_
    clear hK K hn hg xq bq
    try simp only [Act.put, List.setIfInBounds_toArray, List.set_cons_zero, List.set_cons_succ]
    rotate_left
    go_simp
    obtain ⟨v2, gC, hn, hg, bq, xq⟩ := new_box v1 ptZ 32
    have HLHP2 := Lib.hid (show w.heap.size ≤ gC from hg ▸ HB.out.size)
    have HGHP2 := Lib.hid (show HH ≤ gC from hg ▸ HSZ.out)
    rw [hn, hg]
    replace HX0 := Lib.hid (HX0.out.below bq HX0.out.lt)
    replace HQ0 := Lib.hid (HQ0.out.below bq HQ0.out.lt)
    replace HR := Lib.hid (HR.out.below bq HR.out.lt)
    replace HO := Lib.hid (HO.out.below bq HO.out.lt)
    replace HB := Lib.hid (HB.out.trans (bq.mono HB.out.size))
    replace HA := Lib.hid (HA.out.below bq HA.out.lt)
    replace HP := Lib.hid (HP.out.below bq HP.out.lt)
    replace HY := Lib.hid (HY.out.bel bq)
    replace HZ1 := Lib.hid (HZ1.out.below bq HZ1.out.lt)
    replace HSZ := Lib.hid (Nat.le_trans HSZ.out bq.size)
    have HP2 := Lib.hid xq
    refine hK _ _ HB.out ?_
    clear hK K hn hg xq bq
    try simp only [Act.put, List.setIfInBounds_toArray, List.set_cons_zero, List.set_cons_succ]
    refine wpI_turn [2, 3, 4, 5, 6, 8, 9, 10] rfl ?_
    refine wpI_lone rfl (by kernel_rfl) (fun K hK => ?_)
    go_simp
    have HC := Lib.hid (HC2.out gz v2 HY.out HZ1.out)
    refine HC.out.mono ?_
    rintro ev v3 ⟨y2, rfl, hy, _, b9⟩
    replace HX0 := Lib.hid (HX0.out.below b9 HX0.out.lt)
    replace HQ0 := Lib.hid (HQ0.out.below b9 HQ0.out.lt)
    replace HR := Lib.hid (HR.out.below b9 HR.out.lt)
    replace HO := Lib.hid (HO.out.below b9 HO.out.lt)
    replace HB := Lib.hid (HB.out.trans (b9.mono HB.out.size))
    replace HA := Lib.hid (HA.out.below b9 HA.out.lt)
    replace HP := Lib.hid (HP.out.below b9 HP.out.lt)
    replace HY := Lib.hid (HY.out.bel b9)
    replace HZ1 := Lib.hid (HZ1.out.below b9 HZ1.out.lt)
    replace HP2 := Lib.hid (HP2.out.below b9 HP2.out.lt)
    replace HSZ := Lib.hid (Nat.le_trans HSZ.out b9.size)
    have HY2 := Lib.hid hy
    clear hy
    simp only [stV, ptV]
    refine hK _ _ HB.out ?_
    clear hK K b9 HC
    try simp only [Act.put, List.setIfInBounds_toArray, List.set_cons_zero, List.set_cons_succ]
    refine wpI_turn [3, 4, 5, 6, 8, 9, 10] rfl ?_
    iterate 4 (
      refine wpI_read (v := ?_) HB.out rfl (by kernel_rfl) (by kernel_rfl) (by kernel_rfl) (fun _ _ _ h => h) (.inl ⟨by rfl, ?_⟩) ?_
      rotate_left
      · intro X hX
        clear hX
        go_simp
        with_reducible rfl
      try simp only [Act.put, List.setIfInBounds_toArray, List.set_cons_zero, List.set_cons_succ])
    rotate_left
    go_simp
    obtain ⟨v1, gC, hn, hg, bq, xq⟩ := new_box wd ptZ 32
    have HLHP2 := Lib.hid (show w.heap.size ≤ gC from hg ▸ HB.out.size)
    have HGHP2 := Lib.hid (show HH ≤ gC from hg ▸ HSZ.out)
    rw [hn, hg]
    replace HX0 := Lib.hid (HX0.out.below bq HX0.out.lt)
    replace HQ0 := Lib.hid (HQ0.out.below bq HQ0.out.lt)
    replace HR := Lib.hid (HR.out.below bq HR.out.lt)
    replace HO := Lib.hid (HO.out.below bq HO.out.lt)
    replace HB := Lib.hid (HB.out.trans (bq.mono HB.out.size))
    replace HA := Lib.hid (HA.out.below bq HA.out.lt)
    replace HP := Lib.hid (HP.out.below bq HP.out.lt)
    replace HY := Lib.hid (HY.out.bel bq)
    replace HSZ := Lib.hid (Nat.le_trans HSZ.out bq.size)
    have HP2 := Lib.hid xq
    refine hK _ _ HB.out ?_
    clear hK K hn hg xq bq
    try simp only [Act.put, List.setIfInBounds_toArray, List.set_cons_zero, List.set_cons_succ]
    refine wpI_turn [1, 2, 3, 4, 5, 6, 8, 9, 10] rfl ?_
    refine wpI_lone rfl (by kernel_rfl) (fun K hK => ?_)
    go_simp
    obtain ⟨v2, gz, hn, hg, bq, xq⟩ := new_box v1 (ar Z) 5
    have HLHZ1 := Lib.hid (show w.heap.size ≤ gz from hg ▸ HB.out.size)
    have HGHZ1 := Lib.hid (show HH ≤ gz from hg ▸ HSZ.out)
    rw [hn, hg]
    replace HX0 := Lib.hid (HX0.out.below bq HX0.out.lt)
    replace HQ0 := Lib.hid (HQ0.out.below bq HQ0.out.lt)
    replace HR := Lib.hid (HR.out.below bq HR.out.lt)
    replace HO := Lib.hid (HO.out.below bq HO.out.lt)
    replace HB := Lib.hid (HB.out.trans (bq.mono HB.out.size))
    replace HA := Lib.hid (HA.out.below bq HA.out.lt)
    replace HP := Lib.hid (HP.out.below bq HP.out.lt)
    replace HY := Lib.hid (HY.out.bel bq)
    replace HP2 := Lib.hid (HP2.out.below bq HP2.out.lt)
    replace HSZ := Lib.hid (Nat.le_trans HSZ.out bq.size)
    have HZ1 := Lib.hid xq
    refine hK _ _ HB.out ?_
    clear hK K hn hg xq bq
    try simp only [Act.put, List.setIfInBounds_toArray, List.set_cons_zero, List.set_cons_succ]
    refine wpI_turn [2, 3, 4, 5, 6, 8, 9, 10] rfl ?_
    refine wpI_lone rfl (by kernel_rfl) (fun K hK => ?_)
    go_simp
    have HC := Lib.hid (HC2.out gz v2 HY.out HZ1.out)
    refine HC.out.mono ?_
    rintro ev v3 ⟨y2, rfl, hy, _, b9⟩
    replace HX0 := Lib.hid (HX0.out.below b9 HX0.out.lt)
    replace HQ0 := Lib.hid (HQ0.out.below b9 HQ0.out.lt)
    replace HR := Lib.hid (HR.out.below b9 HR.out.lt)
    replace HO := Lib.hid (HO.out.below b9 HO.out.lt)
    replace HB := Lib.hid (HB.out.trans (b9.mono HB.out.size))
    replace HA := Lib.hid (HA.out.below b9 HA.out.lt)
    replace HP := Lib.hid (HP.out.below b9 HP.out.lt)
    replace HY := Lib.hid (HY.out.bel b9)
    replace HP2 := Lib.hid (HP2.out.below b9 HP2.out.lt)
    replace HZ1 := Lib.hid (HZ1.out.below b9 HZ1.out.lt)
    replace HSZ := Lib.hid (Nat.le_trans HSZ.out b9.size)
    have HY2 := Lib.hid hy
    clear hy
    simp only [stV, ptV]
    refine hK _ _ HB.out ?_
    clear hK K b9 HC
    try simp only [Act.put, List.setIfInBounds_toArray, List.set_cons_zero, List.set_cons_succ]
    refine wpI_turn [3, 4, 5, 6, 8, 9, 10] rfl ?_
    iterate 4 (
      refine wpI_read (v := ?_) HB.out rfl (by kernel_rfl) (by kernel_rfl) (by kernel_rfl) (fun _ _ _ h => h) (.inl ⟨by rfl, ?_⟩) ?_
      rotate_left
      · intro X hX
        clear hX
        go_simp
        with_reducible rfl
      try simp only [Act.put, List.setIfInBounds_toArray, List.set_cons_zero, List.set_cons_succ])
    rotate_left
    go_simp
    obtain ⟨v1, gz, hn, hg, bq, xq⟩ := new_box wd (ar Z) 5
    have HLHZ1 := Lib.hid (show w.heap.size ≤ gz from hg ▸ HB.out.size)
    have HGHZ1 := Lib.hid (show HH ≤ gz from hg ▸ HSZ.out)
    rw [hn, hg]
    replace HX0 := Lib.hid (HX0.out.below bq HX0.out.lt)
    replace HQ0 := Lib.hid (HQ0.out.below bq HQ0.out.lt)
    replace HR := Lib.hid (HR.out.below bq HR.out.lt)
    replace HO := Lib.hid (HO.out.below bq HO.out.lt)
    replace HB := Lib.hid (HB.out.trans (bq.mono HB.out.size))
    replace HA := Lib.hid (HA.out.below bq HA.out.lt)
    replace HP := Lib.hid (HP.out.below bq HP.out.lt)
    replace HY := Lib.hid (HY.out.bel bq)
    replace HSZ := Lib.hid (Nat.le_trans HSZ.out bq.size)
    have HZ1 := Lib.hid xq
    refine hK _ _ HB.out ?_
    clear hK K hn hg xq bq
    try simp only [Act.put, List.setIfInBounds_toArray, List.set_cons_zero, List.set_cons_succ]
    refine wpI_turn [0, 7, 2, 3, 4, 5, 6, 8, 9, 10] rfl ?_
    refine wpI_fork rfl rfl (by kernel_rfl) (fun K hK => ?_) (fun K hK => ?_)
    have d0 := bx0 HA.out
    have d1 := bx1 HA.out
    have d2 := bx2 HA.out
    have d3 := bx3 HA.out
    have d4 := bx4 HA.out
    go_simp
    refine hK _ _ HB.out ?_
    clear hK K d0 d1 d2 d3 d4
    try simp only [Act.put, List.setIfInBounds_toArray, List.set_cons_zero, List.set_cons_succ]
    refine wpI_turn [2, 7, 3, 4, 5, 6, 8, 9, 10] rfl ?_
    refine wpI_fork rfl rfl (by kernel_rfl) (fun K hK => ?_) (fun K hK => ?_)
    go_simp
    have HC := Lib.hid (HC2.out gz v1 HY.out HZ1.out)
    refine HC.out.mono ?_
    rintro ev v2 ⟨y2, rfl, hy, _, b9⟩
    replace HX0 := Lib.hid (HX0.out.below b9 HX0.out.lt)
    replace HQ0 := Lib.hid (HQ0.out.below b9 HQ0.out.lt)
    replace HR := Lib.hid (HR.out.below b9 HR.out.lt)
    replace HO := Lib.hid (HO.out.below b9 HO.out.lt)
    replace HB := Lib.hid (HB.out.trans (b9.mono HB.out.size))
    replace HA := Lib.hid (HA.out.below b9 HA.out.lt)
    replace HP := Lib.hid (HP.out.below b9 HP.out.lt)
    replace HY := Lib.hid (HY.out.bel b9)
    replace HZ1 := Lib.hid (HZ1.out.below b9 HZ1.out.lt)
    replace HSZ := Lib.hid (Nat.le_trans HSZ.out b9.size)
    have HY2 := Lib.hid hy
    clear hy
    simp only [stV, ptV]
    refine hK _ _ HB.out ?_
    clear hK K b9 HC
    try simp only [Act.put, List.setIfInBounds_toArray, List.set_cons_zero, List.set_cons_succ]
    refine wpI_turn [3, 4, 5, 6, 7, 8, 9, 10] rfl ?_
    iterate 4 (
      refine wpI_read (v := ?_) HB.out rfl (by kernel_rfl) (by kernel_rfl) (by kernel_rfl) (fun _ _ _ h => h) (.inl ⟨by rfl, ?_⟩) ?_
      rotate_left
      · intro X hX
        clear hX
        go_simp
        with_reducible rfl
      try simp only [Act.put, List.setIfInBounds_toArray, List.set_cons_zero, List.set_cons_succ])
    refine wpI_turn [7, 8, 9, 10] rfl ?_
    refine wpI_lone rfl (by kernel_rfl) (fun K hK => ?_)
    go_simp
    obtain ⟨v3, gC, hn, hg, bq, xq⟩ := new_box v2 ptZ 32
    have HLHP2 := Lib.hid (show w.heap.size ≤ gC from hg ▸ HB.out.size)
    have HGHP2 := Lib.hid (show HH ≤ gC from hg ▸ HSZ.out)
    rw [hn, hg]
    replace HX0 := Lib.hid (HX0.out.below bq HX0.out.lt)
    replace HQ0 := Lib.hid (HQ0.out.below bq HQ0.out.lt)
    replace HR := Lib.hid (HR.out.below bq HR.out.lt)
    replace HO := Lib.hid (HO.out.below bq HO.out.lt)
    replace HB := Lib.hid (HB.out.trans (bq.mono HB.out.size))
    replace HA := Lib.hid (HA.out.below bq HA.out.lt)
    replace HP := Lib.hid (HP.out.below bq HP.out.lt)
    replace HY := Lib.hid (HY.out.bel bq)
    replace HZ1 := Lib.hid (HZ1.out.below bq HZ1.out.lt)
    replace HY2 := Lib.hid (HY2.out.bel bq)
    replace HSZ := Lib.hid (Nat.le_trans HSZ.out bq.size)
    have HP2 := Lib.hid xq
    refine hK _ _ HB.out ?_
    clear hK K hn hg xq bq
    try simp only [Act.put, List.setIfInBounds_toArray, List.set_cons_zero, List.set_cons_succ]
    rotate_left
    go_simp
    obtain ⟨v2, gC, hn, hg, bq, xq⟩ := new_box v1 ptZ 32
    have HLHP2 := Lib.hid (show w.heap.size ≤ gC from hg ▸ HB.out.size)
    have HGHP2 := Lib.hid (show HH ≤ gC from hg ▸ HSZ.out)
    rw [hn, hg]
    replace HX0 := Lib.hid (HX0.out.below bq HX0.out.lt)
    replace HQ0 := Lib.hid (HQ0.out.below bq HQ0.out.lt)
    replace HR := Lib.hid (HR.out.below bq HR.out.lt)
    replace HO := Lib.hid (HO.out.below bq HO.out.lt)
    replace HB := Lib.hid (HB.out.trans (bq.mono HB.out.size))
    replace HA := Lib.hid (HA.out.below bq HA.out.lt)
    replace HP := Lib.hid (HP.out.below bq HP.out.lt)
    replace HY := Lib.hid (HY.out.bel bq)
    replace HZ1 := Lib.hid (HZ1.out.below bq HZ1.out.lt)
    replace HSZ := Lib.hid (Nat.le_trans HSZ.out bq.size)
    have HP2 := Lib.hid xq
    refine hK _ _ HB.out ?_
    clear hK K hn hg xq bq
    try simp only [Act.put, List.setIfInBounds_toArray, List.set_cons_zero, List.set_cons_succ]
    refine wpI_turn [2, 3, 4, 5, 6, 8, 9, 10] rfl ?_
    refine wpI_lone rfl (by kernel_rfl) (fun K hK => ?_)
    go_simp
    have HC := Lib.hid (HC2.out gz v2 HY.out HZ1.out)
    refine HC.out.mono ?_
    rintro ev v3 ⟨y2, rfl, hy, _, b9⟩
    replace HX0 := Lib.hid (HX0.out.below b9 HX0.out.lt)
    replace HQ0 := Lib.hid (HQ0.out.below b9 HQ0.out.lt)
    replace HR := Lib.hid (HR.out.below b9 HR.out.lt)
    replace HO := Lib.hid (HO.out.below b9 HO.out.lt)
    replace HB := Lib.hid (HB.out.trans (b9.mono HB.out.size))
    replace HA := Lib.hid (HA.out.below b9 HA.out.lt)
    replace HP := Lib.hid (HP.out.below b9 HP.out.lt)
    replace HY := Lib.hid (HY.out.bel b9)
    replace HZ1 := Lib.hid (HZ1.out.below b9 HZ1.out.lt)
    replace HP2 := Lib.hid (HP2.out.below b9 HP2.out.lt)
    replace HSZ := Lib.hid (Nat.le_trans HSZ.out b9.size)
    have HY2 := Lib.hid hy
    clear hy
    simp only [stV, ptV]
    refine hK _ _ HB.out ?_
    clear hK K b9 HC
    try simp only [Act.put, List.setIfInBounds_toArray, List.set_cons_zero, List.set_cons_succ]
    refine wpI_turn [3, 4, 5, 6, 8, 9, 10] rfl ?_
    iterate 4 (
      refine wpI_read (v := ?_) HB.out rfl (by kernel_rfl) (by kernel_rfl) (by kernel_rfl) (fun _ _ _ h => h) (.inl ⟨by rfl, ?_⟩) ?_
      rotate_left
      · intro X hX
        clear hX
        go_simp
        with_reducible rfl
      try simp only [Act.put, List.setIfInBounds_toArray, List.set_cons_zero, List.set_cons_succ])
    rotate_left
    go_simp
    obtain ⟨v2, gC, hn, hg, bq, xq⟩ := new_box v1 ptZ 32
    have HLHP2 := Lib.hid (show w.heap.size ≤ gC from hg ▸ HB.out.size)
    have HGHP2 := Lib.hid (show HH ≤ gC from hg ▸ HSZ.out)
    rw [hn, hg]
    replace HX0 := Lib.hid (HX0.out.below bq HX0.out.lt)
    replace HQ0 := Lib.hid (HQ0.out.below bq HQ0.out.lt)
    replace HR := Lib.hid (HR.out.below bq HR.out.lt)
    replace HO := Lib.hid (HO.out.below bq HO.out.lt)
    replace HB := Lib.hid (HB.out.trans (bq.mono HB.out.size))
    replace HA := Lib.hid (HA.out.below bq HA.out.lt)
    replace HP := Lib.hid (HP.out.below bq HP.out.lt)
    replace HY := Lib.hid (HY.out.bel bq)
    replace HZ1 := Lib.hid (HZ1.out.below bq HZ1.out.lt)
    replace HSZ := Lib.hid (Nat.le_trans HSZ.out bq.size)
    have HP2 := Lib.hid xq
    refine hK _ _ HB.out ?_
    clear hK K hn hg xq bq
    try simp only [Act.put, List.setIfInBounds_toArray, List.set_cons_zero, List.set_cons_succ]
    refine wpI_turn [0, 2, 3, 4, 5, 6, 8, 9, 10] rfl ?_
    refine wpI_lone rfl (by kernel_rfl) (fun K hK => ?_)
    have d0 := bx0 HA.out
    have d1 := bx1 HA.out
    have d2 := bx2 HA.out
    have d3 := bx3 HA.out
    have d4 := bx4 HA.out
    go_simp
    refine hK _ _ HB.out ?_
    clear hK K d0 d1 d2 d3 d4
    try simp only [Act.put, List.setIfInBounds_toArray, List.set_cons_zero, List.set_cons_succ]
    refine wpI_turn [2, 3, 4, 5, 6, 8, 9, 10] rfl ?_
    refine wpI_lone rfl (by kernel_rfl) (fun K hK => ?_)
    go_simp
    have HC := Lib.hid (HC2.out gz v2 HY.out HZ1.out)
    refine HC.out.mono ?_
    rintro ev v3 ⟨y2, rfl, hy, _, b9⟩
    replace HX0 := Lib.hid (HX0.out.below b9 HX0.out.lt)
    replace HQ0 := Lib.hid (HQ0.out.below b9 HQ0.out.lt)
    replace HR := Lib.hid (HR.out.below b9 HR.out.lt)
    replace HO := Lib.hid (HO.out.below b9 HO.out.lt)
    replace HB := Lib.hid (HB.out.trans (b9.mono HB.out.size))
    replace HA := Lib.hid (HA.out.below b9 HA.out.lt)
    replace HP := Lib.hid (HP.out.below b9 HP.out.lt)
    replace HY := Lib.hid (HY.out.bel b9)
    replace HZ1 := Lib.hid (HZ1.out.below b9 HZ1.out.lt)
    replace HP2 := Lib.hid (HP2.out.below b9 HP2.out.lt)
    replace HSZ := Lib.hid (Nat.le_trans HSZ.out b9.size)
    have HY2 := Lib.hid hy
    clear hy
    simp only [stV, ptV]
    refine hK _ _ HB.out ?_
    clear hK K b9 HC
    try simp only [Act.put, List.setIfInBounds_toArray, List.set_cons_zero, List.set_cons_succ]
    refine wpI_turn [3, 4, 5, 6, 8, 9, 10] rfl ?_
    iterate 4 (
      refine wpI_read (v := ?_) HB.out rfl (by kernel_rfl) (by kernel_rfl) (by kernel_rfl) (fun _ _ _ h => h) (.inl ⟨by rfl, ?_⟩) ?_
      rotate_left
      · intro X hX
        clear hX
        go_simp
        with_reducible rfl
      try simp only [Act.put, List.setIfInBounds_toArray, List.set_cons_zero, List.set_cons_succ])
    rotate_left
    go_simp
    obtain ⟨v1, gC, hn, hg, bq, xq⟩ := new_box wd ptZ 32
    have HLHP2 := Lib.hid (show w.heap.size ≤ gC from hg ▸ HB.out.size)
    have HGHP2 := Lib.hid (show HH ≤ gC from hg ▸ HSZ.out)
    rw [hn, hg]
    replace HX0 := Lib.hid (HX0.out.below bq HX0.out.lt)
    replace HQ0 := Lib.hid (HQ0.out.below bq HQ0.out.lt)
    replace HR := Lib.hid (HR.out.below bq HR.out.lt)
    replace HO := Lib.hid (HO.out.below bq HO.out.lt)
    replace HB := Lib.hid (HB.out.trans (bq.mono HB.out.size))
    replace HA := Lib.hid (HA.out.below bq HA.out.lt)
    replace HP := Lib.hid (HP.out.below bq HP.out.lt)
    replace HY := Lib.hid (HY.out.bel bq)
    replace HSZ := Lib.hid (Nat.le_trans HSZ.out bq.size)
    have HP2 := Lib.hid xq
    refine hK _ _ HB.out ?_
    clear hK K hn hg xq bq
    try simp only [Act.put, List.setIfInBounds_toArray, List.set_cons_zero, List.set_cons_succ]
    refine wpI_turn [0, 1, 2, 3, 4, 5, 6, 8, 9, 10] rfl ?_
    refine wpI_fork rfl rfl (by kernel_rfl) (fun K hK => ?_) (fun K hK => ?_)
    have d0 := bx0 HA.out
    have d1 := bx1 HA.out
    have d2 := bx2 HA.out
    have d3 := bx3 HA.out
    have d4 := bx4 HA.out
    go_simp
    refine hK _ _ HB.out ?_
    clear hK K d0 d1 d2 d3 d4
    try simp only [Act.put, List.setIfInBounds_toArray, List.set_cons_zero, List.set_cons_succ]
    refine wpI_turn [1, 2, 3, 4, 5, 6, 8, 9, 10] rfl ?_
    refine wpI_lone rfl (by kernel_rfl) (fun K hK => ?_)
    go_simp
    obtain ⟨v2, gz, hn, hg, bq, xq⟩ := new_box v1 (ar Z) 5
    have HLHZ1 := Lib.hid (show w.heap.size ≤ gz from hg ▸ HB.out.size)
    have HGHZ1 := Lib.hid (show HH ≤ gz from hg ▸ HSZ.out)
    rw [hn, hg]
    replace HX0 := Lib.hid (HX0.out.below bq HX0.out.lt)
    replace HQ0 := Lib.hid (HQ0.out.below bq HQ0.out.lt)
    replace HR := Lib.hid (HR.out.below bq HR.out.lt)
    replace HO := Lib.hid (HO.out.below bq HO.out.lt)
    replace HB := Lib.hid (HB.out.trans (bq.mono HB.out.size))
    replace HA := Lib.hid (HA.out.below bq HA.out.lt)
    replace HP := Lib.hid (HP.out.below bq HP.out.lt)
    replace HY := Lib.hid (HY.out.bel bq)
    replace HP2 := Lib.hid (HP2.out.below bq HP2.out.lt)
    replace HSZ := Lib.hid (Nat.le_trans HSZ.out bq.size)
    have HZ1 := Lib.hid xq
    refine hK _ _ HB.out ?_
    clear hK K hn hg xq bq
    try simp only [Act.put, List.setIfInBounds_toArray, List.set_cons_zero, List.set_cons_succ]
    refine wpI_turn [2, 3, 4, 5, 6, 8, 9, 10] rfl ?_
    refine wpI_lone rfl (by kernel_rfl) (fun K hK => ?_)
    go_simp
    have HC := Lib.hid (HC2.out gz v2 HY.out HZ1.out)
    refine HC.out.mono ?_
    rintro ev v3 ⟨y2, rfl, hy, _, b9⟩
    replace HX0 := Lib.hid (HX0.out.below b9 HX0.out.lt)
    replace HQ0 := Lib.hid (HQ0.out.below b9 HQ0.out.lt)
    replace HR := Lib.hid (HR.out.below b9 HR.out.lt)
    replace HO := Lib.hid (HO.out.below b9 HO.out.lt)
    replace HB := Lib.hid (HB.out.trans (b9.mono HB.out.size))
    replace HA := Lib.hid (HA.out.below b9 HA.out.lt)
    replace HP := Lib.hid (HP.out.below b9 HP.out.lt)
    replace HY := Lib.hid (HY.out.bel b9)
    replace HP2 := Lib.hid (HP2.out.below b9 HP2.out.lt)
    replace HZ1 := Lib.hid (HZ1.out.below b9 HZ1.out.lt)
    replace HSZ := Lib.hid (Nat.le_trans HSZ.out b9.size)
    have HY2 := Lib.hid hy
    clear hy
    simp only [stV, ptV]
    refine hK _ _ HB.out ?_
    clear hK K b9 HC
    try simp only [Act.put, List.setIfInBounds_toArray, List.set_cons_zero, List.set_cons_succ]
    refine wpI_turn [3, 4, 5, 6, 8, 9, 10] rfl ?_
    iterate 4 (
      refine wpI_read (v := ?_) HB.out rfl (by kernel_rfl) (by kernel_rfl) (by kernel_rfl) (fun _ _ _ h => h) (.inl ⟨by rfl, ?_⟩) ?_
      rotate_left
      · intro X hX
        clear hX
        go_simp
        with_reducible rfl
      try simp only [Act.put, List.setIfInBounds_toArray, List.set_cons_zero, List.set_cons_succ])
    rotate_left
    go_simp
    obtain ⟨v2, gz, hn, hg, bq, xq⟩ := new_box v1 (ar Z) 5
    have HLHZ1 := Lib.hid (show w.heap.size ≤ gz from hg ▸ HB.out.size)
    have HGHZ1 := Lib.hid (show HH ≤ gz from hg ▸ HSZ.out)
    rw [hn, hg]
    replace HX0 := Lib.hid (HX0.out.below bq HX0.out.lt)
    replace HQ0 := Lib.hid (HQ0.out.below bq HQ0.out.lt)
    replace HR := Lib.hid (HR.out.below bq HR.out.lt)
    replace HO := Lib.hid (HO.out.below bq HO.out.lt)
    replace HB := Lib.hid (HB.out.trans (bq.mono HB.out.size))
    replace HA := Lib.hid (HA.out.below bq HA.out.lt)
    replace HP := Lib.hid (HP.out.below bq HP.out.lt)
    replace HY := Lib.hid (HY.out.bel bq)
    replace HP2 := Lib.hid (HP2.out.below bq HP2.out.lt)
    replace HSZ := Lib.hid (Nat.le_trans HSZ.out bq.size)
    have HZ1 := Lib.hid xq
    refine hK _ _ HB.out ?_
    clear hK K hn hg xq bq
    try simp only [Act.put, List.setIfInBounds_toArray, List.set_cons_zero, List.set_cons_succ]
    refine wpI_turn [0, 2, 3, 4, 5, 6, 8, 9, 10] rfl ?_
    refine wpI_lone rfl (by kernel_rfl) (fun K hK => ?_)
    have d0 := bx0 HA.out
    have d1 := bx1 HA.out
    have d2 := bx2 HA.out
    have d3 := bx3 HA.out
    have d4 := bx4 HA.out
    go_simp
    refine hK _ _ HB.out ?_
    clear hK K d0 d1 d2 d3 d4
    try simp only [Act.put, List.setIfInBounds_toArray, List.set_cons_zero, List.set_cons_succ]
    refine wpI_turn [2, 3, 4, 5, 6, 8, 9, 10] rfl ?_
    refine wpI_lone rfl (by kernel_rfl) (fun K hK => ?_)
    go_simp
    have HC := Lib.hid (HC2.out gz v2 HY.out HZ1.out)
    refine HC.out.mono ?_
    rintro ev v3 ⟨y2, rfl, hy, _, b9⟩
    replace HX0 := Lib.hid (HX0.out.below b9 HX0.out.lt)
    replace HQ0 := Lib.hid (HQ0.out.below b9 HQ0.out.lt)
    replace HR := Lib.hid (HR.out.below b9 HR.out.lt)
    replace HO := Lib.hid (HO.out.below b9 HO.out.lt)
    replace HB := Lib.hid (HB.out.trans (b9.mono HB.out.size))
    replace HA := Lib.hid (HA.out.below b9 HA.out.lt)
    replace HP := Lib.hid (HP.out.below b9 HP.out.lt)
    replace HY := Lib.hid (HY.out.bel b9)
    replace HP2 := Lib.hid (HP2.out.below b9 HP2.out.lt)
    replace HZ1 := Lib.hid (HZ1.out.below b9 HZ1.out.lt)
    replace HSZ := Lib.hid (Nat.le_trans HSZ.out b9.size)
    have HY2 := Lib.hid hy
    clear hy
    simp only [stV, ptV]
    refine hK _ _ HB.out ?_
    clear hK K b9 HC
    try simp only [Act.put, List.setIfInBounds_toArray, List.set_cons_zero, List.set_cons_succ]
    refine wpI_turn [3, 4, 5, 6, 8, 9, 10] rfl ?_
    iterate 4 (
      refine wpI_read (v := ?_) HB.out rfl (by kernel_rfl) (by kernel_rfl) (by kernel_rfl) (fun _ _ _ h => h) (.inl ⟨by rfl, ?_⟩) ?_
      rotate_left
      · intro X hX
        clear hX
        go_simp
        with_reducible rfl
      try simp only [Act.put, List.setIfInBounds_toArray, List.set_cons_zero, List.set_cons_succ])
    rotate_left
    all_goals (
      refine wpI_lone rfl (by kernel_rfl) (fun K hK => ?_)
      have m0 := bx0 HA.out
      have m1 := bx1 HA.out
      have m2 := bx2 HA.out
      have m3 := bx3 HA.out
      have m4 := bx4 HA.out
      have hfz := fun i => HA.out.frozen i
      obtain ⟨xa, ka, ba⟩ := box_five (L := 0) HA.out (by decide) (Nat.zero_le _) HB.out HLHA.out (.slice y2.d.ba T2.1.1.length y2.d.bc) (.slice y2.d.wa T2.1.2.length y2.d.wc) (.slice y2.a T2.2.1.length y2.c) (.int .u32 (T2.2.2.1 : Int)) (.int .u32 (T2.2.2.2 : Int))
      have yHX0 := far5_bl (g := gA) HX0.out (by have h1 := HOR.out; have h2 := HOA.out; have h3 := HAH.out; have h4 := HGHP2.out; have h5 := HOAW.out; have h6 := HSD.out; omega) (.slice y2.d.ba T2.1.1.length y2.d.bc) (.slice y2.d.wa T2.1.2.length y2.d.wc) (.slice y2.a T2.2.1.length y2.c) (.int .u32 (T2.2.2.1 : Int)) (.int .u32 (T2.2.2.2 : Int))
      have yHQ0 := far5_bl (g := gA) HQ0.out (by have h1 := HOR.out; have h2 := HOA.out; have h3 := HAH.out; have h4 := HGHP2.out; have h5 := HOAW.out; have h6 := HSD.out; omega) (.slice y2.d.ba T2.1.1.length y2.d.bc) (.slice y2.d.wa T2.1.2.length y2.d.wc) (.slice y2.a T2.2.1.length y2.c) (.int .u32 (T2.2.2.1 : Int)) (.int .u32 (T2.2.2.2 : Int))
      have yHR := far5_bl (g := gA) HR.out (by have h1 := HOR.out; have h2 := HOA.out; have h3 := HAH.out; have h4 := HGHP2.out; have h5 := HOAW.out; have h6 := HSD.out; omega) (.slice y2.d.ba T2.1.1.length y2.d.bc) (.slice y2.d.wa T2.1.2.length y2.d.wc) (.slice y2.a T2.2.1.length y2.c) (.int .u32 (T2.2.2.1 : Int)) (.int .u32 (T2.2.2.2 : Int))
      have yHO := far5_bl (g := gA) HO.out (by have h1 := HOR.out; have h2 := HOA.out; have h3 := HAH.out; have h4 := HGHP2.out; have h5 := HOAW.out; have h6 := HSD.out; omega) (.slice y2.d.ba T2.1.1.length y2.d.bc) (.slice y2.d.wa T2.1.2.length y2.d.wc) (.slice y2.a T2.2.1.length y2.c) (.int .u32 (T2.2.2.1 : Int)) (.int .u32 (T2.2.2.2 : Int))
      have yHP := far5_bl (g := gA) HP.out (by have h1 := HOR.out; have h2 := HOA.out; have h3 := HAH.out; have h4 := HGHP2.out; have h5 := HOAW.out; have h6 := HSD.out; omega) (.slice y2.d.ba T2.1.1.length y2.d.bc) (.slice y2.d.wa T2.1.2.length y2.d.wc) (.slice y2.a T2.2.1.length y2.c) (.int .u32 (T2.2.2.1 : Int)) (.int .u32 (T2.2.2.2 : Int))
      have yHP2 := far5_bl (g := gA) HP2.out (by have h1 := HOR.out; have h2 := HOA.out; have h3 := HAH.out; have h4 := HGHP2.out; have h5 := HOAW.out; have h6 := HSD.out; omega) (.slice y2.d.ba T2.1.1.length y2.d.bc) (.slice y2.d.wa T2.1.2.length y2.d.wc) (.slice y2.a T2.2.1.length y2.c) (.int .u32 (T2.2.2.1 : Int)) (.int .u32 (T2.2.2.2 : Int))
      obtain ⟨v4, hn⟩ : ∃ X, set5 v3 gA (.slice y2.d.ba T2.1.1.length y2.d.bc) (.slice y2.d.wa T2.1.2.length y2.d.wc) (.slice y2.a T2.2.1.length y2.c) (.int .u32 (T2.2.2.1 : Int)) (.int .u32 (T2.2.2.2 : Int)) = X := ⟨_, rfl⟩
      rw [hn] at xa ka ba yHX0 yHQ0 yHR yHO yHP yHP2
      simp only [set5] at hn
      go_simp
      replace HB := Lib.hid ba
      replace HA := Lib.hid xa
      replace HX0 := Lib.hid yHX0
      replace HQ0 := Lib.hid yHQ0
      replace HR := Lib.hid yHR
      replace HO := Lib.hid yHO
      replace HP := Lib.hid yHP
      replace HP2 := Lib.hid yHP2
      replace HY := Lib.hid (HY.out.step ka)
      replace HY2 := Lib.hid (HY2.out.step ka)
      refine hK _ _ HB.out ?_
      clear hK K hn xa ka ba hfz m0 m1 m2 m3 m4 yHX0 yHQ0 yHR yHO yHP yHP2
      try simp only [Act.put, List.setIfInBounds_toArray, List.set_cons_zero, List.set_cons_succ]
      refine wpI_lone rfl (by kernel_rfl) (fun K hK => ?_)
      have m0 := ptZ0 HP2.out
      have m1 := ptZ1 HP2.out
      have m2 := ptZ2 HP2.out
      have m3 := ptZ3 HP2.out
      have m4 := ptZ4 HP2.out
      have hfz := fun i => HP2.out.frozen i
      obtain ⟨xa, ka, ba⟩ := box_five (L := 0) HP2.out (by decide) (Nat.zero_le _) HB.out HLHP2.out (.int .i64 a2) (.int .u32 (b2 : Int)) (.int .u32 (i2 : Int)) (.int .u32 (t2 : Int)) (.int .u32 (s2 : Int))
      have yHX0 := far5_bl (g := gC) HX0.out (by have h1 := HOR.out; have h2 := HOA.out; have h3 := HAH.out; have h4 := HGHP2.out; have h5 := HOAW.out; have h6 := HSD.out; omega) (.int .i64 a2) (.int .u32 (b2 : Int)) (.int .u32 (i2 : Int)) (.int .u32 (t2 : Int)) (.int .u32 (s2 : Int))
      have yHQ0 := far5_bl (g := gC) HQ0.out (by have h1 := HOR.out; have h2 := HOA.out; have h3 := HAH.out; have h4 := HGHP2.out; have h5 := HOAW.out; have h6 := HSD.out; omega) (.int .i64 a2) (.int .u32 (b2 : Int)) (.int .u32 (i2 : Int)) (.int .u32 (t2 : Int)) (.int .u32 (s2 : Int))
      have yHR := far5_bl (g := gC) HR.out (by have h1 := HOR.out; have h2 := HOA.out; have h3 := HAH.out; have h4 := HGHP2.out; have h5 := HOAW.out; have h6 := HSD.out; omega) (.int .i64 a2) (.int .u32 (b2 : Int)) (.int .u32 (i2 : Int)) (.int .u32 (t2 : Int)) (.int .u32 (s2 : Int))
      have yHO := far5_bl (g := gC) HO.out (by have h1 := HOR.out; have h2 := HOA.out; have h3 := HAH.out; have h4 := HGHP2.out; have h5 := HOAW.out; have h6 := HSD.out; omega) (.int .i64 a2) (.int .u32 (b2 : Int)) (.int .u32 (i2 : Int)) (.int .u32 (t2 : Int)) (.int .u32 (s2 : Int))
      have yHP := far5_bl (g := gC) HP.out (by have h1 := HOR.out; have h2 := HOA.out; have h3 := HAH.out; have h4 := HGHP2.out; have h5 := HOAW.out; have h6 := HSD.out; omega) (.int .i64 a2) (.int .u32 (b2 : Int)) (.int .u32 (i2 : Int)) (.int .u32 (t2 : Int)) (.int .u32 (s2 : Int))
      have yHA := far5_bl (g := gC) HA.out (by have h1 := HOR.out; have h2 := HOA.out; have h3 := HAH.out; have h4 := HGHP2.out; have h5 := HOAW.out; have h6 := HSD.out; omega) (.int .i64 a2) (.int .u32 (b2 : Int)) (.int .u32 (i2 : Int)) (.int .u32 (t2 : Int)) (.int .u32 (s2 : Int))
      obtain ⟨v5, hn⟩ : ∃ X, set5 v4 gC (.int .i64 a2) (.int .u32 (b2 : Int)) (.int .u32 (i2 : Int)) (.int .u32 (t2 : Int)) (.int .u32 (s2 : Int)) = X := ⟨_, rfl⟩
      rw [hn] at xa ka ba yHX0 yHQ0 yHR yHO yHP yHA
      simp only [set5] at hn
      go_simp
      replace HB := Lib.hid ba
      replace HP2 := Lib.hid xa
      replace HX0 := Lib.hid yHX0
      replace HQ0 := Lib.hid yHQ0
      replace HR := Lib.hid yHR
      replace HO := Lib.hid yHO
      replace HP := Lib.hid yHP
      replace HA := Lib.hid yHA
      replace HY := Lib.hid (HY.out.step ka)
      replace HY2 := Lib.hid (HY2.out.step ka)
      refine hK _ _ HB.out ?_
      clear hK K hn xa ka ba hfz m0 m1 m2 m3 m4 yHX0 yHQ0 yHR yHO yHP yHA
      try simp only [Act.put, List.setIfInBounds_toArray, List.set_cons_zero, List.set_cons_succ]
      iterate 1 (
        refine wpI_read (v := ?_) HB.out rfl (by kernel_rfl) (by kernel_rfl) (by kernel_rfl) (fun _ _ _ h => h) (.inl ⟨by rfl, ?_⟩) ?_
        rotate_left
        · intro X hX
          clear hX
          go_simp
          with_reducible rfl
        try simp only [Act.put, List.setIfInBounds_toArray, List.set_cons_zero, List.set_cons_succ])
      refine wpI_done (by kernel_rfl) ?_
      go_wp2_with fail
      go_meet
      exact ⟨gC, y2, rfl, rfl, HX0.out, HQ0.out, HR.out, HO.out, HA.out, HP.out, HP2.out, HY2.out, HB.out, Nat.le_trans HSD.out HGHP2.out⟩)
  obtain ⟨gC, y2, rfl, rfl, hX0, hQ0, hR, hO, hA, hP, hP2, hy, hbw, hgC⟩ := hcut
  rename World => w4
  replace HX0 := Lib.hid hX0
  replace HQ0 := Lib.hid hQ0
  replace HR := Lib.hid hR
  replace HO := Lib.hid hO
  replace HA := Lib.hid hA
  replace HP := Lib.hid hP
  replace HY := Lib.hid hy
  replace HB := Lib.hid hbw
  have HP2 := Lib.hid hP2
  have HOC := Lib.hid (show g3 < gC ∧ gA < gC ∧ gB < gC by have := HOR.out; have := HOAW.out; omega)
  clear hX0 hQ0 hR hO hA hP hP2 hy hbw hgC
  replace HLW := Lib.hid (Nat.zero_le w4.heap.size)
  go_wp2_with fail
  go_cut [8] from 33 to 92 (fun a wx => a = .int .i64 0 ∧ Blk wx g0 30 stZ ∧ Blk wx g1 32 ptZ ∧ Blk wx gh 32 (ptCs (((List.replicate 15 p0).set 0 (a1, b1, i1, t1, s1)).set 4 (a2, b2, i2, t2, s2))).toArray ∧ Blk wx g3 40 #[.int .u8 1, .int .i64 0, .int .i64 0, .slice (some ⟨gh, 0, none⟩) 15 15] ∧ Blk wx gA 30 (stC y2 T2) ∧ StP 0 wx y2 T2 ∧ Below w.heap.size w wx)
  case first =>
    obtain ⟨wd, hwd⟩ : ∃ wd, w4.drew = wd := ⟨_, rfl⟩
    have bq : Below w4.heap.size w4 wd := by rw [← hwd]; exact (Below.refl _ _).drew
    replace HR : Hid (Blk w4 gh 32 (ptCs (List.replicate 15 p0)).toArray) := HR
    replace HX0 := Lib.hid (HX0.out.below bq HX0.out.lt)
    replace HQ0 := Lib.hid (HQ0.out.below bq HQ0.out.lt)
    replace HO := Lib.hid (HO.out.below bq HO.out.lt)
    replace HB := Lib.hid (HB.out.trans (bq.mono HB.out.size))
    replace HA := Lib.hid (HA.out.below bq HA.out.lt)
    replace HP := Lib.hid (HP.out.below bq HP.out.lt)
    replace HY := Lib.hid (HY.out.bel bq)
    replace HP2 := Lib.hid (HP2.out.below bq HP2.out.lt)
    replace HR := Lib.hid (HR.out.below bq HR.out.lt)
    replace HLW := Lib.hid (Nat.le_trans HLW.out bq.size)
    clear bq
    have HGH := Lib.hid (show w.heap.size ≤ gh by have := HOR.out; omega)
    have hs : (fun X => Blk X g3 40 #[.int .u8 1, .int .i64 0, .int .i64 0, .slice (some ⟨gh, 0, none⟩) 15 15] ∧ Blk X gB 32 #[.int .i64 a1, .int .u32 (b1 : Int), .int .u32 (i1 : Int), .int .u32 (t1 : Int), .int .u32 (s1 : Int)] ∧ Blk X gC 32 #[.int .i64 a2, .int .u32 (b2 : Int), .int .u32 (i2 : Int), .int .u32 (t2 : Int), .int .u32 (s2 : Int)]) wd := ⟨HO.out, HP.out, HP2.out⟩
    refine wpI_start (fun X => Blk X g3 40 #[.int .u8 1, .int .i64 0, .int .i64 0, .slice (some ⟨gh, 0, none⟩) 15 15] ∧ Blk X gB 32 #[.int .i64 a1, .int .u32 (b1 : Int), .int .u32 (i1 : Int), .int .u32 (t1 : Int), .int .u32 (s1 : Int)] ∧ Blk X gC 32 #[.int .i64 a2, .int .u32 (b2 : Int), .int .u32 (i2 : Int), .int .u32 (t2 : Int), .int .u32 (s2 : Int)]) [0, 1, 2, 3, 4, 5, 6, 7, 8, 9] hmx rfl hwd ?_
    clear hwd
    iterate 7 (
      refine wpI_read (v := ?_) hs rfl (by kernel_rfl) (by kernel_rfl) (by kernel_rfl) (fun _ _ _ h => h) (.inl ⟨by rfl, ?_⟩) ?_
      rotate_left
      · intro X hX
        obtain ⟨x3, xb, xc⟩ := hX
        have o3 := ox3 x3
        have d0 := bx0 xb
        have d1 := bx1 xb
        have d2 := bx2 xb
        have d3 := bx3 xb
        have d4 := bx4 xb
        have e0 := bx0 xc
        have e1 := bx1 xc
        have e2 := bx2 xc
        have e3 := bx3 xc
        have e4 := bx4 xc
        clear x3 xb xc
        go_simp
        with_reducible rfl
      try simp only [Act.put, List.setIfInBounds_toArray, List.set_cons_zero, List.set_cons_succ])
    clear hs
    refine wpI_lone rfl (by kernel_rfl) (fun K hK => ?_)
    have m0 : wd.cell? ⟨gh, 0, none⟩ = some (.int .i64 0) := HR.out.cell 0
    have m1 : wd.cell? ⟨gh, 1, none⟩ = some (.int .u32 0) := HR.out.cell 1
    have m2 : wd.cell? ⟨gh, 2, none⟩ = some (.int .u32 0) := HR.out.cell 2
    have m3 : wd.cell? ⟨gh, 3, none⟩ = some (.int .u32 0) := HR.out.cell 3
    have m4 : wd.cell? ⟨gh, 4, none⟩ = some (.int .u32 0) := HR.out.cell 4
    have hfz := fun i => HR.out.frozen i
    obtain ⟨xa, ka, ba⟩ := five_at (L := 0) HR.out (by decide) (Nat.zero_le _) HB.out HGH.out 0 1 2 3 4 (.int .i64 a1) (.int .u32 (b1 : Int)) (.int .u32 (i1 : Int)) (.int .u32 (t1 : Int)) (.int .u32 (s1 : Int))
    have yHX0 := five_far (g := gh) HX0.out (by have := HOR.out; have := HOA.out; have := HOC.out; omega) 0 1 2 3 4 (.int .i64 a1) (.int .u32 (b1 : Int)) (.int .u32 (i1 : Int)) (.int .u32 (t1 : Int)) (.int .u32 (s1 : Int))
    have yHQ0 := five_far (g := gh) HQ0.out (by have := HOR.out; have := HOA.out; have := HOC.out; omega) 0 1 2 3 4 (.int .i64 a1) (.int .u32 (b1 : Int)) (.int .u32 (i1 : Int)) (.int .u32 (t1 : Int)) (.int .u32 (s1 : Int))
    have yHO := five_far (g := gh) HO.out (by have := HOR.out; have := HOA.out; have := HOC.out; omega) 0 1 2 3 4 (.int .i64 a1) (.int .u32 (b1 : Int)) (.int .u32 (i1 : Int)) (.int .u32 (t1 : Int)) (.int .u32 (s1 : Int))
    have yHA := five_far (g := gh) HA.out (by have := HOR.out; have := HOA.out; have := HOC.out; omega) 0 1 2 3 4 (.int .i64 a1) (.int .u32 (b1 : Int)) (.int .u32 (i1 : Int)) (.int .u32 (t1 : Int)) (.int .u32 (s1 : Int))
    have yHP := five_far (g := gh) HP.out (by have := HOR.out; have := HOA.out; have := HOC.out; omega) 0 1 2 3 4 (.int .i64 a1) (.int .u32 (b1 : Int)) (.int .u32 (i1 : Int)) (.int .u32 (t1 : Int)) (.int .u32 (s1 : Int))
    have yHP2 := five_far (g := gh) HP2.out (by have := HOR.out; have := HOA.out; have := HOC.out; omega) 0 1 2 3 4 (.int .i64 a1) (.int .u32 (b1 : Int)) (.int .u32 (i1 : Int)) (.int .u32 (t1 : Int)) (.int .u32 (s1 : Int))
    rw [fill_0 (a1, b1, i1, t1, s1)] at xa
    obtain ⟨v1, hn⟩ : ∃ X, five wd gh 0 1 2 3 4 (.int .i64 a1) (.int .u32 (b1 : Int)) (.int .u32 (i1 : Int)) (.int .u32 (t1 : Int)) (.int .u32 (s1 : Int)) = X := ⟨_, rfl⟩
    rw [hn] at xa ka ba yHX0 yHQ0 yHO yHA yHP yHP2
    simp only [five] at hn
    go_simp
    replace HB := Lib.hid ba
    replace HR := Lib.hid xa
    replace HY := Lib.hid (HY.out.step ka)
    replace HX0 := Lib.hid yHX0
    replace HQ0 := Lib.hid yHQ0
    replace HO := Lib.hid yHO
    replace HA := Lib.hid yHA
    replace HP := Lib.hid yHP
    replace HP2 := Lib.hid yHP2
    refine hK _ _ ⟨HO.out, HP.out, HP2.out⟩ ?_
    clear hK K hn xa ka ba hfz m0 m1 m2 m3 m4 yHX0 yHQ0 yHO yHA yHP yHP2
    try simp only [Act.put, List.setIfInBounds_toArray, List.set_cons_zero, List.set_cons_succ]
    iterate 1 (
      refine wpI_read (v := ?_) (show (fun X => Blk X g3 40 #[.int .u8 1, .int .i64 0, .int .i64 0, .slice (some ⟨gh, 0, none⟩) 15 15] ∧ Blk X gB 32 #[.int .i64 a1, .int .u32 (b1 : Int), .int .u32 (i1 : Int), .int .u32 (t1 : Int), .int .u32 (s1 : Int)] ∧ Blk X gC 32 #[.int .i64 a2, .int .u32 (b2 : Int), .int .u32 (i2 : Int), .int .u32 (t2 : Int), .int .u32 (s2 : Int)]) v1 from ⟨HO.out, HP.out, HP2.out⟩) rfl (by kernel_rfl) (by kernel_rfl) (by kernel_rfl) (fun _ _ _ h => h) (.inl ⟨by rfl, ?_⟩) ?_
      rotate_left
      · intro X hX
        clear hX
        go_simp
        with_reducible rfl
      try simp only [Act.put, List.setIfInBounds_toArray, List.set_cons_zero, List.set_cons_succ])
    refine wpI_lone rfl (by kernel_rfl) (fun K hK => ?_)
    have m0 : v1.cell? ⟨gh, 20, none⟩ = some (.int .i64 0) := HR.out.cell 20
    have m1 : v1.cell? ⟨gh, 21, none⟩ = some (.int .u32 0) := HR.out.cell 21
    have m2 : v1.cell? ⟨gh, 22, none⟩ = some (.int .u32 0) := HR.out.cell 22
    have m3 : v1.cell? ⟨gh, 23, none⟩ = some (.int .u32 0) := HR.out.cell 23
    have m4 : v1.cell? ⟨gh, 24, none⟩ = some (.int .u32 0) := HR.out.cell 24
    have hfz := fun i => HR.out.frozen i
    obtain ⟨xa, ka, ba⟩ := five_at (L := 0) HR.out (by decide) (Nat.zero_le _) HB.out HGH.out 20 21 22 23 24 (.int .i64 a2) (.int .u32 (b2 : Int)) (.int .u32 (i2 : Int)) (.int .u32 (t2 : Int)) (.int .u32 (s2 : Int))
    have yHX0 := five_far (g := gh) HX0.out (by have := HOR.out; have := HOA.out; have := HOC.out; omega) 20 21 22 23 24 (.int .i64 a2) (.int .u32 (b2 : Int)) (.int .u32 (i2 : Int)) (.int .u32 (t2 : Int)) (.int .u32 (s2 : Int))
    have yHQ0 := five_far (g := gh) HQ0.out (by have := HOR.out; have := HOA.out; have := HOC.out; omega) 20 21 22 23 24 (.int .i64 a2) (.int .u32 (b2 : Int)) (.int .u32 (i2 : Int)) (.int .u32 (t2 : Int)) (.int .u32 (s2 : Int))
    have yHO := five_far (g := gh) HO.out (by have := HOR.out; have := HOA.out; have := HOC.out; omega) 20 21 22 23 24 (.int .i64 a2) (.int .u32 (b2 : Int)) (.int .u32 (i2 : Int)) (.int .u32 (t2 : Int)) (.int .u32 (s2 : Int))
    have yHA := five_far (g := gh) HA.out (by have := HOR.out; have := HOA.out; have := HOC.out; omega) 20 21 22 23 24 (.int .i64 a2) (.int .u32 (b2 : Int)) (.int .u32 (i2 : Int)) (.int .u32 (t2 : Int)) (.int .u32 (s2 : Int))
    have yHP := five_far (g := gh) HP.out (by have := HOR.out; have := HOA.out; have := HOC.out; omega) 20 21 22 23 24 (.int .i64 a2) (.int .u32 (b2 : Int)) (.int .u32 (i2 : Int)) (.int .u32 (t2 : Int)) (.int .u32 (s2 : Int))
    have yHP2 := five_far (g := gh) HP2.out (by have := HOR.out; have := HOA.out; have := HOC.out; omega) 20 21 22 23 24 (.int .i64 a2) (.int .u32 (b2 : Int)) (.int .u32 (i2 : Int)) (.int .u32 (t2 : Int)) (.int .u32 (s2 : Int))
    rw [fill_04 (a1, b1, i1, t1, s1) (a2, b2, i2, t2, s2)] at xa
    obtain ⟨v2, hn⟩ : ∃ X, five v1 gh 20 21 22 23 24 (.int .i64 a2) (.int .u32 (b2 : Int)) (.int .u32 (i2 : Int)) (.int .u32 (t2 : Int)) (.int .u32 (s2 : Int)) = X := ⟨_, rfl⟩
    rw [hn] at xa ka ba yHX0 yHQ0 yHO yHA yHP yHP2
    simp only [five] at hn
    go_simp
    replace HB := Lib.hid ba
    replace HR := Lib.hid xa
    replace HY := Lib.hid (HY.out.step ka)
    replace HX0 := Lib.hid yHX0
    replace HQ0 := Lib.hid yHQ0
    replace HO := Lib.hid yHO
    replace HA := Lib.hid yHA
    replace HP := Lib.hid yHP
    replace HP2 := Lib.hid yHP2
    refine hK _ _ ⟨HO.out, HP.out, HP2.out⟩ ?_
    clear hK K hn xa ka ba hfz m0 m1 m2 m3 m4 yHX0 yHQ0 yHO yHA yHP yHP2
    try simp only [Act.put, List.setIfInBounds_toArray, List.set_cons_zero, List.set_cons_succ]
    refine wpI_done (by kernel_rfl) ?_
    go_wp2_with fail
    go_meet
    exact ⟨rfl, HX0.out, HQ0.out, HR.out, HO.out, HA.out, HY.out, HB.out⟩
  obtain ⟨rfl, hX0, hQ0, hR, hO, hA, hy, hbw⟩ := hcut
  rename World => w5
  replace HX0 := Lib.hid hX0
  replace HQ0 := Lib.hid hQ0
  replace HR := Lib.hid hR
  replace HO := Lib.hid hO
  replace HA := Lib.hid hA
  replace HY := Lib.hid hy
  replace HB := Lib.hid hbw
  clear hX0 hQ0 hR hO hA hy hbw HP HP2
  replace HLW := Lib.hid (Nat.zero_le w5.heap.size)
  have o0 := ox0 HO.out
  have o1 := ox1 HO.out
  have o2 := ox2 HO.out
  have o3 := ox3 HO.out
  have hwr := obWrite_any (some ⟨gh, 0, none⟩) 15 (1, 0, 0, (((List.replicate 15 p0).set 0 (a1, b1, i1, t1, s1)).set 4 (a2, b2, i2, t2, s2))) w5 (blk_pts9 HR.out (fun q hq => HPW.out q (by rw [HMO.out]; exact hq)) (by simp)) (by rw [← HMO.out]; exact HWO.out) (HZ0.out.step HB.out)
  rw [← HMO.out, HOW.out] at hwr
  simp only at hwr
  have HWR := Lib.hid hwr
  clear hwr
  go_wp2_with fail
  clear o0 o1 o2 o3
  have hwr := HWR.out
  refine hwr.mono ?_
  rintro e w6 ⟨v6, rfl, hv, bq⟩
  rw [HBL.out] at hv
  obtain ⟨a6, c6, rfl⟩ := own_slice hv
  have HV := Lib.hid (own_bsl hv)
  replace HX0 := Lib.hid (HX0.out.below bq HX0.out.lt)
  replace HQ0 := Lib.hid (HQ0.out.below bq HQ0.out.lt)
  replace HB := Lib.hid (HB.out.trans (bq.mono HB.out.size))
  replace HA := Lib.hid (HA.out.below bq HA.out.lt)
  replace HY := Lib.hid (HY.out.bel bq)
  replace HLW := Lib.hid (Nat.le_trans HLW.out bq.size)
  clear bq hv hwr HWR HR HO
  have hlc := stLay_any 0 y2 T2 5 a6 c6 BB w6 HY.out (by rw [HBL.out]; exact HV.out) M2.out (Nat.zero_le _) (by omega)
  rw [HL3.out, HBL.out] at hlc
  have HLC := Lib.hid hlc
  clear hlc
  have d0 := bx0 HA.out
  have d1 := bx1 HA.out
  have d2 := bx2 HA.out
  have d3 := bx3 HA.out
  have d4 := bx4 HA.out
  go_wp2_with fail
  clear d0 d1 d2 d3 d4
  refine HLC.out.mono ?_
  rintro e w7 ⟨y3, rfl, hy, _, bq⟩
  replace HX0 := Lib.hid (HX0.out.below bq HX0.out.lt)
  replace HQ0 := Lib.hid (HQ0.out.below bq HQ0.out.lt)
  replace HB := Lib.hid (HB.out.trans (bq.mono HB.out.size))
  replace HA := Lib.hid (HA.out.below bq HA.out.lt)
  replace HY := Lib.hid (HY.out.bel bq)
  replace HLW := Lib.hid (Nat.le_trans HLW.out bq.size)
  replace HY := Lib.hid hy
  clear bq hy HLC HV
  have bq := (Below.refl w7.heap.size w7).alloc (Nat.le_refl _) (.cells ptZ 32)
  have xq := Blk.new w7 32 ptZ
  obtain ⟨w7a, hna⟩ : ∃ X, w7.alloc (.cells ptZ 32) = X := ⟨_, rfl⟩
  obtain ⟨gD, hga⟩ : ∃ X, w7.heap.size = X := ⟨_, rfl⟩
  have HGHP3 := Lib.hid (show w.heap.size ≤ gD by rw [← hga]; exact HB.out.size)
  have HGHA := Lib.hid (show w.heap.size ≤ gA by have := HOR.out; have := HOA.out; omega)
  have HNEW := Lib.hid (show g3 < gA ∧ gA < gD by have h1 := HA.out.lt; have h2 := HOA.out; omega)
  rw [hna] at bq xq
  rw [hga] at xq
  replace HX0 := Lib.hid (HX0.out.below bq HX0.out.lt)
  replace HQ0 := Lib.hid (HQ0.out.below bq HQ0.out.lt)
  replace HB := Lib.hid (HB.out.trans (bq.mono HB.out.size))
  replace HA := Lib.hid (HA.out.below bq HA.out.lt)
  replace HY := Lib.hid (HY.out.bel bq)
  replace HLW := Lib.hid (Nat.le_trans HLW.out bq.size)
  have HP3 := Lib.hid xq
  clear bq xq
  have m0 := bx0 HA.out
  have m1 := bx1 HA.out
  have m2 := bx2 HA.out
  have m3 := bx3 HA.out
  have m4 := bx4 HA.out
  have mf := fun i => HA.out.frozen i
  obtain ⟨xa, ka, ba⟩ := box_five (L := 0) HA.out (by decide) (Nat.zero_le _) HB.out HGHA.out (.slice y3.d.ba T3.1.1.length y3.d.bc) (.slice y3.d.wa T3.1.2.length y3.d.wc) (.slice y3.a T3.2.1.length y3.c) (.int .u32 (T3.2.2.1 : Int)) (.int .u32 (T3.2.2.2 : Int))
  have yHX0 := far5_bl HX0.out (show g0 ≠ gA by have h1 := HOR.out; have h2 := HNEW.out; omega) (.slice y3.d.ba T3.1.1.length y3.d.bc) (.slice y3.d.wa T3.1.2.length y3.d.wc) (.slice y3.a T3.2.1.length y3.c) (.int .u32 (T3.2.2.1 : Int)) (.int .u32 (T3.2.2.2 : Int))
  have yHQ0 := far5_bl HQ0.out (show g1 ≠ gA by have h1 := HOR.out; have h2 := HNEW.out; omega) (.slice y3.d.ba T3.1.1.length y3.d.bc) (.slice y3.d.wa T3.1.2.length y3.d.wc) (.slice y3.a T3.2.1.length y3.c) (.int .u32 (T3.2.2.1 : Int)) (.int .u32 (T3.2.2.2 : Int))
  have yHP3 := far5_bl HP3.out (show gD ≠ gA by have h1 := HOR.out; have h2 := HNEW.out; omega) (.slice y3.d.ba T3.1.1.length y3.d.bc) (.slice y3.d.wa T3.1.2.length y3.d.wc) (.slice y3.a T3.2.1.length y3.c) (.int .u32 (T3.2.2.1 : Int)) (.int .u32 (T3.2.2.2 : Int))
  obtain ⟨w7b, mn⟩ : ∃ X, set5 w7a gA (.slice y3.d.ba T3.1.1.length y3.d.bc) (.slice y3.d.wa T3.1.2.length y3.d.wc) (.slice y3.a T3.2.1.length y3.c) (.int .u32 (T3.2.2.1 : Int)) (.int .u32 (T3.2.2.2 : Int)) = X := ⟨_, rfl⟩
  rw [mn] at xa ka ba yHX0 yHQ0 yHP3
  simp only [set5] at mn
  replace HY := Lib.hid (HY.out.step ka)
  replace HA := Lib.hid xa
  replace HX0 := Lib.hid yHX0
  replace HQ0 := Lib.hid yHQ0
  replace HP3 := Lib.hid yHP3
  replace HB := Lib.hid ba
  clear xa ka ba yHX0 yHQ0 yHP3
  have n0 := ptZ0 HP3.out
  have n1 := ptZ1 HP3.out
  have n2 := ptZ2 HP3.out
  have n3 := ptZ3 HP3.out
  have n4 := ptZ4 HP3.out
  have nf := fun i => HP3.out.frozen i
  obtain ⟨xa, ka, ba⟩ := box_five (L := 0) HP3.out (by decide) (Nat.zero_le _) HB.out HGHP3.out (.int .i64 a3) (.int .u32 (b3 : Int)) (.int .u32 (i3 : Int)) (.int .u32 (t3 : Int)) (.int .u32 (s3 : Int))
  have yHX0 := far5_bl HX0.out (show g0 ≠ gD by have h1 := HOR.out; have h2 := HNEW.out; omega) (.int .i64 a3) (.int .u32 (b3 : Int)) (.int .u32 (i3 : Int)) (.int .u32 (t3 : Int)) (.int .u32 (s3 : Int))
  have yHQ0 := far5_bl HQ0.out (show g1 ≠ gD by have h1 := HOR.out; have h2 := HNEW.out; omega) (.int .i64 a3) (.int .u32 (b3 : Int)) (.int .u32 (i3 : Int)) (.int .u32 (t3 : Int)) (.int .u32 (s3 : Int))
  have yHA := far5_bl HA.out (show gA ≠ gD by have h1 := HOR.out; have h2 := HNEW.out; omega) (.int .i64 a3) (.int .u32 (b3 : Int)) (.int .u32 (i3 : Int)) (.int .u32 (t3 : Int)) (.int .u32 (s3 : Int))
  obtain ⟨w7c, nn⟩ : ∃ X, set5 w7b gD (.int .i64 a3) (.int .u32 (b3 : Int)) (.int .u32 (i3 : Int)) (.int .u32 (t3 : Int)) (.int .u32 (s3 : Int)) = X := ⟨_, rfl⟩
  rw [nn] at xa ka ba yHX0 yHQ0 yHA
  simp only [set5] at nn
  replace HY := Lib.hid (HY.out.step ka)
  replace HP3 := Lib.hid xa
  replace HX0 := Lib.hid yHX0
  replace HQ0 := Lib.hid yHQ0
  replace HA := Lib.hid yHA
  replace HB := Lib.hid ba
  clear xa ka ba yHX0 yHQ0 yHA
  replace HLW := Lib.hid (Nat.zero_le w7c.heap.size)
  simp only [stV, ptV]
  have q0 := bx0 HP3.out
  have q1 := bx1 HP3.out
  have q2 := bx2 HP3.out
  have q3 := bx3 HP3.out
  have q4 := bx4 HP3.out
  go_wp2_with fail
  clear m0 m1 m2 m3 m4 mf mn
  clear n0 n1 n2 n3 n4 nf nn
  clear q0 q1 q2 q3 q4
  clear hna hga
  have bq := (Below.refl w7c.heap.size w7c).alloc (Nat.le_refl _) (.cells (ptCs [p0, p0, (a3, b3, i3, t3, s3)]).toArray 32)
  have hps := blk_pts9 (Blk.new w7c 32 (ptCs [p0, p0, (a3, b3, i3, t3, s3)]).toArray) (fun q hq => HLW9.out q (by rw [HML.out]; exact hq)) (by simp)
  obtain ⟨w8, hn8⟩ : ∃ X, w7c.alloc (.cells (ptCs [p0, p0, (a3, b3, i3, t3, s3)]).toArray 32) = X := ⟨_, rfl⟩
  rw [hn8] at bq hps
  replace HX0 := Lib.hid (HX0.out.below bq HX0.out.lt)
  replace HQ0 := Lib.hid (HQ0.out.below bq HQ0.out.lt)
  replace HB := Lib.hid (HB.out.trans (bq.mono HB.out.size))
  replace HA := Lib.hid (HA.out.below bq HA.out.lt)
  replace HY := Lib.hid (HY.out.bel bq)
  replace HLW := Lib.hid (Nat.le_trans HLW.out bq.size)
  have hrw := Row_any (some ⟨w7c.heap.size, 0, none⟩) 3 3 [p0, p0, (a3, b3, i3, t3, s3)] w8 hps (HZ0.out.step HB.out)
  rw [show rowO [p0, p0, (a3, b3, i3, t3, s3)] = (WW, 0) from by rw [← HML.out]; exact HLR.out] at hrw
  simp only at hrw
  rw [show w7c.alloc (.cells #[.int .i64 0, .int .u32 0, .int .u32 0, .int .u32 0, .int .u32 0, .int .i64 0, .int .u32 0, .int .u32 0, .int .u32 0, .int .u32 0, .int .i64 a3, .int .u32 (b3 : Int), .int .u32 (i3 : Int), .int .u32 (t3 : Int), .int .u32 (s3 : Int)] 32) = w8 from hn8]
  clear hn8 hps bq
  refine hrw.mono ?_
  rintro e w9 ⟨v9, rfl, hv, bq⟩
  rw [HWL.out] at hv
  obtain ⟨a9, c9, rfl⟩ := own_slice hv
  have HV := Lib.hid (own_bsl hv)
  replace HX0 := Lib.hid (HX0.out.below bq HX0.out.lt)
  replace HQ0 := Lib.hid (HQ0.out.below bq HQ0.out.lt)
  replace HB := Lib.hid (HB.out.trans (bq.mono HB.out.size))
  replace HA := Lib.hid (HA.out.below bq HA.out.lt)
  replace HY := Lib.hid (HY.out.bel bq)
  replace HLW := Lib.hid (Nat.le_trans HLW.out bq.size)
  clear bq hv hrw HP3 HNEW
  have hlc := stLay_any 0 y3 T3 5 a9 c9 WW w9 HY.out (by rw [HWL.out]; exact HV.out) M3.out (Nat.zero_le _) (by omega)
  rw [HL4.out, HWL.out] at hlc
  have HLC := Lib.hid hlc
  clear hlc
  have d0 := bx0 HA.out
  have d1 := bx1 HA.out
  have d2 := bx2 HA.out
  have d3 := bx3 HA.out
  have d4 := bx4 HA.out
  go_wp2_with fail
  clear d0 d1 d2 d3 d4
  refine HLC.out.mono ?_
  rintro e w10 ⟨y4, rfl, hy, _, bq⟩
  replace HX0 := Lib.hid (HX0.out.below bq HX0.out.lt)
  replace HQ0 := Lib.hid (HQ0.out.below bq HQ0.out.lt)
  replace HB := Lib.hid (HB.out.trans (bq.mono HB.out.size))
  replace HA := Lib.hid (HA.out.below bq HA.out.lt)
  replace HY := Lib.hid (HY.out.bel bq)
  replace HLW := Lib.hid (Nat.le_trans HLW.out bq.size)
  replace HY := Lib.hid hy
  clear bq hy HLC HV
  have bq := (Below.refl w10.heap.size w10).alloc (Nat.le_refl _) (.cells ptZ 32)
  have xq := Blk.new w10 32 ptZ
  obtain ⟨w10a, hna⟩ : ∃ X, w10.alloc (.cells ptZ 32) = X := ⟨_, rfl⟩
  obtain ⟨gE, hga⟩ : ∃ X, w10.heap.size = X := ⟨_, rfl⟩
  have HGHP4 := Lib.hid (show w.heap.size ≤ gE by rw [← hga]; exact HB.out.size)
  have HGHA := Lib.hid (show w.heap.size ≤ gA by have := HOR.out; have := HOA.out; omega)
  have HNEW := Lib.hid (show g3 < gA ∧ gA < gE by have h1 := HA.out.lt; have h2 := HOA.out; omega)
  rw [hna] at bq xq
  rw [hga] at xq
  replace HX0 := Lib.hid (HX0.out.below bq HX0.out.lt)
  replace HQ0 := Lib.hid (HQ0.out.below bq HQ0.out.lt)
  replace HB := Lib.hid (HB.out.trans (bq.mono HB.out.size))
  replace HA := Lib.hid (HA.out.below bq HA.out.lt)
  replace HY := Lib.hid (HY.out.bel bq)
  replace HLW := Lib.hid (Nat.le_trans HLW.out bq.size)
  have HP4 := Lib.hid xq
  clear bq xq
  have m0 := bx0 HA.out
  have m1 := bx1 HA.out
  have m2 := bx2 HA.out
  have m3 := bx3 HA.out
  have m4 := bx4 HA.out
  have mf := fun i => HA.out.frozen i
  obtain ⟨xa, ka, ba⟩ := box_five (L := 0) HA.out (by decide) (Nat.zero_le _) HB.out HGHA.out (.slice y4.d.ba T4.1.1.length y4.d.bc) (.slice y4.d.wa T4.1.2.length y4.d.wc) (.slice y4.a T4.2.1.length y4.c) (.int .u32 (T4.2.2.1 : Int)) (.int .u32 (T4.2.2.2 : Int))
  have yHX0 := far5_bl HX0.out (show g0 ≠ gA by have h1 := HOR.out; have h2 := HNEW.out; omega) (.slice y4.d.ba T4.1.1.length y4.d.bc) (.slice y4.d.wa T4.1.2.length y4.d.wc) (.slice y4.a T4.2.1.length y4.c) (.int .u32 (T4.2.2.1 : Int)) (.int .u32 (T4.2.2.2 : Int))
  have yHQ0 := far5_bl HQ0.out (show g1 ≠ gA by have h1 := HOR.out; have h2 := HNEW.out; omega) (.slice y4.d.ba T4.1.1.length y4.d.bc) (.slice y4.d.wa T4.1.2.length y4.d.wc) (.slice y4.a T4.2.1.length y4.c) (.int .u32 (T4.2.2.1 : Int)) (.int .u32 (T4.2.2.2 : Int))
  have yHP4 := far5_bl HP4.out (show gE ≠ gA by have h1 := HOR.out; have h2 := HNEW.out; omega) (.slice y4.d.ba T4.1.1.length y4.d.bc) (.slice y4.d.wa T4.1.2.length y4.d.wc) (.slice y4.a T4.2.1.length y4.c) (.int .u32 (T4.2.2.1 : Int)) (.int .u32 (T4.2.2.2 : Int))
  obtain ⟨w10b, mn⟩ : ∃ X, set5 w10a gA (.slice y4.d.ba T4.1.1.length y4.d.bc) (.slice y4.d.wa T4.1.2.length y4.d.wc) (.slice y4.a T4.2.1.length y4.c) (.int .u32 (T4.2.2.1 : Int)) (.int .u32 (T4.2.2.2 : Int)) = X := ⟨_, rfl⟩
  rw [mn] at xa ka ba yHX0 yHQ0 yHP4
  simp only [set5] at mn
  replace HY := Lib.hid (HY.out.step ka)
  replace HA := Lib.hid xa
  replace HX0 := Lib.hid yHX0
  replace HQ0 := Lib.hid yHQ0
  replace HP4 := Lib.hid yHP4
  replace HB := Lib.hid ba
  clear xa ka ba yHX0 yHQ0 yHP4
  have n0 := ptZ0 HP4.out
  have n1 := ptZ1 HP4.out
  have n2 := ptZ2 HP4.out
  have n3 := ptZ3 HP4.out
  have n4 := ptZ4 HP4.out
  have nf := fun i => HP4.out.frozen i
  obtain ⟨xa, ka, ba⟩ := box_five (L := 0) HP4.out (by decide) (Nat.zero_le _) HB.out HGHP4.out (.int .i64 a4) (.int .u32 (b4 : Int)) (.int .u32 (i4 : Int)) (.int .u32 (t4 : Int)) (.int .u32 (s4 : Int))
  have yHX0 := far5_bl HX0.out (show g0 ≠ gE by have h1 := HOR.out; have h2 := HNEW.out; omega) (.int .i64 a4) (.int .u32 (b4 : Int)) (.int .u32 (i4 : Int)) (.int .u32 (t4 : Int)) (.int .u32 (s4 : Int))
  have yHQ0 := far5_bl HQ0.out (show g1 ≠ gE by have h1 := HOR.out; have h2 := HNEW.out; omega) (.int .i64 a4) (.int .u32 (b4 : Int)) (.int .u32 (i4 : Int)) (.int .u32 (t4 : Int)) (.int .u32 (s4 : Int))
  have yHA := far5_bl HA.out (show gA ≠ gE by have h1 := HOR.out; have h2 := HNEW.out; omega) (.int .i64 a4) (.int .u32 (b4 : Int)) (.int .u32 (i4 : Int)) (.int .u32 (t4 : Int)) (.int .u32 (s4 : Int))
  obtain ⟨w10c, nn⟩ : ∃ X, set5 w10b gE (.int .i64 a4) (.int .u32 (b4 : Int)) (.int .u32 (i4 : Int)) (.int .u32 (t4 : Int)) (.int .u32 (s4 : Int)) = X := ⟨_, rfl⟩
  rw [nn] at xa ka ba yHX0 yHQ0 yHA
  simp only [set5] at nn
  replace HY := Lib.hid (HY.out.step ka)
  replace HP4 := Lib.hid xa
  replace HX0 := Lib.hid yHX0
  replace HQ0 := Lib.hid yHQ0
  replace HA := Lib.hid yHA
  replace HB := Lib.hid ba
  clear xa ka ba yHX0 yHQ0 yHA
  replace HLW := Lib.hid (Nat.zero_le w10c.heap.size)
  simp only [stV, ptV]
  go_wp2_with fail
  clear m0 m1 m2 m3 m4 mf mn
  clear n0 n1 n2 n3 n4 nf nn
  clear hna hga
  obtain ⟨wd, hwd⟩ : ∃ wd, w10c.drew = wd := ⟨_, rfl⟩
  have bq : Below w10c.heap.size w10c wd := by rw [← hwd]; exact (Below.refl _ _).drew
  replace HX0 := Lib.hid (HX0.out.below bq HX0.out.lt)
  replace HQ0 := Lib.hid (HQ0.out.below bq HQ0.out.lt)
  replace HB := Lib.hid (HB.out.trans (bq.mono HB.out.size))
  replace HA := Lib.hid (HA.out.below bq HA.out.lt)
  replace HY := Lib.hid (HY.out.bel bq)
  replace HP4 := Lib.hid (HP4.out.below bq HP4.out.lt)
  replace HLW := Lib.hid (Nat.le_trans HLW.out bq.size)
  clear bq
  have HLHX0 := Lib.hid (show w.heap.size ≤ g0 by have := HOR.out; omega)
  have HLHQ0 := Lib.hid (show w.heap.size ≤ g1 by have := HOR.out; omega)
  have hs : (fun X => Blk X gA 30 (stC y4 T4) ∧ Blk X gE 32 #[.int .i64 a4, .int .u32 (b4 : Int), .int .u32 (i4 : Int), .int .u32 (t4 : Int), .int .u32 (s4 : Int)]) wd := ⟨HA.out, HP4.out⟩
  refine wpI_start (fun X => Blk X gA 30 (stC y4 T4) ∧ Blk X gE 32 #[.int .i64 a4, .int .u32 (b4 : Int), .int .u32 (i4 : Int), .int .u32 (t4 : Int), .int .u32 (s4 : Int)]) [0, 1, 2, 3, 4, 5, 6, 7, 8, 9, 10, 11, 12, 13, 14, 15, 16, 17, 18, 19, 20, 21, 22, 23, 24, 25, 26] hmx rfl hwd ?_
  clear hwd
  iterate 24 (
    refine wpI_read (v := ?_) hs rfl (by kernel_rfl) (by kernel_rfl) (by kernel_rfl) (fun _ _ _ h => h) (.inl ⟨by rfl, ?_⟩) ?_
    rotate_left
    · intro X hX
      obtain ⟨xb, xc⟩ := hX
      have d0 := bx0 xb
      have d1 := bx1 xb
      have d2 := bx2 xb
      have d3 := bx3 xb
      have d4 := bx4 xb
      have e0 := bx0 xc
      have e1 := bx1 xc
      have e2 := bx2 xc
      have e3 := bx3 xc
      have e4 := bx4 xc
      clear xb xc
      go_simp
      with_reducible rfl
    try simp only [Act.put, List.setIfInBounds_toArray, List.set_cons_zero, List.set_cons_succ])
  clear hs
  refine wpI_lone rfl (by kernel_rfl) (fun K hK => ?_)
  have m0 := stZ0 HX0.out
  have m1 := stZ1 HX0.out
  have m2 := stZ2 HX0.out
  have m3 := stZ3 HX0.out
  have m4 := stZ4 HX0.out
  have hfz := fun i => HX0.out.frozen i
  obtain ⟨xa, ka, ba⟩ := box_five (L := 0) HX0.out (by decide) (Nat.zero_le _) HB.out HLHX0.out (.slice y4.d.ba T4.1.1.length y4.d.bc) (.slice y4.d.wa T4.1.2.length y4.d.wc) (.slice y4.a T4.2.1.length y4.c) (.int .u32 (T4.2.2.1 : Int)) (.int .u32 (T4.2.2.2 : Int))
  have yHQ0 := far5_bl (g := g0) HQ0.out (by have := HOR.out; omega) (.slice y4.d.ba T4.1.1.length y4.d.bc) (.slice y4.d.wa T4.1.2.length y4.d.wc) (.slice y4.a T4.2.1.length y4.c) (.int .u32 (T4.2.2.1 : Int)) (.int .u32 (T4.2.2.2 : Int))
  have yHA := far5_bl (g := g0) HA.out (by have := HOR.out; have := HNEW.out; omega) (.slice y4.d.ba T4.1.1.length y4.d.bc) (.slice y4.d.wa T4.1.2.length y4.d.wc) (.slice y4.a T4.2.1.length y4.c) (.int .u32 (T4.2.2.1 : Int)) (.int .u32 (T4.2.2.2 : Int))
  have yHP4 := far5_bl (g := g0) HP4.out (by have := HOR.out; have := HNEW.out; omega) (.slice y4.d.ba T4.1.1.length y4.d.bc) (.slice y4.d.wa T4.1.2.length y4.d.wc) (.slice y4.a T4.2.1.length y4.c) (.int .u32 (T4.2.2.1 : Int)) (.int .u32 (T4.2.2.2 : Int))
  obtain ⟨v1, hn⟩ : ∃ X, set5 wd g0 (.slice y4.d.ba T4.1.1.length y4.d.bc) (.slice y4.d.wa T4.1.2.length y4.d.wc) (.slice y4.a T4.2.1.length y4.c) (.int .u32 (T4.2.2.1 : Int)) (.int .u32 (T4.2.2.2 : Int)) = X := ⟨_, rfl⟩
  rw [hn] at xa ka ba yHQ0 yHA yHP4
  simp only [set5] at hn
  go_simp
  replace HB := Lib.hid ba
  replace HX0 := Lib.hid xa
  replace HQ0 := Lib.hid yHQ0
  replace HA := Lib.hid yHA
  replace HP4 := Lib.hid yHP4
  replace HY := Lib.hid (HY.out.step ka)
  refine hK _ _ ⟨HA.out, HP4.out⟩ ?_
  clear hK K hn xa ka ba hfz m0 m1 m2 m3 m4 yHQ0 yHA yHP4
  try simp only [Act.put, List.setIfInBounds_toArray, List.set_cons_zero, List.set_cons_succ]
  refine wpI_lone rfl (by kernel_rfl) (fun K hK => ?_)
  have m0 := ptZ0 HQ0.out
  have m1 := ptZ1 HQ0.out
  have m2 := ptZ2 HQ0.out
  have m3 := ptZ3 HQ0.out
  have m4 := ptZ4 HQ0.out
  have hfz := fun i => HQ0.out.frozen i
  obtain ⟨xa, ka, ba⟩ := box_five (L := 0) HQ0.out (by decide) (Nat.zero_le _) HB.out HLHQ0.out (.int .i64 a4) (.int .u32 (b4 : Int)) (.int .u32 (i4 : Int)) (.int .u32 (t4 : Int)) (.int .u32 (s4 : Int))
  have yHX0 := far5_bl (g := g1) HX0.out (by have := HOR.out; omega) (.int .i64 a4) (.int .u32 (b4 : Int)) (.int .u32 (i4 : Int)) (.int .u32 (t4 : Int)) (.int .u32 (s4 : Int))
  have yHA := far5_bl (g := g1) HA.out (by have := HOR.out; have := HNEW.out; omega) (.int .i64 a4) (.int .u32 (b4 : Int)) (.int .u32 (i4 : Int)) (.int .u32 (t4 : Int)) (.int .u32 (s4 : Int))
  have yHP4 := far5_bl (g := g1) HP4.out (by have := HOR.out; have := HNEW.out; omega) (.int .i64 a4) (.int .u32 (b4 : Int)) (.int .u32 (i4 : Int)) (.int .u32 (t4 : Int)) (.int .u32 (s4 : Int))
  obtain ⟨v2, hn⟩ : ∃ X, set5 v1 g1 (.int .i64 a4) (.int .u32 (b4 : Int)) (.int .u32 (i4 : Int)) (.int .u32 (t4 : Int)) (.int .u32 (s4 : Int)) = X := ⟨_, rfl⟩
  rw [hn] at xa ka ba yHX0 yHA yHP4
  simp only [set5] at hn
  go_simp
  replace HB := Lib.hid ba
  replace HQ0 := Lib.hid xa
  replace HX0 := Lib.hid yHX0
  replace HA := Lib.hid yHA
  replace HP4 := Lib.hid yHP4
  replace HY := Lib.hid (HY.out.step ka)
  refine hK _ _ ⟨HA.out, HP4.out⟩ ?_
  clear hK K hn xa ka ba hfz m0 m1 m2 m3 m4 yHX0 yHA yHP4
  try simp only [Act.put, List.setIfInBounds_toArray, List.set_cons_zero, List.set_cons_succ]
  iterate 1 (
    refine wpI_read (v := ?_) (show (fun X => Blk X gA 30 (stC y4 T4) ∧ Blk X gE 32 #[.int .i64 a4, .int .u32 (b4 : Int), .int .u32 (i4 : Int), .int .u32 (t4 : Int), .int .u32 (s4 : Int)]) v2 from ⟨HA.out, HP4.out⟩) rfl (by kernel_rfl) (by kernel_rfl) (by kernel_rfl) (fun _ _ _ h => h) (.inl ⟨by rfl, ?_⟩) ?_
    rotate_left
    · intro X hX
      clear hX
      go_simp
      with_reducible rfl
    try simp only [Act.put, List.setIfInBounds_toArray, List.set_cons_zero, List.set_cons_succ])
  refine wpI_done (by kernel_rfl) ?_
  go_wp2_with fail
  have e0 := bx0 HX0.out
  have e1 := bx1 HX0.out
  have e2 := bx2 HX0.out
  have e3 := bx3 HX0.out
  have e4 := bx4 HX0.out
  have q0 := bx0 HQ0.out
  have q1 := bx1 HQ0.out
  have q2 := bx2 HQ0.out
  have q3 := bx3 HQ0.out
  have q4 := bx4 HQ0.out
  refine bodyPost_ret (v := .tuple #[stV y4 T4, ptV (a4, b4, i4, t4, s4), .bool true]) (by simp [results, Tryz.f10, go_sem, e0, e1, e2, e3, e4, q0, q1, q2, q3, q4, stV, ptV]) rfl ?_
  exact ⟨y4, Z, HLZ.out, by rw [HT4.out, HE4.out], by rw [HT4.out]; exact HY.out, HB.out⟩
end Go.Proofs.YtbggkfomfeeikaaGreatDoor
/-
  The document's own Row, may and Ptrs of layer 15.
-/
namespace Go.Proofs.YtbggkfomfeeikaaGreatDoor
open Go.RowKit Go.Shelf
set_option maxRecDepth 100000

theorem infoPtr4 : (Tryz.prog.info? 32).map (fun i => (i.zero, i.size, i.bytes)) = some (some (.agg #[.int .i64 0, .int .u32 0, .int .u32 0, .int .u32 0, .int .u32 0]), 5, 24) := by kernel_rfl
/-- The cells of sixteen pointers that are none. -/
def noPts16 : Array Value := (ptCs (List.replicate 16 p0)).toArray
theorem noPts16_eq : madeCells #[.int .i64 0, .int .u32 0, .int .u32 0, .int .u32 0, .int .u32 0] (16 * 5) = noPts16 := by kernel_rfl
theorem make_none16 (W : World) : (Instr.makeSlice 35 (.int .i64 16) (.int .i64 16)).run Tryz.prog W = .ok (.slice (some ⟨W.heap.size, 0, none⟩) 16 16) (W.alloc (.cells noPts16 32)) := by
  obtain ⟨i0, hi, hz0, hz1, hz2⟩ := info_parts infoPtr4
  have hr := run_make (P := Tryz.prog) W 35 32 i0 (.agg #[.int .i64 0, .int .u32 0, .int .u32 0, .int .u32 0, .int .u32 0]) Tryz.underlying35 hi hz0 .i64 .i64 16 16 (by omega) (Int.le_refl _) (by rw [hz2]; omega) (by omega)
  rw [hz1] at hr
  rw [← noPts16_eq]
  exact hr
theorem none16_pts {w : World} {g : Nat} (h : Blk w g 32 noPts16) : Pts w w.heap.size (some ⟨g, 0, none⟩) 16 16 (List.replicate 16 p0) :=
  ⟨rfl, Nat.le_refl _, by unfold maxLen; omega, fun e => (by cases e), fun _ => ⟨g, 0, rfl, h.lt, fun i hi => ⟨by rw [List.getElem_replicate]; exact wf_p0, fun j u hu => by
    have := ptCs_get (List.replicate 16 p0) i hi j u hu
    rw [Nat.zero_add, h.cell]
    exact (List.getElem?_toArray ..).trans this⟩⟩⟩
end Go.Proofs.YtbggkfomfeeikaaGreatDoor
