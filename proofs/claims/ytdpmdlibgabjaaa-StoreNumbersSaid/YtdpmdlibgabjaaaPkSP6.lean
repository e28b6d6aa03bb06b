/-
  Texts of one seat, one behind the other.
-/
import Derived.Laws.CopyOwn
import Derived.IntWalk
import Derived.Lib.SmallJoins
import Derived.Deep.Matrix
import Derived.Deep.SlicePairs
import Derived.Deep.Grids
import Derived.SizedLaws
import Derived.ProofKit
import Derived.OpenShut
import Derived.Test.YtdpmdlibgabjaaaPkSP5
/-
  Store's own: laid; a block is laid, if there is room, and nothing that was there is written.
-/
namespace Go.Proofs.Ytdpmdlibgabjaaa
open Go.RowKit Go.Shelf
set_option maxRecDepth 100000

/-- What comes behind a block's bytes: nothing, or two numbers. -/
def BySl (w : World) (sl : Value) (iv tag : Nat) : Prop := (sl = .slice none 0 0 ∧ iv = 0 ∧ tag = 0) ∨ ∃ g, sl = .slice (some ⟨g, 0, none⟩) 2 2 ∧ Blk w g 28 #[.int .u32 (iv : Int), .int .u32 (tag : Int)]
theorem BySl.below {w w' : World} {sl : Value} {iv tag : Nat} (h : BySl w sl iv tag) (b : Below w.heap.size w w') : BySl w' sl iv tag := h.imp id fun ⟨g, e, hb⟩ => ⟨g, e, hb.below b hb.lt⟩
theorem BySl.slice {w : World} {sl : Value} {iv tag : Nat} (h : BySl w sl iv tag) : ∃ a n c, sl = .slice a n c := by
  rcases h with ⟨rfl, _⟩ | ⟨g, rfl, _⟩ <;> exact ⟨_, _, _, rfl⟩
theorem atCopy2 {P : Program} {ops : Array Oper} {Q : Exit → Act → World → Prop} {a : Act} {w : World} {rest : List Oper} {d : Option Tmp} {ty : TypeId} {x : Array Operand} {y : Array TypeId} {pos : String} {af : Array Edge} (h : wpList P ops Q (⟨d, .call { callee := .builtin .copy, args := x, argTypes := y }, ty, pos, af, none⟩ :: rest) a w) : wpList P ops Q (⟨d, .call { callee := .builtin .copy, args := x, argTypes := y }, ty, pos, af, none⟩ :: rest) a w := h
theorem infoU32' : (Try.prog.info? 28).map (·.size) = some 1 := by kernel_rfl
theorem wpList_copy_two {w : World} {ops : Array Oper} {rest : List Oper} {o : Oper} {a : Act} {Q : Exit → Act → World → Prop} (hgd : o.guard = none) (d s : Operand) (ho : o.op = .call { callee := .builtin .copy, args := #[d, s], argTypes := #[75, 75] }) (g5 : Nat) (sl : Value) (iv tag : Nat)
    (hd : a.eval d = .slice (some ⟨g5, 0, none⟩) 2 2) (hs : a.eval s = sl) (hsl : BySl w sl iv tag) (hx : Blk w g5 79 #[.int .u32 0, .int .u32 0])
    (h : ∀ (m : Nat) w', Blk w' g5 79 #[.int .u32 (iv : Int), .int .u32 (tag : Int)] → Below g5 w w' → wpList Try.prog ops Q rest (a.put o.dst (.int .i64 m)) w') : wpList Try.prog ops Q (o :: rest) a w := by
  rcases hsl with ⟨rfl, rfl, rfl⟩ | ⟨g, rfl, hg⟩
  · refine wpList_copy_splice hgd d s 75 75 ho 28 Try.underlying75 infoU32' (some ⟨g5, 0, none⟩) none 2 2 0 0 hd hs g5 0 [.int .u32 0, .int .u32 0] 79 hx [] rfl
      (fun h => absurd h (by simp)) (by simp) (fun u hu => by cases hu) g5 w (Below.refl _ _) (Nat.le_refl _) ?_
    intro w2 hx2 hb2
    exact h 0 w2 hx2.out hb2
  · refine wpList_copy_splice hgd d s 75 75 ho 28 Try.underlying75 infoU32' (some ⟨g5, 0, none⟩) (some ⟨g, 0, none⟩) 2 2 2 2 hd hs g5 0 [.int .u32 0, .int .u32 0] 79 hx [.int .u32 (iv : Int), .int .u32 (tag : Int)] rfl
      (fun _ => ⟨rfl, _, rfl, fun j u hu => ?_⟩) (by simp) (fun u hu => ?_) g5 w (Below.refl _ _) (Nat.le_refl _) ?_
    · have hc := hg.cell j
      have e : (⟨g, 0, none⟩ : Addr).add j = ⟨g, j, none⟩ := by unfold Addr.add; split <;> simp_all
      rw [e, hc]
      simpa using hu
    · simp only [List.mem_cons, List.not_mem_nil, or_false] at hu
      rcases hu with rfl | rfl <;> rfl
    · intro w2 hx2 hb2
      exact h 2 w2 hx2.out hb2
theorem hiS_zero (w : World) (B : Nat) : HiS w B at0 st0 := ⟨.inl rfl, .inl rfl, .inl rfl⟩
theorem newSP_zero (z : Nat) {w w' : World} (hb : Below w.heap.size w w') : NewSP (st0, p0, z) w (.returned (.tuple #[.agg #[.slice none 0 0, .slice none 0 0, .slice none 0 0, .int .u32 0, .int .u32 0], .agg #[.int .i64 0, .int .u32 0, .int .u32 0, .int .u32 0, .int .u32 0], .int .i64 z])) w' :=
  ⟨at0, rfl, st0_lasts 0 w', hiS_zero w' _, hb⟩
theorem newSE_zero (z : Nat) {w w' : World} (hb : Below w.heap.size w w') : NewSE (st0, z) w (.returned (.tuple #[.agg #[.slice none 0 0, .slice none 0 0, .slice none 0 0, .int .u32 0, .int .u32 0], .int .i64 z])) w' :=
  ⟨at0, rfl, st0_lasts 0 w', hiS_zero w' _, hb⟩
theorem far5_bl {w : World} {g g' : Nat} {t : TypeId} {cs : Array Value} (h : Blk w g' t cs) (hne : g' ≠ g) (v0 v1 v2 v3 v4 : Value) : Blk (set5 w g v0 v1 v2 v3 v4) g' t cs :=
  ((((h.far (p := ⟨g, 0, none⟩) hne v0).far (p := ⟨g, 1, none⟩) hne v1).far (p := ⟨g, 2, none⟩) hne v2).far (p := ⟨g, 3, none⟩) hne v3).far (p := ⟨g, 4, none⟩) hne v4
theorem newS_of {w w1 w2 : World} {y : DAt} {D : DkL} {sa : Option Addr} {sc n : Nat} {t : List UInt8} {B B' B'' : Nat} (hd : OutD w1 B y D) (ho : w2.ownsRow B' 5 1 (.slice sa n sc) n (vals t)) (hn : t.length = n) (k : Keeps 0 w1 w) (k2 : Keeps 0 w2 w) (hB : B'' ≤ B) (hB' : B'' ≤ B') (e c : Nat) :
    StP 0 w ⟨y, sa, sc⟩ (D, t, e, c) ∧ HiS w B'' ⟨y, sa, sc⟩ (D, t, e, c) := by
  subst hn
  have hd' := (outD_keeps hd k).lower hB
  have ho' := own_keeps ho (by decide) k2
  have hh := outD_hi hd'
  exact ⟨fun W kk => ⟨(outD_keeps hd (k.trans kk)).dsk, own_bsl (own_keeps ho' (by decide) kk)⟩, hh.1, hh.2, piece_own (own_mono ho' hB')⟩
set_option maxHeartbeats 4000000 in
theorem stLaid_full (L : Nat) (x : SAt) (S : StL) (birth iv tag : Nat) (a : Option Addr) (c : Nat) (b : List UInt8) (sl : Value) (w : World) (h : StP L w x S) (hb : Bsl w w.heap.size a b.length c b) (hsl : BySl w sl iv tag) (hm : MayS S) (hbl : b.length = 256) (h0' : ∀ i, i < 256 → mkT S.2.1 i ≠ 0) : Calls Try.prog 20 #[stV x S, .int .u32 birth, .slice a b.length c, sl] w (NewSP (putR (putS S birth iv tag b)) w) := by
  rw [putS_none h0']
  obtain ⟨w0, hw0, b0, z0, x0, y0, q0⟩ := three_al w (stC x S) stZ ptZ 30 30 32
  obtain ⟨g, hg⟩ : ∃ g, w.heap.size = g := ⟨_, rfl⟩
  obtain ⟨g1, hg1⟩ : ∃ g1, g + 1 = g1 := ⟨_, rfl⟩
  obtain ⟨g2, hg2⟩ : ∃ g2, g1 + 1 = g2 := ⟨_, rfl⟩
  have h0 := h.bel b0
  have hb0 := hb.step b0
  have hs0 := hsl.below b0
  rw [hg] at x0 y0 q0 z0 b0
  rw [hg1] at y0
  rw [show g + 2 = g1 + 1 by omega, hg2] at q0
  obtain ⟨sla, sln, slc, rfl⟩ := hsl.slice
  have HI := Lib.hid (show g ≤ g1 ∧ g ≤ g2 ∧ g1 ≠ g ∧ g2 ≠ g ∧ g2 ≠ g1 ∧ g1 ≠ g2 ∧ w0.heap.size = g + 3 by omega)
  have hle : S.2.1.length = 256 := hm.2.1.1
  have hwl : S.1.2.length ≤ 4096 := hm.1.2.1
  have c0 := stC0 x0
  have c1 := stC1 x0
  have c2 := stC2 x0
  have hsp := h0.now.2
  rw [hle] at c2 hsp
  have HX := Lib.hid x0
  have HY := Lib.hid y0
  have HQ := Lib.hid q0
  have HB := Lib.hid b0
  have HS := Lib.hid h0
  have HA := Lib.hid hb0
  have HY2 := Lib.hid hs0
  have HG := Lib.hid hg
  have HLE := Lib.hid hle
  have HMS := Lib.hid hm
  have HBL := Lib.hid hbl
  have HZ := Lib.hid (show g ≤ w0.heap.size by omega)
  simp only [stC, stZ, ptZ] at hw0
  clear h hb hsl h0 hb0 hs0 x0 y0 q0 b0 z0
  have HT := Lib.hid (spTake_full x.a 256 x.c S.2.1 w0 hsp HMS.out.2.1 h0')
  clear h0' hsp hle hwl hm hbl
  go_enter Try.func20, Try.ntmps20
  go_wp2_with fail
  clear hw0 c0 c1 c2
  refine HT.out.mono ?_
  rintro e w1 ⟨v, rfl, ho, b1⟩
  replace HX := Lib.hid (HX.out.below b1 HX.out.lt)
  replace HY := Lib.hid (HY.out.below b1 HY.out.lt)
  replace HQ := Lib.hid (HQ.out.below b1 HQ.out.lt)
  replace HB := Lib.hid (HB.out.trans (b1.mono HZ.out))
  clear ho b1 HT
  have m0 := stZ0 HY.out
  have m1 := stZ1 HY.out
  have m2 := stZ2 HY.out
  have m3 := stZ3 HY.out
  have m4 := stZ4 HY.out
  have n0 := ptZ0 HQ.out
  have n1 := ptZ1 HQ.out
  have n2 := ptZ2 HQ.out
  have n3 := ptZ3 HQ.out
  have n4 := ptZ4 HQ.out
  go_wp2_with fail
  refine bodyPost_ret (v := .tuple #[.agg #[.slice none 0 0, .slice none 0 0, .slice none 0 0, .int .u32 0, .int .u32 0], .agg #[.int .i64 0, .int .u32 0, .int .u32 0, .int .u32 0, .int .u32 0], .int .i64 9]) (by simp [results, Try.f20, go_sem, m0, m1, m2, m3, m4, n0, n1, n2, n3, n4]) rfl ?_
  exact newSP_zero 9 (by rw [HG.out]; exact HB.out)
set_option maxHeartbeats 4000000 in
theorem stLaid_great (L : Nat) (x : SAt) (S : StL) (birth iv tag : Nat) (a : Option Addr) (c : Nat) (b : List UInt8) (sl : Value) (w : World) (h : StP L w x S) (hb : Bsl w w.heap.size a b.length c b) (hsl : BySl w sl iv tag) (hm : MayS S) (hbl : b.length = 256) (k : Nat) (hk : k < 256) (hz : mkT S.2.1 k = 0) (h0' : ∀ i, i < k → mkT S.2.1 i ≠ 0) (hgr : 4096 ≤ S.1.2.length) : Calls Try.prog 20 #[stV x S, .int .u32 birth, .slice a b.length c, sl] w (NewSP (putR (putS S birth iv tag b)) w) := by
  rw [putS_great hgr]
  obtain ⟨w0, hw0, b0, z0, x0, y0, q0⟩ := three_al w (stC x S) stZ ptZ 30 30 32
  obtain ⟨g, hg⟩ : ∃ g, w.heap.size = g := ⟨_, rfl⟩
  obtain ⟨g1, hg1⟩ : ∃ g1, g + 1 = g1 := ⟨_, rfl⟩
  obtain ⟨g2, hg2⟩ : ∃ g2, g1 + 1 = g2 := ⟨_, rfl⟩
  have h0 := h.bel b0
  have hb0 := hb.step b0
  have hs0 := hsl.below b0
  rw [hg] at x0 y0 q0 z0 b0
  rw [hg1] at y0
  rw [show g + 2 = g1 + 1 by omega, hg2] at q0
  obtain ⟨sla, sln, slc, rfl⟩ := hsl.slice
  have HI := Lib.hid (show g ≤ g1 ∧ g ≤ g2 ∧ g1 ≠ g ∧ g2 ≠ g ∧ g2 ≠ g1 ∧ g1 ≠ g2 ∧ w0.heap.size = g + 3 by omega)
  have hle : S.2.1.length = 256 := hm.2.1.1
  have hwl : S.1.2.length ≤ 4096 := hm.1.2.1
  have c0 := stC0 x0
  have c1 := stC1 x0
  have c2 := stC2 x0
  have hsp := h0.now.2
  rw [hle] at c2 hsp
  have HX := Lib.hid x0
  have HY := Lib.hid y0
  have HQ := Lib.hid q0
  have HB := Lib.hid b0
  have HS := Lib.hid h0
  have HA := Lib.hid hb0
  have HY2 := Lib.hid hs0
  have HG := Lib.hid hg
  have HLE := Lib.hid hle
  have HMS := Lib.hid hm
  have HBL := Lib.hid hbl
  have HZ := Lib.hid (show g ≤ w0.heap.size by omega)
  simp only [stC, stZ, ptZ] at hw0
  clear h hb hsl h0 hb0 hs0 x0 y0 q0 b0 z0
  have HT := Lib.hid (spTake_ok x.a 256 x.c S.2.1 k w0 hsp HMS.out.2.1 hk hz h0')
  have hwo : writeO S.1 (k : Int) b = (([], []), 9) := by
    unfold writeO
    rw [if_pos hm.1, if_pos (by omega), if_pos hbl, if_pos (by omega)]
  have HWO := Lib.hid hwo
  clear h0' hsp hle hwl hm hbl hk hz hgr hwo
  go_enter Try.func20, Try.ntmps20
  go_wp2_with fail
  clear hw0 c0 c1 c2
  refine HT.out.mono ?_
  rintro e w1 ⟨v, rfl, ho, b1⟩
  rw [show (S.2.1.set k 1).length = 256 by rw [List.length_set]; exact HLE.out] at ho
  obtain ⟨sa, sc, rfl⟩ := own_slice ho
  replace HX := Lib.hid (HX.out.below b1 HX.out.lt)
  replace HY := Lib.hid (HY.out.below b1 HY.out.lt)
  replace HQ := Lib.hid (HQ.out.below b1 HQ.out.lt)
  replace HS := Lib.hid (HS.out.bel b1)
  replace HA := Lib.hid (HA.out.step b1)
  replace HY2 := Lib.hid (HY2.out.below b1)
  replace HB := Lib.hid (HB.out.trans (b1.mono HZ.out))
  replace HZ := Lib.hid (Nat.le_trans HZ.out b1.size)
  have HO := Lib.hid ho
  have HZ1 := Lib.hid HZ.out
  clear b1 ho HT
  have c0 := stC0 HX.out
  have c1 := stC1 HX.out
  have hwr := dWrite_any x.d S.1 (k : Int) a b.length c b w1 HS.out.now.1 HA.out
  simp only [dval] at hwr
  rw [HWO.out] at hwr
  have HW := Lib.hid hwr
  clear hwr
  go_wp2_with fail
  clear c0 c1
  refine HW.out.mono ?_
  rintro e w2 ⟨y, rfl, hd, b2⟩
  simp only [dval]
  replace HX := Lib.hid (HX.out.below b2 HX.out.lt)
  replace HY := Lib.hid (HY.out.below b2 HY.out.lt)
  replace HQ := Lib.hid (HQ.out.below b2 HQ.out.lt)
  replace HB := Lib.hid (HB.out.trans (b2.mono HZ.out))
  replace HZ := Lib.hid (Nat.le_trans HZ.out b2.size)
  clear hd b2 HW
  have b3 := (Below.refl w2.heap.size w2).alloc (Nat.le_refl _) (.cells #[.slice y.ba 0 y.bc, .slice y.wa 0 y.wc] 27)
  replace HX := Lib.hid (HX.out.below b3 HX.out.lt)
  replace HY := Lib.hid (HY.out.below b3 HY.out.lt)
  replace HQ := Lib.hid (HQ.out.below b3 HQ.out.lt)
  replace HB := Lib.hid (HB.out.trans (b3.mono HZ.out))
  have m0 := stZ0 HY.out
  have m1 := stZ1 HY.out
  have m2 := stZ2 HY.out
  have m3 := stZ3 HY.out
  have m4 := stZ4 HY.out
  have n0 := ptZ0 HQ.out
  have n1 := ptZ1 HQ.out
  have n2 := ptZ2 HQ.out
  have n3 := ptZ3 HQ.out
  have n4 := ptZ4 HQ.out
  clear b3
  go_wp2_with fail
  refine bodyPost_ret (v := .tuple #[.agg #[.slice none 0 0, .slice none 0 0, .slice none 0 0, .int .u32 0, .int .u32 0], .agg #[.int .i64 0, .int .u32 0, .int .u32 0, .int .u32 0, .int .u32 0], .int .i64 9]) (by simp [results, Try.f20, go_sem, m0, m1, m2, m3, m4, n0, n1, n2, n3, n4]) rfl ?_
  exact newSP_zero 9 (by rw [HG.out]; exact HB.out)
set_option maxHeartbeats 8000000 in
theorem stLaid_ok (L : Nat) (x : SAt) (S : StL) (birth iv tag : Nat) (a : Option Addr) (c : Nat) (b : List UInt8) (sl : Value) (w : World) (h : StP L w x S) (hb : Bsl w w.heap.size a b.length c b) (hsl : BySl w sl iv tag) (hm : MayS S) (hbl : b.length = 256) (k : Nat) (hk : k < 256) (hz : mkT S.2.1 k = 0) (h0' : ∀ i, i < k → mkT S.2.1 i ≠ 0) (hgr : S.1.2.length < 4096) : Calls Try.prog 20 #[stV x S, .int .u32 birth, .slice a b.length c, sl] w (NewSP (putR (putS S birth iv tag b)) w) := by
  rw [putS_some hk hz h0' hgr]
  have hmx : Try.prog.follows Departure.mixedOrders = true := by kernel_rfl
  obtain ⟨w0, hw0, b0, z0, x0, y0, q0⟩ := three_al w (stC x S) stZ ptZ 30 30 32
  obtain ⟨g, hg⟩ : ∃ g, w.heap.size = g := ⟨_, rfl⟩
  obtain ⟨g1, hg1⟩ : ∃ g1, g + 1 = g1 := ⟨_, rfl⟩
  obtain ⟨g2, hg2⟩ : ∃ g2, g1 + 1 = g2 := ⟨_, rfl⟩
  have h0 := h.bel b0
  have hb0 := hb.step b0
  have hs0 := hsl.below b0
  rw [hg] at x0 y0 q0 z0 b0
  rw [hg1] at y0
  rw [show g + 2 = g1 + 1 by omega, hg2] at q0
  obtain ⟨sla, sln, slc, rfl⟩ := hsl.slice
  have HI := Lib.hid (show g ≤ g1 ∧ g ≤ g2 ∧ g1 ≠ g ∧ g2 ≠ g ∧ g2 ≠ g1 ∧ g1 ≠ g2 ∧ w0.heap.size = g + 3 by omega)
  have hle : S.2.1.length = 256 := hm.2.1.1
  have hwl : S.1.2.length ≤ 4096 := hm.1.2.1
  have c0 := stC0 x0
  have c1 := stC1 x0
  have c2 := stC2 x0
  have hsp := h0.now.2
  rw [hle] at c2 hsp
  have HX := Lib.hid x0
  have HY := Lib.hid y0
  have HQ := Lib.hid q0
  have HB := Lib.hid b0
  have HS := Lib.hid h0
  have HA := Lib.hid hb0
  have HY2 := Lib.hid hs0
  have HG := Lib.hid hg
  have HLE := Lib.hid hle
  have HMS := Lib.hid hm
  have HBL := Lib.hid hbl
  have HZ := Lib.hid (show g ≤ w0.heap.size by omega)
  simp only [stC, stZ, ptZ] at hw0
  clear h hb hsl h0 hb0 hs0 x0 y0 q0 b0 z0
  have HT := Lib.hid (spTake_ok x.a 256 x.c S.2.1 k w0 hsp HMS.out.2.1 hk hz h0')
  have hwo : writeO S.1 (k : Int) b = (withD S.1 (k : Int) b, 0) := by
    unfold writeO
    rw [if_pos hm.1, if_pos (by omega), if_pos hbl, if_neg (by omega)]
  have HWO := Lib.hid hwo
  have HKK := Lib.hid hk
  clear h0' hsp hle hwl hm hbl hk hz hgr hwo
  go_enter Try.func20, Try.ntmps20
  go_wp2_with fail
  clear hw0 c0 c1 c2
  refine HT.out.mono ?_
  rintro e w1 ⟨v, rfl, ho, b1⟩
  rw [show (S.2.1.set k 1).length = 256 by rw [List.length_set]; exact HLE.out] at ho
  obtain ⟨sa, sc, rfl⟩ := own_slice ho
  replace HX := Lib.hid (HX.out.below b1 HX.out.lt)
  replace HY := Lib.hid (HY.out.below b1 HY.out.lt)
  replace HQ := Lib.hid (HQ.out.below b1 HQ.out.lt)
  replace HS := Lib.hid (HS.out.bel b1)
  replace HA := Lib.hid (HA.out.step b1)
  replace HY2 := Lib.hid (HY2.out.below b1)
  replace HB := Lib.hid (HB.out.trans (b1.mono HZ.out))
  replace HZ := Lib.hid (Nat.le_trans HZ.out b1.size)
  have HO := Lib.hid ho
  have HZ1 := Lib.hid HZ.out
  clear b1 ho HT
  have c0 := stC0 HX.out
  have c1 := stC1 HX.out
  have hwr := dWrite_any x.d S.1 (k : Int) a b.length c b w1 HS.out.now.1 HA.out
  simp only [dval] at hwr
  rw [HWO.out] at hwr
  have HW := Lib.hid hwr
  clear hwr
  go_wp2_with fail
  clear c0 c1
  refine HW.out.mono ?_
  rintro e w2 ⟨y, rfl, hd, b2⟩
  simp only [dval]
  replace HX := Lib.hid (HX.out.below b2 HX.out.lt)
  replace HY := Lib.hid (HY.out.below b2 HY.out.lt)
  replace HQ := Lib.hid (HQ.out.below b2 HQ.out.lt)
  replace HA := Lib.hid (HA.out.step b2)
  replace HY2 := Lib.hid (HY2.out.below b2)
  replace HO := Lib.hid (own_below HO.out b2)
  replace HB := Lib.hid (HB.out.trans (b2.mono HZ.out))
  replace HZ := Lib.hid (Nat.le_trans HZ.out b2.size)
  have HD := Lib.hid hd
  obtain ⟨g3, hg3⟩ : ∃ g3, w2.heap.size = g3 := ⟨_, rfl⟩
  obtain ⟨g4, hg4⟩ : ∃ g4, g3 + 1 = g4 := ⟨_, rfl⟩
  obtain ⟨w3, hw3, b3, z3, k3, v3⟩ := two_al w2 #[.slice y.ba (withD S.1 (k : Int) b).1.length y.bc, .slice y.wa (withD S.1 (k : Int) b).2.length y.wc] #[.int .u32 0, .int .u32 0] 27 79
  rw [hg3] at k3 v3
  rw [hg4] at v3
  have HC0 := Lib.hid (show Blk ((w2.alloc (.cells #[.slice y.ba (withD S.1 (k : Int) b).1.length y.bc, .slice y.wa (withD S.1 (k : Int) b).2.length y.wc] 27)).alloc (.cells #[.int .u32 0, .int .u32 0] 79)) g4 79 #[.int .u32 0, .int .u32 0] by rw [hw3]; exact v3)
  have HSL := Lib.hid (show BySl ((w2.alloc (.cells #[.slice y.ba (withD S.1 (k : Int) b).1.length y.bc, .slice y.wa (withD S.1 (k : Int) b).2.length y.wc] 27)).alloc (.cells #[.int .u32 0, .int .u32 0] 79)) (.slice sla sln slc) iv tag by rw [hw3]; exact HY2.out.below b3)
  have HK := Lib.hid k3
  have HB3 := Lib.hid b3
  have HW3 := Lib.hid hw3
  have HG3 := Lib.hid (show w2.heap.size ≤ g4 ∧ g3 < g4 ∧ g1 < g3 ∧ g2 < g3 ∧ g < g3 by have := HY.out.lt; have := HQ.out.lt; have := HX.out.lt; omega)
  clear hd b2 HW b3 hw3 z3 k3 v3
  go_wp2_with (with_reducible refine atCopy2 ?_
               refine wpList_copy_two rfl (.tmp 34) (.tmp 35) rfl g4 (.slice sla sln slc) iv tag rfl rfl HSL.out HC0.out ?_
               intro m w4 hx4 hb4
               rw [HW3.out] at hb4
               have b4 := HB3.out.trans (hb4.mono HG3.out.1)
               replace HK := Lib.hid (HK.out.below hb4 HG3.out.2.1)
               have HV := Lib.hid hx4
               clear hb4 hx4)
  replace HX := Lib.hid (HX.out.below b4 HX.out.lt)
  replace HY := Lib.hid (HY.out.below b4 HY.out.lt)
  replace HQ := Lib.hid (HQ.out.below b4 HQ.out.lt)
  replace HA := Lib.hid (HA.out.step b4)
  replace HO := Lib.hid (own_below HO.out b4)
  replace HB := Lib.hid (HB.out.trans (b4.mono HZ.out))
  replace HZ := Lib.hid (Nat.le_trans HZ.out b4.size)
  have HD4 := Lib.hid (HD.out.below b4)
  clear b4 HD HB3 HC0 HSL HY2 HW3
  obtain ⟨wd, hwd⟩ : ∃ wd, w4.drew = wd := ⟨_, rfl⟩
  have bb : Below w4.heap.size w4 wd := by rw [← hwd]; exact (Below.refl _ w4).drew
  replace HX := Lib.hid (HX.out.below bb HX.out.lt)
  replace HY := Lib.hid (HY.out.below bb HY.out.lt)
  replace HQ := Lib.hid (HQ.out.below bb HQ.out.lt)
  replace HK := Lib.hid (HK.out.below bb HK.out.lt)
  replace HA := Lib.hid (HA.out.step bb)
  replace HO := Lib.hid (own_below HO.out bb)
  replace HB := Lib.hid (HB.out.trans (bb.mono HZ.out))
  replace HZ := Lib.hid (Nat.le_trans HZ.out bb.size)
  replace HV := Lib.hid (HV.out.below bb HV.out.lt)
  have HD := Lib.hid (HD4.out.below bb)
  clear bb HD4
  have hsu := sum_any a b.length c b wd HA.out (by have := HBL.out; omega)
  rw [show (fourW b).a.toNat = sumOf b from rfl] at hsu
  obtain ⟨sb, hsb⟩ : ∃ sb, sumOf b = sb := ⟨_, rfl⟩
  rw [hsb] at hsu
  have HSU := Lib.hid hsu
  have HSB := Lib.hid hsb
  have v0 : wd.cell? ⟨g4, 0, none⟩ = some (.int .u32 (iv : Int)) := HV.out.cell 0
  have v1 : wd.cell? ⟨g4, 1, none⟩ = some (.int .u32 (tag : Int)) := HV.out.cell 1
  have hv := And.intro v0 v1
  clear hsu hsb v0 v1
  refine wpI_start (fun X => X.cell? ⟨g4, 0, none⟩ = some (.int .u32 (iv : Int)) ∧ X.cell? ⟨g4, 1, none⟩ = some (.int .u32 (tag : Int))) [0, 1, 2, 3, 4, 5, 6, 7, 8, 9] hmx rfl hwd ?_
  clear hwd
  iterate 7 (
    refine wpI_read (v := ?_) hv rfl (by kernel_rfl) (by kernel_rfl) (by kernel_rfl) (fun _ _ _ h => h) (.inl ⟨by rfl, ?_⟩) ?_
    rotate_left
    · intro X hX
      obtain ⟨j0, j1⟩ := hX
      go_simp
      with_reducible rfl
    try simp only [Act.put, List.setIfInBounds_toArray, List.set_cons_zero, List.set_cons_succ])
  refine wpI_lone rfl (by kernel_rfl) (fun K hK => ?_)
  go_simp
  refine HSU.out.mono ?_
  rintro ev w5 ⟨rfl, b5⟩
  replace HX := Lib.hid (HX.out.below b5 HX.out.lt)
  replace HY := Lib.hid (HY.out.below b5 HY.out.lt)
  replace HQ := Lib.hid (HQ.out.below b5 HQ.out.lt)
  replace HK := Lib.hid (HK.out.below b5 HK.out.lt)
  replace HA := Lib.hid (HA.out.step b5)
  replace HO := Lib.hid (own_below HO.out b5)
  replace HD := Lib.hid (HD.out.below b5)
  replace HB := Lib.hid (HB.out.trans (b5.mono HZ.out))
  replace HZ := Lib.hid (Nat.le_trans HZ.out b5.size)
  replace HV := Lib.hid (HV.out.below b5 HV.out.lt)
  have v0 : w5.cell? ⟨g4, 0, none⟩ = some (.int .u32 (iv : Int)) := HV.out.cell 0
  have v1 : w5.cell? ⟨g4, 1, none⟩ = some (.int .u32 (tag : Int)) := HV.out.cell 1
  have hv5 := And.intro v0 v1
  refine hK _ _ hv5 ?_
  clear hK K b5 HSU hv v0 v1
  try simp only [Act.put, List.setIfInBounds_toArray, List.set_cons_zero, List.set_cons_succ]
  iterate 1 (
    refine wpI_read (v := ?_) hv5 rfl (by kernel_rfl) (by kernel_rfl) (by kernel_rfl) (fun _ _ _ h => h) (.inl ⟨by rfl, ?_⟩) ?_
    rotate_left
    · intro X hX
      obtain ⟨j0, j1⟩ := hX
      go_simp
      with_reducible rfl
    try simp only [Act.put, List.setIfInBounds_toArray, List.set_cons_zero, List.set_cons_succ])
  refine wpI_lone rfl (by kernel_rfl) (fun K hK => ?_)
  go_simp
  obtain ⟨q6, k6, b6⟩ := box_five (L := g) HQ.out (by decide) HI.out.2.1 HB.out HI.out.2.1 (.int .i64 (k : Int)) (.int .u32 (birth : Int)) (.int .u32 (iv : Int)) (.int .u32 (tag : Int)) (.int .u32 (sb : Int))
  have n0 := ptZ0 HQ.out
  have n1 := ptZ1 HQ.out
  have n2 := ptZ2 HQ.out
  have n3 := ptZ3 HQ.out
  have n4 := ptZ4 HQ.out
  have hfq := fun i => HQ.out.frozen i
  have x6 := far5_bl HX.out HI.out.2.2.2.1.symm (.int .i64 (k : Int)) (.int .u32 (birth : Int)) (.int .u32 (iv : Int)) (.int .u32 (tag : Int)) (.int .u32 (sb : Int))
  have y6 := far5_bl HY.out HI.out.2.2.2.2.2.1 (.int .i64 (k : Int)) (.int .u32 (birth : Int)) (.int .u32 (iv : Int)) (.int .u32 (tag : Int)) (.int .u32 (sb : Int))
  have t6 := far5_bl HK.out (show g3 ≠ g2 by have := HG3.out.2.2.2.1; omega) (.int .i64 (k : Int)) (.int .u32 (birth : Int)) (.int .u32 (iv : Int)) (.int .u32 (tag : Int)) (.int .u32 (sb : Int))
  have v6 := far5_bl HV.out (show g4 ≠ g2 by have := HG3.out; omega) (.int .i64 (k : Int)) (.int .u32 (birth : Int)) (.int .u32 (iv : Int)) (.int .u32 (tag : Int)) (.int .u32 (sb : Int))
  obtain ⟨w6, hw6⟩ : ∃ w6, set5 w5 g2 (.int .i64 (k : Int)) (.int .u32 (birth : Int)) (.int .u32 (iv : Int)) (.int .u32 (tag : Int)) (.int .u32 (sb : Int)) = w6 := ⟨_, rfl⟩
  rw [hw6] at q6 k6 b6 x6 y6 t6 v6
  replace HX := Lib.hid x6
  replace HY := Lib.hid y6
  replace HK := Lib.hid t6
  replace HQ := Lib.hid q6
  replace HB := Lib.hid b6
  replace HO := Lib.hid (own_keeps HO.out (by decide) k6)
  replace HD := Lib.hid (outD_keeps HD.out k6)
  replace HZ := Lib.hid (Nat.le_trans HZ.out k6.size)
  have v0 : w6.cell? ⟨g4, 0, none⟩ = some (.int .u32 (iv : Int)) := v6.cell 0
  have v1 : w6.cell? ⟨g4, 1, none⟩ = some (.int .u32 (tag : Int)) := v6.cell 1
  have hv6 := And.intro v0 v1
  simp only [set5] at hw6
  clear q6 k6 b6 x6 y6 t6 v6 v0 v1 HV
  go_simp
  refine hK _ _ hv6 ?_
  clear hK K n0 n1 n2 n3 n4 hfq hv6 hw6 hv5
  try simp only [Act.put, List.setIfInBounds_toArray, List.set_cons_zero, List.set_cons_succ]
  refine wpI_done (by kernel_rfl) ?_
  have c0 := stC0 HX.out
  have c1 := stC1 HX.out
  have c2 := stC2 HX.out
  have c3 := stC3 HX.out
  have c4 := stC4 HX.out
  have t0 : w6.cell? ⟨g3, 0, none⟩ = some (.slice y.ba (withD S.1 (k : Int) b).1.length y.bc) := HK.out.cell 0
  have t1 : w6.cell? ⟨g3, 1, none⟩ = some (.slice y.wa (withD S.1 (k : Int) b).2.length y.wc) := HK.out.cell 1
  have hwi := stWith_any x S y (withD S.1 (k : Int) b) sa 256 sc w6
  simp only [dval] at hwi
  have HWI := Lib.hid hwi
  clear hwi
  go_wp2_with fail
  clear c0 c1 c2 c3 c4 t0 t1
  refine HWI.out.mono ?_
  rintro ev w7 ⟨rfl, b7⟩
  replace HY := Lib.hid (HY.out.below b7 HY.out.lt)
  replace HQ := Lib.hid (HQ.out.below b7 HQ.out.lt)
  replace HO := Lib.hid (own_below HO.out b7)
  replace HD := Lib.hid (HD.out.below b7)
  replace HB := Lib.hid (HB.out.trans (b7.mono HZ.out))
  replace HZ := Lib.hid (Nat.le_trans HZ.out b7.size)
  clear b7 HWI
  obtain ⟨y8, k8, b8⟩ := box_five (L := g) HY.out (by decide) HI.out.1 HB.out HI.out.1 (.slice y.ba (withD S.1 (k : Int) b).1.length y.bc) (.slice y.wa (withD S.1 (k : Int) b).2.length y.wc) (.slice sa 256 sc) (.int .u32 (S.2.2.1 : Int)) (.int .u32 (S.2.2.2 : Int))
  have q8 := far5_bl HQ.out HI.out.2.2.2.2.1 (.slice y.ba (withD S.1 (k : Int) b).1.length y.bc) (.slice y.wa (withD S.1 (k : Int) b).2.length y.wc) (.slice sa 256 sc) (.int .u32 (S.2.2.1 : Int)) (.int .u32 (S.2.2.2 : Int))
  have m0 := stZ0 HY.out
  have m1 := stZ1 HY.out
  have m2 := stZ2 HY.out
  have m3 := stZ3 HY.out
  have m4 := stZ4 HY.out
  have hfy := fun i => HY.out.frozen i
  obtain ⟨w8, hw8⟩ : ∃ w8, set5 w7 g1 (.slice y.ba (withD S.1 (k : Int) b).1.length y.bc) (.slice y.wa (withD S.1 (k : Int) b).2.length y.wc) (.slice sa 256 sc) (.int .u32 (S.2.2.1 : Int)) (.int .u32 (S.2.2.2 : Int)) = w8 := ⟨_, rfl⟩
  rw [hw8] at y8 k8 b8 q8
  have H8 := Lib.hid (newS_of (B'' := w.heap.size) HD.out HO.out (show (S.2.1.set k 1).length = 256 by rw [List.length_set]; exact HLE.out) (k8.more (Nat.zero_le _)) (k8.more (Nat.zero_le _)) (by rw [HG.out]; exact HZ1.out) (by rw [HG.out, HI.out.2.2.2.2.2.2]; omega) S.2.2.1 S.2.2.2)
  have HY8 := Lib.hid y8
  have HQ8 := Lib.hid q8
  have HB8 := Lib.hid b8
  simp only [set5] at hw8
  clear y8 k8 b8 q8
  go_wp2_with fail
  clear m0 m1 m2 m3 m4 hfy hw8
  have e0 := bx0 HY8.out
  have e1 := bx1 HY8.out
  have e2 := bx2 HY8.out
  have e3 := bx3 HY8.out
  have e4 := bx4 HY8.out
  have f0 := bx0 HQ8.out
  have f1 := bx1 HQ8.out
  have f2 := bx2 HQ8.out
  have f3 := bx3 HQ8.out
  have f4 := bx4 HQ8.out
  refine bodyPost_ret (v := .tuple #[.agg #[.slice y.ba (withD S.1 (k : Int) b).1.length y.bc, .slice y.wa (withD S.1 (k : Int) b).2.length y.wc, .slice sa 256 sc, .int .u32 (S.2.2.1 : Int), .int .u32 (S.2.2.2 : Int)], .agg #[.int .i64 (k : Int), .int .u32 (birth : Int), .int .u32 (iv : Int), .int .u32 (tag : Int), .int .u32 (sb : Int)], .int .i64 0]) (by simp [results, Try.f20, go_sem, e0, e1, e2, e3, e4, f0, f1, f2, f3, f4]) rfl ?_
  refine ⟨⟨y, sa, sc⟩, ?_, H8.out.1, H8.out.2, by rw [HG.out]; exact HB8.out⟩
  simp only [putR, stV, ptV]
  rw [show (S.2.1.set k 1).length = 256 by rw [List.length_set]; exact HLE.out, HSB.out]
  rfl
end Go.Proofs.Ytdpmdlibgabjaaa
/-
  Store's own: Lay, Raw, Seal; what they answer is new memory, and nothing that was there is written.
-/
namespace Go.Proofs.Ytdpmdlibgabjaaa
open Go.RowKit Go.Shelf
set_option maxRecDepth 100000

theorem Piece.keeps {L : Nat} {w w' : World} {B : Nat} {A : Option Addr} {l : Nat} (h : Piece w B A l) (k : Keeps L w w') : Piece w' B A l := h.imp id fun ⟨b, off, cs, e, hB, hb, hc⟩ => ⟨b, off, cs, e, hB, k.row _ _ _ hb (by decide), hc⟩
theorem Piece.lower {w : World} {B B' : Nat} {A : Option Addr} {l : Nat} (h : Piece w B A l) (hB : B' ≤ B) : Piece w B' A l := h.imp id fun ⟨b, off, cs, e, h1, hb, hc⟩ => ⟨b, off, cs, e, Nat.le_trans hB h1, hb, hc⟩
theorem Rows9.keeps {K : Nat} {w w' : World} {B : Nat} {a : Option Addr} {n : Nat} {t : TypeId} {st at_ : Nat} {L : Nat → Nat} (h : Rows9 w B a n t st at_ L) (ht : rowT t = true) (k : Keeps K w w') : Rows9 w' B a n t st at_ L :=
  h.imp id fun ⟨b, off, cs, e, hb, hc⟩ => ⟨b, off, cs, e, k.row _ _ _ hb ht, fun i hi => by
    obtain ⟨A, c, h1, h2⟩ := hc i hi
    exact ⟨A, c, h1, h2.keeps k⟩⟩
theorem Rows9.lower {w : World} {B B' : Nat} {a : Option Addr} {n : Nat} {t : TypeId} {st at_ : Nat} {L : Nat → Nat} (h : Rows9 w B a n t st at_ L) (hB : B' ≤ B) : Rows9 w B' a n t st at_ L :=
  h.imp id fun ⟨b, off, cs, e, hb, hc⟩ => ⟨b, off, cs, e, hb, fun i hi => by
    obtain ⟨A, c, h1, h2⟩ := hc i hi
    exact ⟨A, c, h1, h2.lower hB⟩⟩
theorem HiS.keeps {K B : Nat} {w w' : World} {x : SAt} {S : StL} (h : HiS w B x S) (k : Keeps K w w') : HiS w' B x S := ⟨h.1.keeps (by decide) k, h.2.1.keeps (by decide) k, h.2.2.keeps k⟩
theorem HiS.lower {B B' : Nat} {w : World} {x : SAt} {S : StL} (h : HiS w B x S) (hB : B' ≤ B) : HiS w B' x S := ⟨h.1.lower hB, h.2.1.lower hB, h.2.2.lower hB⟩
theorem stLaid_any (L : Nat) (x : SAt) (S : StL) (birth iv tag : Nat) (a : Option Addr) (c : Nat) (b : List UInt8) (sl : Value) (w : World) (h : StP L w x S) (hb : Bsl w w.heap.size a b.length c b) (hsl : BySl w sl iv tag) (hm : MayS S) (hbl : b.length = 256) :
    Calls Try.prog 20 #[stV x S, .int .u32 birth, .slice a b.length c, sl] w (NewSP (putR (putS S birth iv tag b)) w) := by
  rcases first_from (fun i => mkT S.2.1 i = 0) 0 256 with ⟨k, _, hk, hz, h0⟩ | h0
  · rcases Nat.lt_or_ge S.1.2.length 4096 with hw | hw
    · exact stLaid_ok L x S birth iv tag a c b sl w h hb hsl hm hbl k hk hz (fun i hi => h0 i (Nat.zero_le _) hi) hw
    · exact stLaid_great L x S birth iv tag a c b sl w h hb hsl hm hbl k hk hz (fun i hi => h0 i (Nat.zero_le _) hi) hw
  · exact stLaid_full L x S birth iv tag a c b sl w h hb hsl hm hbl (fun i hi => h0 i (Nat.zero_le _) hi)
theorem rawO_wrong {S : StL} {birth iv tag z : Nat} {b : List UInt8} (h : wrongO S birth b.length = z) (hz : z ≠ 0) : rawO S birth iv tag b = (st0, p0, z) := by
  unfold wrongO at h
  unfold rawO
  split at h
  · rw [if_pos (by assumption)]
    split at h
    · rw [if_pos (by assumption)]
      split at h
      · exact absurd h.symm hz
      · rw [if_neg (by assumption), ← h]
    · rw [if_neg (by assumption), ← h]
  · rw [if_neg (by assumption), ← h]
theorem wrongO_no {S : StL} {birth n : Nat} (h : wrongO S birth n = 0) : MayS S ∧ (1 ≤ birth ∧ birth ≤ 16777215) ∧ n = 256 := by
  unfold wrongO at h
  split at h
  · split at h
    · split at h
      · exact ⟨by assumption, by assumption, by assumption⟩
      · cases h
    · cases h
  · cases h
theorem rawO_right {S : StL} {birth iv tag : Nat} {b : List UInt8} (h : wrongO S birth b.length = 0) : rawO S birth iv tag b = putR (putS S birth iv tag b) := by
  obtain ⟨h1, h2, h3⟩ := wrongO_no h
  unfold rawO
  rw [if_pos h1, if_pos h2, if_pos h3]
theorem sealO_wrong {S : StL} {birth z : Nat} {key b : List UInt8} (h : wrongO S birth b.length = z) (hz : z ≠ 0) : sealO S birth key b = (st0, p0, z) := by
  unfold wrongO at h
  unfold sealO
  split at h
  · rw [if_pos (by assumption)]
    split at h
    · rw [if_pos (by assumption)]
      split at h
      · exact absurd h.symm hz
      · rename_i h3
        rw [if_neg (fun hh => h3 hh.2), ← h]
    · rw [if_neg (by assumption), ← h]
  · rw [if_neg (by assumption), ← h]
theorem sealO_key {S : StL} {birth z : Nat} {key b : List UInt8} (h : wrongO S birth b.length = 0) (hk : wrongKO S key.length = z) (hz : z ≠ 0) : sealO S birth key b = (st0, p0, z) := by
  obtain ⟨h1, h2, h3⟩ := wrongO_no h
  unfold wrongKO at hk
  unfold sealO
  rw [if_pos h1, if_pos h2]
  split at hk
  · rename_i hkl
    rw [if_pos ⟨hkl, h3⟩]
    split at hk
    · unfold sealedO
      rw [if_pos (by omega), ← hk]
    · exact absurd hk.symm hz
  · rename_i hkl
    rw [if_neg (fun hh => hkl hh.1), ← hk]
theorem sealO_right {S : StL} {birth : Nat} {key b : List UInt8} (h : wrongO S birth b.length = 0) (hk : wrongKO S key.length = 0) : key.length = 16 ∧ S.2.2.2 < 65535 ∧
    sealO S birth key b = putR (putS (S.1, S.2.1, S.2.2.1, S.2.2.2 + 1) birth (S.2.2.1 * 65536 + (S.2.2.2 + 1)) (sealW key (S.2.2.1 * 65536 + (S.2.2.2 + 1)) (turnW' key (S.2.2.1 * 65536 + (S.2.2.2 + 1)) b)).toNat (turnW' key (S.2.2.1 * 65536 + (S.2.2.2 + 1)) b)) := by
  obtain ⟨h1, h2, h3⟩ := wrongO_no h
  unfold wrongKO at hk
  split at hk
  · rename_i hkl
    split at hk
    · cases hk
    · rename_i hs
      have hle := h1.2.2.2
      have hlt : S.2.2.2 < 65535 := by omega
      refine ⟨hkl, hlt, ?_⟩
      unfold sealO
      rw [if_pos h1, if_pos h2, if_pos ⟨hkl, h3⟩]
      unfold sealedO
      rw [if_neg (by omega)]
  · cases hk
set_option maxHeartbeats 4000000 in
theorem stLay_any (L : Nat) (x : SAt) (S : StL) (birth : Nat) (a : Option Addr) (c : Nat) (b : List UInt8) (w : World) (h : StP L w x S) (hb : Bsl w w.heap.size a b.length c b) (_ho : OkS S) (hL : L ≤ w.heap.size) (_hbi : birth < 4294967296) : Calls Try.prog 8 #[stV x S, .int .u32 birth, .slice a b.length c] w (NewSP (rawO S birth 0 0 b) w) := by
  obtain ⟨o, ho'⟩ : ∃ o, rawO S birth 0 0 b = o := ⟨_, rfl⟩
  obtain ⟨w0, hw0, b0, z0, x0, y0, q0⟩ := three_al w (stC x S) stZ ptZ 30 30 32
  obtain ⟨g, hg⟩ : ∃ g, w.heap.size = g := ⟨_, rfl⟩
  obtain ⟨g1, hg1⟩ : ∃ g1, g + 1 = g1 := ⟨_, rfl⟩
  obtain ⟨g2, hg2⟩ : ∃ g2, g1 + 1 = g2 := ⟨_, rfl⟩
  have h0 := h.bel b0
  have hb0 := hb.step b0
  have _ := hL
  rw [hg] at x0 y0 q0 z0 b0
  rw [hg1] at y0
  rw [show g + 2 = g1 + 1 by omega, hg2] at q0
  have HI := Lib.hid (show g ≤ g1 ∧ g ≤ g2 ∧ g1 ≠ g ∧ g2 ≠ g ∧ g2 ≠ g1 ∧ g1 ≠ g2 ∧ w0.heap.size = g + 3 by omega)
  have c0 := stC0 x0
  have c1 := stC1 x0
  have c2 := stC2 x0
  have c3 := stC3 x0
  have c4 := stC4 x0
  have HX := Lib.hid x0
  have HY := Lib.hid y0
  have HQ := Lib.hid q0
  have HB := Lib.hid b0
  have HS := Lib.hid h0
  have HA := Lib.hid hb0
  have HG := Lib.hid hg
  have HZ := Lib.hid (show g ≤ w0.heap.size by omega)
  have HOO := Lib.hid ho'
  rw [ho']
  obtain ⟨z, hz⟩ : ∃ z, wrongO S birth b.length = z := ⟨_, rfl⟩
  have HZZ := Lib.hid hz
  have HWR := Lib.hid (stWrong_any L x S birth a b.length c w0 h0 z hz)
  simp only [stC, stZ, ptZ] at hw0
  clear h hb h0 hb0 x0 y0 q0 b0 z0 ho' hz hL
  by_cases hz0 : z = 0
  · subst hz0
    have hoo := HOO.out
    rw [rawO_right HZZ.out] at hoo
    obtain ⟨hms, hbr, hbl⟩ := wrongO_no HZZ.out
    have HMS := Lib.hid hms
    have HBL := Lib.hid hbl
    have HO := Lib.hid hoo
    clear hoo hms hbr hbl
    have e1 : (((0 : Nat) : Int) != 0) = false := rfl
    go_enter Try.func8, Try.ntmps8
    go_wp2_with fail
    clear c0 c1 c2 c3 c4 hw0
    refine HWR.out.mono ?_
    rintro e w1 ⟨rfl, b1⟩
    replace HX := Lib.hid (HX.out.below b1 HX.out.lt)
    replace HY := Lib.hid (HY.out.below b1 HY.out.lt)
    replace HQ := Lib.hid (HQ.out.below b1 HQ.out.lt)
    replace HS := Lib.hid (HS.out.bel b1)
    replace HA := Lib.hid (HA.out.step b1)
    replace HB := Lib.hid (HB.out.trans (b1.mono HZ.out))
    replace HZ := Lib.hid (Nat.le_trans HZ.out b1.size)
    have c0 := stC0 HX.out
    have c1 := stC1 HX.out
    have c2 := stC2 HX.out
    have c3 := stC3 HX.out
    have c4 := stC4 HX.out
    have hld := stLaid_any L x S birth 0 0 a c b (.slice none 0 0) w1 HS.out HA.out (.inl ⟨rfl, rfl, rfl⟩) HMS.out HBL.out
    rw [HO.out] at hld
    have HLD := Lib.hid hld
    clear hld b1 HWR
    go_wp2_with fail
    clear c0 c1 c2 c3 c4
    obtain ⟨T, ⟨pa, pb, pi, pt, ps⟩, ze⟩ := o
    simp only [stV] at HLD
    refine HLD.out.mono ?_
    rintro ev w9 ⟨y, rfl, ht, hh, b9⟩
    replace HY := Lib.hid (HY.out.below b9 HY.out.lt)
    replace HQ := Lib.hid (HQ.out.below b9 HQ.out.lt)
    replace HB := Lib.hid (HB.out.trans (b9.mono HZ.out))
    have HT := Lib.hid ht
    have HH := Lib.hid (hh.lower (Nat.le_refl _))
    clear ht hh b9 HLD
    obtain ⟨ya, ka, ba⟩ := box_five (L := g) HY.out (by decide) HI.out.1 HB.out HI.out.1 (.slice y.d.ba T.1.1.length y.d.bc) (.slice y.d.wa T.1.2.length y.d.wc) (.slice y.a T.2.1.length y.c) (.int .u32 (T.2.2.1 : Int)) (.int .u32 (T.2.2.2 : Int))
    have qa := far5_bl HQ.out HI.out.2.2.2.2.1 (.slice y.d.ba T.1.1.length y.d.bc) (.slice y.d.wa T.1.2.length y.d.wc) (.slice y.a T.2.1.length y.c) (.int .u32 (T.2.2.1 : Int)) (.int .u32 (T.2.2.2 : Int))
    have m0 := stZ0 HY.out
    have m1 := stZ1 HY.out
    have m2 := stZ2 HY.out
    have m3 := stZ3 HY.out
    have m4 := stZ4 HY.out
    have hfy := fun i => HY.out.frozen i
    obtain ⟨wa, hwa⟩ : ∃ wa, set5 w9 g1 (.slice y.d.ba T.1.1.length y.d.bc) (.slice y.d.wa T.1.2.length y.d.wc) (.slice y.a T.2.1.length y.c) (.int .u32 (T.2.2.1 : Int)) (.int .u32 (T.2.2.2 : Int)) = wa := ⟨_, rfl⟩
    rw [hwa] at ya ka ba qa
    obtain ⟨qb, kb, bb⟩ := box_five (L := g) qa (by decide) HI.out.2.1 ba HI.out.2.1 (.int .i64 pa) (.int .u32 (pb : Int)) (.int .u32 (pi : Int)) (.int .u32 (pt : Int)) (.int .u32 (ps : Int))
    have yb := far5_bl ya HI.out.2.2.2.2.2.1 (.int .i64 pa) (.int .u32 (pb : Int)) (.int .u32 (pi : Int)) (.int .u32 (pt : Int)) (.int .u32 (ps : Int))
    have n0 := ptZ0 qa
    have n1 := ptZ1 qa
    have n2 := ptZ2 qa
    have n3 := ptZ3 qa
    have n4 := ptZ4 qa
    have hfq := fun i => qa.frozen i
    obtain ⟨wb, hwb⟩ : ∃ wb, set5 wa g2 (.int .i64 pa) (.int .u32 (pb : Int)) (.int .u32 (pi : Int)) (.int .u32 (pt : Int)) (.int .u32 (ps : Int)) = wb := ⟨_, rfl⟩
    rw [hwb] at qb kb bb yb
    have HKK := Lib.hid (ka.trans kb)
    have HBF := Lib.hid bb
    have HYF := Lib.hid yb
    have HQF := Lib.hid qb
    simp only [set5] at hwa hwb
    clear ya ka ba qa qb kb bb yb
    go_wp2_with fail
    clear m0 m1 m2 m3 m4 n0 n1 n2 n3 n4 hfy hfq hwa hwb
    have e0 := bx0 HYF.out
    have e1 := bx1 HYF.out
    have e2 := bx2 HYF.out
    have e3 := bx3 HYF.out
    have e4 := bx4 HYF.out
    have f0 := bx0 HQF.out
    have f1 := bx1 HQF.out
    have f2 := bx2 HQF.out
    have f3 := bx3 HQF.out
    have f4 := bx4 HQF.out
    refine bodyPost_ret (v := .tuple #[.agg #[.slice y.d.ba T.1.1.length y.d.bc, .slice y.d.wa T.1.2.length y.d.wc, .slice y.a T.2.1.length y.c, .int .u32 (T.2.2.1 : Int), .int .u32 (T.2.2.2 : Int)], .agg #[.int .i64 pa, .int .u32 (pb : Int), .int .u32 (pi : Int), .int .u32 (pt : Int), .int .u32 (ps : Int)], .int .i64 ze]) (by simp [results, Try.f8, go_sem, e0, e1, e2, e3, e4, f0, f1, f2, f3, f4]) rfl ?_
    exact ⟨y, rfl, HT.out.step (HKK.out.more (Nat.zero_le _)), (HH.out.keeps HKK.out).lower (by rw [HG.out]; exact HZ.out), by rw [HG.out]; exact HBF.out⟩
  · have hoo := HOO.out
    rw [rawO_wrong HZZ.out hz0] at hoo
    subst hoo
    have e1 : ((z : Int) != 0) = true := by simp; omega
    have e2 : ¬ ((z : Int) = 0) := by omega
    clear hz0
    go_enter Try.func8, Try.ntmps8
    go_wp2_with fail
    clear c0 c1 c2 c3 c4 hw0
    refine HWR.out.mono ?_
    rintro e w1 ⟨rfl, b1⟩
    replace HX := Lib.hid (HX.out.below b1 HX.out.lt)
    replace HY := Lib.hid (HY.out.below b1 HY.out.lt)
    replace HQ := Lib.hid (HQ.out.below b1 HQ.out.lt)
    replace HS := Lib.hid (HS.out.bel b1)
    replace HA := Lib.hid (HA.out.step b1)
    replace HB := Lib.hid (HB.out.trans (b1.mono HZ.out))
    replace HZ := Lib.hid (Nat.le_trans HZ.out b1.size)
    clear b1
    have m0 := stZ0 HY.out
    have m1 := stZ1 HY.out
    have m2 := stZ2 HY.out
    have m3 := stZ3 HY.out
    have m4 := stZ4 HY.out
    have n0 := ptZ0 HQ.out
    have n1 := ptZ1 HQ.out
    have n2 := ptZ2 HQ.out
    have n3 := ptZ3 HQ.out
    have n4 := ptZ4 HQ.out
    go_wp2_with fail
    refine bodyPost_ret (v := .tuple #[.agg #[.slice none 0 0, .slice none 0 0, .slice none 0 0, .int .u32 0, .int .u32 0], .agg #[.int .i64 0, .int .u32 0, .int .u32 0, .int .u32 0, .int .u32 0], .int .i64 z]) (by simp [results, Try.f8, go_sem, m0, m1, m2, m3, m4, n0, n1, n2, n3, n4]) rfl ?_
    exact newSP_zero z (by rw [HG.out]; exact HB.out)
set_option maxHeartbeats 8000000 in
theorem stSeal_any (L : Nat) (x : SAt) (S : StL) (birth : Nat) (ka : Option Addr) (kc : Nat) (key : List UInt8) (a : Option Addr) (c : Nat) (b : List UInt8) (w : World) (h : StP L w x S) (hk : Bsl w w.heap.size ka key.length kc key) (hb : Bsl w w.heap.size a b.length c b) (_ho : OkS S) (hL : L ≤ w.heap.size) (_hbi : birth < 4294967296) : Calls Try.prog 11 #[stV x S, .int .u32 birth, .slice ka key.length kc, .slice a b.length c] w (NewSP (sealO S birth key b) w) := by
  obtain ⟨o, ho'⟩ : ∃ o, sealO S birth key b = o := ⟨_, rfl⟩
  obtain ⟨w0, hw0, b0, z0, x0, y0, q0⟩ := three_al w (stC x S) stZ ptZ 30 30 32
  obtain ⟨g, hg⟩ : ∃ g, w.heap.size = g := ⟨_, rfl⟩
  obtain ⟨g1, hg1⟩ : ∃ g1, g + 1 = g1 := ⟨_, rfl⟩
  obtain ⟨g2, hg2⟩ : ∃ g2, g1 + 1 = g2 := ⟨_, rfl⟩
  have h0 := h.bel b0
  have hb0 := (bsl_lasts hb (Nat.le_refl _)).bel b0
  have hk0 := (bsl_lasts hk (Nat.le_refl _)).bel b0
  rw [hg] at hb0 hk0
  have HLG := Lib.hid (show L ≤ g by omega)
  rw [hg] at x0 y0 q0 z0 b0
  rw [hg1] at y0
  rw [show g + 2 = g1 + 1 by omega, hg2] at q0
  have HI := Lib.hid (show g ≤ g1 ∧ g ≤ g2 ∧ g1 ≠ g ∧ g2 ≠ g ∧ g2 ≠ g1 ∧ g1 ≠ g2 ∧ w0.heap.size = g + 3 by omega)
  have c0 := stC0 x0
  have c1 := stC1 x0
  have c2 := stC2 x0
  have c3 := stC3 x0
  have c4 := stC4 x0
  have HX := Lib.hid x0
  have HY := Lib.hid y0
  have HQ := Lib.hid q0
  have HB := Lib.hid b0
  have HS := Lib.hid h0
  have HA := Lib.hid hb0
  have HK := Lib.hid hk0
  have HG := Lib.hid hg
  have HZ := Lib.hid (show g ≤ w0.heap.size by omega)
  have HOO := Lib.hid ho'
  rw [ho']
  obtain ⟨z, hz⟩ : ∃ z, wrongO S birth b.length = z := ⟨_, rfl⟩
  have HZZ := Lib.hid hz
  have HWR := Lib.hid (stWrong_any L x S birth a b.length c w0 h0 z hz)
  simp only [stC, stZ, ptZ] at hw0
  clear h hb h0 hb0 x0 y0 q0 b0 z0 ho' hz hk hk0 hL
  by_cases hz0 : z = 0
  · subst hz0
    obtain ⟨y, hy⟩ : ∃ y, wrongKO S key.length = y := ⟨_, rfl⟩
    have HYY := Lib.hid hy
    have e1 : (((0 : Nat) : Int) != 0) = false := rfl
    by_cases hy0 : y = 0
    · subst hy0
      obtain ⟨hkl, hct, hso⟩ := sealO_right HZZ.out HYY.out
      have hoo := HOO.out
      rw [hso] at hoo
      obtain ⟨hms, hbr, hbl⟩ := wrongO_no HZZ.out
      have HMS := Lib.hid hms
      have HBL := Lib.hid hbl
      obtain ⟨M, hM⟩ : ∃ M, S.2.2.2 + 1 = M := ⟨_, rfl⟩
      obtain ⟨E, hE⟩ : ∃ E, S.2.2.1 * 65536 = E := ⟨_, rfl⟩
      obtain ⟨V, hV⟩ : ∃ V, E + M = V := ⟨_, rfl⟩
      have hep := hms.2.2.1.2
      have hiv : V < 4294967296 := by omega
      rw [hM, hE, hV] at hoo
      have k1 : IntKind.u32.wrap ((S.2.2.2 : Int) + 1) = (M : Int) := by rw [IntWalk.u32_in _ (by omega)]; omega
      have k2 : IntKind.u32.wrap ((S.2.2.1 : Int) * 65536) = (E : Int) := by rw [IntWalk.u32_in _ (by omega)]; omega
      have k3 : IntKind.u32.wrap ((E : Int) + (M : Int)) = (V : Int) := by rw [IntWalk.u32_in _ (by omega)]; omega
      have HIV := Lib.hid hiv
      have HO := Lib.hid hoo
      have hmc := count_may hms hct
      rw [hM] at hmc
      have HMC := Lib.hid hmc
      have hwk := fun W => stWrongKey_any x S ka key.length kc W 0 hy
      rw [hkl] at hwk
      have HWK := Lib.hid hwk
      rw [hkl] at HK
      rw [hkl]
      clear hoo hms hbr hbl hkl hct hso hM hE hV hep hiv hy hwk hmc
      go_enter Try.func11, Try.ntmps11
      go_wp2_with fail
      clear c0 c1 c2 c3 c4 hw0
      refine HWR.out.mono ?_
      rintro e w1 ⟨rfl, b1⟩
      replace HX := Lib.hid (HX.out.below b1 HX.out.lt)
      replace HY := Lib.hid (HY.out.below b1 HY.out.lt)
      replace HQ := Lib.hid (HQ.out.below b1 HQ.out.lt)
      replace HS := Lib.hid (HS.out.bel b1)
      replace HA := Lib.hid (HA.out.bel b1)
      replace HK := Lib.hid (HK.out.bel b1)
      replace HB := Lib.hid (HB.out.trans (b1.mono HZ.out))
      replace HZ := Lib.hid (Nat.le_trans HZ.out b1.size)
      have c0 := stC0 HX.out
      have c1 := stC1 HX.out
      have c2 := stC2 HX.out
      have c3 := stC3 HX.out
      have c4 := stC4 HX.out
      clear b1 HWR
      go_wp2_with fail
      clear c0 c1 c2 c3 c4
      refine (HWK.out w1).mono ?_
      rintro e w2 ⟨rfl, b2⟩
      replace HX := Lib.hid (HX.out.below b2 HX.out.lt)
      replace HY := Lib.hid (HY.out.below b2 HY.out.lt)
      replace HQ := Lib.hid (HQ.out.below b2 HQ.out.lt)
      replace HS := Lib.hid (HS.out.bel b2)
      replace HA := Lib.hid (HA.out.bel b2)
      replace HK := Lib.hid (HK.out.bel b2)
      replace HB := Lib.hid (HB.out.trans (b2.mono HZ.out))
      replace HZ := Lib.hid (Nat.le_trans HZ.out b2.size)
      clear b2 HWK
      have c4 := stC4 HX.out
      have hfx := fun i => HX.out.frozen i
      obtain ⟨x3, k3', b3⟩ := box_at (L := g) HX.out (by decide) (Nat.le_refl _) HB.out (Nat.le_refl _) 4 (.int .u32 (M : Int))
      replace HY := Lib.hid (HY.out.far (p := ⟨g, 4, none⟩) HI.out.2.2.1 (.int .u32 (M : Int)))
      replace HQ := Lib.hid (HQ.out.far (p := ⟨g, 4, none⟩) HI.out.2.2.2.1 (.int .u32 (M : Int)))
      obtain ⟨w3, hw3⟩ : ∃ w3, w2.setCell ⟨g, 4, none⟩ (.int .u32 (M : Int)) = w3 := ⟨_, rfl⟩
      rw [hw3] at x3 k3' b3 HY HQ
      replace HX := Lib.hid (show Blk w3 g 30 #[.slice x.d.ba S.1.1.length x.d.bc, .slice x.d.wa S.1.2.length x.d.wc, .slice x.a S.2.1.length x.c, .int .u32 (S.2.2.1 : Int), .int .u32 (M : Int)] from x3)
      replace HS := Lib.hid (HS.out.step (k3'.more HLG.out))
      replace HA := Lib.hid (HA.out.step k3')
      replace HK := Lib.hid (HK.out.step k3')
      replace HB := Lib.hid b3
      replace HZ := Lib.hid (show g ≤ w3.heap.size from Nat.le_trans HZ.out k3'.size)
      have d3 := bx3 HX.out
      have d4 := bx4 HX.out
      have hse := Seal_ok ka kc key V HIV.out a b.length c b (by have := HBL.out; omega) w3 HK.out.now HA.out.now
      have hoo := HO.out
      obtain ⟨mk, hmk⟩ : ∃ mk, turnW' key V b = mk := ⟨_, rfl⟩
      rw [hmk] at hse hoo
      obtain ⟨tg, htg⟩ : ∃ tg, sealW key V mk = tg := ⟨_, rfl⟩
      rw [htg] at hse hoo
      obtain ⟨tn, htn⟩ : ∃ tn, tg.toNat = tn := ⟨_, rfl⟩
      unfold OutT at hse
      rw [htn] at hse hoo
      replace HO := Lib.hid hoo
      have HSE := Lib.hid hse
      clear x3 k3' b3 hse hoo hmk htg htn
      go_wp2_with fail
      clear c4 hfx hw3 d3 d4 k1 k2 k3
      refine HSE.out.mono ?_
      rintro e w4 ⟨a1, c1, rfl, h1, b4⟩
      replace HX := Lib.hid (HX.out.below b4 HX.out.lt)
      replace HY := Lib.hid (HY.out.below b4 HY.out.lt)
      replace HQ := Lib.hid (HQ.out.below b4 HQ.out.lt)
      replace HS := Lib.hid (HS.out.bel b4)
      replace HB := Lib.hid (HB.out.trans (b4.mono HZ.out))
      replace HZ := Lib.hid (Nat.le_trans HZ.out b4.size)
      have hml : mk.length = b.length := (own_bsl h1).1
      have HML := Lib.hid hml
      have HA1 := Lib.hid (own_bsl h1)
      clear b4 h1 hml HSE HA HK
      have c0 := bx0 HX.out
      have c1' := bx1 HX.out
      have c2 := bx2 HX.out
      have c3 := bx3 HX.out
      have c4 := bx4 HX.out
      go_wp2_with fail
      clear c0 c1' c2 c3 c4
      have b5 := (Below.refl w4.heap.size w4).alloc (Nat.le_refl _) (.cells #[.int .u32 (V : Int), .int .u32 (tn : Int)] 28)
      have hv5 := Blk.new w4 28 #[.int .u32 (V : Int), .int .u32 (tn : Int)]
      obtain ⟨w5, hw5⟩ : ∃ w5, w4.alloc (.cells #[.int .u32 (V : Int), .int .u32 (tn : Int)] 28) = w5 := ⟨_, rfl⟩
      obtain ⟨g9, hg9⟩ : ∃ g9, w4.heap.size = g9 := ⟨_, rfl⟩
      rw [hw5] at b5 hv5 ⊢
      rw [hg9] at hv5
      try rw [hg9]
      replace HX := Lib.hid (HX.out.below b5 HX.out.lt)
      replace HY := Lib.hid (HY.out.below b5 HY.out.lt)
      replace HQ := Lib.hid (HQ.out.below b5 HQ.out.lt)
      replace HS := Lib.hid (HS.out.bel b5)
      replace HB := Lib.hid (HB.out.trans (b5.mono HZ.out))
      replace HZ := Lib.hid (Nat.le_trans HZ.out b5.size)
      replace HA1 := Lib.hid (HA1.out.step b5)
      have hld := stLaid_any L x (S.1, S.2.1, S.2.2.1, M) birth V tn a1 c1 mk (.slice (some ⟨g9, 0, none⟩) 2 2) w5 HS.out (by rw [HML.out]; exact HA1.out) (.inr ⟨g9, rfl, hv5⟩) HMC.out (by rw [HML.out]; exact HBL.out)
      rw [HO.out, HML.out] at hld
      have HLD := Lib.hid hld
      clear hld b5 hv5 hw5 hg9
      obtain ⟨T, ⟨pa, pb, pi, pt, ps⟩, ze⟩ := o
      simp only [stV] at HLD
      refine HLD.out.mono ?_
      rintro ev w9 ⟨y, rfl, ht, hh, b9⟩
      replace HY := Lib.hid (HY.out.below b9 HY.out.lt)
      replace HQ := Lib.hid (HQ.out.below b9 HQ.out.lt)
      replace HB := Lib.hid (HB.out.trans (b9.mono HZ.out))
      have HT := Lib.hid ht
      have HH := Lib.hid (hh.lower (Nat.le_refl _))
      clear ht hh b9 HLD
      obtain ⟨ya, ka, ba⟩ := box_five (L := g) HY.out (by decide) HI.out.1 HB.out HI.out.1 (.slice y.d.ba T.1.1.length y.d.bc) (.slice y.d.wa T.1.2.length y.d.wc) (.slice y.a T.2.1.length y.c) (.int .u32 (T.2.2.1 : Int)) (.int .u32 (T.2.2.2 : Int))
      have qa := far5_bl HQ.out HI.out.2.2.2.2.1 (.slice y.d.ba T.1.1.length y.d.bc) (.slice y.d.wa T.1.2.length y.d.wc) (.slice y.a T.2.1.length y.c) (.int .u32 (T.2.2.1 : Int)) (.int .u32 (T.2.2.2 : Int))
      have m0 := stZ0 HY.out
      have m1 := stZ1 HY.out
      have m2 := stZ2 HY.out
      have m3 := stZ3 HY.out
      have m4 := stZ4 HY.out
      have hfy := fun i => HY.out.frozen i
      obtain ⟨wa, hwa⟩ : ∃ wa, set5 w9 g1 (.slice y.d.ba T.1.1.length y.d.bc) (.slice y.d.wa T.1.2.length y.d.wc) (.slice y.a T.2.1.length y.c) (.int .u32 (T.2.2.1 : Int)) (.int .u32 (T.2.2.2 : Int)) = wa := ⟨_, rfl⟩
      rw [hwa] at ya ka ba qa
      obtain ⟨qb, kb, bb⟩ := box_five (L := g) qa (by decide) HI.out.2.1 ba HI.out.2.1 (.int .i64 pa) (.int .u32 (pb : Int)) (.int .u32 (pi : Int)) (.int .u32 (pt : Int)) (.int .u32 (ps : Int))
      have yb := far5_bl ya HI.out.2.2.2.2.2.1 (.int .i64 pa) (.int .u32 (pb : Int)) (.int .u32 (pi : Int)) (.int .u32 (pt : Int)) (.int .u32 (ps : Int))
      have n0 := ptZ0 qa
      have n1 := ptZ1 qa
      have n2 := ptZ2 qa
      have n3 := ptZ3 qa
      have n4 := ptZ4 qa
      have hfq := fun i => qa.frozen i
      obtain ⟨wb, hwb⟩ : ∃ wb, set5 wa g2 (.int .i64 pa) (.int .u32 (pb : Int)) (.int .u32 (pi : Int)) (.int .u32 (pt : Int)) (.int .u32 (ps : Int)) = wb := ⟨_, rfl⟩
      rw [hwb] at qb kb bb yb
      have HKK := Lib.hid (ka.trans kb)
      have HBF := Lib.hid bb
      have HYF := Lib.hid yb
      have HQF := Lib.hid qb
      simp only [set5] at hwa hwb
      clear ya ka ba qa qb kb bb yb
      go_wp2_with fail
      clear m0 m1 m2 m3 m4 n0 n1 n2 n3 n4 hfy hfq hwa hwb
      have e0 := bx0 HYF.out
      have e1 := bx1 HYF.out
      have e2 := bx2 HYF.out
      have e3 := bx3 HYF.out
      have e4 := bx4 HYF.out
      have f0 := bx0 HQF.out
      have f1 := bx1 HQF.out
      have f2 := bx2 HQF.out
      have f3 := bx3 HQF.out
      have f4 := bx4 HQF.out
      refine bodyPost_ret (v := .tuple #[.agg #[.slice y.d.ba T.1.1.length y.d.bc, .slice y.d.wa T.1.2.length y.d.wc, .slice y.a T.2.1.length y.c, .int .u32 (T.2.2.1 : Int), .int .u32 (T.2.2.2 : Int)], .agg #[.int .i64 pa, .int .u32 (pb : Int), .int .u32 (pi : Int), .int .u32 (pt : Int), .int .u32 (ps : Int)], .int .i64 ze]) (by simp [results, Try.f11, go_sem, e0, e1, e2, e3, e4, f0, f1, f2, f3, f4]) rfl ?_
      exact ⟨y, rfl, HT.out.step (HKK.out.more (Nat.zero_le _)), (HH.out.keeps HKK.out).lower (by rw [HG.out]; exact HZ.out), by rw [HG.out]; exact HBF.out⟩
    · have hoo := HOO.out
      rw [sealO_key HZZ.out HYY.out hy0] at hoo
      subst hoo
      have e3 : ((y : Int) != 0) = true := by simp; omega
      have e2 : ¬ ((y : Int) = 0) := by omega
      have HWK := Lib.hid (fun W => stWrongKey_any x S ka key.length kc W y HYY.out)
      clear hy0 hy
      go_enter Try.func11, Try.ntmps11
      go_wp2_with fail
      clear c0 c1 c2 c3 c4 hw0
      refine HWR.out.mono ?_
      rintro e w1 ⟨rfl, b1⟩
      replace HX := Lib.hid (HX.out.below b1 HX.out.lt)
      replace HY := Lib.hid (HY.out.below b1 HY.out.lt)
      replace HQ := Lib.hid (HQ.out.below b1 HQ.out.lt)
      replace HS := Lib.hid (HS.out.bel b1)
      replace HA := Lib.hid (HA.out.bel b1)
      replace HK := Lib.hid (HK.out.bel b1)
      replace HB := Lib.hid (HB.out.trans (b1.mono HZ.out))
      replace HZ := Lib.hid (Nat.le_trans HZ.out b1.size)
      have c0 := stC0 HX.out
      have c1 := stC1 HX.out
      have c2 := stC2 HX.out
      have c3 := stC3 HX.out
      have c4 := stC4 HX.out
      clear b1 HWR
      go_wp2_with fail
      clear c0 c1 c2 c3 c4
      refine (HWK.out w1).mono ?_
      rintro e w2 ⟨rfl, b2⟩
      replace HX := Lib.hid (HX.out.below b2 HX.out.lt)
      replace HY := Lib.hid (HY.out.below b2 HY.out.lt)
      replace HQ := Lib.hid (HQ.out.below b2 HQ.out.lt)
      replace HB := Lib.hid (HB.out.trans (b2.mono HZ.out))
      replace HZ := Lib.hid (Nat.le_trans HZ.out b2.size)
      clear b2 HWK
      have m0 := stZ0 HY.out
      have m1 := stZ1 HY.out
      have m2 := stZ2 HY.out
      have m3 := stZ3 HY.out
      have m4 := stZ4 HY.out
      have n0 := ptZ0 HQ.out
      have n1 := ptZ1 HQ.out
      have n2 := ptZ2 HQ.out
      have n3 := ptZ3 HQ.out
      have n4 := ptZ4 HQ.out
      go_wp2_with fail
      refine bodyPost_ret (v := .tuple #[.agg #[.slice none 0 0, .slice none 0 0, .slice none 0 0, .int .u32 0, .int .u32 0], .agg #[.int .i64 0, .int .u32 0, .int .u32 0, .int .u32 0, .int .u32 0], .int .i64 y]) (by simp [results, Try.f11, go_sem, m0, m1, m2, m3, m4, n0, n1, n2, n3, n4]) rfl ?_
      exact newSP_zero y (by rw [HG.out]; exact HB.out)
  · have hoo := HOO.out
    rw [sealO_wrong HZZ.out hz0] at hoo
    subst hoo
    have e1 : ((z : Int) != 0) = true := by simp; omega
    have e2 : ¬ ((z : Int) = 0) := by omega
    clear hz0
    go_enter Try.func11, Try.ntmps11
    go_wp2_with fail
    clear c0 c1 c2 c3 c4 hw0
    refine HWR.out.mono ?_
    rintro e w1 ⟨rfl, b1⟩
    replace HX := Lib.hid (HX.out.below b1 HX.out.lt)
    replace HY := Lib.hid (HY.out.below b1 HY.out.lt)
    replace HQ := Lib.hid (HQ.out.below b1 HQ.out.lt)
    replace HS := Lib.hid (HS.out.bel b1)
    replace HA := Lib.hid (HA.out.bel b1)
    replace HK := Lib.hid (HK.out.bel b1)
    replace HB := Lib.hid (HB.out.trans (b1.mono HZ.out))
    replace HZ := Lib.hid (Nat.le_trans HZ.out b1.size)
    clear b1
    have m0 := stZ0 HY.out
    have m1 := stZ1 HY.out
    have m2 := stZ2 HY.out
    have m3 := stZ3 HY.out
    have m4 := stZ4 HY.out
    have n0 := ptZ0 HQ.out
    have n1 := ptZ1 HQ.out
    have n2 := ptZ2 HQ.out
    have n3 := ptZ3 HQ.out
    have n4 := ptZ4 HQ.out
    go_wp2_with fail
    refine bodyPost_ret (v := .tuple #[.agg #[.slice none 0 0, .slice none 0 0, .slice none 0 0, .int .u32 0, .int .u32 0], .agg #[.int .i64 0, .int .u32 0, .int .u32 0, .int .u32 0, .int .u32 0], .int .i64 z]) (by simp [results, Try.f11, go_sem, m0, m1, m2, m3, m4, n0, n1, n2, n3, n4]) rfl ?_
    exact newSP_zero z (by rw [HG.out]; exact HB.out)
end Go.Proofs.Ytdpmdlibgabjaaa
/-
  Store's own: Look, Open; what they answer is new memory, and nothing that was there is written.
-/
namespace Go.Proofs.Ytdpmdlibgabjaaa
open Go.RowKit Go.Shelf
set_option maxRecDepth 100000

theorem wrongPO_no {S : StL} {p : Pt} (h : wrongPO S p = 0) : MayS S ∧ MayP p ∧ p ≠ p0 := by
  unfold wrongPO at h
  split at h
  · rename_i hm
    split at h
    · cases h
    · exact ⟨hm.1, hm.2, by assumption⟩
  · cases h
theorem lookO_wrong {S : StL} {p : Pt} {z : Nat} (h : wrongPO S p = z) (hz : z ≠ 0) : lookO S p = ([], z) := by
  unfold wrongPO at h
  unfold lookO
  split at h
  · rw [if_pos (by assumption)]
    split at h
    · unfold seenO
      rw [if_pos (by assumption), ← h]
    · exact absurd h.symm hz
  · rw [if_neg (by assumption), ← h]
theorem openO_look (S : StL) (p : Pt) (key : List UInt8) : openO S p key = if (lookO S p).2 ≠ 0 then ([], (lookO S p).2)
    else if key.length ≠ 16 then ([], 3)
    else if (sealW key p.2.2.1 (lookO S p).1).toNat = p.2.2.2.1 then (turnW' key p.2.2.1 (lookO S p).1, 0) else ([], 131) := by
  unfold openO lookO
  by_cases h : MayS S ∧ MayP p
  · rw [if_pos h, if_pos h]
    rfl
  · rw [if_neg h, if_neg h]
    rfl
theorem lookO_len {S : StL} {p : Pt} {B : List UInt8} (h : lookO S p = (B, 0)) : B.length = 256 := by
  unfold lookO at h
  split at h
  · rename_i hm
    exact seenO_len hm.1 hm.2 h
  · cases h
set_option maxHeartbeats 4000000 in
theorem stLook_any (L : Nat) (x : SAt) (S : StL) (p : Pt) (w : World) (h : StP L w x S) (_ho : OkS S) (_hwp : WfP p) (_hL : L ≤ w.heap.size) : Calls Try.prog 10 #[stV x S, ptV p] w (OutBE (lookO S p) w) := by
  have hmx : Try.prog.follows Departure.mixedOrders = true := by kernel_rfl
  obtain ⟨w0, hw0, b0, z0, x0, q0⟩ := two_al w (stC x S) (ptA p) 30 32
  obtain ⟨g, hg⟩ : ∃ g, w.heap.size = g := ⟨_, rfl⟩
  obtain ⟨g1, hg1⟩ : ∃ g1, g + 1 = g1 := ⟨_, rfl⟩
  have h0 := h.bel b0
  rw [hg] at x0 q0 z0 b0
  rw [hg1] at q0
  have c0 := stC0 x0
  have c1 := stC1 x0
  have c2 := stC2 x0
  have c3 := stC3 x0
  have c4 := stC4 x0
  have d0 := bx0 q0
  have d1 := bx1 q0
  have d2 := bx2 q0
  have d3 := bx3 q0
  have d4 := bx4 q0
  have HX := Lib.hid x0
  have HQ := Lib.hid q0
  have HB := Lib.hid b0
  have HS := Lib.hid h0
  have HG := Lib.hid hg
  have HW := Lib.hid (show g ≤ w0.heap.size by omega)
  simp only [stC, ptA] at hw0
  clear h h0 x0 q0 b0 z0
  obtain ⟨z, hz⟩ : ∃ z, wrongPO S p = z := ⟨_, rfl⟩
  have HWR := Lib.hid (stWrongPtr_any L x S p w0 HS.out z hz)
  obtain ⟨o, ho⟩ : ∃ o, lookO S p = o := ⟨_, rfl⟩
  rw [ho]
  by_cases hz0 : z = 0
  · subst hz0
    obtain ⟨hm, hmp, hp⟩ := wrongPO_no hz
    rw [lookO_may hm hmp] at ho
    unfold seenO at ho
    rw [if_neg hp] at ho
    obtain ⟨k, hk, k12, k256⟩ := mayP_at hmp hp
    have hkt : p.1.toNat = k := by omega
    rw [hkt] at ho
    have hln := leftD_length hm.1 (fun _ => true) k256
    obtain ⟨B, hBk⟩ : ∃ B, seenS S k = B := ⟨_, rfl⟩
    have hln2 : B.length = 256 := by rw [← hBk]; exact hln
    rw [hBk] at ho
    have HOO := Lib.hid ho
    have hrd : readO S.1 (k : Int) = (B, 0) := by
      unfold readO
      rw [if_pos hm.1, if_pos (by omega), Int.toNat_natCast, ← hBk]
      rfl
    have hsn : ∀ W, StP L W x S → Calls Try.prog 24 #[dval x.d S.1, .int .i64 (k : Int)] W (ToldL (B, 0) W) := fun W hs => by
      have := dRead_any x.d S.1 (k : Int) W hs.now.1
      rw [hrd] at this
      exact this
    simp only [dval] at hsn
    have HSN := Lib.hid hsn
    have HL2 := Lib.hid hln2
    have HKK := Lib.hid hk
    clear hm hmp hp hz hk hkt hln hsn hln2 hBk ho hrd
    go_enter Try.func10, Try.ntmps10
    go_wp2_with fail
    clear c0 c1 c2 c3 c4 d0 d1 d2 d3 d4 hw0
    refine HWR.out.mono ?_
    rintro e w1 ⟨rfl, b1⟩
    replace HX := Lib.hid (HX.out.below b1 HX.out.lt)
    replace HQ := Lib.hid (HQ.out.below b1 HQ.out.lt)
    replace HS := Lib.hid (HS.out.bel b1)
    replace HB := Lib.hid (HB.out.trans (b1.mono HW.out))
    replace HW := Lib.hid (Nat.le_trans HW.out b1.size)
    clear b1 HWR
    have c0 := stC0 HX.out
    have c1 := stC1 HX.out
    have d0 := bx0 HQ.out
    rw [HKK.out] at d0
    go_wp2_with fail
    clear c0 c1 d0
    refine (HSN.out w1 HS.out).mono ?_
    rintro e w2 ⟨v, rfl, ho, b2⟩
    simp only at ho
    rw [HL2.out] at ho
    obtain ⟨ab, cb, rfl⟩ := own_slice ho
    have HO := Lib.hid (own_mono ho HW.out)
    replace HX := Lib.hid (HX.out.below b2 HX.out.lt)
    replace HQ := Lib.hid (HQ.out.below b2 HQ.out.lt)
    replace HS := Lib.hid (HS.out.bel b2)
    replace HB := Lib.hid (HB.out.trans (b2.mono HW.out))
    replace HW := Lib.hid (Nat.le_trans HW.out b2.size)
    clear b2 ho HSN
    go_wp2_with fail
    obtain ⟨wd, hwd⟩ : ∃ wd, w2.drew = wd := ⟨_, rfl⟩
    have bb : Below w2.heap.size w2 wd := by rw [← hwd]; exact (Below.refl _ w2).drew
    replace HO := Lib.hid (own_below HO.out bb)
    replace HX := Lib.hid (HX.out.below bb HX.out.lt)
    replace HQ := Lib.hid (HQ.out.below bb HQ.out.lt)
    replace HS := Lib.hid (HS.out.bel bb)
    replace HB := Lib.hid (HB.out.trans (bb.mono HW.out))
    replace HW := Lib.hid (Nat.le_trans HW.out bb.size)
    clear bb
    have hsu := sum_any ab 256 cb B wd (own_bsl HO.out) (by omega)
    rw [show (fourW B).a.toNat = sumOf B from rfl] at hsu
    have hc4 := bx4 HQ.out
    obtain ⟨u, hu⟩ : ∃ u : Nat, p.2.2.2.2 = u := ⟨_, rfl⟩
    obtain ⟨m, hmm⟩ : ∃ m : Nat, sumOf B = m := ⟨_, rfl⟩
    rw [hu] at hc4
    rw [hmm] at hsu
    have HSU := Lib.hid hsu
    have HO5 := HOO.out
    rw [hu, hmm] at HO5
    refine wpI_start (fun X => X.cell? ⟨g1, 4, none⟩ = some (.int .u32 (u : Int))) [0, 2, 3, 1, 4] hmx rfl hwd ?_
    clear hu hmm hwd hsu
    have HO5' := Lib.hid HO5
    clear HO5
    iterate 3 (
      refine wpI_read (v := ?_) hc4 rfl (by kernel_rfl) (by kernel_rfl) (by kernel_rfl) (fun _ _ _ h => h) (.inl ⟨by rfl, ?_⟩) ?_
      rotate_left
      · intro X hX
        go_simp
        with_reducible rfl
      try simp only [Act.put, List.setIfInBounds_toArray, List.set_cons_zero, List.set_cons_succ])
    refine wpI_lone rfl (by kernel_rfl) (fun K hK => ?_)
    go_simp
    refine HSU.out.mono ?_
    rintro ev w3 ⟨rfl, b3⟩
    have hc5 : w3.cell? ⟨g1, 4, none⟩ = some (.int .u32 (u : Int)) := (b3.cell (p := ⟨g1, 4, none⟩) HQ.out.lt).trans hc4
    replace HO := Lib.hid (own_below HO.out b3)
    replace HX := Lib.hid (HX.out.below b3 HX.out.lt)
    replace HQ := Lib.hid (HQ.out.below b3 HQ.out.lt)
    replace HS := Lib.hid (HS.out.bel b3)
    replace HB := Lib.hid (HB.out.trans (b3.mono HW.out))
    replace HW := Lib.hid (Nat.le_trans HW.out b3.size)
    refine hK _ _ hc5 ?_
    clear hK K hc4 b3 HSU
    try simp only [Act.put, List.setIfInBounds_toArray, List.set_cons_zero, List.set_cons_succ]
    by_cases hmu : m = u
    · have HO5 := HO5'.out
      rw [if_pos hmu] at HO5
      subst HO5
      have he : ((m : Int) != (u : Int)) = false := by simp; omega
      clear hmu
      iterate 1 (
        refine wpI_read (v := ?_) hc5 rfl (by kernel_rfl) (by kernel_rfl) (by kernel_rfl) (fun _ _ _ h => h) (.inl ⟨by rfl, ?_⟩) ?_
        rotate_left
        · intro X hX
          go_simp
          with_reducible rfl
        try simp only [Act.put, List.setIfInBounds_toArray, List.set_cons_zero, List.set_cons_succ])
      refine wpI_done (by kernel_rfl) ?_
      clear he hc5
      go_wp2_with fail
      go_ret2
      exact ⟨_, rfl, by rw [HG.out, HL2.out]; exact HO.out, by rw [HG.out]; exact HB.out⟩
    · have HO5 := HO5'.out
      rw [if_neg hmu] at HO5
      subst HO5
      have he : ((m : Int) != (u : Int)) = true := by simp; omega
      clear hmu
      iterate 1 (
        refine wpI_read (v := ?_) hc5 rfl (by kernel_rfl) (by kernel_rfl) (by kernel_rfl) (fun _ _ _ h => h) (.inl ⟨by rfl, ?_⟩) ?_
        rotate_left
        · intro X hX
          go_simp
          with_reducible rfl
        try simp only [Act.put, List.setIfInBounds_toArray, List.set_cons_zero, List.set_cons_succ])
      refine wpI_done (by kernel_rfl) ?_
      clear he hc5
      go_wp2_with fail
      go_ret2
      exact outBE_no 130 (by rw [HG.out]; exact HB.out)
  · rw [lookO_wrong hz hz0] at ho
    subst ho
    have e1 : ((z : Int) != 0) = true := by simp; omega
    have e2 : ¬ ((z : Int) = 0) := by omega
    clear hz hz0
    go_enter Try.func10, Try.ntmps10
    go_wp2_with fail
    clear c0 c1 c2 c3 c4 d0 d1 d2 d3 d4 hw0
    refine HWR.out.mono ?_
    rintro e w1 ⟨rfl, b1⟩
    replace HX := Lib.hid (HX.out.below b1 HX.out.lt)
    replace HQ := Lib.hid (HQ.out.below b1 HQ.out.lt)
    replace HS := Lib.hid (HS.out.bel b1)
    replace HB := Lib.hid (HB.out.trans (b1.mono HW.out))
    replace HW := Lib.hid (Nat.le_trans HW.out b1.size)
    clear b1 HWR
    go_wp2_with fail
    go_ret2
    exact outBE_no z (by rw [HG.out]; exact HB.out)
set_option maxHeartbeats 4000000 in
theorem stOpen_any (L : Nat) (x : SAt) (S : StL) (p : Pt) (ka : Option Addr) (kc : Nat) (key : List UInt8) (w : World) (h : StP L w x S) (hk : Bsl w w.heap.size ka key.length kc key) (ho : OkS S) (hwp : WfP p) (hL : L ≤ w.heap.size) : Calls Try.prog 18 #[stV x S, ptV p, .slice ka key.length kc] w (OutBE (openO S p key) w) := by
  obtain ⟨w0, hw0, b0, z0, x0, q0⟩ := two_al w (stC x S) (ptA p) 30 32
  obtain ⟨g, hg⟩ : ∃ g, w.heap.size = g := ⟨_, rfl⟩
  obtain ⟨g1, hg1⟩ : ∃ g1, g + 1 = g1 := ⟨_, rfl⟩
  have h0 := h.bel b0
  have hk0 := (bsl_lasts hk (Nat.le_refl _)).bel b0
  rw [hg] at hk0
  rw [hg] at x0 q0 z0 b0
  rw [hg1] at q0
  have c0 := stC0 x0
  have c1 := stC1 x0
  have c2 := stC2 x0
  have c3 := stC3 x0
  have c4 := stC4 x0
  have d0 := bx0 q0
  have d1 := bx1 q0
  have d2 := bx2 q0
  have d3 := bx3 q0
  have d4 := bx4 q0
  have HX := Lib.hid x0
  have HQ := Lib.hid q0
  have HB := Lib.hid b0
  have HS := Lib.hid h0
  have HG := Lib.hid hg
  have HW := Lib.hid (show g ≤ w0.heap.size by omega)
  simp only [stC, ptA] at hw0
  clear h h0 x0 q0 b0 z0
  have HK := Lib.hid hk0
  rw [openO_look]
  have HLK := Lib.hid (stLook_any L x S p w0 HS.out ho hwp (by have := HW.out; omega))
  obtain ⟨o, hoo⟩ : ∃ o, lookO S p = o := ⟨_, rfl⟩
  rw [hoo] at HLK
  rw [hoo]
  obtain ⟨B, er⟩ := o
  have HLN := Lib.hid (fun (e : er = 0) => lookO_len (S := S) (p := p) (B := B) (by rw [hoo, e]))
  have HWP := Lib.hid hwp
  clear hk hk0 hoo hwp hL ho
  have hl0 := HK.out.now.len_le
  simp only
  by_cases h1 : er = 0
  · subst h1
    have hln := HLN.out rfl
    rw [if_neg (by simp)]
    have HL2 := Lib.hid hln
    have e0 : (((0 : Nat) : Int) != 0) = false := rfl
    clear hln HLN
    by_cases h2 : key.length = 16
    · rw [if_neg (by omega)]
      have hks := fun W => stIsKey_any ka key.length kc W
      rw [decide_eq_true h2] at hks
      have HKS := Lib.hid hks
      have HKL := Lib.hid h2
      clear hks h2 hl0
      obtain ⟨T, hT⟩ : ∃ T : BitVec 32, T.toNat = p.2.2.2.1 := ⟨BitVec.ofNat 32 p.2.2.2.1, by rw [BitVec.toNat_ofNat]; exact Nat.mod_eq_of_lt HWP.out.2.2.2.1⟩
      have HTT := Lib.hid hT
      have HIV := Lib.hid HWP.out.2.2.1
      obtain ⟨O, hO⟩ : ∃ O, (if (sealW key p.2.2.1 B).toNat = p.2.2.2.1 then (turnW' key p.2.2.1 B, 0) else ([], 131) : List UInt8 × Nat) = O := ⟨_, rfl⟩
      rw [hO]
      have HOO := Lib.hid hO
      clear hT hO
      go_enter Try.func18, Try.ntmps18
      go_wp2_with fail
      clear c0 c1 c2 c3 c4 d0 d1 d2 d3 d4 hw0
      refine HLK.out.mono ?_
      rintro e w1 ⟨v, rfl, hv, b1⟩
      simp only at hv
      rw [HL2.out] at hv
      obtain ⟨av, cv, rfl⟩ := own_slice hv
      have HV := Lib.hid hv
      replace HX := Lib.hid (HX.out.below b1 HX.out.lt)
      replace HQ := Lib.hid (HQ.out.below b1 HQ.out.lt)
      replace HS := Lib.hid (HS.out.bel b1)
      replace HB := Lib.hid (HB.out.trans (b1.mono HW.out))
      replace HW := Lib.hid (Nat.le_trans HW.out b1.size)
      replace HK := Lib.hid (HK.out.bel b1)
      clear b1 hv HLK
      go_wp2_with fail
      refine (HKS.out w1).mono ?_
      rintro e w2 ⟨rfl, rfl⟩
      have d2 := bx2 HQ.out
      have d3 := bx3 HQ.out
      rw [← HTT.out] at d3
      have hko := HK.out.now
      rw [HKL.out] at hko
      have hvo := own_bsl HV.out
      obtain ⟨iv, hiv⟩ : ∃ iv, p.2.2.1 = iv := ⟨_, rfl⟩
      rw [hiv] at d2
      have hil := HIV.out
      rw [hiv] at hil
      have hO := HOO.out
      rw [hiv, ← HTT.out] at hO
      clear HOO
      by_cases h3 : sealW key iv B = T
      · have HSO := Lib.hid (Open_ok ka kc key iv hil av 256 cv B (by omega) w1 hko hvo)
        rw [h3] at HSO
        rw [if_pos (by rw [h3])] at hO
        obtain ⟨R, hR⟩ : ∃ R, turnW' key iv B = R := ⟨_, rfl⟩
        have hRl : R.length = 256 := by rw [← hR, turnW'_length]; exact HL2.out
        rw [hR] at HSO
        rw [hR] at hO
        subst hO
        rw [HKL.out]
        have HRL := Lib.hid hRl
        clear hR hRl h3 hiv hil hko hvo
        go_wp2_with fail
        clear d2 d3
        refine HSO.out.mono ?_
        rintro e w3 ⟨a3, c3, rfl, h3, b3⟩
        have HR := Lib.hid (own_mono h3 HW.out)
        replace HB := Lib.hid (HB.out.trans (b3.mono HW.out))
        clear h3 b3
        go_wp2_with fail
        go_ret2
        exact ⟨_, rfl, by rw [HG.out, HRL.out]; exact HR.out, by rw [HG.out]; exact HB.out⟩
      · have HSO := Lib.hid (Open_tag ka kc key iv hil av 256 cv B (by omega) T h3 w1 hko hvo)
        rw [if_neg (fun e => h3 (BitVec.eq_of_toNat_eq e))] at hO
        subst hO
        rw [HKL.out]
        clear h3 hiv hil hko hvo
        go_wp2_with fail
        clear d2 d3
        refine HSO.out.mono ?_
        rintro e w3 ⟨rfl, b3⟩
        replace HB := Lib.hid (HB.out.trans (b3.mono HW.out))
        clear b3
        go_wp2_with fail
        go_ret2
        exact outBE_no 131 (by rw [HG.out]; exact HB.out)
    · rw [if_pos (by omega)]
      have hks := fun W => stIsKey_any ka key.length kc W
      rw [decide_eq_false h2] at hks
      have HKS := Lib.hid hks
      clear hks h2
      go_enter Try.func18, Try.ntmps18
      go_wp2_with fail
      clear c0 c1 c2 c3 c4 d0 d1 d2 d3 d4 hw0
      refine HLK.out.mono ?_
      rintro e w1 ⟨v, rfl, hv, b1⟩
      simp only at hv
      rw [HL2.out] at hv
      obtain ⟨av, cv, rfl⟩ := own_slice hv
      replace HX := Lib.hid (HX.out.below b1 HX.out.lt)
      replace HQ := Lib.hid (HQ.out.below b1 HQ.out.lt)
      replace HS := Lib.hid (HS.out.bel b1)
      replace HB := Lib.hid (HB.out.trans (b1.mono HW.out))
      replace HW := Lib.hid (Nat.le_trans HW.out b1.size)
      clear b1 hv HLK
      go_wp2_with fail
      refine (HKS.out w1).mono ?_
      rintro e w2 ⟨rfl, rfl⟩
      go_wp2_with fail
      go_ret2
      exact outBE_no 3 (by rw [HG.out]; exact HB.out)
  · rw [if_pos h1]
    have e1 : ((er : Int) != 0) = true := by simp; omega
    have e2 : ¬ ((er : Int) = 0) := by omega
    clear h1 HLN
    go_enter Try.func18, Try.ntmps18
    go_wp2_with fail
    clear c0 c1 c2 c3 c4 d0 d1 d2 d3 d4 hw0
    refine HLK.out.mono ?_
    rintro e w1 ⟨v, rfl, hv, b1⟩
    simp only at hv
    obtain ⟨av, cv, rfl⟩ := own_slice hv
    replace HX := Lib.hid (HX.out.below b1 HX.out.lt)
    replace HQ := Lib.hid (HQ.out.below b1 HQ.out.lt)
    replace HS := Lib.hid (HS.out.bel b1)
    replace HB := Lib.hid (HB.out.trans (b1.mono HW.out))
    replace HW := Lib.hid (Nat.le_trans HW.out b1.size)
    clear b1 hv HLK
    go_wp2_with fail
    go_ret2
    exact outBE_no er (by rw [HG.out]; exact HB.out)
end Go.Proofs.Ytdpmdlibgabjaaa
/-
  Store's own: Give, Twin; what they answer is new memory, and nothing that was there is written.
-/
namespace Go.Proofs.Ytdpmdlibgabjaaa
open Go.RowKit Go.Shelf
set_option maxRecDepth 100000

theorem giveSO_wrong {S : StL} {p : Pt} {z : Nat} (h : wrongPO S p = z) (hz : z ≠ 0) : giveSO S p = (st0, z) := by
  unfold wrongPO at h
  unfold giveSO
  split at h
  · rw [if_pos (by assumption)]
    split at h
    · rw [if_pos (.inl (by assumption)), ← h]
    · exact absurd h.symm hz
  · rw [if_neg (by assumption), ← h]
end Go.Proofs.Ytdpmdlibgabjaaa
/-
  Store's own: Same, New; with Lay, Raw, Seal, Look, Open, Give, Twin, Check all that layer 13 tells.
-/
namespace Go.Proofs.Ytdpmdlibgabjaaa
open Go.RowKit Go.Shelf
set_option maxRecDepth 100000

set_option maxHeartbeats 1000000 in
theorem stNew_any (w : World) : Calls Try.prog 9 #[] w (NewS newS w) := by
  have xb := Blk.new w 30 stZ
  have b0 := (Below.refl w.heap.size w).alloc (Nat.le_refl _) (.cells stZ 30)
  obtain ⟨w0, hw0⟩ : ∃ w0, w.alloc (.cells stZ 30) = w0 := ⟨_, rfl⟩
  rw [hw0] at xb b0
  obtain ⟨g, hg⟩ : ∃ g, w.heap.size = g := ⟨_, rfl⟩
  rw [hg] at xb b0
  have HG := Lib.hid hg
  have HX := Lib.hid xb
  have HB := Lib.hid b0
  have HW := Lib.hid (show g ≤ w0.heap.size by rw [← hg]; rw [← hw0, World.size_alloc]; omega)
  have HN := Lib.hid (dNew_any w0)
  simp only [stZ] at hw0
  clear xb b0
  go_enter Try.func9, Try.ntmps9
  go_wp2_with fail
  refine HN.out.mono ?_
  rintro e w1 ⟨y, rfl, hd, b1⟩
  replace HX := Lib.hid (HX.out.below b1 HX.out.lt)
  replace HB := Lib.hid (HB.out.trans (b1.mono HW.out))
  have HD := Lib.hid (show OutD w1 w0.heap.size y newD from .inr hd)
  have HW1 := Lib.hid (Nat.le_trans HW.out b1.size)
  clear hd b1 HN hw0
  simp only [dval, show newD.1.length = 256 from newD_len, show newD.2.length = 0 from rfl]
  have HN2 := Lib.hid (spNew_any w1)
  go_wp2_with fail
  refine HN2.out.mono ?_
  rintro e w2 ⟨v, rfl, ho, b2⟩
  obtain ⟨a, c, rfl⟩ := own_slice ho
  have x2 := HX.out.below b2 HX.out.lt
  have HD2 := Lib.hid (HD.out.below b2)
  have HO2 := Lib.hid (own_mono ho HW1.out)
  have HB2 := Lib.hid (HB.out.trans (b2.mono HW1.out))
  have d0 := stZ0 x2
  have d1 := stZ1 x2
  have d2 := stZ2 x2
  have d3 := stZ3 x2
  have d4 := stZ4 x2
  have hfz := fun i => x2.frozen i
  have HX2 := Lib.hid x2
  clear b2 ho HX HB HD x2
  go_wp2_with fail
  clear d0 d1 d2 d3 d4 hfz
  obtain ⟨xf, kf, bf⟩ := box_five (L := 0) HX2.out (by decide) (Nat.zero_le _) HB2.out (Nat.le_refl _) (.slice y.ba 256 y.bc) (.slice y.wa 0 y.wc) (.slice a 256 c) (.int .u32 1) (.int .u32 0)
  obtain ⟨wf, hwf⟩ : ∃ wf, set5 w2 g (.slice y.ba 256 y.bc) (.slice y.wa 0 y.wc) (.slice a 256 c) (.int .u32 1) (.int .u32 0) = wf := ⟨_, rfl⟩
  rw [hwf] at xf kf bf
  simp only [set5] at hwf
  rw [hwf]
  have e0 := bx0 xf
  have e1 := bx1 xf
  have e2 := bx2 xf
  have e3 := bx3 xf
  have e4 := bx4 xf
  refine bodyPost_ret (v := .agg #[.slice y.ba 256 y.bc, .slice y.wa 0 y.wc, .slice a 256 c, .int .u32 1, .int .u32 0]) (by simp [results, Try.f9, go_sem, e0, e1, e2, e3, e4]) rfl ?_
  have hn := newS_of (B'' := w.heap.size) HD2.out HO2.out (newTo_length (show 12 ≤ 256 by omega)) kf kf (by rw [HG.out]; exact HW.out) (by rw [HG.out]; exact Nat.le_refl _) 1 0
  refine ⟨⟨y, a, c⟩, ?_, hn.1, hn.2, by rw [HG.out]; exact bf⟩
  simp only [stV, show newD.1.length = 256 from newD_len, show newD.2.length = 0 from rfl, newTo_length (show 12 ≤ 256 by omega)]
  rfl
end Go.Proofs.Ytdpmdlibgabjaaa
/-
  What layer 13's statements call beside store: alive.
-/
namespace Go.Proofs.Ytdpmdlibgabjaaa
open Go.RowKit Go.Shelf
set_option maxRecDepth 100000

theorem wf_sealP {S : StL} (h : MayS S) (hc : S.2.2.2 < 65535) {k birth : Nat} (hk : k < 256) (hb : birth ≤ 16777215) (key b : List UInt8) : WfP (sealP S k birth key b) :=
  ⟨⟨by show -9223372036854775808 ≤ (k : Int); omega, by show (k : Int) ≤ 9223372036854775807; omega⟩, by show birth < _; omega, (ivS_lt h hc).1, (sealW key (ivS S) (turnW' key (ivS S) b)).isLt, sumOf_lt _⟩
theorem wf_putP {k birth iv tag : Nat} (hk : k < 256) (hb : birth ≤ 16777215) (hi : iv < 4294967296) (ht : tag < 4294967296) (b : List UInt8) : WfP ((k : Int), birth, iv, tag, sumOf b) :=
  ⟨⟨by show -9223372036854775808 ≤ (k : Int); omega, by show (k : Int) ≤ 9223372036854775807; omega⟩, by show birth < _; omega, hi, ht, sumOf_lt _⟩
theorem seal_new {key b : List UInt8} (hk : key.length = 16) (hb : b.length = 256) : sealO newS 1 key b = (sealAt newS 12 key b, sealP newS 12 1 key b, 0) := by
  have hm := newS_may
  obtain ⟨r, hr⟩ := newS_free
  unfold sealO
  rw [if_pos hm, if_pos (by omega), if_pos ⟨hk, hb⟩]
  unfold sealedO
  rw [if_neg (by show ¬ 65535 ≤ 0; omega), putS_some (S := (newS.1, newS.2.1, newS.2.2.1, newS.2.2.2 + 1)) (k := 12) (by omega) (free_first hr).2.1 (free_first hr).2.2 (by show 0 < 4096; omega)]
  rfl
set_option maxHeartbeats 4000000 in
theorem stAlive_any (w : World) : Calls Try.prog 7 #[] w fun e w' => e = .returned (.bool true) ∧ Below w.heap.size w w' := by
  have hmx : Try.prog.follows Departure.mixedOrders = true := by kernel_rfl
  obtain ⟨Z, hZ⟩ : ∃ Z, List.replicate 256 (0 : UInt8) = Z := ⟨_, rfl⟩
  obtain ⟨K, hK⟩ : ∃ K, List.replicate 16 (0 : UInt8) = K := ⟨_, rfl⟩
  have hzl : Z.length = 256 := by rw [← hZ]; exact List.length_replicate ..
  have hkl : K.length = 16 := by rw [← hK]; exact List.length_replicate ..
  have HZL := Lib.hid hzl
  have HKL := Lib.hid hkl
  have HZ := Lib.hid hZ
  have HK := Lib.hid hK
  obtain ⟨T, hT⟩ : ∃ T, sealAt newS 12 K Z = T := ⟨_, rfl⟩
  obtain ⟨P, hP⟩ : ∃ P, sealP newS 12 1 K Z = P := ⟨_, rfl⟩
  have hso : sealO newS 1 K Z = (T, P, 0) := by rw [seal_new hkl hzl, hT, hP]
  have hop : openO T P K = (Z, 0) := by rw [← hT, ← hP]; exact open_sealed newS_may (by show 0 < 65535; omega) (by omega) (by omega) hkl hzl (by show 0 < 4096; omega)
  have hmT : MayS T := by rw [← hT]; exact sealAt_may newS_may (by show 0 < 65535; omega) (by omega) hzl (by show 0 < 4096; omega) K
  have hwP : WfP P := by rw [← hP]; exact wf_sealP newS_may (by show 0 < 65535; omega) (by omega) (by omega) K Z
  have hcT : T.2.2.2 = 1 := by rw [← hT]
  have hpa : P.1 = 12 := by rw [← hP]; rfl
  have hpi : P.2.2.1 = 65537 := by rw [← hP]; rfl
  have HSO := Lib.hid hso
  have HOP := Lib.hid hop
  have HMT := Lib.hid hmT
  have HWP := Lib.hid hwP
  have HCT := Lib.hid hcT
  have HPA := Lib.hid hpa
  have HPI := Lib.hid hpi
  clear hZ hK hzl hkl hT hP hso hop hmT hwP hcT hpa hpi
  go_enter Try.func7, Try.ntmps7
  go_wp2_with fail
  go_cut [1, 2] from 8 to 10 (fun u v wx => (∃ Az, u = .slice Az 256 256 ∧ Bsl wx wx.heap.size Az 256 256 Z) ∧ (∃ Ak, v = .slice Ak 16 16 ∧ Bsl wx wx.heap.size Ak 16 16 K) ∧ Below w.heap.size w wx)
  case first =>
    obtain ⟨wd, hwd⟩ : ∃ wd, w.drew = wd := ⟨_, rfl⟩
    have hbwd : Below w.heap.size w wd := by rw [← hwd]; exact (Below.refl _ _).drew
    refine wpI_start (fun X => Below w.heap.size w X) [0, 1, 2, 3] hmx rfl hwd ?_
    clear hwd
    have mz : ∀ W : World, (Instr.makeSlice 23 (.int .i64 256) (.int .i64 256)).run Try.prog W = .ok (.slice (some ⟨W.heap.size, 0, none⟩) 256 256) (W.alloc (.cells (Array.replicate 256 (.int .u8 0)) 5)) := fun W => make_noughts 256 (by omega) W
    have mk_ : ∀ W : World, (Instr.makeSlice 23 (.int .i64 16) (.int .i64 16)).run Try.prog W = .ok (.slice (some ⟨W.heap.size, 0, none⟩) 16 16) (W.alloc (.cells (Array.replicate 16 (.int .u8 0)) 5)) := fun W => make_noughts 16 (by omega) W
    refine wpI_fork rfl rfl (by kernel_rfl) (fun K' hK' => ?_) (fun K' hK' => ?_)
    · go_simp
      refine hK' _ _ (hbwd.trans (((Below.refl _ wd).alloc (Nat.le_refl _) _).mono hbwd.size)) ?_
      have xz := noughts_bsl 256 (by omega) wd
      rw [HZ.out] at xz
      have hbwa := hbwd.trans (((Below.refl _ wd).alloc (Nat.le_refl _) (.cells (Array.replicate 256 (.int .u8 0)) 5)).mono hbwd.size)
      have bswa := (Below.refl wd.heap.size wd).alloc (Nat.le_refl _) (.cells (Array.replicate 256 (.int .u8 0)) 5)
      obtain ⟨wa, hwa⟩ : ∃ X, wd.alloc (.cells (Array.replicate 256 (.int .u8 0)) 5) = X := ⟨_, rfl⟩
      rw [hwa] at xz hbwa bswa ⊢
      clear hwa hK' K'
      try simp only [Act.put, List.setIfInBounds_toArray, List.set_cons_zero, List.set_cons_succ]
      refine wpI_turn [2, 1, 3] rfl ?_
      refine wpI_read (v := ?_) hbwa rfl (by kernel_rfl) (by kernel_rfl) (by kernel_rfl) (fun _ _ _ h => h) (.inl ⟨by rfl, ?_⟩) ?_
      rotate_left
      · intro X hX
        clear hX
        go_simp
        with_reducible rfl
      try simp only [Act.put, List.setIfInBounds_toArray, List.set_cons_zero, List.set_cons_succ]
      refine wpI_lone rfl (by kernel_rfl) (fun K' hK' => ?_)
      go_simp
      refine hK' _ _ (hbwa.trans (((Below.refl _ wa).alloc (Nat.le_refl _) _).mono hbwa.size)) ?_
      have xk := noughts_bsl 16 (by omega) wa
      rw [HK.out] at xk
      have hbwb := hbwa.trans (((Below.refl _ wa).alloc (Nat.le_refl _) (.cells (Array.replicate 16 (.int .u8 0)) 5)).mono hbwa.size)
      have bswb := (Below.refl wa.heap.size wa).alloc (Nat.le_refl _) (.cells (Array.replicate 16 (.int .u8 0)) 5)
      obtain ⟨wb, hwb⟩ : ∃ X, wa.alloc (.cells (Array.replicate 16 (.int .u8 0)) 5) = X := ⟨_, rfl⟩
      rw [hwb] at xk hbwb bswb ⊢
      clear hwb hK' K'
      try simp only [Act.put, List.setIfInBounds_toArray, List.set_cons_zero, List.set_cons_succ]
      replace xz := xz.step bswb
      refine wpI_read (v := ?_) hbwb rfl (by kernel_rfl) (by kernel_rfl) (by kernel_rfl) (fun _ _ _ h => h) (.inl ⟨by rfl, ?_⟩) ?_
      rotate_left
      · intro X hX
        clear hX
        go_simp
        with_reducible rfl
      try simp only [Act.put, List.setIfInBounds_toArray, List.set_cons_zero, List.set_cons_succ]
      refine wpI_done (by kernel_rfl) ?_
      go_wp2_with fail
      go_meet
      exact ⟨⟨_, rfl, xz⟩, ⟨_, rfl, xk⟩, hbwb⟩
    · go_simp
      refine hK' _ _ (hbwd.trans (((Below.refl _ wd).alloc (Nat.le_refl _) _).mono hbwd.size)) ?_
      have xk := noughts_bsl 16 (by omega) wd
      rw [HK.out] at xk
      have hbwa := hbwd.trans (((Below.refl _ wd).alloc (Nat.le_refl _) (.cells (Array.replicate 16 (.int .u8 0)) 5)).mono hbwd.size)
      have bswa := (Below.refl wd.heap.size wd).alloc (Nat.le_refl _) (.cells (Array.replicate 16 (.int .u8 0)) 5)
      obtain ⟨wa, hwa⟩ : ∃ X, wd.alloc (.cells (Array.replicate 16 (.int .u8 0)) 5) = X := ⟨_, rfl⟩
      rw [hwa] at xk hbwa bswa ⊢
      clear hwa hK' K'
      try simp only [Act.put, List.setIfInBounds_toArray, List.set_cons_zero, List.set_cons_succ]
      refine wpI_lone rfl (by kernel_rfl) (fun K' hK' => ?_)
      go_simp
      refine hK' _ _ (hbwa.trans (((Below.refl _ wa).alloc (Nat.le_refl _) _).mono hbwa.size)) ?_
      have xz := noughts_bsl 256 (by omega) wa
      rw [HZ.out] at xz
      have hbwb := hbwa.trans (((Below.refl _ wa).alloc (Nat.le_refl _) (.cells (Array.replicate 256 (.int .u8 0)) 5)).mono hbwa.size)
      have bswb := (Below.refl wa.heap.size wa).alloc (Nat.le_refl _) (.cells (Array.replicate 256 (.int .u8 0)) 5)
      obtain ⟨wb, hwb⟩ : ∃ X, wa.alloc (.cells (Array.replicate 256 (.int .u8 0)) 5) = X := ⟨_, rfl⟩
      rw [hwb] at xz hbwb bswb ⊢
      clear hwb hK' K'
      try simp only [Act.put, List.setIfInBounds_toArray, List.set_cons_zero, List.set_cons_succ]
      replace xk := xk.step bswb
      iterate 2 (
        refine wpI_read (v := ?_) hbwb rfl (by kernel_rfl) (by kernel_rfl) (by kernel_rfl) (fun _ _ _ h => h) (.inl ⟨by rfl, ?_⟩) ?_
        rotate_left
        · intro X hX
          clear hX
          go_simp
          with_reducible rfl
        try simp only [Act.put, List.setIfInBounds_toArray, List.set_cons_zero, List.set_cons_succ])
      refine wpI_done (by kernel_rfl) ?_
      go_wp2_with fail
      go_meet
      exact ⟨⟨_, rfl, xz⟩, ⟨_, rfl, xk⟩, hbwb⟩
  obtain ⟨⟨Az, rfl, hz⟩, ⟨Ak, rfl, hk⟩, hb⟩ := hcut
  have HZB := Lib.hid hz
  have HKB := Lib.hid hk
  have HB := Lib.hid hb
  clear hz hk hb
  rename World => wc
  go_wp2_with fail
  refine (stNew_any wc).mono ?_
  rintro e w2 ⟨y, rfl, h0, _, b2⟩
  replace HZB := Lib.hid (HZB.out.step b2)
  replace HKB := Lib.hid (HKB.out.step b2)
  replace HB := Lib.hid (HB.out.trans (b2.mono HB.out.size))
  have HS := Lib.hid (stSeal_any 0 y newS 1 Ak 16 K Az 256 Z w2 h0 (by rw [HKL.out]; exact HKB.out) (by rw [HZL.out]; exact HZB.out) newS_may.ok (Nat.zero_le _) (by omega))
  rw [HSO.out, HKL.out, HZL.out] at HS
  clear h0 b2
  go_wp2_with fail
  refine HS.out.mono ?_
  rintro e w3 ⟨y3, rfl, ht, _, b3⟩
  replace HZB := Lib.hid (HZB.out.step b3)
  replace HKB := Lib.hid (HKB.out.step b3)
  replace HB := Lib.hid (HB.out.trans (b3.mono HB.out.size))
  obtain ⟨pa, pb, pi, pt, ps⟩ := P
  have H3 := Lib.hid (two_al w3 (stC y3 T) #[.int .i64 pa, .int .u32 (pb : Int), .int .u32 (pi : Int), .int .u32 (pt : Int), .int .u32 (ps : Int)] 30 32)
  have HT := Lib.hid ht
  clear b3 ht HS
  obtain ⟨_, rfl, b4, z4, xS, xP⟩ := H3.out
  have d0 := bx0 xS
  have d1 := bx1 xS
  have d2 := bx2 xS
  have d3 := bx3 xS
  have d4 := bx4 xS
  have q0 := bx0 xP
  have q1 := bx1 xP
  have q2 := bx2 xP
  have q3 := bx3 xP
  have q4 := bx4 xP
  clear b4 z4 xS xP
  go_wp2_with fail
  clear d0 d1 d2 d3 d4 q0 q1 q2 q3 q4
  obtain ⟨w4, hw4, b4, z4, xS, xP⟩ := H3.out
  simp only [stC] at hw4
  rw [hw4]
  have HX := Lib.hid xS
  have HP := Lib.hid xP
  replace HZB := Lib.hid (HZB.out.step b4)
  replace HKB := Lib.hid (HKB.out.step b4)
  replace HB := Lib.hid (HB.out.trans (b4.mono HB.out.size))
  have ho4 := stOpen_any 0 y3 T (pa, pb, pi, pt, ps) Ak 16 K w4 (HT.out.bel b4) (by rw [HKL.out]; exact HKB.out) HMT.out.ok HWP.out (Nat.zero_le _)
  rw [HOP.out, HKL.out] at ho4
  clear xS xP b4 z4 hw4 H3 HT
  refine ho4.mono ?_
  rintro e w5 ⟨v, rfl, ho, b5⟩
  clear ho4
  rw [show ((Z, 0) : List UInt8 × Nat).1.length = 256 from HZL.out] at ho
  obtain ⟨gv, cv, rfl⟩ := own_at ho (by omega)
  have k1 := (own_bsl ho).conv
  have k2 := (HZB.out.step b5).conv
  have k3 : ((strOf Z).toList == (strOf Z).toList) = true := by simp
  have hx := HX.out.below b5 HX.out.lt
  have hp := HP.out.below b5 HP.out.lt
  have d4 := bx4 hx
  have q0 := bx0 hp
  have q2 := bx2 hp
  rw [HCT.out] at d4
  have e0 : pa = 12 := HPA.out
  have e2 : pi = 65537 := HPI.out
  subst e0 e2
  replace HB := Lib.hid (HB.out.trans (b5.mono HB.out.size))
  clear ho b5 hx hp
  go_wp2_with fail
  go_ret
  exact ⟨rfl, HB.out⟩
end Go.Proofs.Ytdpmdlibgabjaaa
/-
  The document's own Give of layer 13.
-/
namespace Go.Proofs.Ytdpmdlibgabjaaa
open Go.RowKit Go.Shelf
set_option maxRecDepth 100000

theorem outSE_no (L c : Nat) {w w' : World} (hb : Below w.heap.size w w') : OutSE L (st0, c) w (.returned (.tuple #[.agg #[.slice none 0 0, .slice none 0 0, .slice none 0 0, .int .u32 0, .int .u32 0], .int .i64 c])) w' := ⟨at0, rfl, st0_lasts L w', hb⟩
end Go.Proofs.Ytdpmdlibgabjaaa
/-
  What layer 13's comparing statements need: how long the answers' lists are; stores that came in where blocks above them are written.
-/
namespace Go.Proofs.Ytdpmdlibgabjaaa
open Go.RowKit Go.Shelf
set_option maxRecDepth 100000

theorem Str.below {w w' : World} {B : Nat} {x : SAt} {S : StL} (h : Str w B x S) (k : Below B w w') : Str w' B x S := ⟨⟨h.1.1.below k, h.1.2.below k⟩, h.2.below k⟩
/-- No list of a store is long. -/
def FewS (T : StL) : Prop := T.1.1.length ≤ 1000000 ∧ T.1.2.length ≤ 1000000 ∧ T.2.1.length ≤ 1000000
theorem few_st0 : FewS st0 := ⟨Nat.zero_le _, Nat.zero_le _, Nat.zero_le _⟩
theorem few_may {T : StL} (h : MayS T) : FewS T := ⟨by rw [h.1.1.1]; omega, Nat.le_trans h.1.2.1 (by omega), by rw [h.2.1.1]; omega⟩
theorem raw_small (S : StL) (birth iv tag : Nat) (b : List UInt8) : FewS (rawO S birth iv tag b).1 := by
  rcases rawO_cases S birth iv tag b with ⟨e, h, _⟩ | ⟨k, r, hm, _, hb, hk, _, hw, _, h⟩
  · rw [h]; exact few_st0
  · rw [h]; exact few_may (putAt_may hm hk hb hw)
theorem seal_small (S : StL) (birth : Nat) (key b : List UInt8) : FewS (sealO S birth key b).1 := by
  rcases sealO_cases S birth key b with ⟨e, h, _⟩ | ⟨k, r, hm, _, _, hb, hc, hk, _, hw, _, h⟩
  · rw [h]; exact few_st0
  · rw [h]; exact few_may (sealAt_may hm hc hk hb hw key)
theorem give_small (S : StL) (p : Pt) : FewS (giveSO S p).1 := by
  rcases giveSO_cases S p with ⟨e, h, _⟩ | ⟨k, hm, _, _, _, hk, _, h⟩
  · rw [h]; exact few_st0
  · rw [h]; exact few_may (giveAt_may hm hk)
theorem eqP_lit (a : Int) (b c d e : Nat) (W : World) : (Op.equalIn 10000 32 (.agg #[.int .i64 a, .int .u32 (b : Int), .int .u32 (c : Int), .int .u32 (d : Int), .int .u32 (e : Int)]) (.agg #[.int .i64 a, .int .u32 (b : Int), .int .u32 (c : Int), .int .u32 (d : Int), .int .u32 (e : Int)])).run Try.prog W = .ok true W := by
  have := eqPt_lit a b c d e a b c d e W
  rw [(eqP_iff _ _).2 rfl] at this
  exact this
theorem lookO_few {S : StL} {p : Pt} {b : List UInt8} {e : Nat} (_h : OkS S) (k : lookO S p = (b, e)) : b.length ≤ 256 := by
  unfold lookO at k
  split at k
  · rename_i hm
    unfold seenO at k
    split at k
    · cases k; exact Nat.zero_le _
    · rename_i hp
      obtain ⟨j, h1, _, h2⟩ := mayP_at hm.2 hp
      split at k
      · cases k
        rw [show p.1.toNat = j by omega]
        exact Nat.le_of_eq (leftD_length hm.1.1 _ h2)
      · cases k; exact Nat.zero_le _
  · cases k; exact Nat.zero_le _
theorem own_ge {w : World} {B n c g : Nat} {s : List UInt8} (h : w.ownsRow B 5 1 (.slice (some ⟨g, 0, none⟩) n c) n (vals s)) (_hn : 0 < n) : B ≤ g := (own_lt h).1
end Go.Proofs.Ytdpmdlibgabjaaa
/-
  What a disk that came in by value is; what a slice of marks that came in is.
-/
namespace Go.Proofs.Ytdpmdlibgabjaaa
open Go.RowKit Go.Shelf Go.Joins Go.ChangeShapes Go.WideShapes Go.ChangeAt
set_option maxRecDepth 100000

theorem cellsDisk : Try.prog.cellsOf 27 = 2 := by kernel_rfl
theorem weights_of {H : Type} {P : Program} {e : TypeId} {d : DataW H} {n : Nat} (hn : n ∈ d.weights P e) : ∀ {l : List (DataW H)}, d ∈ l → n ∈ DataW.weightsAll P e l
  | [], h => by cases h
  | x :: l, h => by
    unfold DataW.weightsAll
    rcases List.mem_cons.1 h with rfl | h
    · exact List.mem_append_left _ hn
    · exact List.mem_append_right _ (weights_of hn h)
/-- A slice of bytes that came in, and how long it may be. -/
theorem open_piece {H : Type} {enc : TypeId × Value → H} {W : World} {fuel : Nat} {v : Value} {y : DataW H × List MemPlace} (hf : DataW.trod enc Try.prog W 0 (fun _ => true) true fuel 23 [v] = some y) :
    ∃ a len cap s, v = .slice a len cap ∧ Bsl W W.heap.size a len cap s ∧ ((∀ n ∈ y.1.weights Try.prog 23, n ≤ reachBytes) → s.length ≤ reachBytes) := by
  have hb : Try.prog.bytesOf 5 = 1 := by kernel_rfl
  rcases open_ints Try.underlying23 Try.underlying5 (by kernel_rfl) hf with ⟨hcs, rfl⟩ | ⟨x, l, c, zs, hcs, _, hl, hm, hz, rfl, hcell, hwz⟩
  · obtain rfl : v = .slice none 0 0 := by simpa using hcs
    exact ⟨none, 0, 0, _, rfl, bsl_of_row (.inl ⟨rfl, rfl, rfl, rfl⟩), fun _ => Nat.zero_le _⟩
  · obtain rfl : v = .slice (some x) l c := by simpa using hcs
    have hz' : zs.length = c := by simpa using hz
    refine ⟨_, l, c, _, rfl, bsl_of_row (.inr ⟨x, rfl, hl, hm, hz', hcell, hwz⟩), fun hw => ?_⟩
    have := hw ((lits (H := H) .u8 (zs.take l)).length + (lits (H := H) .u8 (zs.drop l)).length) (by
      simp only [DataW.weights, Try.underlying23, hb, Nat.mul_one]
      exact List.mem_cons_self ..)
    simp only [lits, List.length_map, List.length_take, List.length_drop] at this ⊢
    omega
/-- A slice of slices of bytes that came in. -/
theorem open_blocks {H : Type} {enc : TypeId × Value → H} {W : World} {fuel : Nat} {v : Value} {y : DataW H × List MemPlace} (hf : DataW.trod enc Try.prog W 0 (fun _ => true) true fuel 24 [v] = some y) :
    ∃ a len cap bl, v = .slice a len cap ∧ Bls W W.heap.size a len cap bl ∧ ((∀ n ∈ y.1.weights Try.prog 24, n ≤ reachBytes) → ∀ i, i < bl.length → (bl.getD i []).length ≤ reachBytes) := by
  rcases Go.Deep.open_slice1 Try.underlying24 (by kernel_rfl) hf with ⟨hcs, rfl⟩ | ⟨x, len, cap, m, n, V, D, Pl, hcs, _, hl, hm, hmm, rfl, hr⟩
  · obtain rfl : v = .slice none 0 0 := by simpa using hcs
    exact ⟨none, 0, 0, [], rfl, bls_nil _ _, fun _ i hi => absurd hi (Nat.not_lt_zero _)⟩
  · obtain rfl : v = .slice (some x) len cap := by simpa using hcs
    obtain ⟨A, L, C, s, hs⟩ : ∃ (A : Nat → Option Addr) (L C : Nat → Nat) (s : Nat → List UInt8), ∀ i, i < len → V i = .slice (A i) (L i) (C i) ∧ Bsl W W.heap.size (A i) (L i) (C i) (s i) ∧ ((∀ n ∈ (D i).weights Try.prog 23, n ≤ reachBytes) → (s i).length ≤ reachBytes) := by
      have : ∀ i, ∃ q : Option Addr × Nat × Nat × List UInt8, i < len → V i = .slice q.1 q.2.1 q.2.2.1 ∧ Bsl W W.heap.size q.1 q.2.1 q.2.2.1 q.2.2.2 ∧ ((∀ n ∈ (D i).weights Try.prog 23, n ≤ reachBytes) → q.2.2.2.length ≤ reachBytes) := fun i => by
        by_cases hi : i < len
        · obtain ⟨a, l, c, s, h1, h2, h3⟩ := open_piece (hr i (by simp only [if_true] at hmm; omega)).2
          exact ⟨(a, l, c, s), fun _ => ⟨h1, h2, h3⟩⟩
        · exact ⟨(none, 0, 0, []), fun h => absurd h hi⟩
      exact ⟨fun i => (this i).choose.1, fun i => (this i).choose.2.1, fun i => (this i).choose.2.2.1, fun i => (this i).choose.2.2.2, fun i hi => (this i).choose_spec hi⟩
    have hg : ∀ i, i < len → ((List.range len).map s).getD i [] = s i := fun i hi => by simp [List.getD_eq_getElem?_getD, hi]
    refine ⟨_, len, cap, (List.range len).map s, rfl, ⟨by simp, hl, hm, fun h0 => ?_⟩, fun hw i hi => ?_⟩
    · obtain ⟨b, off, spot⟩ := x
      have h00 := (hr 0 (by simp only [if_true] at hmm; omega)).1
      have hspot : spot = none := by simpa [Addr.add] using World.cell?_spot h00
      subst hspot
      have hadd : ∀ i, (⟨b, off, none⟩ : Addr).add i = ⟨b, off + i, none⟩ := fun i => by unfold Addr.add; split <;> simp_all
      refine ⟨b, off, rfl, ?_, fun i hi => ?_⟩
      · rw [hadd] at h00
        exact World.block_lt_of_cell? W _ h00
      · have h1 := (hr i (by simp only [if_true] at hmm; omega)).1
        obtain ⟨e1, e2, _⟩ := hs i hi
        rw [hadd, e1] at h1
        rw [hg i hi, e2.1]
        exact ⟨A i, C i, h1, e2⟩
    · have hi' : i < len := by simpa using hi
      rw [hg i hi']
      refine (hs i hi').2.2 fun n hn => hw n ?_
      simp only [DataW.weights, Try.underlying24]
      exact List.mem_cons_of_mem _ (List.mem_append_left _ (weights_of hn (List.mem_map.2 ⟨i, List.mem_range.2 hi', rfl⟩)))
/-- A slice of writes that came in. -/
theorem open_writes {H : Type} {enc : TypeId × Value → H} {W : World} {fuel : Nat} {v : Value} {y : DataW H × List MemPlace} (hf : DataW.trod enc Try.prog W 0 (fun _ => true) true fuel 25 [v] = some y) :
    ∃ a len cap ws, v = .slice a len cap ∧ Wts W W.heap.size a len cap ws ∧ ((∀ n ∈ y.1.weights Try.prog 25, n ≤ reachBytes) → ∀ i, i < ws.length → (wr_ ws i).2.length ≤ reachBytes) := by
  rcases Go.Deep.open_slice_pairs Try.underlying25 Try.underlying87 (by kernel_rfl) rfl rfl (by kernel_rfl) (by kernel_rfl) hf with ⟨hcs, rfl⟩ | ⟨x, len, cap, m, n, V0, V1, D0, D1, P0, P1, hcs, _, hl, hm, hmm, rfl, hr⟩
  · obtain rfl : v = .slice none 0 0 := by simpa using hcs
    exact ⟨none, 0, 0, [], rfl, wts_nil _ _, fun _ i hi => absurd hi (Nat.not_lt_zero _)⟩
  · obtain rfl : v = .slice (some x) len cap := by simpa using hcs
    obtain ⟨A, L, C, s, p, hs⟩ : ∃ (A : Nat → Option Addr) (L C : Nat → Nat) (s : Nat → List UInt8) (p : Nat → Int), ∀ i, i < len → V1 i = .slice (A i) (L i) (C i) ∧ Bsl W W.heap.size (A i) (L i) (C i) (s i) ∧ ((∀ n ∈ (D1 i).weights Try.prog 23, n ≤ reachBytes) → (s i).length ≤ reachBytes) ∧ V0 i = .int .i64 (p i) ∧ (Lit.int .i64 (p i)).wf = true := by
      have : ∀ i, ∃ q : Option Addr × Nat × Nat × List UInt8 × Int, i < len → V1 i = .slice q.1 q.2.1 q.2.2.1 ∧ Bsl W W.heap.size q.1 q.2.1 q.2.2.1 q.2.2.2.1 ∧ ((∀ n ∈ (D1 i).weights Try.prog 23, n ≤ reachBytes) → q.2.2.2.1.length ≤ reachBytes) ∧ V0 i = .int .i64 q.2.2.2.2 ∧ (Lit.int .i64 q.2.2.2.2).wf = true := fun i => by
        by_cases hi : i < len
        · obtain ⟨_, _, h3, h4⟩ := hr i (by simp only [if_true] at hmm; omega)
          obtain ⟨a, l, c, s, h5, h6, h7⟩ := open_piece h4
          obtain ⟨p, e1, _, wn⟩ := DataW.trod_int Try.underlying3 h3
          exact ⟨(a, l, c, s, p), fun _ => ⟨h5, h6, h7, by simpa using e1, wn⟩⟩
        · exact ⟨(none, 0, 0, [], 0), fun h => absurd h hi⟩
      exact ⟨fun i => (this i).choose.1, fun i => (this i).choose.2.1, fun i => (this i).choose.2.2.1, fun i => (this i).choose.2.2.2.1, fun i => (this i).choose.2.2.2.2, fun i hi => (this i).choose_spec hi⟩
    have hg : ∀ i, i < len → wr_ ((List.range len).map fun i => (p i, s i)) i = (p i, s i) := fun i hi => by simp [wr_, List.getD_eq_getElem?_getD, hi]
    refine ⟨_, len, cap, (List.range len).map fun i => (p i, s i), rfl, ⟨by simp, hl, hm, fun h0 => ?_⟩, fun hw i hi => ?_⟩
    · obtain ⟨b, off, spot⟩ := x
      have h00 := (hr 0 (by simp only [if_true] at hmm; omega)).1
      have hspot : spot = none := by simpa [Addr.add] using World.cell?_spot h00
      subst hspot
      have hadd : ∀ i, (⟨b, off, none⟩ : Addr).add i = ⟨b, off + i, none⟩ := fun i => by unfold Addr.add; split <;> simp_all
      refine ⟨b, off, rfl, ?_, fun i hi => ?_⟩
      · rw [hadd] at h00
        exact World.block_lt_of_cell? W _ h00
      · obtain ⟨h1, h2, _⟩ := hr i (by simp only [if_true] at hmm; omega)
        obtain ⟨e1, e2, _, e3, e4⟩ := hs i hi
        rw [hadd, e3] at h1
        rw [hadd, e1, ← Nat.add_assoc] at h2
        rw [hg i hi]
        refine ⟨e4, h1, A i, C i, ?_, ?_⟩
        · show _ = some (Value.slice (A i) (s i).length (C i))
          rw [e2.1]
          exact h2
        · show Bsl _ _ _ (s i).length _ _
          rw [e2.1]
          exact e2
    · have hi' : i < len := by simpa using hi
      rw [hg i hi']
      refine (hs i hi').2.2.1 fun n hn => hw n ?_
      simp only [DataW.weights, Try.underlying25]
      refine List.mem_cons_of_mem _ (List.mem_append_left _ (weights_of (d := .agg [D0 i, D1 i]) ?_ (List.mem_map.2 ⟨i, List.mem_range.2 hi', rfl⟩)))
      simp only [DataW.weights, Try.underlying87]
      simp only [DataW.weightsEach, List.map_cons, List.map_nil]
      exact List.mem_append_right _ (List.mem_append_left _ hn)
/-- A disk that came in by value. -/
theorem open_disk {H : Type} {enc : TypeId × Value → H} {W : World} {r : Go.Reach} {b0 : Nat} {v : Value} {d : DataW H} {p : List MemPlace} (hv : Value.okWide Try.prog W r b0 27 v) (h : DataW.Trod enc Try.prog W 0 (fun _ => true) true 27 v d p)
    (hw : ∀ n ∈ d.weights Try.prog 27, n ≤ reachBytes) : ∃ x D, v = dval x D ∧ Dsk W W.heap.size x D ∧ Near D := by
  obtain ⟨v0, v1, y0, y1, m, rfl, rfl, rfl, h0, h1⟩ := open_agg2 Try.underlying27 (by kernel_rfl) cellsDisk hv h
  obtain ⟨ba, bn, bc, bl, rfl, hb, hb2⟩ := open_blocks h0
  obtain ⟨wa, wn, wc, ws, rfl, hs, hs2⟩ := open_writes h1
  have hwt : ∀ n, n ∈ y0.1.weights Try.prog 24 ∨ n ∈ y1.1.weights Try.prog 25 → n ≤ reachBytes := fun n hn => hw n (by
    simp only [DataW.weights, Try.underlying27]
    simp only [DataW.weightsEach, List.map_cons, List.map_nil]
    rcases hn with hn | hn
    · exact List.mem_append_left _ hn
    · exact List.mem_append_right _ (List.mem_append_left _ hn))
  obtain rfl := hb.1
  obtain rfl := hs.1
  exact ⟨⟨ba, bc, wa, wc⟩, (bl, ws), rfl, ⟨hb, hs⟩, hb2 fun n hn => hwt n (.inl hn), hs2 fun n hn => hwt n (.inr hn)⟩
/-- A byte that came in. -/
theorem u8_of {b : Int} (h : (Lit.int .u8 b).wf = true) : ∃ v : UInt8, b = (v.toNat : Int) := by
  simp [Lit.wf, IntKind.min, IntKind.max, IntKind.signed, IntKind.bits] at h
  refine ⟨UInt8.ofNat b.toNat, ?_⟩
  rw [UInt8.toNat_ofNat']
  omega
end Go.Proofs.Ytdpmdlibgabjaaa
/-
  What a store that came in by value is.
-/
namespace Go.Proofs.Ytdpmdlibgabjaaa
open Go.RowKit Go.Shelf Go.Joins Go.ChangeShapes Go.WideShapes Go.ChangeAt
set_option maxRecDepth 100000

/-- Two cells that read as a disk are one. -/
theorem disk_of_trod {H : Type} {enc : TypeId × Value → H} {W : World} {fuel : Nat} {cs : List Value} {y : DataW H × List MemPlace} (h : DataW.trod enc Try.prog W 0 (fun _ => true) true fuel 27 cs = some y) :
    ∃ (x : DAt) (D : DkL), cs = [.slice x.ba D.1.length x.bc, .slice x.wa D.2.length x.wc] ∧ Dsk W W.heap.size x D ∧ ((∀ n ∈ y.1.weights Try.prog 27, n ≤ reachBytes) → Near D) := by
  obtain ⟨f0, f1, hu, t0, t1, o0, o1⟩ : ∃ f0 f1 : Field, Try.prog.underlying 27 = some (.struct #[f0, f1]) ∧ f0.type = 24 ∧ f1.type = 25 ∧ f0.offset = 0 ∧ f1.offset = 1 := ⟨_, _, Try.underlying27, rfl, rfl, rfl, rfl⟩
  have cB : Try.prog.cellsOf 24 = 1 := by kernel_rfl
  have cW : Try.prog.cellsOf 25 = 1 := by kernel_rfl
  have cD : Try.prog.cellsOf 27 = 2 := by kernel_rfl
  obtain ⟨xs, k, hk, hxy, hcl, hxl, hf⟩ := DataW.trod_struct hu h
  rw [cD] at hcl
  match xs, hxl, cs, hcl with
  | [y0, y1], _, [v0, v1], _ =>
    have g0 := hf 0 f0 rfl
    have g1 := hf 1 f1 rfl
    simp [t0, t1, o0, o1, cB, cW] at g0 g1
    obtain ⟨ba, bn, bc, bl, rfl, hb, hb2⟩ := open_blocks g0
    obtain ⟨wa, wn, wc, ws, rfl, hs, hs2⟩ := open_writes g1
    obtain rfl := hb.1
    obtain rfl := hs.1
    refine ⟨⟨ba, bc, wa, wc⟩, (bl, ws), rfl, ⟨hb, hs⟩, fun hw => ?_⟩
    have hwt : ∀ n, n ∈ y0.1.weights Try.prog 24 ∨ n ∈ y1.1.weights Try.prog 25 → n ≤ reachBytes := fun n hn => hw n (by
      rw [hxy]
      simp only [List.map_cons, List.map_nil]
      simp only [DataW.weights, Try.underlying27]
      simp only [DataW.weightsEach, List.map_cons, List.map_nil]
      rcases hn with hn | hn
      · exact List.mem_append_left _ hn
      · exact List.mem_append_right _ (List.mem_append_left _ hn))
    exact ⟨hb2 fun n hn => hwt n (.inl hn), hs2 fun n hn => hwt n (.inr hn)⟩
/-- A store that came in by value. -/
theorem open_store {H : Type} {enc : TypeId × Value → H} {W : World} {r : Go.Reach} {b0 : Nat} {v : Value} {d : DataW H} {p : List MemPlace} (hv : Value.okWide Try.prog W r b0 30 v) (h : DataW.Trod enc Try.prog W 0 (fun _ => true) true 30 v d p)
    (hw : ∀ n ∈ d.weights Try.prog 30, n ≤ reachBytes) : ∃ x S, v = stV x S ∧ Str W W.heap.size x S ∧ Near S.1 ∧ WfS S := by
  obtain ⟨f0, f1, f2, f3, hu, t0, t1, t2, t3, o0, o1, o2, o3⟩ : ∃ f0 f1 f2 f3 : Field, Try.prog.underlying 30 = some (.struct #[f0, f1, f2, f3]) ∧ f0.type = 27 ∧ f1.type = 23 ∧ f2.type = 28 ∧ f3.type = 28 ∧ f0.offset = 0 ∧ f1.offset = 2 ∧ f2.offset = 3 ∧ f3.offset = 4 :=
    ⟨_, _, _, _, Try.underlying30, rfl, rfl, rfl, rfl, rfl, rfl, rfl, rfl⟩
  have cS : Try.prog.cellsOf 23 = 1 := by kernel_rfl
  have cU : Try.prog.cellsOf 28 = 1 := by kernel_rfl
  have cD : Try.prog.cellsOf 27 = 2 := by kernel_rfl
  have cT : Try.prog.cellsOf 30 = 5 := by kernel_rfl
  obtain ⟨cs, rfl, hsz⟩ := okWide_struct hu hv
  obtain ⟨fuel, hf⟩ := h
  obtain ⟨xs, k, hk, hxy, hcl, hxl, hg⟩ := DataW.trod_struct hu hf
  rw [cT] at hsz
  obtain ⟨c0, c1, c2, c3, c4, rfl⟩ : ∃ c0 c1 c2 c3 c4, cs = #[c0, c1, c2, c3, c4] := by
    obtain ⟨l⟩ := cs
    match l, hsz with
    | [a, b, c, d, e], _ => exact ⟨a, b, c, d, e, rfl⟩
  match xs, hxl with
  | [y0, y1, y2, y3], _ =>
    have g0 := hg 0 f0 rfl
    have g1 := hg 1 f1 rfl
    have g2 := hg 2 f2 rfl
    have g3 := hg 3 f3 rfl
    simp [t0, t1, t2, t3, o0, o1, o2, o3, cS, cU, cD, Value.cells] at g0 g1 g2 g3
    obtain ⟨x, D, hcs, hd, hn⟩ := disk_of_trod g0
    obtain ⟨a, len, cap, s, rfl, hs, _⟩ := open_piece g1
    obtain ⟨n2, e2, _, w2⟩ := DataW.trod_int Try.underlying28 g2
    obtain ⟨n3, e3, _, w3⟩ := DataW.trod_int Try.underlying28 g3
    have l2 : 0 ≤ n2 ∧ n2 ≤ 4294967295 := by simpa [Lit.wf, IntKind.min, IntKind.max, IntKind.signed, IntKind.bits] using w2
    have l3 : 0 ≤ n3 ∧ n3 ≤ 4294967295 := by simpa [Lit.wf, IntKind.min, IntKind.max, IntKind.signed, IntKind.bits] using w3
    obtain ⟨m2, rfl⟩ := Int.eq_ofNat_of_zero_le l2.1
    obtain ⟨m3, rfl⟩ := Int.eq_ofNat_of_zero_le l3.1
    obtain rfl : c3 = .int .u32 (m2 : Int) := by simpa using e2
    obtain rfl : c4 = .int .u32 (m3 : Int) := by simpa using e3
    obtain rfl := hs.1
    simp only [List.cons.injEq, and_true] at hcs
    obtain ⟨rfl, rfl⟩ := hcs
    refine ⟨⟨x, a, cap⟩, (D, s, m2, m3), rfl, ⟨hd, hs⟩, hn fun n hn' => hw n ?_, ⟨by show m2 < 4294967296; omega, by show m3 < 4294967296; omega⟩⟩
    have hdd : d = .agg [y0.1, y1.1, y2.1, y3.1] := by
      have := hxy
      simp only [Prod.mk.injEq] at this
      simpa using this.1
    rw [hdd]
    simp only [DataW.weights, Try.underlying30]
    simp only [DataW.weightsEach, List.map_cons, List.map_nil]
    exact List.mem_append_left _ hn'
end Go.Proofs.Ytdpmdlibgabjaaa
/-
  What a pointer that came in by value is; what a slice of pointers that came in is.
-/
namespace Go.Proofs.Ytdpmdlibgabjaaa
open Go.RowKit Go.Shelf Go.Joins Go.ChangeShapes Go.WideShapes Go.ChangeAt
set_option maxRecDepth 100000

theorem u32_wf {n : Int} (h : (Lit.int .u32 n).wf = true) : ∃ m : Nat, n = (m : Int) ∧ m < 4294967296 := by
  simp [Lit.wf, IntKind.min, IntKind.max, IntKind.signed, IntKind.bits] at h
  exact ⟨n.toNat, by omega, by omega⟩
theorem i64_wf {n : Int} (h : (Lit.int .i64 n).wf = true) : -9223372036854775808 ≤ n ∧ n ≤ 9223372036854775807 := by
  simpa [Lit.wf, IntKind.min, IntKind.max, IntKind.signed, IntKind.bits] using h
/-- Five cells that read as a pointer are one. -/
theorem pt_of_trod {H : Type} {enc : TypeId × Value → H} {W : World} {fuel : Nat} {cs : List Value} {x : DataW H × List MemPlace} (h : DataW.trod enc Try.prog W 0 (fun _ => true) true fuel 32 cs = some x) : ∃ p, WfP p ∧ cs = ptC p := by
  obtain ⟨f0, f1, f2, f3, f4, hu, t0, t1, t2, t3, t4, o0, o1, o2, o3, o4⟩ : ∃ f0 f1 f2 f3 f4 : Field, Try.prog.underlying 32 = some (.struct #[f0, f1, f2, f3, f4]) ∧ f0.type = 3 ∧ f1.type = 28 ∧ f2.type = 28 ∧ f3.type = 28 ∧ f4.type = 28 ∧ f0.offset = 0 ∧ f1.offset = 1 ∧ f2.offset = 2 ∧ f3.offset = 3 ∧ f4.offset = 4 :=
    ⟨_, _, _, _, _, Try.underlying32, rfl, rfl, rfl, rfl, rfl, rfl, rfl, rfl, rfl, rfl⟩
  have cI : Try.prog.cellsOf 3 = 1 := by kernel_rfl
  have cU : Try.prog.cellsOf 28 = 1 := by kernel_rfl
  have cP : Try.prog.cellsOf 32 = 5 := by kernel_rfl
  obtain ⟨xs, k, hk, hxy, hcl, hxl, hf⟩ := DataW.trod_struct hu h
  rw [cP] at hcl
  match xs, hxl, cs, hcl with
  | [y0, y1, y2, y3, y4], _, [v0, v1, v2, v3, v4], _ =>
    have g0 := hf 0 f0 rfl
    have g1 := hf 1 f1 rfl
    have g2 := hf 2 f2 rfl
    have g3 := hf 3 f3 rfl
    have g4 := hf 4 f4 rfl
    simp [t0, t1, t2, t3, t4, o0, o1, o2, o3, o4, cI, cU] at g0 g1 g2 g3 g4
    obtain ⟨n0, e0, _, w0⟩ := DataW.trod_int Try.underlying3 g0
    obtain ⟨n1, e1, _, w1⟩ := DataW.trod_int Try.underlying28 g1
    obtain ⟨n2, e2, _, w2⟩ := DataW.trod_int Try.underlying28 g2
    obtain ⟨n3, e3, _, w3⟩ := DataW.trod_int Try.underlying28 g3
    obtain ⟨n4, e4, _, w4⟩ := DataW.trod_int Try.underlying28 g4
    obtain ⟨m1, rfl, l1⟩ := u32_wf w1
    obtain ⟨m2, rfl, l2⟩ := u32_wf w2
    obtain ⟨m3, rfl, l3⟩ := u32_wf w3
    obtain ⟨m4, rfl, l4⟩ := u32_wf w4
    refine ⟨(n0, m1, m2, m3, m4), ⟨i64_wf w0, l1, l2, l3, l4⟩, ?_⟩
    simp at e0 e1 e2 e3 e4
    rw [e0, e1, e2, e3, e4]
    rfl
/-- A pointer that came in by value. -/
theorem open_ptr {H : Type} {enc : TypeId × Value → H} {W : World} {r : Go.Reach} {b0 : Nat} {v : Value} {d : DataW H} {p : List MemPlace} (hv : Value.okWide Try.prog W r b0 32 v) (h : DataW.Trod enc Try.prog W 0 (fun _ => true) true 32 v d p) :
    ∃ q, v = ptV q ∧ WfP q := by
  obtain ⟨cs, rfl, hsz⟩ := okWide_struct Try.underlying32 hv
  obtain ⟨fuel, hf⟩ := h
  obtain ⟨q, hw, hq⟩ := pt_of_trod hf
  refine ⟨q, ?_, hw⟩
  have : cs = (ptC q).toArray := by
    rw [← hq]
    simp [Value.cells]
  rw [this]
  rfl
end Go.Proofs.Ytdpmdlibgabjaaa
/-
  dev.Tamper: what it answers, whatever disk, place and byte it is handed.
-/
namespace Go.Proofs.Ytdpmdlibgabjaaa
open Go.RowKit Go.Shelf
set_option maxRecDepth 100000

theorem ar_set (t : List UInt8) (j : Nat) (y : UInt8) : (ar t).setIfInBounds j (.int .u8 (y.toNat : Int)) = ar (t.set j y) := by
  apply Array.ext'
  simp [ar, vals, List.map_set]
/-- One byte of a disk that is laid in one piece is turned. -/
theorem Laid.turned {w : World} {lo : Nat} {x : DAt} {D : DkL} (h : Laid w lo x D) {p q : Nat} (hp : p < D.1.length) (hq : q < (D.1.getD p []).length) (b : UInt8) :
    ∃ g hb o, x.ba = some ⟨hb, 0, none⟩ ∧ lo ≤ g ∧ w.cell? ⟨hb, p, none⟩ = some (.slice (some ⟨g, o, none⟩) (D.1.getD p []).length (D.1.getD p []).length) ∧ w.cell? ⟨g, o + q, none⟩ = some (.int .u8 (((D.1.getD p []).getD q 0).toNat : Int)) ∧
      w.frozen? ⟨g, o + q, none⟩ = false ∧ (∀ k t cs, Blk w k t cs → t ≠ 5 → g ≠ k) ∧ Laid (w.setCell ⟨g, o + q, none⟩ (.int .u8 (((D.1.getD p []).getD q 0 ^^^ b).toNat : Int))) lo x (turnedD D p q b) := by
  obtain ⟨g, hb, hw, rfl, k1, k2, k3, h1, h2, h3, h4, h5, ⟨cb, h6, h7, h8⟩, cw, h9, h10, h11⟩ := h
  have hP := pieces_length D
  obtain ⟨v, e1, o, rfl, ho⟩ := h8 p hp
  rw [pieces_left hp] at e1 ho
  have hst := ho (by omega)
  subst hst
  have n1 : hb ≠ g := h6.ne h5 (by decide)
  have n2 : hw ≠ g := h9.ne h5 (by decide)
  have hl1 : (turnedD D p q b).1.length = D.1.length := List.length_set ..
  have hget := room_get (P := pieces D) (T := sumD D) (n := D.1.length + D.2.length) (k := p) (j := q) (by omega) (by omega) (by rw [pieces_left hp]; exact hq)
  rw [pieces_left hp] at hget
  have hval : (D.1.getD p [])[q]? = some ((D.1.getD p []).getD q 0) := by rw [List.getD_eq_getElem?_getD (l := D.1.getD p []), List.getElem?_eq_getElem hq]; rfl
  have hpv : ∀ i, i < (pieces D).length → ∀ v, PieceV g (pieces D) i v → PieceV g (pieces (turnedD D p q b)) i v := by
    rintro i hi v ⟨o', rfl, ho'⟩
    have el : ((pieces (turnedD D p q b)).getD i []).length = ((pieces D).getD i []).length := by
      rw [turned_pieces hp, getD_set _ _ _ _ _ (by omega)]
      split
      · rename_i e
        rw [e, List.length_set]
      · rfl
    refine ⟨o', by rw [el], fun h0 => ?_⟩
    rw [turned_pieces hp, startP_set (by omega) (by simp) (by omega)]
    exact ho' (by rw [← el]; exact h0)
  refine ⟨g, hb, _, rfl, k1, by rw [h6.cell, e1], ?_, h5.frozen _, fun k t cs hk ht => h5.ne hk (Ne.symm ht), g, hb, hw, by rw [hl1]; rfl, k1, k2, k3, by rw [hl1]; exact h1, h2, by rw [turned_sum hp]; exact h3, h4, ?_, ⟨cb, h6.far (by simpa using n1) _, by rw [hl1]; exact h7, fun i hi => ?_⟩, cw, h9.far (by simpa using n2) _, h10, fun i hi => ?_⟩
  · rw [h5.cell, ar, List.getElem?_toArray, vals, List.getElem?_map, hget, hval]
    rfl
  · rw [turned_sum hp, hl1]
    show Blk _ g _ (ar (roomP (pieces (turnedD D p q b)) (sumD D) (D.1.length + D.2.length)))
    rw [turned_room hp hq, ← ar_set]
    exact h5.set_ _ _
  · rw [hl1] at hi
    obtain ⟨v, e3, e4⟩ := h8 i hi
    exact ⟨v, e3, hpv i (by omega) v e4⟩
  · obtain ⟨e0, v, e3, e4⟩ := h11 i hi
    refine ⟨e0, v, e3, ?_⟩
    rw [hl1]
    exact hpv _ (by have : i < D.2.length := hi; omega) v e4
def tamperO (D : DkL) (p q : Int) (b : UInt8) : DkL × Int := if MayD D then (if (0 ≤ p ∧ p < 256) ∧ 0 ≤ q ∧ q < 256 then (turnedD D p.toNat q.toNat b, 0) else (([], []), 2)) else (([], []), 8)
/-- The ways that are refused. -/
theorem dTamper_no (x : DAt) (D : DkL) (p q : Int) (b : UInt8) (w : World) (h : Dsk w w.heap.size x D) (hno : ¬ (MayD D ∧ (0 ≤ p ∧ p < 256) ∧ 0 ≤ q ∧ q < 256)) : Calls Try.prog 14 #[dval x D, .int .i64 p, .int .i64 q, .int .u8 (b.toNat : Int)] w (ToldD (tamperO D p q b) w) := by
  obtain ⟨w0, hw0, b0, z0, x0, x1⟩ := two_boxes w (.slice x.ba D.1.length x.bc) (.slice x.wa D.2.length x.wc)
  have h0 := h.step b0
  have c0 := x0.cell 0
  have c1 := x0.cell 1
  have HX1 := Lib.hid x1
  have HB := Lib.hid b0
  unfold tamperO
  by_cases hm : MayD D
  · rw [if_pos hm, if_neg (fun hh => hno ⟨hm, hh⟩)]
    have HC := Lib.hid (dMay_yes x D _ h0 hm)
    simp only [dval] at HC ⊢
    have hbk := dIsBlock_any p
    by_cases hp : 0 ≤ p ∧ p < 256
    · have hq : ¬ (0 ≤ q ∧ q < 256) := fun hh => hno ⟨hm, hp, hh⟩
      simp only [decide_eq_true hp] at hbk
      have HBK := Lib.hid hbk
      clear b0 h0 h hm x0 x1 z0 hbk hno hp
      by_cases hq0 : 0 ≤ q
      · have hq1 : ¬ q < 256 := fun hh => hq ⟨hq0, hh⟩
        have hq2 : ¬ q < 0 := by omega
        have hq3 : 256 ≤ q := by omega
        clear hq
        go_enter Try.func14, Try.ntmps14
        go_wp2_with fail
        clear hw0 c0 c1
        refine HC.out.mono ?_
        rintro e w1 ⟨rfl, b1⟩
        have HY := Lib.hid (HX1.out.below b1 HX1.out.lt)
        have HB1 := Lib.hid (HB.out.trans (b1.mono HB.out.size))
        clear b1
        go_wp2_with fail
        refine (HBK.out _).mono ?_
        rintro e w1' ⟨rfl, rfl⟩
        have d0 := HY.out.cell 0
        have d1 := HY.out.cell 1
        have hf := fun i => HY.out.frozen i
        go_wp2_with fail
        have hBF := (HB1.out.setCell (p := ⟨w.heap.size + 1, 0, none⟩) (Nat.le_add_right _ _) (.slice none 0 0)).setCell (p := ⟨w.heap.size + 1, 1, none⟩) (Nat.le_add_right _ _) (.slice none 0 0)
        have hXF := (HY.out.set_ 0 (.slice none 0 0)).set_ 1 (.slice none 0 0)
        obtain ⟨wf, hwf⟩ : ∃ wf, ((w1.setCell ⟨w.heap.size + 1, 0, none⟩ (.slice none 0 0)).setCell ⟨w.heap.size + 1, 1, none⟩ (.slice none 0 0)) = wf := ⟨_, rfl⟩
        rw [hwf] at hBF hXF ⊢
        clear hwf d0 d1 hf
        have e0 := hXF.cell 0
        have e1 := hXF.cell 1
        exact bodyPost_ret (v := .tuple #[.agg #[.slice none 0 0, .slice none 0 0], .int .i64 2]) (by simp [results, Try.f14, go_sem, e0, e1]) rfl (toldD_no rfl hBF)
      · have hq2 : q < 0 := by omega
        clear hq
        go_enter Try.func14, Try.ntmps14
        go_wp2_with fail
        clear hw0 c0 c1
        refine HC.out.mono ?_
        rintro e w1 ⟨rfl, b1⟩
        have HY := Lib.hid (HX1.out.below b1 HX1.out.lt)
        have HB1 := Lib.hid (HB.out.trans (b1.mono HB.out.size))
        clear b1
        go_wp2_with fail
        refine (HBK.out _).mono ?_
        rintro e w1' ⟨rfl, rfl⟩
        have d0 := HY.out.cell 0
        have d1 := HY.out.cell 1
        have hf := fun i => HY.out.frozen i
        go_wp2_with fail
        have hBF := (HB1.out.setCell (p := ⟨w.heap.size + 1, 0, none⟩) (Nat.le_add_right _ _) (.slice none 0 0)).setCell (p := ⟨w.heap.size + 1, 1, none⟩) (Nat.le_add_right _ _) (.slice none 0 0)
        have hXF := (HY.out.set_ 0 (.slice none 0 0)).set_ 1 (.slice none 0 0)
        obtain ⟨wf, hwf⟩ : ∃ wf, ((w1.setCell ⟨w.heap.size + 1, 0, none⟩ (.slice none 0 0)).setCell ⟨w.heap.size + 1, 1, none⟩ (.slice none 0 0)) = wf := ⟨_, rfl⟩
        rw [hwf] at hBF hXF ⊢
        clear hwf d0 d1 hf
        have e0 := hXF.cell 0
        have e1 := hXF.cell 1
        exact bodyPost_ret (v := .tuple #[.agg #[.slice none 0 0, .slice none 0 0], .int .i64 2]) (by simp [results, Try.f14, go_sem, e0, e1]) rfl (toldD_no rfl hBF)
    · simp only [decide_eq_false hp] at hbk
      have HBK := Lib.hid hbk
      clear b0 h0 h hm x0 x1 z0 hbk hno hp
      go_enter Try.func14, Try.ntmps14
      go_wp2_with fail
      clear hw0 c0 c1
      refine HC.out.mono ?_
      rintro e w1 ⟨rfl, b1⟩
      have HY := Lib.hid (HX1.out.below b1 HX1.out.lt)
      have HB1 := Lib.hid (HB.out.trans (b1.mono HB.out.size))
      clear b1
      go_wp2_with fail
      refine (HBK.out _).mono ?_
      rintro e w1' ⟨rfl, rfl⟩
      have d0 := HY.out.cell 0
      have d1 := HY.out.cell 1
      have hf := fun i => HY.out.frozen i
      go_wp2_with fail
      have hBF := (HB1.out.setCell (p := ⟨w.heap.size + 1, 0, none⟩) (Nat.le_add_right _ _) (.slice none 0 0)).setCell (p := ⟨w.heap.size + 1, 1, none⟩) (Nat.le_add_right _ _) (.slice none 0 0)
      have hXF := (HY.out.set_ 0 (.slice none 0 0)).set_ 1 (.slice none 0 0)
      obtain ⟨wf, hwf⟩ : ∃ wf, ((w1.setCell ⟨w.heap.size + 1, 0, none⟩ (.slice none 0 0)).setCell ⟨w.heap.size + 1, 1, none⟩ (.slice none 0 0)) = wf := ⟨_, rfl⟩
      rw [hwf] at hBF hXF ⊢
      clear hwf d0 d1 hf
      have e0 := hXF.cell 0
      have e1 := hXF.cell 1
      exact bodyPost_ret (v := .tuple #[.agg #[.slice none 0 0, .slice none 0 0], .int .i64 2]) (by simp [results, Try.f14, go_sem, e0, e1]) rfl (toldD_no rfl hBF)
  · rw [if_neg hm]
    have HC := Lib.hid (dMay_no x D _ h0 hm)
    simp only [dval] at HC ⊢
    clear b0 h0 h hm x0 x1 z0 hno
    go_enter Try.func14, Try.ntmps14
    go_wp2_with fail
    clear hw0 c0 c1
    refine HC.out.mono ?_
    rintro e w1 ⟨rfl, b1⟩
    have HY := Lib.hid (HX1.out.below b1 HX1.out.lt)
    have HB1 := Lib.hid (HB.out.trans (b1.mono HB.out.size))
    clear b1
    have d0 := HY.out.cell 0
    have d1 := HY.out.cell 1
    have hf := fun i => HY.out.frozen i
    go_wp2_with fail
    have hBF := (HB1.out.setCell (p := ⟨w.heap.size + 1, 0, none⟩) (Nat.le_add_right _ _) (.slice none 0 0)).setCell (p := ⟨w.heap.size + 1, 1, none⟩) (Nat.le_add_right _ _) (.slice none 0 0)
    have hXF := (HY.out.set_ 0 (.slice none 0 0)).set_ 1 (.slice none 0 0)
    obtain ⟨wf, hwf⟩ : ∃ wf, ((w1.setCell ⟨w.heap.size + 1, 0, none⟩ (.slice none 0 0)).setCell ⟨w.heap.size + 1, 1, none⟩ (.slice none 0 0)) = wf := ⟨_, rfl⟩
    rw [hwf] at hBF hXF ⊢
    clear hwf d0 d1 hf
    have e0 := hXF.cell 0
    have e1 := hXF.cell 1
    exact bodyPost_ret (v := .tuple #[.agg #[.slice none 0 0, .slice none 0 0], .int .i64 8]) (by simp [results, Try.f14, go_sem, e0, e1]) rfl (toldD_no rfl hBF)
set_option maxHeartbeats 2000000 in
theorem dTamper_yes (x : DAt) (D : DkL) (p q : Nat) (b : UInt8) (w : World) (h : Dsk w w.heap.size x D) (hm : MayD D) (hp : p < 256) (hq : q < 256) : Calls Try.prog 14 #[dval x D, .int .i64 p, .int .i64 q, .int .u8 (b.toNat : Int)] w (ToldD (turnedD D p q b, 0) w) := by
  obtain ⟨w0, hw0, b0, z0, x0, x1⟩ := two_boxes w (.slice x.ba D.1.length x.bc) (.slice x.wa D.2.length x.wc)
  have h0 := h.step b0
  have c0 := x0.cell 0
  have c1 := x0.cell 1
  have HX0 := Lib.hid x0
  have HX1 := Lib.hid x1
  have HB := Lib.hid b0
  have HZ := Lib.hid z0
  have HD := Lib.hid h0
  have HC := Lib.hid (dMay_yes x D _ h0 hm)
  have hbk := dIsBlock_any (p : Int)
  simp only [decide_eq_true (show 0 ≤ (p : Int) ∧ (p : Int) < 256 by omega)] at hbk
  have HBK := Lib.hid hbk
  have HM := Lib.hid hm
  have p0 : (0 : Int) ≤ p := by omega
  have p1 : (p : Int) < 256 := by omega
  have q0 : (0 : Int) ≤ q := by omega
  have q1 : (q : Int) < 256 := by omega
  simp only [dval] at HC ⊢
  clear b0 h0 h hm x0 x1 z0 hbk
  go_enter Try.func14, Try.ntmps14
  go_wp2_with fail
  clear hw0 c0 c1
  refine HC.out.mono ?_
  rintro e w1 ⟨rfl, b1⟩
  have x01 := HX0.out.below b1 HX0.out.lt
  have c0 := x01.cell 0
  have c1 := x01.cell 1
  have HX01 := Lib.hid x01
  have HX11 := Lib.hid (HX1.out.below b1 HX1.out.lt)
  have ht := dTwin_any x D w1 (HD.out.step b1) (may_fits HM.out)
  simp only [dval] at ht
  have HT := Lib.hid ht
  have HB1 := Lib.hid (HB.out.trans (b1.mono HB.out.size))
  have HZ1 := Lib.hid (show w.heap.size + 2 ≤ w1.heap.size by have := b1.size; have := HZ.out; omega)
  clear b1 x01 ht HX0 HX1 HB HD
  go_wp2_with fail
  refine (HBK.out _).mono ?_
  rintro e w1' ⟨rfl, rfl⟩
  go_wp2_with fail
  clear c0 c1
  refine HT.out.mono ?_
  rintro e w2 ⟨x2, rfl, h2, b2⟩
  obtain ⟨K1, hK1⟩ : ∃ K, D.1.length = K := ⟨_, rfl⟩
  obtain ⟨K2, hK2⟩ : ∃ K, D.2.length = K := ⟨_, rfl⟩
  obtain ⟨g3, hg3⟩ : ∃ g, w2.heap.size = g := ⟨_, rfl⟩
  obtain ⟨w3, hw3⟩ : ∃ w3, w2.alloc (.cells #[.slice x2.ba K1 x2.bc, .slice x2.wa K2 x2.wc] 27) = w3 := ⟨_, rfl⟩
  have bx : Below w2.heap.size w2 w3 := by rw [← hw3]; exact (Below.refl _ w2).alloc (Nat.le_refl _) _
  have h3 := h2.below bx
  have xb3 : Blk w3 g3 27 #[.slice x2.ba K1 x2.bc, .slice x2.wa K2 x2.wc] := by rw [← hw3, ← hg3]; exact Blk.new w2 _ _
  have b3 := b2.trans (bx.mono b2.size)
  have xr3 := HX11.out.below b3 HX11.out.lt
  have hlp : (D.1.getD p []).length = 256 := HM.out.1.2 p hp
  obtain ⟨g, hb, o, e1, k1, e2, e3, e4, e5, e6⟩ := h3.turned (p := p) (q := q) (by rw [HM.out.1.1]; exact hp) (by rw [hlp]; exact hq) b
  obtain ⟨ba2, bc2, wa2, wc2⟩ := x2
  obtain rfl : ba2 = some ⟨hb, 0, none⟩ := e1
  rw [hlp] at e2
  have hK1' : K1 = 256 := by rw [← hK1]; exact HM.out.1.1
  subst hK1'
  obtain ⟨v, hv⟩ : ∃ v, (D.1.getD p []).getD q 0 = v := ⟨_, rfl⟩
  rw [hv] at e3 e6
  have hxor := xor8 v b
  obtain ⟨y, hy⟩ : ∃ y, (v ^^^ b).toNat = y := ⟨_, rfl⟩
  rw [hy] at e6 hxor
  have d0 := xb3.cell 0
  have d1 := xb3.cell 1
  have hz1 := HZ1.out
  have hg3' : w.heap.size + 2 ≤ g3 := by rw [← hg3]; have := b2.size; omega
  have n1 := e5 _ _ _ xb3 (by decide)
  have n2 := e5 _ _ _ xr3 (by decide)
  obtain ⟨w4, hw4⟩ : ∃ w4, w3.setCell ⟨g, o + q, none⟩ (.int .u8 (y : Int)) = w4 := ⟨_, rfl⟩
  have xb4 := xb3.far (p := ⟨g, o + q, none⟩) (Ne.symm n1) (.int .u8 (y : Int))
  have xr4 := xr3.far (p := ⟨g, o + q, none⟩) (Ne.symm n2) (.int .u8 (y : Int))
  have b4 := (HB1.out.trans (b3.mono (by omega))).setCell (p := ⟨g, o + q, none⟩) (by show _ ≤ g; omega) (.int .u8 (y : Int))
  rw [hw4] at xb4 xr4 b4 e6
  have c40 := xb4.cell 0
  have c41 := xb4.cell 1
  have d40 := xr4.cell 0
  have d41 := xr4.cell 1
  have f4 := fun i => xr4.frozen i
  have HE6 := Lib.hid e6
  have HB4 := Lib.hid b4
  have HXR := Lib.hid xr4
  clear xb4 xr4 b4
  have HK1 := Lib.hid hK1
  have HK2 := Lib.hid hK2
  have HG3 := Lib.hid (And.intro hg3' (And.intro hz1 k1))
  clear hy h2 b2 bx h3 xb3 b3 xr3 hlp k1 e5 e6 hK1 hv hz1 hg3' n1 n2 HT HX11 HX01
  simp only [dval]
  rw [HK1.out, hK2]
  clear hK2
  go_wp2_with fail
  have hg := HG3.out
  have hKD := laid_far (g := w.heap.size + 1) (lo' := w.heap.size) HE6.out (by omega) (by omega) (.slice (some ⟨hb, 0, none⟩) 256 bc2) (.slice wa2 K2 wc2)
  have hBF := (HB4.out.setCell (p := ⟨w.heap.size + 1, 0, none⟩) (Nat.le_add_right _ _) (.slice (some ⟨hb, 0, none⟩) 256 bc2)).setCell (p := ⟨w.heap.size + 1, 1, none⟩) (Nat.le_add_right _ _) (.slice wa2 K2 wc2)
  have hXF := (HXR.out.set_ 0 (.slice (some ⟨hb, 0, none⟩) 256 bc2)).set_ 1 (.slice wa2 K2 wc2)
  obtain ⟨wf, hwf⟩ : ∃ wf, ((w4.setCell ⟨w.heap.size + 1, 0, none⟩ (.slice (some ⟨hb, 0, none⟩) 256 bc2)).setCell ⟨w.heap.size + 1, 1, none⟩ (.slice wa2 K2 wc2)) = wf := ⟨_, rfl⟩
  rw [hwf] at hKD hBF hXF ⊢
  clear hwf c40 c41 d40 d41 f4 d0 d1
  have e0 := hXF.cell 0
  have e1 := hXF.cell 1
  refine bodyPost_ret (v := .tuple #[.agg #[.slice (some ⟨hb, 0, none⟩) 256 bc2, .slice wa2 K2 wc2], .int .i64 0]) (by simp [results, Try.f14, go_sem, e0, e1]) rfl ?_
  have hl1 : (turnedD D p q b).1.length = 256 := by rw [← HM.out.1.1]; exact List.length_set ..
  have hl2 : (turnedD D p q b).2.length = K2 := HK2.out
  exact ⟨⟨some ⟨hb, 0, none⟩, bc2, wa2, wc2⟩, by simp only [dval, hl1, hl2], .inr hKD, hBF⟩
theorem dTamper_any (x : DAt) (D : DkL) (p q : Int) (b : UInt8) (w : World) (h : Dsk w w.heap.size x D) : Calls Try.prog 14 #[dval x D, .int .i64 p, .int .i64 q, .int .u8 (b.toNat : Int)] w (ToldD (tamperO D p q b) w) := by
  by_cases hy : MayD D ∧ (0 ≤ p ∧ p < 256) ∧ 0 ≤ q ∧ q < 256
  · obtain ⟨hm, hp, hq⟩ := hy
    rw [tamperO, if_pos hm, if_pos ⟨hp, hq⟩]
    obtain ⟨p', rfl⟩ := Int.eq_ofNat_of_zero_le hp.1
    obtain ⟨q', rfl⟩ := Int.eq_ofNat_of_zero_le hq.1
    exact dTamper_yes x D p' q' b w h hm (by omega) (by omega)
  · exact dTamper_no x D p q b w h hy
end Go.Proofs.Ytdpmdlibgabjaaa
