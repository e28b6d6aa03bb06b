/-
  Texts of one seat, one behind the other.
-/
import Derived.Test.YtjdjbonljohnbaaGreatDoorPkDB5
/-
  The document's own Laid of layer 16.
-/
namespace Go.Proofs.YtjdjbonljohnbaaGreatDoor
open Go.RowKit Go.Shelf
set_option maxRecDepth 100000

theorem pslice_lh (W : World) (b off n c k m : Nat) (hm : 0 < m) (hc : k + m ≤ c) : (Instr.slice 30 (.slice (some ⟨b, off, none⟩) n c) (some (.int .i64 (k : Int))) (some (.int .i64 ((k : Int) + (m : Int)))) none).run Tryz.prog W = .ok (.slice (some ⟨b, off + k * 5, none⟩) m (c - k)) W := by
  rw [run_slice_lh W 30 _ _ _ (by kernel_rfl) .i64 .i64 _ _ (by omega) (by omega) (by omega), psize5]
  have e1 : ((k : Int) + (m : Int)).toNat = k + m := by omega
  have e2 : (k : Int).toNat = k := by omega
  have e3 : ¬ c = k := by omega
  simp [Result.andThen, sliced, e1, e2, e3, Addr.add]
theorem Pts.win2 {w : World} {B b off n c : Nat} {L : List Pt} (h : Pts w B (some ⟨b, off, none⟩) n c L) (k m : Nat) (hkm : k + m ≤ n) : Pts w B (some ⟨b, off + k * 5, none⟩) m (c - k) ((L.drop k).take m) := by
  obtain ⟨h1, h2, h3, h4, h5⟩ := h
  refine ⟨by rw [List.length_take, List.length_drop]; omega, by omega, by omega, fun e => (by cases e), fun hl => ?_⟩
  obtain ⟨b', off', e, hlt, hcc⟩ := h5 (by omega)
  cases e
  refine ⟨b, off + k * 5, rfl, hlt, fun i hi => ?_⟩
  rw [List.length_take, List.length_drop] at hi
  have := hcc (k + i) (by omega)
  rw [List.getElem_take, List.getElem_drop]
  refine ⟨this.1, fun j u hu => ?_⟩
  have := this.2 j u hu
  rwa [show off + (k + i) * 5 + j = off + k * 5 + i * 5 + j by omega] at this
/-- What Laid answers. -/
def OutLaid (L : Nat) (o : StL × Pt × List Nat × Nat) (w : World) (e : Ending) (w' : World) : Prop :=
  ∃ y u, e = .returned (.tuple #[stV y o.1, ptV o.2.1, u, .bool (o.2.2.2 == 0)]) ∧ StP L w' y o.1 ∧ w'.ownsRow w.heap.size 3 1 u o.2.2.1.length (valsN o.2.2.1) ∧ Below w.heap.size w w'
theorem outPut_uni {L : Nat} {o : Option (StL × Pt)} {w w' : World} {e : Ending} (h : OutPut L o w e w') : ∃ y, e = .returned (.tuple #[stV y (putR o).1, ptV (putR o).2.1, .bool o.isSome]) ∧ StP L w' y (putR o).1 ∧ Below w.heap.size w w' := by
  obtain ⟨h1, h2, h3⟩ := h
  cases o with
  | none => exact ⟨at0, h1 rfl, st0_lasts L w', h3⟩
  | some sp =>
    obtain ⟨y, e1, e2⟩ := h2 sp.1 sp.2 rfl
    exact ⟨y, e1, e2, h3⟩
theorem laid_stop {S : StL} {b k m : Nat} {l : List Pt} (h : laidTo S b l k = none) (hm : k ≤ m) : laidTo S b l m = none := by
  induction m with
  | zero => obtain rfl : k = 0 := by omega
            exact h
  | succ m ih =>
    rcases Nat.lt_or_ge k (m + 1) with h1 | h1
    · rw [laidTo, ih (by omega)]
    · obtain rfl : k = m + 1 := by omega
      exact h
theorem putR_wf {S : StL} {b : Nat} {s : List UInt8} (hb : b < 4294967296) {q : Pt} {T : StL} {e : Nat} (h : putR (putS S b 0 0 s) = (T, q, e)) : WfP q := by
  cases hp : putS S b 0 0 s with
  | none => rw [hp] at h; unfold putR at h; cases h; exact wf_p0
  | some sp =>
    rw [hp] at h
    unfold putR at h
    cases h
    unfold putS at hp
    split at hp
    · cases hp
    · split at hp
      · cases hp
      · rename_i k _ hfr _
        cases hp
        have hk : k < 256 := by
          have : k ∈ freeTo S.2.1 256 := by rw [hfr]; exact List.mem_cons_self ..
          exact (freeTo_mem.1 this).1
        exact ⟨⟨by simp only; omega, by simp only; omega⟩, hb, by simp, by simp, sumOf_lt _⟩
theorem prow_far5 {w : World} {B g : Nat} {v : Value} {l : List Pt} (h : PRow w B v l) (hg : g < B) (v0 v1 v2 v3 v4 : Value) : PRow (set5 w g v0 v1 v2 v3 v4) B v l := by
  obtain ⟨⟨h1, h2 | ⟨gv, cap, cur, rfl, h3, h4, h5⟩⟩, hw⟩ := h
  · exact ⟨⟨h1, .inl h2⟩, hw⟩
  · exact ⟨⟨h1, .inr ⟨gv, cap, cur, rfl, h3, far5_bl h4 (by omega) v0 v1 v2 v3 v4, h5⟩⟩, hw⟩
theorem nrow_far {B n : Nat} {w : World} {v : Value} {xs : List Value} (h : w.ownsRow B 3 1 v n xs) {k : Nat} (hk : k < B) : v.ownBlock ≠ some k := fun e => by
  obtain ⟨_, ⟨rfl, _⟩ | ⟨g, cap, cur, rfl, h3, h4, _⟩⟩ := h
  · simp [Value.ownBlock] at e
  · have : g = k := by simpa [Value.ownBlock] using e
    omega
theorem keeps_nrow {L B n : Nat} {w w' : World} {v : Value} {xs : List Value} (h : w.ownsRow B 3 1 v n xs) (hg : w.grownBy w' v.ownBlock) (hL : L ≤ B) : Keeps3 L w w' := by
  obtain ⟨_, ⟨rfl, _⟩ | ⟨g, cap, cur, rfl, h3, h4, _⟩⟩ := h
  · exact (keeps_walk (B := B) hg hL (fun r e => by simp [Value.ownBlock] at e)).to3
  · exact Keeps3.of_box (g := g) hg h4 (by decide) (Nat.le_trans hL h3)
theorem prow_box {w w' : World} {g : Nat} {v : Value} {cs : Array Value} (h : Blk w g 32 cs) (hn : v.ownBlock ≠ some g) (hg : w.grownBy w' v.ownBlock) : Blk w' g 32 cs := h.grown hg (fun e => hn e.symm)
section
open Go
variable {w : World} {o : Oper} {a : Act} {K : Act → World → Prop} {Q : Exit → Act → World → Prop}
theorem wp_append_nsl (s x : Operand)
    (ho : o.op = .call { callee := .builtin .append, args := #[s, x], argTypes := #[35, 35] })
    (base : Nat) (v : Value) (n : Nat) (xs : List Nat) (hs : a.eval s = v) (hown : w.ownsRow base 3 1 v n (valsN xs))
    (B : Nat) (ad : Addr) (m c : Nat) (news : List Nat) (hx : a.eval x = .slice (some ad) m c) (hr : Nsl w B (some ad) m c news) (hm : 0 < m)
    (hnm : n + m ≤ 100000) (hbase : base ≤ w.heap.size)
    (h : ∀ v' w', w'.ownsRow base 3 1 v' (n + m) (valsN (xs ++ news)) → w.grownBy w' v.ownBlock → K (a.put o.dst v') w') : o.wp Tryz.prog a w K Q := by
  obtain ⟨i0, hi, hz0, hz1, hz2⟩ := info_parts infoInt
  obtain ⟨h1, h2, h3, h4, h5⟩ := hr
  refine wp_append_own w s x 35 ho base 3 i0 (.int .i64 0) 1 8 Tryz.underlying35 hi hz0 hz1 hz2 rfl (by decide) v n (valsN xs) hs hown ad m c (valsN news) hx (by simp [valsN, h1]) (fun j u hu => ?_) (fun u hu => ?_) (by unfold maxLen; omega) (by omega) hbase ?_
  · obtain ⟨hj, rfl⟩ := valsN_get hu
    obtain ⟨b, off, e, _, hc⟩ := h5 (by omega)
    cases e
    rw [← hc j hj]
    congr 1
    unfold Addr.add
    split <;> simp_all
  · obtain ⟨y, _, rfl⟩ := List.mem_map.1 hu
    rfl
  · intro v' w' h2 h3 _
    exact h v' w' (by rw [← valsN_append]; exact h2) h3
end
theorem prow_lt {w : World} {B : Nat} {v : Value} {l : List Pt} (h : PRow w B v l) {r : Nat} (e : v.ownBlock = some r) : r < w.heap.size := by
  obtain ⟨⟨_, ⟨rfl, _⟩ | ⟨gv, cap, cur, rfl, h3, h4, _⟩⟩, _⟩ := h
  · simp [Value.ownBlock] at e
  · have : gv = r := by simpa [Value.ownBlock] using e
    subst this
    exact Blk.lt h4
theorem nrow_box {w w' : World} {B n g : Nat} {v : Value} {xs : List Value} {t : TypeId} {cs : Array Value} (h : Blk w g t cs) (ht : t ≠ 3) (hr : w.ownsRow B 3 1 v n xs) (hg : w.grownBy w' v.ownBlock) : Blk w' g t cs := by
  obtain ⟨_, ⟨rfl, _⟩ | ⟨gv, cap, cur, rfl, h3, h4, _⟩⟩ := hr
  · exact h.grown hg (fun e => by simp [Value.ownBlock] at e)
  · refine h.grown hg (fun e => ?_)
    have e2 : gv = g := by simpa [Value.ownBlock] using e.symm
    subst e2
    have e3 := (show w.heap[gv]? = _ from h4).symm.trans (show w.heap[gv]? = _ from h)
    cases e3
    exact ht rfl
theorem putS_at {S S' : StL} {b : Nat} {s : List UInt8} {q : Pt} (hp : putS S b 0 0 s = some (S', q)) : ∃ k : Nat, q.1 = (k : Int) ∧ k < 256 := by
  unfold putS at hp
  split at hp
  · cases hp
  · split at hp
    · cases hp
    · rename_i k _ hfr _
      cases hp
      exact ⟨k, rfl, (freeTo_mem.1 (show k ∈ freeTo S.2.1 256 by rw [hfr]; exact List.mem_cons_self ..)).1⟩
theorem new_box (W : World) (cs : Array Value) (t : TypeId) : ∃ V g, W.alloc (.cells cs t) = V ∧ W.heap.size = g ∧ Below W.heap.size W V ∧ Blk V g t cs := ⟨_, _, rfl, rfl, (Below.refl W.heap.size W).alloc (Nat.le_refl _) _, Blk.new W t cs⟩
set_option linter.unusedSimpArgs false in
set_option maxHeartbeats 16000000 in
theorem ruLaid_any (L : Nat) (x : SAt) (S : StL) (b : Nat) (a : Option Addr) (n c : Nat) (l : List Pt) (w : World) (h : StP L w x S) (hm : MayS S) (hmd : MayDL l) (hbr : 1 ≤ b ∧ b ≤ 16777215) (hr : Pts w w.heap.size a n c l) (hL : L ≤ w.heap.size) : Calls Tryz.prog 23 #[stV x S, .int .u32 (b : Int), .slice a n c] w (OutLaid L (layedO S b l) w) := by
  have hmx : Tryz.prog.follows Departure.mixedOrders = true := by kernel_rfl
  have n0_ : (0 : Int) ≤ (n : Int) := by omega
  obtain ⟨w0, hw0, b0, z0, q0, q1, q2⟩ := three_al w (stC x S) #[.slice none 0 0, .slice none 0 0, .slice none 0 0, .int .u32 0, .int .u32 0] #[.int .i64 0, .int .u32 0, .int .u32 0, .int .u32 0, .int .u32 0] 29 29 32
  obtain ⟨g, hg⟩ : ∃ g, w.heap.size = g := ⟨_, rfl⟩
  obtain ⟨g1, hg1⟩ : ∃ g1, g + 1 = g1 := ⟨_, rfl⟩
  obtain ⟨g2, hg2⟩ : ∃ g2, g1 + 1 = g2 := ⟨_, rfl⟩
  rw [hg] at q0 q1 q2
  rw [hg1] at q1
  rw [show g + 2 = g1 + 1 by omega, hg2] at q2
  have HI := Lib.hid (show L ≤ g1 ∧ w.heap.size ≤ g1 ∧ L ≤ g2 ∧ w.heap.size ≤ g2 ∧ g1 ≠ g2 ∧ g2 ≠ g1 ∧ g ≠ g1 ∧ g ≠ g2 ∧ L ≤ g ∧ w.heap.size ≤ g ∧ g1 ≠ g ∧ g2 ≠ g by omega)
  have HX := Lib.hid q0
  have HY := Lib.hid q1
  have HQ := Lib.hid q2
  have HT := Lib.hid (h.bel b0)
  have HB := Lib.hid b0
  have HP0 := Lib.hid hr
  have HLN := Lib.hid hr.1
  have HNC := Lib.hid hr.2.1
  have HLW := Lib.hid (show L ≤ w0.heap.size from Nat.le_trans hL b0.size)
  have HWQ := Lib.hid (fun (q_ : Pt) (hq_ : q_ ∈ l) => hr.wf hq_)
  have HMS := Lib.hid hm
  have HMD := Lib.hid hmd
  have HBR := Lib.hid hbr
  have HGW := Lib.hid hg
  simp only [stC] at hw0
  clear h b0 z0 q0 q1 q2 hL hm
  by_cases hl : l = []
  · subst hl
    obtain rfl : n = 0 := by have := HLN.out; simpa using this.symm
    have HO := Lib.hid (show layedO S b [] = (S, p0, [], 0) by unfold layedO; rw [if_pos rfl])
    clear hmd hbr
    have d0 := bx0 HX.out
    have d1 := bx1 HX.out
    have d2 := bx2 HX.out
    have d3 := bx3 HX.out
    have d4 := bx4 HX.out
    have m0 := stZ0 HY.out
    have m1 := stZ1 HY.out
    have m2 := stZ2 HY.out
    have m3 := stZ3 HY.out
    have m4 := stZ4 HY.out
    have mf := fun i => HY.out.frozen i
    obtain ⟨xa, ka, ba⟩ := box_five (L := L) HY.out (by decide) HI.out.1 HB.out HI.out.2.1 (.slice x.d.ba S.1.1.length x.d.bc) (.slice x.d.wa S.1.2.length x.d.wc) (.slice x.a S.2.1.length x.c) (.int .u32 (S.2.2.1 : Int)) (.int .u32 (S.2.2.2 : Int))
    have ya := far5_bl (g := g1) HQ.out HI.out.2.2.2.2.2.1 (.slice x.d.ba S.1.1.length x.d.bc) (.slice x.d.wa S.1.2.length x.d.wc) (.slice x.a S.2.1.length x.c) (.int .u32 (S.2.2.1 : Int)) (.int .u32 (S.2.2.2 : Int))
    obtain ⟨wa, hwa⟩ : ∃ wa, set5 w0 g1 (.slice x.d.ba S.1.1.length x.d.bc) (.slice x.d.wa S.1.2.length x.d.wc) (.slice x.a S.2.1.length x.c) (.int .u32 (S.2.2.1 : Int)) (.int .u32 (S.2.2.2 : Int)) = wa := ⟨_, rfl⟩
    rw [hwa] at xa ka ba ya
    simp only [set5] at hwa
    have n0 := ptZ0 ya
    have n1 := ptZ1 ya
    have n2 := ptZ2 ya
    have n3 := ptZ3 ya
    have n4 := ptZ4 ya
    have nf := fun i => ya.frozen i
    obtain ⟨xb, kb, bb⟩ := box_five (L := L) ya (by decide) HI.out.2.2.1 ba HI.out.2.2.2.1 (.int .i64 0) (.int .u32 0) (.int .u32 0) (.int .u32 0) (.int .u32 0)
    have yb := far5_bl (g := g2) xa HI.out.2.2.2.2.1 (.int .i64 0) (.int .u32 0) (.int .u32 0) (.int .u32 0) (.int .u32 0)
    obtain ⟨wb, hwb⟩ : ∃ wb, set5 wa g2 (.int .i64 0) (.int .u32 0) (.int .u32 0) (.int .u32 0) (.int .u32 0) = wb := ⟨_, rfl⟩
    rw [hwb] at xb kb bb yb
    simp only [set5] at hwb
    replace HY := Lib.hid yb
    replace HQ := Lib.hid xb
    replace HB := Lib.hid bb
    have HKK := Lib.hid (ka.trans kb)
    replace HT := Lib.hid (HT.out.step (ka.trans kb))
    clear xa ka ba ya xb kb bb yb
    go_enter Tryz.func23, Tryz.ntmps23
    go_wp2_with fail
    try rw [hw0]
    try rw [hg]
    try rw [hg1]
    try rw [hg2]
    clear hw0 hg hg1 hg2 d0 d1 d2 d3 d4
    clear m0 m1 m2 m3 m4 mf hwa n0 n1 n2 n3 n4 nf hwb
    have e0 := bx0 HY.out
    have e1 := bx1 HY.out
    have e2 := bx2 HY.out
    have e3 := bx3 HY.out
    have e4 := bx4 HY.out
    have f0 := bx0 HQ.out
    have f1 := bx1 HQ.out
    have f2 := bx2 HQ.out
    have f3 := bx3 HQ.out
    have f4 := bx4 HQ.out
    refine bodyPost_ret (v := .tuple #[.agg #[.slice x.d.ba S.1.1.length x.d.bc, .slice x.d.wa S.1.2.length x.d.wc, .slice x.a S.2.1.length x.c, .int .u32 (S.2.2.1 : Int), .int .u32 (S.2.2.2 : Int)], .agg #[.int .i64 0, .int .u32 0, .int .u32 0, .int .u32 0, .int .u32 0], .slice none 0 0, .bool true]) (by simp [results, Tryz.f23, go_sem, e0, e1, e2, e3, e4, f0, f1, f2, f3, f4]) rfl ?_
    rw [HO.out]
    exact ⟨x, _, rfl, HT.out, World.ownsRow_nil _ _ _ _, HB.out⟩
  · have hn : 0 < n := by
      rw [← hr.1]
      exact List.length_pos_iff.2 hl
    obtain ⟨bl, ol, ea, _, _⟩ := hr.cells 0 hn
    subst ea
    obtain ⟨R, hR⟩ : ∃ R, rowsN n = R := ⟨_, rfl⟩
    have HRN := Lib.hid (show R * 16 < n + 16 ∧ n ≤ R * 16 ∧ R ≤ 15 by
      have := hmd.1
      rw [hr.1] at this
      unfold rowsN at hR
      omega)
    have HRE := Lib.hid hR
    have HGLO := Lib.hid (show w.heap.size < w0.heap.size ∧ g < w0.heap.size ∧ g1 < w0.heap.size ∧ g2 < w0.heap.size from ⟨HGW.out ▸ HX.out.lt, HX.out.lt, HY.out.lt, HQ.out.lt⟩)
    have n1 : ((n : Int) == 0) = false := by simp; omega
    clear hr hmd hbr hl hR
    go_enter Tryz.func23, Tryz.ntmps23
    go_wp2_with fail
    try rw [hw0]
    try rw [hg]
    try rw [hg1]
    try rw [hg2]
    clear hw0 hg hg1 hg2
    go_loopw [10, 11, 12] (fun v u i wr => ∃ (k : Nat) (y : SAt) (T : StL) (ps : List Pt), k ≤ R ∧ i = .int .i64 (16 * (k : Int)) ∧ laidTo S b l k = some (T, ps) ∧ Blk wr g 29 (stC y T) ∧ Blk wr g1 29 stZ ∧ Blk wr g2 32 ptZ ∧ StP L wr y T ∧ PRow wr w0.heap.size v ps ∧ wr.ownsRow w0.heap.size 3 1 u ps.length (valsN (blksD ps)) ∧ w0.heap.size ≤ wr.heap.size ∧ Below w.heap.size w wr) (fun _ _ i _ => n + 16 - (intOf i).toNat)
    case atStart => exact ⟨0, x, S, [], Nat.zero_le _, rfl, rfl, HX.out, HY.out, HQ.out, HT.out, prow_nil _ _, World.ownsRow_nil _ _ _ _, Nat.le_refl _, HB.out⟩
    case round =>
      obtain ⟨k, y, T, ps, hkR, rfl, hlt, hx, hy, hq, ht, hvo, huo, hbg, hbs⟩ := hrel
      clear HX HY HQ HT
      have HB0 := Lib.hid HB.out
      have HL0 := Lib.hid HLW.out
      have HLT := Lib.hid hlt
      have HX := Lib.hid hx
      have HY := Lib.hid hy
      have HQ := Lib.hid hq
      have HT := Lib.hid ht
      have HV := Lib.hid hvo
      have HVB := Lib.hid (fun (r : Nat) e => prow_lt (r := r) hvo e)
      have HU := Lib.hid huo
      have HBG := Lib.hid hbg
      replace HB := Lib.hid hbs
      have HP := Lib.hid (HP0.out.step hbs)
      replace HLW := Lib.hid (Nat.le_trans HLW.out hbg)
      have HLR := Lib.hid (laidTo_laid HMS.out HBR.out k T ps hlt)
      have k0 : (0 : Int) ≤ k := by omega
      clear hlt hx hy hq ht hvo huo hbg hbs
      by_cases hkn : 16 * k < n
      · obtain ⟨m, hm⟩ : ∃ m, min 16 (n - 16 * k) = m := ⟨_, rfl⟩
        have m0_ : 0 < m ∧ m ≤ 16 ∧ 16 * k + m ≤ n := by omega
        have hmr : (rowD l k).length = m := by rw [rowD_length, HLN.out, hm]
        have hrd : (l.drop (16 * k)).take m = rowD l k := by
          unfold rowD
          rw [← hm]
          rcases Nat.le_total 16 (n - 16 * k) with h1 | h1
          · rw [Nat.min_eq_left h1]
          · rw [Nat.min_eq_right h1, List.take_of_length_le (by rw [List.length_drop, HLN.out]; exact Nat.le_refl _), List.take_of_length_le (by rw [List.length_drop, HLN.out]; exact h1)]
        have HM := Lib.hid m0_
        have HMR := Lib.hid hmr
        have HMM := Lib.hid hm
        obtain ⟨⟨T2, ⟨qa, qb, qi, qt, qs⟩, e2⟩, ho⟩ : ∃ o, putR (putS T b 0 0 (rowTo (rowD l k) ((rowD l k)).length)) = o := ⟨_, rfl⟩
        obtain ⟨r, hr⟩ : ∃ r, (putS T b 0 0 (rowTo (rowD l k) ((rowD l k)).length)).isSome = r := ⟨_, rfl⟩
        have HOO := Lib.hid ho
        have HRR := Lib.hid hr
        have HWQ2 := Lib.hid (putR_wf (show b < 4294967296 by have := HBR.out; omega) ho)
        have HUC : Hid (∀ (B : Nat) (ap : Option Addr) (cp : Nat) (W : World), StP L W y T → W.ownsRow B 5 1 (.slice ap 256 cp) 256 (vals (rowTo (rowD l k) ((rowD l k)).length)) → L ≤ W.heap.size →
            Calls Tryz.prog 44 #[stV y T, .int .u32 (b : Int), .int .u32 0, .int .u32 0, .slice ap 256 cp] W (fun e w' => ∃ y2, e = .returned (.tuple #[stV y2 T2, ptV (qa, qb, qi, qt, qs), .bool r]) ∧ StP L w' y2 T2 ∧ Below W.heap.size W w')) := Lib.hid (fun B ap cp W hW hpk hl => by
          have hlen : (rowTo ((rowD l k)) ((rowD l k)).length).length = 256 := rowTo_length _ _ (Nat.le_refl _) (by rw [rowD_length]; omega)
          have hc := rtPut_any L y T b 0 0 ap cp (rowTo (rowD l k) ((rowD l k)).length) W hW (by rw [hlen]; exact own_bsl hpk) hl HLR.out.may.2.1 (may_fits HLR.out.may.1) (by rw [hlen]; omega)
          rw [hlen] at hc
          refine hc.mono ?_
          intro e w' h_
          have h2 := outPut_uni h_
          rw [ho, hr] at h2
          exact h2)
        clear ho hr
        have HPC : Hid (∀ W : World, Pts W W.heap.size (some ⟨bl, ol + 16 * k * 5, none⟩) m (c - 16 * k) (rowD l k) → Calls Tryz.prog 45 #[.slice (some ⟨bl, ol + 16 * k * 5, none⟩) m (c - 16 * k)] W (OwnV 256 (rowTo (rowD l k) (rowD l k).length) W)) := Lib.hid (fun W hW => rpPacked_any _ m _ (rowD l k) W hW (by have := HM.out; omega) (fun q hq => (HMD.out.2.1 q (rowD_mem hq)).1))
        have hwin := HP.out.win2 (16 * k) m m0_.2.2
        rw [hrd] at hwin
        have HWN := Lib.hid hwin
        have HKN := Lib.hid hkn
        have i0 : (0 : Int) ≤ 16 * (k : Int) := by omega
        have i1 : 16 * (k : Int) < n := by omega
        have i1d : decide (16 * (k : Int) < (n : Int)) = true := decide_eq_true i1
        have e16 : ((16 * k : Nat) : Int) = 16 * (k : Int) := by omega
        have hwr : IntKind.i64.wrap (16 * (k : Int) + 16) = 16 * (k : Int) + 16 := by have := HRN.out; rw [IntKind.wrap_i64]; omega
        have HMI := Lib.hid (show min (n : Int) (IntKind.i64.wrap (16 * (k : Int) + 16)) = 16 * (k : Int) + (m : Int) by rw [hwr]; omega)
        have HPS := Lib.hid (show ∀ W : World, (Instr.slice 30 (.slice (some ⟨bl, ol, none⟩) n c) (some (.int .i64 (16 * (k : Int)))) (some (.int .i64 (16 * (k : Int) + (m : Int)))) none).run Tryz.prog W = .ok (.slice (some ⟨bl, ol + 16 * k * 5, none⟩) m (c - 16 * k)) W from fun W => by
          have h_ := pslice_lh W bl ol n c (16 * k) m m0_.1 (by have := HNC.out; omega)
          rw [e16] at h_
          exact h_)
        clear hm hmr hrd hwin m0_ e16 hwr
        go_wp2_with fail
        go_cut [13, 14, 15] from 24 to 59 (fun a b_ c_ wx => ∃ gA gB y2, a = .pointer (some ⟨gA, 0, none⟩) ∧ b_ = .pointer (some ⟨gB, 0, none⟩) ∧ c_ = .bool r ∧ Blk wx gA 29 (stC y2 T2) ∧ Blk wx gB 32 #[.int .i64 qa, .int .u32 (qb : Int), .int .u32 (qi : Int), .int .u32 (qt : Int), .int .u32 (qs : Int)] ∧ StP L wx y2 T2 ∧ Below wr.heap.size wr wx ∧ wr.heap.size ≤ gA ∧ wr.heap.size ≤ gB ∧ gA ≠ gB)
        case first =>
          obtain ⟨wd, hwd⟩ : ∃ wd, wr.drew = wd := ⟨_, rfl⟩
          have bq : Below wr.heap.size wr wd := by rw [← hwd]; exact (Below.refl _ _).drew
          have HBd := Lib.hid bq
          replace HX := Lib.hid (HX.out.below bq HX.out.lt)
          replace HT := Lib.hid (HT.out.bel bq)
          replace HWN := Lib.hid (HWN.out.step bq)
          replace HLW := Lib.hid (Nat.le_trans HLW.out bq.size)
          clear bq HB
          have HB := Lib.hid (Below.refl wd.heap.size wd)
          refine wpI_start (Below wd.heap.size wd) [0, 1, 2, 3, 4, 5, 6, 7, 8, 9, 10, 11, 16, 17, 12, 13, 14, 15, 18, 19, 20] hmx rfl hwd ?_
          clear hwd
          iterate 8 (
            refine wpI_read (v := ?_) HB.out rfl (by kernel_rfl) (by kernel_rfl) (by kernel_rfl) (fun _ _ _ h => h) (.inl ⟨by rfl, ?_⟩) ?_
            rotate_left
            · intro X hX
              have d0 := bx0 (HX.out.below hX HX.out.lt)
              have d1 := bx1 (HX.out.below hX HX.out.lt)
              have d2 := bx2 (HX.out.below hX HX.out.lt)
              have d3 := bx3 (HX.out.below hX HX.out.lt)
              have d4 := bx4 (HX.out.below hX HX.out.lt)
              clear hX
              go_simp
              with_reducible rfl
            try simp only [Act.put, List.setIfInBounds_toArray, List.set_cons_zero, List.set_cons_succ])
          refine wpI_turn [8, 16, 17, 9, 10, 11, 12, 13, 14, 15, 18, 19, 20] rfl ?_
          refine wpI_fork3 rfl rfl rfl (by kernel_rfl) (fun K hK => ?_) (fun K hK => ?_) (fun K hK => ?_)
          go_simp
          rw [HMI.out]
          refine hK _ _ HB.out ?_
          clear hK K
          try simp only [Act.put, List.setIfInBounds_toArray, List.set_cons_zero, List.set_cons_succ]
          refine wpI_turn [9, 10, 11, 12, 13, 14, 15, 16, 17, 18, 19, 20] rfl ?_
          iterate 1 (
            refine wpI_read (v := ?_) HB.out rfl (by kernel_rfl) (by kernel_rfl) (by kernel_rfl) (fun _ _ _ h => h) (.inl ⟨by rfl, ?_⟩) ?_
            rotate_left
            · intro X hX
              have hps := HPS.out X
              clear hX
              go_simp
              with_reducible rfl
            try simp only [Act.put, List.setIfInBounds_toArray, List.set_cons_zero, List.set_cons_succ])
          refine wpI_turn [10, 16, 17, 11, 12, 13, 14, 15, 18, 19, 20] rfl ?_
          refine wpI_fork3 rfl rfl rfl (by kernel_rfl) (fun K hK => ?_) (fun K hK => ?_) (fun K hK => ?_)
          go_simp
          have HC := Lib.hid (HPC.out wd HWN.out)
          refine HC.out.mono ?_
          rintro ev v1 ⟨vp, rfl, hpk, b9⟩
          obtain ⟨ap, cp, rfl⟩ := own_slice hpk
          replace HB := Lib.hid (HB.out.trans (b9.mono HB.out.size))
          replace HT := Lib.hid (HT.out.bel b9)
          replace HWN := Lib.hid (HWN.out.step b9)
          have HPK := Lib.hid hpk
          refine hK _ _ HB.out ?_
          clear hK K b9 HC hpk
          try simp only [Act.put, List.setIfInBounds_toArray, List.set_cons_zero, List.set_cons_succ]
          refine wpI_turn [11, 16, 17, 12, 13, 14, 15, 18, 19, 20] rfl ?_
          refine wpI_fork3 rfl rfl rfl (by kernel_rfl) (fun K hK => ?_) (fun K hK => ?_) (fun K hK => ?_)
          go_simp
          have HC := Lib.hid (HUC.out _ ap cp v1 HT.out HPK.out (Nat.le_trans HLW.out HB.out.size))
          refine HC.out.mono ?_
          rintro ev v2 ⟨y2, rfl, hy2, b9⟩
          replace HB := Lib.hid (HB.out.trans (b9.mono HB.out.size))
          replace HT := Lib.hid (HT.out.bel b9)
          replace HPK := Lib.hid (own_below HPK.out b9)
          replace HWN := Lib.hid (HWN.out.step b9)
          have HT2 := Lib.hid hy2
          refine hK _ _ HB.out ?_
          clear hK K b9 HC hy2
          try simp only [Act.put, List.setIfInBounds_toArray, List.set_cons_zero, List.set_cons_succ]
          refine wpI_turn [12, 13, 14, 15, 16, 17, 18, 19, 20] rfl ?_
          iterate 4 (
            refine wpI_read (v := ?_) HB.out rfl (by kernel_rfl) (by kernel_rfl) (by kernel_rfl) (fun _ _ _ h => h) (.inl ⟨by rfl, ?_⟩) ?_
            rotate_left
            · intro X hX
              have hps := HPS.out X
              clear hX
              go_simp
              with_reducible rfl
            try simp only [Act.put, List.setIfInBounds_toArray, List.set_cons_zero, List.set_cons_succ])
          refine wpI_turn [16, 17, 18, 19, 20] rfl ?_
          refine wpI_fork rfl rfl (by kernel_rfl) (fun K hK => ?_) (fun K hK => ?_)
          go_simp
          obtain ⟨v3, gA, hn, hg, bq, xq⟩ := new_box v2 #[.slice none 0 0, .slice none 0 0, .slice none 0 0, .int .u32 0, .int .u32 0] 29
          have HLHA := Lib.hid (show wd.heap.size ≤ gA from hg ▸ HB.out.size)
          rw [hn, hg]
          replace HB := Lib.hid (HB.out.trans (bq.mono HB.out.size))
          replace HT := Lib.hid (HT.out.bel bq)
          replace HPK := Lib.hid (own_below HPK.out bq)
          replace HT2 := Lib.hid (HT2.out.bel bq)
          replace HWN := Lib.hid (HWN.out.step bq)
          have HA := Lib.hid xq
          refine hK _ _ HB.out ?_
          clear hK K hn hg xq bq
          try simp only [Act.put, List.setIfInBounds_toArray, List.set_cons_zero, List.set_cons_succ]
          refine wpI_turn [17, 18, 19, 20] rfl ?_
          refine wpI_lone rfl (by kernel_rfl) (fun K hK => ?_)
          go_simp
          obtain ⟨v4, gB, hn, hg, bq, xq⟩ := new_box v3 #[.int .i64 0, .int .u32 0, .int .u32 0, .int .u32 0, .int .u32 0] 32
          have HLHE := Lib.hid (show wd.heap.size ≤ gB from hg ▸ HB.out.size)
          rw [hn, hg]
          replace HB := Lib.hid (HB.out.trans (bq.mono HB.out.size))
          replace HT := Lib.hid (HT.out.bel bq)
          replace HPK := Lib.hid (own_below HPK.out bq)
          replace HT2 := Lib.hid (HT2.out.bel bq)
          replace HA := Lib.hid (HA.out.below bq HA.out.lt)
          replace HWN := Lib.hid (HWN.out.step bq)
          have HE := Lib.hid xq
          refine hK _ _ HB.out ?_
          clear hK K hn hg xq bq
          try simp only [Act.put, List.setIfInBounds_toArray, List.set_cons_zero, List.set_cons_succ]
          rotate_left
          go_simp
          obtain ⟨v3, gB, hn, hg, bq, xq⟩ := new_box v2 #[.int .i64 0, .int .u32 0, .int .u32 0, .int .u32 0, .int .u32 0] 32
          have HLHE := Lib.hid (show wd.heap.size ≤ gB from hg ▸ HB.out.size)
          rw [hn, hg]
          replace HB := Lib.hid (HB.out.trans (bq.mono HB.out.size))
          replace HT := Lib.hid (HT.out.bel bq)
          replace HPK := Lib.hid (own_below HPK.out bq)
          replace HT2 := Lib.hid (HT2.out.bel bq)
          replace HWN := Lib.hid (HWN.out.step bq)
          have HE := Lib.hid xq
          refine hK _ _ HB.out ?_
          clear hK K hn hg xq bq
          try simp only [Act.put, List.setIfInBounds_toArray, List.set_cons_zero, List.set_cons_succ]
          refine wpI_turn [16, 18, 19, 20] rfl ?_
          refine wpI_lone rfl (by kernel_rfl) (fun K hK => ?_)
          go_simp
          obtain ⟨v4, gA, hn, hg, bq, xq⟩ := new_box v3 #[.slice none 0 0, .slice none 0 0, .slice none 0 0, .int .u32 0, .int .u32 0] 29
          have HLHA := Lib.hid (show wd.heap.size ≤ gA from hg ▸ HB.out.size)
          rw [hn, hg]
          replace HB := Lib.hid (HB.out.trans (bq.mono HB.out.size))
          replace HT := Lib.hid (HT.out.bel bq)
          replace HPK := Lib.hid (own_below HPK.out bq)
          replace HT2 := Lib.hid (HT2.out.bel bq)
          replace HE := Lib.hid (HE.out.below bq HE.out.lt)
          replace HWN := Lib.hid (HWN.out.step bq)
          have HA := Lib.hid xq
          refine hK _ _ HB.out ?_
          clear hK K hn hg xq bq
          try simp only [Act.put, List.setIfInBounds_toArray, List.set_cons_zero, List.set_cons_succ]
          rotate_left
          go_simp
          obtain ⟨v2, gA, hn, hg, bq, xq⟩ := new_box v1 #[.slice none 0 0, .slice none 0 0, .slice none 0 0, .int .u32 0, .int .u32 0] 29
          have HLHA := Lib.hid (show wd.heap.size ≤ gA from hg ▸ HB.out.size)
          rw [hn, hg]
          replace HB := Lib.hid (HB.out.trans (bq.mono HB.out.size))
          replace HT := Lib.hid (HT.out.bel bq)
          replace HPK := Lib.hid (own_below HPK.out bq)
          replace HWN := Lib.hid (HWN.out.step bq)
          have HA := Lib.hid xq
          refine hK _ _ HB.out ?_
          clear hK K hn hg xq bq
          try simp only [Act.put, List.setIfInBounds_toArray, List.set_cons_zero, List.set_cons_succ]
          refine wpI_turn [11, 17, 12, 13, 14, 15, 18, 19, 20] rfl ?_
          refine wpI_fork rfl rfl (by kernel_rfl) (fun K hK => ?_) (fun K hK => ?_)
          go_simp
          have HC := Lib.hid (HUC.out _ ap cp v2 HT.out HPK.out (Nat.le_trans HLW.out HB.out.size))
          refine HC.out.mono ?_
          rintro ev v3 ⟨y2, rfl, hy2, b9⟩
          replace HB := Lib.hid (HB.out.trans (b9.mono HB.out.size))
          replace HT := Lib.hid (HT.out.bel b9)
          replace HPK := Lib.hid (own_below HPK.out b9)
          replace HA := Lib.hid (HA.out.below b9 HA.out.lt)
          replace HWN := Lib.hid (HWN.out.step b9)
          have HT2 := Lib.hid hy2
          refine hK _ _ HB.out ?_
          clear hK K b9 HC hy2
          try simp only [Act.put, List.setIfInBounds_toArray, List.set_cons_zero, List.set_cons_succ]
          refine wpI_turn [12, 13, 14, 15, 17, 18, 19, 20] rfl ?_
          iterate 4 (
            refine wpI_read (v := ?_) HB.out rfl (by kernel_rfl) (by kernel_rfl) (by kernel_rfl) (fun _ _ _ h => h) (.inl ⟨by rfl, ?_⟩) ?_
            rotate_left
            · intro X hX
              have hps := HPS.out X
              clear hX
              go_simp
              with_reducible rfl
            try simp only [Act.put, List.setIfInBounds_toArray, List.set_cons_zero, List.set_cons_succ])
          refine wpI_turn [17, 18, 19, 20] rfl ?_
          refine wpI_lone rfl (by kernel_rfl) (fun K hK => ?_)
          go_simp
          obtain ⟨v4, gB, hn, hg, bq, xq⟩ := new_box v3 #[.int .i64 0, .int .u32 0, .int .u32 0, .int .u32 0, .int .u32 0] 32
          have HLHE := Lib.hid (show wd.heap.size ≤ gB from hg ▸ HB.out.size)
          rw [hn, hg]
          replace HB := Lib.hid (HB.out.trans (bq.mono HB.out.size))
          replace HT := Lib.hid (HT.out.bel bq)
          replace HPK := Lib.hid (own_below HPK.out bq)
          replace HA := Lib.hid (HA.out.below bq HA.out.lt)
          replace HT2 := Lib.hid (HT2.out.bel bq)
          replace HWN := Lib.hid (HWN.out.step bq)
          have HE := Lib.hid xq
          refine hK _ _ HB.out ?_
          clear hK K hn hg xq bq
          try simp only [Act.put, List.setIfInBounds_toArray, List.set_cons_zero, List.set_cons_succ]
          rotate_left
          go_simp
          obtain ⟨v3, gB, hn, hg, bq, xq⟩ := new_box v2 #[.int .i64 0, .int .u32 0, .int .u32 0, .int .u32 0, .int .u32 0] 32
          have HLHE := Lib.hid (show wd.heap.size ≤ gB from hg ▸ HB.out.size)
          rw [hn, hg]
          replace HB := Lib.hid (HB.out.trans (bq.mono HB.out.size))
          replace HT := Lib.hid (HT.out.bel bq)
          replace HPK := Lib.hid (own_below HPK.out bq)
          replace HA := Lib.hid (HA.out.below bq HA.out.lt)
          replace HWN := Lib.hid (HWN.out.step bq)
          have HE := Lib.hid xq
          refine hK _ _ HB.out ?_
          clear hK K hn hg xq bq
          try simp only [Act.put, List.setIfInBounds_toArray, List.set_cons_zero, List.set_cons_succ]
          refine wpI_turn [11, 12, 13, 14, 15, 18, 19, 20] rfl ?_
          refine wpI_lone rfl (by kernel_rfl) (fun K hK => ?_)
          go_simp
          have HC := Lib.hid (HUC.out _ ap cp v3 HT.out HPK.out (Nat.le_trans HLW.out HB.out.size))
          refine HC.out.mono ?_
          rintro ev v4 ⟨y2, rfl, hy2, b9⟩
          replace HB := Lib.hid (HB.out.trans (b9.mono HB.out.size))
          replace HT := Lib.hid (HT.out.bel b9)
          replace HPK := Lib.hid (own_below HPK.out b9)
          replace HA := Lib.hid (HA.out.below b9 HA.out.lt)
          replace HE := Lib.hid (HE.out.below b9 HE.out.lt)
          replace HWN := Lib.hid (HWN.out.step b9)
          have HT2 := Lib.hid hy2
          refine hK _ _ HB.out ?_
          clear hK K b9 HC hy2
          try simp only [Act.put, List.setIfInBounds_toArray, List.set_cons_zero, List.set_cons_succ]
          refine wpI_turn [12, 13, 14, 15, 18, 19, 20] rfl ?_
          iterate 4 (
            refine wpI_read (v := ?_) HB.out rfl (by kernel_rfl) (by kernel_rfl) (by kernel_rfl) (fun _ _ _ h => h) (.inl ⟨by rfl, ?_⟩) ?_
            rotate_left
            · intro X hX
              have hps := HPS.out X
              clear hX
              go_simp
              with_reducible rfl
            try simp only [Act.put, List.setIfInBounds_toArray, List.set_cons_zero, List.set_cons_succ])
          rotate_left
          go_simp
          obtain ⟨v2, gB, hn, hg, bq, xq⟩ := new_box v1 #[.int .i64 0, .int .u32 0, .int .u32 0, .int .u32 0, .int .u32 0] 32
          have HLHE := Lib.hid (show wd.heap.size ≤ gB from hg ▸ HB.out.size)
          rw [hn, hg]
          replace HB := Lib.hid (HB.out.trans (bq.mono HB.out.size))
          replace HT := Lib.hid (HT.out.bel bq)
          replace HPK := Lib.hid (own_below HPK.out bq)
          replace HWN := Lib.hid (HWN.out.step bq)
          have HE := Lib.hid xq
          refine hK _ _ HB.out ?_
          clear hK K hn hg xq bq
          try simp only [Act.put, List.setIfInBounds_toArray, List.set_cons_zero, List.set_cons_succ]
          refine wpI_turn [11, 16, 12, 13, 14, 15, 18, 19, 20] rfl ?_
          refine wpI_fork rfl rfl (by kernel_rfl) (fun K hK => ?_) (fun K hK => ?_)
          go_simp
          have HC := Lib.hid (HUC.out _ ap cp v2 HT.out HPK.out (Nat.le_trans HLW.out HB.out.size))
          refine HC.out.mono ?_
          rintro ev v3 ⟨y2, rfl, hy2, b9⟩
          replace HB := Lib.hid (HB.out.trans (b9.mono HB.out.size))
          replace HT := Lib.hid (HT.out.bel b9)
          replace HPK := Lib.hid (own_below HPK.out b9)
          replace HE := Lib.hid (HE.out.below b9 HE.out.lt)
          replace HWN := Lib.hid (HWN.out.step b9)
          have HT2 := Lib.hid hy2
          refine hK _ _ HB.out ?_
          clear hK K b9 HC hy2
          try simp only [Act.put, List.setIfInBounds_toArray, List.set_cons_zero, List.set_cons_succ]
          refine wpI_turn [12, 13, 14, 15, 16, 18, 19, 20] rfl ?_
          iterate 4 (
            refine wpI_read (v := ?_) HB.out rfl (by kernel_rfl) (by kernel_rfl) (by kernel_rfl) (fun _ _ _ h => h) (.inl ⟨by rfl, ?_⟩) ?_
            rotate_left
            · intro X hX
              have hps := HPS.out X
              clear hX
              go_simp
              with_reducible rfl
            try simp only [Act.put, List.setIfInBounds_toArray, List.set_cons_zero, List.set_cons_succ])
          refine wpI_turn [16, 18, 19, 20] rfl ?_
          refine wpI_lone rfl (by kernel_rfl) (fun K hK => ?_)
          go_simp
          obtain ⟨v4, gA, hn, hg, bq, xq⟩ := new_box v3 #[.slice none 0 0, .slice none 0 0, .slice none 0 0, .int .u32 0, .int .u32 0] 29
          have HLHA := Lib.hid (show wd.heap.size ≤ gA from hg ▸ HB.out.size)
          rw [hn, hg]
          replace HB := Lib.hid (HB.out.trans (bq.mono HB.out.size))
          replace HT := Lib.hid (HT.out.bel bq)
          replace HPK := Lib.hid (own_below HPK.out bq)
          replace HE := Lib.hid (HE.out.below bq HE.out.lt)
          replace HT2 := Lib.hid (HT2.out.bel bq)
          replace HWN := Lib.hid (HWN.out.step bq)
          have HA := Lib.hid xq
          refine hK _ _ HB.out ?_
          clear hK K hn hg xq bq
          try simp only [Act.put, List.setIfInBounds_toArray, List.set_cons_zero, List.set_cons_succ]
          rotate_left
          go_simp
          obtain ⟨v3, gA, hn, hg, bq, xq⟩ := new_box v2 #[.slice none 0 0, .slice none 0 0, .slice none 0 0, .int .u32 0, .int .u32 0] 29
          have HLHA := Lib.hid (show wd.heap.size ≤ gA from hg ▸ HB.out.size)
          rw [hn, hg]
          replace HB := Lib.hid (HB.out.trans (bq.mono HB.out.size))
          replace HT := Lib.hid (HT.out.bel bq)
          replace HPK := Lib.hid (own_below HPK.out bq)
          replace HE := Lib.hid (HE.out.below bq HE.out.lt)
          replace HWN := Lib.hid (HWN.out.step bq)
          have HA := Lib.hid xq
          refine hK _ _ HB.out ?_
          clear hK K hn hg xq bq
          try simp only [Act.put, List.setIfInBounds_toArray, List.set_cons_zero, List.set_cons_succ]
          refine wpI_turn [11, 12, 13, 14, 15, 18, 19, 20] rfl ?_
          refine wpI_lone rfl (by kernel_rfl) (fun K hK => ?_)
          go_simp
          have HC := Lib.hid (HUC.out _ ap cp v3 HT.out HPK.out (Nat.le_trans HLW.out HB.out.size))
          refine HC.out.mono ?_
          rintro ev v4 ⟨y2, rfl, hy2, b9⟩
          replace HB := Lib.hid (HB.out.trans (b9.mono HB.out.size))
          replace HT := Lib.hid (HT.out.bel b9)
          replace HPK := Lib.hid (own_below HPK.out b9)
          replace HE := Lib.hid (HE.out.below b9 HE.out.lt)
          replace HA := Lib.hid (HA.out.below b9 HA.out.lt)
          replace HWN := Lib.hid (HWN.out.step b9)
          have HT2 := Lib.hid hy2
          refine hK _ _ HB.out ?_
          clear hK K b9 HC hy2
          try simp only [Act.put, List.setIfInBounds_toArray, List.set_cons_zero, List.set_cons_succ]
          refine wpI_turn [12, 13, 14, 15, 18, 19, 20] rfl ?_
          iterate 4 (
            refine wpI_read (v := ?_) HB.out rfl (by kernel_rfl) (by kernel_rfl) (by kernel_rfl) (fun _ _ _ h => h) (.inl ⟨by rfl, ?_⟩) ?_
            rotate_left
            · intro X hX
              have hps := HPS.out X
              clear hX
              go_simp
              with_reducible rfl
            try simp only [Act.put, List.setIfInBounds_toArray, List.set_cons_zero, List.set_cons_succ])
          rotate_left
          go_simp
          obtain ⟨v1, gA, hn, hg, bq, xq⟩ := new_box wd #[.slice none 0 0, .slice none 0 0, .slice none 0 0, .int .u32 0, .int .u32 0] 29
          have HLHA := Lib.hid (show wd.heap.size ≤ gA from hg ▸ HB.out.size)
          rw [hn, hg]
          replace HB := Lib.hid (HB.out.trans (bq.mono HB.out.size))
          replace HT := Lib.hid (HT.out.bel bq)
          replace HWN := Lib.hid (HWN.out.step bq)
          have HA := Lib.hid xq
          refine hK _ _ HB.out ?_
          clear hK K hn hg xq bq
          try simp only [Act.put, List.setIfInBounds_toArray, List.set_cons_zero, List.set_cons_succ]
          refine wpI_turn [10, 17, 11, 12, 13, 14, 15, 18, 19, 20] rfl ?_
          refine wpI_fork rfl rfl (by kernel_rfl) (fun K hK => ?_) (fun K hK => ?_)
          go_simp
          have HC := Lib.hid (HPC.out v1 HWN.out)
          refine HC.out.mono ?_
          rintro ev v2 ⟨vp, rfl, hpk, b9⟩
          obtain ⟨ap, cp, rfl⟩ := own_slice hpk
          replace HB := Lib.hid (HB.out.trans (b9.mono HB.out.size))
          replace HT := Lib.hid (HT.out.bel b9)
          replace HA := Lib.hid (HA.out.below b9 HA.out.lt)
          replace HWN := Lib.hid (HWN.out.step b9)
          have HPK := Lib.hid hpk
          refine hK _ _ HB.out ?_
          clear hK K b9 HC hpk
          try simp only [Act.put, List.setIfInBounds_toArray, List.set_cons_zero, List.set_cons_succ]
          refine wpI_turn [11, 17, 12, 13, 14, 15, 18, 19, 20] rfl ?_
          refine wpI_fork rfl rfl (by kernel_rfl) (fun K hK => ?_) (fun K hK => ?_)
          go_simp
          have HC := Lib.hid (HUC.out _ ap cp v2 HT.out HPK.out (Nat.le_trans HLW.out HB.out.size))
          refine HC.out.mono ?_
          rintro ev v3 ⟨y2, rfl, hy2, b9⟩
          replace HB := Lib.hid (HB.out.trans (b9.mono HB.out.size))
          replace HT := Lib.hid (HT.out.bel b9)
          replace HA := Lib.hid (HA.out.below b9 HA.out.lt)
          replace HPK := Lib.hid (own_below HPK.out b9)
          replace HWN := Lib.hid (HWN.out.step b9)
          have HT2 := Lib.hid hy2
          refine hK _ _ HB.out ?_
          clear hK K b9 HC hy2
          try simp only [Act.put, List.setIfInBounds_toArray, List.set_cons_zero, List.set_cons_succ]
          refine wpI_turn [12, 13, 14, 15, 17, 18, 19, 20] rfl ?_
          iterate 4 (
            refine wpI_read (v := ?_) HB.out rfl (by kernel_rfl) (by kernel_rfl) (by kernel_rfl) (fun _ _ _ h => h) (.inl ⟨by rfl, ?_⟩) ?_
            rotate_left
            · intro X hX
              have hps := HPS.out X
              clear hX
              go_simp
              with_reducible rfl
            try simp only [Act.put, List.setIfInBounds_toArray, List.set_cons_zero, List.set_cons_succ])
          refine wpI_turn [17, 18, 19, 20] rfl ?_
          refine wpI_lone rfl (by kernel_rfl) (fun K hK => ?_)
          go_simp
          obtain ⟨v4, gB, hn, hg, bq, xq⟩ := new_box v3 #[.int .i64 0, .int .u32 0, .int .u32 0, .int .u32 0, .int .u32 0] 32
          have HLHE := Lib.hid (show wd.heap.size ≤ gB from hg ▸ HB.out.size)
          rw [hn, hg]
          replace HB := Lib.hid (HB.out.trans (bq.mono HB.out.size))
          replace HT := Lib.hid (HT.out.bel bq)
          replace HA := Lib.hid (HA.out.below bq HA.out.lt)
          replace HPK := Lib.hid (own_below HPK.out bq)
          replace HT2 := Lib.hid (HT2.out.bel bq)
          replace HWN := Lib.hid (HWN.out.step bq)
          have HE := Lib.hid xq
          refine hK _ _ HB.out ?_
          clear hK K hn hg xq bq
          try simp only [Act.put, List.setIfInBounds_toArray, List.set_cons_zero, List.set_cons_succ]
          rotate_left
          go_simp
          obtain ⟨v3, gB, hn, hg, bq, xq⟩ := new_box v2 #[.int .i64 0, .int .u32 0, .int .u32 0, .int .u32 0, .int .u32 0] 32
          have HLHE := Lib.hid (show wd.heap.size ≤ gB from hg ▸ HB.out.size)
          rw [hn, hg]
          replace HB := Lib.hid (HB.out.trans (bq.mono HB.out.size))
          replace HT := Lib.hid (HT.out.bel bq)
          replace HA := Lib.hid (HA.out.below bq HA.out.lt)
          replace HPK := Lib.hid (own_below HPK.out bq)
          replace HWN := Lib.hid (HWN.out.step bq)
          have HE := Lib.hid xq
          refine hK _ _ HB.out ?_
          clear hK K hn hg xq bq
          try simp only [Act.put, List.setIfInBounds_toArray, List.set_cons_zero, List.set_cons_succ]
          refine wpI_turn [11, 12, 13, 14, 15, 18, 19, 20] rfl ?_
          refine wpI_lone rfl (by kernel_rfl) (fun K hK => ?_)
          go_simp
          have HC := Lib.hid (HUC.out _ ap cp v3 HT.out HPK.out (Nat.le_trans HLW.out HB.out.size))
          refine HC.out.mono ?_
          rintro ev v4 ⟨y2, rfl, hy2, b9⟩
          replace HB := Lib.hid (HB.out.trans (b9.mono HB.out.size))
          replace HT := Lib.hid (HT.out.bel b9)
          replace HA := Lib.hid (HA.out.below b9 HA.out.lt)
          replace HPK := Lib.hid (own_below HPK.out b9)
          replace HE := Lib.hid (HE.out.below b9 HE.out.lt)
          replace HWN := Lib.hid (HWN.out.step b9)
          have HT2 := Lib.hid hy2
          refine hK _ _ HB.out ?_
          clear hK K b9 HC hy2
          try simp only [Act.put, List.setIfInBounds_toArray, List.set_cons_zero, List.set_cons_succ]
          refine wpI_turn [12, 13, 14, 15, 18, 19, 20] rfl ?_
          iterate 4 (
            refine wpI_read (v := ?_) HB.out rfl (by kernel_rfl) (by kernel_rfl) (by kernel_rfl) (fun _ _ _ h => h) (.inl ⟨by rfl, ?_⟩) ?_
            rotate_left
            · intro X hX
              have hps := HPS.out X
              clear hX
              go_simp
              with_reducible rfl
            try simp only [Act.put, List.setIfInBounds_toArray, List.set_cons_zero, List.set_cons_succ])
          rotate_left
          go_simp
          obtain ⟨v2, gB, hn, hg, bq, xq⟩ := new_box v1 #[.int .i64 0, .int .u32 0, .int .u32 0, .int .u32 0, .int .u32 0] 32
          have HLHE := Lib.hid (show wd.heap.size ≤ gB from hg ▸ HB.out.size)
          rw [hn, hg]
          replace HB := Lib.hid (HB.out.trans (bq.mono HB.out.size))
          replace HT := Lib.hid (HT.out.bel bq)
          replace HA := Lib.hid (HA.out.below bq HA.out.lt)
          replace HWN := Lib.hid (HWN.out.step bq)
          have HE := Lib.hid xq
          refine hK _ _ HB.out ?_
          clear hK K hn hg xq bq
          try simp only [Act.put, List.setIfInBounds_toArray, List.set_cons_zero, List.set_cons_succ]
          refine wpI_turn [10, 11, 12, 13, 14, 15, 18, 19, 20] rfl ?_
          refine wpI_lone rfl (by kernel_rfl) (fun K hK => ?_)
          go_simp
          have HC := Lib.hid (HPC.out v2 HWN.out)
          refine HC.out.mono ?_
          rintro ev v3 ⟨vp, rfl, hpk, b9⟩
          obtain ⟨ap, cp, rfl⟩ := own_slice hpk
          replace HB := Lib.hid (HB.out.trans (b9.mono HB.out.size))
          replace HT := Lib.hid (HT.out.bel b9)
          replace HA := Lib.hid (HA.out.below b9 HA.out.lt)
          replace HE := Lib.hid (HE.out.below b9 HE.out.lt)
          replace HWN := Lib.hid (HWN.out.step b9)
          have HPK := Lib.hid hpk
          refine hK _ _ HB.out ?_
          clear hK K b9 HC hpk
          try simp only [Act.put, List.setIfInBounds_toArray, List.set_cons_zero, List.set_cons_succ]
          refine wpI_turn [11, 12, 13, 14, 15, 18, 19, 20] rfl ?_
          refine wpI_lone rfl (by kernel_rfl) (fun K hK => ?_)
          go_simp
          have HC := Lib.hid (HUC.out _ ap cp v3 HT.out HPK.out (Nat.le_trans HLW.out HB.out.size))
          refine HC.out.mono ?_
          rintro ev v4 ⟨y2, rfl, hy2, b9⟩
          replace HB := Lib.hid (HB.out.trans (b9.mono HB.out.size))
          replace HT := Lib.hid (HT.out.bel b9)
          replace HA := Lib.hid (HA.out.below b9 HA.out.lt)
          replace HE := Lib.hid (HE.out.below b9 HE.out.lt)
          replace HPK := Lib.hid (own_below HPK.out b9)
          replace HWN := Lib.hid (HWN.out.step b9)
          have HT2 := Lib.hid hy2
          refine hK _ _ HB.out ?_
          clear hK K b9 HC hy2
          try simp only [Act.put, List.setIfInBounds_toArray, List.set_cons_zero, List.set_cons_succ]
          refine wpI_turn [12, 13, 14, 15, 18, 19, 20] rfl ?_
          iterate 4 (
            refine wpI_read (v := ?_) HB.out rfl (by kernel_rfl) (by kernel_rfl) (by kernel_rfl) (fun _ _ _ h => h) (.inl ⟨by rfl, ?_⟩) ?_
            rotate_left
            · intro X hX
              have hps := HPS.out X
              clear hX
              go_simp
              with_reducible rfl
            try simp only [Act.put, List.setIfInBounds_toArray, List.set_cons_zero, List.set_cons_succ])
          rotate_left
          go_simp
          obtain ⟨v1, gB, hn, hg, bq, xq⟩ := new_box wd #[.int .i64 0, .int .u32 0, .int .u32 0, .int .u32 0, .int .u32 0] 32
          have HLHE := Lib.hid (show wd.heap.size ≤ gB from hg ▸ HB.out.size)
          rw [hn, hg]
          replace HB := Lib.hid (HB.out.trans (bq.mono HB.out.size))
          replace HT := Lib.hid (HT.out.bel bq)
          replace HWN := Lib.hid (HWN.out.step bq)
          have HE := Lib.hid xq
          refine hK _ _ HB.out ?_
          clear hK K hn hg xq bq
          try simp only [Act.put, List.setIfInBounds_toArray, List.set_cons_zero, List.set_cons_succ]
          refine wpI_turn [10, 16, 11, 12, 13, 14, 15, 18, 19, 20] rfl ?_
          refine wpI_fork rfl rfl (by kernel_rfl) (fun K hK => ?_) (fun K hK => ?_)
          go_simp
          have HC := Lib.hid (HPC.out v1 HWN.out)
          refine HC.out.mono ?_
          rintro ev v2 ⟨vp, rfl, hpk, b9⟩
          obtain ⟨ap, cp, rfl⟩ := own_slice hpk
          replace HB := Lib.hid (HB.out.trans (b9.mono HB.out.size))
          replace HT := Lib.hid (HT.out.bel b9)
          replace HE := Lib.hid (HE.out.below b9 HE.out.lt)
          replace HWN := Lib.hid (HWN.out.step b9)
          have HPK := Lib.hid hpk
          refine hK _ _ HB.out ?_
          clear hK K b9 HC hpk
          try simp only [Act.put, List.setIfInBounds_toArray, List.set_cons_zero, List.set_cons_succ]
          refine wpI_turn [11, 16, 12, 13, 14, 15, 18, 19, 20] rfl ?_
          refine wpI_fork rfl rfl (by kernel_rfl) (fun K hK => ?_) (fun K hK => ?_)
          go_simp
          have HC := Lib.hid (HUC.out _ ap cp v2 HT.out HPK.out (Nat.le_trans HLW.out HB.out.size))
          refine HC.out.mono ?_
          rintro ev v3 ⟨y2, rfl, hy2, b9⟩
          replace HB := Lib.hid (HB.out.trans (b9.mono HB.out.size))
          replace HT := Lib.hid (HT.out.bel b9)
          replace HE := Lib.hid (HE.out.below b9 HE.out.lt)
          replace HPK := Lib.hid (own_below HPK.out b9)
          replace HWN := Lib.hid (HWN.out.step b9)
          have HT2 := Lib.hid hy2
          refine hK _ _ HB.out ?_
          clear hK K b9 HC hy2
          try simp only [Act.put, List.setIfInBounds_toArray, List.set_cons_zero, List.set_cons_succ]
          refine wpI_turn [12, 13, 14, 15, 16, 18, 19, 20] rfl ?_
          iterate 4 (
            refine wpI_read (v := ?_) HB.out rfl (by kernel_rfl) (by kernel_rfl) (by kernel_rfl) (fun _ _ _ h => h) (.inl ⟨by rfl, ?_⟩) ?_
            rotate_left
            · intro X hX
              have hps := HPS.out X
              clear hX
              go_simp
              with_reducible rfl
            try simp only [Act.put, List.setIfInBounds_toArray, List.set_cons_zero, List.set_cons_succ])
          refine wpI_turn [16, 18, 19, 20] rfl ?_
          refine wpI_lone rfl (by kernel_rfl) (fun K hK => ?_)
          go_simp
          obtain ⟨v4, gA, hn, hg, bq, xq⟩ := new_box v3 #[.slice none 0 0, .slice none 0 0, .slice none 0 0, .int .u32 0, .int .u32 0] 29
          have HLHA := Lib.hid (show wd.heap.size ≤ gA from hg ▸ HB.out.size)
          rw [hn, hg]
          replace HB := Lib.hid (HB.out.trans (bq.mono HB.out.size))
          replace HT := Lib.hid (HT.out.bel bq)
          replace HE := Lib.hid (HE.out.below bq HE.out.lt)
          replace HPK := Lib.hid (own_below HPK.out bq)
          replace HT2 := Lib.hid (HT2.out.bel bq)
          replace HWN := Lib.hid (HWN.out.step bq)
          have HA := Lib.hid xq
          refine hK _ _ HB.out ?_
          clear hK K hn hg xq bq
          try simp only [Act.put, List.setIfInBounds_toArray, List.set_cons_zero, List.set_cons_succ]
          rotate_left
          go_simp
          obtain ⟨v3, gA, hn, hg, bq, xq⟩ := new_box v2 #[.slice none 0 0, .slice none 0 0, .slice none 0 0, .int .u32 0, .int .u32 0] 29
          have HLHA := Lib.hid (show wd.heap.size ≤ gA from hg ▸ HB.out.size)
          rw [hn, hg]
          replace HB := Lib.hid (HB.out.trans (bq.mono HB.out.size))
          replace HT := Lib.hid (HT.out.bel bq)
          replace HE := Lib.hid (HE.out.below bq HE.out.lt)
          replace HPK := Lib.hid (own_below HPK.out bq)
          replace HWN := Lib.hid (HWN.out.step bq)
          have HA := Lib.hid xq
          refine hK _ _ HB.out ?_
          clear hK K hn hg xq bq
          try simp only [Act.put, List.setIfInBounds_toArray, List.set_cons_zero, List.set_cons_succ]
          refine wpI_turn [11, 12, 13, 14, 15, 18, 19, 20] rfl ?_
          refine wpI_lone rfl (by kernel_rfl) (fun K hK => ?_)
          go_simp
          have HC := Lib.hid (HUC.out _ ap cp v3 HT.out HPK.out (Nat.le_trans HLW.out HB.out.size))
          refine HC.out.mono ?_
          rintro ev v4 ⟨y2, rfl, hy2, b9⟩
          replace HB := Lib.hid (HB.out.trans (b9.mono HB.out.size))
          replace HT := Lib.hid (HT.out.bel b9)
          replace HE := Lib.hid (HE.out.below b9 HE.out.lt)
          replace HPK := Lib.hid (own_below HPK.out b9)
          replace HA := Lib.hid (HA.out.below b9 HA.out.lt)
          replace HWN := Lib.hid (HWN.out.step b9)
          have HT2 := Lib.hid hy2
          refine hK _ _ HB.out ?_
          clear hK K b9 HC hy2
          try simp only [Act.put, List.setIfInBounds_toArray, List.set_cons_zero, List.set_cons_succ]
          refine wpI_turn [12, 13, 14, 15, 18, 19, 20] rfl ?_
          iterate 4 (
            refine wpI_read (v := ?_) HB.out rfl (by kernel_rfl) (by kernel_rfl) (by kernel_rfl) (fun _ _ _ h => h) (.inl ⟨by rfl, ?_⟩) ?_
            rotate_left
            · intro X hX
              have hps := HPS.out X
              clear hX
              go_simp
              with_reducible rfl
            try simp only [Act.put, List.setIfInBounds_toArray, List.set_cons_zero, List.set_cons_succ])
          rotate_left
          go_simp
          obtain ⟨v2, gA, hn, hg, bq, xq⟩ := new_box v1 #[.slice none 0 0, .slice none 0 0, .slice none 0 0, .int .u32 0, .int .u32 0] 29
          have HLHA := Lib.hid (show wd.heap.size ≤ gA from hg ▸ HB.out.size)
          rw [hn, hg]
          replace HB := Lib.hid (HB.out.trans (bq.mono HB.out.size))
          replace HT := Lib.hid (HT.out.bel bq)
          replace HE := Lib.hid (HE.out.below bq HE.out.lt)
          replace HWN := Lib.hid (HWN.out.step bq)
          have HA := Lib.hid xq
          refine hK _ _ HB.out ?_
          clear hK K hn hg xq bq
          try simp only [Act.put, List.setIfInBounds_toArray, List.set_cons_zero, List.set_cons_succ]
          refine wpI_turn [10, 11, 12, 13, 14, 15, 18, 19, 20] rfl ?_
          refine wpI_lone rfl (by kernel_rfl) (fun K hK => ?_)
          go_simp
          have HC := Lib.hid (HPC.out v2 HWN.out)
          refine HC.out.mono ?_
          rintro ev v3 ⟨vp, rfl, hpk, b9⟩
          obtain ⟨ap, cp, rfl⟩ := own_slice hpk
          replace HB := Lib.hid (HB.out.trans (b9.mono HB.out.size))
          replace HT := Lib.hid (HT.out.bel b9)
          replace HE := Lib.hid (HE.out.below b9 HE.out.lt)
          replace HA := Lib.hid (HA.out.below b9 HA.out.lt)
          replace HWN := Lib.hid (HWN.out.step b9)
          have HPK := Lib.hid hpk
          refine hK _ _ HB.out ?_
          clear hK K b9 HC hpk
          try simp only [Act.put, List.setIfInBounds_toArray, List.set_cons_zero, List.set_cons_succ]
          refine wpI_turn [11, 12, 13, 14, 15, 18, 19, 20] rfl ?_
          refine wpI_lone rfl (by kernel_rfl) (fun K hK => ?_)
          go_simp
          have HC := Lib.hid (HUC.out _ ap cp v3 HT.out HPK.out (Nat.le_trans HLW.out HB.out.size))
          refine HC.out.mono ?_
          rintro ev v4 ⟨y2, rfl, hy2, b9⟩
          replace HB := Lib.hid (HB.out.trans (b9.mono HB.out.size))
          replace HT := Lib.hid (HT.out.bel b9)
          replace HE := Lib.hid (HE.out.below b9 HE.out.lt)
          replace HA := Lib.hid (HA.out.below b9 HA.out.lt)
          replace HPK := Lib.hid (own_below HPK.out b9)
          replace HWN := Lib.hid (HWN.out.step b9)
          have HT2 := Lib.hid hy2
          refine hK _ _ HB.out ?_
          clear hK K b9 HC hy2
          try simp only [Act.put, List.setIfInBounds_toArray, List.set_cons_zero, List.set_cons_succ]
          refine wpI_turn [12, 13, 14, 15, 18, 19, 20] rfl ?_
          iterate 4 (
            refine wpI_read (v := ?_) HB.out rfl (by kernel_rfl) (by kernel_rfl) (by kernel_rfl) (fun _ _ _ h => h) (.inl ⟨by rfl, ?_⟩) ?_
            rotate_left
            · intro X hX
              have hps := HPS.out X
              clear hX
              go_simp
              with_reducible rfl
            try simp only [Act.put, List.setIfInBounds_toArray, List.set_cons_zero, List.set_cons_succ])
          rotate_left
          go_simp
          obtain ⟨v1, gA, hn, hg, bq, xq⟩ := new_box wd #[.slice none 0 0, .slice none 0 0, .slice none 0 0, .int .u32 0, .int .u32 0] 29
          have HLHA := Lib.hid (show wd.heap.size ≤ gA from hg ▸ HB.out.size)
          rw [hn, hg]
          replace HB := Lib.hid (HB.out.trans (bq.mono HB.out.size))
          replace HT := Lib.hid (HT.out.bel bq)
          replace HWN := Lib.hid (HWN.out.step bq)
          have HA := Lib.hid xq
          refine hK _ _ HB.out ?_
          clear hK K hn hg xq bq
          try simp only [Act.put, List.setIfInBounds_toArray, List.set_cons_zero, List.set_cons_succ]
          refine wpI_turn [8, 17, 9, 10, 11, 12, 13, 14, 15, 18, 19, 20] rfl ?_
          refine wpI_fork rfl rfl (by kernel_rfl) (fun K hK => ?_) (fun K hK => ?_)
          go_simp
          rw [HMI.out]
          refine hK _ _ HB.out ?_
          clear hK K
          try simp only [Act.put, List.setIfInBounds_toArray, List.set_cons_zero, List.set_cons_succ]
          refine wpI_turn [9, 10, 11, 12, 13, 14, 15, 17, 18, 19, 20] rfl ?_
          iterate 1 (
            refine wpI_read (v := ?_) HB.out rfl (by kernel_rfl) (by kernel_rfl) (by kernel_rfl) (fun _ _ _ h => h) (.inl ⟨by rfl, ?_⟩) ?_
            rotate_left
            · intro X hX
              have hps := HPS.out X
              clear hX
              go_simp
              with_reducible rfl
            try simp only [Act.put, List.setIfInBounds_toArray, List.set_cons_zero, List.set_cons_succ])
          refine wpI_turn [10, 17, 11, 12, 13, 14, 15, 18, 19, 20] rfl ?_
          refine wpI_fork rfl rfl (by kernel_rfl) (fun K hK => ?_) (fun K hK => ?_)
          go_simp
          have HC := Lib.hid (HPC.out v1 HWN.out)
          refine HC.out.mono ?_
          rintro ev v2 ⟨vp, rfl, hpk, b9⟩
          obtain ⟨ap, cp, rfl⟩ := own_slice hpk
          replace HB := Lib.hid (HB.out.trans (b9.mono HB.out.size))
          replace HT := Lib.hid (HT.out.bel b9)
          replace HA := Lib.hid (HA.out.below b9 HA.out.lt)
          replace HWN := Lib.hid (HWN.out.step b9)
          have HPK := Lib.hid hpk
          refine hK _ _ HB.out ?_
          clear hK K b9 HC hpk
          try simp only [Act.put, List.setIfInBounds_toArray, List.set_cons_zero, List.set_cons_succ]
          refine wpI_turn [11, 17, 12, 13, 14, 15, 18, 19, 20] rfl ?_
          refine wpI_fork rfl rfl (by kernel_rfl) (fun K hK => ?_) (fun K hK => ?_)
          go_simp
          have HC := Lib.hid (HUC.out _ ap cp v2 HT.out HPK.out (Nat.le_trans HLW.out HB.out.size))
          refine HC.out.mono ?_
          rintro ev v3 ⟨y2, rfl, hy2, b9⟩
          replace HB := Lib.hid (HB.out.trans (b9.mono HB.out.size))
          replace HT := Lib.hid (HT.out.bel b9)
          replace HA := Lib.hid (HA.out.below b9 HA.out.lt)
          replace HPK := Lib.hid (own_below HPK.out b9)
          replace HWN := Lib.hid (HWN.out.step b9)
          have HT2 := Lib.hid hy2
          refine hK _ _ HB.out ?_
          clear hK K b9 HC hy2
          try simp only [Act.put, List.setIfInBounds_toArray, List.set_cons_zero, List.set_cons_succ]
          refine wpI_turn [12, 13, 14, 15, 17, 18, 19, 20] rfl ?_
          iterate 4 (
            refine wpI_read (v := ?_) HB.out rfl (by kernel_rfl) (by kernel_rfl) (by kernel_rfl) (fun _ _ _ h => h) (.inl ⟨by rfl, ?_⟩) ?_
            rotate_left
            · intro X hX
              have hps := HPS.out X
              clear hX
              go_simp
              with_reducible rfl
            try simp only [Act.put, List.setIfInBounds_toArray, List.set_cons_zero, List.set_cons_succ])
          refine wpI_turn [17, 18, 19, 20] rfl ?_
          refine wpI_lone rfl (by kernel_rfl) (fun K hK => ?_)
          go_simp
          obtain ⟨v4, gB, hn, hg, bq, xq⟩ := new_box v3 #[.int .i64 0, .int .u32 0, .int .u32 0, .int .u32 0, .int .u32 0] 32
          have HLHE := Lib.hid (show wd.heap.size ≤ gB from hg ▸ HB.out.size)
          rw [hn, hg]
          replace HB := Lib.hid (HB.out.trans (bq.mono HB.out.size))
          replace HT := Lib.hid (HT.out.bel bq)
          replace HA := Lib.hid (HA.out.below bq HA.out.lt)
          replace HPK := Lib.hid (own_below HPK.out bq)
          replace HT2 := Lib.hid (HT2.out.bel bq)
          replace HWN := Lib.hid (HWN.out.step bq)
          have HE := Lib.hid xq
          refine hK _ _ HB.out ?_
          clear hK K hn hg xq bq
          try simp only [Act.put, List.setIfInBounds_toArray, List.set_cons_zero, List.set_cons_succ]
          rotate_left
          go_simp
          obtain ⟨v3, gB, hn, hg, bq, xq⟩ := new_box v2 #[.int .i64 0, .int .u32 0, .int .u32 0, .int .u32 0, .int .u32 0] 32
          have HLHE := Lib.hid (show wd.heap.size ≤ gB from hg ▸ HB.out.size)
          rw [hn, hg]
          replace HB := Lib.hid (HB.out.trans (bq.mono HB.out.size))
          replace HT := Lib.hid (HT.out.bel bq)
          replace HA := Lib.hid (HA.out.below bq HA.out.lt)
          replace HPK := Lib.hid (own_below HPK.out bq)
          replace HWN := Lib.hid (HWN.out.step bq)
          have HE := Lib.hid xq
          refine hK _ _ HB.out ?_
          clear hK K hn hg xq bq
          try simp only [Act.put, List.setIfInBounds_toArray, List.set_cons_zero, List.set_cons_succ]
          refine wpI_turn [11, 12, 13, 14, 15, 18, 19, 20] rfl ?_
          refine wpI_lone rfl (by kernel_rfl) (fun K hK => ?_)
          go_simp
          have HC := Lib.hid (HUC.out _ ap cp v3 HT.out HPK.out (Nat.le_trans HLW.out HB.out.size))
          refine HC.out.mono ?_
          rintro ev v4 ⟨y2, rfl, hy2, b9⟩
          replace HB := Lib.hid (HB.out.trans (b9.mono HB.out.size))
          replace HT := Lib.hid (HT.out.bel b9)
          replace HA := Lib.hid (HA.out.below b9 HA.out.lt)
          replace HPK := Lib.hid (own_below HPK.out b9)
          replace HE := Lib.hid (HE.out.below b9 HE.out.lt)
          replace HWN := Lib.hid (HWN.out.step b9)
          have HT2 := Lib.hid hy2
          refine hK _ _ HB.out ?_
          clear hK K b9 HC hy2
          try simp only [Act.put, List.setIfInBounds_toArray, List.set_cons_zero, List.set_cons_succ]
          refine wpI_turn [12, 13, 14, 15, 18, 19, 20] rfl ?_
          iterate 4 (
            refine wpI_read (v := ?_) HB.out rfl (by kernel_rfl) (by kernel_rfl) (by kernel_rfl) (fun _ _ _ h => h) (.inl ⟨by rfl, ?_⟩) ?_
            rotate_left
            · intro X hX
              have hps := HPS.out X
              clear hX
              go_simp
              with_reducible rfl
            try simp only [Act.put, List.setIfInBounds_toArray, List.set_cons_zero, List.set_cons_succ])
          rotate_left
          go_simp
          obtain ⟨v2, gB, hn, hg, bq, xq⟩ := new_box v1 #[.int .i64 0, .int .u32 0, .int .u32 0, .int .u32 0, .int .u32 0] 32
          have HLHE := Lib.hid (show wd.heap.size ≤ gB from hg ▸ HB.out.size)
          rw [hn, hg]
          replace HB := Lib.hid (HB.out.trans (bq.mono HB.out.size))
          replace HT := Lib.hid (HT.out.bel bq)
          replace HA := Lib.hid (HA.out.below bq HA.out.lt)
          replace HWN := Lib.hid (HWN.out.step bq)
          have HE := Lib.hid xq
          refine hK _ _ HB.out ?_
          clear hK K hn hg xq bq
          try simp only [Act.put, List.setIfInBounds_toArray, List.set_cons_zero, List.set_cons_succ]
          refine wpI_turn [10, 11, 12, 13, 14, 15, 18, 19, 20] rfl ?_
          refine wpI_lone rfl (by kernel_rfl) (fun K hK => ?_)
          go_simp
          have HC := Lib.hid (HPC.out v2 HWN.out)
          refine HC.out.mono ?_
          rintro ev v3 ⟨vp, rfl, hpk, b9⟩
          obtain ⟨ap, cp, rfl⟩ := own_slice hpk
          replace HB := Lib.hid (HB.out.trans (b9.mono HB.out.size))
          replace HT := Lib.hid (HT.out.bel b9)
          replace HA := Lib.hid (HA.out.below b9 HA.out.lt)
          replace HE := Lib.hid (HE.out.below b9 HE.out.lt)
          replace HWN := Lib.hid (HWN.out.step b9)
          have HPK := Lib.hid hpk
          refine hK _ _ HB.out ?_
          clear hK K b9 HC hpk
          try simp only [Act.put, List.setIfInBounds_toArray, List.set_cons_zero, List.set_cons_succ]
          refine wpI_turn [11, 12, 13, 14, 15, 18, 19, 20] rfl ?_
          refine wpI_lone rfl (by kernel_rfl) (fun K hK => ?_)
          go_simp
          have HC := Lib.hid (HUC.out _ ap cp v3 HT.out HPK.out (Nat.le_trans HLW.out HB.out.size))
          refine HC.out.mono ?_
          rintro ev v4 ⟨y2, rfl, hy2, b9⟩
          replace HB := Lib.hid (HB.out.trans (b9.mono HB.out.size))
          replace HT := Lib.hid (HT.out.bel b9)
          replace HA := Lib.hid (HA.out.below b9 HA.out.lt)
          replace HE := Lib.hid (HE.out.below b9 HE.out.lt)
          replace HPK := Lib.hid (own_below HPK.out b9)
          replace HWN := Lib.hid (HWN.out.step b9)
          have HT2 := Lib.hid hy2
          refine hK _ _ HB.out ?_
          clear hK K b9 HC hy2
          try simp only [Act.put, List.setIfInBounds_toArray, List.set_cons_zero, List.set_cons_succ]
          refine wpI_turn [12, 13, 14, 15, 18, 19, 20] rfl ?_
          iterate 4 (
            refine wpI_read (v := ?_) HB.out rfl (by kernel_rfl) (by kernel_rfl) (by kernel_rfl) (fun _ _ _ h => h) (.inl ⟨by rfl, ?_⟩) ?_
            rotate_left
            · intro X hX
              have hps := HPS.out X
              clear hX
              go_simp
              with_reducible rfl
            try simp only [Act.put, List.setIfInBounds_toArray, List.set_cons_zero, List.set_cons_succ])
          rotate_left
          go_simp
          obtain ⟨v2, gB, hn, hg, bq, xq⟩ := new_box v1 #[.int .i64 0, .int .u32 0, .int .u32 0, .int .u32 0, .int .u32 0] 32
          have HLHE := Lib.hid (show wd.heap.size ≤ gB from hg ▸ HB.out.size)
          rw [hn, hg]
          replace HB := Lib.hid (HB.out.trans (bq.mono HB.out.size))
          replace HT := Lib.hid (HT.out.bel bq)
          replace HA := Lib.hid (HA.out.below bq HA.out.lt)
          replace HWN := Lib.hid (HWN.out.step bq)
          have HE := Lib.hid xq
          refine hK _ _ HB.out ?_
          clear hK K hn hg xq bq
          try simp only [Act.put, List.setIfInBounds_toArray, List.set_cons_zero, List.set_cons_succ]
          refine wpI_turn [8, 9, 10, 11, 12, 13, 14, 15, 18, 19, 20] rfl ?_
          refine wpI_lone rfl (by kernel_rfl) (fun K hK => ?_)
          go_simp
          rw [HMI.out]
          refine hK _ _ HB.out ?_
          clear hK K
          try simp only [Act.put, List.setIfInBounds_toArray, List.set_cons_zero, List.set_cons_succ]
          refine wpI_turn [9, 10, 11, 12, 13, 14, 15, 18, 19, 20] rfl ?_
          iterate 1 (
            refine wpI_read (v := ?_) HB.out rfl (by kernel_rfl) (by kernel_rfl) (by kernel_rfl) (fun _ _ _ h => h) (.inl ⟨by rfl, ?_⟩) ?_
            rotate_left
            · intro X hX
              have hps := HPS.out X
              clear hX
              go_simp
              with_reducible rfl
            try simp only [Act.put, List.setIfInBounds_toArray, List.set_cons_zero, List.set_cons_succ])
          refine wpI_turn [10, 11, 12, 13, 14, 15, 18, 19, 20] rfl ?_
          refine wpI_lone rfl (by kernel_rfl) (fun K hK => ?_)
          go_simp
          have HC := Lib.hid (HPC.out v2 HWN.out)
          refine HC.out.mono ?_
          rintro ev v3 ⟨vp, rfl, hpk, b9⟩
          obtain ⟨ap, cp, rfl⟩ := own_slice hpk
          replace HB := Lib.hid (HB.out.trans (b9.mono HB.out.size))
          replace HT := Lib.hid (HT.out.bel b9)
          replace HA := Lib.hid (HA.out.below b9 HA.out.lt)
          replace HE := Lib.hid (HE.out.below b9 HE.out.lt)
          replace HWN := Lib.hid (HWN.out.step b9)
          have HPK := Lib.hid hpk
          refine hK _ _ HB.out ?_
          clear hK K b9 HC hpk
          try simp only [Act.put, List.setIfInBounds_toArray, List.set_cons_zero, List.set_cons_succ]
          refine wpI_turn [11, 12, 13, 14, 15, 18, 19, 20] rfl ?_
          refine wpI_lone rfl (by kernel_rfl) (fun K hK => ?_)
          go_simp
          have HC := Lib.hid (HUC.out _ ap cp v3 HT.out HPK.out (Nat.le_trans HLW.out HB.out.size))
          refine HC.out.mono ?_
          rintro ev v4 ⟨y2, rfl, hy2, b9⟩
          replace HB := Lib.hid (HB.out.trans (b9.mono HB.out.size))
          replace HT := Lib.hid (HT.out.bel b9)
          replace HA := Lib.hid (HA.out.below b9 HA.out.lt)
          replace HE := Lib.hid (HE.out.below b9 HE.out.lt)
          replace HPK := Lib.hid (own_below HPK.out b9)
          replace HWN := Lib.hid (HWN.out.step b9)
          have HT2 := Lib.hid hy2
          refine hK _ _ HB.out ?_
          clear hK K b9 HC hy2
          try simp only [Act.put, List.setIfInBounds_toArray, List.set_cons_zero, List.set_cons_succ]
          refine wpI_turn [12, 13, 14, 15, 18, 19, 20] rfl ?_
          iterate 4 (
            refine wpI_read (v := ?_) HB.out rfl (by kernel_rfl) (by kernel_rfl) (by kernel_rfl) (fun _ _ _ h => h) (.inl ⟨by rfl, ?_⟩) ?_
            rotate_left
            · intro X hX
              have hps := HPS.out X
              clear hX
              go_simp
              with_reducible rfl
            try simp only [Act.put, List.setIfInBounds_toArray, List.set_cons_zero, List.set_cons_succ])
          rotate_left
          go_simp
          obtain ⟨v1, gB, hn, hg, bq, xq⟩ := new_box wd #[.int .i64 0, .int .u32 0, .int .u32 0, .int .u32 0, .int .u32 0] 32
          have HLHE := Lib.hid (show wd.heap.size ≤ gB from hg ▸ HB.out.size)
          rw [hn, hg]
          replace HB := Lib.hid (HB.out.trans (bq.mono HB.out.size))
          replace HT := Lib.hid (HT.out.bel bq)
          replace HWN := Lib.hid (HWN.out.step bq)
          have HE := Lib.hid xq
          refine hK _ _ HB.out ?_
          clear hK K hn hg xq bq
          try simp only [Act.put, List.setIfInBounds_toArray, List.set_cons_zero, List.set_cons_succ]
          refine wpI_turn [8, 16, 9, 10, 11, 12, 13, 14, 15, 18, 19, 20] rfl ?_
          refine wpI_fork rfl rfl (by kernel_rfl) (fun K hK => ?_) (fun K hK => ?_)
          go_simp
          rw [HMI.out]
          refine hK _ _ HB.out ?_
          clear hK K
          try simp only [Act.put, List.setIfInBounds_toArray, List.set_cons_zero, List.set_cons_succ]
          refine wpI_turn [9, 10, 11, 12, 13, 14, 15, 16, 18, 19, 20] rfl ?_
          iterate 1 (
            refine wpI_read (v := ?_) HB.out rfl (by kernel_rfl) (by kernel_rfl) (by kernel_rfl) (fun _ _ _ h => h) (.inl ⟨by rfl, ?_⟩) ?_
            rotate_left
            · intro X hX
              have hps := HPS.out X
              clear hX
              go_simp
              with_reducible rfl
            try simp only [Act.put, List.setIfInBounds_toArray, List.set_cons_zero, List.set_cons_succ])
          refine wpI_turn [10, 16, 11, 12, 13, 14, 15, 18, 19, 20] rfl ?_
          refine wpI_fork rfl rfl (by kernel_rfl) (fun K hK => ?_) (fun K hK => ?_)
          go_simp
          have HC := Lib.hid (HPC.out v1 HWN.out)
          refine HC.out.mono ?_
          rintro ev v2 ⟨vp, rfl, hpk, b9⟩
          obtain ⟨ap, cp, rfl⟩ := own_slice hpk
          replace HB := Lib.hid (HB.out.trans (b9.mono HB.out.size))
          replace HT := Lib.hid (HT.out.bel b9)
          replace HE := Lib.hid (HE.out.below b9 HE.out.lt)
          replace HWN := Lib.hid (HWN.out.step b9)
          have HPK := Lib.hid hpk
          refine hK _ _ HB.out ?_
          clear hK K b9 HC hpk
          try simp only [Act.put, List.setIfInBounds_toArray, List.set_cons_zero, List.set_cons_succ]
          refine wpI_turn [11, 16, 12, 13, 14, 15, 18, 19, 20] rfl ?_
          refine wpI_fork rfl rfl (by kernel_rfl) (fun K hK => ?_) (fun K hK => ?_)
          go_simp
          have HC := Lib.hid (HUC.out _ ap cp v2 HT.out HPK.out (Nat.le_trans HLW.out HB.out.size))
          refine HC.out.mono ?_
          rintro ev v3 ⟨y2, rfl, hy2, b9⟩
          replace HB := Lib.hid (HB.out.trans (b9.mono HB.out.size))
          replace HT := Lib.hid (HT.out.bel b9)
          replace HE := Lib.hid (HE.out.below b9 HE.out.lt)
          replace HPK := Lib.hid (own_below HPK.out b9)
          replace HWN := Lib.hid (HWN.out.step b9)
          have HT2 := Lib.hid hy2
          refine hK _ _ HB.out ?_
          clear hK K b9 HC hy2
          try simp only [Act.put, List.setIfInBounds_toArray, List.set_cons_zero, List.set_cons_succ]
          refine wpI_turn [12, 13, 14, 15, 16, 18, 19, 20] rfl ?_
          iterate 4 (
            refine wpI_read (v := ?_) HB.out rfl (by kernel_rfl) (by kernel_rfl) (by kernel_rfl) (fun _ _ _ h => h) (.inl ⟨by rfl, ?_⟩) ?_
            rotate_left
            · intro X hX
              have hps := HPS.out X
              clear hX
              go_simp
              with_reducible rfl
            try simp only [Act.put, List.setIfInBounds_toArray, List.set_cons_zero, List.set_cons_succ])
          refine wpI_turn [16, 18, 19, 20] rfl ?_
          refine wpI_lone rfl (by kernel_rfl) (fun K hK => ?_)
          go_simp
          obtain ⟨v4, gA, hn, hg, bq, xq⟩ := new_box v3 #[.slice none 0 0, .slice none 0 0, .slice none 0 0, .int .u32 0, .int .u32 0] 29
          have HLHA := Lib.hid (show wd.heap.size ≤ gA from hg ▸ HB.out.size)
          rw [hn, hg]
          replace HB := Lib.hid (HB.out.trans (bq.mono HB.out.size))
          replace HT := Lib.hid (HT.out.bel bq)
          replace HE := Lib.hid (HE.out.below bq HE.out.lt)
          replace HPK := Lib.hid (own_below HPK.out bq)
          replace HT2 := Lib.hid (HT2.out.bel bq)
          replace HWN := Lib.hid (HWN.out.step bq)
          have HA := Lib.hid xq
          refine hK _ _ HB.out ?_
          clear hK K hn hg xq bq
          try simp only [Act.put, List.setIfInBounds_toArray, List.set_cons_zero, List.set_cons_succ]
          rotate_left
          go_simp
          obtain ⟨v3, gA, hn, hg, bq, xq⟩ := new_box v2 #[.slice none 0 0, .slice none 0 0, .slice none 0 0, .int .u32 0, .int .u32 0] 29
          have HLHA := Lib.hid (show wd.heap.size ≤ gA from hg ▸ HB.out.size)
          rw [hn, hg]
          replace HB := Lib.hid (HB.out.trans (bq.mono HB.out.size))
          replace HT := Lib.hid (HT.out.bel bq)
          replace HE := Lib.hid (HE.out.below bq HE.out.lt)
          replace HPK := Lib.hid (own_below HPK.out bq)
          replace HWN := Lib.hid (HWN.out.step bq)
          have HA := Lib.hid xq
          refine hK _ _ HB.out ?_
          clear hK K hn hg xq bq
          try simp only [Act.put, List.setIfInBounds_toArray, List.set_cons_zero, List.set_cons_succ]
          refine wpI_turn [11, 12, 13, 14, 15, 18, 19, 20] rfl ?_
          refine wpI_lone rfl (by kernel_rfl) (fun K hK => ?_)
          go_simp
          have HC := Lib.hid (HUC.out _ ap cp v3 HT.out HPK.out (Nat.le_trans HLW.out HB.out.size))
          refine HC.out.mono ?_
          rintro ev v4 ⟨y2, rfl, hy2, b9⟩
          replace HB := Lib.hid (HB.out.trans (b9.mono HB.out.size))
          replace HT := Lib.hid (HT.out.bel b9)
          replace HE := Lib.hid (HE.out.below b9 HE.out.lt)
          replace HPK := Lib.hid (own_below HPK.out b9)
          replace HA := Lib.hid (HA.out.below b9 HA.out.lt)
          replace HWN := Lib.hid (HWN.out.step b9)
          have HT2 := Lib.hid hy2
          refine hK _ _ HB.out ?_
          clear hK K b9 HC hy2
          try simp only [Act.put, List.setIfInBounds_toArray, List.set_cons_zero, List.set_cons_succ]
          refine wpI_turn [12, 13, 14, 15, 18, 19, 20] rfl ?_
          iterate 4 (
            refine wpI_read (v := ?_) HB.out rfl (by kernel_rfl) (by kernel_rfl) (by kernel_rfl) (fun _ _ _ h => h) (.inl ⟨by rfl, ?_⟩) ?_
            rotate_left
            · intro X hX
              have hps := HPS.out X
              clear hX
              go_simp
              with_reducible rfl
            try simp only [Act.put, List.setIfInBounds_toArray, List.set_cons_zero, List.set_cons_succ])
          rotate_left
          go_simp
          obtain ⟨v2, gA, hn, hg, bq, xq⟩ := new_box v1 #[.slice none 0 0, .slice none 0 0, .slice none 0 0, .int .u32 0, .int .u32 0] 29
          have HLHA := Lib.hid (show wd.heap.size ≤ gA from hg ▸ HB.out.size)
          rw [hn, hg]
          replace HB := Lib.hid (HB.out.trans (bq.mono HB.out.size))
          replace HT := Lib.hid (HT.out.bel bq)
          replace HE := Lib.hid (HE.out.below bq HE.out.lt)
          replace HWN := Lib.hid (HWN.out.step bq)
          have HA := Lib.hid xq
          refine hK _ _ HB.out ?_
          clear hK K hn hg xq bq
          try simp only [Act.put, List.setIfInBounds_toArray, List.set_cons_zero, List.set_cons_succ]
          refine wpI_turn [10, 11, 12, 13, 14, 15, 18, 19, 20] rfl ?_
          refine wpI_lone rfl (by kernel_rfl) (fun K hK => ?_)
          go_simp
          have HC := Lib.hid (HPC.out v2 HWN.out)
          refine HC.out.mono ?_
          rintro ev v3 ⟨vp, rfl, hpk, b9⟩
          obtain ⟨ap, cp, rfl⟩ := own_slice hpk
          replace HB := Lib.hid (HB.out.trans (b9.mono HB.out.size))
          replace HT := Lib.hid (HT.out.bel b9)
          replace HE := Lib.hid (HE.out.below b9 HE.out.lt)
          replace HA := Lib.hid (HA.out.below b9 HA.out.lt)
          replace HWN := Lib.hid (HWN.out.step b9)
          have HPK := Lib.hid hpk
          refine hK _ _ HB.out ?_
          clear hK K b9 HC hpk
          try simp only [Act.put, List.setIfInBounds_toArray, List.set_cons_zero, List.set_cons_succ]
          refine wpI_turn [11, 12, 13, 14, 15, 18, 19, 20] rfl ?_
          refine wpI_lone rfl (by kernel_rfl) (fun K hK => ?_)
          go_simp
          have HC := Lib.hid (HUC.out _ ap cp v3 HT.out HPK.out (Nat.le_trans HLW.out HB.out.size))
          refine HC.out.mono ?_
          rintro ev v4 ⟨y2, rfl, hy2, b9⟩
          replace HB := Lib.hid (HB.out.trans (b9.mono HB.out.size))
          replace HT := Lib.hid (HT.out.bel b9)
          replace HE := Lib.hid (HE.out.below b9 HE.out.lt)
          replace HA := Lib.hid (HA.out.below b9 HA.out.lt)
          replace HPK := Lib.hid (own_below HPK.out b9)
          replace HWN := Lib.hid (HWN.out.step b9)
          have HT2 := Lib.hid hy2
          refine hK _ _ HB.out ?_
          clear hK K b9 HC hy2
          try simp only [Act.put, List.setIfInBounds_toArray, List.set_cons_zero, List.set_cons_succ]
          refine wpI_turn [12, 13, 14, 15, 18, 19, 20] rfl ?_
          iterate 4 (
            refine wpI_read (v := ?_) HB.out rfl (by kernel_rfl) (by kernel_rfl) (by kernel_rfl) (fun _ _ _ h => h) (.inl ⟨by rfl, ?_⟩) ?_
            rotate_left
            · intro X hX
              have hps := HPS.out X
              clear hX
              go_simp
              with_reducible rfl
            try simp only [Act.put, List.setIfInBounds_toArray, List.set_cons_zero, List.set_cons_succ])
          rotate_left
          go_simp
          obtain ⟨v2, gA, hn, hg, bq, xq⟩ := new_box v1 #[.slice none 0 0, .slice none 0 0, .slice none 0 0, .int .u32 0, .int .u32 0] 29
          have HLHA := Lib.hid (show wd.heap.size ≤ gA from hg ▸ HB.out.size)
          rw [hn, hg]
          replace HB := Lib.hid (HB.out.trans (bq.mono HB.out.size))
          replace HT := Lib.hid (HT.out.bel bq)
          replace HE := Lib.hid (HE.out.below bq HE.out.lt)
          replace HWN := Lib.hid (HWN.out.step bq)
          have HA := Lib.hid xq
          refine hK _ _ HB.out ?_
          clear hK K hn hg xq bq
          try simp only [Act.put, List.setIfInBounds_toArray, List.set_cons_zero, List.set_cons_succ]
          refine wpI_turn [8, 9, 10, 11, 12, 13, 14, 15, 18, 19, 20] rfl ?_
          refine wpI_lone rfl (by kernel_rfl) (fun K hK => ?_)
          go_simp
          rw [HMI.out]
          refine hK _ _ HB.out ?_
          clear hK K
          try simp only [Act.put, List.setIfInBounds_toArray, List.set_cons_zero, List.set_cons_succ]
          refine wpI_turn [9, 10, 11, 12, 13, 14, 15, 18, 19, 20] rfl ?_
          iterate 1 (
            refine wpI_read (v := ?_) HB.out rfl (by kernel_rfl) (by kernel_rfl) (by kernel_rfl) (fun _ _ _ h => h) (.inl ⟨by rfl, ?_⟩) ?_
            rotate_left
            · intro X hX
              have hps := HPS.out X
              clear hX
              go_simp
              with_reducible rfl
            try simp only [Act.put, List.setIfInBounds_toArray, List.set_cons_zero, List.set_cons_succ])
          refine wpI_turn [10, 11, 12, 13, 14, 15, 18, 19, 20] rfl ?_
          refine wpI_lone rfl (by kernel_rfl) (fun K hK => ?_)
          go_simp
          have HC := Lib.hid (HPC.out v2 HWN.out)
          refine HC.out.mono ?_
          rintro ev v3 ⟨vp, rfl, hpk, b9⟩
          obtain ⟨ap, cp, rfl⟩ := own_slice hpk
          replace HB := Lib.hid (HB.out.trans (b9.mono HB.out.size))
          replace HT := Lib.hid (HT.out.bel b9)
          replace HE := Lib.hid (HE.out.below b9 HE.out.lt)
          replace HA := Lib.hid (HA.out.below b9 HA.out.lt)
          replace HWN := Lib.hid (HWN.out.step b9)
          have HPK := Lib.hid hpk
          refine hK _ _ HB.out ?_
          clear hK K b9 HC hpk
          try simp only [Act.put, List.setIfInBounds_toArray, List.set_cons_zero, List.set_cons_succ]
          refine wpI_turn [11, 12, 13, 14, 15, 18, 19, 20] rfl ?_
          refine wpI_lone rfl (by kernel_rfl) (fun K hK => ?_)
          go_simp
          have HC := Lib.hid (HUC.out _ ap cp v3 HT.out HPK.out (Nat.le_trans HLW.out HB.out.size))
          refine HC.out.mono ?_
          rintro ev v4 ⟨y2, rfl, hy2, b9⟩
          replace HB := Lib.hid (HB.out.trans (b9.mono HB.out.size))
          replace HT := Lib.hid (HT.out.bel b9)
          replace HE := Lib.hid (HE.out.below b9 HE.out.lt)
          replace HA := Lib.hid (HA.out.below b9 HA.out.lt)
          replace HPK := Lib.hid (own_below HPK.out b9)
          replace HWN := Lib.hid (HWN.out.step b9)
          have HT2 := Lib.hid hy2
          refine hK _ _ HB.out ?_
          clear hK K b9 HC hy2
          try simp only [Act.put, List.setIfInBounds_toArray, List.set_cons_zero, List.set_cons_succ]
          refine wpI_turn [12, 13, 14, 15, 18, 19, 20] rfl ?_
          iterate 4 (
            refine wpI_read (v := ?_) HB.out rfl (by kernel_rfl) (by kernel_rfl) (by kernel_rfl) (fun _ _ _ h => h) (.inl ⟨by rfl, ?_⟩) ?_
            rotate_left
            · intro X hX
              have hps := HPS.out X
              clear hX
              go_simp
              with_reducible rfl
            try simp only [Act.put, List.setIfInBounds_toArray, List.set_cons_zero, List.set_cons_succ])
          rotate_left
          all_goals (
            have HNE := Lib.hid (show gA ≠ gB from HA.out.ne HE.out (by decide))
            refine wpI_lone rfl (by kernel_rfl) (fun K hK => ?_)
            have m0 := stZ0 HA.out
            have m1 := stZ1 HA.out
            have m2 := stZ2 HA.out
            have m3 := stZ3 HA.out
            have m4 := stZ4 HA.out
            have hfz := fun i => HA.out.frozen i
            obtain ⟨xa, ka, ba⟩ := box_five (L := L) HA.out (by decide) (Nat.le_trans HLW.out HLHA.out) HB.out HLHA.out (.slice y2.d.ba T2.1.1.length y2.d.bc) (.slice y2.d.wa T2.1.2.length y2.d.wc) (.slice y2.a T2.2.1.length y2.c) (.int .u32 (T2.2.2.1 : Int)) (.int .u32 (T2.2.2.2 : Int))
            have yHE := far5_bl (g := gA) HE.out HNE.out.symm (.slice y2.d.ba T2.1.1.length y2.d.bc) (.slice y2.d.wa T2.1.2.length y2.d.wc) (.slice y2.a T2.2.1.length y2.c) (.int .u32 (T2.2.2.1 : Int)) (.int .u32 (T2.2.2.2 : Int))
            obtain ⟨v5, hn⟩ : ∃ X, set5 v4 gA (.slice y2.d.ba T2.1.1.length y2.d.bc) (.slice y2.d.wa T2.1.2.length y2.d.wc) (.slice y2.a T2.2.1.length y2.c) (.int .u32 (T2.2.2.1 : Int)) (.int .u32 (T2.2.2.2 : Int)) = X := ⟨_, rfl⟩
            rw [hn] at xa ka ba yHE
            simp only [set5] at hn
            go_simp
            replace HB := Lib.hid ba
            replace HA := Lib.hid xa
            replace HE := Lib.hid yHE
            replace HT := Lib.hid (HT.out.step ka)
            replace HT2 := Lib.hid (HT2.out.step ka)
            refine hK _ _ HB.out ?_
            clear hK K hn xa ka ba hfz m0 m1 m2 m3 m4 yHE
            try simp only [Act.put, List.setIfInBounds_toArray, List.set_cons_zero, List.set_cons_succ]
            refine wpI_lone rfl (by kernel_rfl) (fun K hK => ?_)
            have m0 := ptZ0 HE.out
            have m1 := ptZ1 HE.out
            have m2 := ptZ2 HE.out
            have m3 := ptZ3 HE.out
            have m4 := ptZ4 HE.out
            have hfz := fun i => HE.out.frozen i
            obtain ⟨xa, ka, ba⟩ := box_five (L := L) HE.out (by decide) (Nat.le_trans HLW.out HLHE.out) HB.out HLHE.out (.int .i64 qa) (.int .u32 (qb : Int)) (.int .u32 (qi : Int)) (.int .u32 (qt : Int)) (.int .u32 (qs : Int))
            have yHA := far5_bl (g := gB) HA.out HNE.out (.int .i64 qa) (.int .u32 (qb : Int)) (.int .u32 (qi : Int)) (.int .u32 (qt : Int)) (.int .u32 (qs : Int))
            obtain ⟨v6, hn⟩ : ∃ X, set5 v5 gB (.int .i64 qa) (.int .u32 (qb : Int)) (.int .u32 (qi : Int)) (.int .u32 (qt : Int)) (.int .u32 (qs : Int)) = X := ⟨_, rfl⟩
            rw [hn] at xa ka ba yHA
            simp only [set5] at hn
            go_simp
            replace HB := Lib.hid ba
            replace HE := Lib.hid xa
            replace HA := Lib.hid yHA
            replace HT := Lib.hid (HT.out.step ka)
            replace HT2 := Lib.hid (HT2.out.step ka)
            refine hK _ _ HB.out ?_
            clear hK K hn xa ka ba hfz m0 m1 m2 m3 m4 yHA
            try simp only [Act.put, List.setIfInBounds_toArray, List.set_cons_zero, List.set_cons_succ]
            iterate 1 (
              refine wpI_read (v := ?_) HB.out rfl (by kernel_rfl) (by kernel_rfl) (by kernel_rfl) (fun _ _ _ h => h) (.inl ⟨by rfl, ?_⟩) ?_
              rotate_left
              · intro X hX
                have hps := HPS.out X
                clear hX
                go_simp
                with_reducible rfl
              try simp only [Act.put, List.setIfInBounds_toArray, List.set_cons_zero, List.set_cons_succ])
            refine wpI_done (by kernel_rfl) ?_
            go_wp2_with fail
            go_meet
            exact ⟨gA, gB, y2, rfl, rfl, rfl, HA.out, HE.out, HT2.out, HBd.out.trans (HB.out.mono HBd.out.size), Nat.le_trans HBd.out.size HLHA.out, Nat.le_trans HBd.out.size HLHE.out, HNE.out⟩)
        obtain ⟨gA, gB, y2, rfl, rfl, rfl, hA, hE, hy2, hbw, hgA, hgB, hne⟩ := hcut
        rename World => w4
        have HSR := Lib.hid (show g < wr.heap.size ∧ g1 < wr.heap.size ∧ g2 < wr.heap.size from ⟨HX.out.lt, HY.out.lt, HQ.out.lt⟩)
        replace HX := Lib.hid (HX.out.below hbw HX.out.lt)
        replace HY := Lib.hid (HY.out.below hbw HY.out.lt)
        replace HQ := Lib.hid (HQ.out.below hbw HQ.out.lt)
        replace HT := Lib.hid (HT.out.bel hbw)
        replace HB := Lib.hid (HB.out.trans (hbw.mono HB.out.size))
        replace HU := Lib.hid (own_below HU.out hbw)
        replace HP := Lib.hid (HP.out.step hbw)
        replace HLW := Lib.hid (Nat.le_trans HLW.out hbw.size)
        replace HV := Lib.hid (HV.out.below hbw)
        replace HBG := Lib.hid (Nat.le_trans HBG.out hbw.size)
        have HA := Lib.hid hA
        have HE := Lib.hid hE
        have HT2 := Lib.hid hy2
        have HGB := Lib.hid hgB
        have HGG := Lib.hid (show gA ≠ gB ∧ gA ≠ g ∧ gA ≠ g1 ∧ gA ≠ g2 ∧ gB ≠ g ∧ gB ≠ g1 ∧ gB ≠ g2 by have := HSR.out; omega)
        clear hA hE hy2 hbw hgA hgB hne HUC HPC HWN
        cases r with
        | false =>
          have hpn : putS T b 0 0 (rowTo (rowD l k) (rowD l k).length) = none := by simpa using HRR.out
          have hl1 : laidTo S b l (k + 1) = none := by rw [laidTo, HLT.out]; simp only; rw [hpn]
          have hlR : laidTo S b l R = none := laid_stop hl1 (by have := HRN.out; omega)
          have HO := Lib.hid (show layedO S b l = (st0, p0, [], 9) by
            unfold layedO
            rw [if_neg (fun e => by rw [← HLN.out, e] at hn; exact absurd hn (Nat.lt_irrefl _)), HLN.out, HRE.out, hlR])
          clear hpn hl1 hlR
          have m0 := stZ0 HY.out
          have m1 := stZ1 HY.out
          have m2 := stZ2 HY.out
          have m3 := stZ3 HY.out
          have m4 := stZ4 HY.out
          have mf := fun i => HY.out.frozen i
          obtain ⟨xa, ka, ba⟩ := box_five (L := L) HY.out (by decide) HI.out.1 HB.out HI.out.2.1 (.slice none 0 0) (.slice none 0 0) (.slice none 0 0) (.int .u32 0) (.int .u32 0)
          have ya := far5_bl (g := g1) HQ.out HI.out.2.2.2.2.2.1 (.slice none 0 0) (.slice none 0 0) (.slice none 0 0) (.int .u32 0) (.int .u32 0)
          obtain ⟨wa, hwa⟩ : ∃ wa, set5 w4 g1 (.slice none 0 0) (.slice none 0 0) (.slice none 0 0) (.int .u32 0) (.int .u32 0) = wa := ⟨_, rfl⟩
          rw [hwa] at xa ka ba ya
          simp only [set5] at hwa
          have n0 := ptZ0 ya
          have n1 := ptZ1 ya
          have n2 := ptZ2 ya
          have n3 := ptZ3 ya
          have n4 := ptZ4 ya
          have nf := fun i => ya.frozen i
          obtain ⟨xb, kb, bb⟩ := box_five (L := L) ya (by decide) HI.out.2.2.1 ba HI.out.2.2.2.1 (.int .i64 0) (.int .u32 0) (.int .u32 0) (.int .u32 0) (.int .u32 0)
          have yb := far5_bl (g := g2) xa HI.out.2.2.2.2.1 (.int .i64 0) (.int .u32 0) (.int .u32 0) (.int .u32 0) (.int .u32 0)
          obtain ⟨wb, hwb⟩ : ∃ wb, set5 wa g2 (.int .i64 0) (.int .u32 0) (.int .u32 0) (.int .u32 0) (.int .u32 0) = wb := ⟨_, rfl⟩
          rw [hwb] at xb kb bb yb
          simp only [set5] at hwb
          replace HY := Lib.hid yb
          replace HQ := Lib.hid xb
          replace HB := Lib.hid bb
          have HKK := Lib.hid (ka.trans kb)
          clear xa ka ba ya xb kb bb yb
          go_wp2_with fail
          clear m0 m1 m2 m3 m4 mf hwa n0 n1 n2 n3 n4 nf hwb
          have e0 := bx0 HY.out
          have e1 := bx1 HY.out
          have e2 := bx2 HY.out
          have e3 := bx3 HY.out
          have e4 := bx4 HY.out
          have f0 := bx0 HQ.out
          have f1 := bx1 HQ.out
          have f2 := bx2 HQ.out
          have f3 := bx3 HQ.out
          have f4 := bx4 HQ.out
          refine bodyPost_ret (v := .tuple #[.agg #[.slice none 0 0, .slice none 0 0, .slice none 0 0, .int .u32 0, .int .u32 0], .agg #[.int .i64 0, .int .u32 0, .int .u32 0, .int .u32 0, .int .u32 0], .slice none 0 0, .bool false]) (by simp [results, Tryz.f23, go_sem, e0, e1, e2, e3, e4, f0, f1, f2, f3, f4]) rfl ?_
          rw [HO.out]
          exact ⟨at0, _, rfl, st0_lasts L _, World.ownsRow_nil _ _ _ _, HB.out⟩
        | true =>
          have hps : putS T b 0 0 (rowTo (rowD l k) ((rowD l k)).length) = some (T2, (qa, qb, qi, qt, qs)) := by
            have h1 := HRR.out
            have h2 := HOO.out
            cases hp : putS T b 0 0 (rowTo (rowD l k) ((rowD l k)).length) with
            | none => rw [hp] at h1; cases h1
            | some sp =>
              rw [hp] at h2
              obtain ⟨s1, s2⟩ := sp
              unfold putR at h2
              simp only [Prod.mk.injEq] at h2
              obtain ⟨rfl, rfl, _⟩ := h2
              rfl
          have hst : laidTo S b l (k + 1) = some (T2, ps ++ [(qa, qb, qi, qt, qs)]) := by rw [laidTo, HLT.out]; simp only; rw [hps]
          have HST := Lib.hid hst
          have hqn : ((qa.toNat : Nat) : Int) = qa := by
            obtain ⟨z, hz, _⟩ := putS_at hps
            simp only at hz
            omega
          have HQN := Lib.hid hqn
          have HGLT := Lib.hid (show w.heap.size < w0.heap.size from HGLO.out.1)
          have HILT := Lib.hid (show g < w0.heap.size ∧ g1 < w0.heap.size ∧ g2 < w0.heap.size from HGLO.out.2)
          clear hps hst hqn
          have x0 := bx0 HX.out
          have x1 := bx1 HX.out
          have x2 := bx2 HX.out
          have x3 := bx3 HX.out
          have x4 := bx4 HX.out
          have xf := fun i => HX.out.frozen i
          obtain ⟨xa, ka, ba⟩ := box_five (L := L) HX.out (by decide) HI.out.2.2.2.2.2.2.2.2.1 HB.out HI.out.2.2.2.2.2.2.2.2.2.1 (.slice y2.d.ba T2.1.1.length y2.d.bc) (.slice y2.d.wa T2.1.2.length y2.d.wc) (.slice y2.a T2.2.1.length y2.c) (.int .u32 (T2.2.2.1 : Int)) (.int .u32 (T2.2.2.2 : Int))
          have yA := far5_bl (g := g) HA.out HGG.out.2.1 (.slice y2.d.ba T2.1.1.length y2.d.bc) (.slice y2.d.wa T2.1.2.length y2.d.wc) (.slice y2.a T2.2.1.length y2.c) (.int .u32 (T2.2.2.1 : Int)) (.int .u32 (T2.2.2.2 : Int))
          have yE := far5_bl (g := g) HE.out HGG.out.2.2.2.2.1 (.slice y2.d.ba T2.1.1.length y2.d.bc) (.slice y2.d.wa T2.1.2.length y2.d.wc) (.slice y2.a T2.2.1.length y2.c) (.int .u32 (T2.2.2.1 : Int)) (.int .u32 (T2.2.2.2 : Int))
          have yY := far5_bl (g := g) HY.out HI.out.2.2.2.2.2.2.2.2.2.2.1 (.slice y2.d.ba T2.1.1.length y2.d.bc) (.slice y2.d.wa T2.1.2.length y2.d.wc) (.slice y2.a T2.2.1.length y2.c) (.int .u32 (T2.2.2.1 : Int)) (.int .u32 (T2.2.2.2 : Int))
          have yQ := far5_bl (g := g) HQ.out HI.out.2.2.2.2.2.2.2.2.2.2.2 (.slice y2.d.ba T2.1.1.length y2.d.bc) (.slice y2.d.wa T2.1.2.length y2.d.wc) (.slice y2.a T2.2.1.length y2.c) (.int .u32 (T2.2.2.1 : Int)) (.int .u32 (T2.2.2.2 : Int))
          have yV := prow_far5 HV.out (show g < w0.heap.size by rw [← HGW.out]; exact HGLT.out) (.slice y2.d.ba T2.1.1.length y2.d.bc) (.slice y2.d.wa T2.1.2.length y2.d.wc) (.slice y2.a T2.2.1.length y2.c) (.int .u32 (T2.2.2.1 : Int)) (.int .u32 (T2.2.2.2 : Int))
          have yU := ly_own HU.out ka
          have hsz : (set5 w4 g (.slice y2.d.ba T2.1.1.length y2.d.bc) (.slice y2.d.wa T2.1.2.length y2.d.wc) (.slice y2.a T2.2.1.length y2.c) (.int .u32 (T2.2.2.1 : Int)) (.int .u32 (T2.2.2.2 : Int))).heap.size = w4.heap.size := by simp [set5, World.setCell]
          obtain ⟨w5, xn⟩ : ∃ X, set5 w4 g (.slice y2.d.ba T2.1.1.length y2.d.bc) (.slice y2.d.wa T2.1.2.length y2.d.wc) (.slice y2.a T2.2.1.length y2.c) (.int .u32 (T2.2.2.1 : Int)) (.int .u32 (T2.2.2.2 : Int)) = X := ⟨_, rfl⟩
          rw [xn] at xa ka ba yA yE yY yQ yV yU hsz
          simp only [set5] at xn
          replace HBG := Lib.hid (show w0.heap.size ≤ w5.heap.size by rw [hsz]; exact HBG.out)
          have d0 := bx0 HA.out
          have d1 := bx1 HA.out
          have d2 := bx2 HA.out
          have d3 := bx3 HA.out
          have d4 := bx4 HA.out
          replace HX := Lib.hid xa
          replace HY := Lib.hid yY
          replace HQ := Lib.hid yQ
          replace HE := Lib.hid yE
          replace HV := Lib.hid yV
          replace HU := Lib.hid yU
          replace HB := Lib.hid ba
          replace HT2 := Lib.hid (HT2.out.step ka)
          clear xa ka ba yA yE yY yQ yV yU hsz HA
          have e0 := bx0 HE.out
          have e1 := bx1 HE.out
          have e2 := bx2 HE.out
          have e3 := bx3 HE.out
          have e4 := bx4 HE.out
          have hbb := (Below.refl w5.heap.size w5).alloc (Nat.le_refl _) (.cells (ptC (qa, qb, qi, qt, qs)).toArray 32)
          have HAX := Lib.hid (HX.out.below hbb HX.out.lt)
          have HAY := Lib.hid (HY.out.below hbb HY.out.lt)
          have HAQ := Lib.hid (HQ.out.below hbb HQ.out.lt)
          have HAE := Lib.hid (HE.out.below hbb HE.out.lt)
          have HAV := Lib.hid (HV.out.below hbb)
          have HAU := Lib.hid (own_below HU.out hbb)
          have HAT := Lib.hid (HT2.out.bel hbb)
          have HAB := Lib.hid (HB.out.trans (hbb.mono HB.out.size))
          have HAG := Lib.hid (Nat.le_trans HBG.out hbb.size)
          have HPT := Lib.hid (one_pts w5 (qa, qb, qi, qt, qs) HWQ2.out)
          have HPL := Lib.hid (show ps.length ≤ 16 by have h1 := HLR.out.len; have h2 := HRN.out; omega)
          clear hbb HX HY HQ HE HV HU HT2
          have hqn := HQN.out
          go_wp2_with (first
            | (at_builtin
               refine wpList_append_prow rfl (.tmp 51) (.tmp 53) rfl w0.heap.size _ ps rfl HAV.out _ _ 1 1 [(qa, qb, qi, qt, qs)] rfl HPT.out (by have := HPL.out; omega) HAG.out ?_
               intro v7 w7 hp7 hg7
               have hfar := fun k (h : k < w0.heap.size) => prow_far HAV.out (k := k) h
               have hk7 := keeps_prow (L := L) HAV.out hg7 HL0.out
               have x7 := HAX.out.grown hg7 (fun e => hfar g HILT.out.1 e.symm)
               have y7 := HAY.out.grown hg7 (fun e => hfar g1 HILT.out.2.1 e.symm)
               have z7 := HAQ.out.grown hg7 (fun e => hfar g2 HILT.out.2.2 e.symm)
               have e7 := prow_box HAE.out (fun e => absurd (HVB.out gB e) (Nat.not_lt.2 HGB.out)) hg7
               have b7 := below_prow HAB.out HAV.out hg7 (show w.heap.size ≤ w0.heap.size from HB0.out.size) HAB.out.size
               have u7 := own_keep HAU.out (ty_dis HAV.out HAU.out) hg7
               have t7 := HAT.out.step hk7
               have s7 := Nat.le_trans HAG.out hg7.size
               have e0 := bx0 e7
               obtain ⟨a7, c7, rfl, _⟩ := hp7.pts
               obtain ⟨q7, hq7⟩ : ∃ q, (ps ++ [(qa, qb, qi, qt, qs)]).length = q := ⟨_, rfl⟩
               have hbb := (Below.refl w7.heap.size w7).alloc (Nat.le_refl _) (.cells #[.int .i64 qa] 3)
               have HX7 := Lib.hid (x7.below hbb x7.lt)
               have HY7 := Lib.hid (y7.below hbb y7.lt)
               have HQ7 := Lib.hid (z7.below hbb z7.lt)
               have HV7 := Lib.hid (hp7.below hbb)
               have HU7 := Lib.hid (own_below u7 hbb)
               have HT7 := Lib.hid (t7.bel hbb)
               have HB7 := Lib.hid (b7.trans (hbb.mono b7.size))
               have HG7 := Lib.hid (Nat.le_trans s7 hbb.size)
               have hon := one_nsl w7 qa.toNat
               rw [hqn] at hon
               have HON := Lib.hid hon
               have HQL := Lib.hid hq7
               rw [hq7] at HV7 ⊢
               clear hfar hk7 x7 y7 z7 e7 b7 u7 t7 s7 hbb hon hp7 hg7 hq7)
            | (at_builtin
               refine wpList_append_nsl rfl (.tmp 55) (.tmp 58) rfl w0.heap.size _ ps.length _ rfl HU7.out _ _ 1 1 [qa.toNat] rfl HON.out (by have := HPL.out; omega) HG7.out ?_
               intro v8 w8 hp8 hg8
               have hfar := fun k (h : k < w0.heap.size) => nrow_far HU7.out (k := k) h
               have HX8 := Lib.hid (HX7.out.grown hg8 (fun e => hfar g HILT.out.1 e.symm))
               have HY8 := Lib.hid (HY7.out.grown hg8 (fun e => hfar g1 HILT.out.2.1 e.symm))
               have HQ8 := Lib.hid (HQ7.out.grown hg8 (fun e => hfar g2 HILT.out.2.2 e.symm))
               have hvd := own_keep HV7.out.1 (ty_dis HV7.out HU7.out).symm hg8
               have HV8 := Lib.hid (show PRow w8 w0.heap.size _ (ps ++ [(qa, qb, qi, qt, qs)]) from ⟨hvd, HV7.out.2⟩)
               have HU8 := Lib.hid hp8
               have HT8 := Lib.hid (HT7.out.step3 (keeps_nrow (L := L) HU7.out hg8 HL0.out))
               have HB8 := Lib.hid (app_below HB7.out (own_mono HU7.out HB0.out.size) hg8 HB7.out.size)
               have HG8 := Lib.hid (Nat.le_trans HG7.out hg8.size)
               clear hfar hvd hp8 hg8))
          go_roundw
          case rel =>
            refine ⟨k + 1, y2, T2, ps ++ [(qa, qb, qi, qt, qs)], by have := HRN.out; have := HKN.out; omega, by have h1 := HRN.out; have h2 := HKN.out; rw [IntWalk.wrap64_in _ (by omega)]; go_num, HST.out, HX8.out, HY8.out, HQ8.out, HT8.out, ?_, ?_, HG8.out, HB8.out⟩
            · exact HV8.out
            · have hl : (ps ++ [(qa, qb, qi, qt, qs)]).length = ps.length + 1 := by rw [List.length_append]; rfl
              rw [hl]
              have he : blksD (ps ++ [(qa, qb, qi, qt, qs)]) = blksD ps ++ [qa.toNat] := by simp [blksD]
              rw [he]
              exact HU8.out
          case measure =>
            have h1 := HRN.out
            have h2 := HKN.out
            rw [IntWalk.wrap64_in _ (by omega)]
            simp [intOf]
            omega
      · obtain rfl : k = R := by have := HRN.out; omega
        have hpsl : ps.length = k := HLR.out.len
        obtain ⟨av, cv, rfl, htv⟩ := HV.out.pts
        have HPT := Lib.hid htv
        have HPL := Lib.hid (show ps.length ≤ 15 by have := HRN.out; omega)
        have i1d : decide (16 * (k : Int) < (n : Int)) = false := decide_eq_false (by omega)
        clear htv hkR hpsl
        obtain ⟨⟨T2, ⟨qa, qb, qi, qt, qs⟩, e2⟩, ho⟩ : ∃ o, putR (putS T b 0 0 (rowTo ps (ps).length)) = o := ⟨_, rfl⟩
        obtain ⟨r, hr⟩ : ∃ r, (putS T b 0 0 (rowTo ps (ps).length)).isSome = r := ⟨_, rfl⟩
        have HOO := Lib.hid ho
        have HRR := Lib.hid hr
        have HWQ2 := Lib.hid (putR_wf (show b < 4294967296 by have := HBR.out; omega) ho)
        have HUC : Hid (∀ (B : Nat) (ap : Option Addr) (cp : Nat) (W : World), StP L W y T → W.ownsRow B 5 1 (.slice ap 256 cp) 256 (vals (rowTo ps (ps).length)) → L ≤ W.heap.size →
            Calls Tryz.prog 44 #[stV y T, .int .u32 (b : Int), .int .u32 0, .int .u32 0, .slice ap 256 cp] W (fun e w' => ∃ y2, e = .returned (.tuple #[stV y2 T2, ptV (qa, qb, qi, qt, qs), .bool r]) ∧ StP L w' y2 T2 ∧ Below W.heap.size W w')) := Lib.hid (fun B ap cp W hW hpk hl => by
          have hlen : (rowTo (ps) (ps).length).length = 256 := rowTo_length _ _ (Nat.le_refl _) (by have := HPL.out; omega)
          have hc := rtPut_any L y T b 0 0 ap cp (rowTo ps (ps).length) W hW (by rw [hlen]; exact own_bsl hpk) hl HLR.out.may.2.1 (may_fits HLR.out.may.1) (by rw [hlen]; omega)
          rw [hlen] at hc
          refine hc.mono ?_
          intro e w' h_
          have h2 := outPut_uni h_
          rw [ho, hr] at h2
          exact h2)
        clear ho hr
        have HPC : Hid (∀ W : World, Pts W W.heap.size av ps.length cv ps → Calls Tryz.prog 45 #[.slice av ps.length cv] W (OwnV 256 (rowTo ps ps.length) W)) := Lib.hid (fun W hW => rpPacked_any av ps.length cv ps W hW (by have := HPL.out; omega) (fun q hq => (HLR.out.one q hq).1.1))
        have HWN := Lib.hid HPT.out
        go_wp2_with fail
        go_cut [16, 17, 18] from 60 to 80 (fun a b_ c_ wx => ∃ gA gB y2, a = .pointer (some ⟨gA, 0, none⟩) ∧ b_ = .pointer (some ⟨gB, 0, none⟩) ∧ c_ = .bool r ∧ Blk wx gA 29 (stC y2 T2) ∧ Blk wx gB 32 #[.int .i64 qa, .int .u32 (qb : Int), .int .u32 (qi : Int), .int .u32 (qt : Int), .int .u32 (qs : Int)] ∧ StP L wx y2 T2 ∧ Below wr.heap.size wr wx ∧ wr.heap.size ≤ gA ∧ wr.heap.size ≤ gB ∧ gA ≠ gB)
        case first =>
          obtain ⟨wd, hwd⟩ : ∃ wd, wr.drew = wd := ⟨_, rfl⟩
          have bq : Below wr.heap.size wr wd := by rw [← hwd]; exact (Below.refl _ _).drew
          have HBd := Lib.hid bq
          replace HX := Lib.hid (HX.out.below bq HX.out.lt)
          replace HT := Lib.hid (HT.out.bel bq)
          replace HWN := Lib.hid (HWN.out.step bq)
          replace HLW := Lib.hid (Nat.le_trans HLW.out bq.size)
          clear bq HB
          have HB := Lib.hid (Below.refl wd.heap.size wd)
          refine wpI_start (Below wd.heap.size wd) [0, 1, 2, 3, 4, 9, 10, 5, 6, 7, 8, 11, 12, 13] hmx rfl hwd ?_
          clear hwd
          iterate 3 (
            refine wpI_read (v := ?_) HB.out rfl (by kernel_rfl) (by kernel_rfl) (by kernel_rfl) (fun _ _ _ h => h) (.inl ⟨by rfl, ?_⟩) ?_
            rotate_left
            · intro X hX
              have d0 := bx0 (HX.out.below hX HX.out.lt)
              have d1 := bx1 (HX.out.below hX HX.out.lt)
              have d2 := bx2 (HX.out.below hX HX.out.lt)
              have d3 := bx3 (HX.out.below hX HX.out.lt)
              have d4 := bx4 (HX.out.below hX HX.out.lt)
              clear hX
              go_simp
              with_reducible rfl
            try simp only [Act.put, List.setIfInBounds_toArray, List.set_cons_zero, List.set_cons_succ])
          refine wpI_turn [3, 9, 10, 4, 5, 6, 7, 8, 11, 12, 13] rfl ?_
          refine wpI_fork3 rfl rfl rfl (by kernel_rfl) (fun K hK => ?_) (fun K hK => ?_) (fun K hK => ?_)
          go_simp
          have HC := Lib.hid (HPC.out wd HWN.out)
          refine HC.out.mono ?_
          rintro ev v1 ⟨vp, rfl, hpk, b9⟩
          obtain ⟨ap, cp, rfl⟩ := own_slice hpk
          replace HB := Lib.hid (HB.out.trans (b9.mono HB.out.size))
          replace HT := Lib.hid (HT.out.bel b9)
          replace HWN := Lib.hid (HWN.out.step b9)
          have HPK := Lib.hid hpk
          refine hK _ _ HB.out ?_
          clear hK K b9 HC hpk
          try simp only [Act.put, List.setIfInBounds_toArray, List.set_cons_zero, List.set_cons_succ]
          refine wpI_turn [4, 9, 10, 5, 6, 7, 8, 11, 12, 13] rfl ?_
          refine wpI_fork3 rfl rfl rfl (by kernel_rfl) (fun K hK => ?_) (fun K hK => ?_) (fun K hK => ?_)
          go_simp
          have HC := Lib.hid (HUC.out _ ap cp v1 HT.out HPK.out (Nat.le_trans HLW.out HB.out.size))
          refine HC.out.mono ?_
          rintro ev v2 ⟨y2, rfl, hy2, b9⟩
          replace HB := Lib.hid (HB.out.trans (b9.mono HB.out.size))
          replace HT := Lib.hid (HT.out.bel b9)
          replace HPK := Lib.hid (own_below HPK.out b9)
          replace HWN := Lib.hid (HWN.out.step b9)
          have HT2 := Lib.hid hy2
          refine hK _ _ HB.out ?_
          clear hK K b9 HC hy2
          try simp only [Act.put, List.setIfInBounds_toArray, List.set_cons_zero, List.set_cons_succ]
          refine wpI_turn [5, 6, 7, 8, 9, 10, 11, 12, 13] rfl ?_
          iterate 4 (
            refine wpI_read (v := ?_) HB.out rfl (by kernel_rfl) (by kernel_rfl) (by kernel_rfl) (fun _ _ _ h => h) (.inl ⟨by rfl, ?_⟩) ?_
            rotate_left
            · intro X hX
              clear hX
              go_simp
              with_reducible rfl
            try simp only [Act.put, List.setIfInBounds_toArray, List.set_cons_zero, List.set_cons_succ])
          refine wpI_turn [9, 10, 11, 12, 13] rfl ?_
          refine wpI_fork rfl rfl (by kernel_rfl) (fun K hK => ?_) (fun K hK => ?_)
          go_simp
          obtain ⟨v3, gA, hn, hg, bq, xq⟩ := new_box v2 #[.slice none 0 0, .slice none 0 0, .slice none 0 0, .int .u32 0, .int .u32 0] 29
          have HLHA := Lib.hid (show wd.heap.size ≤ gA from hg ▸ HB.out.size)
          rw [hn, hg]
          replace HB := Lib.hid (HB.out.trans (bq.mono HB.out.size))
          replace HT := Lib.hid (HT.out.bel bq)
          replace HPK := Lib.hid (own_below HPK.out bq)
          replace HT2 := Lib.hid (HT2.out.bel bq)
          replace HWN := Lib.hid (HWN.out.step bq)
          have HA := Lib.hid xq
          refine hK _ _ HB.out ?_
          clear hK K hn hg xq bq
          try simp only [Act.put, List.setIfInBounds_toArray, List.set_cons_zero, List.set_cons_succ]
          refine wpI_turn [10, 11, 12, 13] rfl ?_
          refine wpI_lone rfl (by kernel_rfl) (fun K hK => ?_)
          go_simp
          obtain ⟨v4, gB, hn, hg, bq, xq⟩ := new_box v3 #[.int .i64 0, .int .u32 0, .int .u32 0, .int .u32 0, .int .u32 0] 32
          have HLHE := Lib.hid (show wd.heap.size ≤ gB from hg ▸ HB.out.size)
          rw [hn, hg]
          replace HB := Lib.hid (HB.out.trans (bq.mono HB.out.size))
          replace HT := Lib.hid (HT.out.bel bq)
          replace HPK := Lib.hid (own_below HPK.out bq)
          replace HT2 := Lib.hid (HT2.out.bel bq)
          replace HA := Lib.hid (HA.out.below bq HA.out.lt)
          replace HWN := Lib.hid (HWN.out.step bq)
          have HE := Lib.hid xq
          refine hK _ _ HB.out ?_
          clear hK K hn hg xq bq
          try simp only [Act.put, List.setIfInBounds_toArray, List.set_cons_zero, List.set_cons_succ]
          rotate_left
          go_simp
          obtain ⟨v3, gB, hn, hg, bq, xq⟩ := new_box v2 #[.int .i64 0, .int .u32 0, .int .u32 0, .int .u32 0, .int .u32 0] 32
          have HLHE := Lib.hid (show wd.heap.size ≤ gB from hg ▸ HB.out.size)
          rw [hn, hg]
          replace HB := Lib.hid (HB.out.trans (bq.mono HB.out.size))
          replace HT := Lib.hid (HT.out.bel bq)
          replace HPK := Lib.hid (own_below HPK.out bq)
          replace HT2 := Lib.hid (HT2.out.bel bq)
          replace HWN := Lib.hid (HWN.out.step bq)
          have HE := Lib.hid xq
          refine hK _ _ HB.out ?_
          clear hK K hn hg xq bq
          try simp only [Act.put, List.setIfInBounds_toArray, List.set_cons_zero, List.set_cons_succ]
          refine wpI_turn [9, 11, 12, 13] rfl ?_
          refine wpI_lone rfl (by kernel_rfl) (fun K hK => ?_)
          go_simp
          obtain ⟨v4, gA, hn, hg, bq, xq⟩ := new_box v3 #[.slice none 0 0, .slice none 0 0, .slice none 0 0, .int .u32 0, .int .u32 0] 29
          have HLHA := Lib.hid (show wd.heap.size ≤ gA from hg ▸ HB.out.size)
          rw [hn, hg]
          replace HB := Lib.hid (HB.out.trans (bq.mono HB.out.size))
          replace HT := Lib.hid (HT.out.bel bq)
          replace HPK := Lib.hid (own_below HPK.out bq)
          replace HT2 := Lib.hid (HT2.out.bel bq)
          replace HE := Lib.hid (HE.out.below bq HE.out.lt)
          replace HWN := Lib.hid (HWN.out.step bq)
          have HA := Lib.hid xq
          refine hK _ _ HB.out ?_
          clear hK K hn hg xq bq
          try simp only [Act.put, List.setIfInBounds_toArray, List.set_cons_zero, List.set_cons_succ]
          rotate_left
          go_simp
          obtain ⟨v2, gA, hn, hg, bq, xq⟩ := new_box v1 #[.slice none 0 0, .slice none 0 0, .slice none 0 0, .int .u32 0, .int .u32 0] 29
          have HLHA := Lib.hid (show wd.heap.size ≤ gA from hg ▸ HB.out.size)
          rw [hn, hg]
          replace HB := Lib.hid (HB.out.trans (bq.mono HB.out.size))
          replace HT := Lib.hid (HT.out.bel bq)
          replace HPK := Lib.hid (own_below HPK.out bq)
          replace HWN := Lib.hid (HWN.out.step bq)
          have HA := Lib.hid xq
          refine hK _ _ HB.out ?_
          clear hK K hn hg xq bq
          try simp only [Act.put, List.setIfInBounds_toArray, List.set_cons_zero, List.set_cons_succ]
          refine wpI_turn [4, 10, 5, 6, 7, 8, 11, 12, 13] rfl ?_
          refine wpI_fork rfl rfl (by kernel_rfl) (fun K hK => ?_) (fun K hK => ?_)
          go_simp
          have HC := Lib.hid (HUC.out _ ap cp v2 HT.out HPK.out (Nat.le_trans HLW.out HB.out.size))
          refine HC.out.mono ?_
          rintro ev v3 ⟨y2, rfl, hy2, b9⟩
          replace HB := Lib.hid (HB.out.trans (b9.mono HB.out.size))
          replace HT := Lib.hid (HT.out.bel b9)
          replace HPK := Lib.hid (own_below HPK.out b9)
          replace HA := Lib.hid (HA.out.below b9 HA.out.lt)
          replace HWN := Lib.hid (HWN.out.step b9)
          have HT2 := Lib.hid hy2
          refine hK _ _ HB.out ?_
          clear hK K b9 HC hy2
          try simp only [Act.put, List.setIfInBounds_toArray, List.set_cons_zero, List.set_cons_succ]
          refine wpI_turn [5, 6, 7, 8, 10, 11, 12, 13] rfl ?_
          iterate 4 (
            refine wpI_read (v := ?_) HB.out rfl (by kernel_rfl) (by kernel_rfl) (by kernel_rfl) (fun _ _ _ h => h) (.inl ⟨by rfl, ?_⟩) ?_
            rotate_left
            · intro X hX
              clear hX
              go_simp
              with_reducible rfl
            try simp only [Act.put, List.setIfInBounds_toArray, List.set_cons_zero, List.set_cons_succ])
          refine wpI_turn [10, 11, 12, 13] rfl ?_
          refine wpI_lone rfl (by kernel_rfl) (fun K hK => ?_)
          go_simp
          obtain ⟨v4, gB, hn, hg, bq, xq⟩ := new_box v3 #[.int .i64 0, .int .u32 0, .int .u32 0, .int .u32 0, .int .u32 0] 32
          have HLHE := Lib.hid (show wd.heap.size ≤ gB from hg ▸ HB.out.size)
          rw [hn, hg]
          replace HB := Lib.hid (HB.out.trans (bq.mono HB.out.size))
          replace HT := Lib.hid (HT.out.bel bq)
          replace HPK := Lib.hid (own_below HPK.out bq)
          replace HA := Lib.hid (HA.out.below bq HA.out.lt)
          replace HT2 := Lib.hid (HT2.out.bel bq)
          replace HWN := Lib.hid (HWN.out.step bq)
          have HE := Lib.hid xq
          refine hK _ _ HB.out ?_
          clear hK K hn hg xq bq
          try simp only [Act.put, List.setIfInBounds_toArray, List.set_cons_zero, List.set_cons_succ]
          rotate_left
          go_simp
          obtain ⟨v3, gB, hn, hg, bq, xq⟩ := new_box v2 #[.int .i64 0, .int .u32 0, .int .u32 0, .int .u32 0, .int .u32 0] 32
          have HLHE := Lib.hid (show wd.heap.size ≤ gB from hg ▸ HB.out.size)
          rw [hn, hg]
          replace HB := Lib.hid (HB.out.trans (bq.mono HB.out.size))
          replace HT := Lib.hid (HT.out.bel bq)
          replace HPK := Lib.hid (own_below HPK.out bq)
          replace HA := Lib.hid (HA.out.below bq HA.out.lt)
          replace HWN := Lib.hid (HWN.out.step bq)
          have HE := Lib.hid xq
          refine hK _ _ HB.out ?_
          clear hK K hn hg xq bq
          try simp only [Act.put, List.setIfInBounds_toArray, List.set_cons_zero, List.set_cons_succ]
          refine wpI_turn [4, 5, 6, 7, 8, 11, 12, 13] rfl ?_
          refine wpI_lone rfl (by kernel_rfl) (fun K hK => ?_)
          go_simp
          have HC := Lib.hid (HUC.out _ ap cp v3 HT.out HPK.out (Nat.le_trans HLW.out HB.out.size))
          refine HC.out.mono ?_
          rintro ev v4 ⟨y2, rfl, hy2, b9⟩
          replace HB := Lib.hid (HB.out.trans (b9.mono HB.out.size))
          replace HT := Lib.hid (HT.out.bel b9)
          replace HPK := Lib.hid (own_below HPK.out b9)
          replace HA := Lib.hid (HA.out.below b9 HA.out.lt)
          replace HE := Lib.hid (HE.out.below b9 HE.out.lt)
          replace HWN := Lib.hid (HWN.out.step b9)
          have HT2 := Lib.hid hy2
          refine hK _ _ HB.out ?_
          clear hK K b9 HC hy2
          try simp only [Act.put, List.setIfInBounds_toArray, List.set_cons_zero, List.set_cons_succ]
          refine wpI_turn [5, 6, 7, 8, 11, 12, 13] rfl ?_
          iterate 4 (
            refine wpI_read (v := ?_) HB.out rfl (by kernel_rfl) (by kernel_rfl) (by kernel_rfl) (fun _ _ _ h => h) (.inl ⟨by rfl, ?_⟩) ?_
            rotate_left
            · intro X hX
              clear hX
              go_simp
              with_reducible rfl
            try simp only [Act.put, List.setIfInBounds_toArray, List.set_cons_zero, List.set_cons_succ])
          rotate_left
          go_simp
          obtain ⟨v2, gB, hn, hg, bq, xq⟩ := new_box v1 #[.int .i64 0, .int .u32 0, .int .u32 0, .int .u32 0, .int .u32 0] 32
          have HLHE := Lib.hid (show wd.heap.size ≤ gB from hg ▸ HB.out.size)
          rw [hn, hg]
          replace HB := Lib.hid (HB.out.trans (bq.mono HB.out.size))
          replace HT := Lib.hid (HT.out.bel bq)
          replace HPK := Lib.hid (own_below HPK.out bq)
          replace HWN := Lib.hid (HWN.out.step bq)
          have HE := Lib.hid xq
          refine hK _ _ HB.out ?_
          clear hK K hn hg xq bq
          try simp only [Act.put, List.setIfInBounds_toArray, List.set_cons_zero, List.set_cons_succ]
          refine wpI_turn [4, 9, 5, 6, 7, 8, 11, 12, 13] rfl ?_
          refine wpI_fork rfl rfl (by kernel_rfl) (fun K hK => ?_) (fun K hK => ?_)
          go_simp
          have HC := Lib.hid (HUC.out _ ap cp v2 HT.out HPK.out (Nat.le_trans HLW.out HB.out.size))
          refine HC.out.mono ?_
          rintro ev v3 ⟨y2, rfl, hy2, b9⟩
          replace HB := Lib.hid (HB.out.trans (b9.mono HB.out.size))
          replace HT := Lib.hid (HT.out.bel b9)
          replace HPK := Lib.hid (own_below HPK.out b9)
          replace HE := Lib.hid (HE.out.below b9 HE.out.lt)
          replace HWN := Lib.hid (HWN.out.step b9)
          have HT2 := Lib.hid hy2
          refine hK _ _ HB.out ?_
          clear hK K b9 HC hy2
          try simp only [Act.put, List.setIfInBounds_toArray, List.set_cons_zero, List.set_cons_succ]
          refine wpI_turn [5, 6, 7, 8, 9, 11, 12, 13] rfl ?_
          iterate 4 (
            refine wpI_read (v := ?_) HB.out rfl (by kernel_rfl) (by kernel_rfl) (by kernel_rfl) (fun _ _ _ h => h) (.inl ⟨by rfl, ?_⟩) ?_
            rotate_left
            · intro X hX
              clear hX
              go_simp
              with_reducible rfl
            try simp only [Act.put, List.setIfInBounds_toArray, List.set_cons_zero, List.set_cons_succ])
          refine wpI_turn [9, 11, 12, 13] rfl ?_
          refine wpI_lone rfl (by kernel_rfl) (fun K hK => ?_)
          go_simp
          obtain ⟨v4, gA, hn, hg, bq, xq⟩ := new_box v3 #[.slice none 0 0, .slice none 0 0, .slice none 0 0, .int .u32 0, .int .u32 0] 29
          have HLHA := Lib.hid (show wd.heap.size ≤ gA from hg ▸ HB.out.size)
          rw [hn, hg]
          replace HB := Lib.hid (HB.out.trans (bq.mono HB.out.size))
          replace HT := Lib.hid (HT.out.bel bq)
          replace HPK := Lib.hid (own_below HPK.out bq)
          replace HE := Lib.hid (HE.out.below bq HE.out.lt)
          replace HT2 := Lib.hid (HT2.out.bel bq)
          replace HWN := Lib.hid (HWN.out.step bq)
          have HA := Lib.hid xq
          refine hK _ _ HB.out ?_
          clear hK K hn hg xq bq
          try simp only [Act.put, List.setIfInBounds_toArray, List.set_cons_zero, List.set_cons_succ]
          rotate_left
          go_simp
          obtain ⟨v3, gA, hn, hg, bq, xq⟩ := new_box v2 #[.slice none 0 0, .slice none 0 0, .slice none 0 0, .int .u32 0, .int .u32 0] 29
          have HLHA := Lib.hid (show wd.heap.size ≤ gA from hg ▸ HB.out.size)
          rw [hn, hg]
          replace HB := Lib.hid (HB.out.trans (bq.mono HB.out.size))
          replace HT := Lib.hid (HT.out.bel bq)
          replace HPK := Lib.hid (own_below HPK.out bq)
          replace HE := Lib.hid (HE.out.below bq HE.out.lt)
          replace HWN := Lib.hid (HWN.out.step bq)
          have HA := Lib.hid xq
          refine hK _ _ HB.out ?_
          clear hK K hn hg xq bq
          try simp only [Act.put, List.setIfInBounds_toArray, List.set_cons_zero, List.set_cons_succ]
          refine wpI_turn [4, 5, 6, 7, 8, 11, 12, 13] rfl ?_
          refine wpI_lone rfl (by kernel_rfl) (fun K hK => ?_)
          go_simp
          have HC := Lib.hid (HUC.out _ ap cp v3 HT.out HPK.out (Nat.le_trans HLW.out HB.out.size))
          refine HC.out.mono ?_
          rintro ev v4 ⟨y2, rfl, hy2, b9⟩
          replace HB := Lib.hid (HB.out.trans (b9.mono HB.out.size))
          replace HT := Lib.hid (HT.out.bel b9)
          replace HPK := Lib.hid (own_below HPK.out b9)
          replace HE := Lib.hid (HE.out.below b9 HE.out.lt)
          replace HA := Lib.hid (HA.out.below b9 HA.out.lt)
          replace HWN := Lib.hid (HWN.out.step b9)
          have HT2 := Lib.hid hy2
          refine hK _ _ HB.out ?_
          clear hK K b9 HC hy2
          try simp only [Act.put, List.setIfInBounds_toArray, List.set_cons_zero, List.set_cons_succ]
          refine wpI_turn [5, 6, 7, 8, 11, 12, 13] rfl ?_
          iterate 4 (
            refine wpI_read (v := ?_) HB.out rfl (by kernel_rfl) (by kernel_rfl) (by kernel_rfl) (fun _ _ _ h => h) (.inl ⟨by rfl, ?_⟩) ?_
            rotate_left
            · intro X hX
              clear hX
              go_simp
              with_reducible rfl
            try simp only [Act.put, List.setIfInBounds_toArray, List.set_cons_zero, List.set_cons_succ])
          rotate_left
          go_simp
          obtain ⟨v1, gA, hn, hg, bq, xq⟩ := new_box wd #[.slice none 0 0, .slice none 0 0, .slice none 0 0, .int .u32 0, .int .u32 0] 29
          have HLHA := Lib.hid (show wd.heap.size ≤ gA from hg ▸ HB.out.size)
          rw [hn, hg]
          replace HB := Lib.hid (HB.out.trans (bq.mono HB.out.size))
          replace HT := Lib.hid (HT.out.bel bq)
          replace HWN := Lib.hid (HWN.out.step bq)
          have HA := Lib.hid xq
          refine hK _ _ HB.out ?_
          clear hK K hn hg xq bq
          try simp only [Act.put, List.setIfInBounds_toArray, List.set_cons_zero, List.set_cons_succ]
          refine wpI_turn [3, 10, 4, 5, 6, 7, 8, 11, 12, 13] rfl ?_
          refine wpI_fork rfl rfl (by kernel_rfl) (fun K hK => ?_) (fun K hK => ?_)
          go_simp
          have HC := Lib.hid (HPC.out v1 HWN.out)
          refine HC.out.mono ?_
          rintro ev v2 ⟨vp, rfl, hpk, b9⟩
          obtain ⟨ap, cp, rfl⟩ := own_slice hpk
          replace HB := Lib.hid (HB.out.trans (b9.mono HB.out.size))
          replace HT := Lib.hid (HT.out.bel b9)
          replace HA := Lib.hid (HA.out.below b9 HA.out.lt)
          replace HWN := Lib.hid (HWN.out.step b9)
          have HPK := Lib.hid hpk
          refine hK _ _ HB.out ?_
          clear hK K b9 HC hpk
          try simp only [Act.put, List.setIfInBounds_toArray, List.set_cons_zero, List.set_cons_succ]
          refine wpI_turn [4, 10, 5, 6, 7, 8, 11, 12, 13] rfl ?_
          refine wpI_fork rfl rfl (by kernel_rfl) (fun K hK => ?_) (fun K hK => ?_)
          go_simp
          have HC := Lib.hid (HUC.out _ ap cp v2 HT.out HPK.out (Nat.le_trans HLW.out HB.out.size))
          refine HC.out.mono ?_
          rintro ev v3 ⟨y2, rfl, hy2, b9⟩
          replace HB := Lib.hid (HB.out.trans (b9.mono HB.out.size))
          replace HT := Lib.hid (HT.out.bel b9)
          replace HA := Lib.hid (HA.out.below b9 HA.out.lt)
          replace HPK := Lib.hid (own_below HPK.out b9)
          replace HWN := Lib.hid (HWN.out.step b9)
          have HT2 := Lib.hid hy2
          refine hK _ _ HB.out ?_
          clear hK K b9 HC hy2
          try simp only [Act.put, List.setIfInBounds_toArray, List.set_cons_zero, List.set_cons_succ]
          refine wpI_turn [5, 6, 7, 8, 10, 11, 12, 13] rfl ?_
          iterate 4 (
            refine wpI_read (v := ?_) HB.out rfl (by kernel_rfl) (by kernel_rfl) (by kernel_rfl) (fun _ _ _ h => h) (.inl ⟨by rfl, ?_⟩) ?_
            rotate_left
            · intro X hX
              clear hX
              go_simp
              with_reducible rfl
            try simp only [Act.put, List.setIfInBounds_toArray, List.set_cons_zero, List.set_cons_succ])
          refine wpI_turn [10, 11, 12, 13] rfl ?_
          refine wpI_lone rfl (by kernel_rfl) (fun K hK => ?_)
          go_simp
          obtain ⟨v4, gB, hn, hg, bq, xq⟩ := new_box v3 #[.int .i64 0, .int .u32 0, .int .u32 0, .int .u32 0, .int .u32 0] 32
          have HLHE := Lib.hid (show wd.heap.size ≤ gB from hg ▸ HB.out.size)
          rw [hn, hg]
          replace HB := Lib.hid (HB.out.trans (bq.mono HB.out.size))
          replace HT := Lib.hid (HT.out.bel bq)
          replace HA := Lib.hid (HA.out.below bq HA.out.lt)
          replace HPK := Lib.hid (own_below HPK.out bq)
          replace HT2 := Lib.hid (HT2.out.bel bq)
          replace HWN := Lib.hid (HWN.out.step bq)
          have HE := Lib.hid xq
          refine hK _ _ HB.out ?_
          clear hK K hn hg xq bq
          try simp only [Act.put, List.setIfInBounds_toArray, List.set_cons_zero, List.set_cons_succ]
          rotate_left
          go_simp
          obtain ⟨v3, gB, hn, hg, bq, xq⟩ := new_box v2 #[.int .i64 0, .int .u32 0, .int .u32 0, .int .u32 0, .int .u32 0] 32
          have HLHE := Lib.hid (show wd.heap.size ≤ gB from hg ▸ HB.out.size)
          rw [hn, hg]
          replace HB := Lib.hid (HB.out.trans (bq.mono HB.out.size))
          replace HT := Lib.hid (HT.out.bel bq)
          replace HA := Lib.hid (HA.out.below bq HA.out.lt)
          replace HPK := Lib.hid (own_below HPK.out bq)
          replace HWN := Lib.hid (HWN.out.step bq)
          have HE := Lib.hid xq
          refine hK _ _ HB.out ?_
          clear hK K hn hg xq bq
          try simp only [Act.put, List.setIfInBounds_toArray, List.set_cons_zero, List.set_cons_succ]
          refine wpI_turn [4, 5, 6, 7, 8, 11, 12, 13] rfl ?_
          refine wpI_lone rfl (by kernel_rfl) (fun K hK => ?_)
          go_simp
          have HC := Lib.hid (HUC.out _ ap cp v3 HT.out HPK.out (Nat.le_trans HLW.out HB.out.size))
          refine HC.out.mono ?_
          rintro ev v4 ⟨y2, rfl, hy2, b9⟩
          replace HB := Lib.hid (HB.out.trans (b9.mono HB.out.size))
          replace HT := Lib.hid (HT.out.bel b9)
          replace HA := Lib.hid (HA.out.below b9 HA.out.lt)
          replace HPK := Lib.hid (own_below HPK.out b9)
          replace HE := Lib.hid (HE.out.below b9 HE.out.lt)
          replace HWN := Lib.hid (HWN.out.step b9)
          have HT2 := Lib.hid hy2
          refine hK _ _ HB.out ?_
          clear hK K b9 HC hy2
          try simp only [Act.put, List.setIfInBounds_toArray, List.set_cons_zero, List.set_cons_succ]
          refine wpI_turn [5, 6, 7, 8, 11, 12, 13] rfl ?_
          iterate 4 (
            refine wpI_read (v := ?_) HB.out rfl (by kernel_rfl) (by kernel_rfl) (by kernel_rfl) (fun _ _ _ h => h) (.inl ⟨by rfl, ?_⟩) ?_
            rotate_left
            · intro X hX
              clear hX
              go_simp
              with_reducible rfl
            try simp only [Act.put, List.setIfInBounds_toArray, List.set_cons_zero, List.set_cons_succ])
          rotate_left
          go_simp
          obtain ⟨v2, gB, hn, hg, bq, xq⟩ := new_box v1 #[.int .i64 0, .int .u32 0, .int .u32 0, .int .u32 0, .int .u32 0] 32
          have HLHE := Lib.hid (show wd.heap.size ≤ gB from hg ▸ HB.out.size)
          rw [hn, hg]
          replace HB := Lib.hid (HB.out.trans (bq.mono HB.out.size))
          replace HT := Lib.hid (HT.out.bel bq)
          replace HA := Lib.hid (HA.out.below bq HA.out.lt)
          replace HWN := Lib.hid (HWN.out.step bq)
          have HE := Lib.hid xq
          refine hK _ _ HB.out ?_
          clear hK K hn hg xq bq
          try simp only [Act.put, List.setIfInBounds_toArray, List.set_cons_zero, List.set_cons_succ]
          refine wpI_turn [3, 4, 5, 6, 7, 8, 11, 12, 13] rfl ?_
          refine wpI_lone rfl (by kernel_rfl) (fun K hK => ?_)
          go_simp
          have HC := Lib.hid (HPC.out v2 HWN.out)
          refine HC.out.mono ?_
          rintro ev v3 ⟨vp, rfl, hpk, b9⟩
          obtain ⟨ap, cp, rfl⟩ := own_slice hpk
          replace HB := Lib.hid (HB.out.trans (b9.mono HB.out.size))
          replace HT := Lib.hid (HT.out.bel b9)
          replace HA := Lib.hid (HA.out.below b9 HA.out.lt)
          replace HE := Lib.hid (HE.out.below b9 HE.out.lt)
          replace HWN := Lib.hid (HWN.out.step b9)
          have HPK := Lib.hid hpk
          refine hK _ _ HB.out ?_
          clear hK K b9 HC hpk
          try simp only [Act.put, List.setIfInBounds_toArray, List.set_cons_zero, List.set_cons_succ]
          refine wpI_turn [4, 5, 6, 7, 8, 11, 12, 13] rfl ?_
          refine wpI_lone rfl (by kernel_rfl) (fun K hK => ?_)
          go_simp
          have HC := Lib.hid (HUC.out _ ap cp v3 HT.out HPK.out (Nat.le_trans HLW.out HB.out.size))
          refine HC.out.mono ?_
          rintro ev v4 ⟨y2, rfl, hy2, b9⟩
          replace HB := Lib.hid (HB.out.trans (b9.mono HB.out.size))
          replace HT := Lib.hid (HT.out.bel b9)
          replace HA := Lib.hid (HA.out.below b9 HA.out.lt)
          replace HE := Lib.hid (HE.out.below b9 HE.out.lt)
          replace HPK := Lib.hid (own_below HPK.out b9)
          replace HWN := Lib.hid (HWN.out.step b9)
          have HT2 := Lib.hid hy2
          refine hK _ _ HB.out ?_
          clear hK K b9 HC hy2
          try simp only [Act.put, List.setIfInBounds_toArray, List.set_cons_zero, List.set_cons_succ]
          refine wpI_turn [5, 6, 7, 8, 11, 12, 13] rfl ?_
          iterate 4 (
            refine wpI_read (v := ?_) HB.out rfl (by kernel_rfl) (by kernel_rfl) (by kernel_rfl) (fun _ _ _ h => h) (.inl ⟨by rfl, ?_⟩) ?_
            rotate_left
            · intro X hX
              clear hX
              go_simp
              with_reducible rfl
            try simp only [Act.put, List.setIfInBounds_toArray, List.set_cons_zero, List.set_cons_succ])
          rotate_left
          go_simp
          obtain ⟨v1, gB, hn, hg, bq, xq⟩ := new_box wd #[.int .i64 0, .int .u32 0, .int .u32 0, .int .u32 0, .int .u32 0] 32
          have HLHE := Lib.hid (show wd.heap.size ≤ gB from hg ▸ HB.out.size)
          rw [hn, hg]
          replace HB := Lib.hid (HB.out.trans (bq.mono HB.out.size))
          replace HT := Lib.hid (HT.out.bel bq)
          replace HWN := Lib.hid (HWN.out.step bq)
          have HE := Lib.hid xq
          refine hK _ _ HB.out ?_
          clear hK K hn hg xq bq
          try simp only [Act.put, List.setIfInBounds_toArray, List.set_cons_zero, List.set_cons_succ]
          refine wpI_turn [3, 9, 4, 5, 6, 7, 8, 11, 12, 13] rfl ?_
          refine wpI_fork rfl rfl (by kernel_rfl) (fun K hK => ?_) (fun K hK => ?_)
          go_simp
          have HC := Lib.hid (HPC.out v1 HWN.out)
          refine HC.out.mono ?_
          rintro ev v2 ⟨vp, rfl, hpk, b9⟩
          obtain ⟨ap, cp, rfl⟩ := own_slice hpk
          replace HB := Lib.hid (HB.out.trans (b9.mono HB.out.size))
          replace HT := Lib.hid (HT.out.bel b9)
          replace HE := Lib.hid (HE.out.below b9 HE.out.lt)
          replace HWN := Lib.hid (HWN.out.step b9)
          have HPK := Lib.hid hpk
          refine hK _ _ HB.out ?_
          clear hK K b9 HC hpk
          try simp only [Act.put, List.setIfInBounds_toArray, List.set_cons_zero, List.set_cons_succ]
          refine wpI_turn [4, 9, 5, 6, 7, 8, 11, 12, 13] rfl ?_
          refine wpI_fork rfl rfl (by kernel_rfl) (fun K hK => ?_) (fun K hK => ?_)
          go_simp
          have HC := Lib.hid (HUC.out _ ap cp v2 HT.out HPK.out (Nat.le_trans HLW.out HB.out.size))
          refine HC.out.mono ?_
          rintro ev v3 ⟨y2, rfl, hy2, b9⟩
          replace HB := Lib.hid (HB.out.trans (b9.mono HB.out.size))
          replace HT := Lib.hid (HT.out.bel b9)
          replace HE := Lib.hid (HE.out.below b9 HE.out.lt)
          replace HPK := Lib.hid (own_below HPK.out b9)
          replace HWN := Lib.hid (HWN.out.step b9)
          have HT2 := Lib.hid hy2
          refine hK _ _ HB.out ?_
          clear hK K b9 HC hy2
          try simp only [Act.put, List.setIfInBounds_toArray, List.set_cons_zero, List.set_cons_succ]
          refine wpI_turn [5, 6, 7, 8, 9, 11, 12, 13] rfl ?_
          iterate 4 (
            refine wpI_read (v := ?_) HB.out rfl (by kernel_rfl) (by kernel_rfl) (by kernel_rfl) (fun _ _ _ h => h) (.inl ⟨by rfl, ?_⟩) ?_
            rotate_left
            · intro X hX
              clear hX
              go_simp
              with_reducible rfl
            try simp only [Act.put, List.setIfInBounds_toArray, List.set_cons_zero, List.set_cons_succ])
          refine wpI_turn [9, 11, 12, 13] rfl ?_
          refine wpI_lone rfl (by kernel_rfl) (fun K hK => ?_)
          go_simp
          obtain ⟨v4, gA, hn, hg, bq, xq⟩ := new_box v3 #[.slice none 0 0, .slice none 0 0, .slice none 0 0, .int .u32 0, .int .u32 0] 29
          have HLHA := Lib.hid (show wd.heap.size ≤ gA from hg ▸ HB.out.size)
          rw [hn, hg]
          replace HB := Lib.hid (HB.out.trans (bq.mono HB.out.size))
          replace HT := Lib.hid (HT.out.bel bq)
          replace HE := Lib.hid (HE.out.below bq HE.out.lt)
          replace HPK := Lib.hid (own_below HPK.out bq)
          replace HT2 := Lib.hid (HT2.out.bel bq)
          replace HWN := Lib.hid (HWN.out.step bq)
          have HA := Lib.hid xq
          refine hK _ _ HB.out ?_
          clear hK K hn hg xq bq
          try simp only [Act.put, List.setIfInBounds_toArray, List.set_cons_zero, List.set_cons_succ]
          rotate_left
          go_simp
          obtain ⟨v3, gA, hn, hg, bq, xq⟩ := new_box v2 #[.slice none 0 0, .slice none 0 0, .slice none 0 0, .int .u32 0, .int .u32 0] 29
          have HLHA := Lib.hid (show wd.heap.size ≤ gA from hg ▸ HB.out.size)
          rw [hn, hg]
          replace HB := Lib.hid (HB.out.trans (bq.mono HB.out.size))
          replace HT := Lib.hid (HT.out.bel bq)
          replace HE := Lib.hid (HE.out.below bq HE.out.lt)
          replace HPK := Lib.hid (own_below HPK.out bq)
          replace HWN := Lib.hid (HWN.out.step bq)
          have HA := Lib.hid xq
          refine hK _ _ HB.out ?_
          clear hK K hn hg xq bq
          try simp only [Act.put, List.setIfInBounds_toArray, List.set_cons_zero, List.set_cons_succ]
          refine wpI_turn [4, 5, 6, 7, 8, 11, 12, 13] rfl ?_
          refine wpI_lone rfl (by kernel_rfl) (fun K hK => ?_)
          go_simp
          have HC := Lib.hid (HUC.out _ ap cp v3 HT.out HPK.out (Nat.le_trans HLW.out HB.out.size))
          refine HC.out.mono ?_
          rintro ev v4 ⟨y2, rfl, hy2, b9⟩
          replace HB := Lib.hid (HB.out.trans (b9.mono HB.out.size))
          replace HT := Lib.hid (HT.out.bel b9)
          replace HE := Lib.hid (HE.out.below b9 HE.out.lt)
          replace HPK := Lib.hid (own_below HPK.out b9)
          replace HA := Lib.hid (HA.out.below b9 HA.out.lt)
          replace HWN := Lib.hid (HWN.out.step b9)
          have HT2 := Lib.hid hy2
          refine hK _ _ HB.out ?_
          clear hK K b9 HC hy2
          try simp only [Act.put, List.setIfInBounds_toArray, List.set_cons_zero, List.set_cons_succ]
          refine wpI_turn [5, 6, 7, 8, 11, 12, 13] rfl ?_
          iterate 4 (
            refine wpI_read (v := ?_) HB.out rfl (by kernel_rfl) (by kernel_rfl) (by kernel_rfl) (fun _ _ _ h => h) (.inl ⟨by rfl, ?_⟩) ?_
            rotate_left
            · intro X hX
              clear hX
              go_simp
              with_reducible rfl
            try simp only [Act.put, List.setIfInBounds_toArray, List.set_cons_zero, List.set_cons_succ])
          rotate_left
          go_simp
          obtain ⟨v2, gA, hn, hg, bq, xq⟩ := new_box v1 #[.slice none 0 0, .slice none 0 0, .slice none 0 0, .int .u32 0, .int .u32 0] 29
          have HLHA := Lib.hid (show wd.heap.size ≤ gA from hg ▸ HB.out.size)
          rw [hn, hg]
          replace HB := Lib.hid (HB.out.trans (bq.mono HB.out.size))
          replace HT := Lib.hid (HT.out.bel bq)
          replace HE := Lib.hid (HE.out.below bq HE.out.lt)
          replace HWN := Lib.hid (HWN.out.step bq)
          have HA := Lib.hid xq
          refine hK _ _ HB.out ?_
          clear hK K hn hg xq bq
          try simp only [Act.put, List.setIfInBounds_toArray, List.set_cons_zero, List.set_cons_succ]
          refine wpI_turn [3, 4, 5, 6, 7, 8, 11, 12, 13] rfl ?_
          refine wpI_lone rfl (by kernel_rfl) (fun K hK => ?_)
          go_simp
          have HC := Lib.hid (HPC.out v2 HWN.out)
          refine HC.out.mono ?_
          rintro ev v3 ⟨vp, rfl, hpk, b9⟩
          obtain ⟨ap, cp, rfl⟩ := own_slice hpk
          replace HB := Lib.hid (HB.out.trans (b9.mono HB.out.size))
          replace HT := Lib.hid (HT.out.bel b9)
          replace HE := Lib.hid (HE.out.below b9 HE.out.lt)
          replace HA := Lib.hid (HA.out.below b9 HA.out.lt)
          replace HWN := Lib.hid (HWN.out.step b9)
          have HPK := Lib.hid hpk
          refine hK _ _ HB.out ?_
          clear hK K b9 HC hpk
          try simp only [Act.put, List.setIfInBounds_toArray, List.set_cons_zero, List.set_cons_succ]
          refine wpI_turn [4, 5, 6, 7, 8, 11, 12, 13] rfl ?_
          refine wpI_lone rfl (by kernel_rfl) (fun K hK => ?_)
          go_simp
          have HC := Lib.hid (HUC.out _ ap cp v3 HT.out HPK.out (Nat.le_trans HLW.out HB.out.size))
          refine HC.out.mono ?_
          rintro ev v4 ⟨y2, rfl, hy2, b9⟩
          replace HB := Lib.hid (HB.out.trans (b9.mono HB.out.size))
          replace HT := Lib.hid (HT.out.bel b9)
          replace HE := Lib.hid (HE.out.below b9 HE.out.lt)
          replace HA := Lib.hid (HA.out.below b9 HA.out.lt)
          replace HPK := Lib.hid (own_below HPK.out b9)
          replace HWN := Lib.hid (HWN.out.step b9)
          have HT2 := Lib.hid hy2
          refine hK _ _ HB.out ?_
          clear hK K b9 HC hy2
          try simp only [Act.put, List.setIfInBounds_toArray, List.set_cons_zero, List.set_cons_succ]
          refine wpI_turn [5, 6, 7, 8, 11, 12, 13] rfl ?_
          iterate 4 (
            refine wpI_read (v := ?_) HB.out rfl (by kernel_rfl) (by kernel_rfl) (by kernel_rfl) (fun _ _ _ h => h) (.inl ⟨by rfl, ?_⟩) ?_
            rotate_left
            · intro X hX
              clear hX
              go_simp
              with_reducible rfl
            try simp only [Act.put, List.setIfInBounds_toArray, List.set_cons_zero, List.set_cons_succ])
          rotate_left
          all_goals (
            have HNE := Lib.hid (show gA ≠ gB from HA.out.ne HE.out (by decide))
            refine wpI_lone rfl (by kernel_rfl) (fun K hK => ?_)
            have m0 := stZ0 HA.out
            have m1 := stZ1 HA.out
            have m2 := stZ2 HA.out
            have m3 := stZ3 HA.out
            have m4 := stZ4 HA.out
            have hfz := fun i => HA.out.frozen i
            obtain ⟨xa, ka, ba⟩ := box_five (L := L) HA.out (by decide) (Nat.le_trans HLW.out HLHA.out) HB.out HLHA.out (.slice y2.d.ba T2.1.1.length y2.d.bc) (.slice y2.d.wa T2.1.2.length y2.d.wc) (.slice y2.a T2.2.1.length y2.c) (.int .u32 (T2.2.2.1 : Int)) (.int .u32 (T2.2.2.2 : Int))
            have yHE := far5_bl (g := gA) HE.out HNE.out.symm (.slice y2.d.ba T2.1.1.length y2.d.bc) (.slice y2.d.wa T2.1.2.length y2.d.wc) (.slice y2.a T2.2.1.length y2.c) (.int .u32 (T2.2.2.1 : Int)) (.int .u32 (T2.2.2.2 : Int))
            obtain ⟨v5, hn⟩ : ∃ X, set5 v4 gA (.slice y2.d.ba T2.1.1.length y2.d.bc) (.slice y2.d.wa T2.1.2.length y2.d.wc) (.slice y2.a T2.2.1.length y2.c) (.int .u32 (T2.2.2.1 : Int)) (.int .u32 (T2.2.2.2 : Int)) = X := ⟨_, rfl⟩
            rw [hn] at xa ka ba yHE
            simp only [set5] at hn
            go_simp
            replace HB := Lib.hid ba
            replace HA := Lib.hid xa
            replace HE := Lib.hid yHE
            replace HT := Lib.hid (HT.out.step ka)
            replace HT2 := Lib.hid (HT2.out.step ka)
            refine hK _ _ HB.out ?_
            clear hK K hn xa ka ba hfz m0 m1 m2 m3 m4 yHE
            try simp only [Act.put, List.setIfInBounds_toArray, List.set_cons_zero, List.set_cons_succ]
            refine wpI_lone rfl (by kernel_rfl) (fun K hK => ?_)
            have m0 := ptZ0 HE.out
            have m1 := ptZ1 HE.out
            have m2 := ptZ2 HE.out
            have m3 := ptZ3 HE.out
            have m4 := ptZ4 HE.out
            have hfz := fun i => HE.out.frozen i
            obtain ⟨xa, ka, ba⟩ := box_five (L := L) HE.out (by decide) (Nat.le_trans HLW.out HLHE.out) HB.out HLHE.out (.int .i64 qa) (.int .u32 (qb : Int)) (.int .u32 (qi : Int)) (.int .u32 (qt : Int)) (.int .u32 (qs : Int))
            have yHA := far5_bl (g := gB) HA.out HNE.out (.int .i64 qa) (.int .u32 (qb : Int)) (.int .u32 (qi : Int)) (.int .u32 (qt : Int)) (.int .u32 (qs : Int))
            obtain ⟨v6, hn⟩ : ∃ X, set5 v5 gB (.int .i64 qa) (.int .u32 (qb : Int)) (.int .u32 (qi : Int)) (.int .u32 (qt : Int)) (.int .u32 (qs : Int)) = X := ⟨_, rfl⟩
            rw [hn] at xa ka ba yHA
            simp only [set5] at hn
            go_simp
            replace HB := Lib.hid ba
            replace HE := Lib.hid xa
            replace HA := Lib.hid yHA
            replace HT := Lib.hid (HT.out.step ka)
            replace HT2 := Lib.hid (HT2.out.step ka)
            refine hK _ _ HB.out ?_
            clear hK K hn xa ka ba hfz m0 m1 m2 m3 m4 yHA
            try simp only [Act.put, List.setIfInBounds_toArray, List.set_cons_zero, List.set_cons_succ]
            iterate 1 (
              refine wpI_read (v := ?_) HB.out rfl (by kernel_rfl) (by kernel_rfl) (by kernel_rfl) (fun _ _ _ h => h) (.inl ⟨by rfl, ?_⟩) ?_
              rotate_left
              · intro X hX
                clear hX
                go_simp
                with_reducible rfl
              try simp only [Act.put, List.setIfInBounds_toArray, List.set_cons_zero, List.set_cons_succ])
            refine wpI_done (by kernel_rfl) ?_
            go_wp2_with fail
            go_meet
            exact ⟨gA, gB, y2, rfl, rfl, rfl, HA.out, HE.out, HT2.out, HBd.out.trans (HB.out.mono HBd.out.size), Nat.le_trans HBd.out.size HLHA.out, Nat.le_trans HBd.out.size HLHE.out, HNE.out⟩)
        obtain ⟨gA, gB, y2, rfl, rfl, rfl, hA, hE, hy2, hbw, hgA, hgB, hne⟩ := hcut
        rename World => w4
        have HSR := Lib.hid (show g < wr.heap.size ∧ g1 < wr.heap.size ∧ g2 < wr.heap.size from ⟨HX.out.lt, HY.out.lt, HQ.out.lt⟩)
        replace HX := Lib.hid (HX.out.below hbw HX.out.lt)
        replace HY := Lib.hid (HY.out.below hbw HY.out.lt)
        replace HQ := Lib.hid (HQ.out.below hbw HQ.out.lt)
        replace HT := Lib.hid (HT.out.bel hbw)
        replace HB := Lib.hid (HB.out.trans (hbw.mono HB.out.size))
        replace HU := Lib.hid (own_below HU.out hbw)
        replace HP := Lib.hid (HP.out.step hbw)
        replace HLW := Lib.hid (Nat.le_trans HLW.out hbw.size)
        replace HV := Lib.hid (HV.out.below hbw)
        replace HBG := Lib.hid (Nat.le_trans HBG.out hbw.size)
        have HA := Lib.hid hA
        have HE := Lib.hid hE
        have HT2 := Lib.hid hy2
        have HGB := Lib.hid hgB
        have HGG := Lib.hid (show gA ≠ gB ∧ gA ≠ g ∧ gA ≠ g1 ∧ gA ≠ g2 ∧ gB ≠ g ∧ gB ≠ g1 ∧ gB ≠ g2 by have := HSR.out; omega)
        clear hA hE hy2 hbw hgA hgB hne HUC HPC HWN
        cases r with
        | false =>
          have hpn : putS T b 0 0 (rowTo ps ps.length) = none := by simpa using HRR.out
          have HO := Lib.hid (show layedO S b l = (st0, p0, [], 9) by
            unfold layedO
            rw [if_neg (fun e => by rw [← HLN.out, e] at hn; exact absurd hn (Nat.lt_irrefl _)), HLN.out, HRE.out, HLT.out]
            simp only
            rw [hpn])
          clear hpn
          have m0 := stZ0 HY.out
          have m1 := stZ1 HY.out
          have m2 := stZ2 HY.out
          have m3 := stZ3 HY.out
          have m4 := stZ4 HY.out
          have mf := fun i => HY.out.frozen i
          obtain ⟨xa, ka, ba⟩ := box_five (L := L) HY.out (by decide) HI.out.1 HB.out HI.out.2.1 (.slice none 0 0) (.slice none 0 0) (.slice none 0 0) (.int .u32 0) (.int .u32 0)
          have ya := far5_bl (g := g1) HQ.out HI.out.2.2.2.2.2.1 (.slice none 0 0) (.slice none 0 0) (.slice none 0 0) (.int .u32 0) (.int .u32 0)
          obtain ⟨wa, hwa⟩ : ∃ wa, set5 w4 g1 (.slice none 0 0) (.slice none 0 0) (.slice none 0 0) (.int .u32 0) (.int .u32 0) = wa := ⟨_, rfl⟩
          rw [hwa] at xa ka ba ya
          simp only [set5] at hwa
          have n0 := ptZ0 ya
          have n1 := ptZ1 ya
          have n2 := ptZ2 ya
          have n3 := ptZ3 ya
          have n4 := ptZ4 ya
          have nf := fun i => ya.frozen i
          obtain ⟨xb, kb, bb⟩ := box_five (L := L) ya (by decide) HI.out.2.2.1 ba HI.out.2.2.2.1 (.int .i64 0) (.int .u32 0) (.int .u32 0) (.int .u32 0) (.int .u32 0)
          have yb := far5_bl (g := g2) xa HI.out.2.2.2.2.1 (.int .i64 0) (.int .u32 0) (.int .u32 0) (.int .u32 0) (.int .u32 0)
          obtain ⟨wb, hwb⟩ : ∃ wb, set5 wa g2 (.int .i64 0) (.int .u32 0) (.int .u32 0) (.int .u32 0) (.int .u32 0) = wb := ⟨_, rfl⟩
          rw [hwb] at xb kb bb yb
          simp only [set5] at hwb
          replace HY := Lib.hid yb
          replace HQ := Lib.hid xb
          replace HB := Lib.hid bb
          have HKK := Lib.hid (ka.trans kb)
          clear xa ka ba ya xb kb bb yb
          go_wp2_with fail
          clear m0 m1 m2 m3 m4 mf hwa n0 n1 n2 n3 n4 nf hwb
          have e0 := bx0 HY.out
          have e1 := bx1 HY.out
          have e2 := bx2 HY.out
          have e3 := bx3 HY.out
          have e4 := bx4 HY.out
          have f0 := bx0 HQ.out
          have f1 := bx1 HQ.out
          have f2 := bx2 HQ.out
          have f3 := bx3 HQ.out
          have f4 := bx4 HQ.out
          refine bodyPost_ret (v := .tuple #[.agg #[.slice none 0 0, .slice none 0 0, .slice none 0 0, .int .u32 0, .int .u32 0], .agg #[.int .i64 0, .int .u32 0, .int .u32 0, .int .u32 0, .int .u32 0], .slice none 0 0, .bool false]) (by simp [results, Tryz.f23, go_sem, e0, e1, e2, e3, e4, f0, f1, f2, f3, f4]) rfl ?_
          rw [HO.out]
          exact ⟨at0, _, rfl, st0_lasts L _, World.ownsRow_nil _ _ _ _, HB.out⟩
        | true =>
          have hps : putS T b 0 0 (rowTo ps (ps).length) = some (T2, (qa, qb, qi, qt, qs)) := by
            have h1 := HRR.out
            have h2 := HOO.out
            cases hp : putS T b 0 0 (rowTo ps (ps).length) with
            | none => rw [hp] at h1; cases h1
            | some sp =>
              rw [hp] at h2
              obtain ⟨s1, s2⟩ := sp
              unfold putR at h2
              simp only [Prod.mk.injEq] at h2
              obtain ⟨rfl, rfl, _⟩ := h2
              rfl
          have HO := Lib.hid (show layedO S b l = (T2, (qa, qb, qi, qt, qs), blksD ps ++ [qa.toNat], 0) by
            unfold layedO
            rw [if_neg (fun e => by rw [← HLN.out, e] at hn; exact absurd hn (Nat.lt_irrefl _)), HLN.out, HRE.out, HLT.out]
            simp only
            rw [hps])
          have hqn : ((qa.toNat : Nat) : Int) = qa := by
            obtain ⟨z, hz, _⟩ := putS_at hps
            simp only at hz
            omega
          have HQN := Lib.hid hqn
          clear hps hqn
          obtain ⟨wd, hwd⟩ : ∃ wd, w4.drew = wd := ⟨_, rfl⟩
          have bq : Below w4.heap.size w4 wd := by rw [← hwd]; exact (Below.refl _ _).drew
          replace HY := Lib.hid (HY.out.below bq HY.out.lt)
          replace HQ := Lib.hid (HQ.out.below bq HQ.out.lt)
          replace HB := Lib.hid (HB.out.trans (bq.mono HB.out.size))
          replace HU := Lib.hid (own_below HU.out bq)
          replace HA := Lib.hid (HA.out.below bq HA.out.lt)
          replace HE := Lib.hid (HE.out.below bq HE.out.lt)
          replace HT2 := Lib.hid (HT2.out.bel bq)
          replace HLW := Lib.hid (Nat.le_trans HLW.out bq.size)
          replace HBG := Lib.hid (Nat.le_trans HBG.out bq.size)
          clear bq
          have hS := And.intro HA.out HE.out
          go_wp2_with fail
          refine wpI_start (fun X => Blk X gA 29 (stC y2 T2) ∧ Blk X gB 32 #[.int .i64 qa, .int .u32 (qb : Int), .int .u32 (qi : Int), .int .u32 (qt : Int), .int .u32 (qs : Int)]) [0, 1, 2, 3, 4, 5, 6, 7, 8, 9, 10] hmx rfl hwd ?_
          clear hwd
          iterate 5 (
            refine wpI_read (v := ?_) hS rfl (by kernel_rfl) (by kernel_rfl) (by kernel_rfl) (fun _ _ _ h => h) (.inl ⟨by rfl, ?_⟩) ?_
            rotate_left
            · intro X hX
              obtain ⟨j1, j2⟩ := hX
              have d0 := bx0 j1
              have d1 := bx1 j1
              have d2 := bx2 j1
              have d3 := bx3 j1
              have d4 := bx4 j1
              have e0 := bx0 j2
              have e1 := bx1 j2
              have e2 := bx2 j2
              have e3 := bx3 j2
              have e4 := bx4 j2
              clear j1 j2
              go_simp
              with_reducible rfl
            try simp only [Act.put, List.setIfInBounds_toArray, List.set_cons_zero, List.set_cons_succ])
          clear hS
          refine wpI_lone rfl (by kernel_rfl) (fun K hK => ?_)
          go_simp
          obtain ⟨w6, g6, hn6, hg6, bq, xq⟩ := new_box wd #[.int .i64 qa] 3
          have hon : Nsl w6 w6.heap.size (some ⟨g6, 0, none⟩) 1 1 [qa.toNat] := by
            have h1 := one_nsl wd qa.toNat
            rw [HQN.out, hn6, hg6] at h1
            exact h1
          rw [hn6, hg6]
          have HON := Lib.hid hon
          replace HY := Lib.hid (HY.out.below bq HY.out.lt)
          replace HQ := Lib.hid (HQ.out.below bq HQ.out.lt)
          replace HB := Lib.hid (HB.out.trans (bq.mono HB.out.size))
          replace HU := Lib.hid (own_below HU.out bq)
          replace HA := Lib.hid (HA.out.below bq HA.out.lt)
          replace HE := Lib.hid (HE.out.below bq HE.out.lt)
          replace HT2 := Lib.hid (HT2.out.bel bq)
          replace HLW := Lib.hid (Nat.le_trans HLW.out bq.size)
          replace HBG := Lib.hid (Nat.le_trans HBG.out bq.size)
          refine hK _ _ ⟨HA.out, HE.out⟩ ?_
          clear hK K hn6 hg6 bq xq hon
          try simp only [Act.put, List.setIfInBounds_toArray, List.set_cons_zero, List.set_cons_succ]
          refine wpI_lone rfl (by kernel_rfl) (fun K hK => ?_)
          rw [if_pos (by simp [Region.wanted])]
          refine wp_append_nsl (.tmp 75) (.tmp 78) rfl w0.heap.size _ ps.length _ rfl HU.out _ _ 1 1 [qa.toNat] rfl HON.out (by decide) (by have := HPL.out; omega) HBG.out ?_
          intro v8 w8 hp8 hg8
          have hfar := fun k (h : k < w0.heap.size) => nrow_far HU.out (k := k) h
          have ha8 := nrow_box HA.out (by decide) HU.out hg8
          have he8 := nrow_box HE.out (by decide) HU.out hg8
          have HY8 := Lib.hid (HY.out.grown hg8 (fun e => hfar g1 HGLO.out.2.2.1 e.symm))
          have HQ8 := Lib.hid (HQ.out.grown hg8 (fun e => hfar g2 HGLO.out.2.2.2 e.symm))
          have HT8 := Lib.hid (HT2.out.step3 (keeps_nrow (L := L) HU.out hg8 HL0.out))
          have HB8 := Lib.hid (app_below HB.out (own_mono HU.out HB0.out.size) hg8 HB.out.size)
          have HU8 := Lib.hid hp8
          refine hK _ _ ⟨ha8, he8⟩ ?_
          have HA8 := Lib.hid ha8
          have HE8 := Lib.hid he8
          clear hK K hfar ha8 he8 hp8 hg8 HY HQ HA HE HT2 HB HU
          try simp only [Act.put, List.setIfInBounds_toArray, List.set_cons_zero, List.set_cons_succ]
          have HY := Lib.hid HY8.out
          have HQ := Lib.hid HQ8.out
          have HB := Lib.hid HB8.out
          refine wpI_lone rfl (by kernel_rfl) (fun K hK => ?_)
          have m0 := stZ0 HY.out
          have m1 := stZ1 HY.out
          have m2 := stZ2 HY.out
          have m3 := stZ3 HY.out
          have m4 := stZ4 HY.out
          have hfz := fun i => HY.out.frozen i
          obtain ⟨xa, ka, ba⟩ := box_five (L := L) HY.out (by decide) HI.out.1 HB.out HI.out.2.1 (.slice y2.d.ba T2.1.1.length y2.d.bc) (.slice y2.d.wa T2.1.2.length y2.d.wc) (.slice y2.a T2.2.1.length y2.c) (.int .u32 (T2.2.2.1 : Int)) (.int .u32 (T2.2.2.2 : Int))
          have yHQ := far5_bl (g := g1) HQ.out HI.out.2.2.2.2.2.1 (.slice y2.d.ba T2.1.1.length y2.d.bc) (.slice y2.d.wa T2.1.2.length y2.d.wc) (.slice y2.a T2.2.1.length y2.c) (.int .u32 (T2.2.2.1 : Int)) (.int .u32 (T2.2.2.2 : Int))
          have yHA8 := far5_bl (g := g1) HA8.out HGG.out.2.2.1 (.slice y2.d.ba T2.1.1.length y2.d.bc) (.slice y2.d.wa T2.1.2.length y2.d.wc) (.slice y2.a T2.2.1.length y2.c) (.int .u32 (T2.2.2.1 : Int)) (.int .u32 (T2.2.2.2 : Int))
          have yHE8 := far5_bl (g := g1) HE8.out HGG.out.2.2.2.2.2.1 (.slice y2.d.ba T2.1.1.length y2.d.bc) (.slice y2.d.wa T2.1.2.length y2.d.wc) (.slice y2.a T2.2.1.length y2.c) (.int .u32 (T2.2.2.1 : Int)) (.int .u32 (T2.2.2.2 : Int))
          obtain ⟨w9, hn⟩ : ∃ X, set5 w8 g1 (.slice y2.d.ba T2.1.1.length y2.d.bc) (.slice y2.d.wa T2.1.2.length y2.d.wc) (.slice y2.a T2.2.1.length y2.c) (.int .u32 (T2.2.2.1 : Int)) (.int .u32 (T2.2.2.2 : Int)) = X := ⟨_, rfl⟩
          rw [hn] at xa ka ba yHQ yHA8 yHE8
          simp only [set5] at hn
          go_simp
          replace HB := Lib.hid ba
          replace HY := Lib.hid xa
          replace HQ := Lib.hid yHQ
          replace HA8 := Lib.hid yHA8
          replace HE8 := Lib.hid yHE8
          replace HT8 := Lib.hid (HT8.out.step ka)
          replace HU8 := Lib.hid (ly_own HU8.out ka)
          refine hK _ _ ⟨HA8.out, HE8.out⟩ ?_
          clear hK K hn xa ka ba hfz m0 m1 m2 m3 m4 yHQ yHA8 yHE8
          try simp only [Act.put, List.setIfInBounds_toArray, List.set_cons_zero, List.set_cons_succ]
          refine wpI_lone rfl (by kernel_rfl) (fun K hK => ?_)
          have m0 := ptZ0 HQ.out
          have m1 := ptZ1 HQ.out
          have m2 := ptZ2 HQ.out
          have m3 := ptZ3 HQ.out
          have m4 := ptZ4 HQ.out
          have hfz := fun i => HQ.out.frozen i
          obtain ⟨xa, ka, ba⟩ := box_five (L := L) HQ.out (by decide) HI.out.2.2.1 HB.out HI.out.2.2.2.1 (.int .i64 qa) (.int .u32 (qb : Int)) (.int .u32 (qi : Int)) (.int .u32 (qt : Int)) (.int .u32 (qs : Int))
          have yHY := far5_bl (g := g2) HY.out HI.out.2.2.2.2.1 (.int .i64 qa) (.int .u32 (qb : Int)) (.int .u32 (qi : Int)) (.int .u32 (qt : Int)) (.int .u32 (qs : Int))
          have yHA8 := far5_bl (g := g2) HA8.out HGG.out.2.2.2.1 (.int .i64 qa) (.int .u32 (qb : Int)) (.int .u32 (qi : Int)) (.int .u32 (qt : Int)) (.int .u32 (qs : Int))
          have yHE8 := far5_bl (g := g2) HE8.out HGG.out.2.2.2.2.2.2 (.int .i64 qa) (.int .u32 (qb : Int)) (.int .u32 (qi : Int)) (.int .u32 (qt : Int)) (.int .u32 (qs : Int))
          obtain ⟨wz, hn⟩ : ∃ X, set5 w9 g2 (.int .i64 qa) (.int .u32 (qb : Int)) (.int .u32 (qi : Int)) (.int .u32 (qt : Int)) (.int .u32 (qs : Int)) = X := ⟨_, rfl⟩
          rw [hn] at xa ka ba yHY yHA8 yHE8
          simp only [set5] at hn
          go_simp
          replace HB := Lib.hid ba
          replace HQ := Lib.hid xa
          replace HY := Lib.hid yHY
          replace HA8 := Lib.hid yHA8
          replace HE8 := Lib.hid yHE8
          replace HT8 := Lib.hid (HT8.out.step ka)
          replace HU8 := Lib.hid (ly_own HU8.out ka)
          refine hK _ _ ⟨HA8.out, HE8.out⟩ ?_
          clear hK K hn xa ka ba hfz m0 m1 m2 m3 m4 yHY yHA8 yHE8
          try simp only [Act.put, List.setIfInBounds_toArray, List.set_cons_zero, List.set_cons_succ]
          have hS := And.intro HA8.out HE8.out
          iterate 2 (
            refine wpI_read (v := ?_) hS rfl (by kernel_rfl) (by kernel_rfl) (by kernel_rfl) (fun _ _ _ h => h) (.inl ⟨by rfl, ?_⟩) ?_
            rotate_left
            · intro X hX
              clear hX
              go_simp
              with_reducible rfl
            try simp only [Act.put, List.setIfInBounds_toArray, List.set_cons_zero, List.set_cons_succ])
          refine wpI_done (by kernel_rfl) ?_
          clear hS
          go_wp2_with fail
          have e0 := bx0 HY.out
          have e1 := bx1 HY.out
          have e2 := bx2 HY.out
          have e3 := bx3 HY.out
          have e4 := bx4 HY.out
          have f0 := bx0 HQ.out
          have f1 := bx1 HQ.out
          have f2 := bx2 HQ.out
          have f3 := bx3 HQ.out
          have f4 := bx4 HQ.out
          refine bodyPost_ret (v := .tuple #[.agg #[.slice y2.d.ba T2.1.1.length y2.d.bc, .slice y2.d.wa T2.1.2.length y2.d.wc, .slice y2.a T2.2.1.length y2.c, .int .u32 (T2.2.2.1 : Int), .int .u32 (T2.2.2.2 : Int)], .agg #[.int .i64 qa, .int .u32 (qb : Int), .int .u32 (qi : Int), .int .u32 (qt : Int), .int .u32 (qs : Int)], v8, .bool true]) (by simp [results, Tryz.f23, go_sem, e0, e1, e2, e3, e4, f0, f1, f2, f3, f4]) rfl ?_
          rw [HO.out]
          have hl : (blksD ps ++ [qa.toNat]).length = ps.length + 1 := by rw [List.length_append, blksD_len]; rfl
          refine ⟨y2, v8, rfl, HT8.out, ?_, HB.out⟩
          show wz.ownsRow w.heap.size 3 1 _ (blksD ps ++ [qa.toNat]).length (valsN (blksD ps ++ [qa.toNat]))
          rw [hl]
          exact own_mono HU8.out HB0.out.size
end Go.Proofs.YtjdjbonljohnbaaGreatDoor
/-
  The document's own one, May, Check, Has, With and Add of layer 16.
-/
namespace Go.Proofs.YtjdjbonljohnbaaGreatDoor
open Go.RowKit Go.Shelf
set_option maxRecDepth 100000

theorem ruOne_any (p : Pt) (w : World) (R : Bool) (hR : R = true ↔ OneP p) : Calls Tryz.prog 43 #[ptV p] w fun e w' => e = .returned (.bool R) ∧ Below w.heap.size w w' := by
  have hb1 : Below w.heap.size w (w.alloc (.cells (ptC p).toArray 32)) := (Below.refl _ w).alloc (Nat.le_refl _) _
  have HB := Lib.hid hb1; clear hb1
  have HK := Lib.hid (show Blk (w.alloc (.cells (ptC p).toArray 32)) w.heap.size 32 (ptC p).toArray from Blk.new w _ _)
  have hm := fun W => rpMay_any p W
  have hn := fun W => rpNone_any p W
  by_cases h : MayP p
  · rw [show decide (MayP p) = true from decide_eq_true h] at hm
    have HM := Lib.hid hm
    have hRn : R = !(eqP p p0) := by
      cases R with
      | true => rw [show eqP p p0 = false from decide_eq_false (hR.1 rfl).2]; rfl
      | false => rw [show eqP p p0 = true from decide_eq_true (by rcases Decidable.em (p = p0) with h' | h'; exact h'; exact absurd (hR.2 ⟨h, h'⟩) (by decide))]; rfl
    rw [hRn]
    obtain ⟨q, hq⟩ : ∃ q, eqP p p0 = q := ⟨_, rfl⟩
    rw [hq] at hn ⊢
    have HN := Lib.hid hn
    clear hm hn hR hRn h hq
    obtain ⟨a, b, c, d, e⟩ := p
    go_enter Tryz.func43, Tryz.ntmps43
    go_wp2_with fail
    refine (HM.out _).mono ?_
    rintro ev w1 ⟨rfl, b1⟩
    obtain ⟨c0, c1, c2, c3, c4⟩ := (HK.out.below b1 HK.out.lt).five
    have HB1 := Lib.hid (HB.out.trans (b1.mono (by simp))); clear b1
    go_wp2_with fail
    clear c0 c1 c2 c3 c4
    refine (HN.out _).mono ?_
    rintro ev w2 ⟨rfl, b2⟩
    have HB2 := Lib.hid (HB1.out.trans (b2.mono HB1.out.size)); clear b2
    go_wp2_with fail
    go_ret
    exact ⟨rfl, HB2.out⟩
  · rw [show decide (MayP p) = false from decide_eq_false h] at hm
    have HM := Lib.hid hm
    obtain rfl : R = false := by cases R with | false => rfl | true => exact absurd (hR.1 rfl).1 h
    clear hm hn hR h
    obtain ⟨a, b, c, d, e⟩ := p
    go_enter Tryz.func43, Tryz.ntmps43
    go_wp2_with fail
    refine (HM.out _).mono ?_
    rintro ev w1 ⟨rfl, b1⟩
    have HB1 := Lib.hid (HB.out.trans (b1.mono (by simp))); clear b1
    go_wp2_with fail
    go_ret
    exact ⟨rfl, HB1.out⟩
set_option linter.unusedSimpArgs false in
set_option maxHeartbeats 8000000 in
theorem ruMay_any (a : Option Addr) (n c : Nat) (L : List Pt) (w : World) (hL : Pts w w.heap.size a n c L) (R : Bool) (hR : R = true ↔ MayDL L) : Calls Tryz.prog 22 #[.slice a n c] w fun e w' => e = .returned (.bool R) ∧ Below w.heap.size w w' := by
  have hmx : Tryz.prog.follows Departure.mixedOrders = true := by kernel_rfl
  have n0 : (0 : Int) ≤ n := by omega
  have n1 : (n : Int) ≤ 9223372036854775807 := by have h1 := hL.2.1; have h2 := hL.2.2.1; unfold maxLen at h2; omega
  have HN := Lib.hid hL.1
  have HP := Lib.hid hL
  clear hL
  by_cases hl : n ≤ 240
  · have l1 : decide ((n : Int) > 240) = false := decide_eq_false (by omega)
    have l2 : decide ((240 : Int) < (n : Int)) = false := decide_eq_false (by omega)
    have HR := Lib.hid (hR.trans (mayDL_steps (by rw [HN.out]; exact hl)))
    clear hR hl
    go_enter Tryz.func22, Tryz.ntmps22
    go_wp2_with fail
    clear l1 l2
    go_loopw [3] (fun i wr => ∃ j : Nat, j ≤ n ∧ i = .int .i64 j ∧ (∀ t, t < j → StepDL L t) ∧ Below w.heap.size w wr) (fun i _ => n - (intOf i).toNat)
    case atStart => exact ⟨0, Nat.zero_le _, rfl, fun j hj => absurd hj (Nat.not_lt_zero _), Below.refl _ _⟩
    case round =>
      obtain ⟨j, hj, rfl, hmay, hb⟩ := hrel
      have j0 : (0 : Int) ≤ j := by omega
      have HBR := Lib.hid hb
      have HM := Lib.hid hmay
      clear hb hmay
      by_cases hlt : j < n
      · have j1 : (j : Int) < n := by omega
        obtain ⟨b2, o2, ea, _⟩ := HP.out.cells j hlt
        subst ea
        obtain ⟨⟨ya, yb, yi, yt, ys⟩, hP⟩ : ∃ P, L.getD j p0 = P := ⟨_, rfl⟩
        have HPE := Lib.hid hP
        clear hP
        by_cases h1 : OneP (ya, yb, yi, yt, ys)
        · have HW := Lib.hid (fun W => ruOne_any (ya, yb, yi, yt, ys) W true ⟨fun _ => h1, fun _ => rfl⟩)
          by_cases hj0 : j = 0
          · have d0 : decide ((j : Int) > 0) = false := decide_eq_false (by omega)
            have d0b : decide ((0 : Int) < (j : Int)) = false := decide_eq_false (by omega)
            have d0n : decide (0 < j) = false := decide_eq_false (by omega)
            have d0m : decide (j > 0) = false := decide_eq_false (by omega)
            have HST := Lib.hid (show OneP (ya, yb, yi, yt, ys) ∧ (0 < j → (L.getD (j - 1) p0).1 < (ya, yb, yi, yt, ys).1) from ⟨h1, fun h => absurd hj0 (by omega)⟩)
            clear h1 hj0
            go_wp2_with fail
            obtain ⟨wd, hwd⟩ : ∃ wd, wr.drew = wd := ⟨_, rfl⟩
            have bq : Below wr.heap.size wr wd := by rw [← hwd]; exact (Below.refl _ wr).drew
            have HPR := Lib.hid (HP.out.step (HBR.out.trans (bq.mono HBR.out.size)))
            have HBD := Lib.hid (HBR.out.trans (bq.mono HBR.out.size))
            have hwd0 := Below.refl wd.heap.size wd
            refine wpI_start (Below wd.heap.size wd) [0, 1, 2, 3, 4, 5, 6, 7, 8, 9, 10, 11, 12, 13, 14, 15, 16, 17, 18, 19, 20, 21, 22, 23] hmx rfl hwd ?_
            clear hwd bq
            iterate 4 (
              refine wpI_read (v := ?_) hwd0 rfl (by kernel_rfl) (by kernel_rfl) (by kernel_rfl) (fun _ _ _ h => h) (.inl ⟨by rfl, ?_⟩) ?_
              rotate_left
              · intro X hX
                obtain ⟨_, _, ea, _, _, v0_, v1_, v2_, v3_, v4_⟩ := (HPR.out.step hX).cells j hlt
                cases ea
                rw [HPE.out] at v0_ v1_ v2_ v3_ v4_
                simp only at v0_ v1_ v2_ v3_ v4_
                clear hX
                go_simp
                with_reducible rfl
              try simp only [Act.put, List.setIfInBounds_toArray, List.set_cons_zero, List.set_cons_succ])
            refine wpI_lone rfl (by kernel_rfl) (fun K hK => ?_)
            go_simp
            refine (HW.out wd).mono ?_
            rintro ev w1 ⟨rfl, b1⟩
            replace hwd0 := hwd0.trans b1
            refine hK _ _ hwd0 ?_
            clear hK K b1
            try simp only [Act.put, List.setIfInBounds_toArray, List.set_cons_zero, List.set_cons_succ]
            iterate 5 (
              refine wpI_read (v := ?_) hwd0 rfl (by kernel_rfl) (by kernel_rfl) (by kernel_rfl) (fun _ _ _ h => h) (.inl ⟨by rfl, ?_⟩) ?_
              rotate_left
              · intro X hX
                clear hX
                go_simp
                with_reducible rfl
              try simp only [Act.put, List.setIfInBounds_toArray, List.set_cons_zero, List.set_cons_succ])
            iterate 12 (
              refine wpI_read (v := undef) hwd0 rfl (by kernel_rfl) (by kernel_rfl) (by kernel_rfl) (fun _ _ _ h => h) (.inr ⟨by rfl, rfl⟩) ?_
              try simp only [Act.put, List.setIfInBounds_toArray, List.set_cons_zero, List.set_cons_succ])
            iterate 2 (
              refine wpI_read (v := ?_) hwd0 rfl (by kernel_rfl) (by kernel_rfl) (by kernel_rfl) (fun _ _ _ h => h) (.inl ⟨by rfl, ?_⟩) ?_
              rotate_left
              · intro X hX
                clear hX
                go_simp
                with_reducible rfl
              try simp only [Act.put, List.setIfInBounds_toArray, List.set_cons_zero, List.set_cons_succ])
            refine wpI_done (by kernel_rfl) ?_
            have HB9 := Lib.hid (HBD.out.trans (hwd0.mono HBD.out.size))
            clear hwd0
            go_wp2_with fail
            go_roundw
            case rel =>
              refine ⟨j + 1, by omega, by go_num, fun t ht => ?_, HB9.out⟩
              by_cases e : t = j
              · subst e
                rw [StepDL, HPE.out]
                exact HST.out
              · exact HM.out t (by omega)
            case measure => simp [intOf]; omega
          · have d0 : decide ((j : Int) > 0) = true := decide_eq_true (by omega)
            have d0b : decide ((0 : Int) < (j : Int)) = true := decide_eq_true (by omega)
            have d0n : decide (0 < j) = true := decide_eq_true (by omega)
            have d0m : decide (j > 0) = true := decide_eq_true (by omega)
            have HJP := Lib.hid (show 0 < j by omega)
            clear hj0
            obtain ⟨i, hi⟩ : ∃ i, i = j - 1 := ⟨_, rfl⟩
            have hjp := HJP.out
            have hii : i < n := by omega
            have e1 : (j : Int) - 1 = (i : Int) := by omega
            have i0 : (0 : Int) ≤ (i : Int) := by omega
            have i1 : (i : Int) < n := by omega
            have hwr : IntKind.i64.wrap (i : Int) = (i : Int) := by simp [IntKind.wrap, IntKind.bits, IntKind.signed]; omega
            have j9 : (j : Int) - 1 ≤ 9223372036854775807 := by omega
            clear hjp
            obtain ⟨qx, hqx⟩ : ∃ z : Int, (L.getD i p0).1 = z := ⟨_, rfl⟩
            have HQX := Lib.hid hqx
            have HI := Lib.hid hi
            clear hi hqx
            by_cases h2 : qx < ya
            · have d1 : decide (ya ≤ qx) = false := decide_eq_false (by omega)
              have HST := Lib.hid (show OneP (ya, yb, yi, yt, ys) ∧ (0 < j → (L.getD (j - 1) p0).1 < (ya, yb, yi, yt, ys).1) from ⟨h1, fun _ => by rw [← HI.out, HQX.out]; exact h2⟩)
              clear h1 h2
              go_wp2_with fail
              obtain ⟨wd, hwd⟩ : ∃ wd, wr.drew = wd := ⟨_, rfl⟩
              have bq : Below wr.heap.size wr wd := by rw [← hwd]; exact (Below.refl _ wr).drew
              have HPR := Lib.hid (HP.out.step (HBR.out.trans (bq.mono HBR.out.size)))
              have HBD := Lib.hid (HBR.out.trans (bq.mono HBR.out.size))
              have hwd0 := Below.refl wd.heap.size wd
              refine wpI_start (Below wd.heap.size wd) [0, 1, 2, 3, 4, 5, 6, 7, 8, 9, 10, 11, 12, 13, 14, 15, 16, 17, 18, 19, 20, 21, 22, 23] hmx rfl hwd ?_
              clear hwd bq
              iterate 4 (
                refine wpI_read (v := ?_) hwd0 rfl (by kernel_rfl) (by kernel_rfl) (by kernel_rfl) (fun _ _ _ h => h) (.inl ⟨by rfl, ?_⟩) ?_
                rotate_left
                · intro X hX
                  obtain ⟨_, _, ea, _, _, v0_, v1_, v2_, v3_, v4_⟩ := (HPR.out.step hX).cells j hlt
                  cases ea
                  rw [HPE.out] at v0_ v1_ v2_ v3_ v4_
                  simp only at v0_ v1_ v2_ v3_ v4_
                  clear hX
                  go_simp
                  with_reducible rfl
                try simp only [Act.put, List.setIfInBounds_toArray, List.set_cons_zero, List.set_cons_succ])
              refine wpI_lone rfl (by kernel_rfl) (fun K hK => ?_)
              go_simp
              refine (HW.out wd).mono ?_
              rintro ev w1 ⟨rfl, b1⟩
              replace hwd0 := hwd0.trans b1
              refine hK _ _ hwd0 ?_
              clear hK K b1
              try simp only [Act.put, List.setIfInBounds_toArray, List.set_cons_zero, List.set_cons_succ]
              iterate 19 (
                refine wpI_read (v := ?_) hwd0 rfl (by kernel_rfl) (by kernel_rfl) (by kernel_rfl) (fun _ _ _ h => h) (.inl ⟨by rfl, ?_⟩) ?_
                rotate_left
                · intro X hX
                  obtain ⟨_, _, ea, _, _, v0_, v1_, v2_, v3_, v4_⟩ := (HPR.out.step hX).cells j hlt
                  cases ea
                  rw [HPE.out] at v0_ v1_ v2_ v3_ v4_
                  simp only at v0_ v1_ v2_ v3_ v4_
                  obtain ⟨_, _, ea, _, _, u0_, _, _, _, _⟩ := (HPR.out.step hX).cells i hii
                  cases ea
                  rw [HQX.out] at u0_
                  clear hX
                  go_simp
                  with_reducible rfl
                try simp only [Act.put, List.setIfInBounds_toArray, List.set_cons_zero, List.set_cons_succ])
              refine wpI_done (by kernel_rfl) ?_
              have HB9 := Lib.hid (HBD.out.trans (hwd0.mono HBD.out.size))
              clear hwd0
              go_wp2_with fail
              go_roundw
              case rel =>
                refine ⟨j + 1, by omega, by go_num, fun t ht => ?_, HB9.out⟩
                by_cases e : t = j
                · subst e
                  rw [StepDL, HPE.out]
                  exact HST.out
                · exact HM.out t (by omega)
              case measure => simp [intOf]; omega
            · have d1 : decide (ya ≤ qx) = true := decide_eq_true (by omega)
              obtain rfl : R = false := by
                cases R with
                | false => rfl
                | true =>
                  have := HR.out.1 rfl j (by rw [HN.out]; exact hlt)
                  rw [StepDL, HPE.out] at this
                  exact absurd (this.2 HJP.out) (by rw [← HI.out, HQX.out]; exact h2)
              clear h1 h2
              go_wp2_with fail
              obtain ⟨wd, hwd⟩ : ∃ wd, wr.drew = wd := ⟨_, rfl⟩
              have bq : Below wr.heap.size wr wd := by rw [← hwd]; exact (Below.refl _ wr).drew
              have HPR := Lib.hid (HP.out.step (HBR.out.trans (bq.mono HBR.out.size)))
              have HBD := Lib.hid (HBR.out.trans (bq.mono HBR.out.size))
              have hwd0 := Below.refl wd.heap.size wd
              refine wpI_start (Below wd.heap.size wd) [0, 1, 2, 3, 4, 5, 6, 7, 8, 9, 10, 11, 12, 13, 14, 15, 16, 17, 18, 19, 20, 21, 22, 23] hmx rfl hwd ?_
              clear hwd bq
              iterate 4 (
                refine wpI_read (v := ?_) hwd0 rfl (by kernel_rfl) (by kernel_rfl) (by kernel_rfl) (fun _ _ _ h => h) (.inl ⟨by rfl, ?_⟩) ?_
                rotate_left
                · intro X hX
                  obtain ⟨_, _, ea, _, _, v0_, v1_, v2_, v3_, v4_⟩ := (HPR.out.step hX).cells j hlt
                  cases ea
                  rw [HPE.out] at v0_ v1_ v2_ v3_ v4_
                  simp only at v0_ v1_ v2_ v3_ v4_
                  clear hX
                  go_simp
                  with_reducible rfl
                try simp only [Act.put, List.setIfInBounds_toArray, List.set_cons_zero, List.set_cons_succ])
              refine wpI_lone rfl (by kernel_rfl) (fun K hK => ?_)
              go_simp
              refine (HW.out wd).mono ?_
              rintro ev w1 ⟨rfl, b1⟩
              replace hwd0 := hwd0.trans b1
              refine hK _ _ hwd0 ?_
              clear hK K b1
              try simp only [Act.put, List.setIfInBounds_toArray, List.set_cons_zero, List.set_cons_succ]
              iterate 19 (
                refine wpI_read (v := ?_) hwd0 rfl (by kernel_rfl) (by kernel_rfl) (by kernel_rfl) (fun _ _ _ h => h) (.inl ⟨by rfl, ?_⟩) ?_
                rotate_left
                · intro X hX
                  obtain ⟨_, _, ea, _, _, v0_, v1_, v2_, v3_, v4_⟩ := (HPR.out.step hX).cells j hlt
                  cases ea
                  rw [HPE.out] at v0_ v1_ v2_ v3_ v4_
                  simp only at v0_ v1_ v2_ v3_ v4_
                  obtain ⟨_, _, ea, _, _, u0_, _, _, _, _⟩ := (HPR.out.step hX).cells i hii
                  cases ea
                  rw [HQX.out] at u0_
                  clear hX
                  go_simp
                  with_reducible rfl
                try simp only [Act.put, List.setIfInBounds_toArray, List.set_cons_zero, List.set_cons_succ])
              refine wpI_done (by kernel_rfl) ?_
              have HB9 := Lib.hid (HBD.out.trans (hwd0.mono HBD.out.size))
              clear hwd0
              go_wp2_with fail
              go_ret
              exact ⟨rfl, HB9.out⟩
        · have HW := Lib.hid (fun W => ruOne_any (ya, yb, yi, yt, ys) W false ⟨fun x => (by cases x), fun x => absurd x h1⟩)
          obtain rfl : R = false := by
            cases R with
            | false => rfl
            | true =>
              have := HR.out.1 rfl j (by rw [HN.out]; exact hlt)
              rw [StepDL, HPE.out] at this
              exact absurd this.1 h1
          clear h1
          go_wp2_with fail
          obtain ⟨wd, hwd⟩ : ∃ wd, wr.drew = wd := ⟨_, rfl⟩
          have bq : Below wr.heap.size wr wd := by rw [← hwd]; exact (Below.refl _ wr).drew
          have HPR := Lib.hid (HP.out.step (HBR.out.trans (bq.mono HBR.out.size)))
          have HBD := Lib.hid (HBR.out.trans (bq.mono HBR.out.size))
          have hwd0 := Below.refl wd.heap.size wd
          refine wpI_start (Below wd.heap.size wd) [0, 1, 2, 3, 4, 5, 6, 7, 8, 9, 10, 11, 12, 13, 14, 15, 16, 17, 18, 19, 20, 21, 22, 23] hmx rfl hwd ?_
          clear hwd bq
          iterate 4 (
            refine wpI_read (v := ?_) hwd0 rfl (by kernel_rfl) (by kernel_rfl) (by kernel_rfl) (fun _ _ _ h => h) (.inl ⟨by rfl, ?_⟩) ?_
            rotate_left
            · intro X hX
              obtain ⟨_, _, ea, _, _, v0_, v1_, v2_, v3_, v4_⟩ := (HPR.out.step hX).cells j hlt
              cases ea
              rw [HPE.out] at v0_ v1_ v2_ v3_ v4_
              simp only at v0_ v1_ v2_ v3_ v4_
              clear hX
              go_simp
              with_reducible rfl
            try simp only [Act.put, List.setIfInBounds_toArray, List.set_cons_zero, List.set_cons_succ])
          refine wpI_lone rfl (by kernel_rfl) (fun K hK => ?_)
          go_simp
          refine (HW.out wd).mono ?_
          rintro ev w1 ⟨rfl, b1⟩
          replace hwd0 := hwd0.trans b1
          refine hK _ _ hwd0 ?_
          clear hK K b1
          try simp only [Act.put, List.setIfInBounds_toArray, List.set_cons_zero, List.set_cons_succ]
          iterate 2 (
            refine wpI_read (v := ?_) hwd0 rfl (by kernel_rfl) (by kernel_rfl) (by kernel_rfl) (fun _ _ _ h => h) (.inl ⟨by rfl, ?_⟩) ?_
            rotate_left
            · intro X hX
              clear hX
              go_simp
              with_reducible rfl
            try simp only [Act.put, List.setIfInBounds_toArray, List.set_cons_zero, List.set_cons_succ])
          iterate 16 (
            refine wpI_read (v := undef) hwd0 rfl (by kernel_rfl) (by kernel_rfl) (by kernel_rfl) (fun _ _ _ h => h) (.inr ⟨by rfl, rfl⟩) ?_
            try simp only [Act.put, List.setIfInBounds_toArray, List.set_cons_zero, List.set_cons_succ])
          iterate 1 (
            refine wpI_read (v := ?_) hwd0 rfl (by kernel_rfl) (by kernel_rfl) (by kernel_rfl) (fun _ _ _ h => h) (.inl ⟨by rfl, ?_⟩) ?_
            rotate_left
            · intro X hX
              clear hX
              go_simp
              with_reducible rfl
            try simp only [Act.put, List.setIfInBounds_toArray, List.set_cons_zero, List.set_cons_succ])
          refine wpI_done (by kernel_rfl) ?_
          have HB9 := Lib.hid (HBD.out.trans (hwd0.mono HBD.out.size))
          clear hwd0
          go_wp2_with fail
          go_ret
          exact ⟨rfl, HB9.out⟩
      · obtain rfl : j = n := by omega
        obtain rfl : R = true := HR.out.2 fun i hi => HM.out i (by rw [HN.out] at hi; exact hi)
        clear hlt hj
        go_wp2_with fail
        go_ret
        exact ⟨rfl, HBR.out⟩
  · have l1 : decide ((n : Int) > 240) = true := decide_eq_true (by omega)
    have l2 : decide ((240 : Int) < (n : Int)) = true := decide_eq_true (by omega)
    obtain rfl : R = false := by cases R with | false => rfl | true => exact absurd (hR.1 rfl).1 (by rw [HN.out]; exact hl)
    clear hR hl
    go_enter Tryz.func22, Tryz.ntmps22
    go_wp2_with fail
    go_ret
    exact ⟨rfl, Below.refl _ _⟩
end Go.Proofs.YtjdjbonljohnbaaGreatDoor
/-
  The document's own Lay of layer 16.
-/
namespace Go.Proofs.YtjdjbonljohnbaaGreatDoor
open Go.RowKit Go.Shelf
set_option maxRecDepth 100000

/-- What Lay answers. -/
def OutLy (L : Nat) (o : StL × Pt × List Nat × Nat) (w : World) (e : Ending) (w' : World) : Prop :=
  ∃ y u, e = .returned (.tuple #[stV y o.1, ptV o.2.1, u, .int .i64 (o.2.2.2 : Int)]) ∧ StP L w' y o.1 ∧ w'.ownsRow w.heap.size 3 1 u o.2.2.1.length (valsN o.2.2.1) ∧ Below w.heap.size w w'
theorem layedO_two (S : StL) (b : Nat) (l : List Pt) : (layedO S b l).2.2.2 = 0 ∨ layedO S b l = (st0, p0, [], 9) := by
  unfold layedO
  split
  · exact .inl rfl
  · split
    · exact .inr rfl
    · split
      · exact .inr rfl
      · exact .inl rfl
set_option linter.unusedSimpArgs false in
set_option maxHeartbeats 16000000 in
theorem ruLay_any (L : Nat) (x : SAt) (S : StL) (b : Nat) (a : Option Addr) (n c : Nat) (l : List Pt) (w : World) (h : StP L w x S) (hbi : b < 4294967296) (hr : Pts w w.heap.size a n c l) (hL : L ≤ w.heap.size) : Calls Tryz.prog 7 #[stV x S, .int .u32 (b : Int), .slice a n c] w (OutLy L (layO S b l) w) := by
  have hmx : Tryz.prog.follows Departure.mixedOrders = true := by kernel_rfl
  have b9_ : (b : Int) < 4294967296 := by omega
  have b0_ : (0 : Int) ≤ (b : Int) := by omega
  obtain ⟨w0, hw0, b0, z0, q0, q1, q2⟩ := three_al w (stC x S) #[.slice none 0 0, .slice none 0 0, .slice none 0 0, .int .u32 0, .int .u32 0] #[.int .i64 0, .int .u32 0, .int .u32 0, .int .u32 0, .int .u32 0] 29 29 32
  obtain ⟨g, hg⟩ : ∃ g, w.heap.size = g := ⟨_, rfl⟩
  obtain ⟨g1, hg1⟩ : ∃ g1, g + 1 = g1 := ⟨_, rfl⟩
  obtain ⟨g2, hg2⟩ : ∃ g2, g1 + 1 = g2 := ⟨_, rfl⟩
  rw [hg] at q0 q1 q2
  rw [hg1] at q1
  rw [show g + 2 = g1 + 1 by omega, hg2] at q2
  have HI := Lib.hid (show L ≤ g1 ∧ w.heap.size ≤ g1 ∧ L ≤ g2 ∧ w.heap.size ≤ g2 ∧ g1 ≠ g2 ∧ g2 ≠ g1 ∧ g ≠ g1 ∧ g ≠ g2 ∧ L ≤ g ∧ w.heap.size ≤ g ∧ g1 ≠ g ∧ g2 ≠ g by omega)
  have HX := Lib.hid q0
  have HY := Lib.hid q1
  have HQ := Lib.hid q2
  have HT := Lib.hid (h.bel b0)
  have HB := Lib.hid b0
  have HP := Lib.hid (hr.step b0)
  have HLW := Lib.hid (show L ≤ w0.heap.size from Nat.le_trans hL b0.size)
  have HGW := Lib.hid hg
  simp only [stC] at hw0
  clear h b0 z0 q0 q1 q2 hL hr
  by_cases hm : MayS S
  · by_cases hmd : MayDL l
    · have HMY := Lib.hid (rtMay_any L x S w0 HT.out true ⟨fun _ => hm, fun _ => rfl⟩)
      have HPM := Lib.hid (fun W (hW : Pts W W.heap.size a n c l) => ruMay_any a n c l W hW true ⟨fun _ => hmd, fun _ => rfl⟩)
      have HMS := Lib.hid hm
      have HMD := Lib.hid hmd
      clear hm hmd
      have d0 := bx0 HX.out
      have d1 := bx1 HX.out
      have d2 := bx2 HX.out
      have d3 := bx3 HX.out
      have d4 := bx4 HX.out
      go_enter Tryz.func7, Tryz.ntmps7
      go_wp2_with fail
      try rw [hw0]
      try rw [hg]
      try rw [hg1]
      try rw [hg2]
      clear hw0 hg hg1 hg2
      clear d0 d1 d2 d3 d4
      refine HMY.out.mono ?_
      rintro e w1 ⟨rfl, b1⟩
      replace HX := Lib.hid (HX.out.below b1 HX.out.lt)
      replace HY := Lib.hid (HY.out.below b1 HY.out.lt)
      replace HQ := Lib.hid (HQ.out.below b1 HQ.out.lt)
      replace HT := Lib.hid (HT.out.bel b1)
      replace HB := Lib.hid (HB.out.trans (b1.mono HB.out.size))
      replace HP := Lib.hid (HP.out.step b1)
      replace HLW := Lib.hid (Nat.le_trans HLW.out b1.size)
      clear b1 HMY
      go_wp2_with fail
      refine (HPM.out w1 HP.out).mono ?_
      rintro e w2 ⟨rfl, b2⟩
      replace HX := Lib.hid (HX.out.below b2 HX.out.lt)
      replace HY := Lib.hid (HY.out.below b2 HY.out.lt)
      replace HQ := Lib.hid (HQ.out.below b2 HQ.out.lt)
      replace HT := Lib.hid (HT.out.bel b2)
      replace HB := Lib.hid (HB.out.trans (b2.mono HB.out.size))
      replace HP := Lib.hid (HP.out.step b2)
      replace HLW := Lib.hid (Nat.le_trans HLW.out b2.size)
      clear b2 HPM
      by_cases hb1 : b < 1
      · have HO := Lib.hid (show layO S b l = (st0, p0, [], 2) by unfold layO; rw [if_pos ⟨HMS.out, HMD.out⟩, if_neg (by omega)])
        have k1 : decide ((b : Int) < 1) = true := decide_eq_true (by omega)
        have k1n : decide (b < 1) = true := decide_eq_true (by omega)
        have m0 := stZ0 HY.out
        have m1 := stZ1 HY.out
        have m2 := stZ2 HY.out
        have m3 := stZ3 HY.out
        have m4 := stZ4 HY.out
        have mf := fun i => HY.out.frozen i
        obtain ⟨xa, ka, ba⟩ := box_five (L := L) HY.out (by decide) HI.out.1 HB.out HI.out.2.1 (.slice none 0 0) (.slice none 0 0) (.slice none 0 0) (.int .u32 0) (.int .u32 0)
        have ya := far5_bl (g := g1) HQ.out HI.out.2.2.2.2.2.1 (.slice none 0 0) (.slice none 0 0) (.slice none 0 0) (.int .u32 0) (.int .u32 0)
        obtain ⟨wa, hwa⟩ : ∃ wa, set5 w2 g1 (.slice none 0 0) (.slice none 0 0) (.slice none 0 0) (.int .u32 0) (.int .u32 0) = wa := ⟨_, rfl⟩
        rw [hwa] at xa ka ba ya
        simp only [set5] at hwa
        have n0 := ptZ0 ya
        have n1 := ptZ1 ya
        have n2 := ptZ2 ya
        have n3 := ptZ3 ya
        have n4 := ptZ4 ya
        have nf := fun i => ya.frozen i
        obtain ⟨xb, kb, bb⟩ := box_five (L := L) ya (by decide) HI.out.2.2.1 ba HI.out.2.2.2.1 (.int .i64 0) (.int .u32 0) (.int .u32 0) (.int .u32 0) (.int .u32 0)
        have yb := far5_bl (g := g2) xa HI.out.2.2.2.2.1 (.int .i64 0) (.int .u32 0) (.int .u32 0) (.int .u32 0) (.int .u32 0)
        obtain ⟨wb, hwb⟩ : ∃ wb, set5 wa g2 (.int .i64 0) (.int .u32 0) (.int .u32 0) (.int .u32 0) (.int .u32 0) = wb := ⟨_, rfl⟩
        rw [hwb] at xb kb bb yb
        simp only [set5] at hwb
        replace HY := Lib.hid yb
        replace HQ := Lib.hid xb
        replace HB := Lib.hid bb
        have HKK := Lib.hid (ka.trans kb)
        clear xa ka ba ya xb kb bb yb
        go_wp2_with fail
        clear m0 m1 m2 m3 m4 mf hwa n0 n1 n2 n3 n4 nf hwb
        have e0 := bx0 HY.out
        have e1 := bx1 HY.out
        have e2 := bx2 HY.out
        have e3 := bx3 HY.out
        have e4 := bx4 HY.out
        have f0 := bx0 HQ.out
        have f1 := bx1 HQ.out
        have f2 := bx2 HQ.out
        have f3 := bx3 HQ.out
        have f4 := bx4 HQ.out
        refine bodyPost_ret (v := .tuple #[.agg #[.slice none 0 0, .slice none 0 0, .slice none 0 0, .int .u32 0, .int .u32 0], .agg #[.int .i64 0, .int .u32 0, .int .u32 0, .int .u32 0, .int .u32 0], .slice none 0 0, .int .i64 2]) (by simp [results, Tryz.f7, go_sem, e0, e1, e2, e3, e4, f0, f1, f2, f3, f4]) rfl ?_
        rw [HO.out]
        exact ⟨at0, _, rfl, st0_lasts L _, World.ownsRow_nil _ _ _ _, HB.out⟩
      · by_cases hb2 : 16777215 < b
        · have HO := Lib.hid (show layO S b l = (st0, p0, [], 2) by unfold layO; rw [if_pos ⟨HMS.out, HMD.out⟩, if_neg (by omega)])
          have k1 : decide ((b : Int) < 1) = false := decide_eq_false (by omega)
          have k1n : decide (b < 1) = false := decide_eq_false (by omega)
          have k2 : decide ((b : Int) > 16777215) = true := decide_eq_true (by omega)
          have k2n : decide ((16777215 : Int) < (b : Int)) = true := decide_eq_true (by omega)
          have k2m : decide (16777215 < b) = true := decide_eq_true (by omega)
          have m0 := stZ0 HY.out
          have m1 := stZ1 HY.out
          have m2 := stZ2 HY.out
          have m3 := stZ3 HY.out
          have m4 := stZ4 HY.out
          have mf := fun i => HY.out.frozen i
          obtain ⟨xa, ka, ba⟩ := box_five (L := L) HY.out (by decide) HI.out.1 HB.out HI.out.2.1 (.slice none 0 0) (.slice none 0 0) (.slice none 0 0) (.int .u32 0) (.int .u32 0)
          have ya := far5_bl (g := g1) HQ.out HI.out.2.2.2.2.2.1 (.slice none 0 0) (.slice none 0 0) (.slice none 0 0) (.int .u32 0) (.int .u32 0)
          obtain ⟨wa, hwa⟩ : ∃ wa, set5 w2 g1 (.slice none 0 0) (.slice none 0 0) (.slice none 0 0) (.int .u32 0) (.int .u32 0) = wa := ⟨_, rfl⟩
          rw [hwa] at xa ka ba ya
          simp only [set5] at hwa
          have n0 := ptZ0 ya
          have n1 := ptZ1 ya
          have n2 := ptZ2 ya
          have n3 := ptZ3 ya
          have n4 := ptZ4 ya
          have nf := fun i => ya.frozen i
          obtain ⟨xb, kb, bb⟩ := box_five (L := L) ya (by decide) HI.out.2.2.1 ba HI.out.2.2.2.1 (.int .i64 0) (.int .u32 0) (.int .u32 0) (.int .u32 0) (.int .u32 0)
          have yb := far5_bl (g := g2) xa HI.out.2.2.2.2.1 (.int .i64 0) (.int .u32 0) (.int .u32 0) (.int .u32 0) (.int .u32 0)
          obtain ⟨wb, hwb⟩ : ∃ wb, set5 wa g2 (.int .i64 0) (.int .u32 0) (.int .u32 0) (.int .u32 0) (.int .u32 0) = wb := ⟨_, rfl⟩
          rw [hwb] at xb kb bb yb
          simp only [set5] at hwb
          replace HY := Lib.hid yb
          replace HQ := Lib.hid xb
          replace HB := Lib.hid bb
          have HKK := Lib.hid (ka.trans kb)
          clear xa ka ba ya xb kb bb yb
          go_wp2_with fail
          clear m0 m1 m2 m3 m4 mf hwa n0 n1 n2 n3 n4 nf hwb
          have e0 := bx0 HY.out
          have e1 := bx1 HY.out
          have e2 := bx2 HY.out
          have e3 := bx3 HY.out
          have e4 := bx4 HY.out
          have f0 := bx0 HQ.out
          have f1 := bx1 HQ.out
          have f2 := bx2 HQ.out
          have f3 := bx3 HQ.out
          have f4 := bx4 HQ.out
          refine bodyPost_ret (v := .tuple #[.agg #[.slice none 0 0, .slice none 0 0, .slice none 0 0, .int .u32 0, .int .u32 0], .agg #[.int .i64 0, .int .u32 0, .int .u32 0, .int .u32 0, .int .u32 0], .slice none 0 0, .int .i64 2]) (by simp [results, Tryz.f7, go_sem, e0, e1, e2, e3, e4, f0, f1, f2, f3, f4]) rfl ?_
          rw [HO.out]
          exact ⟨at0, _, rfl, st0_lasts L _, World.ownsRow_nil _ _ _ _, HB.out⟩
        · have hbr : 1 ≤ b ∧ b ≤ 16777215 := by omega
          clear hb1 hb2
          have HLO := Lib.hid (show layO S b l = layedO S b l by unfold layO; rw [if_pos ⟨HMS.out, HMD.out⟩, if_pos hbr])
          have k1 : decide ((b : Int) < 1) = false := decide_eq_false (by omega)
          have k1n : decide (b < 1) = false := decide_eq_false (by omega)
          have k2 : decide ((b : Int) > 16777215) = false := decide_eq_false (by omega)
          have k2n : decide ((16777215 : Int) < (b : Int)) = false := decide_eq_false (by omega)
          have k2m : decide (16777215 < b) = false := decide_eq_false (by omega)
          have HLD := Lib.hid (ruLaid_any L x S b a n c l w2 HT.out HMS.out HMD.out hbr HP.out HLW.out)
          have HTW := Lib.hid (layedO_two S b l)
          have HBD := Lib.hid HB.out.size
          clear hbr
          have d0 := bx0 HX.out
          have d1 := bx1 HX.out
          have d2 := bx2 HX.out
          have d3 := bx3 HX.out
          have d4 := bx4 HX.out
          go_wp2_with fail
          clear d0 d1 d2 d3 d4
          clear k1 k1n k2 k2n k2m
          refine HLD.out.mono ?_
          rintro e w3 ⟨y2, u, rfl, hy2, hu, b3⟩
          obtain ⟨⟨T2, ⟨qa, qb, qi, qt, qs⟩, own, ee⟩, ho⟩ : ∃ o, layedO S b l = o := ⟨_, rfl⟩
          rw [ho] at hy2 hu HTW HLO ⊢
          simp only at hy2 hu HTW ⊢
          replace HX := Lib.hid (HX.out.below b3 HX.out.lt)
          replace HY := Lib.hid (HY.out.below b3 HY.out.lt)
          replace HQ := Lib.hid (HQ.out.below b3 HQ.out.lt)
          replace HT := Lib.hid (HT.out.bel b3)
          replace HB := Lib.hid (HB.out.trans (b3.mono HB.out.size))
          replace HP := Lib.hid (HP.out.step b3)
          replace HLW := Lib.hid (Nat.le_trans HLW.out b3.size)
          have HT2 := Lib.hid hy2
          have HU := Lib.hid (own_mono hu HBD.out)
          clear b3 hy2 hu HLD ho
          obtain ⟨r, hr⟩ : ∃ r, (ee == 0) = r := ⟨_, rfl⟩
          rw [hr]
          have HRE := Lib.hid hr
          clear hr
          obtain ⟨w4, hw4, b4, z4, q8, q9⟩ := two_al w3 #[.slice none 0 0, .slice none 0 0, .slice none 0 0, .int .u32 0, .int .u32 0] #[.int .i64 0, .int .u32 0, .int .u32 0, .int .u32 0, .int .u32 0] 29 32
          obtain ⟨g8, hg8⟩ : ∃ k, w3.heap.size = k := ⟨_, rfl⟩
          obtain ⟨g9, hg9⟩ : ∃ k, g8 + 1 = k := ⟨_, rfl⟩
          rw [hg8] at q8 q9 b4
          rw [hg9] at q9
          have b4' : Below w3.heap.size w3 w4 := hg8 ▸ b4
          have hg8w : w.heap.size ≤ g8 := by rw [← hg8]; exact HB.out.size
          have hg8L : L ≤ g8 := by rw [← hg8]; exact HLW.out
          have hgs : g < g8 ∧ g1 < g8 ∧ g2 < g8 := by rw [← hg8]; exact ⟨HX.out.lt, HY.out.lt, HQ.out.lt⟩
          replace HX := Lib.hid (HX.out.below b4' HX.out.lt)
          replace HY := Lib.hid (HY.out.below b4' HY.out.lt)
          replace HQ := Lib.hid (HQ.out.below b4' HQ.out.lt)
          replace HT2 := Lib.hid (HT2.out.bel b4')
          replace HB := Lib.hid (HB.out.trans (b4'.mono HB.out.size))
          replace HU := Lib.hid (own_below HU.out b4')
          replace HLW := Lib.hid (Nat.le_trans HLW.out b4'.size)
          have z0 := stZ0 q8
          have z1 := stZ1 q8
          have z2 := stZ2 q8
          have z3 := stZ3 q8
          have z4_ := stZ4 q8
          have zf := fun i => q8.frozen i
          obtain ⟨xa, ka, ba⟩ := box_five (L := L) q8 (by decide) hg8L HB.out hg8w (.slice y2.d.ba T2.1.1.length y2.d.bc) (.slice y2.d.wa T2.1.2.length y2.d.wc) (.slice y2.a T2.2.1.length y2.c) (.int .u32 (T2.2.2.1 : Int)) (.int .u32 (T2.2.2.2 : Int))
          have y9 := far5_bl (g := g8) q9 (show g9 ≠ g8 by omega) (.slice y2.d.ba T2.1.1.length y2.d.bc) (.slice y2.d.wa T2.1.2.length y2.d.wc) (.slice y2.a T2.2.1.length y2.c) (.int .u32 (T2.2.2.1 : Int)) (.int .u32 (T2.2.2.2 : Int))
          have yY := far5_bl (g := g8) HY.out (show g1 ≠ g8 by omega) (.slice y2.d.ba T2.1.1.length y2.d.bc) (.slice y2.d.wa T2.1.2.length y2.d.wc) (.slice y2.a T2.2.1.length y2.c) (.int .u32 (T2.2.2.1 : Int)) (.int .u32 (T2.2.2.2 : Int))
          have yQ := far5_bl (g := g8) HQ.out (show g2 ≠ g8 by omega) (.slice y2.d.ba T2.1.1.length y2.d.bc) (.slice y2.d.wa T2.1.2.length y2.d.wc) (.slice y2.a T2.2.1.length y2.c) (.int .u32 (T2.2.2.1 : Int)) (.int .u32 (T2.2.2.2 : Int))
          obtain ⟨w5, dn⟩ : ∃ X, set5 w4 g8 (.slice y2.d.ba T2.1.1.length y2.d.bc) (.slice y2.d.wa T2.1.2.length y2.d.wc) (.slice y2.a T2.2.1.length y2.c) (.int .u32 (T2.2.2.1 : Int)) (.int .u32 (T2.2.2.2 : Int)) = X := ⟨_, rfl⟩
          rw [dn] at xa ka ba y9 yY yQ
          simp only [set5] at dn
          have p0_ := ptZ0 y9
          have p1_ := ptZ1 y9
          have p2_ := ptZ2 y9
          have p3_ := ptZ3 y9
          have p4_ := ptZ4 y9
          have pf := fun i => y9.frozen i
          obtain ⟨xc, kc, bc⟩ := box_five (L := L) y9 (by decide) (show L ≤ g9 by omega) ba (show w.heap.size ≤ g9 by omega) (.int .i64 qa) (.int .u32 (qb : Int)) (.int .u32 (qi : Int)) (.int .u32 (qt : Int)) (.int .u32 (qs : Int))
          have v8 := far5_bl (g := g9) xa (show g8 ≠ g9 by omega) (.int .i64 qa) (.int .u32 (qb : Int)) (.int .u32 (qi : Int)) (.int .u32 (qt : Int)) (.int .u32 (qs : Int))
          have vY := far5_bl (g := g9) yY (show g1 ≠ g9 by omega) (.int .i64 qa) (.int .u32 (qb : Int)) (.int .u32 (qi : Int)) (.int .u32 (qt : Int)) (.int .u32 (qs : Int))
          have vQ := far5_bl (g := g9) yQ (show g2 ≠ g9 by omega) (.int .i64 qa) (.int .u32 (qb : Int)) (.int .u32 (qi : Int)) (.int .u32 (qt : Int)) (.int .u32 (qs : Int))
          obtain ⟨w6, pn⟩ : ∃ X, set5 w5 g9 (.int .i64 qa) (.int .u32 (qb : Int)) (.int .u32 (qi : Int)) (.int .u32 (qt : Int)) (.int .u32 (qs : Int)) = X := ⟨_, rfl⟩
          rw [pn] at xc kc bc v8 vY vQ
          simp only [set5] at pn
          replace HY := Lib.hid vY
          replace HQ := Lib.hid vQ
          replace HB := Lib.hid bc
          have H8 := Lib.hid v8
          have H9 := Lib.hid xc
          replace HT2 := Lib.hid (HT2.out.step (ka.trans kc))
          replace HU := Lib.hid (ly_own (ly_own HU.out ka) kc)
          have HGG := Lib.hid (show g8 ≠ g9 ∧ g8 ≠ g ∧ g8 ≠ g1 ∧ g8 ≠ g2 ∧ g9 ≠ g ∧ g9 ≠ g1 ∧ g9 ≠ g2 by omega)
          clear b4 b4' z4 q8 q9 xa ka ba y9 xc kc bc v8 hgs hg8L hg8w yY yQ vY vQ
          cases r with
          | false =>
            have HO := Lib.hid (show layO S b l = (st0, p0, [], 9) by
              rcases HTW.out with h_ | h_
              · subst h_; exact absurd HRE.out (by simp)
              · rw [HLO.out]; exact h_)
            have m0 := stZ0 HY.out
            have m1 := stZ1 HY.out
            have m2 := stZ2 HY.out
            have m3 := stZ3 HY.out
            have m4 := stZ4 HY.out
            have mf := fun i => HY.out.frozen i
            obtain ⟨xa, ka, ba⟩ := box_five (L := L) HY.out (by decide) HI.out.1 HB.out HI.out.2.1 (.slice none 0 0) (.slice none 0 0) (.slice none 0 0) (.int .u32 0) (.int .u32 0)
            have ya := far5_bl (g := g1) HQ.out HI.out.2.2.2.2.2.1 (.slice none 0 0) (.slice none 0 0) (.slice none 0 0) (.int .u32 0) (.int .u32 0)
            obtain ⟨wa, hwa⟩ : ∃ wa, set5 w6 g1 (.slice none 0 0) (.slice none 0 0) (.slice none 0 0) (.int .u32 0) (.int .u32 0) = wa := ⟨_, rfl⟩
            rw [hwa] at xa ka ba ya
            simp only [set5] at hwa
            have n0 := ptZ0 ya
            have n1 := ptZ1 ya
            have n2 := ptZ2 ya
            have n3 := ptZ3 ya
            have n4 := ptZ4 ya
            have nf := fun i => ya.frozen i
            obtain ⟨xb, kb, bb⟩ := box_five (L := L) ya (by decide) HI.out.2.2.1 ba HI.out.2.2.2.1 (.int .i64 0) (.int .u32 0) (.int .u32 0) (.int .u32 0) (.int .u32 0)
            have yb := far5_bl (g := g2) xa HI.out.2.2.2.2.1 (.int .i64 0) (.int .u32 0) (.int .u32 0) (.int .u32 0) (.int .u32 0)
            obtain ⟨wb, hwb⟩ : ∃ wb, set5 wa g2 (.int .i64 0) (.int .u32 0) (.int .u32 0) (.int .u32 0) (.int .u32 0) = wb := ⟨_, rfl⟩
            rw [hwb] at xb kb bb yb
            simp only [set5] at hwb
            replace HY := Lib.hid yb
            replace HQ := Lib.hid xb
            replace HB := Lib.hid bb
            have HKK := Lib.hid (ka.trans kb)
            clear xa ka ba ya xb kb bb yb
            go_wp2_with fail
            clear z0 z1 z2 z3 z4_ zf dn p0_ p1_ p2_ p3_ p4_ pf pn hw4 hg8 hg9
            clear m0 m1 m2 m3 m4 mf hwa n0 n1 n2 n3 n4 nf hwb
            have e0 := bx0 HY.out
            have e1 := bx1 HY.out
            have e2 := bx2 HY.out
            have e3 := bx3 HY.out
            have e4 := bx4 HY.out
            have f0 := bx0 HQ.out
            have f1 := bx1 HQ.out
            have f2 := bx2 HQ.out
            have f3 := bx3 HQ.out
            have f4 := bx4 HQ.out
            refine bodyPost_ret (v := .tuple #[.agg #[.slice none 0 0, .slice none 0 0, .slice none 0 0, .int .u32 0, .int .u32 0], .agg #[.int .i64 0, .int .u32 0, .int .u32 0, .int .u32 0, .int .u32 0], .slice none 0 0, .int .i64 9]) (by simp [results, Tryz.f7, go_sem, e0, e1, e2, e3, e4, f0, f1, f2, f3, f4]) rfl ?_
            rw [HO.out]
            exact ⟨at0, _, rfl, st0_lasts L _, World.ownsRow_nil _ _ _ _, HB.out⟩
          | true =>
            obtain rfl : ee = 0 := by simpa using HRE.out
            go_wp2_with fail
            clear z0 z1 z2 z3 z4_ zf dn p0_ p1_ p2_ p3_ p4_ pf pn hw4 hg8 hg9
            obtain ⟨wd, hwd⟩ : ∃ wd, w6.drew = wd := ⟨_, rfl⟩
            have bq : Below w6.heap.size w6 wd := by rw [← hwd]; exact (Below.refl _ _).drew
            replace HY := Lib.hid (HY.out.below bq HY.out.lt)
            replace HQ := Lib.hid (HQ.out.below bq HQ.out.lt)
            replace HB := Lib.hid (HB.out.trans (bq.mono HB.out.size))
            replace HU := Lib.hid (own_below HU.out bq)
            replace H8 := Lib.hid (H8.out.below bq H8.out.lt)
            replace H9 := Lib.hid (H9.out.below bq H9.out.lt)
            replace HT2 := Lib.hid (HT2.out.bel bq)
            clear bq
            have hS := And.intro H8.out H9.out
            refine wpI_start (fun X => Blk X g8 29 (stC y2 T2) ∧ Blk X g9 32 #[.int .i64 qa, .int .u32 (qb : Int), .int .u32 (qi : Int), .int .u32 (qt : Int), .int .u32 (qs : Int)]) [0, 1, 2, 3, 4, 5, 6] hmx rfl hwd ?_
            clear hwd
            iterate 3 (
              refine wpI_read (v := ?_) hS rfl (by kernel_rfl) (by kernel_rfl) (by kernel_rfl) (fun _ _ _ h => h) (.inl ⟨by rfl, ?_⟩) ?_
              rotate_left
              · intro X hX
                obtain ⟨j1, j2⟩ := hX
                have d0 := bx0 j1
                have d1 := bx1 j1
                have d2 := bx2 j1
                have d3 := bx3 j1
                have d4 := bx4 j1
                have e0 := bx0 j2
                have e1 := bx1 j2
                have e2 := bx2 j2
                have e3 := bx3 j2
                have e4 := bx4 j2
                clear j1 j2
                go_simp
                with_reducible rfl
              try simp only [Act.put, List.setIfInBounds_toArray, List.set_cons_zero, List.set_cons_succ])
            clear hS
            have HA8 := Lib.hid H8.out
            have HE8 := Lib.hid H9.out
            have HT8 := Lib.hid HT2.out
            have HU8 := Lib.hid HU.out
            refine wpI_lone rfl (by kernel_rfl) (fun K hK => ?_)
            have m0 := stZ0 HY.out
            have m1 := stZ1 HY.out
            have m2 := stZ2 HY.out
            have m3 := stZ3 HY.out
            have m4 := stZ4 HY.out
            have hfz := fun i => HY.out.frozen i
            obtain ⟨xa, ka, ba⟩ := box_five (L := L) HY.out (by decide) HI.out.1 HB.out HI.out.2.1 (.slice y2.d.ba T2.1.1.length y2.d.bc) (.slice y2.d.wa T2.1.2.length y2.d.wc) (.slice y2.a T2.2.1.length y2.c) (.int .u32 (T2.2.2.1 : Int)) (.int .u32 (T2.2.2.2 : Int))
            have yHQ := far5_bl (g := g1) HQ.out HI.out.2.2.2.2.2.1 (.slice y2.d.ba T2.1.1.length y2.d.bc) (.slice y2.d.wa T2.1.2.length y2.d.wc) (.slice y2.a T2.2.1.length y2.c) (.int .u32 (T2.2.2.1 : Int)) (.int .u32 (T2.2.2.2 : Int))
            have yHA8 := far5_bl (g := g1) HA8.out HGG.out.2.2.1 (.slice y2.d.ba T2.1.1.length y2.d.bc) (.slice y2.d.wa T2.1.2.length y2.d.wc) (.slice y2.a T2.2.1.length y2.c) (.int .u32 (T2.2.2.1 : Int)) (.int .u32 (T2.2.2.2 : Int))
            have yHE8 := far5_bl (g := g1) HE8.out HGG.out.2.2.2.2.2.1 (.slice y2.d.ba T2.1.1.length y2.d.bc) (.slice y2.d.wa T2.1.2.length y2.d.wc) (.slice y2.a T2.2.1.length y2.c) (.int .u32 (T2.2.2.1 : Int)) (.int .u32 (T2.2.2.2 : Int))
            obtain ⟨w9, hn⟩ : ∃ X, set5 wd g1 (.slice y2.d.ba T2.1.1.length y2.d.bc) (.slice y2.d.wa T2.1.2.length y2.d.wc) (.slice y2.a T2.2.1.length y2.c) (.int .u32 (T2.2.2.1 : Int)) (.int .u32 (T2.2.2.2 : Int)) = X := ⟨_, rfl⟩
            rw [hn] at xa ka ba yHQ yHA8 yHE8
            simp only [set5] at hn
            go_simp
            replace HB := Lib.hid ba
            replace HY := Lib.hid xa
            replace HQ := Lib.hid yHQ
            replace HA8 := Lib.hid yHA8
            replace HE8 := Lib.hid yHE8
            replace HT8 := Lib.hid (HT8.out.step ka)
            replace HU8 := Lib.hid (ly_own HU8.out ka)
            refine hK _ _ ⟨HA8.out, HE8.out⟩ ?_
            clear hK K hn xa ka ba hfz m0 m1 m2 m3 m4 yHQ yHA8 yHE8
            try simp only [Act.put, List.setIfInBounds_toArray, List.set_cons_zero, List.set_cons_succ]
            refine wpI_lone rfl (by kernel_rfl) (fun K hK => ?_)
            have m0 := ptZ0 HQ.out
            have m1 := ptZ1 HQ.out
            have m2 := ptZ2 HQ.out
            have m3 := ptZ3 HQ.out
            have m4 := ptZ4 HQ.out
            have hfz := fun i => HQ.out.frozen i
            obtain ⟨xa, ka, ba⟩ := box_five (L := L) HQ.out (by decide) HI.out.2.2.1 HB.out HI.out.2.2.2.1 (.int .i64 qa) (.int .u32 (qb : Int)) (.int .u32 (qi : Int)) (.int .u32 (qt : Int)) (.int .u32 (qs : Int))
            have yHY := far5_bl (g := g2) HY.out HI.out.2.2.2.2.1 (.int .i64 qa) (.int .u32 (qb : Int)) (.int .u32 (qi : Int)) (.int .u32 (qt : Int)) (.int .u32 (qs : Int))
            have yHA8 := far5_bl (g := g2) HA8.out HGG.out.2.2.2.1 (.int .i64 qa) (.int .u32 (qb : Int)) (.int .u32 (qi : Int)) (.int .u32 (qt : Int)) (.int .u32 (qs : Int))
            have yHE8 := far5_bl (g := g2) HE8.out HGG.out.2.2.2.2.2.2 (.int .i64 qa) (.int .u32 (qb : Int)) (.int .u32 (qi : Int)) (.int .u32 (qt : Int)) (.int .u32 (qs : Int))
            obtain ⟨wz, hn⟩ : ∃ X, set5 w9 g2 (.int .i64 qa) (.int .u32 (qb : Int)) (.int .u32 (qi : Int)) (.int .u32 (qt : Int)) (.int .u32 (qs : Int)) = X := ⟨_, rfl⟩
            rw [hn] at xa ka ba yHY yHA8 yHE8
            simp only [set5] at hn
            go_simp
            replace HB := Lib.hid ba
            replace HQ := Lib.hid xa
            replace HY := Lib.hid yHY
            replace HA8 := Lib.hid yHA8
            replace HE8 := Lib.hid yHE8
            replace HT8 := Lib.hid (HT8.out.step ka)
            replace HU8 := Lib.hid (ly_own HU8.out ka)
            refine hK _ _ ⟨HA8.out, HE8.out⟩ ?_
            clear hK K hn xa ka ba hfz m0 m1 m2 m3 m4 yHY yHA8 yHE8
            try simp only [Act.put, List.setIfInBounds_toArray, List.set_cons_zero, List.set_cons_succ]
            have hS := And.intro HA8.out HE8.out
            iterate 2 (
              refine wpI_read (v := ?_) hS rfl (by kernel_rfl) (by kernel_rfl) (by kernel_rfl) (fun _ _ _ h => h) (.inl ⟨by rfl, ?_⟩) ?_
              rotate_left
              · intro X hX
                clear hX
                go_simp
                with_reducible rfl
              try simp only [Act.put, List.setIfInBounds_toArray, List.set_cons_zero, List.set_cons_succ])
            refine wpI_done (by kernel_rfl) ?_
            clear hS
            go_wp2_with fail
            have e0 := bx0 HY.out
            have e1 := bx1 HY.out
            have e2 := bx2 HY.out
            have e3 := bx3 HY.out
            have e4 := bx4 HY.out
            have f0 := bx0 HQ.out
            have f1 := bx1 HQ.out
            have f2 := bx2 HQ.out
            have f3 := bx3 HQ.out
            have f4 := bx4 HQ.out
            refine bodyPost_ret (v := .tuple #[.agg #[.slice y2.d.ba T2.1.1.length y2.d.bc, .slice y2.d.wa T2.1.2.length y2.d.wc, .slice y2.a T2.2.1.length y2.c, .int .u32 (T2.2.2.1 : Int), .int .u32 (T2.2.2.2 : Int)], .agg #[.int .i64 qa, .int .u32 (qb : Int), .int .u32 (qi : Int), .int .u32 (qt : Int), .int .u32 (qs : Int)], u, .int .i64 0]) (by simp [results, Tryz.f7, go_sem, e0, e1, e2, e3, e4, f0, f1, f2, f3, f4]) rfl ?_
            rw [HLO.out]
            exact ⟨y2, u, rfl, HT8.out, HU8.out, HB.out⟩
    · have HO := Lib.hid (show layO S b l = (st0, p0, [], 8) by unfold layO; rw [if_neg fun h => hmd h.2])
      have HMY := Lib.hid (rtMay_any L x S w0 HT.out true ⟨fun _ => hm, fun _ => rfl⟩)
      have HPM := Lib.hid (fun W (hW : Pts W W.heap.size a n c l) => ruMay_any a n c l W hW false ⟨fun h => (by cases h), fun h => absurd h hmd⟩)
      clear hm hmd
      have d0 := bx0 HX.out
      have d1 := bx1 HX.out
      have d2 := bx2 HX.out
      have d3 := bx3 HX.out
      have d4 := bx4 HX.out
      go_enter Tryz.func7, Tryz.ntmps7
      go_wp2_with fail
      try rw [hw0]
      try rw [hg]
      try rw [hg1]
      try rw [hg2]
      clear hw0 hg hg1 hg2
      clear d0 d1 d2 d3 d4
      refine HMY.out.mono ?_
      rintro e w1 ⟨rfl, b1⟩
      replace HX := Lib.hid (HX.out.below b1 HX.out.lt)
      replace HY := Lib.hid (HY.out.below b1 HY.out.lt)
      replace HQ := Lib.hid (HQ.out.below b1 HQ.out.lt)
      replace HT := Lib.hid (HT.out.bel b1)
      replace HB := Lib.hid (HB.out.trans (b1.mono HB.out.size))
      replace HP := Lib.hid (HP.out.step b1)
      replace HLW := Lib.hid (Nat.le_trans HLW.out b1.size)
      clear b1 HMY
      go_wp2_with fail
      refine (HPM.out w1 HP.out).mono ?_
      rintro e w2 ⟨rfl, b2⟩
      replace HX := Lib.hid (HX.out.below b2 HX.out.lt)
      replace HY := Lib.hid (HY.out.below b2 HY.out.lt)
      replace HQ := Lib.hid (HQ.out.below b2 HQ.out.lt)
      replace HT := Lib.hid (HT.out.bel b2)
      replace HB := Lib.hid (HB.out.trans (b2.mono HB.out.size))
      replace HP := Lib.hid (HP.out.step b2)
      replace HLW := Lib.hid (Nat.le_trans HLW.out b2.size)
      clear b2 HPM
      have m0 := stZ0 HY.out
      have m1 := stZ1 HY.out
      have m2 := stZ2 HY.out
      have m3 := stZ3 HY.out
      have m4 := stZ4 HY.out
      have mf := fun i => HY.out.frozen i
      obtain ⟨xa, ka, ba⟩ := box_five (L := L) HY.out (by decide) HI.out.1 HB.out HI.out.2.1 (.slice none 0 0) (.slice none 0 0) (.slice none 0 0) (.int .u32 0) (.int .u32 0)
      have ya := far5_bl (g := g1) HQ.out HI.out.2.2.2.2.2.1 (.slice none 0 0) (.slice none 0 0) (.slice none 0 0) (.int .u32 0) (.int .u32 0)
      obtain ⟨wa, hwa⟩ : ∃ wa, set5 w2 g1 (.slice none 0 0) (.slice none 0 0) (.slice none 0 0) (.int .u32 0) (.int .u32 0) = wa := ⟨_, rfl⟩
      rw [hwa] at xa ka ba ya
      simp only [set5] at hwa
      have n0 := ptZ0 ya
      have n1 := ptZ1 ya
      have n2 := ptZ2 ya
      have n3 := ptZ3 ya
      have n4 := ptZ4 ya
      have nf := fun i => ya.frozen i
      obtain ⟨xb, kb, bb⟩ := box_five (L := L) ya (by decide) HI.out.2.2.1 ba HI.out.2.2.2.1 (.int .i64 0) (.int .u32 0) (.int .u32 0) (.int .u32 0) (.int .u32 0)
      have yb := far5_bl (g := g2) xa HI.out.2.2.2.2.1 (.int .i64 0) (.int .u32 0) (.int .u32 0) (.int .u32 0) (.int .u32 0)
      obtain ⟨wb, hwb⟩ : ∃ wb, set5 wa g2 (.int .i64 0) (.int .u32 0) (.int .u32 0) (.int .u32 0) (.int .u32 0) = wb := ⟨_, rfl⟩
      rw [hwb] at xb kb bb yb
      simp only [set5] at hwb
      replace HY := Lib.hid yb
      replace HQ := Lib.hid xb
      replace HB := Lib.hid bb
      have HKK := Lib.hid (ka.trans kb)
      clear xa ka ba ya xb kb bb yb
      go_wp2_with fail
      clear m0 m1 m2 m3 m4 mf hwa n0 n1 n2 n3 n4 nf hwb
      have e0 := bx0 HY.out
      have e1 := bx1 HY.out
      have e2 := bx2 HY.out
      have e3 := bx3 HY.out
      have e4 := bx4 HY.out
      have f0 := bx0 HQ.out
      have f1 := bx1 HQ.out
      have f2 := bx2 HQ.out
      have f3 := bx3 HQ.out
      have f4 := bx4 HQ.out
      refine bodyPost_ret (v := .tuple #[.agg #[.slice none 0 0, .slice none 0 0, .slice none 0 0, .int .u32 0, .int .u32 0], .agg #[.int .i64 0, .int .u32 0, .int .u32 0, .int .u32 0, .int .u32 0], .slice none 0 0, .int .i64 8]) (by simp [results, Tryz.f7, go_sem, e0, e1, e2, e3, e4, f0, f1, f2, f3, f4]) rfl ?_
      rw [HO.out]
      exact ⟨at0, _, rfl, st0_lasts L _, World.ownsRow_nil _ _ _ _, HB.out⟩
  · have HO := Lib.hid (show layO S b l = (st0, p0, [], 8) by unfold layO; rw [if_neg fun h => hm h.1])
    have HMY := Lib.hid (rtMay_any L x S w0 HT.out false ⟨fun h => (by cases h), fun h => absurd h hm⟩)
    clear hm
    have d0 := bx0 HX.out
    have d1 := bx1 HX.out
    have d2 := bx2 HX.out
    have d3 := bx3 HX.out
    have d4 := bx4 HX.out
    go_enter Tryz.func7, Tryz.ntmps7
    go_wp2_with fail
    try rw [hw0]
    try rw [hg]
    try rw [hg1]
    try rw [hg2]
    clear hw0 hg hg1 hg2
    clear d0 d1 d2 d3 d4
    refine HMY.out.mono ?_
    rintro e w1 ⟨rfl, b1⟩
    replace HX := Lib.hid (HX.out.below b1 HX.out.lt)
    replace HY := Lib.hid (HY.out.below b1 HY.out.lt)
    replace HQ := Lib.hid (HQ.out.below b1 HQ.out.lt)
    replace HT := Lib.hid (HT.out.bel b1)
    replace HB := Lib.hid (HB.out.trans (b1.mono HB.out.size))
    replace HP := Lib.hid (HP.out.step b1)
    replace HLW := Lib.hid (Nat.le_trans HLW.out b1.size)
    clear b1 HMY
    have m0 := stZ0 HY.out
    have m1 := stZ1 HY.out
    have m2 := stZ2 HY.out
    have m3 := stZ3 HY.out
    have m4 := stZ4 HY.out
    have mf := fun i => HY.out.frozen i
    obtain ⟨xa, ka, ba⟩ := box_five (L := L) HY.out (by decide) HI.out.1 HB.out HI.out.2.1 (.slice none 0 0) (.slice none 0 0) (.slice none 0 0) (.int .u32 0) (.int .u32 0)
    have ya := far5_bl (g := g1) HQ.out HI.out.2.2.2.2.2.1 (.slice none 0 0) (.slice none 0 0) (.slice none 0 0) (.int .u32 0) (.int .u32 0)
    obtain ⟨wa, hwa⟩ : ∃ wa, set5 w1 g1 (.slice none 0 0) (.slice none 0 0) (.slice none 0 0) (.int .u32 0) (.int .u32 0) = wa := ⟨_, rfl⟩
    rw [hwa] at xa ka ba ya
    simp only [set5] at hwa
    have n0 := ptZ0 ya
    have n1 := ptZ1 ya
    have n2 := ptZ2 ya
    have n3 := ptZ3 ya
    have n4 := ptZ4 ya
    have nf := fun i => ya.frozen i
    obtain ⟨xb, kb, bb⟩ := box_five (L := L) ya (by decide) HI.out.2.2.1 ba HI.out.2.2.2.1 (.int .i64 0) (.int .u32 0) (.int .u32 0) (.int .u32 0) (.int .u32 0)
    have yb := far5_bl (g := g2) xa HI.out.2.2.2.2.1 (.int .i64 0) (.int .u32 0) (.int .u32 0) (.int .u32 0) (.int .u32 0)
    obtain ⟨wb, hwb⟩ : ∃ wb, set5 wa g2 (.int .i64 0) (.int .u32 0) (.int .u32 0) (.int .u32 0) (.int .u32 0) = wb := ⟨_, rfl⟩
    rw [hwb] at xb kb bb yb
    simp only [set5] at hwb
    replace HY := Lib.hid yb
    replace HQ := Lib.hid xb
    replace HB := Lib.hid bb
    have HKK := Lib.hid (ka.trans kb)
    clear xa ka ba ya xb kb bb yb
    go_wp2_with fail
    clear m0 m1 m2 m3 m4 mf hwa n0 n1 n2 n3 n4 nf hwb
    have e0 := bx0 HY.out
    have e1 := bx1 HY.out
    have e2 := bx2 HY.out
    have e3 := bx3 HY.out
    have e4 := bx4 HY.out
    have f0 := bx0 HQ.out
    have f1 := bx1 HQ.out
    have f2 := bx2 HQ.out
    have f3 := bx3 HQ.out
    have f4 := bx4 HQ.out
    refine bodyPost_ret (v := .tuple #[.agg #[.slice none 0 0, .slice none 0 0, .slice none 0 0, .int .u32 0, .int .u32 0], .agg #[.int .i64 0, .int .u32 0, .int .u32 0, .int .u32 0, .int .u32 0], .slice none 0 0, .int .i64 8]) (by simp [results, Tryz.f7, go_sem, e0, e1, e2, e3, e4, f0, f1, f2, f3, f4]) rfl ?_
    rw [HO.out]
    exact ⟨at0, _, rfl, st0_lasts L _, World.ownsRow_nil _ _ _ _, HB.out⟩
end Go.Proofs.YtjdjbonljohnbaaGreatDoor
/-
  The document's own seen and trim of layer 16.
-/
namespace Go.Proofs.YtjdjbonljohnbaaGreatDoor
open Go.RowKit Go.Shelf
set_option maxRecDepth 100000

set_option maxHeartbeats 4000000 in
theorem ruSeen_any (L : Nat) (x : SAt) (S : StL) (p : Pt) (w : World) (h : StP L w x S) (hm : MayS S) (hmp : MayP p) (hL : L ≤ w.heap.size) : Calls Tryz.prog 53 #[stV x S, ptV p] w (OutLs (seenR S p) w) := by
  have hmp2 := hmp
  obtain ⟨pa, pb, pi, pt, ps⟩ := p
  obtain ⟨w0, hw0, b0, z0, q1, q2⟩ := two_al w (stC x S) (ptA (pa, pb, pi, pt, ps)) 29 32
  obtain ⟨g, hg⟩ : ∃ g, w.heap.size = g := ⟨_, rfl⟩
  obtain ⟨g1, hg1⟩ : ∃ g1, g + 1 = g1 := ⟨_, rfl⟩
  rw [hg] at q1 q2
  rw [hg1] at q2
  have HX := Lib.hid q1
  have HQ := Lib.hid q2
  have HT := Lib.hid (h.bel b0)
  have HB := Lib.hid b0
  have HLW := Lib.hid (show L ≤ w0.heap.size from Nat.le_trans hL b0.size)
  simp only [stC, ptA] at hw0
  clear h b0 z0 q1 q2 hL
  obtain ⟨⟨sb, se⟩, hse⟩ : ∃ o, seenO S (pa, pb, pi, pt, ps) = o := ⟨_, rfl⟩
  have hsn := fun W hW hLW => rtSeen_any L x S (pa, pb, pi, pt, ps) W hW hm hmp hLW
  rw [hse] at hsn
  have HSE := Lib.hid hsn
  clear hsn
  by_cases he : se ≠ 0
  · have HO := Lib.hid (show seenR S (pa, pb, pi, pt, ps) = ([], se) by unfold seenR; rw [hse, if_pos he])
    have e1 : ((se : Int) != 0) = true := by simp; omega
    clear hse he
    have d0 := bx0 HX.out
    have d1 := bx1 HX.out
    have d2 := bx2 HX.out
    have d3 := bx3 HX.out
    have d4 := bx4 HX.out
    have q0 := bx0 HQ.out
    have q1 := bx1 HQ.out
    have q2 := bx2 HQ.out
    have q3 := bx3 HQ.out
    have q4 := bx4 HQ.out
    go_enter Tryz.func53, Tryz.ntmps53
    go_wp2_with fail
    try rw [hw0]
    try rw [hg]
    try rw [hg1]
    clear hw0 hg hg1
    clear d0 d1 d2 d3 d4
    clear q0 q1 q2 q3 q4
    refine (HSE.out w0 HT.out HLW.out).mono ?_
    rintro e w2 ⟨v, rfl, hv, b2⟩
    replace HX := Lib.hid (HX.out.below b2 HX.out.lt)
    replace HQ := Lib.hid (HQ.out.below b2 HQ.out.lt)
    replace HT := Lib.hid (HT.out.bel b2)
    replace HB := Lib.hid (HB.out.trans (b2.mono HB.out.size))
    replace HLW := Lib.hid (Nat.le_trans HLW.out b2.size)
    obtain ⟨av, cv, rfl⟩ := own_slice hv
    clear b2 hv
    go_wp2_with fail
    go_ret2
    rw [HO.out]
    exact outLs_no se HB.out
  · obtain rfl : se = 0 := by omega
    have hlen := seenO_len hm hmp hse
    have e1 : (((0 : Nat) : Int) != 0) = false := rfl
    have HSO := Lib.hid hse
    have HLN := Lib.hid hlen
    clear hse hlen he
    rcases rowsO_cases sb with ⟨f, hf, hfn⟩ | ⟨_, _, hf⟩
    · have HO := Lib.hid (show seenR S (pa, pb, pi, pt, ps) = ([], 8) by unfold seenR; rw [HSO.out, if_neg (fun h => h rfl), hf, if_pos hfn])
      have e2 : (f != 0) = true := by simpa using hfn
      have d0 := bx0 HX.out
      have d1 := bx1 HX.out
      have d2 := bx2 HX.out
      have d3 := bx3 HX.out
      have d4 := bx4 HX.out
      have q0 := bx0 HQ.out
      have q1 := bx1 HQ.out
      have q2 := bx2 HQ.out
      have q3 := bx3 HQ.out
      have q4 := bx4 HQ.out
      go_enter Tryz.func53, Tryz.ntmps53
      go_wp2_with fail
      try rw [hw0]
      try rw [hg]
      try rw [hg1]
      clear hw0 hg hg1
      clear d0 d1 d2 d3 d4
      clear q0 q1 q2 q3 q4
      refine (HSE.out w0 HT.out HLW.out).mono ?_
      rintro e w2 ⟨v, rfl, hv, b2⟩
      replace HX := Lib.hid (HX.out.below b2 HX.out.lt)
      replace HQ := Lib.hid (HQ.out.below b2 HQ.out.lt)
      replace HT := Lib.hid (HT.out.bel b2)
      replace HB := Lib.hid (HB.out.trans (b2.mono HB.out.size))
      replace HLW := Lib.hid (Nat.le_trans HLW.out b2.size)
      simp only [HLN.out] at hv
      obtain ⟨av, cv, rfl⟩ := own_slice hv
      have hrw := rpRows_any av 256 cv sb w2 (own_bsl hv)
      rw [hf] at hrw
      have HRW := Lib.hid hrw
      clear b2 hv hrw
      go_wp2_with fail
      refine HRW.out.mono ?_
      rintro e w3 ⟨v3, rfl, hp3, b3⟩
      have HB2 := Lib.hid (show w.heap.size ≤ w2.heap.size from HB.out.size)
      replace HX := Lib.hid (HX.out.below b3 HX.out.lt)
      replace HQ := Lib.hid (HQ.out.below b3 HQ.out.lt)
      replace HT := Lib.hid (HT.out.bel b3)
      replace HB := Lib.hid (HB.out.trans (b3.mono HB.out.size))
      replace HLW := Lib.hid (Nat.le_trans HLW.out b3.size)
      obtain ⟨a3, c3, rfl, ht3⟩ := hp3.pts
      have hh3 := prow_hi hp3
      clear b3 hp3
      go_wp2_with fail
      go_ret2
      rw [HO.out]
      exact outLs_no 8 HB.out
    · have HO := Lib.hid (show seenR S (pa, pb, pi, pt, ps) = (rowsL sb, 0) by unfold seenR; rw [HSO.out, if_neg (fun h => h rfl), hf, if_neg (fun h => h rfl)])
      have d0 := bx0 HX.out
      have d1 := bx1 HX.out
      have d2 := bx2 HX.out
      have d3 := bx3 HX.out
      have d4 := bx4 HX.out
      have q0 := bx0 HQ.out
      have q1 := bx1 HQ.out
      have q2 := bx2 HQ.out
      have q3 := bx3 HQ.out
      have q4 := bx4 HQ.out
      go_enter Tryz.func53, Tryz.ntmps53
      go_wp2_with fail
      try rw [hw0]
      try rw [hg]
      try rw [hg1]
      clear hw0 hg hg1
      clear d0 d1 d2 d3 d4
      clear q0 q1 q2 q3 q4
      refine (HSE.out w0 HT.out HLW.out).mono ?_
      rintro e w2 ⟨v, rfl, hv, b2⟩
      replace HX := Lib.hid (HX.out.below b2 HX.out.lt)
      replace HQ := Lib.hid (HQ.out.below b2 HQ.out.lt)
      replace HT := Lib.hid (HT.out.bel b2)
      replace HB := Lib.hid (HB.out.trans (b2.mono HB.out.size))
      replace HLW := Lib.hid (Nat.le_trans HLW.out b2.size)
      simp only [HLN.out] at hv
      obtain ⟨av, cv, rfl⟩ := own_slice hv
      have hrw := rpRows_any av 256 cv sb w2 (own_bsl hv)
      rw [hf] at hrw
      have HRW := Lib.hid hrw
      clear b2 hv hrw
      go_wp2_with fail
      refine HRW.out.mono ?_
      rintro e w3 ⟨v3, rfl, hp3, b3⟩
      have HB2 := Lib.hid (show w.heap.size ≤ w2.heap.size from HB.out.size)
      replace HX := Lib.hid (HX.out.below b3 HX.out.lt)
      replace HQ := Lib.hid (HQ.out.below b3 HQ.out.lt)
      replace HT := Lib.hid (HT.out.bel b3)
      replace HB := Lib.hid (HB.out.trans (b3.mono HB.out.size))
      replace HLW := Lib.hid (Nat.le_trans HLW.out b3.size)
      obtain ⟨a3, c3, rfl, ht3⟩ := hp3.pts
      have hh3 := prow_hi hp3
      clear b3 hp3
      go_wp2_with fail
      go_ret2
      rw [HO.out]
      exact ⟨_, _, rfl, ht3, hh3.less HB2.out, HB.out⟩
/-- What trim answers. -/
def OutTr (a : Option Addr) (c : Nat) (l : List Pt) (w : World) (e : Ending) (w' : World) : Prop := Below w.heap.size w w' ∧ ((trimD l = none ∧ e = .returned (.tuple #[.slice none 0 0, .bool false])) ∨ (trimD l = some (l.take (trimN l)) ∧ e = .returned (.tuple #[.slice a (trimN l) c, .bool true])))
theorem trimD_yes {l : List Pt} {k : Nat} (hk : k = trimN l) (h : ∀ j, j < k → l.getD j p0 ≠ p0) : trimD l = some (l.take (trimN l)) := by
  subst hk
  unfold trimD
  rw [if_neg]
  intro hp
  obtain ⟨j, hj, e⟩ := List.mem_iff_getElem.1 hp
  rw [List.length_take] at hj
  refine h j (by omega) ?_
  rw [List.getElem_take] at e
  rw [List.getD_eq_getElem?_getD, List.getElem?_eq_getElem (by omega), e]
  rfl
theorem trimD_no {l : List Pt} {j : Nat} (hj : j < trimN l) (h : l.getD j p0 = p0) : trimD l = none := by
  unfold trimD
  have hl := trimN_le l
  rw [if_pos]
  refine List.mem_iff_getElem.2 ⟨j, by rw [List.length_take]; omega, ?_⟩
  rw [List.getElem_take]
  rw [List.getD_eq_getElem?_getD, List.getElem?_eq_getElem (by omega)] at h
  exact h
set_option maxHeartbeats 4000000 in
theorem ruTrim_any (a : Option Addr) (n c : Nat) (l : List Pt) (w : World) (hp : Pts w w.heap.size a n c l) (hn : n ≤ 100000) : Calls Tryz.prog 54 #[.slice a n c] w (OutTr a c l w) := by
  have n0 : (0 : Int) ≤ n := by omega
  have n9 : (n : Int) ≤ 100000 := by omega
  have HP := Lib.hid hp
  have HLN := Lib.hid hp.1
  have HNC := Lib.hid hp.2.1
  clear hp hn
  go_enter Tryz.func54, Tryz.ntmps54
  go_wp2_with fail
  go_loopw [4] (fun i wr => ∃ k : Nat, k ≤ n ∧ i = .int .i64 k ∧ (∀ j, k ≤ j → j < n → l.getD j p0 = p0) ∧ Below w.heap.size w wr) (fun i _ => (intOf i).toNat)
  case atStart => exact ⟨n, Nat.le_refl _, rfl, fun j h1 h2 => absurd h1 (by omega), Below.refl _ _⟩
  case round =>
    obtain ⟨k, hk, rfl, hz, hb⟩ := hrel
    have k0 : (0 : Int) ≤ k := by omega
    have k9 : (k : Int) ≤ 100000 := by omega
    have HZZ := Lib.hid hz
    have HB := Lib.hid hb
    clear hz hb
    have stop_ : ∀ (hst : k = 0 ∨ l.getD (k - 1) p0 ≠ p0), trimN l = k := fun hst => trimN_of (by rw [HLN.out]; exact hk) (fun j h1 h2 => HZZ.out j h1 (by rw [← HLN.out]; exact h2)) hst
    by_cases hk0 : k = 0
    · have HT := Lib.hid (stop_ (.inl hk0))
      have k1 : ¬ (0 : Int) < (k : Int) := by omega
      have k2 : ¬ (k : Int) > 0 := by omega
      clear stop_
      have hsl := fun W => pslice_to W a n c k (Nat.le_trans hk HNC.out)
      have HK := Lib.hid (show k ≤ n from hk)
      go_wp2_with fail
      go_loopw [5] (fun i wr2 => ∃ j : Nat, j ≤ k ∧ i = .int .i64 j ∧ (∀ t, t < j → l.getD t p0 ≠ p0) ∧ Below w.heap.size w wr2) (fun i _ => k - (intOf i).toNat)
      case atStart => exact ⟨0, Nat.zero_le _, rfl, fun t ht => absurd ht (Nat.not_lt_zero _), HB.out⟩
      case round =>
        obtain ⟨j, hj, rfl, hs, hb2⟩ := hrel
        have j0 : (0 : Int) ≤ j := by omega
        have HSS := Lib.hid hs
        have HB2 := Lib.hid hb2
        clear hs hb2
        by_cases hlt : j < k
        · exact absurd hlt (by omega)
        · obtain rfl : j = k := by omega
          have HD := Lib.hid (trimD_yes (l := l) HT.out.symm HSS.out)
          clear hlt
          go_wp2_with fail
          go_ret2
          refine ⟨HB2.out, .inr ⟨HD.out, ?_⟩⟩
          rw [HT.out]
          rw [hk0]
          rfl
    · have k1 : (0 : Int) < (k : Int) := by omega
      have k2 : (k : Int) > 0 := by omega
      obtain ⟨r, hr⟩ : ∃ r, k - 1 = r := ⟨_, rfl⟩
      have r1 : (k : Int) - 1 = (r : Int) := by omega
      have r0 : (0 : Int) ≤ (r : Int) := by omega
      have r9 : (r : Int) < (n : Int) := by omega
      obtain ⟨b, o, ea, hblt, _, c0, c1, c2, c3, c4⟩ := (HP.out.below HB.out).cells r (by omega)
      subst ea
      obtain ⟨P, hP⟩ : ∃ P, l.getD r p0 = P := ⟨_, rfl⟩
      rw [hP] at c0 c1 c2 c3 c4
      have HR := Lib.hid (show r + 1 = k by omega)
      rw [hr] at stop_
      rw [hP] at stop_
      by_cases hq : P = p0
      · have hz2 : ∀ j, r ≤ j → j < n → l.getD j p0 = p0 := fun j h1 h2 => by
          by_cases e : j = r
          · rw [e, hP, hq]
          · exact HZZ.out j (by omega) h2
        have HZ2 := Lib.hid hz2
        have heq : eqP P p0 = true := (eqP_iff _ _).2 hq
        have hn := rpNone_any P wr
        rw [heq] at hn
        have HN := Lib.hid hn
        clear hz2 heq hq hP stop_ hr hblt hn
        go_wp2_with fail
        refine HN.out.mono ?_
        rintro ev w1 ⟨rfl, b1⟩
        have HB1 := Lib.hid (HB.out.trans (b1.mono HB.out.size))
        clear b1
        go_wp2_with fail
        go_roundw
        case rel => exact ⟨r, by have := HR.out; omega, rfl, HZ2.out, HB1.out⟩
        case measure => simp [intOf]; have := HR.out; omega
      · have HT := Lib.hid (stop_ (.inr hq))
        have heq : eqP P p0 = false := decide_eq_false hq
        have hn := rpNone_any P wr
        rw [heq] at hn
        have HN := Lib.hid hn
        clear heq hq hP stop_ hr hblt hn
        go_wp2_with fail
        refine HN.out.mono ?_
        rintro ev w1 ⟨rfl, b1⟩
        have HB1 := Lib.hid (HB.out.trans (b1.mono HB.out.size))
        clear b1 c0 c1 c2 c3 c4
        have hsl := fun W => pslice_to W (some ⟨b, o, none⟩) n c k (Nat.le_trans hk HNC.out)
        have HK := Lib.hid (show k ≤ n from hk)
        go_wp2_with fail
        go_loopw [5] (fun i wr2 => ∃ j : Nat, j ≤ k ∧ i = .int .i64 j ∧ (∀ t, t < j → l.getD t p0 ≠ p0) ∧ Below w.heap.size w wr2) (fun i _ => k - (intOf i).toNat)
        case atStart => exact ⟨0, Nat.zero_le _, rfl, fun t ht => absurd ht (Nat.not_lt_zero _), HB1.out⟩
        case round =>
          obtain ⟨j, hj, rfl, hs, hb2⟩ := hrel
          have j0 : (0 : Int) ≤ j := by omega
          have HSS := Lib.hid hs
          have HB2 := Lib.hid hb2
          clear hs hb2
          by_cases hlt : j < k
          · have j1 : (j : Int) < (k : Int) := by omega
            have j2 : (j : Int) < (n : Int) := by have := HK.out; omega
            obtain ⟨b2, o2, ea, _, _, c0, c1, c2, c3, c4⟩ := (HP.out.below HB2.out).cells j (by have := HK.out; omega)
            cases ea
            obtain ⟨P2, hP2⟩ : ∃ P, l.getD j p0 = P := ⟨_, rfl⟩
            rw [hP2] at c0 c1 c2 c3 c4
            by_cases hq : P2 = p0
            · have HD := Lib.hid (trimD_no (l := l) (j := j) (by rw [HT.out]; exact hlt) (hP2.trans hq))
              have heq : eqP P2 p0 = true := (eqP_iff _ _).2 hq
              have hn := rpNone_any P2 wr
              rw [heq] at hn
              have HN := Lib.hid hn
              clear heq hq hP2 hn
              go_wp2_with fail
              refine HN.out.mono ?_
              rintro ev w3 ⟨rfl, b3⟩
              have HB3 := Lib.hid (HB2.out.trans (b3.mono HB2.out.size))
              clear b3
              go_wp2_with fail
              go_ret2
              exact ⟨HB3.out, .inl ⟨HD.out, rfl⟩⟩
            · have hs2 : ∀ t, t < j + 1 → l.getD t p0 ≠ p0 := fun t ht => by
                by_cases e : t = j
                · rw [e, hP2]; exact hq
                · exact HSS.out t (by omega)
              have HS2 := Lib.hid hs2
              have heq : eqP P2 p0 = false := decide_eq_false hq
              have hn := rpNone_any P2 wr
              rw [heq] at hn
              have HN := Lib.hid hn
              clear heq hq hP2 hs2 hn
              go_wp2_with fail
              refine HN.out.mono ?_
              rintro ev w3 ⟨rfl, b3⟩
              have HB3 := Lib.hid (HB2.out.trans (b3.mono HB2.out.size))
              clear b3
              go_wp2_with fail
              go_roundw
              case rel => exact ⟨j + 1, by omega, by go_num, HS2.out, HB3.out⟩
              case measure => simp [intOf]; omega
          · obtain rfl : j = k := by omega
            have HD := Lib.hid (trimD_yes (l := l) HT.out.symm HSS.out)
            clear hlt
            go_wp2_with fail
            go_ret2
            refine ⟨HB2.out, .inr ⟨HD.out, ?_⟩⟩
            rw [HT.out]
            first
              | rfl
              | (rw [hk0]; rfl)
end Go.Proofs.YtjdjbonljohnbaaGreatDoor
