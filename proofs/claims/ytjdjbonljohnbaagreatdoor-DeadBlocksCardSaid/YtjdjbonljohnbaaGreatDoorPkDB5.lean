/-
  Texts of one seat, one behind the other.
-/
import Derived.Defers
import Derived.Recover
import Derived.Test.YtjdjbonljohnbaaGreatDoorPkDB4
/-
  dead's own Load: what loaded tells, or refuses by a panic that is caught.
-/
namespace Go.Proofs.YtjdjbonljohnbaaGreatDoor
open Go Go.RowKit Go.Shelf
set_option maxRecDepth 100000

set_option linter.unusedSimpArgs false in
/-- The deferred closure of a call that ended by itself. -/
theorem ddCatch_idle (p : Addr) (w : World) : CallsD Tryz.prog 48 #[.pointer (some p)] .returning w fun e u' w' => e = .returned (.tuple #[]) ∧ u' = .returning ∧ w = w' := by
  refine callsD_of_wpS Tryz.func48 rfl fun c₀ cs hu => ?_
  have hn : ∀ W : World, (binOp BinOp.eql 20 .nilIface .nilIface).run Tryz.prog W = .ok (.bool true) W := fun _ => by kernel_rfl
  apply wpS_seq
  apply wpS_region
  simp [wpOpsS, go_sem, recoverD, hu, Tryz.ntmps48, Exit.thenS]
  refine wpS_of_wp ?_
  simp only [List.size_toArray, List.length_cons, List.length_nil, Nat.reduceAdd, Nat.reduceSub, Array.replicate_succ, Array.replicate_zero, List.push_toArray, List.append_toArray, List.nil_append, List.cons_append, List.setIfInBounds_toArray, List.set_cons_zero, List.set_cons_succ]
  go_wp2_with fail
  refine ⟨rfl, .returning, ?_, _, results_none rfl _ _ _, rfl, rfl, rfl⟩
  cases c₀
  simp_all
set_option linter.unusedSimpArgs false in
theorem ddCatch_refused (p : Addr) (c : Int) (w : World) (hc : w.cell? p = some (.int .i64 0)) (hz : w.frozen? p = false) : CallsD Tryz.prog 48 #[.pointer (some p)] (.panicking [{ v := .iface 81 (.int .i64 c), recovered := false }]) w fun e u' w' =>
    e = .returned (.tuple #[]) ∧ u' = .panicking [{ v := .iface 81 (.int .i64 c), recovered := true }] ∧ w.setCell p (.int .i64 c) = w' := by
  refine callsD_of_wpS Tryz.func48 rfl fun c₀ cs hu => ?_
  have ht : ∀ W : World, (Instr.typeAssert (.iface 81 (.int .i64 c)) 20 81 true).run Tryz.prog W = .ok (.tuple #[.int .i64 c, .bool true]) W := fun _ => by kernel_rfl
  apply wpS_seq
  apply wpS_region
  simp [wpOpsS, go_sem, recoverD, hu, Tryz.ntmps48, Exit.thenS]
  refine wpS_of_wp ?_
  simp only [List.size_toArray, List.length_cons, List.length_nil, Nat.reduceAdd, Nat.reduceSub, Array.replicate_succ, Array.replicate_zero, List.push_toArray, List.append_toArray, List.nil_append, List.cons_append, List.setIfInBounds_toArray, List.set_cons_zero, List.set_cons_succ]
  go_wp2_with fail
  refine ⟨rfl, .panicking [{ v := .iface 81 (.int .i64 c), recovered := true }], ?_, _, results_none rfl _ _ _, rfl, rfl, rfl⟩
  cases c₀
  simp_all
/-- What the closure of Load does. -/
def OutDo (o : List Pt × List Nat × Nat) (gl go : Nat) (w : World) (e : Ending) (w' : World) : Prop :=
  (o.2.2 = 0 ∧ e = .returned (.tuple #[]) ∧ ∃ w1 v u, Below w.heap.size w w1 ∧ PRow w1 w.heap.size v o.1 ∧ w1.ownsRow w.heap.size 3 1 u o.2.1.length (valsN o.2.1) ∧ (w1.setCell ⟨gl, 0, none⟩ v).setCell ⟨go, 0, none⟩ u = w') ∨ (o.2.2 ≠ 0 ∧ e = refuse o.2.2 ∧ Below w.heap.size w w')
set_option maxHeartbeats 4000000 in
theorem ddDo_any (L : Nat) (x : SAt) (S : StL) (p : Pt) (gs gp gl go : Nat) (w : World) (h : StP L w x S) (hm : MayS S) (hmp : MayP p) (hwp : WfP p) (hp0 : p ≠ p0) (hz : Szs w) (hL : L ≤ w.heap.size) (hs : Blk w gs 29 (stC x S)) (hpb : Blk w gp 32 (ptA p)) (hl : Blk w gl 30 #[.slice none 0 0]) (ho : Blk w go 35 #[.slice none 0 0]) : Calls Tryz.prog 28 #[.pointer (some ⟨gs, 0, none⟩), .pointer (some ⟨gp, 0, none⟩), .pointer (some ⟨gl, 0, none⟩), .pointer (some ⟨go, 0, none⟩)] w (OutDo (loadedO S p) gl go w) := by
  obtain ⟨pa, pb, pi, pt, ps⟩ := p
  have hld := ddLoaded_any L x S (pa, pb, pi, pt, ps) w h hm hmp hwp hp0 hz hL
  obtain ⟨⟨l, own, c⟩, ho'⟩ : ∃ o, loadedO S (pa, pb, pi, pt, ps) = o := ⟨_, rfl⟩
  rw [ho'] at hld ⊢
  have HLD := Lib.hid hld
  have HS := Lib.hid hs
  have HQ := Lib.hid hpb
  have HL := Lib.hid hl
  have HO := Lib.hid ho
  clear hld h hz hs hpb hl ho ho' hm hmp hwp hp0
  have d0 := bx0 HS.out
  have d1 := bx1 HS.out
  have d2 := bx2 HS.out
  have d3 := bx3 HS.out
  have d4 := bx4 HS.out
  have q0 := bx0 HQ.out
  have q1 := bx1 HQ.out
  have q2 := bx2 HQ.out
  have q3 := bx3 HQ.out
  have q4 := bx4 HQ.out
  go_enter Tryz.func28, Tryz.ntmps28
  go_wp2_with fail
  clear d0 d1 d2 d3 d4 q0 q1 q2 q3 q4
  refine HLD.out.mono ?_
  rintro e w1 ⟨b1, ⟨hc, v, u, rfl, hv, hu⟩ | ⟨hc, rfl⟩⟩
  · simp only at hc hv hu
    subst hc
    have HV := Lib.hid hv
    have HU := Lib.hid hu
    have HB := Lib.hid b1
    have hl1 := HL.out.below b1 HL.out.lt
    have ho1 := HO.out.below b1 HO.out.lt
    have HNE := Lib.hid (show go ≠ gl from fun e => by
      subst e
      have h1 := HL.out
      have h2 := HO.out
      unfold Blk at h1 h2
      rw [h1] at h2
      injection h2 with h2
      injection h2 with _ h2
      exact absurd h2 (by decide))
    obtain ⟨av, cv, rfl, _⟩ := hv.pts
    obtain ⟨au, cu, rfl⟩ := nrow_slice hu
    have l0 := hl1.cell 0
    have lf := hl1.frozen 0
    have hx1 := hl1.set_ 0 (.slice av l.length cv)
    have hy1 := ho1.far (p := ⟨gl, 0, none⟩) HNE.out (.slice av l.length cv)
    obtain ⟨w2, hw2⟩ : ∃ X, w1.setCell ⟨gl, 0, none⟩ (.slice av l.length cv) = X := ⟨_, rfl⟩
    rw [hw2] at hy1
    have o0 := hy1.cell 0
    have of := hy1.frozen 0
    have HW2 := Lib.hid hw2
    clear hv hu b1 hl1 ho1 hx1 hy1
    go_wp2_with fail
    clear l0 lf o0 of hw2
    go_end0
    refine .inl ⟨rfl, rfl, w1, _, _, HB.out, HV.out, HU.out, ?_⟩
    rw [HW2.out]
  · exact ⟨rfl, .inr ⟨hc, rfl, b1⟩⟩
/-- What caught answers of it. -/
def OutCt (o : List Pt × List Nat × Nat) (gl go : Nat) (w : World) (e : Ending) (w' : World) : Prop :=
  (o.2.2 = 0 ∧ e = .returned (.int .i64 0) ∧ ∃ w1 v u, Below w.heap.size w w1 ∧ PRow w1 w.heap.size v o.1 ∧ w1.ownsRow w.heap.size 3 1 u o.2.1.length (valsN o.2.1) ∧ (w1.setCell ⟨gl, 0, none⟩ v).setCell ⟨go, 0, none⟩ u = w') ∨ (o.2.2 ≠ 0 ∧ e = .returned (.int .i64 (o.2.2 : Int)) ∧ Below w.heap.size w w')
set_option linter.unusedSimpArgs false in
set_option maxHeartbeats 4000000 in
theorem ddCaught_any (L : Nat) (x : SAt) (S : StL) (p : Pt) (gs gp gl go : Nat) (w : World) (h : StP L w x S) (hm : MayS S) (hmp : MayP p) (hwp : WfP p) (hp0 : p ≠ p0) (hz : Szs w) (hL : L ≤ w.heap.size) (hs : Blk w gs 29 (stC x S)) (hpb : Blk w gp 32 (ptA p)) (hl : Blk w gl 30 #[.slice none 0 0]) (ho : Blk w go 35 #[.slice none 0 0]) : Calls Tryz.prog 27 #[.func (.func 28) #[] #[.pointer (some ⟨gs, 0, none⟩), .pointer (some ⟨gp, 0, none⟩), .pointer (some ⟨gl, 0, none⟩), .pointer (some ⟨go, 0, none⟩)]] w (OutCt (loadedO S p) gl go w) := by
  have hmf : ∀ (fn : Fn) (first cap : Array Value) (w : World), (Instr.makeFunc fn first cap).run Tryz.prog w = .ok (.func fn first cap) w := fun _ _ _ _ => rfl
  have xe := Blk.new w 36 #[.int .i64 0]
  have be := (Below.refl w.heap.size w).alloc (Nat.le_refl _) (.cells #[.int .i64 0] 36)
  obtain ⟨w0, hw0⟩ : ∃ w0, w.alloc (.cells #[.int .i64 0] 36) = w0 := ⟨_, rfl⟩
  obtain ⟨ge, hge⟩ : ∃ g, w.heap.size = g := ⟨_, rfl⟩
  rw [hw0] at xe be
  rw [hge] at xe
  have hdo := ddDo_any L x S p gs gp gl go w0 (h.bel be) hm hmp hwp hp0 (hz.step be) (Nat.le_trans hL be.size) (hs.below be hs.lt) (hpb.below be hpb.lt) (hl.below be hl.lt) (ho.below be ho.lt)
  have HGL := Lib.hid (show gl < ge by rw [← hge]; exact hl.lt)
  have HGO := Lib.hid (show go < ge by rw [← hge]; exact ho.lt)
  have HDO := Lib.hid hdo
  have HXE := Lib.hid xe
  have HBE := Lib.hid be
  have HGE := Lib.hid hge
  obtain ⟨⟨l, own, c⟩, ho'⟩ : ∃ o, loadedO S p = o := ⟨_, rfl⟩
  rw [ho'] at HDO ⊢
  clear hdo h hz hs hpb hl ho ho' hm hmp hwp hp0 xe be
  go_enter_defers Tryz.func27, Tryz.ntmps27
  go_wp2_with fail
  try rw [hw0]
  try rw [hge]
  clear hw0
  refine HDO.out.mono ?_
  rintro e w1 (⟨hc, rfl, w2, v, u, b2, hv, hu, rfl⟩ | ⟨hc, rfl, b2⟩)
  · have hx2 := ((HXE.out.below b2 HXE.out.lt).far (p := ⟨gl, 0, none⟩) (show ge ≠ gl by have := HGL.out; omega) v).far (p := ⟨go, 0, none⟩) (show ge ≠ go by have := HGO.out; omega) u
    have hbw : Below w.heap.size w w2 := HBE.out.trans (b2.mono HBE.out.size)
    obtain ⟨w3, hw3⟩ : ∃ X, (w2.setCell ⟨gl, 0, none⟩ v).setCell ⟨go, 0, none⟩ u = X := ⟨_, rfl⟩
    rw [hw3] at hx2 ⊢
    have hce := hx2.cell 0
    simp only at hc
    subst hc
    have HW3 := Lib.hid hw3
    have HV := Lib.hid (hv.mono HBE.out.size)
    have HU := Lib.hid (own_mono hu HBE.out.size)
    have HBW := Lib.hid hbw
    clear hw3 b2 hv hu hbw
    go_wp2_with fail
    refine leaves_cons (f := 48) (args := #[.pointer (some ⟨ge, 0, none⟩)]) (by simp) (by simp [go_sem]) ?_
    refine (ddCatch_idle ⟨ge, 0, none⟩ _).mono ?_
    rintro e u' w4 ⟨rfl, rfl, rfl⟩
    refine ⟨.int .i64 0, by simp [results, Tryz.f27, go_sem, hce], .inl ⟨rfl, rfl, w2, v, u, HBW.out, HV.out, HU.out, HW3.out⟩⟩
  · have hx2 := HXE.out.below b2 HXE.out.lt
    have hbw : Below w.heap.size w w1 := HBE.out.trans (b2.mono HBE.out.size)
    have HBW := Lib.hid hbw
    have hx3 := hx2.set_ 0 (.int .i64 (c : Int))
    refine leaves_cons (f := 48) (args := #[.pointer (some ⟨ge, 0, none⟩)]) (by simp) (by simp [go_sem]) ?_
    refine (ddCatch_refused ⟨ge, 0, none⟩ (c : Int) w1 (hx2.cell 0) (hx2.frozen 0)).mono ?_
    rintro e u' w4 ⟨rfl, rfl, rfl⟩
    have hce := hx3.cell 0
    refine ⟨.int .i64 (c : Int), ?_, .inr ⟨hc, rfl, HBW.out.setCell (p := ⟨ge, 0, none⟩) (Nat.le_of_eq HGE.out) _⟩⟩
    have hce' : (w1.setCell ⟨ge, 0, none⟩ (.int .i64 (c : Int))).cell? ⟨ge, 0, none⟩ = some (.int .i64 (c : Int)) := hce
    obtain ⟨w5, hw5⟩ : ∃ X, w1.setCell ⟨ge, 0, none⟩ (.int .i64 (c : Int)) = X := ⟨_, rfl⟩
    rw [hw5] at hce' ⊢
    simp [results, Tryz.f27, go_sem, hce']
theorem four_al (w : World) (a b c d : Array Value) (s t u r : TypeId) : ∃ w0, (((w.alloc (.cells a s)).alloc (.cells b t)).alloc (.cells c u)).alloc (.cells d r) = w0 ∧ Below w.heap.size w w0 ∧ w0.heap.size = w.heap.size + 4 ∧ Blk w0 w.heap.size s a ∧ Blk w0 (w.heap.size + 1) t b ∧ Blk w0 (w.heap.size + 2) u c ∧ Blk w0 (w.heap.size + 3) r d := by
  obtain ⟨w1, h1, b1, z1, x1, y1, q1⟩ := three_al w a b c s t u
  rw [h1]
  have h := Blk.new w1 r d
  rw [z1] at h
  exact ⟨_, rfl, b1.trans (((Below.refl _ w1).alloc (Nat.le_refl _) _).mono b1.size), by simp [z1], x1.alloc _, y1.alloc _, q1.alloc _, h⟩
/-- What Load answers. -/
def OutLo (o : List Pt × List Nat × Nat) (w : World) (e : Ending) (w' : World) : Prop := ∃ v u, e = .returned (.tuple #[v, u, .int .i64 (o.2.2 : Int)]) ∧ PRow w' w.heap.size v o.1 ∧ w'.ownsRow w.heap.size 3 1 u o.2.1.length (valsN o.2.1) ∧ Below w.heap.size w w'
theorem outLo_no (c : Nat) {w w' : World} (hb : Below w.heap.size w w') : OutLo ([], [], c) w (.returned (.tuple #[.slice none 0 0, .slice none 0 0, .int .i64 (c : Int)])) w' := ⟨_, _, rfl, prow_nil _ _, World.ownsRow_nil _ _ _ _, hb⟩
theorem loadedO_none {S : StL} {p : Pt} {l : List Pt} {own : List Nat} {c : Nat} (h : loadO S p = (l, own, c)) (hc : c ≠ 0) : l = [] ∧ own = [] := by
  unfold loadO at h
  split at h
  · unfold loadedO at h
    split at h
    · injection h with h1 h2; injection h2 with h2 h3; exact ⟨h1.symm, h2.symm⟩
    · split at h
      · injection h with h1 h2; injection h2 with h2 h3; exact ⟨h1.symm, h2.symm⟩
      · split at h
        · injection h with h1 h2; injection h2 with h2 h3; exact ⟨h1.symm, h2.symm⟩
        · split at h
          · injection h with h1 h2; injection h2 with h2 h3; exact ⟨h1.symm, h2.symm⟩
          · split at h
            · injection h with h1 h2; injection h2 with h2 h3; exact ⟨h1.symm, h2.symm⟩
            · split at h
              · injection h with h1 h2; injection h2 with h2 h3; exact absurd h3.symm hc
              · injection h with h1 h2; injection h2 with h2 h3; exact ⟨h1.symm, h2.symm⟩
  · injection h with h1 h2; injection h2 with h2 h3; exact ⟨h1.symm, h2.symm⟩
set_option linter.unusedSimpArgs false in
set_option maxHeartbeats 8000000 in
theorem ddLoad_any (L : Nat) (x : SAt) (S : StL) (p : Pt) (w : World) (h : StP L w x S) (hwp : WfP p) (hz : Szs w) (hL : L ≤ w.heap.size) : Calls Tryz.prog 8 #[stV x S, ptV p] w (OutLo (loadO S p) w) := by
  have HZ0 := Lib.hid hz
  clear hz
  obtain ⟨pa, pb, pi, pt, ps⟩ := p
  obtain ⟨w0, hw0, b0, z0, q1, q2, q3, q4⟩ := four_al w (stC x S) (ptA (pa, pb, pi, pt, ps)) #[.slice none 0 0] #[.slice none 0 0] 29 32 30 35
  obtain ⟨g, hg⟩ : ∃ g, w.heap.size = g := ⟨_, rfl⟩
  obtain ⟨g1, hg1⟩ : ∃ g1, g + 1 = g1 := ⟨_, rfl⟩
  obtain ⟨g2, hg2⟩ : ∃ g2, g1 + 1 = g2 := ⟨_, rfl⟩
  obtain ⟨g3, hg3⟩ : ∃ g3, g2 + 1 = g3 := ⟨_, rfl⟩
  rw [hg] at q1 q2 q3 q4
  rw [hg1] at q2
  rw [show g + 2 = g1 + 1 by omega, hg2] at q3
  rw [show g + 3 = g1 + 1 + 1 by omega, hg2, hg3] at q4
  have HX := Lib.hid q1
  have HQ := Lib.hid q2
  have HLB := Lib.hid q3
  have HOB := Lib.hid q4
  have HNE := Lib.hid (show g3 ≠ g2 by omega)
  have HGE := Lib.hid (show w.heap.size ≤ g2 ∧ w.heap.size ≤ g3 by omega)
  have HG0 := Lib.hid (show g2 < w0.heap.size ∧ g3 < w0.heap.size by omega)
  have HT := Lib.hid (h.bel b0)
  have HB := Lib.hid b0
  have HLW := Lib.hid (show L ≤ w0.heap.size from Nat.le_trans hL b0.size)
  have HZ := Lib.hid (HZ0.out.step b0)
  simp only [stC, ptA] at hw0
  clear h b0 z0 q1 q2 q3 q4 hL
  by_cases hm : MayS S
  · by_cases hmp : MayP (pa, pb, pi, pt, ps)
    · by_cases hp0 : ((pa, pb, pi, pt, ps) : Pt) = p0
      · have HMY := Lib.hid (stCheck_all L x S w0 HT.out HLW.out 0 ⟨fun _ => rfl, fun h => absurd hm h⟩)
        have hpc := fun W => Check_any (pa, pb, pi, pt, ps) W
        simp only [pcheckO, if_pos hmp] at hpc
        have HPC := Lib.hid hpc
        clear hpc
        have HO := Lib.hid (show loadO S (pa, pb, pi, pt, ps) = ([], [], 0) by unfold loadO loadedO; rw [if_pos ⟨hm, hmp⟩, if_pos hp0])
        have HTH := Lib.hid (fun W => ddThere_any (pa, pb, pi, pt, ps) W false ⟨fun h => (by cases h), fun h => absurd hp0 h⟩)
        clear hm hmp hwp hp0
        have d0 := bx0 HX.out
        have d1 := bx1 HX.out
        have d2 := bx2 HX.out
        have d3 := bx3 HX.out
        have d4 := bx4 HX.out
        go_enter Tryz.func8, Tryz.ntmps8
        go_wp2_with fail
        try rw [hw0]
        try rw [hg]
        try rw [hg1]
        try rw [hg2]
        try rw [hg3]
        clear hw0 hg hg1 hg2 hg3
        clear d0 d1 d2 d3 d4
        refine (HMY.out).mono ?_
        rintro e w1 ⟨rfl, b1⟩
        replace HX := Lib.hid (HX.out.below b1 HX.out.lt)
        replace HQ := Lib.hid (HQ.out.below b1 HQ.out.lt)
        replace HLB := Lib.hid (HLB.out.below b1 HLB.out.lt)
        replace HOB := Lib.hid (HOB.out.below b1 HOB.out.lt)
        replace HT := Lib.hid (HT.out.bel b1)
        replace HB := Lib.hid (HB.out.trans (b1.mono HB.out.size))
        replace HZ := Lib.hid (HZ.out.step b1)
        replace HLW := Lib.hid (Nat.le_trans HLW.out b1.size)
        clear b1
        have q0 := bx0 HQ.out
        have q1 := bx1 HQ.out
        have q2 := bx2 HQ.out
        have q3 := bx3 HQ.out
        have q4 := bx4 HQ.out
        go_wp2_with fail
        clear q0 q1 q2 q3 q4
        refine (HPC.out w1).mono ?_
        rintro e w2 ⟨rfl, b2⟩
        replace HX := Lib.hid (HX.out.below b2 HX.out.lt)
        replace HQ := Lib.hid (HQ.out.below b2 HQ.out.lt)
        replace HLB := Lib.hid (HLB.out.below b2 HLB.out.lt)
        replace HOB := Lib.hid (HOB.out.below b2 HOB.out.lt)
        replace HT := Lib.hid (HT.out.bel b2)
        replace HB := Lib.hid (HB.out.trans (b2.mono HB.out.size))
        replace HZ := Lib.hid (HZ.out.step b2)
        replace HLW := Lib.hid (Nat.le_trans HLW.out b2.size)
        clear b2
        have q0 := bx0 HQ.out
        have q1 := bx1 HQ.out
        have q2 := bx2 HQ.out
        have q3 := bx3 HQ.out
        have q4 := bx4 HQ.out
        go_wp2_with fail
        clear q0 q1 q2 q3 q4
        refine (HTH.out w2).mono ?_
        rintro e w3 ⟨rfl, b3⟩
        replace HX := Lib.hid (HX.out.below b3 HX.out.lt)
        replace HQ := Lib.hid (HQ.out.below b3 HQ.out.lt)
        replace HLB := Lib.hid (HLB.out.below b3 HLB.out.lt)
        replace HOB := Lib.hid (HOB.out.below b3 HOB.out.lt)
        replace HT := Lib.hid (HT.out.bel b3)
        replace HB := Lib.hid (HB.out.trans (b3.mono HB.out.size))
        replace HZ := Lib.hid (HZ.out.step b3)
        replace HLW := Lib.hid (Nat.le_trans HLW.out b3.size)
        clear b3
        have l0 := HLB.out.cell 0
        have lf := HLB.out.frozen 0
        have hx1 := HLB.out.set_ 0 (.slice none 0 0)
        have hy1 := HOB.out.far (p := ⟨g2, 0, none⟩) HNE.out (.slice none 0 0)
        have hb1 := HB.out.setCell (p := ⟨g2, 0, none⟩) HGE.out.1 (.slice none 0 0)
        obtain ⟨x1, hx1w⟩ : ∃ X, w3.setCell ⟨g2, 0, none⟩ (.slice none 0 0) = X := ⟨_, rfl⟩
        rw [hx1w] at hx1 hy1 hb1
        have o0 := hy1.cell 0
        have of := hy1.frozen 0
        have hy2 := hy1.set_ 0 (.slice none 0 0)
        have hx2 := hx1.far (p := ⟨g3, 0, none⟩) (Ne.symm HNE.out) (.slice none 0 0)
        have hb2 := hb1.setCell (p := ⟨g3, 0, none⟩) HGE.out.2 (.slice none 0 0)
        obtain ⟨x2, hx2w⟩ : ∃ X, x1.setCell ⟨g3, 0, none⟩ (.slice none 0 0) = X := ⟨_, rfl⟩
        rw [hx2w] at hx2 hy2 hb2
        have HE0 := Lib.hid hx2
        have HE1 := Lib.hid hy2
        have HB2 := Lib.hid hb2
        clear hx1 hy1 hb1 hx2 hy2 hb2
        go_wp2_with fail
        clear l0 lf o0 of hx1w hx2w
        have e0 : x2.cell? ⟨g2, 0, none⟩ = some (.slice none 0 0) := HE0.out.cell 0
        have e1 : x2.cell? ⟨g3, 0, none⟩ = some (.slice none 0 0) := HE1.out.cell 0
        refine bodyPost_ret (v := .tuple #[.slice none 0 0, .slice none 0 0, .int .i64 0]) (by simp [results, Tryz.f8, go_sem, e0, e1]) rfl ?_
        rw [HO.out]
        exact outLo_no 0 HB2.out
      · have HMY := Lib.hid (stCheck_all L x S w0 HT.out HLW.out 0 ⟨fun _ => rfl, fun h => absurd hm h⟩)
        have hpc := fun W => Check_any (pa, pb, pi, pt, ps) W
        simp only [pcheckO, if_pos hmp] at hpc
        have HPC := Lib.hid hpc
        clear hpc
        have HO := Lib.hid (show loadO S (pa, pb, pi, pt, ps) = loadedO S (pa, pb, pi, pt, ps) by unfold loadO; rw [if_pos ⟨hm, hmp⟩])
        have HTH := Lib.hid (fun W => ddThere_any (pa, pb, pi, pt, ps) W true ⟨fun _ => hp0, fun _ => rfl⟩)
        have HMS := Lib.hid hm
        have HMP := Lib.hid hmp
        have HP0 := Lib.hid hp0
        have HWP := Lib.hid hwp
        clear hm hmp hwp hp0
        have d0 := bx0 HX.out
        have d1 := bx1 HX.out
        have d2 := bx2 HX.out
        have d3 := bx3 HX.out
        have d4 := bx4 HX.out
        go_enter Tryz.func8, Tryz.ntmps8
        go_wp2_with fail
        try rw [hw0]
        try rw [hg]
        try rw [hg1]
        try rw [hg2]
        try rw [hg3]
        clear hw0 hg hg1 hg2 hg3
        clear d0 d1 d2 d3 d4
        refine (HMY.out).mono ?_
        rintro e w1 ⟨rfl, b1⟩
        replace HX := Lib.hid (HX.out.below b1 HX.out.lt)
        replace HQ := Lib.hid (HQ.out.below b1 HQ.out.lt)
        replace HLB := Lib.hid (HLB.out.below b1 HLB.out.lt)
        replace HOB := Lib.hid (HOB.out.below b1 HOB.out.lt)
        replace HT := Lib.hid (HT.out.bel b1)
        replace HB := Lib.hid (HB.out.trans (b1.mono HB.out.size))
        replace HZ := Lib.hid (HZ.out.step b1)
        replace HLW := Lib.hid (Nat.le_trans HLW.out b1.size)
        clear b1
        have q0 := bx0 HQ.out
        have q1 := bx1 HQ.out
        have q2 := bx2 HQ.out
        have q3 := bx3 HQ.out
        have q4 := bx4 HQ.out
        go_wp2_with fail
        clear q0 q1 q2 q3 q4
        refine (HPC.out w1).mono ?_
        rintro e w2 ⟨rfl, b2⟩
        replace HX := Lib.hid (HX.out.below b2 HX.out.lt)
        replace HQ := Lib.hid (HQ.out.below b2 HQ.out.lt)
        replace HLB := Lib.hid (HLB.out.below b2 HLB.out.lt)
        replace HOB := Lib.hid (HOB.out.below b2 HOB.out.lt)
        replace HT := Lib.hid (HT.out.bel b2)
        replace HB := Lib.hid (HB.out.trans (b2.mono HB.out.size))
        replace HZ := Lib.hid (HZ.out.step b2)
        replace HLW := Lib.hid (Nat.le_trans HLW.out b2.size)
        clear b2
        have q0 := bx0 HQ.out
        have q1 := bx1 HQ.out
        have q2 := bx2 HQ.out
        have q3 := bx3 HQ.out
        have q4 := bx4 HQ.out
        go_wp2_with fail
        clear q0 q1 q2 q3 q4
        refine (HTH.out w2).mono ?_
        rintro e w3 ⟨rfl, b3⟩
        replace HX := Lib.hid (HX.out.below b3 HX.out.lt)
        replace HQ := Lib.hid (HQ.out.below b3 HQ.out.lt)
        replace HLB := Lib.hid (HLB.out.below b3 HLB.out.lt)
        replace HOB := Lib.hid (HOB.out.below b3 HOB.out.lt)
        replace HT := Lib.hid (HT.out.bel b3)
        replace HB := Lib.hid (HB.out.trans (b3.mono HB.out.size))
        replace HZ := Lib.hid (HZ.out.step b3)
        replace HLW := Lib.hid (Nat.le_trans HLW.out b3.size)
        clear b3
        have hca := ddCaught_any L x S (pa, pb, pi, pt, ps) g g1 g2 g3 w3 HT.out HMS.out HMP.out HWP.out HP0.out HZ.out HLW.out HX.out HQ.out HLB.out HOB.out
        obtain ⟨⟨l, own, cc⟩, ho'⟩ : ∃ o, loadedO S (pa, pb, pi, pt, ps) = o := ⟨_, rfl⟩
        rw [ho'] at hca
        have hoo := HO.out.trans ho'
        have HOO := Lib.hid hoo
        have HCA := Lib.hid hca
        have hmf : ∀ (fn : Fn) (first cap : Array Value) (w : World), (Instr.makeFunc fn first cap).run Tryz.prog w = .ok (.func fn first cap) w := fun _ _ _ _ => rfl
        have HS3 := Lib.hid (show g2 < w3.heap.size ∧ g3 < w3.heap.size from ⟨HLB.out.lt, HOB.out.lt⟩)
        clear hca hoo ho' HO
        go_wp2_with fail
        refine HCA.out.mono ?_
        rintro e w4 (⟨hc, rfl, w5, v, u, b5, hv, hu, hw4⟩ | ⟨hc, rfl, b4⟩)
        · simp only at hc hv hu
          subst hc
          have hlb := HLB.out.below b5 HLB.out.lt
          have hob := HOB.out.below b5 HOB.out.lt
          have hv1 : PRow (w5.setCell ⟨g2, 0, none⟩ v) w3.heap.size v l := hv.own (only_setCell (World.grownBy.refl w5 (some g2)) (.inl rfl) v) fun k hk e => by have := (hv.1.lt k hk).1; have := HS3.out.1; omega
          have hu1 : (w5.setCell ⟨g2, 0, none⟩ v).ownsRow w3.heap.size 3 1 u own.length (valsN own) := own_other hu (only_setCell (World.grownBy.refl w5 (some g2)) (.inl rfl) v) fun k hk e => by have := (hu.lt k hk).1; have := HS3.out.1; omega
          have hl1 := hlb.set_ 0 v
          have ho1 := hob.far (p := ⟨g2, 0, none⟩) HNE.out v
          have hb1 := (HB.out.trans (b5.mono HB.out.size)).setCell (p := ⟨g2, 0, none⟩) HGE.out.1 v
          obtain ⟨x1, hx1⟩ : ∃ X, w5.setCell ⟨g2, 0, none⟩ v = X := ⟨_, rfl⟩
          rw [hx1] at hv1 hu1 hl1 ho1 hb1 hw4
          have hv2 : PRow (x1.setCell ⟨g3, 0, none⟩ u) w3.heap.size v l := hv1.own (only_setCell (World.grownBy.refl x1 (some g3)) (.inl rfl) u) fun k hk e => by have := (hv1.1.lt k hk).1; have := HS3.out.2; omega
          have hu2 : (x1.setCell ⟨g3, 0, none⟩ u).ownsRow w3.heap.size 3 1 u own.length (valsN own) := own_other hu1 (only_setCell (World.grownBy.refl x1 (some g3)) (.inl rfl) u) fun k hk e => by have := (hu1.lt k hk).1; have := HS3.out.2; omega
          have hl2 := hl1.far (p := ⟨g3, 0, none⟩) (Ne.symm HNE.out) u
          have ho2 := ho1.set_ 0 u
          have hb2 := hb1.setCell (p := ⟨g3, 0, none⟩) HGE.out.2 u
          rw [hw4] at hv2 hu2 hl2 ho2 hb2
          obtain ⟨av, cv, rfl, _⟩ := hv2.pts
          obtain ⟨au, cu, rfl⟩ := nrow_slice hu2
          have HV := Lib.hid (hv2.mono HB.out.size)
          have HU := Lib.hid (own_mono hu2 HB.out.size)
          have HE0 := Lib.hid hl2
          have HE1 := Lib.hid ho2
          have HBX := Lib.hid hb2
          clear hv hu b5 hlb hob hv1 hu1 hl1 ho1 hb1 hx1 hv2 hu2 hl2 ho2 hb2 hw4
          go_wp2_with fail
          have e0 : w4.cell? ⟨g2, 0, none⟩ = some (.slice av l.length cv) := HE0.out.cell 0
          have e1 : w4.cell? ⟨g3, 0, none⟩ = some (.slice au own.length cu) := HE1.out.cell 0
          refine bodyPost_ret (v := .tuple #[.slice av l.length cv, .slice au own.length cu, .int .i64 0]) (by simp [results, Tryz.f8, go_sem, e0, e1]) rfl ?_
          rw [HOO.out]
          exact ⟨_, _, rfl, HV.out, HU.out, HBX.out⟩
        · simp only at hc
          have hcn : l = [] ∧ own = [] := loadedO_none HOO.out hc
          obtain ⟨rfl, rfl⟩ := hcn
          replace HLB := Lib.hid (HLB.out.below b4 HLB.out.lt)
          replace HOB := Lib.hid (HOB.out.below b4 HOB.out.lt)
          replace HB := Lib.hid (HB.out.trans (b4.mono HB.out.size))
          clear b4
          go_wp2_with fail
          have e0 : w4.cell? ⟨g2, 0, none⟩ = some (.slice none 0 0) := HLB.out.cell 0
          have e1 : w4.cell? ⟨g3, 0, none⟩ = some (.slice none 0 0) := HOB.out.cell 0
          refine bodyPost_ret (v := .tuple #[.slice none 0 0, .slice none 0 0, .int .i64 (cc : Int)]) (by simp [results, Tryz.f8, go_sem, e0, e1]) rfl ?_
          rw [HOO.out]
          exact outLo_no cc HB.out
    · have HO := Lib.hid (show loadO S (pa, pb, pi, pt, ps) = ([], [], 8) by unfold loadO; rw [if_neg fun h => hmp h.2])
      have HMY := Lib.hid (stCheck_all L x S w0 HT.out HLW.out 0 ⟨fun _ => rfl, fun h => absurd hm h⟩)
      have hpc := fun W => Check_any (pa, pb, pi, pt, ps) W
      simp only [pcheckO, if_neg hmp] at hpc
      have HPC := Lib.hid hpc
      clear hpc hmp
      clear hm hwp
      have d0 := bx0 HX.out
      have d1 := bx1 HX.out
      have d2 := bx2 HX.out
      have d3 := bx3 HX.out
      have d4 := bx4 HX.out
      go_enter Tryz.func8, Tryz.ntmps8
      go_wp2_with fail
      try rw [hw0]
      try rw [hg]
      try rw [hg1]
      try rw [hg2]
      try rw [hg3]
      clear hw0 hg hg1 hg2 hg3
      clear d0 d1 d2 d3 d4
      refine (HMY.out).mono ?_
      rintro e w1 ⟨rfl, b1⟩
      replace HX := Lib.hid (HX.out.below b1 HX.out.lt)
      replace HQ := Lib.hid (HQ.out.below b1 HQ.out.lt)
      replace HLB := Lib.hid (HLB.out.below b1 HLB.out.lt)
      replace HOB := Lib.hid (HOB.out.below b1 HOB.out.lt)
      replace HT := Lib.hid (HT.out.bel b1)
      replace HB := Lib.hid (HB.out.trans (b1.mono HB.out.size))
      replace HZ := Lib.hid (HZ.out.step b1)
      replace HLW := Lib.hid (Nat.le_trans HLW.out b1.size)
      clear b1
      have q0 := bx0 HQ.out
      have q1 := bx1 HQ.out
      have q2 := bx2 HQ.out
      have q3 := bx3 HQ.out
      have q4 := bx4 HQ.out
      go_wp2_with fail
      clear q0 q1 q2 q3 q4
      refine (HPC.out w1).mono ?_
      rintro e w2 ⟨rfl, b2⟩
      replace HX := Lib.hid (HX.out.below b2 HX.out.lt)
      replace HQ := Lib.hid (HQ.out.below b2 HQ.out.lt)
      replace HLB := Lib.hid (HLB.out.below b2 HLB.out.lt)
      replace HOB := Lib.hid (HOB.out.below b2 HOB.out.lt)
      replace HT := Lib.hid (HT.out.bel b2)
      replace HB := Lib.hid (HB.out.trans (b2.mono HB.out.size))
      replace HZ := Lib.hid (HZ.out.step b2)
      replace HLW := Lib.hid (Nat.le_trans HLW.out b2.size)
      clear b2
      have l0 := HLB.out.cell 0
      have lf := HLB.out.frozen 0
      have hx1 := HLB.out.set_ 0 (.slice none 0 0)
      have hy1 := HOB.out.far (p := ⟨g2, 0, none⟩) HNE.out (.slice none 0 0)
      have hb1 := HB.out.setCell (p := ⟨g2, 0, none⟩) HGE.out.1 (.slice none 0 0)
      obtain ⟨x1, hx1w⟩ : ∃ X, w2.setCell ⟨g2, 0, none⟩ (.slice none 0 0) = X := ⟨_, rfl⟩
      rw [hx1w] at hx1 hy1 hb1
      have o0 := hy1.cell 0
      have of := hy1.frozen 0
      have hy2 := hy1.set_ 0 (.slice none 0 0)
      have hx2 := hx1.far (p := ⟨g3, 0, none⟩) (Ne.symm HNE.out) (.slice none 0 0)
      have hb2 := hb1.setCell (p := ⟨g3, 0, none⟩) HGE.out.2 (.slice none 0 0)
      obtain ⟨x2, hx2w⟩ : ∃ X, x1.setCell ⟨g3, 0, none⟩ (.slice none 0 0) = X := ⟨_, rfl⟩
      rw [hx2w] at hx2 hy2 hb2
      have HE0 := Lib.hid hx2
      have HE1 := Lib.hid hy2
      have HB2 := Lib.hid hb2
      clear hx1 hy1 hb1 hx2 hy2 hb2
      go_wp2_with fail
      clear l0 lf o0 of hx1w hx2w
      have e0 : x2.cell? ⟨g2, 0, none⟩ = some (.slice none 0 0) := HE0.out.cell 0
      have e1 : x2.cell? ⟨g3, 0, none⟩ = some (.slice none 0 0) := HE1.out.cell 0
      refine bodyPost_ret (v := .tuple #[.slice none 0 0, .slice none 0 0, .int .i64 8]) (by simp [results, Tryz.f8, go_sem, e0, e1]) rfl ?_
      rw [HO.out]
      exact outLo_no 8 HB2.out
  · have HO := Lib.hid (show loadO S (pa, pb, pi, pt, ps) = ([], [], 8) by unfold loadO; rw [if_neg fun h => hm h.1])
    have HMY := Lib.hid (stCheck_all L x S w0 HT.out HLW.out 8 ⟨fun h => absurd h hm, fun _ => rfl⟩)
    clear hm hwp
    have d0 := bx0 HX.out
    have d1 := bx1 HX.out
    have d2 := bx2 HX.out
    have d3 := bx3 HX.out
    have d4 := bx4 HX.out
    go_enter Tryz.func8, Tryz.ntmps8
    go_wp2_with fail
    try rw [hw0]
    try rw [hg]
    try rw [hg1]
    try rw [hg2]
    try rw [hg3]
    clear hw0 hg hg1 hg2 hg3
    clear d0 d1 d2 d3 d4
    refine (HMY.out).mono ?_
    rintro e w1 ⟨rfl, b1⟩
    replace HX := Lib.hid (HX.out.below b1 HX.out.lt)
    replace HQ := Lib.hid (HQ.out.below b1 HQ.out.lt)
    replace HLB := Lib.hid (HLB.out.below b1 HLB.out.lt)
    replace HOB := Lib.hid (HOB.out.below b1 HOB.out.lt)
    replace HT := Lib.hid (HT.out.bel b1)
    replace HB := Lib.hid (HB.out.trans (b1.mono HB.out.size))
    replace HZ := Lib.hid (HZ.out.step b1)
    replace HLW := Lib.hid (Nat.le_trans HLW.out b1.size)
    clear b1
    have l0 := HLB.out.cell 0
    have lf := HLB.out.frozen 0
    have hx1 := HLB.out.set_ 0 (.slice none 0 0)
    have hy1 := HOB.out.far (p := ⟨g2, 0, none⟩) HNE.out (.slice none 0 0)
    have hb1 := HB.out.setCell (p := ⟨g2, 0, none⟩) HGE.out.1 (.slice none 0 0)
    obtain ⟨x1, hx1w⟩ : ∃ X, w1.setCell ⟨g2, 0, none⟩ (.slice none 0 0) = X := ⟨_, rfl⟩
    rw [hx1w] at hx1 hy1 hb1
    have o0 := hy1.cell 0
    have of := hy1.frozen 0
    have hy2 := hy1.set_ 0 (.slice none 0 0)
    have hx2 := hx1.far (p := ⟨g3, 0, none⟩) (Ne.symm HNE.out) (.slice none 0 0)
    have hb2 := hb1.setCell (p := ⟨g3, 0, none⟩) HGE.out.2 (.slice none 0 0)
    obtain ⟨x2, hx2w⟩ : ∃ X, x1.setCell ⟨g3, 0, none⟩ (.slice none 0 0) = X := ⟨_, rfl⟩
    rw [hx2w] at hx2 hy2 hb2
    have HE0 := Lib.hid hx2
    have HE1 := Lib.hid hy2
    have HB2 := Lib.hid hb2
    clear hx1 hy1 hb1 hx2 hy2 hb2
    go_wp2_with fail
    clear l0 lf o0 of hx1w hx2w
    have e0 : x2.cell? ⟨g2, 0, none⟩ = some (.slice none 0 0) := HE0.out.cell 0
    have e1 : x2.cell? ⟨g3, 0, none⟩ = some (.slice none 0 0) := HE1.out.cell 0
    refine bodyPost_ret (v := .tuple #[.slice none 0 0, .slice none 0 0, .int .i64 8]) (by simp [results, Tryz.f8, go_sem, e0, e1]) rfl ?_
    rw [HO.out]
    exact outLo_no 8 HB2.out
end Go.Proofs.YtjdjbonljohnbaaGreatDoor
/-
  Store's own: Give, Twin; what they answer is new memory, and nothing that was there is written.
-/
namespace Go.Proofs.YtjdjbonljohnbaaGreatDoor
open Go.RowKit Go.Shelf
set_option maxRecDepth 100000

set_option maxHeartbeats 4000000 in
theorem stTwin_any (L : Nat) (x : SAt) (S : StL) (w : World) (h : StP L w x S) (ho : OkS S) (_hL : L ≤ w.heap.size) : Calls Tryz.prog 16 #[stV x S] w (NewS S w) := by
  have hmx : Tryz.prog.follows Departure.mixedOrders = true := by kernel_rfl
  obtain ⟨w0, hw0, b0, z0, x0, y0⟩ := two_al w (stC x S) stZ 29 29
  obtain ⟨g, hg⟩ : ∃ g, w.heap.size = g := ⟨_, rfl⟩
  obtain ⟨g2, hg2⟩ : ∃ g2, g + 1 = g2 := ⟨_, rfl⟩
  have h0 := h.bel b0
  rw [hg] at x0 y0 z0 b0
  rw [hg2] at y0
  have HI := Lib.hid (show g ≤ g2 ∧ g2 ≠ g ∧ g ≠ g2 by omega)
  have HX := Lib.hid x0
  have HY := Lib.hid y0
  have HB := Lib.hid b0
  have HS := Lib.hid h0
  have HG := Lib.hid hg
  have HW := Lib.hid (show g ≤ w0.heap.size by omega)
  have HF := Lib.hid ho.1
  have HN := Lib.hid ho.2.1
  simp only [stC, stZ] at hw0
  clear h h0 x0 y0 b0 z0 ho
  go_enter Tryz.func16, Tryz.ntmps16
  go_wp2_with fail
  try rw [hw0]
  try rw [hg]
  try rw [hg2]
  obtain ⟨wd, hwd⟩ : ∃ wd, w0.drew = wd := ⟨_, rfl⟩
  have bb : Below w0.heap.size w0 wd := by rw [← hwd]; exact (Below.refl _ w0).drew
  replace HX := Lib.hid (HX.out.below bb HX.out.lt)
  replace HY := Lib.hid (HY.out.below bb HY.out.lt)
  replace HS := Lib.hid (HS.out.bel bb)
  replace HB := Lib.hid (HB.out.trans (bb.mono HW.out))
  replace HW := Lib.hid (Nat.le_trans HW.out bb.size)
  clear bb hw0
  have hcs := And.intro (stC0 HX.out) (And.intro (stC1 HX.out) (And.intro (stC2 HX.out) (And.intro (stC3 HX.out) (stC4 HX.out))))
  refine wpI_start (fun X => X.cell? ⟨g, 0, none⟩ = some (.slice x.d.ba S.1.1.length x.d.bc) ∧ X.cell? ⟨g, 1, none⟩ = some (.slice x.d.wa S.1.2.length x.d.wc) ∧ X.cell? ⟨g, 2, none⟩ = some (.slice x.a S.2.1.length x.c) ∧ X.cell? ⟨g, 3, none⟩ = some (.int .u32 (S.2.2.1 : Int)) ∧ X.cell? ⟨g, 4, none⟩ = some (.int .u32 (S.2.2.2 : Int))) [0, 1, 2, 4, 5, 3, 6, 7, 8] hmx rfl hwd ?_
  clear hwd
  have HTW := Lib.hid (dTwin_any x.d S.1 wd HS.out.now.1 HF.out)
  have HTW2 := HTW.out
  simp only [dval] at HTW2
  replace HTW := Lib.hid HTW2
  clear HTW2
  iterate 5 (
    refine wpI_read (v := ?_) hcs rfl (by kernel_rfl) (by kernel_rfl) (by kernel_rfl) (fun _ _ _ h => h) (.inl ⟨by rfl, ?_⟩) ?_
    rotate_left
    · intro X hX
      obtain ⟨j0, j1, j2, j3, j4⟩ := hX
      go_simp
      with_reducible rfl
    try simp only [Act.put, List.setIfInBounds_toArray, List.set_cons_zero, List.set_cons_succ])
  refine wpI_lone rfl (by kernel_rfl) (fun K hK => ?_)
  go_simp
  refine HTW.out.mono ?_
  rintro ev w3 ⟨y, rfl, hy, b3⟩
  have HD := Lib.hid (show OutD w3 wd.heap.size y S.1 from .inr hy)
  have HW2 := Lib.hid HW.out
  replace HX := Lib.hid (HX.out.below b3 HX.out.lt)
  replace HY := Lib.hid (HY.out.below b3 HY.out.lt)
  replace HS := Lib.hid (HS.out.bel b3)
  replace HB := Lib.hid (HB.out.trans (b3.mono HW.out))
  replace HW := Lib.hid (Nat.le_trans HW.out b3.size)
  have hcs3 := And.intro (stC0 HX.out) (And.intro (stC1 HX.out) (And.intro (stC2 HX.out) (And.intro (stC3 HX.out) (stC4 HX.out))))
  refine hK _ _ hcs3 ?_
  clear hK K hcs hy b3 HTW
  simp only [dval]
  try simp only [Act.put, List.setIfInBounds_toArray, List.set_cons_zero, List.set_cons_succ]
  have HCL := Lib.hid (dClone_any w3.heap.size x.a S.2.1.length x.c S.2.1 w3 (Nat.le_refl _) HS.out.now.2 (by have := HN.out; omega))
  refine wpI_lone rfl (by kernel_rfl) (fun K hK => ?_)
  go_simp
  refine HCL.out.mono ?_
  rintro ev w3' ⟨v, rfl, hv, b3⟩
  obtain ⟨sa, sc, rfl⟩ := own_slice hv
  have HO := Lib.hid (own_mono hv HW.out)
  replace HD := Lib.hid (HD.out.below b3)
  replace HX := Lib.hid (HX.out.below b3 HX.out.lt)
  replace HY := Lib.hid (HY.out.below b3 HY.out.lt)
  replace HS := Lib.hid (HS.out.bel b3)
  replace HB := Lib.hid (HB.out.trans (b3.mono HW.out))
  replace HW := Lib.hid (Nat.le_trans HW.out b3.size)
  have hcs3' := And.intro (stC0 HX.out) (And.intro (stC1 HX.out) (And.intro (stC2 HX.out) (And.intro (stC3 HX.out) (stC4 HX.out))))
  refine hK _ _ hcs3' ?_
  clear hK K hcs3 hv b3 HCL
  try simp only [Act.put, List.setIfInBounds_toArray, List.set_cons_zero, List.set_cons_succ]
  have hwi := stWith_any x S y S.1 sa S.2.1.length sc w3'
  simp only [dval, stV] at hwi
  have HWI := Lib.hid hwi
  clear hwi
  refine wpI_lone rfl (by kernel_rfl) (fun K hK => ?_)
  go_simp
  refine HWI.out.mono ?_
  rintro ev w4 ⟨rfl, b4⟩
  replace HO := Lib.hid (own_below HO.out b4)
  replace HD := Lib.hid (HD.out.below b4)
  replace HX := Lib.hid (HX.out.below b4 HX.out.lt)
  replace HY := Lib.hid (HY.out.below b4 HY.out.lt)
  replace HS := Lib.hid (HS.out.bel b4)
  replace HB := Lib.hid (HB.out.trans (b4.mono HW.out))
  replace HW := Lib.hid (Nat.le_trans HW.out b4.size)
  have hcs4 := And.intro (stC0 HX.out) (And.intro (stC1 HX.out) (And.intro (stC2 HX.out) (And.intro (stC3 HX.out) (stC4 HX.out))))
  refine hK _ _ hcs4 ?_
  clear hK K hcs3' b4 HWI
  try simp only [Act.put, List.setIfInBounds_toArray, List.set_cons_zero, List.set_cons_succ]
  refine wpI_lone rfl (by kernel_rfl) (fun K hK => ?_)
  go_simp
  obtain ⟨ya, ka, ba⟩ := box_five (L := 0) HY.out (by decide) (Nat.zero_le _) HB.out HI.out.1 (.slice y.ba S.1.1.length y.bc) (.slice y.wa S.1.2.length y.wc) (.slice sa S.2.1.length sc) (.int .u32 (S.2.2.1 : Int)) (.int .u32 (S.2.2.2 : Int))
  have m0 := stZ0 HY.out
  have m1 := stZ1 HY.out
  have m2 := stZ2 HY.out
  have m3 := stZ3 HY.out
  have m4 := stZ4 HY.out
  have hfy := fun i => HY.out.frozen i
  obtain ⟨wa, hwa⟩ : ∃ wa, set5 w4 g2 (.slice y.ba S.1.1.length y.bc) (.slice y.wa S.1.2.length y.wc) (.slice sa S.2.1.length sc) (.int .u32 (S.2.2.1 : Int)) (.int .u32 (S.2.2.2 : Int)) = wa := ⟨_, rfl⟩
  rw [hwa] at ya ka ba
  have HK := Lib.hid ka
  have HBF := Lib.hid ba
  have HYF := Lib.hid ya
  simp only [set5] at hwa
  clear ya ka ba
  have x5 := far5_bl HX.out HI.out.2.2 (.slice y.ba S.1.1.length y.bc) (.slice y.wa S.1.2.length y.wc) (.slice sa S.2.1.length sc) (.int .u32 (S.2.2.1 : Int)) (.int .u32 (S.2.2.2 : Int))
  rw [show set5 w4 g2 (.slice y.ba S.1.1.length y.bc) (.slice y.wa S.1.2.length y.wc) (.slice sa S.2.1.length sc) (.int .u32 (S.2.2.1 : Int)) (.int .u32 (S.2.2.2 : Int)) = wa by simp only [set5]; exact hwa] at x5
  have hcs5 := And.intro (stC0 x5) (And.intro (stC1 x5) (And.intro (stC2 x5) (And.intro (stC3 x5) (stC4 x5))))
  clear x5
  go_simp
  refine hK _ _ hcs5 ?_
  clear hK K hcs4 hcs5
  try simp only [Act.put, List.setIfInBounds_toArray, List.set_cons_zero, List.set_cons_succ]
  refine wpI_done (by kernel_rfl) ?_
  go_wp2_with fail
  clear m0 m1 m2 m3 m4 hfy hwa
  have e0 := bx0 HYF.out
  have e1 := bx1 HYF.out
  have e2 := bx2 HYF.out
  have e3 := bx3 HYF.out
  have e4 := bx4 HYF.out
  refine bodyPost_ret (v := .agg #[(.slice y.ba S.1.1.length y.bc), (.slice y.wa S.1.2.length y.wc), (.slice sa S.2.1.length sc), (.int .u32 (S.2.2.1 : Int)), (.int .u32 (S.2.2.2 : Int))]) (by simp [results, Tryz.f16, go_sem, e0, e1, e2, e3, e4]) rfl ?_
  have hn := newS_of (B'' := w.heap.size) HD.out HO.out HS.out.now.2.1 (HK.out) (HK.out) (by rw [HG.out]; exact HW2.out) (by rw [HG.out]; exact Nat.le_refl _) S.2.2.1 S.2.2.2
  exact ⟨⟨y, sa, sc⟩, rfl, hn.1, hn.2, by rw [HG.out]; exact HBF.out⟩
end Go.Proofs.YtjdjbonljohnbaaGreatDoor
/-
  dead's own wrong; Lay where it is refused, or has nothing to lay.
-/
namespace Go.Proofs.YtjdjbonljohnbaaGreatDoor
open Go Go.RowKit Go.Shelf
set_option maxRecDepth 100000

/-- What Lay answers: a store of the call's own, a pointer, a list of blocks, an error's number. -/
def NewLy (o : StL × Pt × List Nat × Nat) (w : World) (e : Ending) (w' : World) : Prop :=
  ∃ y u, e = .returned (.tuple #[stV y o.1, ptV o.2.1, u, .int .i64 (o.2.2.2 : Int)]) ∧ StP 0 w' y o.1 ∧ HiS w' w.heap.size y o.1 ∧ w'.ownsRow w.heap.size 3 1 u o.2.2.1.length (valsN o.2.2.1) ∧ Below w.heap.size w w'
/-- What is asked ahead. -/
noncomputable def laskO (S : StL) (b : Nat) (l : List Pt) : Nat :=
  open Classical in if MayS S ∧ MayDL l then if 1 ≤ b ∧ b ≤ 16777215 then 0 else 2 else 8
set_option maxHeartbeats 4000000 in
theorem ddAsk_any (L : Nat) (x : SAt) (S : StL) (b : Nat) (a : Option Addr) (n c : Nat) (l : List Pt) (w : World) (h : StP L w x S) (hbi : b < 4294967296) (hr : Pts w w.heap.size a n c l) (hL : L ≤ w.heap.size) :
    Calls Tryz.prog 15 #[stV x S, .int .u32 (b : Int), .slice a n c] w fun e w' => e = .returned (.int .i64 (laskO S b l : Int)) ∧ Below w.heap.size w w' := by
  have xb := Blk.new w 29 (stC x S)
  have b0 := (Below.refl w.heap.size w).alloc (Nat.le_refl _) (.cells (stC x S) 29)
  obtain ⟨w0, hw0⟩ : ∃ w0, w.alloc (.cells (stC x S) 29) = w0 := ⟨_, rfl⟩
  obtain ⟨g, hg⟩ : ∃ g, w.heap.size = g := ⟨_, rfl⟩
  rw [hw0] at xb b0
  rw [hg] at xb
  have HX := Lib.hid xb
  have HT := Lib.hid (h.bel b0)
  have HB := Lib.hid b0
  have HLW := Lib.hid (show L ≤ w0.heap.size from Nat.le_trans hL b0.size)
  have HR := Lib.hid (hr.step b0)
  have n0 : (0 : Int) ≤ (b : Int) := by omega
  have n9 : (b : Int) ≤ 4294967295 := by omega
  simp only [stC] at hw0
  clear h xb b0 hL hr
  by_cases hm : MayS S
  · by_cases hl : MayDL l
    · by_cases hb1 : b < 1
      · have HO := Lib.hid (show laskO S b l = 2 by unfold laskO; rw [if_pos ⟨hm, hl⟩, if_neg (by omega)])
        have HMY := Lib.hid (stCheck_all L x S w0 HT.out HLW.out 0 ⟨fun _ => rfl, fun h => absurd hm h⟩)
        have HMD := Lib.hid (fun W hW => ddMay_any a n c l W hW true ⟨fun _ => hl, fun _ => rfl⟩)
        have f0 : decide ((b : Int) < 1) = true := decide_eq_true (by omega)
        have f1 : decide (b < 1) = true := decide_eq_true (by omega)
        clear hm hl
        have d0 := bx0 HX.out
        have d1 := bx1 HX.out
        have d2 := bx2 HX.out
        have d3 := bx3 HX.out
        have d4 := bx4 HX.out
        go_enter Tryz.func15, Tryz.ntmps15
        go_wp2_with fail
        try rw [hw0]
        try rw [hg]
        clear hw0 hg
        clear d0 d1 d2 d3 d4
        refine (HMY.out).mono ?_
        rintro e w1 ⟨rfl, b1⟩
        replace HX := Lib.hid (HX.out.below b1 HX.out.lt)
        replace HT := Lib.hid (HT.out.bel b1)
        replace HB := Lib.hid (HB.out.trans (b1.mono HB.out.size))
        replace HLW := Lib.hid (Nat.le_trans HLW.out b1.size)
        replace HR := Lib.hid (HR.out.step b1)
        clear b1
        go_wp2_with fail
        refine (HMD.out w1 HR.out).mono ?_
        rintro e w2 ⟨rfl, b2⟩
        replace HX := Lib.hid (HX.out.below b2 HX.out.lt)
        replace HT := Lib.hid (HT.out.bel b2)
        replace HB := Lib.hid (HB.out.trans (b2.mono HB.out.size))
        replace HLW := Lib.hid (Nat.le_trans HLW.out b2.size)
        replace HR := Lib.hid (HR.out.step b2)
        clear b2
        go_wp2_with fail
        go_ret
        rw [HO.out]
        exact ⟨rfl, HB.out⟩
      · by_cases hb2 : 16777215 < b
        · have HO := Lib.hid (show laskO S b l = 2 by unfold laskO; rw [if_pos ⟨hm, hl⟩, if_neg (by omega)])
          have HMY := Lib.hid (stCheck_all L x S w0 HT.out HLW.out 0 ⟨fun _ => rfl, fun h => absurd hm h⟩)
          have HMD := Lib.hid (fun W hW => ddMay_any a n c l W hW true ⟨fun _ => hl, fun _ => rfl⟩)
          have f0 : decide ((b : Int) < 1) = false := decide_eq_false (by omega)
          have f1 : decide (b < 1) = false := decide_eq_false (by omega)
          have f2 : decide ((b : Int) > 16777215) = true := decide_eq_true (by omega)
          have f3 : decide ((16777215 : Int) < (b : Int)) = true := decide_eq_true (by omega)
          have f4 : decide (16777215 < b) = true := decide_eq_true (by omega)
          clear hm hl
          have d0 := bx0 HX.out
          have d1 := bx1 HX.out
          have d2 := bx2 HX.out
          have d3 := bx3 HX.out
          have d4 := bx4 HX.out
          go_enter Tryz.func15, Tryz.ntmps15
          go_wp2_with fail
          try rw [hw0]
          try rw [hg]
          clear hw0 hg
          clear d0 d1 d2 d3 d4
          refine (HMY.out).mono ?_
          rintro e w1 ⟨rfl, b1⟩
          replace HX := Lib.hid (HX.out.below b1 HX.out.lt)
          replace HT := Lib.hid (HT.out.bel b1)
          replace HB := Lib.hid (HB.out.trans (b1.mono HB.out.size))
          replace HLW := Lib.hid (Nat.le_trans HLW.out b1.size)
          replace HR := Lib.hid (HR.out.step b1)
          clear b1
          go_wp2_with fail
          refine (HMD.out w1 HR.out).mono ?_
          rintro e w2 ⟨rfl, b2⟩
          replace HX := Lib.hid (HX.out.below b2 HX.out.lt)
          replace HT := Lib.hid (HT.out.bel b2)
          replace HB := Lib.hid (HB.out.trans (b2.mono HB.out.size))
          replace HLW := Lib.hid (Nat.le_trans HLW.out b2.size)
          replace HR := Lib.hid (HR.out.step b2)
          clear b2
          go_wp2_with fail
          go_ret
          rw [HO.out]
          exact ⟨rfl, HB.out⟩
        · have HO := Lib.hid (show laskO S b l = 0 by unfold laskO; rw [if_pos ⟨hm, hl⟩, if_pos (by omega)])
          have HMY := Lib.hid (stCheck_all L x S w0 HT.out HLW.out 0 ⟨fun _ => rfl, fun h => absurd hm h⟩)
          have HMD := Lib.hid (fun W hW => ddMay_any a n c l W hW true ⟨fun _ => hl, fun _ => rfl⟩)
          have f0 : decide ((b : Int) < 1) = false := decide_eq_false (by omega)
          have f1 : decide (b < 1) = false := decide_eq_false (by omega)
          have f2 : decide ((b : Int) > 16777215) = false := decide_eq_false (by omega)
          have f3 : decide ((16777215 : Int) < (b : Int)) = false := decide_eq_false (by omega)
          have f4 : decide (16777215 < b) = false := decide_eq_false (by omega)
          clear hm hl
          have d0 := bx0 HX.out
          have d1 := bx1 HX.out
          have d2 := bx2 HX.out
          have d3 := bx3 HX.out
          have d4 := bx4 HX.out
          go_enter Tryz.func15, Tryz.ntmps15
          go_wp2_with fail
          try rw [hw0]
          try rw [hg]
          clear hw0 hg
          clear d0 d1 d2 d3 d4
          refine (HMY.out).mono ?_
          rintro e w1 ⟨rfl, b1⟩
          replace HX := Lib.hid (HX.out.below b1 HX.out.lt)
          replace HT := Lib.hid (HT.out.bel b1)
          replace HB := Lib.hid (HB.out.trans (b1.mono HB.out.size))
          replace HLW := Lib.hid (Nat.le_trans HLW.out b1.size)
          replace HR := Lib.hid (HR.out.step b1)
          clear b1
          go_wp2_with fail
          refine (HMD.out w1 HR.out).mono ?_
          rintro e w2 ⟨rfl, b2⟩
          replace HX := Lib.hid (HX.out.below b2 HX.out.lt)
          replace HT := Lib.hid (HT.out.bel b2)
          replace HB := Lib.hid (HB.out.trans (b2.mono HB.out.size))
          replace HLW := Lib.hid (Nat.le_trans HLW.out b2.size)
          replace HR := Lib.hid (HR.out.step b2)
          clear b2
          go_wp2_with fail
          go_ret
          rw [HO.out]
          exact ⟨rfl, HB.out⟩
    · have HO := Lib.hid (show laskO S b l = 8 by unfold laskO; rw [if_neg fun h => hl h.2])
      have HMY := Lib.hid (stCheck_all L x S w0 HT.out HLW.out 0 ⟨fun _ => rfl, fun h => absurd hm h⟩)
      have HMD := Lib.hid (fun W hW => ddMay_any a n c l W hW false ⟨fun h => (by cases h), fun h => absurd h hl⟩)
      clear hm hl
      have d0 := bx0 HX.out
      have d1 := bx1 HX.out
      have d2 := bx2 HX.out
      have d3 := bx3 HX.out
      have d4 := bx4 HX.out
      go_enter Tryz.func15, Tryz.ntmps15
      go_wp2_with fail
      try rw [hw0]
      try rw [hg]
      clear hw0 hg
      clear d0 d1 d2 d3 d4
      refine (HMY.out).mono ?_
      rintro e w1 ⟨rfl, b1⟩
      replace HX := Lib.hid (HX.out.below b1 HX.out.lt)
      replace HT := Lib.hid (HT.out.bel b1)
      replace HB := Lib.hid (HB.out.trans (b1.mono HB.out.size))
      replace HLW := Lib.hid (Nat.le_trans HLW.out b1.size)
      replace HR := Lib.hid (HR.out.step b1)
      clear b1
      go_wp2_with fail
      refine (HMD.out w1 HR.out).mono ?_
      rintro e w2 ⟨rfl, b2⟩
      replace HX := Lib.hid (HX.out.below b2 HX.out.lt)
      replace HT := Lib.hid (HT.out.bel b2)
      replace HB := Lib.hid (HB.out.trans (b2.mono HB.out.size))
      replace HLW := Lib.hid (Nat.le_trans HLW.out b2.size)
      replace HR := Lib.hid (HR.out.step b2)
      clear b2
      go_wp2_with fail
      go_ret
      rw [HO.out]
      exact ⟨rfl, HB.out⟩
  · have HO := Lib.hid (show laskO S b l = 8 by unfold laskO; rw [if_neg fun h => hm h.1])
    have HMY := Lib.hid (stCheck_all L x S w0 HT.out HLW.out 8 ⟨fun h => absurd h hm, fun _ => rfl⟩)
    clear hm
    have d0 := bx0 HX.out
    have d1 := bx1 HX.out
    have d2 := bx2 HX.out
    have d3 := bx3 HX.out
    have d4 := bx4 HX.out
    go_enter Tryz.func15, Tryz.ntmps15
    go_wp2_with fail
    try rw [hw0]
    try rw [hg]
    clear hw0 hg
    clear d0 d1 d2 d3 d4
    refine (HMY.out).mono ?_
    rintro e w1 ⟨rfl, b1⟩
    replace HX := Lib.hid (HX.out.below b1 HX.out.lt)
    replace HT := Lib.hid (HT.out.bel b1)
    replace HB := Lib.hid (HB.out.trans (b1.mono HB.out.size))
    replace HLW := Lib.hid (Nat.le_trans HLW.out b1.size)
    replace HR := Lib.hid (HR.out.step b1)
    clear b1
    go_wp2_with fail
    go_ret
    rw [HO.out]
    exact ⟨rfl, HB.out⟩
theorem six_al (w : World) (a b c d e f : Array Value) (s t u r v z : TypeId) : ∃ w0, (((((w.alloc (.cells a s)).alloc (.cells b t)).alloc (.cells c u)).alloc (.cells d r)).alloc (.cells e v)).alloc (.cells f z) = w0 ∧ Below w.heap.size w w0 ∧ w0.heap.size = w.heap.size + 6 ∧ Blk w0 w.heap.size s a ∧ Blk w0 (w.heap.size + 1) t b ∧ Blk w0 (w.heap.size + 2) u c ∧ Blk w0 (w.heap.size + 3) r d ∧ Blk w0 (w.heap.size + 4) v e ∧ Blk w0 (w.heap.size + 5) z f := by
  obtain ⟨w1, h1, b1, z1, x1, y1, q1, r1⟩ := four_al w a b c d s t u r
  rw [h1]
  obtain ⟨w2, h2, b2, z2, x2, y2⟩ := two_al w1 e f v z
  rw [h2]
  rw [z1] at x2 y2
  exact ⟨w2, rfl, b1.trans (b2.mono b1.size), by rw [z2, z1], x1.below b2 x1.lt, y1.below b2 y1.lt, q1.below b2 q1.lt, r1.below b2 r1.lt, x2, y2⟩
set_option linter.unusedSimpArgs false in
set_option maxHeartbeats 8000000 in
theorem ddLay_err (L : Nat) (x : SAt) (S : StL) (b : Nat) (a : Option Addr) (n c : Nat) (l : List Pt) (w : World) (h : StP L w x S) (hbi : b < 4294967296) (hr : Pts w w.heap.size a n c l) (hz : Szs w) (hL : L ≤ w.heap.size) (hq : laskO S b l ≠ 0) :
    Calls Tryz.prog 6 #[stV x S, .int .u32 (b : Int), .slice a n c] w (NewLy (st0, p0, [], laskO S b l) w) := by
  have HZ0 := Lib.hid hz
  clear hz
  obtain ⟨w0, hw0, b0, z0, q0, q1, q2, q3, q4, q5⟩ := six_al w (stC x S) #[.int .u32 (b : Int)] stZ ptZ #[.slice none 0 0] #[.int .i64 0] 29 27 29 32 35 36
  obtain ⟨g, hg⟩ : ∃ g, w.heap.size = g := ⟨_, rfl⟩
  obtain ⟨g1, hg1⟩ : ∃ g1, g + 1 = g1 := ⟨_, rfl⟩
  obtain ⟨g2, hg2⟩ : ∃ g2, g1 + 1 = g2 := ⟨_, rfl⟩
  obtain ⟨g3, hg3⟩ : ∃ g3, g2 + 1 = g3 := ⟨_, rfl⟩
  obtain ⟨g4, hg4⟩ : ∃ g4, g3 + 1 = g4 := ⟨_, rfl⟩
  obtain ⟨g5, hg5⟩ : ∃ g5, g4 + 1 = g5 := ⟨_, rfl⟩
  rw [hg] at q0 q1 q2 q3 q4 q5
  rw [hg1] at q1
  rw [show g + 2 = g1 + 1 by omega, hg2] at q2
  rw [show g + 3 = g1 + 1 + 1 by omega, hg2, hg3] at q3
  rw [show g + 4 = g1 + 1 + 1 + 1 by omega, hg2, hg3, hg4] at q4
  rw [show g + 5 = g1 + 1 + 1 + 1 + 1 by omega, hg2, hg3, hg4, hg5] at q5
  have HIX := Lib.hid (show g1 = g + 1 ∧ g2 = g + 2 ∧ g3 = g + 3 ∧ g4 = g + 4 ∧ g5 = g + 5 ∧ w0.heap.size = g + 6 ∧ w.heap.size = g by omega)
  have HX := Lib.hid q0
  have HBI := Lib.hid q1
  have HOB := Lib.hid q2
  have HPB := Lib.hid q3
  have HWB := Lib.hid q4
  have HEB := Lib.hid q5
  have HT := Lib.hid (h.bel b0)
  have HB := Lib.hid b0
  have HLW := Lib.hid (show L ≤ w0.heap.size from Nat.le_trans hL b0.size)
  have HZ := Lib.hid (HZ0.out.step b0)
  have HR := Lib.hid (hr.step b0)
  have HAS := Lib.hid (ddAsk_any L x S b a n c l w0 HT.out hbi HR.out HLW.out)
  simp only [stC, stZ, ptZ] at hw0
  clear h b0 z0 q0 q1 q2 q3 q4 q5 hL hr
  obtain ⟨zr, hze⟩ : ∃ z, laskO S b l = z := ⟨_, rfl⟩
  rw [hze] at hq HAS ⊢
  have z1 : ((zr : Int) != 0) = true := by simp; omega
  clear hze hq
  have d0 := bx0 HX.out
  have d1 := bx1 HX.out
  have d2 := bx2 HX.out
  have d3 := bx3 HX.out
  have d4 := bx4 HX.out
  have q := HBI.out.cell 0
  go_enter Tryz.func6, Tryz.ntmps6
  go_wp2_with fail
  try rw [hw0]
  try rw [hg]
  try rw [hg1]
  try rw [hg2]
  try rw [hg3]
  try rw [hg4]
  try rw [hg5]
  clear hw0 hg hg1 hg2 hg3 hg4 hg5 q
  clear d0 d1 d2 d3 d4
  refine HAS.out.mono ?_
  rintro e w1 ⟨rfl, b1⟩
  replace HX := Lib.hid (HX.out.below b1 HX.out.lt)
  replace HBI := Lib.hid (HBI.out.below b1 HBI.out.lt)
  replace HOB := Lib.hid (HOB.out.below b1 HOB.out.lt)
  replace HPB := Lib.hid (HPB.out.below b1 HPB.out.lt)
  replace HWB := Lib.hid (HWB.out.below b1 HWB.out.lt)
  replace HEB := Lib.hid (HEB.out.below b1 HEB.out.lt)
  replace HT := Lib.hid (HT.out.bel b1)
  replace HB := Lib.hid (HB.out.trans (b1.mono HB.out.size))
  replace HZ := Lib.hid (HZ.out.step b1)
  replace HLW := Lib.hid (Nat.le_trans HLW.out b1.size)
  clear b1
  have hX := HOB.out
  have d0 := stZ0 hX
  have d1 := stZ1 hX
  have d2 := stZ2 hX
  have d3 := stZ3 hX
  have d4 := stZ4 hX
  have df := fun i => hX.frozen i
  obtain ⟨xa, ka, ba⟩ := box_five (L := 0) hX (by decide) (Nat.zero_le _) HB.out (show w.heap.size ≤ g2 by have := HIX.out; omega) (.slice none 0 0) (.slice none 0 0) (.slice none 0 0) (.int .u32 0) (.int .u32 0)
  have yp := far5_bl HPB.out (show g3 ≠ g2 by have := HIX.out; omega) (.slice none 0 0) (.slice none 0 0) (.slice none 0 0) (.int .u32 0) (.int .u32 0)
  have yw := far5_bl HWB.out (show g4 ≠ g2 by have := HIX.out; omega) (.slice none 0 0) (.slice none 0 0) (.slice none 0 0) (.int .u32 0) (.int .u32 0)
  have ye := far5_bl HEB.out (show g5 ≠ g2 by have := HIX.out; omega) (.slice none 0 0) (.slice none 0 0) (.slice none 0 0) (.int .u32 0) (.int .u32 0)
  obtain ⟨x1, dn⟩ : ∃ X, set5 w1 g2 (.slice none 0 0) (.slice none 0 0) (.slice none 0 0) (.int .u32 0) (.int .u32 0) = X := ⟨_, rfl⟩
  rw [dn] at xa ka ba yp yw ye
  simp only [set5] at dn
  have p0_ := ptZ0 yp
  have p1_ := ptZ1 yp
  have p2_ := ptZ2 yp
  have p3_ := ptZ3 yp
  have p4_ := ptZ4 yp
  have pf := fun i => yp.frozen i
  obtain ⟨xb, kb, bb⟩ := box_five (L := 0) yp (by decide) (Nat.zero_le _) ba (show w.heap.size ≤ g3 by have := HIX.out; omega) (.int .i64 0) (.int .u32 0) (.int .u32 0) (.int .u32 0) (.int .u32 0)
  have zo := far5_bl xa (show g2 ≠ g3 by have := HIX.out; omega) (.int .i64 0) (.int .u32 0) (.int .u32 0) (.int .u32 0) (.int .u32 0)
  have zw := far5_bl yw (show g4 ≠ g3 by have := HIX.out; omega) (.int .i64 0) (.int .u32 0) (.int .u32 0) (.int .u32 0) (.int .u32 0)
  have ze := far5_bl ye (show g5 ≠ g3 by have := HIX.out; omega) (.int .i64 0) (.int .u32 0) (.int .u32 0) (.int .u32 0) (.int .u32 0)
  obtain ⟨x2, pn⟩ : ∃ X, set5 x1 g3 (.int .i64 0) (.int .u32 0) (.int .u32 0) (.int .u32 0) (.int .u32 0) = X := ⟨_, rfl⟩
  rw [pn] at xb kb bb zo zw ze
  simp only [set5] at pn
  have r0 := zw.cell 0
  have rf := zw.frozen 0
  have vw := zw.set_ 0 (.slice none 0 0)
  have vo := zo.far (p := ⟨g4, 0, none⟩) (show g2 ≠ g4 by have := HIX.out; omega) (.slice none 0 0)
  have vp := xb.far (p := ⟨g4, 0, none⟩) (show g3 ≠ g4 by have := HIX.out; omega) (.slice none 0 0)
  have ve := ze.far (p := ⟨g4, 0, none⟩) (show g5 ≠ g4 by have := HIX.out; omega) (.slice none 0 0)
  have kw : Keeps 0 x2 (x2.setCell ⟨g4, 0, none⟩ (.slice none 0 0)) := Keeps.of_box (only_setCell (p := ⟨g4, 0, none⟩) (World.grownBy.refl x2 (some g4)) (.inl rfl) (.slice none 0 0)) zw (by decide) (Nat.zero_le _)
  have bw := bb.setCell (p := ⟨g4, 0, none⟩) (show w.heap.size ≤ g4 by have := HIX.out; omega) (.slice none 0 0)
  obtain ⟨x3, rn⟩ : ∃ X, x2.setCell ⟨g4, 0, none⟩ (.slice none 0 0) = X := ⟨_, rfl⟩
  rw [rn] at vw vo vp ve kw bw
  have s0 := ve.cell 0
  have sf := ve.frozen 0
  have ue := ve.set_ 0 (.int .i64 (zr : Int))
  have uo := vo.far (p := ⟨g5, 0, none⟩) (show g2 ≠ g5 by have := HIX.out; omega) (.int .i64 (zr : Int))
  have up := vp.far (p := ⟨g5, 0, none⟩) (show g3 ≠ g5 by have := HIX.out; omega) (.int .i64 (zr : Int))
  have uw := vw.far (p := ⟨g5, 0, none⟩) (show g4 ≠ g5 by have := HIX.out; omega) (.int .i64 (zr : Int))
  have ke : Keeps 0 x3 (x3.setCell ⟨g5, 0, none⟩ (.int .i64 (zr : Int))) := Keeps.of_box (only_setCell (p := ⟨g5, 0, none⟩) (World.grownBy.refl x3 (some g5)) (.inl rfl) (.int .i64 (zr : Int))) ve (by decide) (Nat.zero_le _)
  have be := bw.setCell (p := ⟨g5, 0, none⟩) (show w.heap.size ≤ g5 by have := HIX.out; omega) (.int .i64 (zr : Int))
  obtain ⟨x4, sn⟩ : ∃ X, x3.setCell ⟨g5, 0, none⟩ (.int .i64 (zr : Int)) = X := ⟨_, rfl⟩
  rw [sn] at ue uo up uw ke be
  have HKX := Lib.hid (((ka.trans kb).trans kw).trans ke)
  have HBX := Lib.hid be
  have HUE := Lib.hid ue
  have HUO := Lib.hid uo
  have HUP := Lib.hid up
  have HUW := Lib.hid uw
  clear hX xa ka ba yp yw ye xb kb bb zo zw ze vw vo vp ve kw bw ue uo up uw ke be
  go_wp2_with fail
  clear d0 d1 d2 d3 d4 df dn p0_ p1_ p2_ p3_ p4_ pf pn r0 rf rn s0 sf sn
  have e0 := HUO.out.cell 0
  have e1 := HUO.out.cell 1
  have e2 := HUO.out.cell 2
  have e3 := HUO.out.cell 3
  have e4 := HUO.out.cell 4
  have i0 := HUP.out.cell 0
  have i1 := HUP.out.cell 1
  have i2 := HUP.out.cell 2
  have i3 := HUP.out.cell 3
  have i4 := HUP.out.cell 4
  have j0 := HUW.out.cell 0
  have k0 := HUE.out.cell 0
  refine bodyPost_ret (v := .tuple #[.agg #[.slice none 0 0, .slice none 0 0, .slice none 0 0, .int .u32 0, .int .u32 0], .agg #[.int .i64 0, .int .u32 0, .int .u32 0, .int .u32 0, .int .u32 0], .slice none 0 0, .int .i64 (zr : Int)]) (by simp [results, Tryz.f6, go_sem, e0, e1, e2, e3, e4, i0, i1, i2, i3, i4, j0, k0]) rfl ?_
  exact ⟨at0, _, rfl, st0_lasts 0 x4, hiS_zero x4 _, World.ownsRow_nil _ _ _ _, HBX.out⟩
set_option linter.unusedSimpArgs false in
set_option maxHeartbeats 8000000 in
theorem ddLay_nil (L : Nat) (x : SAt) (S : StL) (b : Nat) (a : Option Addr) (n c : Nat) (l : List Pt) (w : World) (h : StP L w x S) (hm : MayS S) (hbi : b < 4294967296) (hr : Pts w w.heap.size a n c l) (hz : Szs w) (hL : L ≤ w.heap.size) (hq : laskO S b l = 0) (hn : n = 0) :
    Calls Tryz.prog 6 #[stV x S, .int .u32 (b : Int), .slice a n c] w (NewLy (S, p0, [], 0) w) := by
  have HZ0 := Lib.hid hz
  clear hz
  obtain ⟨w0, hw0, b0, z0, q0, q1, q2, q3, q4, q5⟩ := six_al w (stC x S) #[.int .u32 (b : Int)] stZ ptZ #[.slice none 0 0] #[.int .i64 0] 29 27 29 32 35 36
  obtain ⟨g, hg⟩ : ∃ g, w.heap.size = g := ⟨_, rfl⟩
  obtain ⟨g1, hg1⟩ : ∃ g1, g + 1 = g1 := ⟨_, rfl⟩
  obtain ⟨g2, hg2⟩ : ∃ g2, g1 + 1 = g2 := ⟨_, rfl⟩
  obtain ⟨g3, hg3⟩ : ∃ g3, g2 + 1 = g3 := ⟨_, rfl⟩
  obtain ⟨g4, hg4⟩ : ∃ g4, g3 + 1 = g4 := ⟨_, rfl⟩
  obtain ⟨g5, hg5⟩ : ∃ g5, g4 + 1 = g5 := ⟨_, rfl⟩
  rw [hg] at q0 q1 q2 q3 q4 q5
  rw [hg1] at q1
  rw [show g + 2 = g1 + 1 by omega, hg2] at q2
  rw [show g + 3 = g1 + 1 + 1 by omega, hg2, hg3] at q3
  rw [show g + 4 = g1 + 1 + 1 + 1 by omega, hg2, hg3, hg4] at q4
  rw [show g + 5 = g1 + 1 + 1 + 1 + 1 by omega, hg2, hg3, hg4, hg5] at q5
  have HIX := Lib.hid (show g1 = g + 1 ∧ g2 = g + 2 ∧ g3 = g + 3 ∧ g4 = g + 4 ∧ g5 = g + 5 ∧ w0.heap.size = g + 6 ∧ w.heap.size = g by omega)
  have HX := Lib.hid q0
  have HBI := Lib.hid q1
  have HOB := Lib.hid q2
  have HPB := Lib.hid q3
  have HWB := Lib.hid q4
  have HEB := Lib.hid q5
  have HT := Lib.hid (h.bel b0)
  have HB := Lib.hid b0
  have HLW := Lib.hid (show L ≤ w0.heap.size from Nat.le_trans hL b0.size)
  have HZ := Lib.hid (HZ0.out.step b0)
  have HR := Lib.hid (hr.step b0)
  have HAS := Lib.hid (ddAsk_any L x S b a n c l w0 HT.out hbi HR.out HLW.out)
  simp only [stC, stZ, ptZ] at hw0
  clear h b0 z0 q0 q1 q2 q3 q4 q5 hL hr
  rw [hq] at HAS
  have z1 : ((0 : Int) != 0) = false := rfl
  have z2 : ((n : Int) == 0) = true := by rw [hn]; rfl
  have HMS := Lib.hid hm
  clear hq hn hm
  have d0 := bx0 HX.out
  have d1 := bx1 HX.out
  have d2 := bx2 HX.out
  have d3 := bx3 HX.out
  have d4 := bx4 HX.out
  have q := HBI.out.cell 0
  go_enter Tryz.func6, Tryz.ntmps6
  go_wp2_with fail
  try rw [hw0]
  try rw [hg]
  try rw [hg1]
  try rw [hg2]
  try rw [hg3]
  try rw [hg4]
  try rw [hg5]
  clear hw0 hg hg1 hg2 hg3 hg4 hg5 q
  clear d0 d1 d2 d3 d4
  refine HAS.out.mono ?_
  rintro e w1 ⟨rfl, b1⟩
  replace HX := Lib.hid (HX.out.below b1 HX.out.lt)
  replace HBI := Lib.hid (HBI.out.below b1 HBI.out.lt)
  replace HOB := Lib.hid (HOB.out.below b1 HOB.out.lt)
  replace HPB := Lib.hid (HPB.out.below b1 HPB.out.lt)
  replace HWB := Lib.hid (HWB.out.below b1 HWB.out.lt)
  replace HEB := Lib.hid (HEB.out.below b1 HEB.out.lt)
  replace HT := Lib.hid (HT.out.bel b1)
  replace HB := Lib.hid (HB.out.trans (b1.mono HB.out.size))
  replace HZ := Lib.hid (HZ.out.step b1)
  replace HLW := Lib.hid (Nat.le_trans HLW.out b1.size)
  clear b1
  have d0 := bx0 HX.out
  have d1 := bx1 HX.out
  have d2 := bx2 HX.out
  have d3 := bx3 HX.out
  have d4 := bx4 HX.out
  go_wp2_with fail
  clear d0 d1 d2 d3 d4
  refine (stTwin_any L x S w1 HT.out HMS.out.ok HLW.out).mono ?_
  rintro e w2 ⟨y, rfl, st2, hi2, b2⟩
  have HB1 := Lib.hid (show w.heap.size ≤ w1.heap.size from HB.out.size)
  replace HX := Lib.hid (HX.out.below b2 HX.out.lt)
  replace HBI := Lib.hid (HBI.out.below b2 HBI.out.lt)
  replace HOB := Lib.hid (HOB.out.below b2 HOB.out.lt)
  replace HPB := Lib.hid (HPB.out.below b2 HPB.out.lt)
  replace HWB := Lib.hid (HWB.out.below b2 HWB.out.lt)
  replace HEB := Lib.hid (HEB.out.below b2 HEB.out.lt)
  replace HT := Lib.hid (HT.out.bel b2)
  replace HB := Lib.hid (HB.out.trans (b2.mono HB.out.size))
  replace HZ := Lib.hid (HZ.out.step b2)
  replace HLW := Lib.hid (Nat.le_trans HLW.out b2.size)
  have HST := Lib.hid st2
  have HHI := Lib.hid (hi2.lower HB1.out)
  clear b2 st2 hi2
  have hX := HOB.out
  have d0 := stZ0 hX
  have d1 := stZ1 hX
  have d2 := stZ2 hX
  have d3 := stZ3 hX
  have d4 := stZ4 hX
  have df := fun i => hX.frozen i
  obtain ⟨xa, ka, ba⟩ := box_five (L := 0) hX (by decide) (Nat.zero_le _) HB.out (show w.heap.size ≤ g2 by have := HIX.out; omega) (.slice y.d.ba S.1.1.length y.d.bc) (.slice y.d.wa S.1.2.length y.d.wc) (.slice y.a S.2.1.length y.c) (.int .u32 (S.2.2.1 : Int)) (.int .u32 (S.2.2.2 : Int))
  have yp := far5_bl HPB.out (show g3 ≠ g2 by have := HIX.out; omega) (.slice y.d.ba S.1.1.length y.d.bc) (.slice y.d.wa S.1.2.length y.d.wc) (.slice y.a S.2.1.length y.c) (.int .u32 (S.2.2.1 : Int)) (.int .u32 (S.2.2.2 : Int))
  have yw := far5_bl HWB.out (show g4 ≠ g2 by have := HIX.out; omega) (.slice y.d.ba S.1.1.length y.d.bc) (.slice y.d.wa S.1.2.length y.d.wc) (.slice y.a S.2.1.length y.c) (.int .u32 (S.2.2.1 : Int)) (.int .u32 (S.2.2.2 : Int))
  have ye := far5_bl HEB.out (show g5 ≠ g2 by have := HIX.out; omega) (.slice y.d.ba S.1.1.length y.d.bc) (.slice y.d.wa S.1.2.length y.d.wc) (.slice y.a S.2.1.length y.c) (.int .u32 (S.2.2.1 : Int)) (.int .u32 (S.2.2.2 : Int))
  obtain ⟨x1, dn⟩ : ∃ X, set5 w2 g2 (.slice y.d.ba S.1.1.length y.d.bc) (.slice y.d.wa S.1.2.length y.d.wc) (.slice y.a S.2.1.length y.c) (.int .u32 (S.2.2.1 : Int)) (.int .u32 (S.2.2.2 : Int)) = X := ⟨_, rfl⟩
  rw [dn] at xa ka ba yp yw ye
  simp only [set5] at dn
  have p0_ := ptZ0 yp
  have p1_ := ptZ1 yp
  have p2_ := ptZ2 yp
  have p3_ := ptZ3 yp
  have p4_ := ptZ4 yp
  have pf := fun i => yp.frozen i
  obtain ⟨xb, kb, bb⟩ := box_five (L := 0) yp (by decide) (Nat.zero_le _) ba (show w.heap.size ≤ g3 by have := HIX.out; omega) (.int .i64 0) (.int .u32 0) (.int .u32 0) (.int .u32 0) (.int .u32 0)
  have zo := far5_bl xa (show g2 ≠ g3 by have := HIX.out; omega) (.int .i64 0) (.int .u32 0) (.int .u32 0) (.int .u32 0) (.int .u32 0)
  have zw := far5_bl yw (show g4 ≠ g3 by have := HIX.out; omega) (.int .i64 0) (.int .u32 0) (.int .u32 0) (.int .u32 0) (.int .u32 0)
  have ze := far5_bl ye (show g5 ≠ g3 by have := HIX.out; omega) (.int .i64 0) (.int .u32 0) (.int .u32 0) (.int .u32 0) (.int .u32 0)
  obtain ⟨x2, pn⟩ : ∃ X, set5 x1 g3 (.int .i64 0) (.int .u32 0) (.int .u32 0) (.int .u32 0) (.int .u32 0) = X := ⟨_, rfl⟩
  rw [pn] at xb kb bb zo zw ze
  simp only [set5] at pn
  have r0 := zw.cell 0
  have rf := zw.frozen 0
  have vw := zw.set_ 0 (.slice none 0 0)
  have vo := zo.far (p := ⟨g4, 0, none⟩) (show g2 ≠ g4 by have := HIX.out; omega) (.slice none 0 0)
  have vp := xb.far (p := ⟨g4, 0, none⟩) (show g3 ≠ g4 by have := HIX.out; omega) (.slice none 0 0)
  have ve := ze.far (p := ⟨g4, 0, none⟩) (show g5 ≠ g4 by have := HIX.out; omega) (.slice none 0 0)
  have kw : Keeps 0 x2 (x2.setCell ⟨g4, 0, none⟩ (.slice none 0 0)) := Keeps.of_box (only_setCell (p := ⟨g4, 0, none⟩) (World.grownBy.refl x2 (some g4)) (.inl rfl) (.slice none 0 0)) zw (by decide) (Nat.zero_le _)
  have bw := bb.setCell (p := ⟨g4, 0, none⟩) (show w.heap.size ≤ g4 by have := HIX.out; omega) (.slice none 0 0)
  obtain ⟨x3, rn⟩ : ∃ X, x2.setCell ⟨g4, 0, none⟩ (.slice none 0 0) = X := ⟨_, rfl⟩
  rw [rn] at vw vo vp ve kw bw
  have s0 := ve.cell 0
  have sf := ve.frozen 0
  have ue := ve.set_ 0 (.int .i64 0)
  have uo := vo.far (p := ⟨g5, 0, none⟩) (show g2 ≠ g5 by have := HIX.out; omega) (.int .i64 0)
  have up := vp.far (p := ⟨g5, 0, none⟩) (show g3 ≠ g5 by have := HIX.out; omega) (.int .i64 0)
  have uw := vw.far (p := ⟨g5, 0, none⟩) (show g4 ≠ g5 by have := HIX.out; omega) (.int .i64 0)
  have ke : Keeps 0 x3 (x3.setCell ⟨g5, 0, none⟩ (.int .i64 0)) := Keeps.of_box (only_setCell (p := ⟨g5, 0, none⟩) (World.grownBy.refl x3 (some g5)) (.inl rfl) (.int .i64 0)) ve (by decide) (Nat.zero_le _)
  have be := bw.setCell (p := ⟨g5, 0, none⟩) (show w.heap.size ≤ g5 by have := HIX.out; omega) (.int .i64 0)
  obtain ⟨x4, sn⟩ : ∃ X, x3.setCell ⟨g5, 0, none⟩ (.int .i64 0) = X := ⟨_, rfl⟩
  rw [sn] at ue uo up uw ke be
  have HKX := Lib.hid (((ka.trans kb).trans kw).trans ke)
  have HBX := Lib.hid be
  have HUE := Lib.hid ue
  have HUO := Lib.hid uo
  have HUP := Lib.hid up
  have HUW := Lib.hid uw
  clear hX xa ka ba yp yw ye xb kb bb zo zw ze vw vo vp ve kw bw ue uo up uw ke be
  go_wp2_with fail
  clear d0 d1 d2 d3 d4 df dn p0_ p1_ p2_ p3_ p4_ pf pn r0 rf rn s0 sf sn
  have e0 := HUO.out.cell 0
  have e1 := HUO.out.cell 1
  have e2 := HUO.out.cell 2
  have e3 := HUO.out.cell 3
  have e4 := HUO.out.cell 4
  have i0 := HUP.out.cell 0
  have i1 := HUP.out.cell 1
  have i2 := HUP.out.cell 2
  have i3 := HUP.out.cell 3
  have i4 := HUP.out.cell 4
  have j0 := HUW.out.cell 0
  have k0 := HUE.out.cell 0
  refine bodyPost_ret (v := .tuple #[stV y S, .agg #[.int .i64 0, .int .u32 0, .int .u32 0, .int .u32 0, .int .u32 0], .slice none 0 0, .int .i64 0]) (by simp [results, Tryz.f6, go_sem, e0, e1, e2, e3, e4, i0, i1, i2, i3, i4, j0, k0]) rfl ?_
  exact ⟨y, _, rfl, HST.out.step HKX.out, HHI.out.keeps HKX.out, World.ownsRow_nil _ _ _ _, HBX.out⟩
end Go.Proofs.YtjdjbonljohnbaaGreatDoor
/-
  slices.Chunk of a slice of pointers by sixteens hands the loop its windows in their order, the last one of what is left; laws for regions that draw their order, in a loop over a function.
-/
namespace Go.Proofs.YtjdjbonljohnbaaGreatDoor
open Go Go.RowKit Go.Shelf
set_option maxRecDepth 100000
attribute [local go_sem] Oper.semAt_some

/-- l[k:k+m:k+m]. -/
theorem pslice_win (W : World) (b off n c k m : Nat) (hm : 0 < m) (hc : k + m ≤ c) : (Instr.slice 30 (.slice (some ⟨b, off, none⟩) n c) (some (.int .i64 (k : Int))) (some (.int .i64 ((k : Int) + (m : Int)))) (some (.int .i64 ((k : Int) + (m : Int))))).run Tryz.prog W = .ok (.slice (some ⟨b, off + k * 5, none⟩) m m) W := by
  rw [run_slice_lhm W 30 _ _ _ (by kernel_rfl) .i64 .i64 .i64 _ _ _ (by omega) (by omega) (by omega) (by omega), psize5]
  have e1 : ((k : Int) + (m : Int)).toNat = k + m := by omega
  have e2 : (k : Int).toNat = k := by omega
  simp [Result.andThen, sliced, e1, e2, Addr.add]
  rw [if_neg (by omega)]
  split
  · rename_i h; rw [h]; simp
  · rfl
/-- What the walk goes on reading: the box of the slice, and that of the size. -/
def ReachQ (Bs Bn : Nat) (b off n cap : Nat) (W : World) : Prop :=
  W.cell? ⟨Bs, 0, none⟩ = some (.slice (some ⟨b, off, none⟩) n cap) ∧ W.cell? ⟨Bn, 0, none⟩ = some (.int .i64 16)
theorem chunkQ_in (F : Fence) (n : Nat) (h : F.fn 20) (hro : F.round = none) (a : Option Addr) (len cap : Nat) (w : World) :
    CallsIn F n Tryz.prog 20 #[.slice a len cap, .int .i64 16] w fun e w' => e = .returned (.func (.func 40) #[] #[.pointer (some ⟨w.heap.size, 0, none⟩), .pointer (some ⟨w.heap.size + 1, 0, none⟩)]) ∧
      w' = (w.alloc (.cells #[.slice a len cap] 30)).alloc (.cells #[.int .i64 16] 3) := by
  refine callsIn_of_wp Tryz.func20 rfl h ?_ hro
  simp only [Tryz.ntmps20, List.size_toArray, List.length_cons, List.length_nil, Nat.reduceAdd, Nat.reduceSub, Array.replicate_succ, Array.replicate_zero, List.push_toArray, List.append_toArray, List.nil_append, List.cons_append]
  gi_wp2
  go_ret
  exact ⟨rfl, rfl⟩
/-- How many pointers window x has. -/
def winM (n x : Nat) : Nat := min 16 (n - 16 * x)
/-- The window of number x. -/
@[reducible] def winQ (b off n : Nat) (x : Nat) : Array Value := #[.slice (some ⟨b, off + 16 * x * 5, none⟩) (winM n x) (winM n x)]

set_option maxHeartbeats 2000000 in
theorem chunkQb_in (m : Nat) (hm : 1 ≤ m) (l Bs Bn b off n cap : Nat) (hnc : n ≤ cap) (hcm : n ≤ 100000000) (J Jx : List (Fin (rowsN n)) → World → Prop)
    (hY : ∀ pre x W, J pre W → pre.length < rowsN n → YieldAt Fence.wide (m - 1) Tryz.prog l (winQ b off n x.val) W fun e W' =>
      (e = .returned (.bool true) ∧ J (pre ++ [x]) W' ∧ (ReachQ Bs Bn b off n cap W → ReachQ Bs Bn b off n cap W')) ∨ (e = .returned (.bool false) ∧ Jx (pre ++ [x]) W'))
    (hJd : ∀ pre W, J pre W → J pre W.drew)
    (W : World) (hR : ReachQ Bs Bn b off n cap W) (h0 : J [] W) :
    CallsIn Fence.wide m Tryz.prog 40 #[.func (.yield l) #[] #[], .pointer (some ⟨Bs, 0, none⟩), .pointer (some ⟨Bn, 0, none⟩)] W fun e W' => (∃ v, e = .returned v) ∧
      ((∃ ys, ys.map (·.val) = List.range (rowsN n) ∧ J ys W') ∨ (∃ pre, pre.map (·.val) = List.range pre.length ∧ Jx pre W')) := by
  refine callsIn_of_wp Tryz.func40 rfl trivial ?_ rfl
  simp only [Tryz.ntmps40, List.size_toArray, List.length_cons, List.length_nil, Nat.reduceAdd, Nat.reduceSub, Array.replicate_succ, Array.replicate_zero, List.push_toArray, List.append_toArray, List.nil_append, List.cons_append]
  have hmx : Tryz.prog.follows Departure.mixedOrders = true := by kernel_rfl
  obtain ⟨q, hq⟩ : ∃ q, rowsN n = q := ⟨_, rfl⟩
  have hqn : q = (n + 15) / 16 := hq.symm
  have HQ := Lib.hid hqn
  revert J Jx
  rw [hq]
  clear hq hqn
  intro J Jx hY hJd h0
  have HR := Lib.hid hR
  clear hR
  gi_wp2
  gi_loopw [4] (fun i wr => ∃ pre : List (Fin q), pre.map (·.val) = List.range pre.length ∧ pre.length ≤ q ∧ i = .int .i64 ((16 * pre.length : Nat) : Int) ∧ J pre wr ∧ ReachQ Bs Bn b off n cap wr)
    (fun i _ => 16 * q - (intOf i).toNat)
  case atStart => exact ⟨[], rfl, Nat.zero_le _, rfl, h0, HR.out⟩
  case round =>
    obtain ⟨pre, hC, hle, rfl, hJs, hRs⟩ := hrel
    obtain ⟨k, hk⟩ : ∃ k, pre.length = k := ⟨_, rfl⟩
    have hb1 := hRs.1
    have hb2 := hRs.2
    obtain ⟨v, hv⟩ : ∃ v : Nat, 16 * k = v := ⟨_, rfl⟩
    rw [hk, hv]
    by_cases hlt : k < q
    · have hmL : v < n := by have := HQ.out; omega
      obtain ⟨u, hu⟩ : ∃ u, winM n k = u := ⟨_, rfl⟩
      have hu0 : 0 < u := by rw [← hu]; unfold winM; omega
      have hu1 : v + u ≤ n := by rw [← hu]; unfold winM; omega
      have hu16 : u ≤ 16 := by rw [← hu]; unfold winM; omega
      have hmin : min (16 : Int) ((n - v : Nat) : Int) = (u : Int) := by rw [← hu]; unfold winM; omega
      obtain ⟨A', hs1, _⟩ := pslice_from b off n cap v (by omega) hnc
      have hsw := fun W => pslice_win W b off n cap v u hu0 (by omega)
      have HRs := Lib.hid hRs; clear hRs
      have HV := Lib.hid hv; clear hv
      have HK := Lib.hid hk; clear hk
      have HU := Lib.hid hu; clear hu
      have h8 : ((v : Int) < (n : Int)) := by omega
      have h80 : (0 : Int) ≤ (v : Int) := by omega
      have h81 : (0 : Int) ≤ (u : Int) := by omega
      have h8m : (n : Int) ≤ 100000000 := by omega
      have h8u : (v : Int) + (u : Int) ≤ 100000000 := by omega
      have h8w : (v : Int) + 16 ≤ 9223372036854775807 := by omega
      gi_wp2
      refine region_wide_tail 6 hmx (by kernel_rfl) (fun h => by obtain ⟨_, _, ⟨v, hv⟩, _⟩ := h; cases hv) (by kernel_rfl) ?_
      simp only [List.take_succ_cons, List.take_zero, List.drop_succ_cons, List.drop_zero]
      repeat still_step
      refine wpStill_nil ?_
      obtain ⟨fn, tmps, assign, body, hy, hR⟩ := hY pre ⟨k, hlt⟩ wr.drew (hJd _ _ hJs) (by rw [HK.out]; exact hlt)
      have hw : winQ b off n k = #[.slice (some ⟨b, off + v * 5, none⟩) u u] := by rw [winQ, HV.out, HU.out]
      dsimp only at hy
      rw [hw] at hy
      clear hw
      have HC := Lib.hid hC; clear hC
      go_wp2
      gi_wp2
      refine hR.mono ?_
      rintro e W3 (⟨rfl, hJ3, hk3⟩ | ⟨rfl, hJx3⟩)
      · have hr3 := hk3 HRs.out
        have hb3 := hr3.2
        have HR3 := Lib.hid hr3; clear hr3 hk3
        gi_wp2
        go_roundw
        case rel => exact ⟨pre ++ [⟨k, hlt⟩], by simp [HC.out, List.range_succ, HK.out], by simp; rw [HK.out]; omega, by simp [HK.out]; have := HV.out; omega, hJ3, HR3.out⟩
        case measure => simp [intOf]; have := HV.out; omega
      · gi_wp2
        refine bodyPost_ret (results_none rfl _ _ _) rfl ?_
        exact ⟨⟨_, rfl⟩, .inr ⟨_, by simp [HC.out, List.range_succ, HK.out], hJx3⟩⟩
    · have hkq : k = q := by omega
      have hnl : ¬ (v : Int) < (n : Int) := by have := HQ.out; omega
      have HRs := Lib.hid hRs; clear hRs
      have HV := Lib.hid hv; clear hv
      have HK := Lib.hid hk; clear hk
      have HKQ := Lib.hid hkq; clear hkq
      have HC := Lib.hid hC; clear hC
      gi_wp2
      go_end0
      exact ⟨⟨_, rfl⟩, .inl ⟨pre, by rw [HC.out, HK.out, HKQ.out], hJs⟩⟩
theorem reachQ_putObj {Bs Bn b off n cap : Nat} {W : World} (l : Nat) (o o' : Obj) (h : W.heap[l]? = some o) (ho : o.isCells = false) (hR : ReachQ Bs Bn b off n cap W) : ReachQ Bs Bn b off n cap (W.putObj l o') := by
  have hk : ∀ r, some l = some r → ∃ o : Obj, W.heap[r]? = some o ∧ o.isCells = false := fun r e => by cases e; exact ⟨_, h, ho⟩
  exact ⟨cell_kept hR.1 (grownBy_putObj' W l o') hk, cell_kept hR.2 (grownBy_putObj' W l o') hk⟩
theorem stopsQ (m : Nat) (hm : 1 ≤ m) (Bs Bn b off n cap : Nat) (hnc : n ≤ cap) (hcm : n ≤ 100000000) (w : World) (hBs : Bs < w.heap.size) (hBn : Bn < w.heap.size) (hR : ReachQ Bs Bn b off n cap w) :
    SeqStopsK Fence.wide m Tryz.prog 40 #[.pointer (some ⟨Bs, 0, none⟩), .pointer (some ⟨Bn, 0, none⟩)] (fun x : Fin (rowsN n) => winQ b off n x.val) (fun W W' => ReachQ Bs Bn b off n cap W → ReachQ Bs Bn b off n cap W')
      (fun ys => ys.map (·.val) = List.range (rowsN n)) (fun pre => pre.map (·.val) = List.range pre.length) (rowsN n) w := fun l J Jx W hW hJ _ hY h0 =>
  chunkQb_in m hm l Bs Bn b off n cap hnc hcm J Jx hY (fun s W1 h => hJ s W1 W1.drew none h (only_drew (World.grownBy.refl W1 none)) (fun r e => by cases e)) W
    ⟨(hW.cell (p := ⟨Bs, 0, none⟩) hBs).trans hR.1, (hW.cell (p := ⟨Bn, 0, none⟩) hBn).trans hR.2⟩ h0
end Go.Proofs.YtjdjbonljohnbaaGreatDoor
/-
  dead's own Lay: rows laid one by one, as a plain function; the call of the closure.
-/
namespace Go.Proofs.YtjdjbonljohnbaaGreatDoor
open Go Go.RowKit Go.Shelf
set_option maxRecDepth 100000

/-- One row more laid, or nothing where one was refused. -/
def stepR (b : Nat) (o : Option (StL × List Pt)) (R : List Pt) : Option (StL × List Pt) :=
  match o with
  | none => none
  | some X => match putS X.1 b 0 0 (rowTo R R.length) with
    | none => none
    | some Y => some (Y.1, X.2 ++ [Y.2])
def laidL (S : StL) (b : Nat) (l : List Pt) (is : List Nat) : Option (StL × List Pt) := is.foldl (fun o i => stepR b o (rowD l i)) (some (S, []))
theorem laidL_snoc (S : StL) (b : Nat) (l : List Pt) (is : List Nat) (i : Nat) : laidL S b l (is ++ [i]) = stepR b (laidL S b l is) (rowD l i) := by unfold laidL; rw [List.foldl_append]; rfl
theorem laidL_range (S : StL) (b : Nat) (l : List Pt) : ∀ i, laidL S b l (List.range i) = laidTo S b l i
  | 0 => rfl
  | i + 1 => by rw [List.range_succ, laidL_snoc, laidL_range S b l i]; rfl
theorem blksD_len (ps : List Pt) : (blksD ps).length = ps.length := by simp [blksD]
/-- What the boxes hold while all goes well. -/
structure LyOk (L B : Nat) (W : World) (y : SAt) (T : StL) (u : Value) (ps : List Pt) : Prop where
  may : MayS T
  st : StP L W y T
  own : W.ownsRow B 3 1 u ps.length (valsN (blksD ps))
  one : ∀ q ∈ ps, MayP q
def LySt (L B b g1 g2 g4 g5 : Nat) (o : Option (StL × List Pt)) (W : World) : Prop :=
  Blk W g1 27 #[.int .u32 (b : Int)] ∧ ∃ y T u z, Blk W g2 29 (stC y T) ∧ Blk W g4 35 #[u] ∧ Blk W g5 36 #[.int .i64 z] ∧
    ((o = none ∧ z = 9) ∨ ∃ ps, o = some (T, ps) ∧ z = 0 ∧ LyOk L B W y T u ps)
theorem ly_own {w w' : World} {L B n : Nat} {u : Value} {xs : List Value} (h : w.ownsRow B 3 1 u n xs) (k : Keeps L w w') : w'.ownsRow B 3 1 u n xs := by
  obtain ⟨h1, h2 | ⟨g, cap, cur, rfl, h3, h4, h5⟩⟩ := h
  · exact ⟨h1, .inl h2⟩
  · exact ⟨h1, .inr ⟨g, cap, cur, rfl, h3, k.row _ _ _ h4 (by decide), h5⟩⟩
theorem LySt.grown {L B b g1 g2 g4 g5 : Nat} {o : Option (StL × List Pt)} {W W' : World} {row : Option Nat} (h : LySt L B b g1 g2 g4 g5 o W) (hg : W.grownBy W' row) (k : Keeps L W W') (hn : ∀ r, row = some r → r ≠ g1 ∧ r ≠ g2 ∧ r ≠ g4 ∧ r ≠ g5) : LySt L B b g1 g2 g4 g5 o W' := by
  obtain ⟨h1, y, T, u, z, h2, h4, h5, hc⟩ := h
  refine ⟨h1.grown hg (fun e => (hn _ e.symm).1 rfl), y, T, u, z, h2.grown hg (fun e => (hn _ e.symm).2.1 rfl), h4.grown hg (fun e => (hn _ e.symm).2.2.1 rfl), h5.grown hg (fun e => (hn _ e.symm).2.2.2 rfl), ?_⟩
  rcases hc with hc | ⟨ps, rfl, rfl, ok⟩
  · exact .inl hc
  · exact .inr ⟨ps, rfl, rfl, ok.may, ok.st.step k, ly_own ok.own k, ok.one⟩
theorem keeps_walk {L B : Nat} {W W' : World} {row : Option Nat} (hg : W.grownBy W' row) (hL : L ≤ B) (hk : ∀ r, row = some r → B ≤ r ∧ ∃ o : Obj, W.heap[r]? = some o ∧ o.isCells = false) : Keeps L W W' :=
  ⟨hg.os, hg.tape, hg.output, hg.size, fun b hb hl => hg.block b hb (fun e => by have := (hk b e.symm).1; omega), fun b t cs hb _ => blk_kept hb hg (fun r e => (hk r e).2)⟩
theorem prow_kept {W W' : World} {B : Nat} {v : Value} {l : List Pt} {row : Option Nat} (h : PRow W B v l) (hg : W.grownBy W' row) (hk : ∀ r, row = some r → ∃ o : Obj, W.heap[r]? = some o ∧ o.isCells = false) : PRow W' B v l := by
  obtain ⟨⟨h1, h2 | ⟨g, cap, cur, rfl, h3, h4, h5⟩⟩, hw⟩ := h
  · exact ⟨⟨h1, .inl h2⟩, hw⟩
  · exact ⟨⟨h1, .inr ⟨g, cap, cur, rfl, h3, blk_kept h4 hg hk, h5⟩⟩, hw⟩
theorem Fz.imp {N : Nat} {X Y : Nat → Prop} {w w' : World} (h : Fz N X w w') (hi : ∀ k, X k → Y k) : Fz N Y w w' := ⟨h.os, h.tape, h.output, h.size, fun k hk hy => h.same k hk fun hx => hy (hi k hx)⟩
/-- What a call of the closure leaves. -/
def LyOut (B b g1 g2 g4 g5 : Nat) (o : Option (StL × List Pt)) (R : List Pt) (W : World) (e : Ending) (W' : World) : Prop :=
  ∃ q y T u z, e = .returned (ptV q) ∧ WfP q ∧ Blk W' g1 27 #[.int .u32 (b : Int)] ∧ Blk W' g2 29 (stC y T) ∧ Blk W' g4 35 #[u] ∧ Blk W' g5 36 #[.int .i64 z] ∧
    Fz W.heap.size (fun k => k = g2 ∨ k = g4 ∨ k = g5 ∨ (B ≤ k ∧ ∃ cs, Blk W k 3 cs)) W W' ∧
    ((stepR b o R = none ∧ z = 9) ∨ ∃ S ps, o = some (S, ps) ∧ stepR b o R = some (T, ps ++ [q]) ∧ z = 0 ∧ MayS T ∧ StP 0 W' y T ∧ HiS W' W.heap.size y T ∧ W'.ownsRow B 3 1 u (ps ++ [q]).length (valsN (blksD (ps ++ [q]))) ∧ ∀ p ∈ ps ++ [q], MayP p)
theorem lyCall (L B b g1 g2 g4 g5 : Nat) (o : Option (StL × List Pt)) (a : Option Addr) (n c : Nat) (R : List Pt) (W : World) (h : LySt L B b g1 g2 g4 g5 o W) (hb : 1 ≤ b ∧ b ≤ 16777215)
    (hr : ∀ X, o = some X → X.2.length ≤ 1000 ∧ Pts W W.heap.size a n c R ∧ n ≤ 16 ∧ ∀ q ∈ R, MayP q) (hz : Szs W) (hL : L ≤ g5 ∧ L ≤ g2 ∧ L ≤ g4 ∧ L ≤ B) (hB : B ≤ W.heap.size) :
    Calls Tryz.prog 17 #[.slice a n c, .pointer (some ⟨g5, 0, none⟩), .pointer (some ⟨g2, 0, none⟩), .pointer (some ⟨g1, 0, none⟩), .pointer (some ⟨g4, 0, none⟩)] W (LyOut B b g1 g2 g4 g5 o R W) := by
  obtain ⟨h1, y, T, u, z, h2, h4, h5, hc⟩ := h
  rcases hc with ⟨rfl, rfl⟩ | ⟨ps, rfl, rfl, ok⟩
  · refine (ddLay1_no a n c g5 g2 g1 g4 9 (by decide) W h5).mono ?_
    rintro e W' ⟨rfl, bb⟩
    exact ⟨p0, y, T, u, 9, rfl, wf_p0, h1.below bb h1.lt, h2.below bb h2.lt, h4.below bb h4.lt, h5.below bb h5.lt, Fz.of_below bb (Nat.le_refl _), .inl ⟨rfl, rfl⟩⟩
  · obtain ⟨hps, hr, hn, hR⟩ := hr _ rfl
    have hs : (rowTo R R.length).length = 256 := rowTo_length R _ (Nat.le_refl _) (by rw [hr.1]; exact hn)
    have hfx : ∀ k, (k = g5 ∨ k = g2 ∨ k = g4 ∨ u.ownBlock = some k) → (k = g2 ∨ k = g4 ∨ k = g5 ∨ (B ≤ k ∧ ∃ cs, Blk W k 3 cs)) := fun k hk => by
      rcases hk with rfl | rfl | rfl | hk
      · exact .inr (.inr (.inl rfl))
      · exact .inl rfl
      · exact .inr (.inl rfl)
      · obtain ⟨_, ⟨rfl, _⟩ | ⟨g, cap, cur, rfl, q3, q4, _⟩⟩ := ok.own
        · simp [Value.ownBlock] at hk
        · have : g = k := by simpa [Value.ownBlock] using hk
          subst this
          exact .inr (.inr (.inr ⟨q3, _, q4⟩))
    have hu : W.ownsRow B 3 1 u (blksD ps).length (valsN (blksD ps)) := by rw [blksD_len]; exact ok.own
    have hk := ddLay1_ok L B y T b u (blksD ps) a n c R g5 g2 g1 g4 W h5 h2 h1 h4 ok.st ok.may (by omega) hu (by rw [blksD_len]; exact hps) hr hn hR hz ⟨hL.1, hL.2.1, hL.2.2.1, hL.2.2.2⟩ hB
    have hN1 : ∀ {W' : World}, Fz W.heap.size (fun k => k = g5 ∨ k = g2 ∨ k = g4 ∨ u.ownBlock = some k) W W' → Blk W' g1 27 #[.int .u32 (b : Int)] := fun fz => fz.blk h1 h1.lt (fun hx => by
      rcases hx with hx | hx | hx | hx
      · exact blk_ne h1 h5 (by decide) hx
      · exact blk_ne h1 h2 (by decide) hx
      · exact blk_ne h1 h4 (by decide) hx
      · exact own_ty ok.own h1 (by decide) g1 hx rfl)
    cases hp : putS T b 0 0 (rowTo R R.length) with
    | none =>
      have ho : rawO T b 0 0 (rowTo R R.length) = (st0, p0, 9) := by unfold rawO; rw [if_pos ok.may, if_pos hb, if_pos hs, hp]; rfl
      rw [ho] at hk
      refine (hk (by decide)).mono ?_
      rintro e W' ⟨y', u', rfl, e5, e2, e4, _, _, _, fz⟩
      exact ⟨p0, y', st0, u', 9, rfl, wf_p0, hN1 fz, e2, e4, e5, fz.imp hfx, .inl ⟨by unfold stepR; simp only [hp], rfl⟩⟩
    | some Y =>
      obtain ⟨U, q⟩ := Y
      have ho : rawO T b 0 0 (rowTo R R.length) = (U, q, 0) := by unfold rawO; rw [if_pos ok.may, if_pos hb, if_pos hs, hp]; rfl
      obtain ⟨hmu, hone, _, _, ⟨kk, hkk, _⟩, _⟩ := (LaidR.start (b := b) (l := []) ok.may).put hb hs hp
      rw [ho] at hk
      refine (hk (by show (0 : Int) ≤ q.1; omega)).mono ?_
      rintro e W' ⟨y', u', rfl, e5, e2, e4, st, hi, ow, fz⟩
      refine ⟨q, y', U, u', 0, rfl, hone.2.1, hN1 fz, e2, e4, e5, fz.imp hfx, .inr ⟨T, ps, rfl, by unfold stepR; simp only [hp], rfl, hmu, st, hi, ?_, fun p hp' => ?_⟩⟩
      · have e1 : blksD (ps ++ [q]) = blksD ps ++ [q.1.toNat] := by simp [blksD]
        rw [e1, List.length_append]
        rw [blksD_len] at ow
        exact ow
      · rcases List.mem_append.1 hp' with hp' | hp'
        · exact ok.one p hp'
        · rw [List.mem_singleton.1 hp']; exact hone.1.1
end Go.Proofs.YtjdjbonljohnbaaGreatDoor
/-
  A region that draws its order, walked in one order of one's own, where some operations (F) ask nothing of the world: such may stand beside one that writes.
-/
namespace Go.Proofs.YtjdjbonljohnbaaGreatDoor
open Go Go.RowKit
set_option maxRecDepth 100000

section
variable {P : Program} {ops : Array Oper} {Q : Exit → Act → World → Prop} {md : Region.Mode} {F : Nat → Bool}

/-- Each other operation comes ahead of that of number i, or behind it, or asks nothing of the world. -/
def lastF (F : Nat → Bool) (md : Region.Mode) (ops : Array Oper) (i : Nat) : Bool := (List.range ops.size).all fun k => k == i || F k || waitsB md ops ops.size i k || waitsB md ops ops.size k i
theorem lastF_not {L : Array Bool} {i j : Nat} (hF : F i = false) (hc : Closed md ops L) (hi : i ∈ Region.ready md ops L) (hj : j ∈ Region.ready md ops L) (hne : j ≠ i) : lastF F md ops j ≠ true := by
  intro h
  unfold lastF at h
  simp only [List.all_eq_true, List.mem_range] at h
  obtain ⟨_, oi, hoi, di⟩ := mem_ready.1 hi
  obtain ⟨_, oj, hoj, dj⟩ := mem_ready.1 hj
  have h1 := h i (Array.getElem?_eq_some_iff.1 hoi).1
  simp only [Bool.or_eq_true, beq_iff_eq, Ne.symm hne, hF, Bool.false_eq_true, false_or] at h1
  rcases h1 with h1 | h1
  · exact unready hi (waits_listed hc _ j h1 fun o ho e he hb => by rw [hoj] at ho; cases ho; exact dj e he hb)
  · exact unready hj (waits_listed hc _ i h1 fun o ho e he hb => by rw [hoi] at ho; cases ho; exact di e he hb)
end
end Go.Proofs.YtjdjbonljohnbaaGreatDoor
/-
  A region that draws its order, walked in one order of one's own, in worlds that keep a word of one's own, but behind operations that stand alone in the order, which may break it.
-/
namespace Go.Proofs.YtjdjbonljohnbaaGreatDoor
open Go Go.RowKit
set_option maxRecDepth 100000

section
variable {P : Program} {ops : Array Oper} {Q : Exit → Act → World → Prop} {md : Region.Mode} {S : World → Prop}
def wpMJ (P : Program) (md : Region.Mode) (S : World → Prop) (ops : Array Oper) (Q : Exit → Act → World → Prop) : Nat → Array Bool → Act → World → Prop
  | 0, listed, a, w => Region.ready md ops listed = [] ∧ Q .normal a w
  | fuel + 1, listed, a, w =>
    (Region.ready md ops listed = [] → Q .normal a w) ∧
    ∀ i ∈ Region.ready md ops listed, wpOp P ops Q i (fun a' w' => (lastF (fun _ => false) md ops i = true ∨ S w') ∧ wpMJ P md S ops Q fuel (listed.setIfInBounds i true) a' w') a w
theorem wpAny_of_mj : ∀ (fuel : Nat) (listed : Array Bool) (a : Act) (w : World), wpMJ P md S ops Q fuel listed a w → wpAny P md ops Q fuel listed a w
  | 0, _, _, _, h => h
  | fuel + 1, _, _, _, h => ⟨h.1, fun i hi => wpOp_mono (fun a' w' h' => wpAny_of_mj fuel _ a' w' h'.2) (h.2 i hi)⟩
theorem wpMJ_first {i : Nat} {oi : Oper} {v : Value} (hi : ops[i]? = some oi) (hsel : ∀ (j : Nat) (o : Oper) cs b, ops[j]? = some o → o.op ≠ .select cs b)
    (hQ : ∀ c a w, Q (.panic c) (a.put oi.dst v) w → Q (.panic c) a w) :
    ∀ (fuel : Nat) (listed : Array Bool) (a : Act) (w : World), S w →
      (∀ j oj, ops[j]? = some oj → j ≠ i → listed.getD j true = false → (∀ e ∈ oj.after, Region.binds md e = true → e.on ≠ i) → oi.apart ops oj = true) →
      Closed md ops listed → i ∈ Region.ready md ops listed → YieldsIf P ops S oi v a →
      wpMJ P md S ops Q fuel (listed.setIfInBounds i true) (a.put oi.dst v) w → wpMJ P md S ops Q (fuel + 1) listed a w := by
  intro fuel
  induction fuel with
  | zero =>
    intro listed a w hS _ hcl hr hy H
    refine ⟨fun h => (by rw [h] at hr; cases hr), fun j hj => ?_⟩
    by_cases hji : j = i
    · subst hji; exact hy.wpOp hi hS ⟨.inr hS, H⟩
    · have := ready_mono hj hji
      rw [H.1] at this
      cases this
  | succ fuel ih =>
    intro listed a w hS hfree hcl hr hy H
    refine ⟨fun h => (by rw [h] at hr; cases hr), fun j hj => ?_⟩
    by_cases hji : j = i
    · subst hji; exact hy.wpOp hi hS ⟨.inr hS, H⟩
    · have g1 := H.2 j (ready_mono hj hji)
      obtain ⟨hjun, oj, hoj, hall⟩ := mem_ready.1 hj
      have hnot : ∀ e ∈ oj.after, Region.binds md e = true → e.on ≠ i := by
        intro e he hb heq
        have t1 := hall e he hb
        have t0 := (mem_ready.1 hr).1
        rw [heq] at t1
        rcases Nat.lt_or_ge i listed.size with h' | h'
        · simp [h'] at t0 t1; rw [t0] at t1; cases t1
        · simp [Array.getElem?_eq_none h'] at t1
      have g2 := wpOp_putIf hoj (hfree j oj hoj hji hjun hnot) (fun cs b => hsel i oi cs b hi) (fun cs b => hsel j oj cs b hoj) hQ hy g1
      have hnl := lastF_not (F := fun _ => false) rfl hcl hr hj hji
      refine wpOp_mono (fun a' w' g3 => ⟨.inr (g3.2.1.resolve_left hnl), ih (listed.setIfInBounds j true) a' w' (g3.2.1.resolve_left hnl) ?_ (closed_set hcl hj) (ready_mono hr (Ne.symm hji)) g3.1 ?_⟩) g2
      · intro k ok hk hki hun hno
        refine hfree k ok hk hki ?_ hno
        by_cases hjk : j = k
        · subst hjk; exact hjun
        · rw [getD_set_ne true hjk] at hun; exact hun
      · rw [Array.setIfInBounds_comm _ _ hji]
        exact g3.2.2
/-- In the order σ. -/
def wpJ (P : Program) (md : Region.Mode) (S : World → Prop) (ops : List Oper) (Q : Exit → Act → World → Prop) (σ : List Nat) (listed : Array Bool) (a : Act) (w : World) : Prop := wpMJ P md S ops.toArray Q σ.length listed a w
theorem wpJ_round {l m : Nat} {ops : List Oper} {id : Nat} {a : Act} {w w1 : World} (S : World → Prop) (σ : List Nat) (hm : P.follows .mixedOrders = true) (hnd : noDefer ops = true) (hlo : ¬ LetsOut Q) (hl : σ.length = ops.length) (hw : w.drew = w1)
    (h : wpJ P .any S ops Q σ (Array.replicate ops.length false) a w1) : (Code.region id ops.toArray true).wpIn (Fence.wide.inRound l) m P Q a w := by
  subst hw
  refine region_round hm hnd hlo (wpAny_of_mj (S := S) _ _ _ _ ?_)
  unfold wpJ at h
  rw [hl] at h
  simpa using h
theorem wpJ_wide {m : Nat} {ops : List Oper} {id : Nat} {a : Act} {w w1 : World} (S : World → Prop) (σ : List Nat) (hm : P.follows .mixedOrders = true) (hnd : noDefer ops = true) (hlo : ¬ LetsOut Q) (hl : σ.length = ops.length) (hw : w.drew = w1)
    (h : wpJ P .any S ops Q σ (Array.replicate ops.length false) a w1) : (Code.region id ops.toArray true).wpIn Fence.wide m P Q a w := by
  subst hw
  refine region_wide hm hnd hlo (wpAny_of_mj (S := S) _ _ _ _ ?_)
  unfold wpJ at h
  rw [hl] at h
  simpa using h
theorem wpJ_read {l : List Oper} {i : Nat} {σ : List Nat} {oi : Oper} {v : Value} {listed : Array Bool} {a : Act} {w : World} (hS : S w) (hi : nthOp l i = some oi)
    (hs : Region.noSelect l.toArray = true) (hf : Region.free md l.toArray listed i = true) (hr : (Region.ready md l.toArray listed).contains i = true)
    (hQ : ∀ c a w, Q (.panic c) (a.put oi.dst v) w → Q (.panic c) a w) (hy : YieldsIf P l.toArray S oi v a)
    (h : wpJ P md S l Q σ (listed.setIfInBounds i true) (a.put oi.dst v) w) (hcl : closedB md l.toArray listed = true := by kernel_rfl) : wpJ P md S l Q (i :: σ) listed a w :=
  wpMJ_first (by rw [← nthOp_eq]; exact hi) (Region.noSelect_spec hs) hQ σ.length listed a w hS (Region.free_spec (by rw [← nthOp_eq]; exact hi) hf) (closedB_spec hcl) (by simpa using hr) hy h
theorem wpJ_lone {l : List Oper} {i : Nat} {σ : List Nat} {o : Oper} {listed : Array Bool} {a : Act} {w : World} (hi : nthOp l i = some o) (hr : Region.ready md l.toArray listed = [i])
    (h : ∀ K : Act → World → Prop, (∀ a' w', S w' → wpJ P md S l Q σ (listed.setIfInBounds i true) a' w' → K a' w') → if Region.wanted o (yielded l.toArray a.tmps) then o.wp P a w K Q else K (a.put o.dst undef) w) :
    wpJ P md S l Q (i :: σ) listed a w := by
  refine ⟨fun h0 => (by rw [hr] at h0; cases h0), fun j hj => ?_⟩
  rw [hr, List.mem_singleton] at hj
  subst hj
  exact wpOp_of hi (h (fun a' w' => (lastF (fun _ => false) md l.toArray j = true ∨ S w') ∧ wpMJ P md S l.toArray Q σ.length (listed.setIfInBounds j true) a' w') (fun a' w' hS hs => ⟨.inr hS, hs⟩))
/-- An operation that has its own place in the order. -/
theorem wpJ_last {l : List Oper} {i : Nat} {σ : List Nat} {o : Oper} {listed : Array Bool} {a : Act} {w : World} (hi : nthOp l i = some o) (hr : Region.ready md l.toArray listed = [i]) (hl : lastF (fun _ => false) md l.toArray i = true)
    (h : ∀ K : Act → World → Prop, (∀ a' w', wpJ P md S l Q σ (listed.setIfInBounds i true) a' w' → K a' w') → if Region.wanted o (yielded l.toArray a.tmps) then o.wp P a w K Q else K (a.put o.dst undef) w) :
    wpJ P md S l Q (i :: σ) listed a w := by
  refine ⟨fun h0 => (by rw [hr] at h0; cases h0), fun j hj => ?_⟩
  rw [hr, List.mem_singleton] at hj
  subst hj
  exact wpOp_of hi (h (fun a' w' => (lastF (fun _ => false) md l.toArray j = true ∨ S w') ∧ wpMJ P md S l.toArray Q σ.length (listed.setIfInBounds j true) a' w') (fun a' w' hs => ⟨.inl hl, hs⟩))
theorem wpJ_done {l : List Oper} {listed : Array Bool} {a : Act} {w : World} (hr : Region.ready md l.toArray listed = []) (h : Q .normal a w) : wpJ P md S l Q [] listed a w := ⟨hr, h⟩
end
end Go.Proofs.YtjdjbonljohnbaaGreatDoor
/-
  dead's own Lay: rows laid one behind the other, and the row of their pointers.
-/
namespace Go.Proofs.YtjdjbonljohnbaaGreatDoor
open Go Go.RowKit Go.Shelf
set_option maxRecDepth 100000

theorem run_store_func {P : Program} (w : World) (a : Addr) (m : Mode) (f : Fn) (x y : Array Value) : (store a (.func f x y) m).run P w = stored P w a (.func f x y) m := run_store P w a _ m rfl
attribute [local go_sem] run_store_func Oper.semAt_some
/-- What stands before each round. -/
structure LyI (S : StL) (b : Nat) (l : List Pt) (L g g1 g2 g3 g4 g5 gy gr B : Nat) (w : World) (is : List Nat) (W : World) : Prop where
  st : LySt L B b g1 g2 g4 g5 (laidL S b l is) W
  pb : Blk W g3 32 ptZ
  fy : Blk W gy 56 #[.func (.func 17) #[] #[.pointer (some ⟨g5, 0, none⟩), .pointer (some ⟨g2, 0, none⟩), .pointer (some ⟨g1, 0, none⟩), .pointer (some ⟨g4, 0, none⟩)]]
  bel : Below g w W
  big : B ≤ W.heap.size
  rows : ∃ v ps, Blk W gr 30 #[v] ∧ PRow W B v ps ∧ ps.length = is.length ∧ ∀ X, laidL S b l is = some X → X.2 = ps
theorem lyI_own (n : Nat) {S : StL} {b : Nat} {l : List Pt} {L g g1 g2 g3 g4 g5 gy gr B : Nat} {w : World} (hL : L ≤ B) (hg : g ≤ B) (h5 : g1 < B ∧ g2 < B ∧ g4 < B ∧ g5 < B) :
    OwnFrom B (fun (pre : List (Fin n)) W => LyI S b l L g g1 g2 g3 g4 g5 gy gr B w (pre.map (·.val)) W) := by
  intro pre W W' row h hgr hk
  have hk' : ∀ r, row = some r → ∃ o : Obj, W.heap[r]? = some o ∧ o.isCells = false := fun r e => (hk r e).2
  obtain ⟨v, ps, hb, hp, hl, hx⟩ := h.rows
  refine ⟨h.st.grown hgr (keeps_walk hgr hL hk) (fun r e => by have := (hk r e).1; omega), blk_kept h.pb hgr hk', blk_kept h.fy hgr hk', ⟨hgr.os.trans h.bel.os, hgr.tape.trans h.bel.tape, hgr.output.trans h.bel.output, Nat.le_trans h.bel.size hgr.size, fun k hk2 => ?_⟩, Nat.le_trans h.big hgr.size, v, ps, blk_kept hb hgr hk', prow_kept hp hgr hk', hl, hx⟩
  exact (hgr.block k (by have := h.big; omega) (fun e => by have := (hk k e.symm).1; omega)).trans (h.bel.block k hk2)
theorem fz_kept {X : Nat → Prop} {W W' : World} (h : Fz W.heap.size X W W') (hx : ∀ k, X k → ∃ t cs, Blk W k t cs) : KeepsOthers W W' :=
  ⟨h.size, fun k o hk ho => (h.same k (Array.getElem?_eq_some_iff.1 hk).1 fun hxk => by
    obtain ⟨t, cs, hb⟩ := hx k hxk
    rw [show W.heap[k]? = _ from hb] at hk
    cases hk
    cases ho).trans hk⟩
theorem rowD_win (l : List Pt) (n j : Nat) (hl : l.length = n) : (l.drop (16 * j)).take (winM n j) = rowD l j := by
  unfold rowD winM
  have : (l.drop (16 * j)).length = n - 16 * j := by rw [List.length_drop, hl]
  rcases Nat.le_total 16 (n - 16 * j) with h | h
  · rw [Nat.min_eq_left h]
  · rw [Nat.min_eq_right h, List.take_of_length_le (by omega), List.take_of_length_le (by omega)]
theorem keeps_prow {L B : Nat} {w w' : World} {v : Value} {l : List Pt} (h : PRow w B v l) (hg : w.grownBy w' v.ownBlock) (hL : L ≤ B) : Keeps L w w' := by
  obtain ⟨⟨_, ⟨rfl, _⟩ | ⟨g, cap, cur, rfl, h3, h4, _⟩⟩, _⟩ := h
  · exact keeps_walk (B := B) hg hL (fun r e => by simp [Value.ownBlock] at e)
  · exact Keeps.of_box (g := g) hg h4 (by decide) (Nat.le_trans hL h3)
theorem kept_prow {B : Nat} {w w' : World} {v : Value} {l : List Pt} (h : PRow w B v l) (hg : w.grownBy w' v.ownBlock) : KeepsOthers w w' := by
  obtain ⟨⟨_, ⟨rfl, _⟩ | ⟨g, cap, cur, rfl, h3, h4, _⟩⟩, _⟩ := h
  · exact KeepsOthers.of_grownBy hg (fun j o e => by simp [Value.ownBlock] at e)
  · exact keepsOthers_grown (g := g) hg h4
theorem prow_far {B : Nat} {w : World} {v : Value} {l : List Pt} (h : PRow w B v l) {k : Nat} (hk : k < B) : v.ownBlock ≠ some k := fun e => by
  obtain ⟨⟨_, ⟨rfl, _⟩ | ⟨g, cap, cur, rfl, h3, h4, _⟩⟩, _⟩ := h
  · simp [Value.ownBlock] at e
  · have : g = k := by simpa [Value.ownBlock] using e
    omega
theorem below_prow {G B : Nat} {a w w' : World} {v : Value} {l : List Pt} (hb : Below G a w) (h : PRow w B v l) (hg : w.grownBy w' v.ownBlock) (hG : G ≤ B) (hW : G ≤ w.heap.size) : Below G a w' :=
  ⟨hg.os.trans hb.os, hg.tape.trans hb.tape, hg.output.trans hb.output, Nat.le_trans hb.size hg.size, fun k hk => (hg.block k (by omega) (fun e => prow_far h (show k < B by omega) e.symm)).trans (hb.block k hk)⟩
theorem layedO_none {S : StL} {b n : Nat} {l ps : List Pt} (hn : l.length = n) (h0 : 0 < n) (hs : ∀ X, laidL S b l (List.range (rowsN n)) = some X → X.2 = ps) (h : stepR b (laidL S b l (List.range (rowsN n))) ps = none) : layedO S b l = (st0, p0, [], 9) := by
  subst hn
  rw [laidL_range] at hs h
  have hl : l ≠ [] := fun e => by rw [e] at h0; exact absurd h0 (Nat.lt_irrefl 0)
  unfold layedO
  rw [if_neg hl]
  cases ho : laidTo S b l (rowsN l.length) with
  | none => rfl
  | some X =>
    rw [ho] at h
    rw [← hs X ho] at h
    unfold stepR at h
    simp only at h ⊢
    cases hp : putS X.1 b 0 0 (rowTo X.2 X.2.length) with
    | none => rfl
    | some Y => rw [hp] at h; cases h
theorem layedO_some {S S' T : StL} {b n : Nat} {l ps : List Pt} {q : Pt} (hn : l.length = n) (h0 : 0 < n) (ho : laidL S b l (List.range (rowsN n)) = some (S', ps)) (h : stepR b (laidL S b l (List.range (rowsN n))) ps = some (T, ps ++ [q])) : layedO S b l = (T, q, blksD (ps ++ [q]), 0) := by
  subst hn
  rw [ho] at h
  rw [laidL_range] at ho
  have hl : l ≠ [] := fun e => by rw [e] at h0; exact absurd h0 (Nat.lt_irrefl 0)
  unfold layedO
  rw [if_neg hl, ho]
  unfold stepR at h
  simp only at h ⊢
  cases hp : putS S' b 0 0 (rowTo ps ps.length) with
  | none => rw [hp] at h; cases h
  | some Y =>
    rw [hp] at h
    obtain ⟨Y1, Y2⟩ := Y
    simp only [Option.some.injEq, Prod.mk.injEq, List.append_cancel_left_eq, List.cons.injEq, and_true] at h
    obtain ⟨rfl, rfl⟩ := h
    simp [blksD]
/-- A region that is left in the one way alone. -/
def onlyN (Q : Exit → Act → World → Prop) : Exit → Act → World → Prop
  | .normal, a, w => Q .normal a w
  | _, _, _ => False
theorem onlyN_of {F : Fence} {m : Nat} {P : Program} {c : Code} {Q : Exit → Act → World → Prop} {a : Act} {w : World} (h : c.wpIn F m P (onlyN Q) a w) : c.wpIn F m P Q a w :=
  wpIn_mono h fun e a w h => by cases e <;> first | exact h | exact False.elim h
theorem onlyN_n {Q : Exit → Act → World → Prop} {a : Act} {w : World} (h : Q .normal a w) : onlyN Q .normal a w := h
theorem kept_set5 (w : World) (g : Nat) (v0 v1 v2 v3 v4 : Value) : KeepsOthers w (set5 w g v0 v1 v2 v3 v4) :=
  ((((KeepsOthers.setCell w _ v0).trans (KeepsOthers.setCell _ _ v1)).trans (KeepsOthers.setCell _ _ v2)).trans (KeepsOthers.setCell _ _ v3)).trans (KeepsOthers.setCell _ _ v4)
theorem wpJ_app_prow {ops : List Oper} {md : Region.Mode} {S : World → Prop} {Q : Exit → Act → World → Prop} {i : Nat} {σ : List Nat} {o : Oper} {listed : Array Bool} {a : Act} {w : World} (hi : nthOp ops i = some o) (hr : Region.ready md ops.toArray listed = [i]) (hgd : o.guard = none) (x y : Operand)
    (ho : o.op = .call { callee := .builtin .append, args := #[x, y], argTypes := #[30, 30] })
    (base : Nat) (v : Value) (l : List Pt) (hx : a.eval x = v) (hp : PRow w base v l) (B : Nat) (A : Option Addr) (m c : Nat) (M : List Pt) (hy : a.eval y = .slice A m c) (hs : Pts w B A m c M)
    (hn : l.length + m ≤ 1000000) (hbase : base ≤ w.heap.size)
    (h : ∀ v' w', PRow w' base v' (l ++ M) → w.grownBy w' v.ownBlock → S w' ∧ wpJ Tryz.prog md S ops Q σ (listed.setIfInBounds i true) (a.put o.dst v') w') : wpJ Tryz.prog md S ops Q (i :: σ) listed a w :=
  wpJ_lone hi hr fun K hK => by
    rw [if_pos (by simp [Region.wanted, hgd])]
    exact wp_append_prow x y ho base v l hx hp B A m c M hy hs hn hbase fun v' w' h1 h2 => hK _ _ (h v' w' h1 h2).1 (h v' w' h1 h2).2
set_option linter.unusedSimpArgs false in
set_option maxHeartbeats 16000000 in
theorem ddLay_in (m : Nat) (hm3 : 3 ≤ m) (L : Nat) (x : SAt) (S : StL) (b : Nat) (a : Option Addr) (n c : Nat) (l : List Pt) (w : World) (h : StP L w x S) (hm : MayS S) (hmd : MayDL l) (hbr : 1 ≤ b ∧ b ≤ 16777215) (hr : Pts w w.heap.size a n c l) (hz : Szs w) (hL : L ≤ w.heap.size) (hn : 0 < n) :
    CallsIn Fence.wide m Tryz.prog 6 #[stV x S, .int .u32 (b : Int), .slice a n c] w (NewLy (layedO S b l) w) := by
  have hro : Fence.wide.round = none := rfl
  have hmx : Tryz.prog.follows Departure.mixedOrders = true := by kernel_rfl
  have hbi : b < 4294967296 := by omega
  have hd : 1 ≤ m := by omega
  have hn240 : n ≤ 240 := by rw [← hr.1]; exact hmd.1
  have hLe : L ≤ w.heap.size := hL
  obtain ⟨bl, ol, ea, hblt, _⟩ := hr.cells 0 hn
  subst ea
  have hrl := hr
  have hnc := hr.2.1
  have hcm := hr.2.2.1
  have HZ0 := Lib.hid hz
  clear hz
  obtain ⟨w0, hw0, b0, z0, q0, q1, q2, q3, q4, q5⟩ := six_al w (stC x S) #[.int .u32 (b : Int)] stZ ptZ #[.slice none 0 0] #[.int .i64 0] 29 27 29 32 35 36
  obtain ⟨g, hg⟩ : ∃ g, w.heap.size = g := ⟨_, rfl⟩
  obtain ⟨g1, hg1⟩ : ∃ g1, g + 1 = g1 := ⟨_, rfl⟩
  obtain ⟨g2, hg2⟩ : ∃ g2, g1 + 1 = g2 := ⟨_, rfl⟩
  obtain ⟨g3, hg3⟩ : ∃ g3, g2 + 1 = g3 := ⟨_, rfl⟩
  obtain ⟨g4, hg4⟩ : ∃ g4, g3 + 1 = g4 := ⟨_, rfl⟩
  obtain ⟨g5, hg5⟩ : ∃ g5, g4 + 1 = g5 := ⟨_, rfl⟩
  rw [hg] at q0 q1 q2 q3 q4 q5
  rw [hg1] at q1
  rw [show g + 2 = g1 + 1 by omega, hg2] at q2
  rw [show g + 3 = g1 + 1 + 1 by omega, hg2, hg3] at q3
  rw [show g + 4 = g1 + 1 + 1 + 1 by omega, hg2, hg3, hg4] at q4
  rw [show g + 5 = g1 + 1 + 1 + 1 + 1 by omega, hg2, hg3, hg4, hg5] at q5
  have HIX := Lib.hid (show g1 = g + 1 ∧ g2 = g + 2 ∧ g3 = g + 3 ∧ g4 = g + 4 ∧ g5 = g + 5 ∧ w0.heap.size = g + 6 ∧ w.heap.size = g by omega)
  have HX := Lib.hid q0
  have HBI := Lib.hid q1
  have HOB := Lib.hid q2
  have HPB := Lib.hid q3
  have HWB := Lib.hid q4
  have HEB := Lib.hid q5
  have HT := Lib.hid (h.bel b0)
  have HB := Lib.hid b0
  have HLW := Lib.hid (show L ≤ w0.heap.size from Nat.le_trans hL b0.size)
  have HZ := Lib.hid (HZ0.out.step b0)
  have HR := Lib.hid (hr.step b0)
  have HAS := Lib.hid (ddAsk_any L x S b (some ⟨bl, ol, none⟩) n c l w0 HT.out hbi HR.out HLW.out)
  simp only [stC, stZ, ptZ] at hw0
  clear h b0 z0 q0 q1 q2 q3 q4 q5 hL hr
  have hask : laskO S b l = 0 := by unfold laskO; rw [if_pos ⟨hm, hmd⟩, if_pos hbr]
  rw [hask] at HAS
  have HRL := Lib.hid hrl
  have HMS := Lib.hid hm
  have HMD := Lib.hid hmd
  have HBR := Lib.hid hbr
  have HCM := Lib.hid hcm
  have z1 : ((0 : Int) != 0) = false := rfl
  have z2 : ((n : Int) == 0) = false := by simp; omega
  clear hask hrl hm hmd hbr hcm
  have d0 := bx0 HX.out
  have d1 := bx1 HX.out
  have d2 := bx2 HX.out
  have d3 := bx3 HX.out
  have d4 := bx4 HX.out
  have q := HBI.out.cell 0
  refine callsIn_of_wp_marks Tryz.func6 rfl trivial ?_ hro
  simp only [Tryz.ntmps6, List.size_toArray, List.length_cons, List.length_nil, Nat.reduceAdd, Nat.reduceSub, Array.replicate_succ, Array.replicate_zero, List.push_toArray, List.append_toArray, List.nil_append, List.cons_append]
  gi_wp2
  try rw [hw0]
  try rw [hg]
  try rw [hg1]
  try rw [hg2]
  try rw [hg3]
  try rw [hg4]
  try rw [hg5]
  clear hw0 hg hg1 hg2 hg3 hg4 hg5 q d0 d1 d2 d3 d4
  refine ⟨trivial, ?_⟩
  refine (callsIn_wide.2 HAS.out).mono ?_
  rintro e w1 ⟨rfl, b1⟩
  replace HX := Lib.hid (HX.out.below b1 HX.out.lt)
  replace HBI := Lib.hid (HBI.out.below b1 HBI.out.lt)
  replace HOB := Lib.hid (HOB.out.below b1 HOB.out.lt)
  replace HPB := Lib.hid (HPB.out.below b1 HPB.out.lt)
  replace HWB := Lib.hid (HWB.out.below b1 HWB.out.lt)
  replace HEB := Lib.hid (HEB.out.below b1 HEB.out.lt)
  replace HT := Lib.hid (HT.out.bel b1)
  replace HB := Lib.hid (HB.out.trans (b1.mono HB.out.size))
  replace HZ := Lib.hid (HZ.out.step b1)
  replace HLW := Lib.hid (Nat.le_trans HLW.out b1.size)
  clear b1
  have d0 := bx0 HX.out
  have d1 := bx1 HX.out
  have d2 := bx2 HX.out
  have d3 := bx3 HX.out
  have d4 := bx4 HX.out
  have u0 := stZ0 HOB.out
  have u1 := stZ1 HOB.out
  have u2 := stZ2 HOB.out
  have u3 := stZ3 HOB.out
  have u4 := stZ4 HOB.out
  have uf := fun i => HOB.out.frozen i
  obtain ⟨xa, ka, ba⟩ := box_five (L := L) HOB.out (by decide) (show L ≤ g2 by have := HIX.out; omega) HB.out (show w.heap.size ≤ g2 by have := HIX.out; omega) (.slice x.d.ba S.1.1.length x.d.bc) (.slice x.d.wa S.1.2.length x.d.wc) (.slice x.a S.2.1.length x.c) (.int .u32 (S.2.2.1 : Int)) (.int .u32 (S.2.2.2 : Int))
  have ybi := far5_bl HBI.out (show g1 ≠ g2 by have := HIX.out; omega) (.slice x.d.ba S.1.1.length x.d.bc) (.slice x.d.wa S.1.2.length x.d.wc) (.slice x.a S.2.1.length x.c) (.int .u32 (S.2.2.1 : Int)) (.int .u32 (S.2.2.2 : Int))
  have yp := far5_bl HPB.out (show g3 ≠ g2 by have := HIX.out; omega) (.slice x.d.ba S.1.1.length x.d.bc) (.slice x.d.wa S.1.2.length x.d.wc) (.slice x.a S.2.1.length x.c) (.int .u32 (S.2.2.1 : Int)) (.int .u32 (S.2.2.2 : Int))
  have yw := far5_bl HWB.out (show g4 ≠ g2 by have := HIX.out; omega) (.slice x.d.ba S.1.1.length x.d.bc) (.slice x.d.wa S.1.2.length x.d.wc) (.slice x.a S.2.1.length x.c) (.int .u32 (S.2.2.1 : Int)) (.int .u32 (S.2.2.2 : Int))
  have ye := far5_bl HEB.out (show g5 ≠ g2 by have := HIX.out; omega) (.slice x.d.ba S.1.1.length x.d.bc) (.slice x.d.wa S.1.2.length x.d.wc) (.slice x.a S.2.1.length x.c) (.int .u32 (S.2.2.1 : Int)) (.int .u32 (S.2.2.2 : Int))
  have hsz : (set5 w1 g2 (.slice x.d.ba S.1.1.length x.d.bc) (.slice x.d.wa S.1.2.length x.d.wc) (.slice x.a S.2.1.length x.c) (.int .u32 (S.2.2.1 : Int)) (.int .u32 (S.2.2.2 : Int))).heap.size = w1.heap.size := by simp [set5, World.setCell]
  obtain ⟨x1, dn⟩ : ∃ X, set5 w1 g2 (.slice x.d.ba S.1.1.length x.d.bc) (.slice x.d.wa S.1.2.length x.d.wc) (.slice x.a S.2.1.length x.c) (.int .u32 (S.2.2.1 : Int)) (.int .u32 (S.2.2.2 : Int)) = X := ⟨_, rfl⟩
  rw [dn] at xa ka ba ybi yp yw ye hsz
  simp only [set5] at dn
  have HT1 := Lib.hid (HT.out.step ka)
  obtain ⟨gy, hgy⟩ : ∃ k, w1.heap.size = k := ⟨_, rfl⟩
  rw [hgy] at hsz
  obtain ⟨W0, hW0, bW, zW, v0, v1, v2, v3⟩ := four_al x1 #[.func (.func 17) #[] #[.pointer (some ⟨g5, 0, none⟩), .pointer (some ⟨g2, 0, none⟩), .pointer (some ⟨g1, 0, none⟩), .pointer (some ⟨g4, 0, none⟩)]] #[.slice none 0 0] #[.slice (some ⟨bl, ol, none⟩) n c] #[.int .i64 16] 56 30 30 3
  rw [hsz] at bW zW v0 v1 v2 v3
  have HGY := Lib.hid (show g + 6 ≤ gy by have := HIX.out; have := HX.out.lt; have := HEB.out.lt; omega)
  have HXA := Lib.hid (xa.below (hsz ▸ bW) xa.lt)
  replace HBI := Lib.hid (ybi.below (hsz ▸ bW) ybi.lt)
  replace HPB := Lib.hid (yp.below (hsz ▸ bW) yp.lt)
  replace HWB := Lib.hid (yw.below (hsz ▸ bW) yw.lt)
  replace HEB := Lib.hid (ye.below (hsz ▸ bW) ye.lt)
  replace HT1 := Lib.hid (HT1.out.bel (hsz ▸ bW))
  have HB0 := Lib.hid (ba.trans (bW.mono (by have := ba.size; omega)))
  have HV0 := Lib.hid v0
  have HV1 := Lib.hid v1
  have HV2 := Lib.hid v2
  have HV3 := Lib.hid v3
  have HW0 := Lib.hid hW0
  have HZW := Lib.hid zW
  clear xa ka ba ybi yp yw ye bW v0 v1 v2 v3 hW0 zW HOB HX HT HB HLW
  gi_wp2_with (refine ⟨trivial, ?_⟩; (gi_at_call 20; refine (chunkQ_in Fence.wide (m - 1) trivial hro _ _ _ _).mono ?_; rintro e w' ⟨rfl, rfl⟩))
  clear d0 d1 d2 d3 d4 u0 u1 u2 u3 u4 uf
  try rw [dn]
  try rw [hsz]
  try rw [hgy]
  try rw [HW0.out]
  clear dn hsz hgy HW0
  obtain ⟨gr, hgr⟩ : ∃ k, gy + 1 = k := ⟨_, rfl⟩
  obtain ⟨gs, hgs⟩ : ∃ k, gr + 1 = k := ⟨_, rfl⟩
  obtain ⟨gn, hgn⟩ : ∃ k, gs + 1 = k := ⟨_, rfl⟩
  try rw [hgr]
  try rw [hgs]
  try rw [hgn]
  have e1 := HV1.out
  have e2 := HV2.out
  have e3 := HV3.out
  rw [hgr] at e1
  rw [show gy + 2 = gy + 1 + 1 by omega, hgr, hgs] at e2
  rw [show gy + 3 = gy + 1 + 1 + 1 by omega, hgr, hgs, hgn] at e3
  replace HGY := Lib.hid (show gr = gy + 1 ∧ gs = gy + 2 ∧ gn = gy + 3 ∧ g + 6 ≤ gy from ⟨by omega, by omega, by omega, HGY.out⟩)
  clear hgr hgs hgn
  have hI0 : LyI S b l L g g1 g2 g3 g4 g5 gy gr W0.heap.size w [] W0 := by
    refine ⟨⟨HBI.out, x, S, .slice none 0 0, 0, HXA.out, HWB.out, HEB.out, .inr ⟨[], rfl, rfl, HMS.out, HT1.out, World.ownsRow_nil _ _ _ _, fun _ h => (by cases h)⟩⟩, HPB.out, HV0.out, ?_, Nat.le_refl _, .slice none 0 0, [], e1, prow_nil _ _, rfl, fun X hX => (by cases hX; rfl)⟩
    rw [← HIX.out.2.2.2.2.2.2]
    exact HB0.out
  have hQ : ReachQ gs gn bl ol n c W0 := ⟨e2.cell 0, e3.cell 0⟩
  have hlt2 := e2.lt
  have hlt3 := e3.lt
  clear e1 e2 e3 HV1 HV2 HV3
  refine wpIn_rangeFunc_ownG hro hd (gf := 40) (lb := #[.pointer (some ⟨gs, 0, none⟩), .pointer (some ⟨gn, 0, none⟩)]) rfl trivial (enters_of Tryz.func40 (by kernel_rfl) rfl)
    (stopsQ (m - 1) (by omega) gs gn bl ol n c hnc (by omega) W0 hlt2 hlt3 hQ) (fun h k r => k (h r)) (fun W l o o' _ h ho _ => reachQ_putObj l o o' h ho) (Below.refl _ _) (fun _ => rfl)
    (fun pre W => LyI S b l L g g1 g2 g3 g4 g5 gy gr W0.heap.size w (pre.map (·.val)) W) (fun _ _ _ => False) ?hI ?hIx hI0
    (fun x_ => { tmps := #[stV x S, .int .u32 (b : Int), .slice (some ⟨bl, ol, none⟩) n c, .pointer (some ⟨g, 0, none⟩), .pointer (some ⟨g1, 0, none⟩), undef, .pointer (some ⟨g2, 0, none⟩), .pointer (some ⟨g3, 0, none⟩), .pointer (some ⟨g4, 0, none⟩), .pointer (some ⟨g5, 0, none⟩), .int .i64 0, .pointer (some ⟨gy, 0, none⟩), .pointer (some ⟨gr, 0, none⟩), .slice (some ⟨bl, ol + 16 * x_.val * 5, none⟩) (winM n x_.val) (winM n x_.val),
          .agg #[.slice x.d.ba S.1.1.length x.d.bc, .slice x.d.wa S.1.2.length x.d.wc, .slice x.a S.2.1.length x.c, .int .u32 (S.2.2.1 : Int), .int .u32 (S.2.2.2 : Int)], .int .u32 (b : Int), .slice (some ⟨bl, ol, none⟩) n c, .int .i64 0, .int .i64 0, .bool false, undef, undef, undef, .slice (some ⟨bl, ol, none⟩) n c, .int .i64 (n : Int), .bool false, undef, undef, undef,
          .agg #[.slice x.d.ba S.1.1.length x.d.bc, .slice x.d.wa S.1.2.length x.d.wc, .slice x.a S.2.1.length x.c, .int .u32 (S.2.2.1 : Int), .int .u32 (S.2.2.2 : Int)], .func (.func 17) #[] #[.pointer (some ⟨g5, 0, none⟩), .pointer (some ⟨g2, 0, none⟩), .pointer (some ⟨g1, 0, none⟩), .pointer (some ⟨g4, 0, none⟩)], .slice (some ⟨bl, ol, none⟩) n c, .func (.func 40) #[] #[.pointer (some ⟨gs, 0, none⟩), .pointer (some ⟨gn, 0, none⟩)], .slice (some ⟨bl, ol + 16 * x_.val * 5, none⟩) (winM n x_.val) (winM n x_.val), undef, undef, undef, undef, undef, undef, undef, undef, undef, undef, undef, undef, undef, undef, undef, undef, undef], defers := [] }) ?assign ?body ?done ?stop
  case hI => exact lyI_own (rowsN n) (by have := HIX.out; have := HGY.out; have := HZW.out; omega) (by have := HIX.out; have := HGY.out; have := HZW.out; omega) (by have := HIX.out; have := HGY.out; have := HZW.out; omega)
  case hIx => intro c_ pre W W' row h; exact h.elim
  case assign =>
    intro li xx W K hK
    gi_wp2
    exact hK
  case stop => intro D_ c_ pre W _ _ h; exact h.elim
  case body =>
    intro li pre xx W hI hpl
    obtain ⟨wd, hwd⟩ : ∃ X, W.drew = X := ⟨_, rfl⟩
    have hgd : W.grownBy wd none := by rw [← hwd]; exact only_drew (World.grownBy.refl W none)
    have hdo : KeepsOthers W wd := KeepsOthers.of_grownBy hgd (fun j o e => by cases e)
    have hI1 := lyI_own (rowsN n) (S := S) (b := b) (l := l) (L := L) (g := g) (g1 := g1) (g2 := g2) (g3 := g3) (g4 := g4) (g5 := g5) (gy := gy) (gr := gr) (B := W0.heap.size) (w := w) (by have := HIX.out; have := HGY.out; have := HZW.out; omega) (by have := HIX.out; have := HGY.out; have := HZW.out; omega) (by have := HIX.out; have := HGY.out; have := HZW.out; omega) pre W wd none hI hgd (fun r e => by cases e)
    obtain ⟨j, hj⟩ : ∃ j, xx.val = j := ⟨_, rfl⟩
    have hjr : j < (n + 15) / 16 := by rw [← hj]; exact xx.isLt
    have hrn : rowsN n = (n + 15) / 16 := rfl
    have hpl15 : pre.length < 15 := by omega
    have hln : l.length = n := HRL.out.1
    have hwb : Below w.heap.size w wd := by rw [HIX.out.2.2.2.2.2.2]; exact hI1.bel
    have hwin : Pts wd wd.heap.size (some ⟨bl, ol + 16 * j * 5, none⟩) (winM n j) (winM n j) (rowD l j) := by
      have := (HRL.out.step hwb).win (16 * j) (winM n j) (by unfold winM; omega)
      rwa [rowD_win l n j hln] at this
    obtain ⟨v, ps, hbr, hpr, hpsl, hpsx⟩ := hI1.rows
    have hsnoc : laidL S b l ((pre ++ [xx]).map (·.val)) = stepR b (laidL S b l (pre.map (·.val))) (rowD l j) := by rw [List.map_append, List.map_cons, List.map_nil, hj, laidL_snoc]
    have hpm : (pre.map (·.val)).length = pre.length := List.length_map ..
    have hpm2 : ((pre ++ [xx]).map (·.val)).length = pre.length + 1 := by rw [List.length_map, List.length_append]; rfl
    obtain ⟨is2, his2⟩ : ∃ is, (pre ++ [xx]).map (·.val) = is := ⟨_, rfl⟩
    obtain ⟨is, his⟩ : ∃ is, pre.map (·.val) = is := ⟨_, rfl⟩
    simp only [his, his2, hj] at hI1 hsnoc hpm hpm2 hpsl hpsx ⊢
    have hcall := lyCall L W0.heap.size b g1 g2 g4 g5 (laidL S b l is) (some ⟨bl, ol + 16 * j * 5, none⟩) (winM n j) (winM n j) (rowD l j) wd hI1.st HBR.out (fun X hX => ⟨by rw [hpsx X hX]; omega, hwin, by unfold winM; omega, fun q_ hq_ => (HMD.out.2.1 q_ (rowD_mem hq_)).1⟩) (HZ0.out.step hwb) (by have := HIX.out; have := HGY.out; have := HZW.out; omega) hI1.big
    obtain ⟨wn, hwn⟩ : ∃ k, winM n j = k := ⟨_, rfl⟩
    rw [hwn] at hcall hwin ⊢
    have HI1 := Lib.hid hI1
    have HCA := Lib.hid hcall
    have HDO := Lib.hid hdo
    have HGD := Lib.hid hgd
    have HBRR := Lib.hid hbr
    have HPR := Lib.hid hpr
    have HPS := Lib.hid (show ps.length = pre.length ∧ pre.length < 15 ∧ is2.length = pre.length + 1 ∧ (∀ X, laidL S b l is = some X → X.2 = ps) from ⟨by omega, hpl15, hpm2, hpsx⟩)
    have HSN := Lib.hid hsnoc
    have HI2 := Lib.hid his2
    clear hI hI1 hI0 hcall hdo hgd hbr hpr hsnoc hpsl hpsx hpm hpm2 hwin his his2 hj hjr hwb hQ
    gi_wp2
    refine wpJ_round (fun X => Blk X gr 30 #[v] ∧ Blk X gy 56 #[.func (.func 17) #[] #[.pointer (some ⟨g5, 0, none⟩), .pointer (some ⟨g2, 0, none⟩), .pointer (some ⟨g1, 0, none⟩), .pointer (some ⟨g4, 0, none⟩)]]) [0, 1, 2, 3, 4, 5, 6] hmx (by kernel_rfl) (fun h => by obtain ⟨_, _, h⟩ := h; exact h) rfl hwd ?_
    have hS : Blk wd gr 30 #[v] ∧ Blk wd gy 56 #[.func (.func 17) #[] #[.pointer (some ⟨g5, 0, none⟩), .pointer (some ⟨g2, 0, none⟩), .pointer (some ⟨g1, 0, none⟩), .pointer (some ⟨g4, 0, none⟩)]] := ⟨HBRR.out, HI1.out.fy⟩
    iterate 3 (
      refine wpJ_read (v := ?_) hS rfl (by kernel_rfl) (by kernel_rfl) (by kernel_rfl) (fun _ _ _ h => h) (.inl ⟨by rfl, ?_⟩) ?_
      rotate_left
      · intro X hX
        have c0 := hX.1.cell 0
        have c1 := hX.2.cell 0
        clear hX
        go_simp
        with_reducible rfl
      try simp only [Act.put, List.setIfInBounds_toArray, List.set_cons_zero, List.set_cons_succ])
    clear hS
    refine wpJ_lone rfl (by kernel_rfl) (fun K hK => ?_)
    go_simp
    obtain ⟨_, yy, TT, uu, zy, b2_, b4_, b5_, _⟩ := HI1.out.st
    have hX : ∀ k, (k = g2 ∨ k = g4 ∨ k = g5 ∨ (W0.heap.size ≤ k ∧ ∃ cs, Blk wd k 3 cs)) → ∃ t cs, Blk wd k t cs := fun k hk => by
      rcases hk with rfl | rfl | rfl | ⟨_, cs, hb⟩
      · exact ⟨_, _, b2_⟩
      · exact ⟨_, _, b4_⟩
      · exact ⟨_, _, b5_⟩
      · exact ⟨_, _, hb⟩
    have hN : ∀ k, k < W0.heap.size → k ≠ g2 → k ≠ g4 → k ≠ g5 → ¬ (k = g2 ∨ k = g4 ∨ k = g5 ∨ (W0.heap.size ≤ k ∧ ∃ cs, Blk wd k 3 cs)) := fun k h0 h1 h2 h3 h => by
      rcases h with h | h | h | ⟨h, _⟩
      · exact h1 h
      · exact h2 h
      · exact h3 h
      · omega
    have HX_ := Lib.hid hX
    have HN := Lib.hid hN
    clear hX hN b2_ b4_ b5_
    refine HCA.out.mono ?_
    rintro ev w3 ⟨⟨qa, qb, qi, qt, qs⟩, y3, T3, u3, zz, rfl, hqw, k1, k2, k4, k5, fz, hcs⟩
    have r3 := fz.blk HBRR.out HBRR.out.lt (HN.out gr (by have := HIX.out; have := HGY.out; have := HZW.out; omega) (by have := HIX.out; have := HGY.out; have := HZW.out; omega) (by have := HIX.out; have := HGY.out; have := HZW.out; omega) (by have := HIX.out; have := HGY.out; have := HZW.out; omega))
    have f3 := fz.blk HI1.out.fy HI1.out.fy.lt (HN.out gy (by have := HIX.out; have := HGY.out; have := HZW.out; omega) (by have := HIX.out; have := HGY.out; have := HZW.out; omega) (by have := HIX.out; have := HGY.out; have := HZW.out; omega) (by have := HIX.out; have := HGY.out; have := HZW.out; omega))
    have p3 := fz.blk HI1.out.pb HI1.out.pb.lt (HN.out g3 (by have := HIX.out; have := HGY.out; have := HZW.out; omega) (by have := HIX.out; have := HGY.out; have := HZW.out; omega) (by have := HIX.out; have := HGY.out; have := HZW.out; omega) (by have := HIX.out; have := HGY.out; have := HZW.out; omega))
    have pr3 : PRow w3 W0.heap.size v ps := ⟨fz.own HPR.out.1 (Nat.le_refl _) (fun k hk hx => by
      have := fun h => prow_far HPR.out (k := k) h hk
      rcases hx with rfl | rfl | rfl | ⟨_, cs, hb⟩
      · exact this (by have := HIX.out; have := HGY.out; have := HZW.out; omega)
      · exact this (by have := HIX.out; have := HGY.out; have := HZW.out; omega)
      · exact this (by have := HIX.out; have := HGY.out; have := HZW.out; omega)
      · exact own_ty HPR.out.1 hb (by decide) k hk rfl), HPR.out.2⟩
    have bel3 : Below g w w3 := HI1.out.bel.trans (fz.below (show g ≤ wd.heap.size by have := HI1.out.big; have := HIX.out; have := HGY.out; have := HZW.out; omega) (fun k hk => by rcases hk with rfl | rfl | rfl | ⟨h, _⟩ <;> (have := HIX.out; have := HGY.out; have := HZW.out; omega)))
    have hk3 : KeepsOthers W w3 := HDO.out.trans (fz_kept fz HX_.out)
    have big3 : W0.heap.size ≤ w3.heap.size := Nat.le_trans HI1.out.big fz.size
    have hh3 : ∀ k, k < W0.heap.size → k ≠ g2 → k ≠ g4 → k ≠ g5 → k < W.heap.size → w3.heap[k]? = W.heap[k]? := fun k h0 h1 h2 h3 h4 => (fz.same k (Nat.lt_of_lt_of_le h4 HGD.out.size) (HN.out k h0 h1 h2 h3)).trans (HGD.out.block k h4 (fun e => by cases e))
    have st3 : LySt L W0.heap.size b g1 g2 g4 g5 (stepR b (laidL S b l is) (rowD l j)) w3 := ⟨k1, y3, T3, u3, zz, k2, k4, k5, hcs.imp id (fun ⟨S', ps', e1, e2, e3, mt, st, hi, ow, mp⟩ => ⟨ps' ++ [(qa, qb, qi, qt, qs)], e2, e3, mt, st.any, ow, mp⟩)⟩
    have hpx : ∀ X, stepR b (laidL S b l is) (rowD l j) = some X → X.2 = ps ++ [(qa, qb, qi, qt, qs)] := fun X hX => by
      rcases hcs with ⟨e, _⟩ | ⟨S', ps', e1, e2, _⟩
      · rw [e] at hX; cases hX
      · rw [e2] at hX
        cases hX
        rw [show ps' = ps from HPS.out.2.2.2 _ e1]
    have HQW := Lib.hid hqw
    have HST3 := Lib.hid st3
    have HPX := Lib.hid hpx
    have HH3 := Lib.hid hh3
    have HK3 := Lib.hid hk3
    have HBL3 := Lib.hid bel3
    have HBG3 := Lib.hid big3
    have HPR3 := Lib.hid pr3
    have HP3 := Lib.hid p3
    refine hK _ _ ⟨r3, f3⟩ ?_
    have HR3 := Lib.hid r3
    have HF3 := Lib.hid f3
    clear hK K k1 k2 k4 k5 fz hcs r3 f3 p3 pr3 bel3 hk3 big3 hh3 st3 hpx hqw HCA HX_ HN
    try simp only [Act.put, List.setIfInBounds_toArray, List.set_cons_zero, List.set_cons_succ]
    refine wpJ_lone rfl (by kernel_rfl) (fun K hK => ?_)
    go_simp
    have bq := (Below.refl w3.heap.size w3).alloc (Nat.le_refl _) (.cells (ptC (qa, qb, qi, qt, qs)).toArray 32)
    have hone := one_pts w3 (qa, qb, qi, qt, qs) HQW.out
    have hag := World.grownBy_alloc w3 (.cells (ptC (qa, qb, qi, qt, qs)).toArray 32) none
    have hak := KeepsOthers.alloc w3 (.cells (ptC (qa, qb, qi, qt, qs)).toArray 32)
    obtain ⟨w4, hn4⟩ : ∃ X, w3.alloc (.cells (ptC (qa, qb, qi, qt, qs)).toArray 32) = X := ⟨_, rfl⟩
    obtain ⟨g6, hg6⟩ : ∃ X, w3.heap.size = X := ⟨_, rfl⟩
    rw [hn4] at bq hone hag hak
    rw [hg6] at hone
    simp only [ptC] at hn4
    rw [hn4]
    rw [hg6]
    have hbase := Nat.le_trans HBG3.out bq.size
    have HON := Lib.hid hone
    have HPR4 := Lib.hid (HPR3.out.below bq)
    have HR4 := Lib.hid (HR3.out.below bq HR3.out.lt)
    have HF4 := Lib.hid (HF3.out.below bq HF3.out.lt)
    have HP4 := Lib.hid (HP3.out.below bq HP3.out.lt)
    have HST4 := Lib.hid (HST3.out.grown hag (Keeps.of_below bq) (fun r e => by cases e))
    have HBL4 := Lib.hid (HBL3.out.trans (bq.mono (show g ≤ w3.heap.size by have := HBG3.out; have := HIX.out; have := HGY.out; have := HZW.out; omega)))
    have HK4 := Lib.hid (HK3.out.trans hak)
    have HH4 := Lib.hid (fun k (h0 : k < W0.heap.size) h1 h2 h3 h4 => (bq.block k (Nat.lt_of_lt_of_le h0 HBG3.out)).trans (HH3.out k h0 h1 h2 h3 h4))
    have HBA := Lib.hid hbase
    refine hK _ _ ⟨HR4.out, HF4.out⟩ ?_
    clear hK K hn4 hg6 bq hone hag hak hbase HR3 HF3 HP3 HPR3 HST3 HBL3 HK3 HH3
    try simp only [Act.put, List.setIfInBounds_toArray, List.set_cons_zero, List.set_cons_succ]
    refine wpJ_app_prow rfl (by kernel_rfl) rfl (.tmp 34) (.tmp 38) rfl W0.heap.size v ps rfl HPR4.out w4.heap.size (some ⟨g6, 0, none⟩) 1 1 [(qa, qb, qi, qt, qs)] rfl HON.out (by have := HPS.out; omega) HBA.out ?_
    intro v5 w5 hp5 hg5
    have hfar := fun k h => prow_far HPR4.out (k := k) h
    have r5 := HR4.out.grown hg5 (fun e => hfar gr (by have := HIX.out; have := HGY.out; have := HZW.out; omega) e.symm)
    have f5 := HF4.out.grown hg5 (fun e => hfar gy (by have := HIX.out; have := HGY.out; have := HZW.out; omega) e.symm)
    refine ⟨⟨r5, f5⟩, ?_⟩
    obtain ⟨a5, c5, rfl, _⟩ := hp5.pts
    have HP5 := Lib.hid (HP4.out.grown hg5 (fun e => hfar g3 (by have := HIX.out; have := HGY.out; have := HZW.out; omega) e.symm))
    have HST5 := Lib.hid (HST4.out.grown hg5 (keeps_prow HPR4.out hg5 (by have := HIX.out; have := HGY.out; have := HZW.out; omega)) (fun r e => ⟨fun h => hfar g1 (by have := HIX.out; have := HGY.out; have := HZW.out; omega) (h ▸ e), fun h => hfar g2 (by have := HIX.out; have := HGY.out; have := HZW.out; omega) (h ▸ e), fun h => hfar g4 (by have := HIX.out; have := HGY.out; have := HZW.out; omega) (h ▸ e), fun h => hfar g5 (by have := HIX.out; have := HGY.out; have := HZW.out; omega) (h ▸ e)⟩))
    have HBL5 := Lib.hid (below_prow HBL4.out HPR4.out hg5 (show g ≤ W0.heap.size by have := HIX.out; have := HGY.out; have := HZW.out; omega) (show g ≤ w4.heap.size by have := HBA.out; have := HIX.out; have := HGY.out; have := HZW.out; omega))
    have HK5 := Lib.hid (HK4.out.trans (kept_prow HPR4.out hg5))
    have HH5 := Lib.hid (fun k (h0 : k < W0.heap.size) h1 h2 h3 h4 => (hg5.block k (Nat.lt_of_lt_of_le h0 HBA.out) (fun e => hfar k h0 e.symm)).trans (HH4.out k h0 h1 h2 h3 h4))
    have HBG5 := Lib.hid (Nat.le_trans HBA.out hg5.size)
    have HPR5 := Lib.hid hp5
    have HR5 := Lib.hid r5
    have HF5 := Lib.hid f5
    clear hp5 hg5 hfar r5 f5 HR4 HF4 HP4 HPR4 HST4 HBL4 HK4 HH4 HON HBA
    try simp only [Act.put, List.setIfInBounds_toArray, List.set_cons_zero, List.set_cons_succ]
    refine wpJ_last rfl (by kernel_rfl) (by kernel_rfl) (fun K hK => ?_)
    have a0 := HR5.out.cell 0
    have af := HR5.out.frozen 0
    go_simp
    clear a0 af
    refine hK _ _ ?_
    clear hK K
    try simp only [Act.put, List.setIfInBounds_toArray, List.set_cons_zero, List.set_cons_succ]
    refine wpJ_done (by kernel_rfl) ?_
    have hl : (ps ++ [(qa, qb, qi, qt, qs)]).length = ps.length + 1 := by simp
    have gw6 := only_setCell (p := ⟨gr, 0, none⟩) (World.grownBy.refl w5 (some gr)) (.inl rfl) (.slice a5 (ps.length + 1) c5)
    have kk6 := KeepsOthers.setCell w5 ⟨gr, 0, none⟩ (.slice a5 (ps.length + 1) c5)
    have r6 := HR5.out.set_ 0 (.slice a5 (ps.length + 1) c5)
    have bl6 := HBL5.out.setCell (p := ⟨gr, 0, none⟩) (show g ≤ gr by have := HIX.out; have := HGY.out; have := HZW.out; omega) (.slice a5 (ps.length + 1) c5)
    have pr5 := HPR5.out
    rw [hl] at pr5
    obtain ⟨w6, hw6⟩ : ∃ X, w5.setCell ⟨gr, 0, none⟩ (.slice a5 (ps.length + 1) c5) = X := ⟨_, rfl⟩
    rw [hw6] at gw6 kk6 r6 bl6 ⊢
    clear hw6
    show KeepsFrom _ W w6 ∧ (ReachQ gs gn bl ol n c W → ReachQ gs gn bl ol n c w6) ∧ LyI S b l L g g1 g2 g3 g4 g5 gy gr W0.heap.size w ((pre ++ [xx]).map (·.val)) w6
    rw [HI2.out]
    have pr6 := pr5.own gw6 (fun k hk e => prow_far pr5 (k := k) (by have := HIX.out; have := HGY.out; have := HZW.out; omega) hk)
    have hh6 : ∀ k, k < W0.heap.size → k ≠ g2 → k ≠ g4 → k ≠ g5 → k ≠ gr → k < W.heap.size → w6.heap[k]? = W.heap[k]? := fun k h0 h1 h2 h3 h4 h5 => (gw6.block k (Nat.lt_of_lt_of_le h0 HBG5.out) (fun e => h4 (Option.some.inj e))).trans (HH5.out k h0 h1 h2 h3 h5)
    refine ⟨(HK5.out.trans kk6).from _, fun hrq => ⟨?_, ?_⟩, ?_, HP5.out.grown gw6 (fun e => ?_), HF5.out.grown gw6 (fun e => ?_), bl6, Nat.le_trans HBG5.out gw6.size, _, _, r6, pr6, ?_, fun X hX => HPX.out X (HSN.out ▸ hX)⟩
    · have l1 : gs < W.heap.size := World.block_lt_of_cell? W _ hrq.1
      rw [World.cell?_of_block (a := ⟨gs, 0, none⟩) (hh6 gs (by have := HIX.out; have := HGY.out; have := HZW.out; omega) (by have := HIX.out; have := HGY.out; have := HZW.out; omega) (by have := HIX.out; have := HGY.out; have := HZW.out; omega) (by have := HIX.out; have := HGY.out; have := HZW.out; omega) (by have := HIX.out; have := HGY.out; have := HZW.out; omega) l1)]
      exact hrq.1
    · have l2 : gn < W.heap.size := World.block_lt_of_cell? W _ hrq.2
      rw [World.cell?_of_block (a := ⟨gn, 0, none⟩) (hh6 gn (by have := HIX.out; have := HGY.out; have := HZW.out; omega) (by have := HIX.out; have := HGY.out; have := HZW.out; omega) (by have := HIX.out; have := HGY.out; have := HZW.out; omega) (by have := HIX.out; have := HGY.out; have := HZW.out; omega) (by have := HIX.out; have := HGY.out; have := HZW.out; omega) l2)]
      exact hrq.2
    · rw [HSN.out]
      exact HST5.out.grown gw6 (Keeps.of_box gw6 HR5.out (by decide) (by have := HIX.out; have := HGY.out; have := HZW.out; omega)) (fun r e => by
        have e := Option.some.inj e
        have := HIX.out; have := HGY.out; have := HZW.out; omega)
    · have e := Option.some.inj e
      have := HIX.out; have := HGY.out; have := HZW.out; omega
    · have e := Option.some.inj e
      have := HIX.out; have := HGY.out; have := HZW.out; omega
    · rw [hl, HPS.out.2.2.1, HPS.out.1]
  case done =>
    intro D_ ys W hD hC hI hK
    have hC' : ys.map (·.val) = List.range (rowsN n) := hC
    have hI' : LyI S b l L g g1 g2 g3 g4 g5 gy gr W0.heap.size w (ys.map (·.val)) W := hI
    rw [hC'] at hI'
    have hrn : rowsN n = (n + 15) / 16 := rfl
    obtain ⟨v, ps, hbr, hpr, hpsl, hpsx⟩ := hI'.rows
    rw [List.length_range] at hpsl
    obtain ⟨av, cv, rfl, hpts⟩ := hpr.pts
    have hDW : D_ < W.heap.size := (Array.getElem?_eq_some_iff.1 hK).1
    have hwb : Below w.heap.size w W := by rw [HIX.out.2.2.2.2.2.2]; exact hI'.bel
    obtain ⟨_, yy, TT, uu, zy, b2_, b4_, b5_, hst⟩ := hI'.st
    have hone : ∀ X, laidL S b l (List.range (rowsN n)) = some X → ∀ q_ ∈ ps, MayP q_ := fun X hX q_ hq_ => by
      rcases hst with ⟨e, _⟩ | ⟨ps', e, _, ok⟩
      · rw [e] at hX; cases hX
      · have e2 : ps' = ps := hpsx _ e
        exact ok.one q_ (e2 ▸ hq_)
    have hX : ∀ k, (k = g2 ∨ k = g4 ∨ k = g5 ∨ (W0.heap.size ≤ k ∧ ∃ cs, Blk W k 3 cs)) → ∃ t cs, Blk W k t cs := fun k hk => by
      rcases hk with rfl | rfl | rfl | ⟨_, cs, hb⟩
      · exact ⟨_, _, b2_⟩
      · exact ⟨_, _, b4_⟩
      · exact ⟨_, _, b5_⟩
      · exact ⟨_, _, hb⟩
    have hps15 : ps.length ≤ 15 := by omega
    have hcall := lyCall L W0.heap.size b g1 g2 g4 g5 (laidL S b l (List.range (rowsN n))) av ps.length cv ps W hI'.st HBR.out (fun X hX => ⟨by rw [hpsx X hX]; omega, hpts, by omega, hone X hX⟩) (HZ0.out.step hwb) (by have := HIX.out; have := HGY.out; have := HZW.out; omega) hI'.big
    have HCA := Lib.hid hcall
    have HI1 := Lib.hid hI'
    have HX_ := Lib.hid hX
    have HDK := Lib.hid hK
    have HPX := Lib.hid hpsx
    have HDD := Lib.hid (show W0.heap.size ≤ D_ ∧ D_ < W.heap.size from ⟨hD, hDW⟩)
    have cr := hbr.cell 0
    have cf := hI'.fy.cell 0
    obtain ⟨np, hnp⟩ : ∃ k, ps.length = k := ⟨_, rfl⟩
    rw [hnp] at HCA cr
    clear hC hC' hI hI' hK hpsx hD hDW hwb hst hone hX hcall b2_ b4_ b5_ hpr hpts hbr hpsl hps15 hI0 hQ hnp
    gi_wp2
    clear cr cf
    refine ⟨trivial, ?_⟩
    refine (callsIn_wide.2 HCA.out).mono ?_
    rintro ev w3 ⟨⟨qa, qb, qi, qt, qs⟩, y3, T3, u3, zz, rfl, hqw, k1, k2, k4, k5, fz, hcs⟩
    have hN : ∀ k, k < W0.heap.size → k ≠ g2 → k ≠ g4 → k ≠ g5 → ¬ (k = g2 ∨ k = g4 ∨ k = g5 ∨ (W0.heap.size ≤ k ∧ ∃ cs, Blk W k 3 cs)) := fun k h0 h1 h2 h3 h => by
      rcases h with h | h | h | ⟨h, _⟩
      · exact h1 h
      · exact h2 h
      · exact h3 h
      · omega
    have p3 := fz.blk HI1.out.pb HI1.out.pb.lt (hN g3 (by have := HIX.out; have := HGY.out; have := HZW.out; omega) (by have := HIX.out; have := HGY.out; have := HZW.out; omega) (by have := HIX.out; have := HGY.out; have := HZW.out; omega) (by have := HIX.out; have := HGY.out; have := HZW.out; omega))
    have bel3 : Below w.heap.size w w3 := by
      rw [HIX.out.2.2.2.2.2.2]
      exact HI1.out.bel.trans (fz.below (show g ≤ W.heap.size by have := HI1.out.big; have := HIX.out; have := HGY.out; have := HZW.out; omega) (fun k hk => by rcases hk with rfl | rfl | rfl | ⟨h, _⟩ <;> (have := HIX.out; have := HGY.out; have := HZW.out; omega)))
    have dk3 := (fz_kept fz HX_.out).2 D_ _ HDK.out rfl
    have p0_ := ptZ0 p3
    have p1_ := ptZ1 p3
    have p2_ := ptZ2 p3
    have p3_ := ptZ3 p3
    have p4_ := ptZ4 p3
    have pf := fun i => p3.frozen i
    obtain ⟨xb, kb, bb⟩ := box_five (L := 0) p3 (by decide) (Nat.zero_le _) bel3 (show w.heap.size ≤ g3 by have := HIX.out; have := HGY.out; have := HZW.out; omega) (.int .i64 qa) (.int .u32 (qb : Int)) (.int .u32 (qi : Int)) (.int .u32 (qt : Int)) (.int .u32 (qs : Int))
    have zo := far5_bl k2 (show g2 ≠ g3 by have := HIX.out; have := HGY.out; have := HZW.out; omega) (.int .i64 qa) (.int .u32 (qb : Int)) (.int .u32 (qi : Int)) (.int .u32 (qt : Int)) (.int .u32 (qs : Int))
    have zw := far5_bl k4 (show g4 ≠ g3 by have := HIX.out; have := HGY.out; have := HZW.out; omega) (.int .i64 qa) (.int .u32 (qb : Int)) (.int .u32 (qi : Int)) (.int .u32 (qt : Int)) (.int .u32 (qs : Int))
    have ze := far5_bl k5 (show g5 ≠ g3 by have := HIX.out; have := HGY.out; have := HZW.out; omega) (.int .i64 qa) (.int .u32 (qb : Int)) (.int .u32 (qi : Int)) (.int .u32 (qt : Int)) (.int .u32 (qs : Int))
    have dk4 := (kept_set5 w3 g3 (.int .i64 qa) (.int .u32 (qb : Int)) (.int .u32 (qi : Int)) (.int .u32 (qt : Int)) (.int .u32 (qs : Int))).2 D_ _ dk3 rfl
    obtain ⟨w4, pn⟩ : ∃ X, set5 w3 g3 (.int .i64 qa) (.int .u32 (qb : Int)) (.int .u32 (qi : Int)) (.int .u32 (qt : Int)) (.int .u32 (qs : Int)) = X := ⟨_, rfl⟩
    rw [pn] at xb kb bb zo zw ze dk4
    simp only [set5] at pn
    have q5 := ze.cell 0
    have HPB4 := Lib.hid xb
    have HB4 := Lib.hid bb
    have HOB4 := Lib.hid zo
    have HWB4 := Lib.hid zw
    have HEB4 := Lib.hid ze
    have HDK4 := Lib.hid dk4
    have HLN := Lib.hid (show l.length = n from HRL.out.1)
    rcases hcs with ⟨hs1, rfl⟩ | ⟨S', ps', hs0, hs1, rfl, hmt, hst, hhi, how, _⟩
    · have HRES := Lib.hid (layedO_none HLN.out hn HPX.out hs1)
      have z3 : ((9 : Int) != 0) = true := rfl
      clear k1 k2 k4 k5 fz hN p3 bel3 dk3 xb kb bb zo zw ze dk4 hs1
      gi_wp2_with fail
      obtain ⟨v0, hwd⟩ : ∃ X, w4.drew = X := ⟨_, rfl⟩
      have bq : Below w4.heap.size w4 v0 := by rw [← hwd]; exact (Below.refl _ w4).drew
      replace HPB4 := Lib.hid (HPB4.out.below bq HPB4.out.lt)
      replace HOB4 := Lib.hid (HOB4.out.below bq HOB4.out.lt)
      replace HWB4 := Lib.hid (HWB4.out.below bq HWB4.out.lt)
      replace HEB4 := Lib.hid (HEB4.out.below bq HEB4.out.lt)
      replace HB4 := Lib.hid (HB4.out.trans (bq.mono HB4.out.size))
      replace HDK4 := Lib.hid ((kept_below bq).2 D_ _ HDK4.out rfl)
      clear bq
      refine onlyN_of (wpJ_wide (fun X => Blk X g5 36 #[.int .i64 9]) [0, 1, 2, 3, 4, 5, 6] hmx (by kernel_rfl) (fun h => by obtain ⟨_, _, h⟩ := h; exact h) rfl hwd ?_)
      have hS : Blk v0 g5 36 #[.int .i64 9] := HEB4.out
      clear hwd
      iterate 3 (
        refine wpJ_read (v := ?_) hS rfl (by kernel_rfl) (by kernel_rfl) (by kernel_rfl) (fun _ _ _ h => h) (.inl ⟨by rfl, ?_⟩) ?_
        rotate_left
        · intro X hX
          have c0 := hX.cell 0
          clear hX
          go_simp
          with_reducible rfl
        try simp only [Act.put, List.setIfInBounds_toArray, List.set_cons_zero, List.set_cons_succ])
      clear hS
      have d0 := bx0 HOB4.out
      have d1 := bx1 HOB4.out
      have d2 := bx2 HOB4.out
      have d3 := bx3 HOB4.out
      have d4 := bx4 HOB4.out
      have df := fun i => HOB4.out.frozen i
      refine wpJ_lone rfl (by kernel_rfl) (fun K hK => ?_)
      go_simp
      clear d0 d1 d2 d3 d4 df
      obtain ⟨xa, ka, ba⟩ := box_five (L := 0) HOB4.out (by decide) (Nat.zero_le _) HB4.out (show w.heap.size ≤ g2 by have := HIX.out; have := HGY.out; have := HZW.out; omega) (.slice none 0 0) (.slice none 0 0) (.slice none 0 0) (.int .u32 0) (.int .u32 0)
      have yHPB4 := far5_bl HPB4.out (show g3 ≠ g2 by have := HIX.out; have := HGY.out; have := HZW.out; omega) (.slice none 0 0) (.slice none 0 0) (.slice none 0 0) (.int .u32 0) (.int .u32 0)
      have yHWB4 := far5_bl HWB4.out (show g4 ≠ g2 by have := HIX.out; have := HGY.out; have := HZW.out; omega) (.slice none 0 0) (.slice none 0 0) (.slice none 0 0) (.int .u32 0) (.int .u32 0)
      have yHEB4 := far5_bl HEB4.out (show g5 ≠ g2 by have := HIX.out; have := HGY.out; have := HZW.out; omega) (.slice none 0 0) (.slice none 0 0) (.slice none 0 0) (.int .u32 0) (.int .u32 0)
      have ydk := (kept_set5 v0 g2 (.slice none 0 0) (.slice none 0 0) (.slice none 0 0) (.int .u32 0) (.int .u32 0)).2 D_ _ HDK4.out rfl
      obtain ⟨v1, dn⟩ : ∃ X, set5 v0 g2 (.slice none 0 0) (.slice none 0 0) (.slice none 0 0) (.int .u32 0) (.int .u32 0) = X := ⟨_, rfl⟩
      rw [dn] at xa ka ba ydk yHPB4 yHWB4 yHEB4
      simp only [set5] at dn
      rw [dn]
      replace HOB4 := Lib.hid xa
      replace HPB4 := Lib.hid yHPB4
      replace HWB4 := Lib.hid yHWB4
      replace HEB4 := Lib.hid yHEB4
      replace HB4 := Lib.hid ba
      replace HDK4 := Lib.hid ydk
      refine hK _ _ HEB4.out ?_
      clear hK K dn xa ka ba ydk yHPB4 yHWB4 yHEB4
      try simp only [Act.put, List.setIfInBounds_toArray, List.set_cons_zero, List.set_cons_succ]
      have d0 := bx0 HPB4.out
      have d1 := bx1 HPB4.out
      have d2 := bx2 HPB4.out
      have d3 := bx3 HPB4.out
      have d4 := bx4 HPB4.out
      have df := fun i => HPB4.out.frozen i
      refine wpJ_lone rfl (by kernel_rfl) (fun K hK => ?_)
      go_simp
      clear d0 d1 d2 d3 d4 df
      obtain ⟨xa, ka, ba⟩ := box_five (L := 0) HPB4.out (by decide) (Nat.zero_le _) HB4.out (show w.heap.size ≤ g3 by have := HIX.out; have := HGY.out; have := HZW.out; omega) (.int .i64 0) (.int .u32 0) (.int .u32 0) (.int .u32 0) (.int .u32 0)
      have yHOB4 := far5_bl HOB4.out (show g2 ≠ g3 by have := HIX.out; have := HGY.out; have := HZW.out; omega) (.int .i64 0) (.int .u32 0) (.int .u32 0) (.int .u32 0) (.int .u32 0)
      have yHWB4 := far5_bl HWB4.out (show g4 ≠ g3 by have := HIX.out; have := HGY.out; have := HZW.out; omega) (.int .i64 0) (.int .u32 0) (.int .u32 0) (.int .u32 0) (.int .u32 0)
      have yHEB4 := far5_bl HEB4.out (show g5 ≠ g3 by have := HIX.out; have := HGY.out; have := HZW.out; omega) (.int .i64 0) (.int .u32 0) (.int .u32 0) (.int .u32 0) (.int .u32 0)
      have ydk := (kept_set5 v1 g3 (.int .i64 0) (.int .u32 0) (.int .u32 0) (.int .u32 0) (.int .u32 0)).2 D_ _ HDK4.out rfl
      obtain ⟨v2, dn⟩ : ∃ X, set5 v1 g3 (.int .i64 0) (.int .u32 0) (.int .u32 0) (.int .u32 0) (.int .u32 0) = X := ⟨_, rfl⟩
      rw [dn] at xa ka ba ydk yHOB4 yHWB4 yHEB4
      simp only [set5] at dn
      rw [dn]
      replace HPB4 := Lib.hid xa
      replace HOB4 := Lib.hid yHOB4
      replace HWB4 := Lib.hid yHWB4
      replace HEB4 := Lib.hid yHEB4
      replace HB4 := Lib.hid ba
      replace HDK4 := Lib.hid ydk
      refine hK _ _ HEB4.out ?_
      clear hK K dn xa ka ba ydk yHOB4 yHWB4 yHEB4
      try simp only [Act.put, List.setIfInBounds_toArray, List.set_cons_zero, List.set_cons_succ]
      have d0 := HWB4.out.cell 0
      have df := HWB4.out.frozen 0
      refine wpJ_lone rfl (by kernel_rfl) (fun K hK => ?_)
      go_simp
      clear d0 df
      have xa := HWB4.out.set_ 0 (.slice none 0 0)
      have ka : Keeps 0 v2 (v2.setCell ⟨g4, 0, none⟩ (.slice none 0 0)) := Keeps.of_box (only_setCell (p := ⟨g4, 0, none⟩) (World.grownBy.refl v2 (some g4)) (.inl rfl) (.slice none 0 0)) HWB4.out (by decide) (Nat.zero_le _)
      have ba := HB4.out.setCell (p := ⟨g4, 0, none⟩) (show w.heap.size ≤ g4 by have := HIX.out; have := HGY.out; have := HZW.out; omega) (.slice none 0 0)
      have yHOB4 := HOB4.out.far (p := ⟨g4, 0, none⟩) (show g2 ≠ g4 by have := HIX.out; have := HGY.out; have := HZW.out; omega) (.slice none 0 0)
      have yHPB4 := HPB4.out.far (p := ⟨g4, 0, none⟩) (show g3 ≠ g4 by have := HIX.out; have := HGY.out; have := HZW.out; omega) (.slice none 0 0)
      have yHEB4 := HEB4.out.far (p := ⟨g4, 0, none⟩) (show g5 ≠ g4 by have := HIX.out; have := HGY.out; have := HZW.out; omega) (.slice none 0 0)
      have ydk := (KeepsOthers.setCell v2 ⟨g4, 0, none⟩ (.slice none 0 0)).2 D_ _ HDK4.out rfl
      obtain ⟨v3, dn⟩ : ∃ X, v2.setCell ⟨g4, 0, none⟩ (.slice none 0 0) = X := ⟨_, rfl⟩
      rw [dn] at xa ka ba ydk yHOB4 yHPB4 yHEB4
      rw [dn]
      replace HWB4 := Lib.hid xa
      replace HOB4 := Lib.hid yHOB4
      replace HPB4 := Lib.hid yHPB4
      replace HEB4 := Lib.hid yHEB4
      replace HB4 := Lib.hid ba
      replace HDK4 := Lib.hid ydk
      refine hK _ _ HEB4.out ?_
      clear hK K dn xa ka ba ydk yHOB4 yHPB4 yHEB4
      try simp only [Act.put, List.setIfInBounds_toArray, List.set_cons_zero, List.set_cons_succ]
      have d0 := HEB4.out.cell 0
      have df := HEB4.out.frozen 0
      refine wpJ_last rfl (by kernel_rfl) (by kernel_rfl) (fun K hK => ?_)
      go_simp
      clear d0 df
      have xa := HEB4.out.set_ 0 (.int .i64 9)
      have ka : Keeps 0 v3 (v3.setCell ⟨g5, 0, none⟩ (.int .i64 9)) := Keeps.of_box (only_setCell (p := ⟨g5, 0, none⟩) (World.grownBy.refl v3 (some g5)) (.inl rfl) (.int .i64 9)) HEB4.out (by decide) (Nat.zero_le _)
      have ba := HB4.out.setCell (p := ⟨g5, 0, none⟩) (show w.heap.size ≤ g5 by have := HIX.out; have := HGY.out; have := HZW.out; omega) (.int .i64 9)
      have yHOB4 := HOB4.out.far (p := ⟨g5, 0, none⟩) (show g2 ≠ g5 by have := HIX.out; have := HGY.out; have := HZW.out; omega) (.int .i64 9)
      have yHPB4 := HPB4.out.far (p := ⟨g5, 0, none⟩) (show g3 ≠ g5 by have := HIX.out; have := HGY.out; have := HZW.out; omega) (.int .i64 9)
      have yHWB4 := HWB4.out.far (p := ⟨g5, 0, none⟩) (show g4 ≠ g5 by have := HIX.out; have := HGY.out; have := HZW.out; omega) (.int .i64 9)
      have ydk := (KeepsOthers.setCell v3 ⟨g5, 0, none⟩ (.int .i64 9)).2 D_ _ HDK4.out rfl
      obtain ⟨v4, dn⟩ : ∃ X, v3.setCell ⟨g5, 0, none⟩ (.int .i64 9) = X := ⟨_, rfl⟩
      rw [dn] at xa ka ba ydk yHOB4 yHPB4 yHWB4
      rw [dn]
      replace HEB4 := Lib.hid xa
      replace HOB4 := Lib.hid yHOB4
      replace HPB4 := Lib.hid yHPB4
      replace HWB4 := Lib.hid yHWB4
      replace HB4 := Lib.hid ba
      replace HDK4 := Lib.hid ydk
      refine hK _ _ ?_
      clear hK K dn xa ka ba ydk yHOB4 yHPB4 yHWB4
      try simp only [Act.put, List.setIfInBounds_toArray, List.set_cons_zero, List.set_cons_succ]
      refine wpJ_done (by kernel_rfl) (onlyN_n ?_)
      gi_wp2_with fail
      refine ⟨by simp, .inl ⟨_, _, rfl, run_takeDeferred HDK4.out, ?_⟩⟩
      have gd := grownBy_putObj' v4 D_ (.deferred none)
      have hwk : ∀ r, some D_ = some r → 0 ≤ r ∧ ∃ o : Obj, v4.heap[r]? = some o ∧ o.isCells = false := fun r e => by cases e; exact ⟨Nat.zero_le _, _, HDK4.out, rfl⟩
      have kd := keeps_walk (L := 0) gd (Nat.le_refl 0) hwk
      have zo := blk_kept HOB4.out gd (fun r e => (hwk r e).2)
      have zp := blk_kept HPB4.out gd (fun r e => (hwk r e).2)
      have zw := blk_kept HWB4.out gd (fun r e => (hwk r e).2)
      have ze := blk_kept HEB4.out gd (fun r e => (hwk r e).2)
      have bd := HB4.out.trans (below_putO v4 (.deferred none) (show w.heap.size ≤ D_ by have := HDD.out; have := HIX.out; have := HGY.out; have := HZW.out; omega))
      obtain ⟨v5, hv5⟩ : ∃ X, v4.putObj D_ (.deferred none) = X := ⟨_, rfl⟩
      rw [hv5] at gd kd zo zp zw ze bd ⊢
      have e0 := bx0 zo
      have e1 := bx1 zo
      have e2 := bx2 zo
      have e3 := bx3 zo
      have e4 := bx4 zo
      have i0 := bx0 zp
      have i1 := bx1 zp
      have i2 := bx2 zp
      have i3 := bx3 zp
      have i4 := bx4 zp
      have j0 := zw.cell 0
      have k0 := ze.cell 0
      refine ⟨.tuple #[.agg #[.slice none 0 0, .slice none 0 0, .slice none 0 0, .int .u32 0, .int .u32 0], .agg #[.int .i64 0, .int .u32 0, .int .u32 0, .int .u32 0, .int .u32 0], .slice none 0 0, .int .i64 9], by simp [results, Tryz.f6, go_sem, e0, e1, e2, e3, e4, i0, i1, i2, i3, i4, j0, k0], ?_⟩
      rw [HRES.out]
      exact ⟨at0, _, rfl, st0_lasts 0 v5, hiS_zero v5 _, World.ownsRow_nil _ _ _ _, bd⟩
    · have e2 : ps' = ps := HPX.out _ hs0
      subst e2
      have HRES := Lib.hid (layedO_some HLN.out hn hs0 hs1)
      rw [show (ps' ++ [(qa, qb, qi, qt, qs)]).length = ps'.length + 1 by simp] at how
      obtain ⟨au, cu, rfl⟩ := nrow_slice how
      have HST4 := Lib.hid (hst.step kb)
      have HHI4 := Lib.hid ((hhi.lower (show w.heap.size ≤ W.heap.size by have := HI1.out.big; have := HIX.out; have := HGY.out; have := HZW.out; omega)).keeps kb)
      have HOW4 := Lib.hid (ly_own how kb)
      clear k1 k2 k4 k5 fz hN p3 bel3 dk3 xb kb bb zo zw ze dk4 hs1 hs0 hst hhi how
      gi_wp2_with fail
      obtain ⟨v0, hwd⟩ : ∃ X, w4.drew = X := ⟨_, rfl⟩
      have bq : Below w4.heap.size w4 v0 := by rw [← hwd]; exact (Below.refl _ w4).drew
      replace HPB4 := Lib.hid (HPB4.out.below bq HPB4.out.lt)
      replace HOB4 := Lib.hid (HOB4.out.below bq HOB4.out.lt)
      replace HWB4 := Lib.hid (HWB4.out.below bq HWB4.out.lt)
      replace HEB4 := Lib.hid (HEB4.out.below bq HEB4.out.lt)
      replace HB4 := Lib.hid (HB4.out.trans (bq.mono HB4.out.size))
      replace HDK4 := Lib.hid ((kept_below bq).2 D_ _ HDK4.out rfl)
      replace HST4 := Lib.hid (HST4.out.step (Keeps.of_below (L := 0) bq))
      replace HHI4 := Lib.hid (HHI4.out.keeps (Keeps.of_below (L := 0) bq))
      replace HOW4 := Lib.hid (ly_own HOW4.out (Keeps.of_below (L := 0) bq))
      clear bq
      refine onlyN_of (wpJ_wide (fun X => Blk X g2 29 (stC y3 T3) ∧ Blk X g3 32 #[.int .i64 qa, .int .u32 (qb : Int), .int .u32 (qi : Int), .int .u32 (qt : Int), .int .u32 (qs : Int)] ∧ Blk X g4 35 #[.slice au (ps'.length + 1) cu]) [0, 1, 2, 3, 4, 5, 6] hmx (by kernel_rfl) (fun h => by obtain ⟨_, _, h⟩ := h; exact h) rfl hwd ?_)
      have hS : Blk v0 g2 29 (stC y3 T3) ∧ Blk v0 g3 32 #[.int .i64 qa, .int .u32 (qb : Int), .int .u32 (qi : Int), .int .u32 (qt : Int), .int .u32 (qs : Int)] ∧ Blk v0 g4 35 #[.slice au (ps'.length + 1) cu] := ⟨HOB4.out, HPB4.out, HWB4.out⟩
      clear hwd
      iterate 3 (
        refine wpJ_read (v := ?_) hS rfl (by kernel_rfl) (by kernel_rfl) (by kernel_rfl) (fun _ _ _ h => h) (.inl ⟨by rfl, ?_⟩) ?_
        rotate_left
        · intro X hX
          have c0 := bx0 hX.1
          have c1 := bx1 hX.1
          have c2 := bx2 hX.1
          have c3 := bx3 hX.1
          have c4 := bx4 hX.1
          have c5 := bx0 hX.2.1
          have c6 := bx1 hX.2.1
          have c7 := bx2 hX.2.1
          have c8 := bx3 hX.2.1
          have c9 := bx4 hX.2.1
          have ca := hX.2.2.cell 0
          clear hX
          go_simp
          with_reducible rfl
        try simp only [Act.put, List.setIfInBounds_toArray, List.set_cons_zero, List.set_cons_succ])
      clear hS
      have d0 := bx0 HOB4.out
      have d1 := bx1 HOB4.out
      have d2 := bx2 HOB4.out
      have d3 := bx3 HOB4.out
      have d4 := bx4 HOB4.out
      have df := fun i => HOB4.out.frozen i
      refine wpJ_lone rfl (by kernel_rfl) (fun K hK => ?_)
      go_simp
      clear d0 d1 d2 d3 d4 df
      obtain ⟨xa, ka, ba⟩ := box_five (L := 0) HOB4.out (by decide) (Nat.zero_le _) HB4.out (show w.heap.size ≤ g2 by have := HIX.out; have := HGY.out; have := HZW.out; omega) (.slice y3.d.ba T3.1.1.length y3.d.bc) (.slice y3.d.wa T3.1.2.length y3.d.wc) (.slice y3.a T3.2.1.length y3.c) (.int .u32 (T3.2.2.1 : Int)) (.int .u32 (T3.2.2.2 : Int))
      have yHPB4 := far5_bl HPB4.out (show g3 ≠ g2 by have := HIX.out; have := HGY.out; have := HZW.out; omega) (.slice y3.d.ba T3.1.1.length y3.d.bc) (.slice y3.d.wa T3.1.2.length y3.d.wc) (.slice y3.a T3.2.1.length y3.c) (.int .u32 (T3.2.2.1 : Int)) (.int .u32 (T3.2.2.2 : Int))
      have yHWB4 := far5_bl HWB4.out (show g4 ≠ g2 by have := HIX.out; have := HGY.out; have := HZW.out; omega) (.slice y3.d.ba T3.1.1.length y3.d.bc) (.slice y3.d.wa T3.1.2.length y3.d.wc) (.slice y3.a T3.2.1.length y3.c) (.int .u32 (T3.2.2.1 : Int)) (.int .u32 (T3.2.2.2 : Int))
      have yHEB4 := far5_bl HEB4.out (show g5 ≠ g2 by have := HIX.out; have := HGY.out; have := HZW.out; omega) (.slice y3.d.ba T3.1.1.length y3.d.bc) (.slice y3.d.wa T3.1.2.length y3.d.wc) (.slice y3.a T3.2.1.length y3.c) (.int .u32 (T3.2.2.1 : Int)) (.int .u32 (T3.2.2.2 : Int))
      have ydk := (kept_set5 v0 g2 (.slice y3.d.ba T3.1.1.length y3.d.bc) (.slice y3.d.wa T3.1.2.length y3.d.wc) (.slice y3.a T3.2.1.length y3.c) (.int .u32 (T3.2.2.1 : Int)) (.int .u32 (T3.2.2.2 : Int))).2 D_ _ HDK4.out rfl
      obtain ⟨v1, dn⟩ : ∃ X, set5 v0 g2 (.slice y3.d.ba T3.1.1.length y3.d.bc) (.slice y3.d.wa T3.1.2.length y3.d.wc) (.slice y3.a T3.2.1.length y3.c) (.int .u32 (T3.2.2.1 : Int)) (.int .u32 (T3.2.2.2 : Int)) = X := ⟨_, rfl⟩
      rw [dn] at xa ka ba ydk yHPB4 yHWB4 yHEB4
      simp only [set5] at dn
      rw [dn]
      replace HOB4 := Lib.hid xa
      replace HPB4 := Lib.hid yHPB4
      replace HWB4 := Lib.hid yHWB4
      replace HEB4 := Lib.hid yHEB4
      replace HB4 := Lib.hid ba
      replace HDK4 := Lib.hid ydk
      replace HST4 := Lib.hid (HST4.out.step ka)
      replace HHI4 := Lib.hid (HHI4.out.keeps ka)
      replace HOW4 := Lib.hid (ly_own HOW4.out ka)
      refine hK _ _ ⟨HOB4.out, HPB4.out, HWB4.out⟩ ?_
      clear hK K dn xa ka ba ydk yHPB4 yHWB4 yHEB4
      try simp only [Act.put, List.setIfInBounds_toArray, List.set_cons_zero, List.set_cons_succ]
      have d0 := bx0 HPB4.out
      have d1 := bx1 HPB4.out
      have d2 := bx2 HPB4.out
      have d3 := bx3 HPB4.out
      have d4 := bx4 HPB4.out
      have df := fun i => HPB4.out.frozen i
      refine wpJ_lone rfl (by kernel_rfl) (fun K hK => ?_)
      go_simp
      clear d0 d1 d2 d3 d4 df
      obtain ⟨xa, ka, ba⟩ := box_five (L := 0) HPB4.out (by decide) (Nat.zero_le _) HB4.out (show w.heap.size ≤ g3 by have := HIX.out; have := HGY.out; have := HZW.out; omega) (.int .i64 qa) (.int .u32 (qb : Int)) (.int .u32 (qi : Int)) (.int .u32 (qt : Int)) (.int .u32 (qs : Int))
      have yHOB4 := far5_bl HOB4.out (show g2 ≠ g3 by have := HIX.out; have := HGY.out; have := HZW.out; omega) (.int .i64 qa) (.int .u32 (qb : Int)) (.int .u32 (qi : Int)) (.int .u32 (qt : Int)) (.int .u32 (qs : Int))
      have yHWB4 := far5_bl HWB4.out (show g4 ≠ g3 by have := HIX.out; have := HGY.out; have := HZW.out; omega) (.int .i64 qa) (.int .u32 (qb : Int)) (.int .u32 (qi : Int)) (.int .u32 (qt : Int)) (.int .u32 (qs : Int))
      have yHEB4 := far5_bl HEB4.out (show g5 ≠ g3 by have := HIX.out; have := HGY.out; have := HZW.out; omega) (.int .i64 qa) (.int .u32 (qb : Int)) (.int .u32 (qi : Int)) (.int .u32 (qt : Int)) (.int .u32 (qs : Int))
      have ydk := (kept_set5 v1 g3 (.int .i64 qa) (.int .u32 (qb : Int)) (.int .u32 (qi : Int)) (.int .u32 (qt : Int)) (.int .u32 (qs : Int))).2 D_ _ HDK4.out rfl
      obtain ⟨v2, dn⟩ : ∃ X, set5 v1 g3 (.int .i64 qa) (.int .u32 (qb : Int)) (.int .u32 (qi : Int)) (.int .u32 (qt : Int)) (.int .u32 (qs : Int)) = X := ⟨_, rfl⟩
      rw [dn] at xa ka ba ydk yHOB4 yHWB4 yHEB4
      simp only [set5] at dn
      rw [dn]
      replace HPB4 := Lib.hid xa
      replace HOB4 := Lib.hid yHOB4
      replace HWB4 := Lib.hid yHWB4
      replace HEB4 := Lib.hid yHEB4
      replace HB4 := Lib.hid ba
      replace HDK4 := Lib.hid ydk
      replace HST4 := Lib.hid (HST4.out.step ka)
      replace HHI4 := Lib.hid (HHI4.out.keeps ka)
      replace HOW4 := Lib.hid (ly_own HOW4.out ka)
      refine hK _ _ ⟨HOB4.out, HPB4.out, HWB4.out⟩ ?_
      clear hK K dn xa ka ba ydk yHOB4 yHWB4 yHEB4
      try simp only [Act.put, List.setIfInBounds_toArray, List.set_cons_zero, List.set_cons_succ]
      have d0 := HWB4.out.cell 0
      have df := HWB4.out.frozen 0
      refine wpJ_lone rfl (by kernel_rfl) (fun K hK => ?_)
      go_simp
      clear d0 df
      have xa := HWB4.out.set_ 0 (.slice au (ps'.length + 1) cu)
      have ka : Keeps 0 v2 (v2.setCell ⟨g4, 0, none⟩ (.slice au (ps'.length + 1) cu)) := Keeps.of_box (only_setCell (p := ⟨g4, 0, none⟩) (World.grownBy.refl v2 (some g4)) (.inl rfl) (.slice au (ps'.length + 1) cu)) HWB4.out (by decide) (Nat.zero_le _)
      have ba := HB4.out.setCell (p := ⟨g4, 0, none⟩) (show w.heap.size ≤ g4 by have := HIX.out; have := HGY.out; have := HZW.out; omega) (.slice au (ps'.length + 1) cu)
      have yHOB4 := HOB4.out.far (p := ⟨g4, 0, none⟩) (show g2 ≠ g4 by have := HIX.out; have := HGY.out; have := HZW.out; omega) (.slice au (ps'.length + 1) cu)
      have yHPB4 := HPB4.out.far (p := ⟨g4, 0, none⟩) (show g3 ≠ g4 by have := HIX.out; have := HGY.out; have := HZW.out; omega) (.slice au (ps'.length + 1) cu)
      have yHEB4 := HEB4.out.far (p := ⟨g4, 0, none⟩) (show g5 ≠ g4 by have := HIX.out; have := HGY.out; have := HZW.out; omega) (.slice au (ps'.length + 1) cu)
      have ydk := (KeepsOthers.setCell v2 ⟨g4, 0, none⟩ (.slice au (ps'.length + 1) cu)).2 D_ _ HDK4.out rfl
      obtain ⟨v3, dn⟩ : ∃ X, v2.setCell ⟨g4, 0, none⟩ (.slice au (ps'.length + 1) cu) = X := ⟨_, rfl⟩
      rw [dn] at xa ka ba ydk yHOB4 yHPB4 yHEB4
      rw [dn]
      replace HWB4 := Lib.hid xa
      replace HOB4 := Lib.hid yHOB4
      replace HPB4 := Lib.hid yHPB4
      replace HEB4 := Lib.hid yHEB4
      replace HB4 := Lib.hid ba
      replace HDK4 := Lib.hid ydk
      replace HST4 := Lib.hid (HST4.out.step ka)
      replace HHI4 := Lib.hid (HHI4.out.keeps ka)
      replace HOW4 := Lib.hid (ly_own HOW4.out ka)
      refine hK _ _ ⟨HOB4.out, HPB4.out, HWB4.out⟩ ?_
      clear hK K dn xa ka ba ydk yHOB4 yHPB4 yHEB4
      try simp only [Act.put, List.setIfInBounds_toArray, List.set_cons_zero, List.set_cons_succ]
      have d0 := HEB4.out.cell 0
      have df := HEB4.out.frozen 0
      refine wpJ_last rfl (by kernel_rfl) (by kernel_rfl) (fun K hK => ?_)
      go_simp
      clear d0 df
      have xa := HEB4.out.set_ 0 (.int .i64 0)
      have ka : Keeps 0 v3 (v3.setCell ⟨g5, 0, none⟩ (.int .i64 0)) := Keeps.of_box (only_setCell (p := ⟨g5, 0, none⟩) (World.grownBy.refl v3 (some g5)) (.inl rfl) (.int .i64 0)) HEB4.out (by decide) (Nat.zero_le _)
      have ba := HB4.out.setCell (p := ⟨g5, 0, none⟩) (show w.heap.size ≤ g5 by have := HIX.out; have := HGY.out; have := HZW.out; omega) (.int .i64 0)
      have yHOB4 := HOB4.out.far (p := ⟨g5, 0, none⟩) (show g2 ≠ g5 by have := HIX.out; have := HGY.out; have := HZW.out; omega) (.int .i64 0)
      have yHPB4 := HPB4.out.far (p := ⟨g5, 0, none⟩) (show g3 ≠ g5 by have := HIX.out; have := HGY.out; have := HZW.out; omega) (.int .i64 0)
      have yHWB4 := HWB4.out.far (p := ⟨g5, 0, none⟩) (show g4 ≠ g5 by have := HIX.out; have := HGY.out; have := HZW.out; omega) (.int .i64 0)
      have ydk := (KeepsOthers.setCell v3 ⟨g5, 0, none⟩ (.int .i64 0)).2 D_ _ HDK4.out rfl
      obtain ⟨v4, dn⟩ : ∃ X, v3.setCell ⟨g5, 0, none⟩ (.int .i64 0) = X := ⟨_, rfl⟩
      rw [dn] at xa ka ba ydk yHOB4 yHPB4 yHWB4
      rw [dn]
      replace HEB4 := Lib.hid xa
      replace HOB4 := Lib.hid yHOB4
      replace HPB4 := Lib.hid yHPB4
      replace HWB4 := Lib.hid yHWB4
      replace HB4 := Lib.hid ba
      replace HDK4 := Lib.hid ydk
      replace HST4 := Lib.hid (HST4.out.step ka)
      replace HHI4 := Lib.hid (HHI4.out.keeps ka)
      replace HOW4 := Lib.hid (ly_own HOW4.out ka)
      refine hK _ _ ?_
      clear hK K dn xa ka ba ydk yHOB4 yHPB4 yHWB4
      try simp only [Act.put, List.setIfInBounds_toArray, List.set_cons_zero, List.set_cons_succ]
      refine wpJ_done (by kernel_rfl) (onlyN_n ?_)
      gi_wp2_with fail
      refine ⟨by simp, .inl ⟨_, _, rfl, run_takeDeferred HDK4.out, ?_⟩⟩
      have gd := grownBy_putObj' v4 D_ (.deferred none)
      have hwk : ∀ r, some D_ = some r → 0 ≤ r ∧ ∃ o : Obj, v4.heap[r]? = some o ∧ o.isCells = false := fun r e => by cases e; exact ⟨Nat.zero_le _, _, HDK4.out, rfl⟩
      have kd := keeps_walk (L := 0) gd (Nat.le_refl 0) hwk
      have zo := blk_kept HOB4.out gd (fun r e => (hwk r e).2)
      have zp := blk_kept HPB4.out gd (fun r e => (hwk r e).2)
      have zw := blk_kept HWB4.out gd (fun r e => (hwk r e).2)
      have ze := blk_kept HEB4.out gd (fun r e => (hwk r e).2)
      have bd := HB4.out.trans (below_putO v4 (.deferred none) (show w.heap.size ≤ D_ by have := HDD.out; have := HIX.out; have := HGY.out; have := HZW.out; omega))
      obtain ⟨v5, hv5⟩ : ∃ X, v4.putObj D_ (.deferred none) = X := ⟨_, rfl⟩
      rw [hv5] at gd kd zo zp zw ze bd ⊢
      have e0 := bx0 zo
      have e1 := bx1 zo
      have e2 := bx2 zo
      have e3 := bx3 zo
      have e4 := bx4 zo
      have i0 := bx0 zp
      have i1 := bx1 zp
      have i2 := bx2 zp
      have i3 := bx3 zp
      have i4 := bx4 zp
      have j0 := zw.cell 0
      have k0 := ze.cell 0
      refine ⟨.tuple #[stV y3 T3, ptV (qa, qb, qi, qt, qs), .slice au (ps'.length + 1) cu, .int .i64 0], by simp [results, Tryz.f6, go_sem, e0, e1, e2, e3, e4, i0, i1, i2, i3, i4, j0, k0], ?_⟩
      rw [HRES.out]
      exact ⟨y3, _, rfl, HST4.out.step kd, HHI4.out.keeps kd, by rw [blksD_len, List.length_append]; exact own_mono (ly_own HOW4.out kd) (show w.heap.size ≤ W0.heap.size by have := HIX.out; have := HGY.out; have := HZW.out; omega), bd⟩
/-- What Lay answers. -/
theorem ddLay_any (L : Nat) (x : SAt) (S : StL) (b : Nat) (a : Option Addr) (n c : Nat) (l : List Pt) (w : World) (h : StP L w x S) (hbi : b < 4294967296) (hr : Pts w w.heap.size a n c l) (hz : Szs w) (hL : L ≤ w.heap.size) :
    Calls Tryz.prog 6 #[stV x S, .int .u32 (b : Int), .slice a n c] w (NewLy (layO S b l) w) := by
  by_cases hm : MayS S ∧ MayDL l
  · by_cases hb : 1 ≤ b ∧ b ≤ 16777215
    · have hq : laskO S b l = 0 := by unfold laskO; rw [if_pos hm, if_pos hb]
      have ho : layO S b l = layedO S b l := by unfold layO; rw [if_pos hm, if_pos hb]
      rw [ho]
      by_cases hn : n = 0
      · have hl : l = [] := List.eq_nil_of_length_eq_zero (by rw [hr.1]; exact hn)
        have := ddLay_nil L x S b a n c l w h hm.1 hbi hr hz hL hq hn
        rwa [show layedO S b l = (S, p0, [], 0) by unfold layedO; rw [if_pos hl]]
      · exact callsIn_wide.1 (ddLay_in 3 (Nat.le_refl _) L x S b a n c l w h hm.1 hm.2 hb hr hz hL (by omega))
    · have hq : laskO S b l = 2 := by unfold laskO; rw [if_pos hm, if_neg hb]
      have := ddLay_err L x S b a n c l w h hbi hr hz hL (by rw [hq]; decide)
      rwa [hq, show ((st0, p0, [], 2) : StL × Pt × List Nat × Nat) = layO S b l by unfold layO; rw [if_pos hm, if_neg hb]] at this
  · have hq : laskO S b l = 8 := by unfold laskO; rw [if_neg hm]
    have := ddLay_err L x S b a n c l w h hbi hr hz hL (by rw [hq]; decide)
    rwa [hq, show ((st0, p0, [], 8) : StL × Pt × List Nat × Nat) = layO S b l by unfold layO; rw [if_neg hm]] at this
end Go.Proofs.YtjdjbonljohnbaaGreatDoor
