/-
  sign.above of a row of nodes of one height answers the nodes above them, in a row of the call's own; nothing that was there is written.
-/
import Derived.Test.YtoednighmdoooaaPairs
import Derived.Test.YtoednighmdoooaaEndless
namespace Go.Proofs.Ytoednighmdoooaa
open Go.RowKit Go.Shelf
set_option maxRecDepth 100000
attribute [local go_sem] Oper.semAt_some

/-- The node of number j of the height above. -/
def aboveL (h : Nat) (f : Nat → List UInt8) (j : Nat) : List UInt8 := upL h (f (2 * j)) (f (2 * j + 1))
/-- What the loop keeps. -/
def AbI (h g q : Nat) (f : Nat → List UInt8) (pre : List (Fin q)) (W : World) : Prop :=
  Blk W g 3 #[.int .i64 h] ∧ Blk W (g + 2) 42 #[.slice (some ⟨g + 1, 0, none⟩) pre.length q] ∧
    ∃ ws, W.ownsRow g 22 1 (.slice (some ⟨g + 1, 0, none⟩) pre.length q) pre.length ws ∧ Nodes W (g + 3) ws pre.length (fun i => aboveL h f ((pre.map (·.val)).getD i 0))
theorem Nodes.congr {w : World} {lo n : Nat} {vs : List Value} {f f' : Nat → List UInt8} (h : Nodes w lo vs n f) (e : ∀ i, i < n → f i = f' i) : Nodes w lo vs n f' := ⟨h.1, fun i hi => by rw [← e i hi]; exact h.2 i hi⟩
theorem nodes_more {W : World} {lo : Nat} {ws : List Value} {v : Value} {q : Nat} (h : Nat) (f : Nat → List UInt8) (pre : List (Fin q)) (x : Fin q) (n : Nat) (hp : pre.length = n)
    (hn : Nodes W lo ws n (fun i => aboveL h f ((pre.map (·.val)).getD i 0))) (hv : At16 W lo v (aboveL h f x.val)) : Nodes W lo (ws ++ [v]) (n + 1) (fun i => aboveL h f (((pre ++ [x]).map (·.val)).getD i 0)) := by
  have e1 : ∀ i, i < n → ((pre ++ [x]).map (·.val)).getD i 0 = (pre.map (·.val)).getD i 0 := fun i hi => by
    rw [List.map_append, List.getD_eq_getElem?_getD, List.getD_eq_getElem?_getD, List.getElem?_append_left (by rw [List.length_map]; omega)]
  have e2 : ((pre ++ [x]).map (·.val)).getD n 0 = x.val := by
    rw [List.map_append, List.getD_eq_getElem?_getD, List.getElem?_append_right (by rw [List.length_map]; omega), List.length_map, hp, Nat.sub_self]
    rfl
  obtain ⟨F, hF⟩ : ∃ F : Nat → List UInt8, aboveL h f = F := ⟨_, rfl⟩
  rw [hF] at hn hv ⊢
  refine Nodes.snoc (hn.congr fun i hi => ?_) ?_
  · show F _ = F _
    rw [e1 i hi]
  · show At16 W lo v (F _)
    rw [e2]
    exact hv
theorem At16.kept {w w' : World} {lo : Nat} {v : Value} {x : List UInt8} {row : Option Nat} (h : At16 w lo v x) (hg : w.grownBy w' row) (hk : ∀ r, row = some r → ∃ o : Obj, w.heap[r]? = some o ∧ o.isCells = false) : At16 w' lo v x := by
  obtain ⟨b, c, rfl, h2, h3⟩ := h
  refine ⟨b, c, rfl, h2, h3.1, h3.2.1, h3.2.2.1, h3.2.2.2.1, fun hl => ?_⟩
  obtain ⟨b', o', e, hlt, hc⟩ := h3.2.2.2.2 hl
  exact ⟨b', o', e, Nat.lt_of_lt_of_le hlt hg.size, fun i hi => cell_kept (hc i hi) hg hk⟩
theorem blk_kept {w w' : World} {b : Nat} {t : TypeId} {cs : Array Value} {row : Option Nat} (h : Blk w b t cs) (hg : w.grownBy w' row) (hk : ∀ r, row = some r → ∃ o : Obj, w.heap[r]? = some o ∧ o.isCells = false) : Blk w' b t cs :=
  h.grown hg (fun e' => by obtain ⟨o, ho, hc⟩ := hk b e'.symm; rw [show w.heap[b]? = _ from h] at ho; cases ho; cases hc)
theorem own_kept {w w' : World} {B g n cap : Nat} {e : TypeId} {xs : List Value} {row : Option Nat} (h : w.ownsRow B e 1 (.slice (some ⟨g, 0, none⟩) n cap) n xs) (hg : w.grownBy w' row) (hk : ∀ r, row = some r → ∃ o : Obj, w.heap[r]? = some o ∧ o.isCells = false) : w'.ownsRow B e 1 (.slice (some ⟨g, 0, none⟩) n cap) n xs := by
  refine h.kept hg (.inr fun er => ?_)
  obtain ⟨o, ho, hc⟩ := hk g (by simpa [Value.ownBlock] using er.symm)
  obtain ⟨h1, ⟨h2, h3⟩ | ⟨g', cap', cur, h2, hb, hh, _⟩⟩ := h
  · cases h2
  · cases h2
    rw [hh] at ho; cases ho; cases hc
theorem abI_own (h g q : Nat) (f : Nat → List UInt8) : Own (AbI h g q f) := fun pre A B row hs hg hr => by
  obtain ⟨h1, h2, ws, h3, h4⟩ := hs
  exact ⟨blk_kept h1 hg hr, blk_kept h2 hg hr, ws, own_kept h3 hg hr, h4.1, fun i hi => (h4.2 i hi).kept hg hr⟩
theorem keepsOthers_grown {W W' : World} {g : Nat} {t : TypeId} {cs : Array Value} (h : W.grownBy W' (some g)) (hb : Blk W g t cs) : KeepsOthers W W' :=
  ⟨h.size, fun k o hk ho => (h.block k (Array.getElem?_eq_some_iff.1 hk).1 (fun e => by
    obtain rfl : k = g := Option.some.inj e
    rw [show W.heap[k]? = _ from hb] at hk
    cases hk
    cases ho)).trans hk⟩
theorem own_blk {w : World} {B g n cap : Nat} {e : TypeId} {xs : List Value} (h : w.ownsRow B e 1 (.slice (some ⟨g, 0, none⟩) n cap) n xs) : ∃ cs, Blk w g e cs := by
  obtain ⟨h1, ⟨h2, h3⟩ | ⟨g', cap', cur, h2, hb, hh, _⟩⟩ := h
  · cases h2
  · cases h2
    exact ⟨_, hh⟩
theorem make_nodes (q : Nat) (hq : q ≤ 4) : ∃ cs : Array Value, cs.size = q ∧ ∀ W : World, (Instr.makeSlice 42 (.int .i64 0) (.int .i64 q)).run Try.prog W = .ok (.slice (some ⟨W.heap.size, 0, none⟩) 0 q) (W.alloc (.cells cs 22)) := by
  obtain ⟨i0, hi, hz0, hz1, hz2⟩ := info_parts infoSl
  refine ⟨madeCells (Value.slice none 0 0).cells (q * i0.size), by rw [size_madeCells, hz1, Nat.mul_one], fun W => ?_⟩
  have hr := run_make (P := Try.prog) W 42 22 i0 (.slice none 0 0) Try.underlying42 hi hz0 .i64 .i64 0 q (Int.le_refl _) (by omega) (by rw [hz2]; omega) (by omega)
  simpa using hr
theorem nodes_range {W : World} {lo : Nat} {ws : List Value} (h : Nat) (f : Nat → List UInt8) (q : Nat) (ys : List (Fin q)) (hy : ys.map (·.val) = List.range q)
    (hn : Nodes W lo ws q (fun i => aboveL h f ((ys.map (·.val)).getD i 0))) : Nodes W lo ws q (aboveL h f) := by
  obtain ⟨F, hF⟩ : ∃ F : Nat → List UInt8, aboveL h f = F := ⟨_, rfl⟩
  rw [hF] at hn ⊢
  refine hn.congr fun i hi => ?_
  show F _ = F _
  rw [hy, List.getD_eq_getElem?_getD, List.getElem?_range hi]
  rfl
set_option maxHeartbeats 4000000 in
theorem above_in (m : Nat) (hm : 3 ≤ m) (h : Nat) (hh : h < 3) (q : Nat) (hq : q ≤ 4) (gr cap : Nat) (vs : List Value) (f : Nat → List UInt8) (w : World) (hown : w.ownsRow 0 22 1 (.slice (some ⟨gr, 0, none⟩) (2 * q) cap) (2 * q) vs) (hN : Nodes w 0 vs (2 * q) f) :
    CallsIn Fence.wide m Try.prog 23 #[.int .i64 h, .slice (some ⟨gr, 0, none⟩) (2 * q) cap] w (RowPost q (aboveL h f) w) := by
  have hro : Fence.wide.round = none := rfl
  have hmx : Try.prog.follows Departure.mixedOrders = true := by kernel_rfl
  obtain ⟨cs, hcs, hmk⟩ := make_nodes q hq
  obtain ⟨L, hL⟩ : ∃ L, 2 * q = L := ⟨_, rfl⟩
  have hcell := fun i (hi : i < 2 * q) => own_cell hown i hi
  have hgr := (own_lt hown).2
  rw [hL] at hown ⊢
  have i0 : (0 : Int) ≤ L := by omega
  have i1 : (L : Int) ≤ 8 := by omega
  have i2 : (0 : Int) ≤ q := by omega
  have i3 : (q : Int) ≤ 4 := by omega
  have i4 : (L : Int) / 2 = (q : Int) := by omega
  have i5 : Int.tdiv (L : Int) 2 = (q : Int) := by rw [Int.tdiv_eq_ediv_of_nonneg (by omega)]; exact i4
  have HOW := Lib.hid hown; clear hown
  have HNW := Lib.hid hN; clear hN
  have HL := Lib.hid hL; clear hL
  have HCS := Lib.hid hcs; clear hcs
  have HCE := Lib.hid hcell; clear hcell
  refine callsIn_of_wp_marks Try.func23 rfl trivial ?_ hro
  simp only [Try.ntmps23, List.size_toArray, List.length_cons, List.length_nil, Nat.reduceAdd, Nat.reduceSub, Array.replicate_succ, Array.replicate_zero, List.push_toArray, List.append_toArray, List.nil_append, List.cons_append]
  have hd : 1 ≤ m := by omega
  gi_wp2_with (refine ⟨trivial, ?_⟩; (gi_at_call 36; refine (pairs_in Fence.wide (m - 1) trivial hro _ _ _ _).mono ?_; rintro e w' ⟨rfl, rfl⟩))
  obtain ⟨g, hg⟩ : ∃ g, w.heap.size = g := ⟨_, rfl⟩
  obtain ⟨W0, hW0⟩ : ∃ W0, ((((w.alloc (Obj.cells #[Value.int IntKind.i64 ↑h] 3)).alloc (Obj.cells cs 22)).alloc (Obj.cells #[Value.slice (some { block := w.heap.size + 1, off := 0 }) 0 q] 42)).alloc (Obj.cells #[Value.slice (some { block := gr, off := 0 }) L cap] 42)) = W0 := ⟨_, rfl⟩
  have hsz : W0.heap.size = g + 4 := by rw [← hW0]; simp [hg]
  have hB0 : Below g w W0 := by rw [← hW0, ← hg]; exact ((((Below.refl _ w).alloc (Nat.le_refl _) _).alloc (by simp) _).alloc (by simp; omega) _).alloc (by simp; omega) _
  have b0 : Blk W0 g 3 #[.int .i64 h] := by rw [← hW0, ← hg]; exact (((Blk.new w _ _).alloc _).alloc _).alloc _
  have b1 : Blk W0 (g + 1) 22 cs := by
    have := ((Blk.new (w.alloc (Obj.cells #[Value.int IntKind.i64 ↑h] 3)) 22 cs).alloc (Obj.cells #[Value.slice (some { block := w.heap.size + 1, off := 0 }) 0 q] 42)).alloc (Obj.cells #[Value.slice (some { block := gr, off := 0 }) L cap] 42)
    rw [World.size_alloc, hg] at this
    rw [← hW0, hg]
    exact this
  have b2 : Blk W0 (g + 2) 42 #[.slice (some ⟨g + 1, 0, none⟩) 0 q] := by
    have := (Blk.new ((w.alloc (Obj.cells #[Value.int IntKind.i64 ↑h] 3)).alloc (Obj.cells cs 22)) 42 #[Value.slice (some { block := w.heap.size + 1, off := 0 }) 0 q]).alloc (Obj.cells #[Value.slice (some { block := gr, off := 0 }) L cap] 42)
    rw [World.size_alloc, World.size_alloc, hg] at this
    rw [← hW0, hg]
    exact this
  have b3 : Blk W0 (g + 3) 42 #[.slice (some ⟨gr, 0, none⟩) L cap] := by
    have := (Blk.new (((w.alloc (Obj.cells #[Value.int IntKind.i64 ↑h] 3)).alloc (Obj.cells cs 22)).alloc (Obj.cells #[Value.slice (some { block := w.heap.size + 1, off := 0 }) 0 q] 42)) 42 #[Value.slice (some { block := gr, off := 0 }) L cap])
    rw [World.size_alloc, World.size_alloc, World.size_alloc, hg] at this
    rw [← hW0, hg]
    exact this
  have ho0 : W0.ownsRow g 22 1 (.slice (some ⟨g + 1, 0, none⟩) 0 q) 0 [] :=
    ⟨rfl, .inr ⟨g + 1, q, cs, rfl, by omega, b1, Nat.zero_le _, by unfold maxLen; omega, by rw [HCS.out]; simp, rfl⟩⟩
  have hNW0 := HNW.out.step (w' := W0) (by rw [hg]; exact hB0)
  rw [hW0, hg]
  have hqL : 2 * q = L := HL.out
  have hR : ReachP (g + 3) gr q cap vs W0 := ⟨by rw [hqL]; exact b3.cell 0, fun i hi => (hB0.cell (p := ⟨gr, i, none⟩) (by rw [← hg]; exact hgr)).trans (HCE.out i hi)⟩
  unfold RowPost
  rw [hg]
  refine wpIn_rangeFunc_ownG hro hd (gf := 52) (lb := #[.pointer (some ⟨g + 1 + 1 + 1, 0, none⟩)]) rfl trivial (enters_of Try.func52 (by kernel_rfl) rfl)
    (stopsP (m - 1) (by omega) (g + 1 + 1 + 1) gr q cap vs (by omega) W0 (by omega) (by omega) hR) (fun h k r => k (h r)) (fun W l o o' _ h ho _ => reachP_putObj l o o' h ho) (Below.refl _ _) (fun _ => rfl)
    (fun pre W => AbI h g q f pre W ∧ Below g w W) (fun _ _ _ => False) ?hI (fun _ _ _ _ _ hs _ _ => hs) ⟨⟨b0, b2, [], ho0, nodes_nil _ _ _⟩, hB0⟩
    (fun x => { tmps := #[Value.int IntKind.i64 ↑h, Value.slice (some { block := gr, off := 0 }) L cap, Value.pointer (some { block := g, off := 0 }), undef, Value.slice none 0 0, Value.pointer (some { block := g + 1 + 1, off := 0 }), vs.getD (2 * x.val) undef, vs.getD (2 * x.val + 1) undef, Value.slice (some { block := gr, off := 0 }) L cap, Value.int IntKind.i64 ↑L, Value.int IntKind.i64 ↑q, Value.slice (some { block := g + 1, off := 0 }) 0 q, Value.slice (some { block := gr, off := 0 }) L cap, Value.func (Fn.func 52) #[] #[Value.pointer (some { block := g + 1 + 1 + 1, off := 0 })], vs.getD (2 * x.val) undef, vs.getD (2 * x.val + 1) undef, undef, undef, undef, undef, undef, undef, undef, undef], defers := [] }) ?assign ?body ?done ?stop
  case hI => exact OwnFrom.and ((abI_own h g q f).from _) (ownFrom_below (by omega) (by omega))
  case assign =>
    intro l x W K hK
    gi_wp2
    exact hK
  case body =>
    rintro l pre x W ⟨⟨hx, hm2, ws, ho, hn⟩, hB⟩ hpl
    obtain ⟨n, hn'⟩ : ∃ n, pre.length = n := ⟨_, rfl⟩
    obtain ⟨j, hj⟩ : ∃ j, x.val = j := ⟨_, rfl⟩
    have hjq : j < q := by rw [← hj]; exact x.isLt
    obtain ⟨ba, ca, hva, _, hba⟩ := HNW.out.2 (2 * j) (by omega)
    obtain ⟨bb, cb, hvb, _, hbb⟩ := HNW.out.2 (2 * j + 1) (by omega)
    rw [hn'] at hm2 ho hpl hn
    rw [hj, hva, hvb]
    obtain ⟨W1, hW1⟩ : ∃ W1, W.drew = W1 := ⟨_, rfl⟩
    have d1 : Below W.heap.size W W1 := hW1 ▸ (Below.refl _ W).drew
    have hzW : g ≤ W.heap.size := by rw [← hg]; exact hB.size
    have hB1 : Below g w W1 := hB.trans (d1.mono hzW)
    have x0 : Blk W1 g 3 #[.int .i64 h] := hx.below d1 hx.lt
    have x2 : Blk W1 (g + 2) 42 #[.slice (some ⟨g + 1, 0, none⟩) n q] := hm2.below d1 hm2.lt
    have o1 := own_below ho d1
    have n1 := hn.step d1
    have c0 := x0.cell 0
    have c2 := x2.cell 0
    have C0 := fun X (hX : Below W1.heap.size W1 X) => (hX.cell (World.block_lt_of_cell? W1 _ c0)).trans c0
    have C2 := fun X (hX : Below W1.heap.size W1 X) => (hX.cell (p := ⟨g + 1 + 1, 0, none⟩) (World.block_lt_of_cell? W1 _ c2)).trans c2
    have bw : Below W1.heap.size W1 W1 := Below.refl _ _
    have HJ := Lib.hid (join_any h hh _ _ _ _ _ _ W1 (hba.step (by rw [hg]; exact hB1)) (hbb.step (by rw [hg]; exact hB1)))
    have hz1 : g + 3 ≤ W1.heap.size := x2.lt
    have HX0 := Lib.hid x0
    have HX2 := Lib.hid x2
    have HO1 := Lib.hid o1
    have HN1 := Lib.hid n1
    have HB1 := Lib.hid hB1
    have HD1 := Lib.hid d1
    have HW1 := Lib.hid hW1
    have HN' := Lib.hid hn'
    have HJX := Lib.hid hj
    have HG := Lib.hid hg
    have HHX := Lib.hid hm2
    have HHO := Lib.hid ho
    clear hx hm2 ho hn hB x0 x2 o1 n1 hB1 d1 hW1 hn' hva hvb hba hbb c0 c2 b0 b1 b2 b3 ho0 hR hNW0 hB0 hW0 hj hg
    gi_wp2_with fail
    refine wpS_round [0, 1, 2, 3, 4, 5, 6, 7] hmx (by kernel_rfl) (fun h => by obtain ⟨_, _, h⟩ := h; exact h) rfl HW1.out ?_
    refine wpS_read (v := ?_) rfl (by kernel_rfl) (by kernel_rfl) (by kernel_rfl) (fun _ _ _ h => h) (.inl ⟨by rfl, ?_⟩) ?_
    rotate_left
    · intro X hX
      have hXa := hX _ bw
      go_simp
      with_reducible rfl
    try simp only [Act.put, List.setIfInBounds_toArray, List.set_cons_zero, List.set_cons_succ]
    refine wpS_read (v := ?_) rfl (by kernel_rfl) (by kernel_rfl) (by kernel_rfl) (fun _ _ _ h => h) (.inl ⟨by rfl, ?_⟩) ?_
    rotate_left
    · intro X hX
      have hXa := hX _ bw
      go_simp
      with_reducible rfl
    try simp only [Act.put, List.setIfInBounds_toArray, List.set_cons_zero, List.set_cons_succ]
    refine wpS_read (v := ?_) rfl (by kernel_rfl) (by kernel_rfl) (by kernel_rfl) (fun _ _ _ h => h) (.inl ⟨by rfl, ?_⟩) ?_
    rotate_left
    · intro X hX
      go_simp
      with_reducible rfl
    try simp only [Act.put, List.setIfInBounds_toArray, List.set_cons_zero, List.set_cons_succ]
    refine wpS_read (v := ?_) rfl (by kernel_rfl) (by kernel_rfl) (by kernel_rfl) (fun _ _ _ h => h) (.inl ⟨by rfl, ?_⟩) ?_
    rotate_left
    · intro X hX
      go_simp
      with_reducible rfl
    try simp only [Act.put, List.setIfInBounds_toArray, List.set_cons_zero, List.set_cons_succ]
    refine wpS_lone rfl (by kernel_rfl) (fun K hK => ?_)
    go_simp
    refine HJ.out.mono ?_
    rintro e W2 ⟨g2, c2, rfl, hge, h2, b2⟩
    refine hK _ _ (Stays.of_below b2) ?_
    clear hK K
    have bx := (Below.refl W2.heap.size W2).alloc (Nat.le_refl _) (.cells #[.slice (some ⟨g2, 0, none⟩) 16 c2] 22)
    have b3 := b2.trans (bx.mono b2.size)
    have hz2 := b2.size
    try simp only [Act.put, List.setIfInBounds_toArray, List.set_cons_zero, List.set_cons_succ]
    refine wpS_lone rfl (by kernel_rfl) (fun K hK => ?_)
    go_simp
    refine hK _ _ (Stays.of_below bx) ?_
    clear hK K
    have hxn := Blk.new W2 22 #[.slice (some ⟨g2, 0, none⟩) 16 c2]
    have hv2 : At16 W2 (g + 3) (.slice (some ⟨g2, 0, none⟩) 16 c2) (aboveL h f j) := ⟨g2, c2, rfl, Nat.le_trans hz1 hge, h2⟩
    have hn3 := nodes_more h f pre x n HN'.out (HN1.out.step b2) (by rw [HJX.out]; exact hv2)
    have hn4 := hn3.step bx
    have ho3 := own_below (own_below HO1.out b2) bx
    have x03 := (HX0.out.below b3 (by omega))
    have x23 := (HX2.out.below b3 (by omega))
    have hB3 := HB1.out.trans (b3.mono (by omega))
    have HX03 := Lib.hid x03
    have HX23 := Lib.hid x23
    have HB3 := Lib.hid hB3
    have HN4 := Lib.hid hn4
    have HO3 := Lib.hid ho3
    have HXN := Lib.hid hxn
    have HB31 := Lib.hid b3
    have hz3 := bx.size
    obtain ⟨W3, hW3⟩ : ∃ W3, W2.alloc (.cells #[.slice (some ⟨g2, 0, none⟩) 16 c2] 22) = W3 := ⟨_, rfl⟩
    rw [hW3] at HX03 HX23 HB3 HN4 HO3 HXN HB31 hz3 ⊢
    clear hn3 hn4 ho3 x03 x23 hB3 hxn b3 bx hW3 h2 b2 C0 C2 bw HJ
    try simp only [Act.put, List.setIfInBounds_toArray, List.set_cons_zero, List.set_cons_succ]
    refine wpS_append_node rfl (by kernel_rfl) (by kernel_rfl) rfl (.tmp 16) (.tmp 21) rfl g (g + 1) n q ws rfl HO3.out W2.heap.size _ rfl HXN.out rfl (by omega) ?_
    intro W4 ho4 hg4
    have hz4 := hg4.size
    have x04 := HX03.out.grown hg4 (by simp)
    have x24 := HX23.out.grown hg4 (by simp)
    have hB4 := HB3.out.grown hg4 (by omega) (fun k e => by injection e with e; omega)
    have hn4 := HN4.out.beside hg4 (by omega)
    obtain ⟨cs3, hcs3⟩ := own_blk HO3.out
    have hk4 : KeepsOthers W W4 := ((keepsOthers_below HD1.out).trans (keepsOthers_below HB31.out)).trans (keepsOthers_grown hg4 hcs3)
    have hr4 : ReachP (g + 1 + 1 + 1) gr q cap vs W → ReachP (g + 1 + 1 + 1) gr q cap vs W4 := fun hr => by
      have l1 := World.block_lt_of_cell? W _ hr.1
      have d1 := HD1.out.size
      have dd := HD1.out.trans (HB31.out.mono d1)
      refine ⟨?_, fun i hi => ?_⟩
      · have l2 : g + 1 + 1 + 1 < W3.heap.size := Nat.lt_of_lt_of_le l1 dd.size
        exact (World.cell?_of_block (a := ⟨g + 1 + 1 + 1, 0, none⟩) (hg4.block (g + 1 + 1 + 1) l2 (by simp; omega))).trans ((dd.cell l1).trans hr.1)
      · have l3 := World.block_lt_of_cell? W _ (hr.2 i hi)
        have l4 : gr < W3.heap.size := Nat.lt_of_lt_of_le l3 dd.size
        have hgl := HG.out
        exact (World.cell?_of_block (a := ⟨gr, i, none⟩) (hg4.block gr l4 (by simp; omega))).trans ((dd.cell l3).trans (hr.2 i hi))
    have f4 : W4.frozen? ⟨g + 1 + 1, 0, none⟩ = false := x24.frozen 0
    have c4 : W4.cell? ⟨g + 1 + 1, 0, none⟩ = some (.slice (some ⟨g + 1, 0, none⟩) n q) := x24.cell 0
    have OX : AbI h g q f (pre ++ [x]) (W4.setCell ⟨g + 2, 0, none⟩ (.slice (some ⟨g + 1, 0, none⟩) (n + 1) q)) ∧ Below g w (W4.setCell ⟨g + 2, 0, none⟩ (.slice (some ⟨g + 1, 0, none⟩) (n + 1) q)) := by
      have hl : (pre ++ [x]).length = n + 1 := by rw [List.length_append, HN'.out]; rfl
      have gs : W4.grownBy (W4.setCell ⟨g + 2, 0, none⟩ (.slice (some ⟨g + 1, 0, none⟩) (n + 1) q)) (some (g + 2)) := only_setCell (World.grownBy.refl _ _) (.inl rfl) _
      refine ⟨⟨x04.far (by simp) _, ?_, ws ++ [.slice (some ⟨g2, 0, none⟩) 16 c2], ?_, ?_⟩, hB4.setCell (p := ⟨g + 2, 0, none⟩) (by simp) _⟩
      · rw [hl]; exact x24.set_ 0 _
      · rw [hl]; exact own_other ho4 gs (fun k e => by simp [Value.ownBlock] at e; omega)
      · rw [hl]; exact hn4.beside gs (by omega)
    have OX := Lib.hid OX
    have HK4 := Lib.hid (hk4.trans (KeepsOthers.setCell W4 ⟨g + 2, 0, none⟩ (.slice (some ⟨g + 1, 0, none⟩) (n + 1) q)))
    have HR4 := Lib.hid (show ReachP (g + 1 + 1 + 1) gr q cap vs W → ReachP (g + 1 + 1 + 1) gr q cap vs (W4.setCell ⟨g + 2, 0, none⟩ (.slice (some ⟨g + 1, 0, none⟩) (n + 1) q)) from fun hr => by
      have h4 := hr4 hr
      have hgl := HG.out
      exact ⟨(World.cell?_setCell_other _ _ _ _ (fun e => by injection e; omega)).trans h4.1, fun i hi => (World.cell?_setCell_other _ _ _ _ (fun e => by injection e; omega)).trans (h4.2 i hi)⟩)
    clear x04 x24 hB4 hn4 hk4 hr4 ho4 hg4 hcs3 HX03 HX23 HB3 HN4 HO3 HXN HB31
    try simp only [Act.put, List.setIfInBounds_toArray, List.set_cons_zero, List.set_cons_succ]
    refine wpS_last rfl (by kernel_rfl) (by kernel_rfl) (fun K hK => ?_)
    go_simp
    refine hK _ _ ?_
    clear hK K
    refine wpS_done (by kernel_rfl) ?_
    gi_wp2_with fail
    exact ⟨HK4.out.from _, HR4.out, OX.out⟩
  case done =>
    rintro D ys W hD hC ⟨⟨hx, hm2, ws, ho, hn⟩, hB⟩ hK
    have hC' : ys.map (·.val) = List.range q := hC
    have hl : ys.length = q := by have := congrArg List.length hC'; simpa using this
    rw [hl] at hm2 ho hn
    have hn2 := nodes_range h f q ys hC' hn
    have c2 : W.cell? ⟨g + 1 + 1, 0, none⟩ = some (.slice (some ⟨g + 1, 0, none⟩) q q) := hm2.cell 0
    have HO := Lib.hid ho
    have HN := Lib.hid hn2
    have HB := Lib.hid hB
    have HK := Lib.hid hK
    have HSZ := Lib.hid hsz
    have hDg : g + 4 ≤ D := by omega
    have HG := Lib.hid hg
    clear hx hm2 ho hn hB hK hC hC' hl hn2 hsz b0 b1 b2 b3 ho0 hR hNW0 hB0 hW0 hg
    gi_wp2_with fail
    refine ⟨by simp, .inl ⟨_, _, rfl, run_takeDeferred HK.out, ?_⟩⟩
    have hk : ∀ r, some D = some r → ∃ o : Obj, W.heap[r]? = some o ∧ o.isCells = false := fun r e => by cases e; exact ⟨_, HK.out, rfl⟩
    have hgD := grownBy_putObj' W D (.deferred none)
    refine ⟨.slice (some ⟨g + 1, 0, none⟩) q q, by simp [results, Try.f23, go_sem], g + 1, ws, rfl, by rw [HG.out]; exact own_kept HO.out hgD hk, ⟨HN.out.1, fun i hi => ((HN.out.lower (by rw [HG.out]; omega)).2 i hi).kept hgD hk⟩, by rw [HG.out]; exact HB.out.trans (below_putObj _ (by omega))⟩
  case stop =>
    rintro D c pre W _ _ h _
    exact h.elim
theorem above_any (h : Nat) (hh : h < 3) (q : Nat) (hq : q ≤ 4) (gr cap : Nat) (vs : List Value) (f : Nat → List UInt8) (w : World) (hown : w.ownsRow 0 22 1 (.slice (some ⟨gr, 0, none⟩) (2 * q) cap) (2 * q) vs) (hN : Nodes w 0 vs (2 * q) f) :
    Calls Try.prog 23 #[.int .i64 h, .slice (some ⟨gr, 0, none⟩) (2 * q) cap] w (RowPost q (aboveL h f) w) := callsIn_wide.1 (above_in 3 (Nat.le_refl _) h hh q hq gr cap vs f w hown hN)
theorem above_node (sd : List UInt8) (h : Nat) : aboveL h (nodeL sd h) = nodeL sd (h + 1) := rfl
end Go.Proofs.Ytoednighmdoooaa
