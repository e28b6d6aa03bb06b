/-
  mix.Four, whatever bytes it is handed, answers the four words of these bytes; nothing that was there is written.
-/
import Derived.Test.YtoednighmdoooaaChunk
import Derived.Laws.CopyOwn
namespace Go.Proofs.Ytoednighmdoooaa
open Go.RowKit Go.Shelf
set_option maxRecDepth 100000
attribute [local go_sem] Oper.semAt_some

/-- b[:h], b nil or not. -/
theorem slice_to (W : World) (a : Option Addr) (len cap h : Nat) (hc : h ≤ cap) : (Instr.slice 22 (.slice a len cap) none (some (.int .i64 (h : Int))) none).run Try.prog W = .ok (.slice a h cap) W := by
  rw [run_slice_h W 22 _ _ _ (by kernel_rfl) .i64 _ (by omega) (by omega)]
  have hz : (Go.sizeOf (Try.prog.elem 22)).run Try.prog W = .ok 1 W := by kernel_rfl
  rw [hz]
  cases a <;> simp [Result.andThen, sliced, Addr.add]
/-- b[l:], b nil or not. -/
theorem slice_from (a : Option Addr) (len cap l : Nat) (hl : l ≤ len) (hc : len ≤ cap) : ∃ A', (∀ W : World, (Instr.slice 22 (.slice a len cap) (some (.int .i64 (l : Int))) none none).run Try.prog W = .ok (.slice A' (len - l) (cap - l)) W) ∧ (l < len → ∀ b off, a = some ⟨b, off, none⟩ → A' = some ⟨b, off + l, none⟩) := by
  have hz : ∀ W : World, (Go.sizeOf (Try.prog.elem 22)).run Try.prog W = .ok 1 W := fun W => by kernel_rfl
  cases a with
  | none =>
    refine ⟨none, fun W => ?_, fun _ b off h => by cases h⟩
    rw [run_slice_l W 22 _ _ _ (by kernel_rfl) .i64 _ (by omega) (by omega), hz]
    simp [Result.andThen, sliced]
    try omega
  | some x =>
    refine ⟨if cap = l then some x else some (if l = 0 then x else x.add l), fun W => ?_, fun h b off e => ?_⟩
    · rw [run_slice_l W 22 _ _ _ (by kernel_rfl) .i64 _ (by omega) (by omega), hz]
      have e0 : (if l = 0 then x else x.add l) = x.add l := by
        by_cases h0 : l = 0
        · subst h0; simp [Addr.add]
        · rw [if_neg h0]
      simp [Result.andThen, sliced, e0]
    · cases e
      rw [if_neg (by omega)]
      by_cases h0 : l = 0
      · subst h0; simp
      · rw [if_neg h0]; unfold Addr.add; rw [if_neg h0]

/-- Eight bytes of a text, one byte 1 and noughts behind it. -/
def octP (s : List UInt8) (j : Nat) : List UInt8 := [byteP s j, byteP s (j + 1), byteP s (j + 2), byteP s (j + 3), byteP s (j + 4), byteP s (j + 5), byteP s (j + 6), byteP s (j + 7)]
theorem octP_get (s : List UInt8) (j i : Nat) (h : i < (octP s j).length) : (octP s j)[i] = byteP s (j + i) := by
  have h8 : i < 8 := h
  have : i = 0 ∨ i = 1 ∨ i = 2 ∨ i = 3 ∨ i = 4 ∨ i = 5 ∨ i = 6 ∨ i = 7 := by omega
  rcases this with rfl | rfl | rfl | rfl | rfl | rfl | rfl | rfl <;> rfl
theorem octP_lo (s : List UInt8) (j : Nat) : (octP s j).take 4 = quadP s j := rfl
theorem octP_hi (s : List UInt8) (j : Nat) : ((octP s j).drop 4).take 4 = quadP s (j + 4) := rfl

/-- The words behind these pieces, whichever they are. -/
def foldP (s : List UInt8) (pre : List Nat) : W4 := pre.foldl (fun x k => stepW x (wordP s (8 * k)) (wordP s (8 * k + 4))) ⟨1, 2, 3, 4⟩
theorem foldP_snoc (s : List UInt8) (pre : List Nat) (k : Nat) : foldP s (pre ++ [k]) = stepW (foldP s pre) (wordP s (8 * k)) (wordP s (8 * k + 4)) := by simp [foldP]
theorem foldP_range (s : List UInt8) : ∀ k, foldP s (List.range k) = behind s k
  | 0 => rfl
  | k + 1 => by rw [List.range_succ, foldP_snoc, foldP_range s k]; rfl

theorem vals_length (s : List UInt8) : (vals s).length = s.length := by simp [vals]
/-- What copy lays at the beginning of eight noughts, and one byte 1 behind it. -/
theorem octP_laid (s : List UInt8) (L r : Nat) (hr : r < 8) (hs : s.length = L + r) :
    ((splice (List.replicate 8 (Value.int .u8 0)) 0 (vals (s.drop L))).toArray).setIfInBounds r (.int .u8 1) = (vals (octP s L)).toArray := by
  have hcl : (vals (s.drop L)).length = r := by rw [vals_length, List.length_drop]; omega
  obtain ⟨Z, hZ⟩ : ∃ Z, List.replicate 8 (Value.int .u8 0) = Z := ⟨_, rfl⟩
  have hZl : Z.length = 8 := by rw [← hZ]; rfl
  have hZg : ∀ i (h : i < Z.length), Z[i] = .int .u8 0 := by subst hZ; intro i h; exact List.getElem_replicate _
  rw [hZ]
  clear hZ
  have hlen : (splice Z 0 (vals (s.drop L))).length = 8 := by rw [length_splice _ _ _ (by omega), hZl]
  have ho : (vals (octP s L)).length = 8 := by rw [vals_length]; rfl
  apply Array.ext
  · rw [Array.size_setIfInBounds, List.size_toArray, List.size_toArray, hlen, ho]
  intro i h1 h2
  have hi8 : i < (octP s L).length := by rw [List.size_toArray, vals_length] at h2; exact h2
  have hi9 : i < 8 := hi8
  have hR : ((vals (octP s L)).toArray)[i] = .int .u8 ((byteP s (L + i)).toNat : Int) := by
    have hget := octP_get s L i hi8
    show (List.map (fun x : UInt8 => Value.int .u8 (x.toNat : Int)) (octP s L))[i]'(by rw [List.length_map]; exact hi8) = _
    rw [List.getElem_map, hget]
  refine Eq.trans ?_ hR.symm
  rw [Array.getElem_setIfInBounds (by rw [List.size_toArray, hlen]; exact hi9)]
  by_cases e : r = i
  · subst e
    rw [if_pos rfl]
    unfold byteP
    rw [dif_neg (by omega), if_pos (by omega)]
    rfl
  · rw [if_neg e]
    simp only [List.getElem_toArray, splice, List.take_zero, List.nil_append, Nat.zero_add]
    by_cases hlt : i < r
    · rw [List.getElem_append_left (by rw [hcl]; exact hlt)]
      simp only [vals, List.getElem_map, List.getElem_drop]
      unfold byteP
      rw [dif_pos (by omega)]
    · rw [List.getElem_append_right (by rw [hcl]; omega)]
      simp only [List.getElem_drop, hZg]
      unfold byteP
      rw [dif_neg (by omega), if_neg (by omega)]
      rfl

/-- What the loop of Four keeps: the block of x, that of the result, and what lay below. -/
def FourI (s : List UInt8) (g q : Nat) (w : World) (pre : List (Fin q)) (W : World) : Prop :=
  (Blk W (g + 1) 78 (cl (foldP s (pre.map (·.val)))) ∧ Blk W g 78 #[.int .u32 0, .int .u32 0, .int .u32 0, .int .u32 0]) ∧ Below g w W

theorem keepsOthers_below {W W' : World} (h : Below W.heap.size W W') : KeepsOthers W W' := ⟨h.size, fun k _ hk _ => (h.block k (Array.getElem?_eq_some_iff.1 hk).1).trans hk⟩
theorem keepsOthers_set4 (W : World) (g : Nat) (v0 v1 v2 v3 : Value) : KeepsOthers W ((((W.setCell ⟨g, 0, none⟩ v0).setCell ⟨g, 1, none⟩ v1).setCell ⟨g, 2, none⟩ v2).setCell ⟨g, 3, none⟩ v3) :=
  (((KeepsOthers.setCell _ _ _).trans (KeepsOthers.setCell _ _ _)).trans (KeepsOthers.setCell _ _ _)).trans (KeepsOthers.setCell _ _ _)
theorem cell_set4 {W : World} {g : Nat} {p : Addr} (hp : p.block ≠ g) (v0 v1 v2 v3 : Value) : ((((W.setCell ⟨g, 0, none⟩ v0).setCell ⟨g, 1, none⟩ v1).setCell ⟨g, 2, none⟩ v2).setCell ⟨g, 3, none⟩ v3).cell? p = W.cell? p := by
  have hne : ∀ i, (⟨g, i, none⟩ : Addr) ≠ p := fun i e => hp (by rw [← e])
  rw [World.cell?_setCell_other _ _ _ _ (hne 3), World.cell?_setCell_other _ _ _ _ (hne 2), World.cell?_setCell_other _ _ _ _ (hne 1), World.cell?_setCell_other _ _ _ _ (hne 0)]
theorem reachC_step {Bs Bn g : Nat} {A : Option Addr} {q cap : Nat} {W W1 : World} (hBs : Bs ≠ g) (hBn : Bn ≠ g) (hb : Below W.heap.size W W1) (v0 v1 v2 v3 : Value) (hR : ReachC Bs Bn A q cap W) :
    ReachC Bs Bn A q cap ((((W1.setCell ⟨g, 0, none⟩ v0).setCell ⟨g, 1, none⟩ v1).setCell ⟨g, 2, none⟩ v2).setCell ⟨g, 3, none⟩ v3) := by
  have h1 := World.block_lt_of_cell? W _ hR.1
  have h2 := World.block_lt_of_cell? W _ hR.2
  exact ⟨(cell_set4 (p := ⟨Bs, 0, none⟩) hBs _ _ _ _).trans ((hb.cell h1).trans hR.1), (cell_set4 (p := ⟨Bn, 0, none⟩) hBn _ _ _ _).trans ((hb.cell h2).trans hR.2)⟩
theorem blk_own {β : Type} (B : Nat) (t : TypeId) (f : β → Array Value) : Own (fun s W => Blk W B t (f s)) := fun s X Y row hs hg hrow =>
  Blk.grown hs hg (fun e' => by obtain ⟨o, ho, hc⟩ := hrow B e'.symm; rw [show X.heap[B]? = _ from hs] at ho; cases ho; cases hc)

set_option maxHeartbeats 2000000 in
theorem four_in (m : Nat) (hn : 3 ≤ m) (a : Option Addr) (len cap : Nat) (s : List UInt8) (w : World) (hA : Bsl w w.heap.size a len cap s) (hlen : len ≤ 4294967295) :
    CallsIn Fence.wide m Try.prog 58 #[.slice a len cap] w fun e W' => e = .returned (ag (fourW s)) ∧ Below w.heap.size w W' := by
  have hro : Fence.wide.round = none := rfl
  have hmx : Try.prog.follows Departure.mixedOrders = true := by kernel_rfl
  obtain ⟨q, hq⟩ : ∃ q, len / 8 = q := ⟨_, rfl⟩
  obtain ⟨r, hr⟩ : ∃ r, len % 8 = r := ⟨_, rfl⟩
  obtain ⟨L, hL⟩ : ∃ L, 8 * q = L := ⟨_, rfl⟩
  have hLl : L ≤ len := by omega
  have hlc := hA.2.1
  have hcm := hA.2.2.1
  have e1 : (len : Int) % 8 = (r : Int) := by omega
  have e2 : (len : Int) - (r : Int) = (L : Int) := by omega
  have hto := fun W => slice_to W a len cap L (by omega)
  obtain ⟨A', hfrom, hA'⟩ := slice_from a len cap L hLl hlc
  have i0 : (0 : Int) ≤ len := by omega
  have i1 : (len : Int) ≤ 4294967295 := by omega
  have i2 : (0 : Int) ≤ (r : Int) := by omega
  have i3 : (r : Int) ≤ 7 := by omega
  have HA := Lib.hid hA; clear hA
  have HA' := Lib.hid hA'; clear hA'
  have HQ := Lib.hid hq; clear hq
  have HR := Lib.hid hr; clear hr
  have HL := Lib.hid hL; clear hL
  have HFrom := Lib.hid hfrom; clear hfrom
  refine callsIn_of_wp_marks Try.func58 rfl trivial ?_ hro
  simp only [Try.ntmps58, List.size_toArray, List.length_cons, List.length_nil, Nat.reduceAdd, Nat.reduceSub, Array.replicate_succ, Array.replicate_zero, List.push_toArray, List.append_toArray, List.nil_append, List.cons_append]
  have hd : 1 ≤ m := by omega
  gi_wp2_with (refine ⟨trivial, ?_⟩; (gi_at_call 63; refine (chunk_in Fence.wide (m - 1) trivial hro _ _ _ _).mono ?_; rintro e w' ⟨rfl, rfl⟩))
  obtain ⟨g, hg⟩ : ∃ g, w.heap.size = g := ⟨_, rfl⟩
  obtain ⟨W0, hW0⟩ : ∃ W0, ((((w.alloc (Obj.cells #[Value.int IntKind.u32 0, Value.int IntKind.u32 0, Value.int IntKind.u32 0, Value.int IntKind.u32 0] 78)).alloc (Obj.cells #[Value.int IntKind.u32 1, Value.int IntKind.u32 2, Value.int IntKind.u32 3, Value.int IntKind.u32 4] 78)).alloc (Obj.cells #[Value.slice a L cap] 22)).alloc (Obj.cells #[Value.int IntKind.i64 8] 3)) = W0 := ⟨_, rfl⟩
  have hsz : W0.heap.size = g + 4 := by rw [← hW0]; simp [hg]
  have hB0 : Below g w W0 := by rw [← hW0, ← hg]; exact ((((Below.refl _ w).alloc (Nat.le_refl _) _).alloc (by simp) _).alloc (by simp; omega) _).alloc (by simp; omega) _
  have b0 : Blk W0 g 78 #[.int .u32 0, .int .u32 0, .int .u32 0, .int .u32 0] := by rw [← hW0, ← hg]; exact (((Blk.new w _ _).alloc _).alloc _).alloc _
  have b1 : Blk W0 (g + 1) 78 (cl ⟨1, 2, 3, 4⟩) := by
    have := ((Blk.new (w.alloc (Obj.cells #[Value.int IntKind.u32 0, Value.int IntKind.u32 0, Value.int IntKind.u32 0, Value.int IntKind.u32 0] 78)) 78 (cl ⟨1, 2, 3, 4⟩)).alloc (Obj.cells #[Value.slice a L cap] 22)).alloc (Obj.cells #[Value.int IntKind.i64 8] 3)
    rw [World.size_alloc, hg] at this
    rw [← hW0]
    exact this
  have b2 : Blk W0 (g + 2) 22 #[.slice a L cap] := by
    have := (Blk.new ((w.alloc (Obj.cells #[Value.int IntKind.u32 0, Value.int IntKind.u32 0, Value.int IntKind.u32 0, Value.int IntKind.u32 0] 78)).alloc (Obj.cells (cl ⟨1, 2, 3, 4⟩) 78)) 22 #[.slice a L cap]).alloc (Obj.cells #[Value.int IntKind.i64 8] 3)
    rw [World.size_alloc, World.size_alloc, hg] at this
    rw [← hW0]
    exact this
  have b3 : Blk W0 (g + 3) 3 #[.int .i64 8] := by
    have := (Blk.new (((w.alloc (Obj.cells #[Value.int IntKind.u32 0, Value.int IntKind.u32 0, Value.int IntKind.u32 0, Value.int IntKind.u32 0] 78)).alloc (Obj.cells (cl ⟨1, 2, 3, 4⟩) 78)).alloc (Obj.cells #[Value.slice a L cap] 22)) 3 #[.int .i64 8])
    rw [World.size_alloc, World.size_alloc, World.size_alloc, hg] at this
    rw [← hW0]
    exact this
  obtain ⟨b, off, hbo⟩ : ∃ b off, 0 < len → a = some ⟨b, off, none⟩ ∧ b < g ∧ ∀ i (h : i < s.length), w.cell? ⟨b, off + i, none⟩ = some (.int .u8 ((s[i]).toNat : Int)) := by
    rcases Nat.eq_zero_or_pos len with h0 | h0
    · exact ⟨0, 0, fun h => by omega⟩
    · obtain ⟨b, off, h1, h2, h3⟩ := HA.out.2.2.2.2 h0
      exact ⟨b, off, fun _ => ⟨h1, by omega, h3⟩⟩
  have hqL : 8 * q = L := HL.out
  rw [hW0, hg]
  have hR : ReachC (g + 2) (g + 3) a q cap W0 := ⟨by rw [hqL]; exact b2.cell 0, b3.cell 0⟩
  refine wpIn_rangeFunc_ownG hro hd (gf := 74) (lb := #[.pointer (some ⟨g + 1 + 1, 0, none⟩), .pointer (some ⟨g + 1 + 1 + 1, 0, none⟩)]) rfl trivial (enters_of Try.func74 (by kernel_rfl) rfl)
    (stopsC (m - 1) (by omega) (g + 1 + 1) (g + 1 + 1 + 1) b off q cap a (fun h => (hbo (by omega)).1) (by omega) (by unfold maxLen at hcm; omega) W0 (by omega) (by omega) hR) (fun h k r => k (h r)) (fun W l o o' _ h ho _ => reachC_putObj l o o' h ho) (Below.refl _ _) (fun _ => rfl)
    (FourI s g q w) (fun _ _ _ => False) ?hI (fun _ _ _ _ _ hs _ _ => hs) ⟨⟨b1, b0⟩, hB0⟩
    (fun x => { tmps := #[Value.slice a len cap, undef, Value.pointer (some { block := g, off := 0 }), Value.pointer (some { block := g + 1, off := 0 }), Value.int IntKind.i64 ↑L, .slice (some ⟨b, off + 8 * x.val, none⟩) 8 8, undef, Value.agg #[Value.int IntKind.u32 1, Value.int IntKind.u32 2, Value.int IntKind.u32 3, Value.int IntKind.u32 4], Value.slice a len cap, Value.int IntKind.i64 ↑len, Value.slice a len cap, Value.int IntKind.i64 ↑len, Value.int IntKind.i64 ↑r, Value.int IntKind.i64 ↑L, Value.slice a len cap, Value.int IntKind.i64 ↑L, Value.slice a L cap, Value.func (Fn.func 74) #[] #[Value.pointer (some { block := g + 1 + 1, off := 0 }), Value.pointer (some { block := g + 1 + 1 + 1, off := 0 })], .slice (some ⟨b, off + 8 * x.val, none⟩) 8 8, undef, undef, undef, undef, undef, undef, undef, undef, undef, undef, undef, undef, undef, undef, undef, undef, undef, undef, undef, undef, undef], defers := [] }) ?assign ?body ?done ?stop
  case hI => exact OwnFrom.and (OwnFrom.and ((blk_own _ _ _).from _) ((blk_own _ _ _).from _)) (ownFrom_below (by omega) (by omega))
  case assign =>
    intro l x W K hK
    gi_wp2
    exact hK
  case body =>
    rintro l pre x W ⟨⟨hx, hr0⟩, hB⟩ _
    have c0 := hx.cell 0
    have c1 := hx.cell 1
    have c2 := hx.cell 2
    have c3 := hx.cell 3
    have hbt := hbo (by have := x.isLt; omega)
    have htk := take_any (foldP s (pre.map (·.val))) b (off + 8 * x.val) 8 (octP s (8 * x.val)) rfl (by omega) (by omega) W (Nat.lt_of_lt_of_le hbt.2.1 (by rw [← hg]; exact hB.size)) (fun i hi => by
      have hi8 : i < 8 := hi
      have hxq := x.isLt
      have hls : s.length = len := HA.out.1
      rw [octP_get, Nat.add_assoc, hB.cell (p := ⟨b, off + (8 * x.val + i), none⟩) hbt.2.1, hbt.2.2 (8 * x.val + i) (by omega)]
      unfold byteP
      rw [dif_pos (by omega)])
    rw [octP_lo, octP_hi] at htk
    have HX := Lib.hid hx; clear hx
    have HR0 := Lib.hid hr0; clear hr0
    have HB := Lib.hid hB; clear hB
    have HT := Lib.hid htk; clear htk
    have HBO := Lib.hid hbo; clear hbo
    have HBT := Lib.hid hbt; clear hbt
    have hd2 : 1 ≤ m - 1 - 1 := by omega
    gi_wp2
    refine ⟨trivial, ?_⟩
    refine (CallsIn.inRound l (callsIn_wide.2 HT.out)).mono ?_
    rintro e W1 ⟨rfl, bb⟩
    have hx1 := HX.out.below bb HX.out.lt
    have hr1 := HR0.out.below bb HR0.out.lt
    have hb1 := HB.out.trans (bb.mono (by rw [← hg]; exact HB.out.size))
    have f := fun i => hx1.frozen i
    have d0 := hx1.cell 0
    have d1 := hx1.cell 1
    have d2 := hx1.cell 2
    have d3 := hx1.cell 3
    have HX1 := Lib.hid hx1; clear hx1
    have HR1 := Lib.hid hr1; clear hr1
    have HB1 := Lib.hid hb1; clear hb1
    have HBB := Lib.hid bb; clear bb
    clear c0 c1 c2 c3
    have hy : foldP s ((pre ++ [x]).map (·.val)) = stepW (foldP s (pre.map (·.val))) (BitVec.ofNat 32 (leN (quadP s (8 * x.val)))) (BitVec.ofNat 32 (leN (quadP s (8 * x.val + 4)))) := by rw [List.map_append, List.map_cons, List.map_nil, foldP_snoc]; rfl
    obtain ⟨y, hy'⟩ : ∃ y, stepW (foldP s (pre.map (·.val))) (BitVec.ofNat 32 (leN (quadP s (8 * x.val)))) (BitVec.ofNat 32 (leN (quadP s (8 * x.val + 4)))) = y := ⟨_, rfl⟩
    rw [hy'] at hy ⊢
    clear hy' HT
    have HY := Lib.hid hy; clear hy
    gi_wp2
    exact ⟨((keepsOthers_below HBB.out).trans (keepsOthers_set4 _ _ _ _ _ _)).from _, fun hr => reachC_step (by omega) (by omega) HBB.out _ _ _ _ hr,
      ⟨by rw [HY.out]; exact HX1.out.set4 _ _ _ _, (((HR1.out.far (by simp) _).far (by simp) _).far (by simp) _).far (by simp) _⟩, below_set4 HB1.out (by omega) _ _ _ _⟩
  case done =>
    rintro D ys W hD hC ⟨⟨hx, hr0⟩, hB⟩ hK
    have hC' : ys.map (·.val) = List.range q := hC
    rw [hC', foldP_range] at hx
    clear hC hC'
    have hD' : g + 4 ≤ D := by omega
    have HX := Lib.hid hx; clear hx
    have HR0 := Lib.hid hr0; clear hr0
    have HB := Lib.hid hB; clear hB
    have HK := Lib.hid hK; clear hK
    have HBO := Lib.hid hbo; clear hbo
    have hfr := HFrom.out
    have HSZ := Lib.hid hsz; clear hsz
    have HW0 := Lib.hid hW0; clear hW0
    have HG := Lib.hid hg; clear hg
    have HQL := Lib.hid hqL; clear hqL
    have HB0 := Lib.hid hB0; clear hB0 b0 b1 b2 b3 hR
    gi_wp2
    obtain ⟨t, ht⟩ : ∃ t, W.heap.size = t := ⟨_, rfl⟩
    obtain ⟨W1, hW1⟩ : ∃ W1, (W.alloc (Obj.cells #[Value.int IntKind.u8 0, Value.int IntKind.u8 0, Value.int IntKind.u8 0, Value.int IntKind.u8 0, Value.int IntKind.u8 0, Value.int IntKind.u8 0, Value.int IntKind.u8 0, Value.int IntKind.u8 0] 92)).drew = W1 := ⟨_, rfl⟩
    have hbt : Blk W1 t 92 (List.replicate 8 (Value.int .u8 0)).toArray := by rw [← hW1, ← ht]; exact (Blk.new W _ _).drew
    have hx1 : Blk W1 (g + 1) 78 (cl (behind s q)) := by rw [← hW1]; exact (HX.out.alloc _).drew
    have hr1 : Blk W1 g 78 #[.int .u32 0, .int .u32 0, .int .u32 0, .int .u32 0] := by rw [← hW1]; exact (HR0.out.alloc _).drew
    have hgW : g ≤ W.heap.size := by rw [← HG.out]; exact HB.out.size
    have hb1 : Below g w W1 := by rw [← hW1]; exact (HB.out.alloc hgW _).drew
    have hk1 : W1.heap[D]? = some (.deferred (some [])) := by
      rw [← hW1]
      exact (Below.heap_alloc W _ D (Array.getElem?_eq_some_iff.1 HK.out).1).trans HK.out
    have hst : W1.heap.size = t + 1 := by rw [← hW1, ← ht]; simp
    have hgt : g + 1 < t := by rw [← ht]; exact HX.out.lt
    have hDt : D < t := by rw [← ht]; exact (Array.getElem?_eq_some_iff.1 HK.out).1
    rw [ht]
    have HW1 := Lib.hid hW1; clear hW1
    have HT := Lib.hid ht; clear ht
    have HBT := Lib.hid hbt; clear hbt
    have HX1 := Lib.hid hx1; clear hx1
    have HR1 := Lib.hid hr1; clear hr1
    have HB1 := Lib.hid hb1; clear hb1
    have HK1 := Lib.hid hk1; clear hk1
    have HST := Lib.hid hst; clear hst
    refine region_wide_named 4 hmx (by kernel_rfl) (fun h => by obtain ⟨_, _, h, _⟩ := h; cases h) (by kernel_rfl) HW1.out ?_
    simp only [List.take_succ_cons, List.take_zero, List.drop_succ_cons, List.drop_zero]
    repeat still_step
    refine wpStill_nil ?_
    have hls : s.length = L + r := by rw [HA.out.1]; have := HQ.out; have := HR.out; have := HQL.out; omega
    have hcl : (vals (s.drop L)).length = r := by rw [vals_length, List.length_drop]; omega
    refine wpList_copy_splice rfl (.tmp 22) (.tmp 25) 22 22 rfl 5 Try.underlying22 (by kernel_rfl) (some ⟨t, 0, none⟩) A' 8 8 (len - L) (cap - L) rfl rfl t 0 (List.replicate 8 (.int .u8 0)) 92 HBT.out (vals (s.drop L)) ?_ ?_ ?_ ?_ t W1 (Below.refl _ _) (Nat.le_refl _) ?_
    · rw [hcl]
      have : len - L = r := by have := HA.out.1; omega
      rw [this]
      show r = min r 8
      omega
    · intro hpos
      have hlp : L < len := by have := HA.out.1; omega
      obtain ⟨ea, hbg, hc⟩ := HBO.out (by omega)
      refine ⟨rfl, ⟨b, off + L, none⟩, HA'.out hlp b off ea, fun j v hv => ?_⟩
      obtain ⟨hj, rfl⟩ := vals_get hv
      have hj' : L + j < s.length := by rw [List.length_drop] at hj; omega
      have e1 : (⟨b, off + L, none⟩ : Addr).add j = ⟨b, off + (L + j), none⟩ := by
        unfold Addr.add
        by_cases h0 : j = 0
        · subst h0; simp
        · rw [if_neg h0]; simp; omega
      rw [e1, HB1.out.cell (p := ⟨b, off + (L + j), none⟩) hbg, hc (L + j) hj']
      simp only [List.getElem_drop]
    · rw [hcl]; simp; omega
    · intro v hv
      obtain ⟨y, _, rfl⟩ := List.mem_map.1 hv
      rfl
    · intro W2 hh hb2
      rw [hcl]
      have hbt2 : Blk W2 t 92 (splice (List.replicate 8 (Value.int .u8 0)) 0 (vals (s.drop L))).toArray := hh.out
      have hsp : (splice (List.replicate 8 (Value.int .u8 0)) 0 (vals (s.drop L))).length = 8 := by rw [length_splice _ _ _ (by rw [hcl]; simp; omega)]; rfl
      have hlr : ∃ u, W2.cell? ⟨t, r, none⟩ = some u := by
        rw [hbt2.cell r]
        exact ⟨_, Array.getElem?_eq_getElem (by rw [List.size_toArray, hsp]; omega)⟩
      obtain ⟨u, hu⟩ := hlr
      have hfz := hbt2.frozen r
      have hset := octP_laid s L r (by omega) hls
      have j0 : (r : Int) < 8 := by omega
      have hx2 := HX1.out.below hb2 hgt
      have hr2 := HR1.out.below hb2 (by omega)
      have hbw2 : Below g w W2 := HB1.out.trans (hb2.mono (by omega))
      have hk2 : W2.heap[D]? = some (.deferred (some [])) := (hb2.block D hDt).trans HK1.out
      have HX2 := Lib.hid hx2; clear hx2
      have HR2 := Lib.hid hr2; clear hr2
      have HBW2 := Lib.hid hbw2; clear hbw2
      have HK2 := Lib.hid hk2; clear hk2
      have HBT2 := Lib.hid hbt2; clear hbt2
      have HSET := Lib.hid hset; clear hset
      have HLS := Lib.hid hls; clear hls
      have HCL := Lib.hid hcl; clear hcl
      have HB2 := Lib.hid hb2; clear hb2
      clear hsp hh
      go_wp2
      gi_wp2
      obtain ⟨W3, hW3⟩ : ∃ W3, (W2.setCell ⟨t, r, none⟩ (Value.int IntKind.u8 1)).drew = W3 := ⟨_, rfl⟩
      have hbt3 : Blk W3 t 92 (vals (octP s L)).toArray := by rw [← hW3, ← HSET.out]; exact (HBT2.out.set_ r _).drew
      have hx3 : Blk W3 (g + 1) 78 (cl (behind s q)) := by rw [← hW3]; exact (HX2.out.far (by simp; omega) _).drew
      have hr3 : Blk W3 g 78 #[.int .u32 0, .int .u32 0, .int .u32 0, .int .u32 0] := by rw [← hW3]; exact (HR2.out.far (by simp; omega) _).drew
      have hb3 : Below g w W3 := by rw [← hW3]; exact (HBW2.out.setCell (p := ⟨t, r, none⟩) (by simp; omega) _).drew
      have hk3 : W3.heap[D]? = some (.deferred (some [])) := by rw [← hW3]; exact (Below.heap_setCell W2 ⟨t, r, none⟩ _ D (by simp; omega)).trans HK2.out
      have htk := take_any (behind s q) t 0 8 (octP s L) rfl (by omega) (by omega) W3 hbt3.lt (fun i hi => by
        have hi8 : i < 8 := hi
        rw [Nat.zero_add, hbt3.cell i, List.getElem?_toArray]
        show (List.map _ (octP s L))[i]? = _
        rw [List.getElem?_map, List.getElem?_eq_getElem hi]
        rfl)
      rw [octP_lo, octP_hi] at htk
      have hst : stepW (behind s q) (BitVec.ofNat 32 (leN (quadP s L))) (BitVec.ofNat 32 (leN (quadP s (L + 4)))) = behind s (q + 1) := by rw [← HQL.out]; rfl
      rw [hst] at htk
      have c0 := hx3.cell 0
      have c1 := hx3.cell 1
      have c2 := hx3.cell 2
      have c3 := hx3.cell 3
      have HW3 := Lib.hid hW3; clear hW3
      have HTK := Lib.hid htk; clear htk hst
      have HX3 := Lib.hid hx3; clear hx3
      have HR3 := Lib.hid hr3; clear hr3
      have HB3 := Lib.hid hb3; clear hb3
      have HK3 := Lib.hid hk3; clear hk3
      clear hbt3 hfz hu
      refine region_wide_named 2 hmx (by kernel_rfl) (fun h => by obtain ⟨_, _, h, _⟩ := h; cases h) (by kernel_rfl) HW3.out ?_
      simp only [List.take_succ_cons, List.take_zero, List.drop_succ_cons, List.drop_zero]
      repeat still_step
      refine wpStill_nil ?_
      go_wp2_with fail
      refine HTK.out.mono ?_
      rintro e W4 ⟨rfl, b4⟩
      obtain ⟨y, hy⟩ : ∃ y, behind s (q + 1) = y := ⟨_, rfl⟩
      rw [hy]
      have hx4 := HX3.out.below b4 HX3.out.lt
      have hr4 := HR3.out.below b4 HR3.out.lt
      have hb4 : Below g w W4 := HB3.out.trans (b4.mono (by rw [← HG.out]; exact HB3.out.size))
      have hk4 : W4.heap[D]? = some (.deferred (some [])) := (b4.block D (Array.getElem?_eq_some_iff.1 HK3.out).1).trans HK3.out
      have f := fun i => hx4.frozen i
      have d0 := hx4.cell 0
      have d1 := hx4.cell 1
      have d2 := hx4.cell 2
      have d3 := hx4.cell 3
      have hxl : ∀ x : BitVec 32, bits .xor .u32 (x.toNat : Int) (len : Int) = ((xo x (BitVec.ofNat 32 len)).toNat : Int) := fun x => by
        have e : (BitVec.ofNat 32 len).toNat = len := by rw [BitVec.toNat_ofNat]; exact Nat.mod_eq_of_lt (by omega)
        have := xor32 x (BitVec.ofNat 32 len)
        rwa [e] at this
      have HY := Lib.hid hy; clear hy
      have HX4 := Lib.hid hx4; clear hx4
      have HR4 := Lib.hid hr4; clear hr4
      have HB4 := Lib.hid hb4; clear hb4
      have HK4 := Lib.hid hk4; clear hk4
      clear b4 c0 c1 c2 c3
      go_wp2
      obtain ⟨W5, hW5⟩ : ∃ W5, ((((W4.setCell ⟨g + 1, 0, none⟩ (.int .u32 (y.a.toNat : Int))).setCell ⟨g + 1, 1, none⟩ (.int .u32 (y.b.toNat : Int))).setCell ⟨g + 1, 2, none⟩ (.int .u32 (y.c.toNat : Int))).setCell ⟨g + 1, 3, none⟩ (.int .u32 (y.d.toNat : Int))) = W5 := ⟨_, rfl⟩
      have hx5 : Blk W5 (g + 1) 78 (cl y) := hW5 ▸ HX4.out.set4 _ _ _ _
      have hr5 : Blk W5 g 78 #[.int .u32 0, .int .u32 0, .int .u32 0, .int .u32 0] := hW5 ▸ (((HR4.out.far (by simp) _).far (by simp) _).far (by simp) _).far (by simp) _
      have hb5 : Below g w W5 := hW5 ▸ below_set4 HB4.out (by omega) _ _ _ _
      have hk5 : W5.heap[D]? = some (.deferred (some [])) := hW5 ▸ (keepsOthers_set4 W4 (g + 1) _ _ _ _).same D _ HK4.out rfl
      rw [hW5]
      clear hW5 f d0 d1 d2 d3 e1 e2 hto hfr HX4 HR4 HB4 HK4
      have f := fun i => hx5.frozen i
      have d0 := hx5.cell 0
      have d1 := hx5.cell 1
      have d2 := hx5.cell 2
      have d3 := hx5.cell 3
      have HX5 := Lib.hid hx5; clear hx5
      have HR5 := Lib.hid hr5; clear hr5
      have HB5 := Lib.hid hb5; clear hb5
      have HK5 := Lib.hid hk5; clear hk5
      gi_wp2_with (fail)
      refine ⟨trivial, ?_⟩
      refine (callsIn_wide.2 (turns_any ⟨y.a, xo y.b (BitVec.ofNat 32 len), y.c, y.d⟩ 8 (by omega) _)).mono ?_
      rintro e W6 ⟨rfl, b6⟩
      have hz : turnsW 8 ⟨y.a, xo y.b (BitVec.ofNat 32 len), y.c, y.d⟩ = fourW s := by
        have h1 : s.length = len := HA.out.1
        have h2 : len / 8 = q := HQ.out
        unfold fourW
        rw [h1, h2, HY.out]
      rw [hz]
      obtain ⟨z, hz'⟩ : ∃ z, fourW s = z := ⟨_, rfl⟩
      rw [hz']
      have hr6 : Blk W6 g 78 _ := (HR5.out.far (p := ⟨g + 1, 1, none⟩) (by simp) (.int .u32 ((xo y.b (BitVec.ofNat 32 len)).toNat : Int))).below b6 (by simp; exact HR5.out.lt)
      have hb6 : Below g w W6 := (HB5.out.setCell (p := ⟨g + 1, 1, none⟩) (by simp) _).trans (b6.mono (by simp; rw [← HG.out]; exact HB5.out.size))
      have hk6 : W6.heap[D]? = some (.deferred (some [])) := (b6.block D (by simp; exact (Array.getElem?_eq_some_iff.1 HK5.out).1)).trans ((Below.heap_setCell W5 ⟨g + 1, 1, none⟩ _ D (by simp; omega)).trans HK5.out)
      have HZ := Lib.hid hz'; clear hz' hz
      clear f d0 d1 d2 d3 b6
      have f := fun i => hr6.frozen i
      have d0 := hr6.cell 0
      have d1 := hr6.cell 1
      have d2 := hr6.cell 2
      have d3 := hr6.cell 3
      have HR6 := Lib.hid hr6; clear hr6
      have HB6 := Lib.hid hb6; clear hb6
      have HK6 := Lib.hid hk6; clear hk6
      gi_wp2_with (fail)
      obtain ⟨W7, hW7⟩ : ∃ W7, ((((W6.setCell ⟨g, 0, none⟩ (.int .u32 (z.a.toNat : Int))).setCell ⟨g, 1, none⟩ (.int .u32 (z.b.toNat : Int))).setCell ⟨g, 2, none⟩ (.int .u32 (z.c.toNat : Int))).setCell ⟨g, 3, none⟩ (.int .u32 (z.d.toNat : Int))) = W7 := ⟨_, rfl⟩
      have hr7 : Blk W7 g 78 (cl z) := hW7 ▸ HR6.out.set4 _ _ _ _
      have hb7 : Below g w W7 := hW7 ▸ below_set4 HB6.out (Nat.le_refl _) _ _ _ _
      have hk7 : W7.heap[D]? = some (.deferred (some [])) := hW7 ▸ (keepsOthers_set4 W6 g _ _ _ _).same D _ HK6.out rfl
      rw [hW7]
      clear hW7 f d0 d1 d2 d3
      refine ⟨by simp, .inl ⟨_, _, rfl, run_takeDeferred hk7, ?_⟩⟩
      have hr8 : Blk (W7.putObj D (.deferred none)) g 78 (cl z) := hr7.grown (grownBy_putObj' W7 D (.deferred none)) (fun e => by injection e; omega)
      have e0 := hr8.cell 0
      have e1 := hr8.cell 1
      have e2 := hr8.cell 2
      have e3 := hr8.cell 3
      trace_state
      refine ⟨ag z, by simp [results, Try.f58, go_sem, e0, e1, e2, e3], ?_, ?_⟩
      · rw [HZ.out]
      · rw [HG.out]
        exact hb7.trans (belowK_b (w := w) (by rw [HG.out]; exact Nat.le_refl _) W7 D _ _ (by rw [HG.out]; omega) hk7 rfl rfl)
  case stop =>
    rintro D c pre W _ _ h _
    exact h.elim
end Go.Proofs.Ytoednighmdoooaa
