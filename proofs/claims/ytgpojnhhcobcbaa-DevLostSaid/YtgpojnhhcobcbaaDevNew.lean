/-
  dev.New answers 256 blocks of noughts, in one new piece; slices.Repeat of one block.
-/
import Derived.Test.YtgpojnhhcobcbaaDevTop
import Derived.Laws.CopyOwn
import Derived.IntWalk
import Derived.Deep.RegionLaw
import Derived.Laws.BitsAllLaws
namespace Go.Proofs.Ytgpojnhhcobcbaa
open Go.RowKit Go.Shelf
set_option maxRecDepth 100000

theorem dMul64 (w : World) : Calls Try.prog 71 #[.int .u64 1, .int .u64 256] w fun e w' => e = .returned (.tuple #[.int .u64 0, .int .u64 256]) ∧ w = w' := by
  go_enter Try.func71, Try.ntmps71
  go_wp2_with fail
  go_ret2
  exact ⟨rfl, rfl⟩
theorem dMul (w : World) : Calls Try.prog 64 #[.int .u64 1, .int .u64 256] w fun e w' => e = .returned (.tuple #[.int .u64 0, .int .u64 256]) ∧ w = w' := by
  go_enter Try.func64, Try.ntmps64
  go_wp2_with (go_at_call 71; refine (dMul64 _).mono ?_; rintro e w' ⟨rfl, rfl⟩)
  go_ret2
  exact ⟨rfl, rfl⟩
/-- 256 cells, of which n are v. -/
def repR (v : Value) (n : Nat) : List Value := List.replicate n v ++ List.replicate (256 - n) (.slice none 0 0)
theorem repR_length (v : Value) (n : Nat) (h : n ≤ 256) : (repR v n).length = 256 := by simp [repR]; omega
theorem repR_splice (v : Value) (n k : Nat) : splice (repR v n) n (List.replicate k v) = repR v (n + k) := by
  unfold splice repR
  have e1 : (List.replicate n v ++ List.replicate (256 - n) (Value.slice none 0 0)).take n = List.replicate n v := by simp
  have e2 : (List.replicate n v ++ List.replicate (256 - n) (Value.slice none 0 0)).drop (n + (List.replicate k v).length) = List.replicate (256 - (n + k)) (.slice none 0 0) := by
    rw [List.drop_append, List.drop_of_length_le (by simp; try omega)]
    simp
    omega
  rw [e1, e2, ← List.append_assoc, List.replicate_append_replicate]
theorem rep_get {v u : Value} {k j : Nat} (h : (List.replicate k v)[j]? = some u) : j < k ∧ u = v := by
  rw [List.getElem?_replicate] at h
  split at h
  · rename_i h1
    cases h
    exact ⟨h1, rfl⟩
  · cases h
theorem infoSl1 : (Try.prog.info? 30).map (·.size) = some 1 := by kernel_rfl
theorem step_copy_rep {ops : Array Oper} {o : Oper} {a : Act} {w w0 : World} {K : Act → World → Prop} {Q : Exit → Act → World → Prop} {E : Prop} (v : Value) (hv : v.oneCell' = true) (hgd : o.guard = none) (d s : Operand)
    (ho : o.op = .call { callee := .builtin .copy, args := #[d, s], argTypes := #[22, 22] }) (g5 n : Nat) (hn : n ≤ 128)
    (hd : a.eval d = .slice (some ⟨g5, n, none⟩) (256 - n) (256 - n)) (hs : a.eval s = .slice (some ⟨g5, 0, none⟩) n 256) (hx : Blk w g5 30 (repR v n).toArray) (hb : Below g5 w0 w)
    (h : ∀ w', Blk w' g5 30 (repR v (n + n)).toArray → Below g5 w0 w' → K (a.put o.dst (.int .i64 n)) w') :
    if Region.wanted o (yielded ops a.tmps) = true then Oper.wp Try.prog o a w K Q else E := by
  have hl : (List.replicate n v).length = n := by simp
  refine step_copy_splice hgd d s 22 22 ho 30 Try.underlying22 infoSl1 (some ⟨g5, n, none⟩) (some ⟨g5, 0, none⟩) (256 - n) (256 - n) n 256 hd hs g5 n (repR v n) 30 hx (List.replicate n v) (by rw [hl]; simp [Nat.min_def]; omega)
         (fun _ => ⟨rfl, _, rfl, fun j u hu => ?_⟩) (by rw [hl, repR_length v n (by omega)]; omega) (fun u hu => by rw [List.eq_of_mem_replicate hu]; exact hv) g5 w0 hb (Nat.le_refl _) ?_
  · obtain ⟨hj, rfl⟩ := rep_get hu
    have := hx.cell j
    rw [List.getElem?_toArray, repR, List.getElem?_append_left (by simpa using hj), List.getElem?_replicate, if_pos hj] at this
    rw [← this]
    congr 1
    unfold Addr.add
    simp
    exact fun h => h.symm
  · intro w2 hx2 hb2
    rw [hl]
    refine h w2 ?_ hb2
    have := hx2.out
    rwa [repR_splice v n n] at this
theorem rows_l (W : World) (g n : Nat) (hn : n < 256) : (Instr.slice 22 (.slice (some ⟨g, 0, none⟩) 256 256) (some (.int .i64 (n : Int))) none none).run Try.prog W = .ok (.slice (some ⟨g, n, none⟩) (256 - n) (256 - n)) W := by
  rw [run_slice_l W 22 _ _ _ (by kernel_rfl) .i64 _ (by omega) (by omega)]
  have hz : (Go.sizeOf (Try.prog.elem 22)).run Try.prog W = .ok 1 W := by kernel_rfl
  rw [hz]
  have e : ¬ 256 = n := by omega
  simp only [Result.andThen, sliced, Int.toNat_natCast, if_neg e]
  simp [Addr.add]
  exact fun h => h.symm
theorem rows_h (W : World) (g n : Nat) (hn : n < 256) : (Instr.slice 22 (.slice (some ⟨g, 0, none⟩) 256 256) none (some (.int .i64 (n : Int))) none).run Try.prog W = .ok (.slice (some ⟨g, 0, none⟩) n 256) W := by
  rw [run_slice_h W 22 _ _ _ (by kernel_rfl) .i64 _ (by omega) (by omega)]
  have hz : (Go.sizeOf (Try.prog.elem 22)).run Try.prog W = .ok 1 W := by kernel_rfl
  rw [hz]
  simp [Result.andThen, sliced, Addr.add]
/-- The row that Repeat answers. -/
def RepPost (v : Value) (w : World) (e : Ending) (w' : World) : Prop := ∃ g, e = .returned (.slice (some ⟨g, 0, none⟩) 256 256) ∧ w.heap.size ≤ g ∧ Blk w' g 30 (repR v 256).toArray ∧ Below w.heap.size w w'
theorem wpList_copy_one {w w0 : World} {ops : Array Oper} {rest : List Oper} {o : Oper} {a : Act} {Q : Exit → Act → World → Prop} (v : Value) (hv : v.oneCell' = true) (hgd : o.guard = none) (d s : Operand) (ho : o.op = .call { callee := .builtin .copy, args := #[d, s], argTypes := #[22, 22] }) (g g5 : Nat)
    (hd : a.eval d = .slice (some ⟨g5, 0, none⟩) 256 256) (hs : a.eval s = .slice (some ⟨g, 0, none⟩) 1 1) (hx : Blk w g5 30 (repR v 0).toArray) (hN : w.cell? ⟨g, 0, none⟩ = some v) (hb : Below g5 w0 w)
    (h : ∀ w', Blk w' g5 30 (repR v 1).toArray → Below g5 w0 w' → wpList Try.prog ops Q rest (a.put o.dst (.int .i64 1)) w') : wpList Try.prog ops Q (o :: rest) a w := by
  refine wpList_copy_splice hgd d s 22 22 ho 30 Try.underlying22 infoSl1 (some ⟨g5, 0, none⟩) (some ⟨g, 0, none⟩) 256 256 1 1 hd hs g5 0 (repR v 0) 30 hx (List.replicate 1 v) rfl
         (fun _ => ⟨rfl, _, rfl, fun j u hu => ?_⟩) (by rw [repR_length v 0 (by omega)]; simp) (fun u hu => by rw [List.eq_of_mem_replicate hu]; exact hv) g5 w0 hb (Nat.le_refl _) ?_
  · obtain ⟨hj, rfl⟩ := rep_get hu
    obtain rfl : j = 0 := by omega
    exact hN
  · intro w2 hx2 hb2
    refine h w2 ?_ hb2
    have := hx2.out
    rwa [repR_splice v 0 1] at this
set_option maxHeartbeats 4000000 in
theorem dRepeat_any (v : Value) (hv : v.oneCell' = true) (g : Nat) (w : World) (hN : w.cell? ⟨g, 0, none⟩ = some v) :
    Calls Try.prog 39 #[.slice (some ⟨g, 0, none⟩) 1 1, .int .i64 256] w (RepPost v w) := by
  have hmk : ∀ W : World, (Instr.makeSlice 22 (.int .i64 256) (.int .i64 256)).run Try.prog W = .ok (.slice (some ⟨W.heap.size, 0, none⟩) 256 256) (W.alloc (.cells (repR v 0).toArray 30)) := fun W => by
    have e : (repR v 0).toArray = Array.replicate 256 (.slice none 0 0) := by
      unfold repR
      rw [List.replicate_zero, List.nil_append, Nat.sub_zero, List.toArray_replicate]
    rw [e]
    exact make_rows 256 (by omega) W
  have hg := World.block_lt_of_cell? w _ hN
  have b1 : Below w.heap.size w (w.alloc (.cells (repR v 0).toArray 30)) := (Below.refl _ w).alloc (Nat.le_refl _) _
  have x1 := Blk.new w 30 (repR v 0).toArray
  have n1 : (w.alloc (.cells (repR v 0).toArray 30)).cell? ⟨g, 0, none⟩ = some v := (b1.cell (p := ⟨g, 0, none⟩) hg).trans hN
  obtain ⟨g5, hg5⟩ : ∃ g5, w.heap.size = g5 := ⟨_, rfl⟩
  have HX1 := Lib.hid x1; clear x1
  have HN1 := Lib.hid n1; clear n1 hN
  have HB1 := Lib.hid b1; clear b1 hg
  have HG := Lib.hid hg5; clear hg5
  go_enter Try.func39, Try.ntmps39
  go_wp2_with (first
    | (go_at_call 64; refine (dMul _).mono ?_; rintro e w' ⟨rfl, rfl⟩)
    | (with_reducible refine dAtCopy ?_
       refine wpList_copy_one v hv rfl (.tmp 31) (.tmp 32) rfl g w.heap.size rfl rfl HX1.out HN1.out HB1.out ?_
       intro w2 hx2 hb2
       have HX2 := Lib.hid hx2
       have HB2 := Lib.hid hb2
       clear hx2 hb2))
  rw [HG.out] at HX2 HB2 ⊢
  go_loopw [8] (fun i wr => ∃ j n : Nat, j ≤ 8 ∧ n = 2 ^ j ∧ i = .int .i64 n ∧ Blk wr g5 30 (repR v n).toArray ∧ Below g5 w wr) (fun i _ => 256 - (intOf i).toNat)
  case atStart => exact ⟨0, 1, by omega, rfl, rfl, HX2.out, HB2.out⟩
  case round =>
    obtain ⟨j, n, hj, hn, rfl, hx, hb⟩ := hrel
    have HX := Lib.hid hx; clear hx
    have HB := Lib.hid hb; clear hb
    have n0 : (0 : Int) ≤ n := by omega
    by_cases h8 : j < 8
    · have hn128 : n ≤ 128 := by
        have : 2 ^ j ≤ 2 ^ 7 := Nat.pow_le_pow_right (by omega) (by omega)
        omega
      have hpos : 0 < n := by rw [hn]; exact Nat.two_pow_pos j
      have hn2 : n + n = 2 ^ (j + 1) := by rw [Nat.pow_succ, hn]; omega
      have i1 : (n : Int) < 256 := by omega
      have s1 := fun W => rows_l W g5 n (by omega)
      have s2 := fun W => rows_h W g5 n (by omega)
      have HX' := Lib.hid HX.out.drew
      have HB' := Lib.hid HB.out.drew
      have HN2 := Lib.hid hn2
      have hsum : IntKind.i64.wrap ((n : Int) + n) = (n : Int) + n := IntWalk.i64_in _ (by omega)
      have HP := Lib.hid hpos
      clear hn hn2 hpos
      go_wp2_with fail
      go_region_law (refine step_copy_rep v hv rfl (.tmp 41) (.tmp 44) rfl g5 n hn128 (by simp [Act.eval, Act.put]) (by simp [Act.eval, Act.put]) HX'.out HB'.out ?_; intro w4 hx4 hb4; have HX4 := Lib.hid hx4; have HB4 := Lib.hid hb4; clear hx4 hb4)
      refine ⟨⟨.int .i64 ((n : Int) + n), _, _, _, _, _, _, _, _, _, _, _, _, _, ⟨j + 1, n + n, by omega, HN2.out, by go_num, HX4.out, HB4.out⟩, rfl⟩, ?_⟩
      have := HP.out
      show 256 - (intOf (.int .i64 ((n : Int) + n))).toNat < 256 - (intOf (.int .i64 (n : Int))).toNat
      simp [intOf]
      omega
    · obtain rfl : j = 8 := by omega
      subst hn
      go_wp2_with fail
      go_ret
      exact ⟨g5, rfl, by rw [HG.out]; exact Nat.le_refl _, HX.out, by rw [HG.out]; exact HB.out⟩
/-- A disk of noughts. -/
def newD : DkL := (List.replicate 256 (List.replicate 256 0), [])
theorem newD_get {i : Nat} (h : i < 256) : newD.1.getD i [] = List.replicate 256 0 := by
  show (List.replicate 256 (List.replicate 256 (0 : UInt8))).getD i [] = _
  rw [List.getD_eq_getElem?_getD, List.getElem?_replicate, if_pos h]
  rfl
theorem newD_len : newD.1.length = 256 := List.length_replicate ..
theorem newD_may : MayD newD := ⟨⟨newD_len, fun i hi => by rw [newD_get hi]; exact List.length_replicate ..⟩, Nat.zero_le _, fun i hi => absurd hi (Nat.not_lt_zero _)⟩
set_option maxHeartbeats 1000000 in
theorem dNew_any (w : World) : Calls Try.prog 13 #[] w (LaidPost newD w) := by
  have hmk : ∀ W : World, (Instr.makeSlice 30 (.int .i64 256) (.int .i64 256)).run Try.prog W = .ok (.slice (some ⟨W.heap.size, 0, none⟩) 256 256) (W.alloc (.cells (ar (List.replicate 256 0)) 5)) := make_bytes 256 (by omega)
  obtain ⟨B, hB⟩ : ∃ B, w.heap.size = B := ⟨_, rfl⟩
  obtain ⟨Z, hZ⟩ : ∃ Z : List UInt8, List.replicate 256 0 = Z := ⟨_, rfl⟩
  rw [hZ] at hmk
  obtain ⟨w0, hw0⟩ : ∃ w0, ((w.alloc (.cells #[.slice none 0 0, .slice none 0 0] 25)).alloc (.cells (ar Z) 5)).alloc (.cells #[.slice (some ⟨w.heap.size + 1, 0, none⟩) 256 256] 30) = w0 := ⟨_, rfl⟩
  have b0 : Below w.heap.size w w0 := by rw [← hw0]; exact below_alloc3' w _ _ _
  have z0 : w0.heap.size = B + 3 := by rw [← hw0, ← hB]; simp
  have x0 : Blk w0 B 25 #[.slice none 0 0, .slice none 0 0] := by rw [← hw0, ← hB]; exact blk3_0 w _ _ _ _
  have x1 : Blk w0 (B + 1) 5 (ar Z) := by rw [← hw0, ← hB]; exact blk3_1 w _ _ _ _
  have x2 : Blk w0 (B + 2) 30 #[.slice (some ⟨B + 1, 0, none⟩) 256 256] := by rw [← hw0, ← hB]; exact blk3_2 w _ _ _ _
  have hr := dRepeat_any (.slice (some ⟨B + 1, 0, none⟩) 256 256) rfl (B + 2) w0 (x2.cell 0)
  have HR := Lib.hid hr
  have HX0 := Lib.hid x0
  have HX1 := Lib.hid x1
  have HB := Lib.hid b0
  have HZ := Lib.hid z0
  have HBB := Lib.hid hB
  have HZZ := Lib.hid hZ
  rw [hB] at hw0
  clear hr x0 x1 x2 b0 z0 hZ
  go_enter Try.func13, Try.ntmps13
  go_wp2_with fail
  clear hw0
  refine HR.out.mono ?_
  rintro e w1 ⟨g, rfl, hge, hx, b1⟩
  have hz := HZ.out
  have y1 := HX1.out.below b1 HX1.out.lt
  have hzs := HZZ.out
  have hbs : Bsl w1 w1.heap.size (some ⟨B + 1, 0, none⟩) 256 256 Z := by
    refine ⟨by rw [← hzs]; exact List.length_replicate .., Nat.le_refl _, by unfold maxLen; omega, fun e => (by cases e), fun _ => ⟨B + 1, 0, rfl, y1.lt, fun i hi => ?_⟩⟩
    rw [Nat.zero_add, y1.cell, ar_get Z i hi]
  have hbl : Bls w1 w1.heap.size (some ⟨g, 0, none⟩) 256 256 newD.1 := by
    refine ⟨newD_len, Nat.le_refl _, by unfold maxLen; omega, fun _ => ⟨g, 0, rfl, hx.lt, fun i hi => ?_⟩⟩
    have e : newD.1.getD i [] = Z := by rw [newD_get hi]; exact hzs
    have el : Z.length = 256 := by rw [← hzs]; exact List.length_replicate ..
    rw [e, el]
    refine ⟨some ⟨B + 1, 0, none⟩, 256, ?_, hbs⟩
    rw [Nat.zero_add, hx.cell, List.getElem?_toArray, repR, Nat.sub_self, List.replicate_zero, List.append_nil, List.getElem?_replicate, if_pos hi]
  have hla := dLaid_any ⟨some ⟨g, 0, none⟩, 256, none, 0⟩ newD w1 ⟨by rw [newD_len]; exact hbl, wts_nil _ _⟩ (may_fits newD_may)
  simp only [newD_len] at hla
  have e2 : newD.2.length = 0 := rfl
  rw [e2] at hla
  have HLA := Lib.hid hla
  have HXr := Lib.hid (HX0.out.below b1 HX0.out.lt)
  have HB1 := Lib.hid (HB.out.trans (b1.mono HB.out.size))
  have HZ1 := Lib.hid (show B + 3 ≤ w1.heap.size by have := b1.size; omega)
  clear hge hx b1 y1 hzs hbs hbl hla e2 hz HR
  go_wp2_with fail
  refine HLA.out.mono ?_
  rintro e w4 ⟨x4, rfl, h4, b4⟩
  have hz := HZ1.out
  have y4 := HXr.out.below b4 HXr.out.lt
  have d0 := y4.cell 0
  have d1 := y4.cell 1
  have hf := fun i => y4.frozen i
  have hbb := HBB.out
  obtain ⟨ba4, bc4, wa4, wc4⟩ := x4
  have HK := Lib.hid (fun (u v : Value) => laid_far (g := B) (lo' := B) h4 (by omega) (by omega) u v)
  have HBF := Lib.hid (fun (u v : Value) => ((HB1.out.trans (b4.mono (by omega))).setCell (p := ⟨B, 0, none⟩) (Nat.le_of_eq hbb) u).setCell (p := ⟨B, 1, none⟩) (Nat.le_of_eq hbb) v)
  have HXF := Lib.hid (fun (u v : Value) => (y4.set_ 0 u).set_ 1 v)
  clear h4 b4 y4 hz HLA HXr HB1 hbb
  simp only [dval]
  go_wp2_with fail
  have hKD := HK.out (.slice ba4 newD.1.length bc4) (.slice wa4 newD.2.length wc4)
  have hBF := HBF.out (.slice ba4 newD.1.length bc4) (.slice wa4 newD.2.length wc4)
  have hXF := HXF.out (.slice ba4 newD.1.length bc4) (.slice wa4 newD.2.length wc4)
  obtain ⟨wf, hwf⟩ : ∃ wf, ((w4.setCell ⟨B, 0, none⟩ (.slice ba4 newD.1.length bc4)).setCell ⟨B, 1, none⟩ (.slice wa4 newD.2.length wc4)) = wf := ⟨_, rfl⟩
  rw [hwf] at hKD hBF hXF ⊢
  clear hwf d0 d1 hf
  have e0 := hXF.cell 0
  have e1 := hXF.cell 1
  refine bodyPost_ret (v := dval ⟨ba4, bc4, wa4, wc4⟩ newD) (by simp [results, Try.f13, go_sem, e0, e1, dval]) rfl ?_
  exact ⟨⟨ba4, bc4, wa4, wc4⟩, rfl, by rw [HBB.out]; exact hKD, hBF⟩
end Go.Proofs.Ytgpojnhhcobcbaa
