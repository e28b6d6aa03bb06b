/-
  obj's heads, arrays of sixteen bytes: loads and stores of them whole, two compared as one; headOf and objectOf.
-/
import Derived.Test.YtennhempdnpobaaDoorObCode
import Derived.Test.YtennhempdnpobaaDoorPut
import Derived.Test.YtennhempdnpobaaDoorGet
import Derived.Test.YtennhempdnpobaaDoorCopy
import Derived.Laws.Cover3
import Derived.ChangeKeysEq
namespace Go.Proofs.YtennhempdnpobaaDoor
open Go.RowKit Go.Shelf
set_option maxRecDepth 100000

theorem ar_one16 (s : List UInt8) : (ar s).all (·.oneCell') = true := by
  refine Array.all_eq_true_iff_forall_mem.2 fun v hv => ?_
  simp only [ar, vals, List.mem_toArray, List.mem_map] at hv
  obtain ⟨x, _, rfl⟩ := hv
  rfl
/-- Sixteen noughts. -/
def zs : List UInt8 := List.replicate 16 0
/-- Sixteen noughts. -/
def zs16 : List UInt8 := List.replicate 16 0
theorem zs16_length : zs16.length = 16 := rfl
theorem infoA16 : (Tryd.prog.info? 53).map (·.size) = some 16 := by kernel_rfl
theorem arrayAt16 (a : Option Addr) (n c : Nat) (h : 16 ≤ n) (w : World) : (Instr.arrayAt 53 (.slice a n c)).run Tryd.prog w = .ok (.pointer a) w :=
  run_arrayAt w 53 5 16 a n c Tryd.underlying53 h
theorem sliceAt16 (g : Nat) (w : World) : (Instr.sliceAt 53 (.pointer (some ⟨g, 0, none⟩)) none none none).run Tryd.prog w = .ok (.slice (some ⟨g, 0, none⟩) 16 16) w := by kernel_rfl
theorem sliceAt16_2 (g : Nat) (w : World) : (Instr.sliceAt 53 (.pointer (some ⟨g, 0, none⟩)) (some (.int .i64 2)) none none).run Tryd.prog w = .ok (.slice (some ⟨g, 2, none⟩) 14 14) w := by kernel_rfl

section
variable {P : Program} {ops : Array Oper} {Q : Exit → Act → World → Prop} {a : Act} {w : World} {rest : List Oper}
/-- The next operation is a load; a store. -/
theorem at_load16 {d : Option Tmp} {t ty : TypeId} {x : Operand} {pos : String} {af : Array Edge} (h : wpList P ops Q (⟨d, .load t x, ty, pos, af, none⟩ :: rest) a w) : wpList P ops Q (⟨d, .load t x, ty, pos, af, none⟩ :: rest) a w := h
theorem at_store16 {d : Option Tmp} {t ty : TypeId} {x y : Operand} {pos : String} {af : Array Edge} (h : wpList P ops Q (⟨d, .store t x y, ty, pos, af, none⟩ :: rest) a w) : wpList P ops Q (⟨d, .store t x y, ty, pos, af, none⟩ :: rest) a w := h
end
section
variable {ops : Array Oper} {Q : Exit → Act → World → Prop} {a : Act} {w : World} {rest : List Oper} {o : Oper}
theorem wpList_load16_bsl (hgd : o.guard = none) (x : Operand) (ho : o.op = .load 53 x) (g off cap B : Nat) (s : List UInt8) (hx : a.eval x = .pointer (some ⟨g, off, none⟩)) (hb : Bsl w B (some ⟨g, off, none⟩) 16 cap s)
    (h : wpList Tryd.prog ops Q rest (a.put o.dst (.agg (ar s))) w) : wpList Tryd.prog ops Q (o :: rest) a w :=
  wpList_load_mid hgd 53 x ho g off hx (vals s) _ (hb.range (by omega)) Tryd.underlying53 rfl (by rw [infoA16]; simp [vals, hb.1]) h
theorem wpList_load16 (hgd : o.guard = none) (x : Operand) (ho : o.op = .load 53 x) (g : Nat) (s : List UInt8) (hx : a.eval x = .pointer (some ⟨g, 0, none⟩)) (hb : Blk w g 53 (ar s)) (hs : s.length = 16)
    (h : wpList Tryd.prog ops Q rest (a.put o.dst (.agg (ar s))) w) : wpList Tryd.prog ops Q (o :: rest) a w :=
  wpList_load_row hgd 53 x ho g hx 53 (ar s) (0, 0) _ hb Tryd.underlying53 rfl (by rw [infoA16, ar_size, hs]) h
theorem wpList_store16 (hgd : o.guard = none) (x y : Operand) (ho : o.op = .store 53 x y) (g : Nat) (s old : List UInt8) (hx : a.eval x = .pointer (some ⟨g, 0, none⟩)) (hy : a.eval y = .agg (ar s)) (hs : s.length = 16) (hb : Blk w g 53 (ar old)) (hold : old.length = 16)
    (h : ∀ w', Blk w' g 53 (ar s) → w.grownBy w' (some g) → wpList Tryd.prog ops Q rest (a.put o.dst undef) w') : wpList Tryd.prog ops Q (o :: rest) a w :=
  wpList_store_row hgd 53 x y ho g (ar s) hx hy 53 (ar old) hb (by rw [infoA16, ar_size, hs]) (by rw [ar_size, ar_size, hs, hold]) (ar_one16 s)
    (h _ hb.setRow ⟨rfl, rfl, rfl, by simp, fun k _ hk => setRow_other w g k _ (fun e => hk (by rw [e]))⟩)
/-- copy(array[off:], src), where what is copied fits. -/
theorem wpList_copy_arr (hgd : o.guard = none) (d s : Operand)
    (ho : o.op = .call { callee := .builtin .copy, args := #[d, s], argTypes := #[28, 28] }) (ty : TypeId)
    (g off m n cap : Nat) (hd : a.eval d = .slice (some ⟨g, off, none⟩) m cap) (t : List UInt8) (hg : Blk w g ty (ar t))
    (B : Nat) (A : Option Addr) (c : Nat) (news : List UInt8) (hs : a.eval s = .slice A n c) (hb : Bsl w B A n c news) (hn : 0 < n) (hnm : n ≤ m) (hfit : off + n ≤ t.length)
    (h : ∀ w', Blk w' g ty (ar (ovrL t off news)) → w.grownBy w' (some g) → w'.heap.size = w.heap.size → wpList Tryd.prog ops Q rest (a.put o.dst (.int .i64 n)) w') : wpList Tryd.prog ops Q (o :: rest) a w := by
  obtain ⟨h1, h2, h3, h4, h5⟩ := hb
  obtain ⟨b, of, rfl, _, hc⟩ := h5 hn
  have hl : (vals news).length = n := by simp [vals, h1]
  refine wpList_copy_own hgd d s 28 28 ho 5 Tryd.underlying28 infoB1 g off m cap ⟨b, of, none⟩ n c hd hs (ar t) ty hg (vals news) (by rw [hl]; exact (Nat.min_eq_left hnm).symm) (fun j v hv => ?_) (by rw [hl, ar_size]; exact hfit) (fun v hv => ?_) ?_
  · obtain ⟨hj, rfl⟩ := vals_get hv
    have : (⟨b, of, none⟩ : Addr).add j = ⟨b, of + j, none⟩ := by unfold Addr.add; split <;> simp_all
    rw [this]
    exact hc j hj
  · obtain ⟨y, _, rfl⟩ := List.mem_map.1 hv
    rfl
  · have e : ((ar t).toList.take off ++ (vals news ++ (ar t).toList.drop (off + (vals news).length))).toArray = ar (ovrL t off news) := by
      rw [hl]
      simp [ar, ovrL, vals, h1]
    rw [e]
    have hx : (goInt (vals news).length) = .int .i64 n := by rw [hl]; rfl
    rw [hx]
    exact h _ (Blk.setRow hg) ⟨rfl, rfl, rfl, by simp [World.setRow], fun i hi hne => setRow_other w g i _ (fun e => hne (by rw [e]))⟩ (by simp [World.setRow])
end
theorem result16 {fn : Func} {p : Tmp} (h : fn.results = #[.cell p 53]) (tmps : Array Value) (w : World) (g : Nat) (s : List UInt8) (hp : tmps.getD p undef = .pointer (some ⟨g, 0, none⟩)) (hb : Blk w g 53 (ar s)) (hs : s.length = 16) :
    (results fn tmps).run Tryd.prog w = .ok (.agg (ar s)) w :=
  results_cell_row h tmps w g 53 (ar s) (0, 0) _ hp hb Tryd.underlying53 rfl (by rw [infoA16, ar_size, hs])
theorem eqItems_ar (s t : List UInt8) (w : World) : ∀ is : List Nat, (∀ i ∈ is, i < s.length ∧ i < t.length) → (Op.eqItems 9999 5 1 (ar s) (ar t) is).run Tryd.prog w = .ok (decide (∀ i ∈ is, s.getD i 0 = t.getD i 0)) w
  | [], _ => by simp [Op.eqItems]
  | i :: is, h => by
    obtain ⟨h1, h2⟩ := h i (List.mem_cons_self ..)
    have ih := eqItems_ar s t w is fun j hj => h j (List.mem_cons_of_mem _ hj)
    have g1 := ar_get s i h1
    have g2 := ar_get t i h2
    have e1 : (part 5 (ar s) (i * 1)).run Tryd.prog w = .ok (.int .u8 ((s[i]).toNat : Int)) w := run_part_plain w (by kernel_rfl) (by rw [Nat.mul_one]; exact g1)
    have e2 : (part 5 (ar t) (i * 1)).run Tryd.prog w = .ok (.int .u8 ((t[i]).toNat : Int)) w := run_part_plain w (by kernel_rfl) (by rw [Nat.mul_one]; exact g2)
    have e3 := run_equalIn_int (P := Tryd.prog) w 9998 5 .u8 .u8 ((s[i]).toNat : Int) ((t[i]).toNat : Int) Tryd.underlying5
    simp only [Op.eqItems, Sem.run_bind, e1, e2, e3, Result.andThen_ok]
    have q1 : s.getD i 0 = s[i] := by rw [List.getD_eq_getElem?_getD, List.getElem?_eq_getElem h1]; rfl
    have q2 : t.getD i 0 = t[i] := by rw [List.getD_eq_getElem?_getD, List.getElem?_eq_getElem h2]; rfl
    by_cases hq : s[i] = t[i]
    · rw [hq]
      simp only [BEq.rfl, Bool.not_true, Bool.false_eq_true, if_false, ih]
      congr 1
      rw [decide_eq_decide]
      simp only [List.mem_cons, forall_eq_or_imp, q1, q2, hq, true_and]
    · have hne : (((s[i]).toNat : Int) == ((t[i]).toNat : Int)) = false := by
        simp only [beq_eq_false_iff_ne, ne_eq]
        intro e
        exact hq (UInt8.toNat_inj.1 (by omega))
      rw [hne]
      simp only [Bool.not_false, if_true, Sem.run_pure]
      congr 1
      symm
      rw [decide_eq_false_iff_not]
      intro hall
      exact hq (by rw [← q1, ← q2]; exact hall i (List.mem_cons_self ..))
/-- Two arrays of sixteen bytes, compared as one. -/
theorem eq16 (s t : List UInt8) (hs : s.length = 16) (ht : t.length = 16) (w : World) : (Op.equalIn 10000 53 (.agg (ar s)) (.agg (ar t))).run Tryd.prog w = .ok (decide (s = t)) w := by
  obtain ⟨i0, hi, _⟩ := info_parts infoU8
  have hc : Tryd.prog.cellsOf 5 = 1 := by kernel_rfl
  rw [run_equalIn_array w 9999 (ar s) (ar t) Tryd.underlying53 hi, hc, eqItems_ar s t w (List.range 16) fun i h => by rw [hs, ht]; exact ⟨List.mem_range.1 h, List.mem_range.1 h⟩]
  congr 1
  rw [decide_eq_decide]
  constructor
  · intro h
    refine List.ext_getElem (by rw [hs, ht]) fun i h1 h2 => ?_
    have := h i (List.mem_range.2 (by omega))
    rwa [List.getD_eq_getElem?_getD, List.getD_eq_getElem?_getD, List.getElem?_eq_getElem h1, List.getElem?_eq_getElem h2] at this
  · rintro rfl _ _
    rfl
/-- code.Put of a number of two bytes. -/
theorem obPut_any (s : Nat) (hs : s < 65536) (w : World) : Calls Tryd.prog 40 #[.int .i64 (s : Int), .int .i64 2] w fun e w' => ∃ g, e = .returned (.tuple #[.slice (some ⟨g, 0, none⟩) 2 2, .int .i64 0]) ∧ Bsl w' w'.heap.size (some ⟨g, 0, none⟩) 2 2 (leB 2 s) ∧ Below w.heap.size w w' := by
  refine (put_at s 2 2 rfl (by omega) (by omega) (by omega) w).mono ?_
  rintro e w1 ⟨rfl, h2, b2, s2⟩
  exact ⟨_, rfl, bsl_of_holds (cap := 2) (leB_length 2 s) (Nat.le_refl _) (by unfold maxLen; omega) s2 h2, b2⟩
/-- The head's sixteen bytes. -/
def hd16 (k l s : Nat) : List UInt8 := [UInt8.ofNat k, UInt8.ofNat l] ++ leB 2 s ++ List.replicate 12 0
theorem hd16_length (k l s : Nat) : (hd16 k l s).length = 16 := by simp [hd16, leB_length]
theorem hd16_ovr (k l s : Nat) : ovrL ([UInt8.ofNat k, UInt8.ofNat l] ++ List.replicate 14 0) 2 (leB 2 s) = hd16 k l s := by
  unfold ovrL hd16
  rw [leB_length]
  simp
set_option maxHeartbeats 1000000 in
theorem obHead_any (a : Option Addr) (c : Nat) (k l s n : Nat) (w : World) (hk : k < 256) (hl : l < 256) (hs : s < 65536) : Calls Tryd.prog 25 #[.agg #[.int .u8 (k : Int), .int .i64 (l : Int), .int .i64 (s : Int), .slice a n c]] w fun e w' => e = .returned (.agg (ar (hd16 k l s))) ∧ Below w.heap.size w w' := by
  obtain ⟨W, hW⟩ : ∃ W, ((w.alloc (.cells #[.int .u8 (k : Int), .int .i64 (l : Int), .int .i64 (s : Int), .slice a n c] 24)).alloc (.cells (ar zs16) 53)).alloc (.cells (ar ([UInt8.ofNat k, UInt8.ofNat l] ++ List.replicate 14 0)) 53) = W := ⟨_, rfl⟩
  have hb : Below w.heap.size w W := by rw [← hW]; exact below_alloc3' _ _ _ _
  have hx : Blk W (w.heap.size + 1) 53 (ar zs16) := by
    rw [← hW]
    have := (Blk.new (w.alloc (.cells #[.int .u8 (k : Int), .int .i64 (l : Int), .int .i64 (s : Int), .slice a n c] 24)) 53 (ar zs16)).alloc (.cells (ar ([UInt8.ofNat k, UInt8.ofNat l] ++ List.replicate 14 0)) 53)
    rwa [World.size_alloc] at this
  have hy : Blk W (w.heap.size + 1 + 1) 53 (ar ([UInt8.ofNat k, UInt8.ofNat l] ++ List.replicate 14 0)) := by
    rw [← hW]
    have := Blk.new ((w.alloc (.cells #[.int .u8 (k : Int), .int .i64 (l : Int), .int .i64 (s : Int), .slice a n c] 24)).alloc (.cells (ar zs16) 53)) 53 (ar ([UInt8.ofNat k, UInt8.ofNat l] ++ List.replicate 14 0))
    rwa [World.size_alloc, World.size_alloc] at this
  have hzs : w.heap.size + 1 + 1 < W.heap.size := hy.lt
  have e1 : ar zs16 = #[.int .u8 0, .int .u8 0, .int .u8 0, .int .u8 0, .int .u8 0, .int .u8 0, .int .u8 0, .int .u8 0, .int .u8 0, .int .u8 0, .int .u8 0, .int .u8 0, .int .u8 0, .int .u8 0, .int .u8 0, .int .u8 0] := rfl
  have e2 : ar ([UInt8.ofNat k, UInt8.ofNat l] ++ List.replicate 14 0) = #[.int .u8 (k : Int), .int .u8 (l : Int), .int .u8 0, .int .u8 0, .int .u8 0, .int .u8 0, .int .u8 0, .int .u8 0, .int .u8 0, .int .u8 0, .int .u8 0, .int .u8 0, .int .u8 0, .int .u8 0, .int .u8 0, .int .u8 0] := by
    have : ar ([UInt8.ofNat k, UInt8.ofNat l] ++ List.replicate 14 0) = #[.int .u8 ((UInt8.ofNat k).toNat : Int), .int .u8 ((UInt8.ofNat l).toNat : Int), .int .u8 0, .int .u8 0, .int .u8 0, .int .u8 0, .int .u8 0, .int .u8 0, .int .u8 0, .int .u8 0, .int .u8 0, .int .u8 0, .int .u8 0, .int .u8 0, .int .u8 0, .int .u8 0] := rfl
    rw [this, u8_of _ hk, u8_of _ hl]
  rw [e1, e2] at hW
  have hp := obPut_any s hs W
  have HP := Lib.hid hp
  have HB := Lib.hid hb
  have HX := Lib.hid hx
  have HY := Lib.hid hy
  have HZ := Lib.hid hzs
  have HW := Lib.hid hW
  clear hp hb hx hy hzs hW e1 e2 hs
  have sl := sliceAt16_2
  go_enter Tryd.func25, Tryd.ntmps25
  go_wp2_with fail
  rw [HW.out]
  refine HP.out.mono ?_
  rintro e w1 ⟨g, rfl, hs1, b1⟩
  have HS1 := Lib.hid hs1
  have HX1 := Lib.hid (HX.out.below b1 (by have := HZ.out; omega))
  have HY1 := Lib.hid (HY.out.below b1 HZ.out)
  have HB1 := Lib.hid (HB.out.trans (b1.mono HB.out.size))
  clear hs1 b1
  go_wp2_with (first
    | (with_reducible refine copyAt ?_
       refine wpList_copy_arr rfl (.tmp 18) (.tmp 19) rfl 53 (w.heap.size + 1 + 1) 2 14 2 14 rfl ([UInt8.ofNat k, UInt8.ofNat l] ++ List.replicate 14 0) HY1.out w1.heap.size (some ⟨g, 0, none⟩) 2 (leB 2 s) rfl HS1.out (by omega) (by omega) (by simp) ?_
       intro w2 x2 g2 _
       rw [hd16_ovr] at x2
       have HY2 := Lib.hid x2
       have HX2 := Lib.hid (HX1.out.grown g2 (fun e => by injection e; omega))
       have HB2 := Lib.hid (below_only HB1.out (by omega) g2 HB1.out.size)
       clear x2 g2)
    | (with_reducible refine at_load16 ?_
       refine wpList_load16 rfl (.tmp 3) rfl (w.heap.size + 1 + 1) (hd16 k l s) rfl HY2.out (hd16_length k l s) ?_)
    | (with_reducible refine at_store16 ?_
       refine wpList_store16 rfl (.tmp 2) (.tmp 21) rfl (w.heap.size + 1) (hd16 k l s) zs16 rfl rfl (hd16_length k l s) HX2.out zs16_length ?_
       intro w3 hx3 hg3
       have HX3 := Lib.hid hx3
       have HB3 := Lib.hid (below_only HB2.out (by omega) hg3 HB2.out.size)
       clear hx3 hg3))
  exact bodyPost_ret (v := .agg (ar (hd16 k l s))) (result16 rfl _ _ (w.heap.size + 1) _ rfl HX3.out (hd16_length k l s)) rfl ⟨rfl, HB3.out⟩
/-- What objectOf answers. -/
def hdO (h : List UInt8) : Nat × Nat × Nat := ((h.getD 0 0).toNat, (h.getD 1 0).toNat, leN ((h.drop 2).take 2))
set_option maxHeartbeats 1000000 in
theorem obObject_any (h : List UInt8) (hl : h.length = 16) (a : Option Addr) (n c : Nat) (w : World) : Calls Tryd.prog 23 #[.agg (ar h), .slice a n c] w fun e w' => e = .returned (.agg #[.int .u8 ((hdO h).1 : Int), .int .i64 ((hdO h).2.1 : Int), .int .i64 ((hdO h).2.2 : Int), .slice a n c]) ∧ Below w.heap.size w w' := by
  obtain ⟨W, hW⟩ : ∃ W, (w.alloc (.cells (ar h) 53)).alloc (.cells #[.int .u8 0, .int .i64 0, .int .i64 0, .slice none 0 0] 24) = W := ⟨_, rfl⟩
  have hb : Below w.heap.size w W := by rw [← hW]; exact ((Below.refl _ w).alloc (Nat.le_refl _) _).alloc (by rw [World.size_alloc]; omega) _
  have hx : Blk W w.heap.size 53 (ar h) := by rw [← hW]; exact (Blk.new w _ _).alloc _
  have hz : Blk W (w.heap.size + 1) 24 #[.int .u8 0, .int .i64 0, .int .i64 0, .slice none 0 0] := by
    rw [← hW]
    have := Blk.new (w.alloc (.cells (ar h) 53)) 24 #[.int .u8 0, .int .i64 0, .int .i64 0, .slice none 0 0]
    rwa [World.size_alloc] at this
  have hA : Bsl W W.heap.size (some ⟨w.heap.size, 0, none⟩) 16 16 h := hx.bsl hl (by omega)
  have HG := Lib.hid (callsIn_wide.1 (get_in 3 (Nat.le_refl _) w.heap.size 0 16 16 2 2 h hl (Nat.le_refl _) (by omega) (by omega) (by omega) (by omega) W hx.lt (by obtain ⟨b, off, e, _, hc⟩ := hA.2.2.2.2 (by omega); cases e; exact hc)))
  have HB := Lib.hid hb
  have HX := Lib.hid hx
  have HZ := Lib.hid hz
  have HW := Lib.hid hW
  have hho : hdO h = ((h.getD 0 0).toNat, (h.getD 1 0).toNat, leN ((h.drop 2).take 2)) := rfl
  obtain ⟨x0, hx0⟩ : ∃ n, (h.getD 0 0).toNat = n := ⟨_, rfl⟩
  obtain ⟨x1, hx1⟩ : ∃ n, (h.getD 1 0).toNat = n := ⟨_, rfl⟩
  obtain ⟨x2, hx2⟩ : ∃ n, leN ((h.drop 2).take 2) = n := ⟨_, rfl⟩
  have y0 := (h.getD 0 0).toNat_lt
  have y1 := (h.getD 1 0).toNat_lt
  rw [hx0] at y0
  rw [hx1] at y1
  rw [hx0, hx1, hx2] at hho
  rw [hho]
  simp only
  rw [hx2] at HG
  have HX0 := Lib.hid hx0
  have HX1 := Lib.hid hx1
  clear hb hx hz hA hW hho hx0 hx1 hx2
  go_enter Tryd.func23, Tryd.ntmps23
  go_wp2_with fail
  rw [HW.out]
  refine HG.out.mono ?_
  rintro e w1 ⟨rfl, b1⟩
  have hx1 := HX.out.below b1 HX.out.lt
  have hA1 := hx1.bsl hl (by omega)
  have k0 := hA1.cellD 0 (by omega)
  have k1 := hA1.cellD 1 (by omega)
  rw [HX0.out] at k0
  rw [HX1.out] at k1
  have hz1 := HZ.out.below b1 HZ.out.lt
  have m0 := ox0 hz1
  have m1 := ox1 hz1
  have m2 := ox2 hz1
  have m3 := ox3 hz1
  have hfz := fun i => hz1.frozen i
  have xz := hz1.set4 (.int .u8 (x0 : Int)) (.int .i64 (x1 : Int)) (.int .i64 (x2 : Int)) (.slice a n c)
  have bz := below_set4 (HB.out.trans (b1.mono HB.out.size)) (show w.heap.size ≤ w.heap.size + 1 by omega) (.int .u8 (x0 : Int)) (.int .i64 (x1 : Int)) (.int .i64 (x2 : Int)) (.slice a n c)
  obtain ⟨wz, hwz⟩ : ∃ X, (((w1.setCell ⟨w.heap.size + 1, 0, none⟩ (.int .u8 (x0 : Int))).setCell ⟨w.heap.size + 1, 1, none⟩ (.int .i64 (x1 : Int))).setCell ⟨w.heap.size + 1, 2, none⟩ (.int .i64 (x2 : Int))).setCell ⟨w.heap.size + 1, 3, none⟩ (.slice a n c) = X := ⟨_, rfl⟩
  rw [hwz] at xz bz
  have HXZ := Lib.hid xz
  have HBZ := Lib.hid bz
  clear xz bz hz1 hA1 hx1 b1
  rw [Nat.zero_add] at k0 k1
  go_wp2_with fail
  clear m0 m1 m2 m3 hfz hwz k0 k1
  have e0 := ox0 HXZ.out
  have e1 := ox1 HXZ.out
  have e2 := ox2 HXZ.out
  have e3 := ox3 HXZ.out
  refine bodyPost_ret (v := .agg #[.int .u8 (x0 : Int), .int .i64 (x1 : Int), .int .i64 (x2 : Int), .slice a n c]) (by simp [results, Tryd.f23, go_sem, e0, e1, e2, e3]) rfl ?_
  exact ⟨rfl, HBZ.out⟩
end Go.Proofs.YtennhempdnpobaaDoor
