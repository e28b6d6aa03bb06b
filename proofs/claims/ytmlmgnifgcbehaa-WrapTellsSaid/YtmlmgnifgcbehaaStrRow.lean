/-
  An append to the bytes that a string has just been made: whether there is room behind them or not, what is left reads as both; nothing else is written. An append of a string to a row of one's own.
-/
import Derived.Test.YtmlmgnifgcbehaaWrapA
import Derived.Lib.AppendStr
namespace Go.Proofs.Ytmlmgnifgcbehaa
open Go.RowKit Go.Shelf
set_option maxRecDepth 100000

/-- Block g has n bytes s, room for more up to cap, and its mark behind all of it. -/
def StrRow (w : World) (g n cap : Nat) (s : List UInt8) : Prop :=
  s.length = n ∧ n ≤ cap ∧ cap ≤ maxLen ∧ ∃ C, w.heap[g]? = some (.cells C 5 (cap, cap + 1)) ∧ C.size = cap ∧ ∀ i (h : i < s.length), C[i]? = some (.int .u8 ((s[i]).toNat : Int))
theorem StrRow.lt {w : World} {g n cap : Nat} {s : List UInt8} (h : StrRow w g n cap s) : g < w.heap.size := by
  obtain ⟨_, _, _, C, hC, _⟩ := h
  exact (Array.getElem?_eq_some_iff.1 hC).1
theorem StrRow.below {w w' : World} {B g n cap : Nat} {s : List UInt8} (h : StrRow w g n cap s) (hb : Below B w w') (hg : g < B) : StrRow w' g n cap s := by
  obtain ⟨h1, h2, h3, C, hC, h4⟩ := h
  exact ⟨h1, h2, h3, C, (hb.block g hg).trans hC, h4⟩
theorem StrRow.bsl {w : World} {g n cap : Nat} {s : List UInt8} (h : StrRow w g n cap s) : Bsl w w.heap.size (some ⟨g, 0, none⟩) n cap s := by
  have hlt := h.lt
  obtain ⟨h1, h2, h3, C, hC, _, h5⟩ := h
  exact bsl_of_holds h1 h2 h3 hlt fun i hi => by rw [cell_of_row w g i C _ _ hC, h5 i hi]
theorem str_row (w : World) (p : ByteArray) (hp : p.size ≤ 100000) : ∃ G w1, (convert 9 22 (.string p)).run Try.prog w = .ok (.slice (some ⟨w.heap.size, 0, none⟩) p.size G) w1 ∧ StrRow w1 w.heap.size p.size G (strB p) ∧ Below w.heap.size w w1 := by
  have hge := grownCap_ge w p.size 0 5
  have hsz : (Lib.bytesCells w 5 p).size = grownCap w p.size 0 5 := by
    simp only [Lib.bytesCells, Array.size_append, Array.size_map, Array.size_replicate]
    have : p.data.size = p.size := rfl
    omega
  refine ⟨grownCap w p.size 0 5, Lib.bytesWorld w 5 p, Lib.run_convert_string_bytes w 9 22 5 p Try.underlying9 Try.underlying22 Try.underlying5, ?_, ?_⟩
  · have hh := Lib.bytesWorld_at_new w 5 p
    refine ⟨strB_length p, hge, grownCap_le_maxLen w _ _ _ (by unfold maxLen; omega), Lib.bytesCells w 5 p, by rw [hh, hsz], hsz, fun i hi => ?_⟩
    have hi' : i < p.size := by rw [strB_length] at hi; exact hi
    have hc := Lib.bytesWorld_cell w 5 p i hi'
    rw [cell_of_row _ _ _ _ _ _ hh] at hc
    rw [hc]
    simp [strB, List.getD, hi']
  · exact ⟨rfl, rfl, rfl, by rw [Lib.bytesWorld_size]; omega, fun k hk => Lib.bytesWorld_at_old w _ p k hk⟩

theorem setCells_size (g : Nat) : ∀ (l : List Value) (o : Nat) (w : World), (w.setCells g o l).heap.size = w.heap.size
  | [], _, _ => rfl
  | v :: r, o, w => by rw [World.setCells, setCells_size g r]; simp [World.setCell]
theorem setCells_grown (g : Nat) : ∀ (l : List Value) (o : Nat) (w : World), w.grownBy (w.setCells g o l) (some g)
  | [], _, w => World.grownBy.refl w _
  | v :: r, o, w => by
    have h := setCells_grown g r (o + 1) (w.setCell ⟨g, o, none⟩ v)
    have h0 := only_setCell (World.grownBy.refl w (some g)) (p := ⟨g, o, none⟩) (.inl rfl) v
    exact ⟨h.os.trans h0.os, h.tape.trans h0.tape, h.output.trans h0.output, Nat.le_trans h0.size h.size, fun k hk hne => (h.block k (Nat.lt_of_lt_of_le hk h0.size) hne).trans (h0.block k hk hne)⟩
theorem run_append_strRow (w : World) (ty : TypeId) (g n cap : Nat) (s : List UInt8) (hs : StrRow w g n cap s) (B : Nat) (A : Option Addr) (m c : Nat) (t : List UInt8) (ht : Bsl w B A m c t) (hm : 0 < m) (hnm : n + m ≤ 100000) :
    ∃ g' cap' w', (Builtin.append_ #[22, 22] ty #[.slice (some ⟨g, 0, none⟩) n cap, .slice A m c]).run Try.prog w = .ok (.slice (some ⟨g', 0, none⟩) (n + m) cap') w' ∧
      Bsl w' w'.heap.size (some ⟨g', 0, none⟩) (n + m) cap' (s ++ t) ∧ w.grownBy w' (some g) := by
  have hlt := hs.lt
  obtain ⟨i0, hi, hz0, hz1, hz2⟩ := info_parts infoU8
  obtain ⟨h1, h2, h3, C, hC, h4, h5⟩ := hs
  obtain ⟨t1, t2, t3, t4, t5⟩ := ht
  obtain ⟨b, off, rfl, hb, hc⟩ := t5 hm
  have hadd : ∀ (x y j : Nat), (⟨x, y, none⟩ : Addr).add j = ⟨x, y + j, none⟩ := fun x y j => by unfold Addr.add; split <;> simp_all
  have hnews : ∀ j u, (vals t)[j]? = some u → w.cell? ((⟨b, off, none⟩ : Addr).add j) = some u := fun j u hu => by
    obtain ⟨hj, rfl⟩ := vals_get hu
    rw [hadd]
    exact hc j hj
  have h1c : ∀ u ∈ vals t, u.oneCell' = true := fun u hu => by
    obtain ⟨y, _, rfl⟩ := List.mem_map.1 hu
    rfl
  have hl : (vals t).length = m * i0.size := by rw [hz1]; simp [vals, t1]
  have hcell : ∀ i (h : i < s.length), w.cell? ⟨g, i, none⟩ = some (.int .u8 ((s[i]).toNat : Int)) := fun i h => by rw [cell_of_row w g i C _ _ hC, h5 i h]
  have hsome : n + m ≤ cap → ∀ j, j < (vals t).length → (w.cell? ⟨g, n + j, none⟩).isSome = true := fun hr j hj => by
    have hj' : n + j < C.size := by simp [vals, t1] at hj; omega
    rw [cell_of_row w g _ C _ _ hC, Array.getElem?_eq_getElem hj']
    rfl
  by_cases hroom : n + m ≤ cap
  · have hf := run_firstCells_some (P := Try.prog) w i0.size m ⟨b, off, none⟩ m c (vals t) hl hnews
    have hst := run_storeCells_cells (P := Try.prog) g n (vals t) 0 w (hsome hroom)
      (fun j hj => by
        simp only [World.frozen?, hC]
        have : n + 0 + j < cap := by simp [vals, t1] at hj; omega
        simp; omega) h1c
    simp only [Nat.add_zero] at hst
    rw [hz1] at hf
    refine ⟨g, cap, w.setCells g n (vals t), ?_, ?_, ?_⟩
    · simp [Builtin.append_, run_underlying Try.underlying22, sizeOf, typeInfo, hi, Builtin.lenOf, hroom, hf, hz1, hadd, hst, Result.andThen]
    · refine bsl_of_holds (by simp [h1, t1]) hroom h3 (by rw [setCells_size]; exact hlt) fun i hi' => ?_
      by_cases hin : i < n
      · rw [World.cell?_setCells_out g (vals t) n w ⟨g, i, none⟩ (fun _ _ => .inl hin), hcell i (by omega)]
        rw [List.getElem_append_left (by omega)]
      · have e : n + (i - n) = i := by omega
        have hj : i - n < (vals t).length := by simp [vals, t1]; simp at hi'; omega
        have hin2 := World.cell?_setCells_in g (vals t) n w (hsome hroom) (i - n) hj
        rw [e] at hin2
        rw [hin2, List.getElem_append_right (by omega)]
        simp [vals, h1]
    · exact setCells_grown g (vals t) n w
  · have hr := run_append_grow (P := Try.prog) w 22 ty 5 i0 (.int .u8 0) Try.underlying22 hi hz0 ⟨g, 0, none⟩ n cap (vals s) (by rw [hz1]; simp [vals, h1])
      (fun j u hu => by
        obtain ⟨hj, rfl⟩ := vals_get hu
        rw [hadd, Nat.zero_add]
        exact hcell j hj) ⟨b, off, none⟩ m c (vals t) hl hnews (by omega) (by omega) (growslice_fits (by omega) (by rw [hz2]; omega))
    have hge := grownCap_ge w (n + m) cap 5
    have hgm : grownCap w (n + m) cap 5 ≤ maxLen := grownCap_le_maxLen w (n + m) cap 5 (by unfold maxLen; omega)
    generalize grownCap w (n + m) cap 5 = G at hr hge hgm
    refine ⟨_, _, _, hr, ?_, ⟨rfl, rfl, rfl, by simp, fun k hk _ => heap_alloc_old w.drew _ k hk⟩⟩
    refine bsl_of_holds (by simp [h1, t1]) hge hgm (by simp) fun i hi' => ?_
    rw [cell_of_row (w.drew.alloc _) w.heap.size i _ 5 (0, 0) (heap_alloc_new w.drew _)]
    have e : (vals s).toArray ++ (vals t).toArray = (vals (s ++ t)).toArray := by rw [← vals_append]; simp
    rw [e, Array.getElem?_append_left (by simp [vals]; simpa using hi')]
    exact ar_get (s ++ t) i hi'
/-- The operation, for the walk. -/
theorem wpList_append_strRow {w : World} {ops : Array Oper} {rest : List Oper} {o : Oper} {a : Act} {Q : Exit → Act → World → Prop} (hgd : o.guard = none) (x y : Operand)
    (ho : o.op = .call { callee := .builtin .append, args := #[x, y], argTypes := #[22, 22] })
    (g n cap : Nat) (s : List UInt8) (hx : a.eval x = .slice (some ⟨g, 0, none⟩) n cap) (hs : StrRow w g n cap s) (B : Nat) (A : Option Addr) (m c : Nat) (t : List UInt8) (hy : a.eval y = .slice A m c) (ht : Bsl w B A m c t) (hm : 0 < m) (hnm : n + m ≤ 100000)
    (h : ∀ g' cap' w', Bsl w' w'.heap.size (some ⟨g', 0, none⟩) (n + m) cap' (s ++ t) → w.grownBy w' (some g) → wpList Try.prog ops Q rest (a.put o.dst (.slice (some ⟨g', 0, none⟩) (n + m) cap')) w') : wpList Try.prog ops Q (o :: rest) a w := by
  obtain ⟨g', cap', w', hr, h1, h2⟩ := run_append_strRow w o.type g n cap s hs B A m c t ht hm hnm
  refine wpList_plain hgd fun K hK => ?_
  unfold Oper.wp
  simp [execOp, ho, resolve, invoke, builtin, hx, hy, hr, Result.andThen]
  exact hK _ _ (h g' cap' w' h1 h2)
/-- A string behind a row of one's own. -/
theorem wpList_append_str {w : World} {ops : Array Oper} {rest : List Oper} {o : Oper} {a : Act} {Q : Exit → Act → World → Prop} (hgd : o.guard = none) (x y : Operand)
    (ho : o.op = .call { callee := .builtin .append, args := #[x, y], argTypes := #[22, 9] })
    (base : Nat) (v : Value) (n : Nat) (xs : List UInt8) (hx : a.eval x = v) (hown : w.ownsRow base 5 1 v n (vals xs)) (p : ByteArray) (hy : a.eval y = .string p) (hnm : n + p.size ≤ 100000) (hbase : base ≤ w.heap.size)
    (h : ∀ v' w', w'.ownsRow base 5 1 v' (n + p.size) (vals (xs ++ strB p)) → w.grownBy w' v.ownBlock → wpList Try.prog ops Q rest (a.put o.dst v') w') : wpList Try.prog ops Q (o :: rest) a w := by
  obtain ⟨i0, hi, hz0, hz1, hz2⟩ := info_parts infoU8
  refine Lib.wpList_append_own_string w hgd x y 22 9 ho base 5 i0 Try.underlying22 Try.underlying9 hi hz0 hz1 hz2 v n (vals xs) hx hown p hy (by unfold maxLen; omega) (by omega) hbase fun v' w' h1 h2 _ => h v' w' ?_ h2
  rw [← vals_append]
  exact h1
end Go.Proofs.Ytmlmgnifgcbehaa
