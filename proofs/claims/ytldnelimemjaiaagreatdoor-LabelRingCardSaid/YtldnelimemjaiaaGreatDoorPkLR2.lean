/-
  Texts of one seat, one behind the other.
-/
import Derived.Laws.CopyOwn
import Derived.OrdersHeld
import Derived.Below
import Derived.Tactics
import Derived.KernelRfl
import Derived.Deep.CutRange
import Derived.Deep.DeepCutAuto
import Derived.Lib.AppendZeros
import Derived.Test.YtldnelimemjaiaaGreatDoorPkLR1
/-
  Plain lists for layer 9: all bytes of a disk in one row, piece behind piece.
-/
namespace Go.Proofs.YtldnelimemjaiaaGreatDoor

/-- The pieces of a disk: its blocks, then its writes' bytes. -/
def pieces (D : DkL) : List (List UInt8) := D.1 ++ D.2.map (·.2)
def flatP (P : List (List UInt8)) (k : Nat) : List UInt8 := (P.take k).flatten
def startP (P : List (List UInt8)) (k : Nat) : Nat := (flatP P k).length
/-- The room where the first k pieces are laid. -/
def roomP (P : List (List UInt8)) (T k : Nat) : List UInt8 := flatP P k ++ List.replicate (T - startP P k) 0
/-- What a list is where s is laid over it from o on. -/
def overL (t : List UInt8) (o : Nat) (s : List UInt8) : List UInt8 := t.take o ++ (s ++ t.drop (o + s.length))
theorem overL_length {t : List UInt8} {o : Nat} {s : List UInt8} (h : o + s.length ≤ t.length) : (overL t o s).length = t.length := by simp [overL]; omega
theorem flatP_succ {P : List (List UInt8)} {k : Nat} (h : k < P.length) : flatP P (k + 1) = flatP P k ++ P.getD k [] := by
  unfold flatP
  rw [List.take_succ_eq_append_getElem h, List.flatten_append, List.getD_eq_getElem?_getD, List.getElem?_eq_getElem h]
  simp
theorem startP_succ {P : List (List UInt8)} {k : Nat} (h : k < P.length) : startP P (k + 1) = startP P k + (P.getD k []).length := by
  unfold startP
  rw [flatP_succ h, List.length_append]
theorem startP_mono {P : List (List UInt8)} {j k : Nat} (h : j ≤ k) : startP P j ≤ startP P k := by
  induction k with
  | zero => obtain rfl : j = 0 := by omega
            exact Nat.le_refl _
  | succ k ih =>
    rcases Nat.lt_or_ge j (k + 1) with h1 | h1
    · refine Nat.le_trans (ih (by omega)) ?_
      rcases Nat.lt_or_ge k P.length with h2 | h2
      · rw [startP_succ h2]
        exact Nat.le_add_right _ _
      · unfold startP flatP
        rw [List.take_of_length_le h2, List.take_of_length_le (by omega)]
        exact Nat.le_refl _
    · obtain rfl : j = k + 1 := by omega
      exact Nat.le_refl _
theorem startP_zero (P : List (List UInt8)) : startP P 0 = 0 := rfl
theorem roomP_length {P : List (List UInt8)} {T k : Nat} (h : startP P k ≤ T) : (roomP P T k).length = T := by
  unfold roomP
  rw [List.length_append, List.length_replicate]
  unfold startP at h ⊢
  omega
theorem roomP_zero (P : List (List UInt8)) (T : Nat) : roomP P T 0 = List.replicate T 0 := by simp [roomP, flatP, startP]
theorem room_step {P : List (List UInt8)} {T k : Nat} (h : k < P.length) (hT : startP P (k + 1) ≤ T) : overL (roomP P T k) (startP P k) (P.getD k []) = roomP P T (k + 1) := by
  have h1 := startP_succ h
  unfold overL roomP
  rw [flatP_succ h]
  have e1 : (flatP P k ++ List.replicate (T - startP P k) 0).take (startP P k) = flatP P k := by
    unfold startP
    simp
  have e2 : (flatP P k ++ List.replicate (T - startP P k) 0).drop (startP P k + (P.getD k []).length) = List.replicate (T - startP P (k + 1)) 0 := by
    rw [List.drop_append, List.drop_of_length_le (by unfold startP; omega), List.nil_append, List.drop_replicate]
    congr 1
    show T - startP P k - (startP P k + (P.getD k []).length - (flatP P k).length) = _
    have : (flatP P k).length = startP P k := rfl
    omega
  rw [e1, e2, List.append_assoc]
theorem room_same {P : List (List UInt8)} {T k : Nat} (h : k < P.length) (h0 : (P.getD k []).length = 0) : roomP P T k = roomP P T (k + 1) := by
  have h1 := startP_succ h
  have h2 := flatP_succ h
  rw [List.eq_nil_of_length_eq_zero h0, List.append_nil] at h2
  unfold roomP
  rw [h2, h1, h0, Nat.add_zero]
theorem pieces_length (D : DkL) : (pieces D).length = D.1.length + D.2.length := by simp [pieces]
theorem pieces_left {D : DkL} {i : Nat} (h : i < D.1.length) : (pieces D).getD i [] = D.1.getD i [] := by
  rw [List.getD_eq_getElem?_getD, pieces, List.getElem?_append_left h, ← List.getD_eq_getElem?_getD]
theorem pieces_right {D : DkL} {i : Nat} (h : i < D.2.length) : (pieces D).getD (D.1.length + i) [] = (wr_ D.2 i).2 := by
  rw [List.getD_eq_getElem?_getD, pieces, List.getElem?_append_right (by omega)]
  simp [wr_, h]
theorem startP_sumB {D : DkL} : ∀ {k : Nat}, k ≤ D.1.length → startP (pieces D) k = sumB D.1 k
  | 0, _ => rfl
  | k + 1, h => by
    rw [startP_succ (by rw [pieces_length]; omega), startP_sumB (by omega), pieces_left (by omega)]
    rfl
theorem startP_sumW {D : DkL} : ∀ {k : Nat}, k ≤ D.2.length → startP (pieces D) (D.1.length + k) = sumB D.1 D.1.length + sumW D.2 k
  | 0, _ => by rw [Nat.add_zero, startP_sumB (Nat.le_refl _)]; rfl
  | k + 1, h => by
    have h1 : startP (pieces D) (D.1.length + k + 1) = _ := startP_succ (by rw [pieces_length]; omega)
    rw [← Nat.add_assoc, h1, startP_sumW (by omega), pieces_right (by omega)]
    show _ = _ + (_ + _)
    omega
theorem startP_sumD (D : DkL) : startP (pieces D) (D.1.length + D.2.length) = sumD D := startP_sumW (Nat.le_refl _)
/-- A byte of a piece, where it is laid. -/
theorem room_get {P : List (List UInt8)} {T n k j : Nat} (h : k < n) (hn : n ≤ P.length) (hj : j < (P.getD k []).length) : (roomP P T n)[startP P k + j]? = (P.getD k [])[j]? := by
  have hlt : startP P k + j < startP P n := by
    have h1 := startP_succ (show k < P.length by omega)
    have h2 := startP_mono (P := P) (show k + 1 ≤ n by omega)
    omega
  unfold roomP
  rw [List.getElem?_append_left (by exact hlt)]
  clear hlt
  induction n with
  | zero => omega
  | succ n ih =>
    rw [flatP_succ (by omega)]
    rcases Nat.lt_or_ge k n with h1 | h1
    · have hlt : startP P k + j < (flatP P n).length := by
        have h1' := startP_succ (show k < P.length by omega)
        have h2 := startP_mono (P := P) (show k + 1 ≤ n by omega)
        show _ < startP P n
        omega
      rw [List.getElem?_append_left hlt]
      exact ih h1 (by omega)
    · obtain rfl : k = n := by omega
      rw [List.getElem?_append_right (by unfold startP; omega)]
      congr 1
      unfold startP
      omega
theorem getD_set {α : Type} (l : List α) (p i : Nat) (z d : α) (hp : p < l.length) : (l.set p z).getD i d = if i = p then z else l.getD i d := by
  rw [List.getD_eq_getElem?_getD, List.getElem?_set]
  by_cases e : i = p
  · subst e
    simp [hp]
  · rw [if_neg (fun h => e h.symm), if_neg e, ← List.getD_eq_getElem?_getD]
theorem startP_set {P : List (List UInt8)} {p : Nat} {z : List UInt8} (hp : p < P.length) (hz : z.length = (P.getD p []).length) : ∀ {k : Nat}, k ≤ P.length → startP (P.set p z) k = startP P k
  | 0, _ => rfl
  | k + 1, h => by
    rw [startP_succ (by rw [List.length_set]; omega), startP_succ (by omega), startP_set hp hz (by omega), getD_set _ _ _ _ _ hp]
    split
    · rename_i e
      rw [e, hz]
    · rfl
theorem flatP_set {P : List (List UInt8)} {p q : Nat} {y : UInt8} (hp : p < P.length) (hq : q < (P.getD p []).length) : ∀ {k : Nat}, p < k → k ≤ P.length → flatP (P.set p ((P.getD p []).set q y)) k = (flatP P k).set (startP P p + q) y
  | 0, h, _ => absurd h (Nat.not_lt_zero _)
  | k + 1, h, hk => by
    rw [flatP_succ (by rw [List.length_set]; omega), flatP_succ (by omega), getD_set _ _ _ _ _ hp]
    rcases Nat.lt_or_ge p k with h1 | h1
    · rw [if_neg (by omega), flatP_set hp hq h1 (by omega), List.set_append_left]
      have e1 := startP_succ hp
      have e2 := startP_mono (P := P) (show p + 1 ≤ k by omega)
      show _ < startP P k
      omega
    · obtain rfl : p = k := by omega
      rw [if_pos rfl]
      have e : flatP (P.set p ((P.getD p []).set q y)) p = flatP P p := by
        unfold flatP
        rw [List.take_set, List.set_eq_of_length_le (by simp; omega)]
      rw [e, List.set_append_right _ _ (by unfold startP; omega)]
      congr 2
      unfold startP
      omega
/-- A disk with one byte turned. -/
def turnedD (D : DkL) (p q : Nat) (b : UInt8) : DkL := (D.1.set p ((D.1.getD p []).set q ((D.1.getD p []).getD q 0 ^^^ b)), D.2)
theorem turned_pieces {D : DkL} {p q : Nat} {b : UInt8} (hp : p < D.1.length) : pieces (turnedD D p q b) = (pieces D).set p (((pieces D).getD p []).set q (((pieces D).getD p []).getD q 0 ^^^ b)) := by
  rw [pieces_left hp]
  unfold pieces turnedD
  rw [List.set_append_left _ _ hp]
theorem turned_room {D : DkL} {p q : Nat} {b : UInt8} (hp : p < D.1.length) (hq : q < (D.1.getD p []).length) (T : Nat) : roomP (pieces (turnedD D p q b)) T (D.1.length + D.2.length) = (roomP (pieces D) T (D.1.length + D.2.length)).set (startP (pieces D) p + q) ((D.1.getD p []).getD q 0 ^^^ b) := by
  have hl := pieces_length D
  have hpP : p < (pieces D).length := by omega
  have hqP : q < ((pieces D).getD p []).length := by rw [pieces_left hp]; exact hq
  unfold roomP
  rw [turned_pieces hp, startP_set hpP (by simp) (by omega), flatP_set hpP hqP (by omega) (by omega), List.set_append_left, pieces_left hp]
  have e1 := startP_succ hpP
  have e2 := startP_mono (P := pieces D) (show p + 1 ≤ D.1.length + D.2.length by omega)
  show _ < startP _ _
  omega
theorem turned_len {D : DkL} {p q : Nat} {b : UInt8} (i : Nat) : ((turnedD D p q b).1.getD i []).length = (D.1.getD i []).length := by
  rcases Nat.lt_or_ge p D.1.length with hp | hp
  · show ((D.1.set p _).getD i []).length = _
    rw [getD_set _ _ _ _ _ hp]
    split
    · rename_i e
      rw [e, List.length_set]
    · rfl
  · show ((D.1.set p _).getD i []).length = _
    rw [List.set_eq_of_length_le hp]
theorem turned_sum {D : DkL} {p q : Nat} {b : UInt8} (hp : p < D.1.length) : sumD (turnedD D p q b) = sumD D := by
  rw [← startP_sumD, ← startP_sumD, turned_pieces hp]
  have e : (turnedD D p q b).1.length = D.1.length := List.length_set ..
  have e2 : (turnedD D p q b).2 = D.2 := rfl
  rw [e, e2]
  exact startP_set (by rw [pieces_length]; omega) (by simp) (by rw [pieces_length]; omega)
theorem turned_may {D : DkL} {p q : Nat} {b : UInt8} (h : MayD D) : MayD (turnedD D p q b) :=
  ⟨⟨by rw [← h.1.1]; exact List.length_set .., fun i hi => by rw [turned_len]; exact h.1.2 i hi⟩, h.2⟩
end Go.Proofs.YtldnelimemjaiaaGreatDoor
/-
  The closure of dev.laid cuts a piece off the room and fills it.
-/
namespace Go.Proofs.YtldnelimemjaiaaGreatDoor
open Go.RowKit Go.Shelf
set_option maxRecDepth 100000

theorem dAtCopy {P : Program} {ops : Array Oper} {Q : Exit → Act → World → Prop} {a : Act} {w : World} {rest : List Oper} {d : Option Tmp} {ty : TypeId} {x : Array Operand} {y : Array TypeId} {pos : String} {af : Array Edge} (h : wpList P ops Q (⟨d, .call { callee := .builtin .copy, args := x, argTypes := y }, ty, pos, af, none⟩ :: rest) a w) : wpList P ops Q (⟨d, .call { callee := .builtin .copy, args := x, argTypes := y }, ty, pos, af, none⟩ :: rest) a w := h
theorem infoU1 : (Tryz.prog.info? 5).map (·.size) = some 1 := by kernel_rfl
/-- copy(dst, src) over a part of a row that is known whole; nothing else is written. -/
theorem wpList_copy_bsl {w : World} {ops : Array Oper} {rest : List Oper} {o : Oper} {a : Act} {Q : Exit → Act → World → Prop} (hgd : o.guard = none) (d s : Operand)
    (ho : o.op = .call { callee := .builtin .copy, args := #[d, s], argTypes := #[45, 45] })
    (g off n cap : Nat) (hd : a.eval d = .slice (some ⟨g, off, none⟩) n cap) (t : List UInt8) (hg : Blk w g 5 (ar t))
    (B : Nat) (A : Option Addr) (c : Nat) (news : List UInt8) (hs : a.eval s = .slice A n c) (hb : Bsl w B A n c news) (hfit : 0 < n → off + n ≤ t.length)
    (h : ∀ w', (0 < n → Blk w' g 5 (ar (overL t off news))) → (n = 0 → w' = w) → w.grownBy w' (some g) → w'.heap.size = w.heap.size → wpList Tryz.prog ops Q rest (a.put o.dst (.int .i64 n)) w') : wpList Tryz.prog ops Q (o :: rest) a w := by
  obtain ⟨h1, h2, h3, h4, h5⟩ := hb
  rcases Nat.eq_zero_or_pos n with h0 | h0
  · subst h0
    refine wpList_copy_nothing hgd d s 45 45 ho 5 Tryz.underlying45 infoU1 _ _ 0 cap 0 c hd hs rfl ?_
    exact h w (fun hh => absurd hh (Nat.lt_irrefl _)) (fun _ => rfl) (World.grownBy.refl w _) rfl
  · obtain ⟨b, of, rfl, _, hc⟩ := h5 h0
    have hl : (vals news).length = n := by simp [vals, h1]
    refine wpList_copy_own hgd d s 45 45 ho 5 Tryz.underlying45 infoU1 g off n cap ⟨b, of, none⟩ n c hd hs (ar t) 5 hg (vals news) (by rw [hl]; simp) (fun j v hv => ?_) (by rw [hl, ar_size]; exact hfit h0) (fun v hv => ?_) ?_
    · obtain ⟨hj, rfl⟩ := vals_get hv
      have : (⟨b, of, none⟩ : Addr).add j = ⟨b, of + j, none⟩ := by unfold Addr.add; split <;> simp_all
      rw [this]
      exact hc j hj
    · obtain ⟨y, _, rfl⟩ := List.mem_map.1 hv
      rfl
    · have e : ((ar t).toList.take off ++ (vals news ++ (ar t).toList.drop (off + (vals news).length))).toArray = ar (overL t off news) := by
        rw [hl]
        simp [ar, overL, vals, h1]
      rw [e]
      have hx : (goInt (vals news).length) = .int .i64 n := by rw [hl]; rfl
      rw [hx]
      refine h _ (fun _ => Blk.setRow hg) (fun hh => by omega) ⟨rfl, rfl, rfl, by simp [World.setRow], fun i hi hne => setRow_other w g i _ (fun e => hne (by rw [e]))⟩ (by simp [World.setRow])
/-- room[:n:n]. -/
theorem cut_hm (W : World) (g o r n : Nat) (hn : n ≤ r) : (Instr.slice 45 (.slice (some ⟨g, o, none⟩) r r) none (some (.int .i64 (n : Int))) (some (.int .i64 (n : Int)))).run Tryz.prog W = .ok (.slice (some ⟨g, o, none⟩) n n) W := by
  rw [run_slice_hm W 45 _ _ _ (by kernel_rfl) .i64 .i64 _ _ (by omega) (by omega) (by omega)]
  have hz : (Go.sizeOf (Tryz.prog.elem 45)).run Tryz.prog W = .ok 1 W := by kernel_rfl
  rw [hz]
  simp [Result.andThen, sliced, Addr.add]
/-- room[n:]. -/
theorem cut_l (W : World) (g o r n : Nat) (hn : n ≤ r) : (Instr.slice 45 (.slice (some ⟨g, o, none⟩) r r) (some (.int .i64 (n : Int))) none none).run Tryz.prog W = .ok (.slice (some ⟨g, if r = n then o else o + n, none⟩) (r - n) (r - n)) W := by
  rw [run_slice_l W 45 _ _ _ (by kernel_rfl) .i64 _ (by omega) (by omega)]
  have hz : (Go.sizeOf (Tryz.prog.elem 45)).run Tryz.prog W = .ok 1 W := by kernel_rfl
  rw [hz]
  simp [Result.andThen, sliced, Addr.add]
  split <;> simp
/-- What the closure does: the piece it answers, the room that is left. -/
def CutPost (gv g o r n : Nat) (t s : List UInt8) (w : World) (e : Ending) (w' : World) : Prop :=
  e = .returned (.slice (some ⟨g, o, none⟩) n n) ∧ w'.heap.size = w.heap.size ∧
    (∃ o', Blk w' gv 45 #[.slice (some ⟨g, o', none⟩) (r - n) (r - n)] ∧ (0 < r - n → o' = o + n)) ∧
    Blk w' g 5 (ar (if n = 0 then t else overL t o s)) ∧ ∃ w1, w.grownBy w1 (some gv) ∧ w1.grownBy w' (some g)
theorem dCut_any (B : Nat) (A : Option Addr) (n c gv g o r : Nat) (t s : List UInt8) (w : World) (hA : Bsl w B A n c s) (hBv : B ≤ gv) (hne : gv ≠ g) (hv : Blk w gv 45 #[.slice (some ⟨g, o, none⟩) r r]) (hg : Blk w g 5 (ar t)) (hn : n ≤ r) (ho : 0 < r → o + r ≤ t.length) :
    Calls Tryz.prog 60 #[.slice A n c, .pointer (some ⟨gv, 0, none⟩)] w (CutPost gv g o r n t s w) := by
  have k1 := fun W => cut_hm W g o r n hn
  have k2 := fun W => cut_l W g o r n hn
  obtain ⟨o', ho'⟩ : ∃ o', (if r = n then o else o + n) = o' := ⟨_, rfl⟩
  rw [ho'] at k2
  have c0 := hv.cell 0
  have f0 := hv.frozen 0
  have i0 : (0 : Int) ≤ n := by omega
  obtain ⟨w1, hw1⟩ : ∃ w1, w.setCell ⟨gv, 0, none⟩ (.slice (some ⟨g, o', none⟩) (r - n) (r - n)) = w1 := ⟨_, rfl⟩
  have x1 : Blk w1 gv 45 #[.slice (some ⟨g, o', none⟩) (r - n) (r - n)] := by rw [← hw1]; exact hv.set_ 0 _
  have g1 : w.grownBy w1 (some gv) := by rw [← hw1]; exact only_setCell (World.grownBy.refl w _) (.inl rfl) _
  have y1 : Blk w1 g 5 (ar t) := hg.grown g1 (fun e => hne (Option.some.inj e).symm)
  have z1 : w1.heap.size = w.heap.size := by rw [← hw1]; simp [World.setCell]
  have hA1 : Bsl w1 B A n c s := hA.below (below_only (Below.refl B w) hBv g1 (by have := hv.lt; omega))
  have HX := Lib.hid x1
  have HG := Lib.hid g1
  have HY := Lib.hid y1
  have HZ := Lib.hid z1
  have HA := Lib.hid hA1
  have HW := Lib.hid hw1
  have HO := Lib.hid ho'
  have HT := Lib.hid ho
  clear hA hv hg x1 g1 y1 z1 hA1 hw1 ho' ho
  go_enter Tryz.func60, Tryz.ntmps60
  go_wp2_with (with_reducible refine dAtCopy ?_
               rw [HW.out]
               refine wpList_copy_bsl rfl (.tmp 15) (.tmp 16) rfl g o n n rfl t HY.out B A c s rfl HA.out (fun hh => by have := HT.out (by omega); omega) ?_
               intro w2 x2 e2 g2 z2
               have HX2 := Lib.hid (HX.out.grown g2 (fun e => hne (Option.some.inj e)))
               have HY2 := Lib.hid x2
               have HE2 := Lib.hid e2
               have HG2 := Lib.hid g2
               have HZ2 := Lib.hid z2
               clear x2 e2 g2 z2)
  go_ret
  refine ⟨rfl, by rw [HZ2.out, HZ.out], ⟨o', HX2.out, fun hh => ?_⟩, ?_, w1, HG.out, HG2.out⟩
  · rw [← HO.out, if_neg (by omega)]
  · split
    · rename_i h0
      rw [HE2.out h0]
      exact HY.out
    · rename_i h0
      exact HY2.out (by omega)
end Go.Proofs.YtldnelimemjaiaaGreatDoor
/-
  A region that draws its order and holds calls that make memory, walked in one order of one's own: each operation that reads yields the same in every world that what follows may come to; each call stands alone when its turn comes (or two stand side by side: both ways are walked); an operation that has its own place in the order may do what it likes.
-/
namespace Go.Proofs.YtldnelimemjaiaaGreatDoor
open Go Go.RowKit
set_option maxRecDepth 100000

/-- What lay as it lay still does. -/
def Stays (w w' : World) : Prop := ∀ X : World, Below X.heap.size X w → Below X.heap.size X w'
theorem Stays.refl (w : World) : Stays w w := fun _ h => h
theorem Stays.trans {a b c : World} (h : Stays a b) (k : Stays b c) : Stays a c := fun X hx => k X (h X hx)
theorem Stays.of_below {w w' : World} (b : Below w.heap.size w w') : Stays w w' := fun _ h => h.trans (b.mono h.size)
theorem Stays.drew (w : World) : Stays w w.drew := fun _ h => h.drew
theorem Stays.same {w w' : World} (h : w' = w) : Stays w w' := h ▸ Stays.refl w

section
variable {P : Program} {ops : Array Oper} {Q : Exit → Act → World → Prop} {md : Region.Mode}

/-- What is listed has all listed that it waits for. -/
def Closed (md : Region.Mode) (ops : Array Oper) (L : Array Bool) : Prop := ∀ k o, ops[k]? = some o → L.getD k false = true → ∀ e ∈ o.after, Region.binds md e = true → L.getD e.on false = true
def closedB (md : Region.Mode) (ops : Array Oper) (L : Array Bool) : Bool :=
  (List.range ops.size).all fun k => !L.getD k false || match ops[k]? with
    | some o => o.after.toList.all fun e => !Region.binds md e || L.getD e.on false
    | none => true
theorem closedB_spec {L : Array Bool} (h : closedB md ops L = true) : Closed md ops L := by
  intro k o hk hl e he hb
  unfold closedB at h
  simp only [List.all_eq_true, List.mem_range] at h
  have h1 := h k (Array.getElem?_eq_some_iff.1 hk).1
  rw [hl, hk] at h1
  simp only [Bool.not_true, Bool.false_or, List.all_eq_true] at h1
  have h2 := h1 e (by simpa using he)
  rw [hb] at h2
  simpa using h2
theorem closed_set {L : Array Bool} {j : Nat} (h : Closed md ops L) (hj : j ∈ Region.ready md ops L) : Closed md ops (L.setIfInBounds j true) := by
  intro k o hk hl e he hb
  by_cases hkj : j = k
  · subst hkj
    obtain ⟨_, oj, hoj, hall⟩ := mem_ready.1 hj
    rw [hk] at hoj
    cases hoj
    exact getD_set_true (hall e he hb)
  · rw [getD_set_ne false hkj] at hl
    exact getD_set_true (h k o hk hl e he hb)
/-- j waits for k, by at most so many steps. -/
def waitsB (md : Region.Mode) (ops : Array Oper) : Nat → Nat → Nat → Bool
  | 0, _, _ => false
  | n + 1, j, k => match ops[j]? with
    | some o => o.after.toList.any fun e => Region.binds md e && (e.on == k || waitsB md ops n e.on k)
    | none => false
theorem waits_listed {L : Array Bool} (hc : Closed md ops L) {k : Nat} : ∀ (n j : Nat), waitsB md ops n j k = true → (∀ o, ops[j]? = some o → ∀ e ∈ o.after, Region.binds md e = true → L.getD e.on false = true) → L.getD k false = true
  | 0, _, h, _ => by cases h
  | n + 1, j, h, hd => by
    unfold waitsB at h
    cases ho : ops[j]? with
    | none => rw [ho] at h; cases h
    | some o =>
      rw [ho] at h
      simp only [List.any_eq_true, Bool.and_eq_true, Bool.or_eq_true, beq_iff_eq] at h
      obtain ⟨e, he, hb, h1⟩ := h
      have hl := hd o ho e (by simpa using he) hb
      rcases h1 with h1 | h1
      · rw [← h1]; exact hl
      · exact waits_listed hc n e.on h1 fun o' ho' e' he' hb' => hc e.on o' ho' hl e' he' hb'
/-- Each other operation comes ahead of that of number i, or behind it. -/
def lastB (md : Region.Mode) (ops : Array Oper) (i : Nat) : Bool := (List.range ops.size).all fun k => k == i || waitsB md ops ops.size i k || waitsB md ops ops.size k i
theorem unready {L : Array Bool} {i : Nat} (h : i ∈ Region.ready md ops L) (hl : L.getD i false = true) : False := by
  have h0 := (mem_ready.1 h).1
  rcases Nat.lt_or_ge i L.size with h' | h'
  · simp [h'] at h0 hl; rw [h0] at hl; cases hl
  · simp [Array.getElem?_eq_none h'] at hl
theorem lastB_not {L : Array Bool} {i j : Nat} (hc : Closed md ops L) (hi : i ∈ Region.ready md ops L) (hj : j ∈ Region.ready md ops L) (hne : j ≠ i) : lastB md ops j ≠ true := by
  intro h
  unfold lastB at h
  simp only [List.all_eq_true, List.mem_range] at h
  obtain ⟨_, oi, hoi, di⟩ := mem_ready.1 hi
  obtain ⟨_, oj, hoj, dj⟩ := mem_ready.1 hj
  have h1 := h i (Array.getElem?_eq_some_iff.1 hoi).1
  simp only [Bool.or_eq_true, beq_iff_eq, Ne.symm hne, false_or] at h1
  rcases h1 with h1 | h1
  · exact unready hi (waits_listed hc _ j h1 fun o ho e he hb => by rw [hoj] at ho; cases ho; exact dj e he hb)
  · exact unready hj (waits_listed hc _ i h1 fun o ho e he hb => by rw [hoi] at ho; cases ho; exact di e he hb)

/-- Whatever order is picked from here on; what lay as it lay still does behind each operation but such as stand alone in the order. -/
def wpMov (P : Program) (md : Region.Mode) (ops : Array Oper) (Q : Exit → Act → World → Prop) : Nat → Array Bool → Act → World → Prop
  | 0, listed, a, w => Region.ready md ops listed = [] ∧ Q .normal a w
  | fuel + 1, listed, a, w =>
    (Region.ready md ops listed = [] → Q .normal a w) ∧
    ∀ i ∈ Region.ready md ops listed, wpOp P ops Q i (fun a' w' => (lastB md ops i = true ∨ Stays w w') ∧ wpMov P md ops Q fuel (listed.setIfInBounds i true) a' w') a w
theorem wpAny_of_mov : ∀ (fuel : Nat) (listed : Array Bool) (a : Act) (w : World), wpMov P md ops Q fuel listed a w → wpAny P md ops Q fuel listed a w
  | 0, _, _, _, h => h
  | fuel + 1, _, _, _, h => ⟨h.1, fun i hi => wpOp_mono (fun a' w' h' => wpAny_of_mov fuel _ a' w' h'.2) (h.2 i hi)⟩

theorem yieldsIf_weaken {S S' : World → Prop} {o : Oper} {v : Value} {a : Act} (h : YieldsIf P ops S o v a) (hS : ∀ w, S' w → S w) : YieldsIf P ops S' o v a :=
  h.imp (fun ⟨hw, hv⟩ => ⟨hw, fun w hs => hv w (hS w hs)⟩) id

theorem wpMov_first {i : Nat} {oi : Oper} {v : Value} (hi : ops[i]? = some oi) (hsel : ∀ (j : Nat) (o : Oper) cs b, ops[j]? = some o → o.op ≠ .select cs b)
    (hQ : ∀ c a w, Q (.panic c) (a.put oi.dst v) w → Q (.panic c) a w) :
    ∀ (fuel : Nat) (listed : Array Bool) (a : Act) (w : World),
      (∀ j oj, ops[j]? = some oj → j ≠ i → listed.getD j true = false → (∀ e ∈ oj.after, Region.binds md e = true → e.on ≠ i) → oi.apart ops oj = true) →
      Closed md ops listed → i ∈ Region.ready md ops listed → YieldsIf P ops (Stays w) oi v a →
      wpMov P md ops Q fuel (listed.setIfInBounds i true) (a.put oi.dst v) w → wpMov P md ops Q (fuel + 1) listed a w := by
  intro fuel
  induction fuel with
  | zero =>
    intro listed a w _ hcl hr hy H
    refine ⟨fun h => (by rw [h] at hr; cases hr), fun j hj => ?_⟩
    by_cases hji : j = i
    · subst hji; exact hy.wpOp hi (Stays.refl w) ⟨.inr (Stays.refl w), H⟩
    · have := ready_mono hj hji
      rw [H.1] at this
      cases this
  | succ fuel ih =>
    intro listed a w hfree hcl hr hy H
    refine ⟨fun h => (by rw [h] at hr; cases hr), fun j hj => ?_⟩
    by_cases hji : j = i
    · subst hji; exact hy.wpOp hi (Stays.refl w) ⟨.inr (Stays.refl w), H⟩
    · have g1 := H.2 j (ready_mono hj hji)
      obtain ⟨hjun, oj, hoj, hall⟩ := mem_ready.1 hj
      have hnot : ∀ e ∈ oj.after, Region.binds md e = true → e.on ≠ i := by
        intro e he hb heq
        have t1 := hall e he hb
        have t0 := (mem_ready.1 hr).1
        rw [heq] at t1
        rcases Nat.lt_or_ge i listed.size with h' | h'
        · simp [h'] at t0 t1; rw [t0] at t1; cases t1
        · simp [Array.getElem?_eq_none h'] at t1
      have g2 := wpOp_putIf hoj (hfree j oj hoj hji hjun hnot) (fun cs b => hsel i oi cs b hi) (fun cs b => hsel j oj cs b hoj) hQ hy g1
      have hnl := lastB_not hcl hr hj hji
      refine wpOp_mono (fun a' w' g3 => ⟨.inr (g3.2.1.resolve_left hnl), ih (listed.setIfInBounds j true) a' w' ?_ (closed_set hcl hj) (ready_mono hr (Ne.symm hji)) (yieldsIf_weaken g3.1 fun W hW => (g3.2.1.resolve_left hnl).trans hW) ?_⟩) g2
      · intro k ok hk hki hun hno
        refine hfree k ok hk hki ?_ hno
        by_cases hjk : j = k
        · subst hjk; exact hjun
        · rw [getD_set_ne true hjk] at hun; exact hun
      · rw [Array.setIfInBounds_comm _ _ hji]
        exact g3.2.2

/-- The operation of number i, written out. -/
def nthOp : List Oper → Nat → Option Oper
  | [], _ => none
  | o :: _, 0 => some o
  | _ :: l, n + 1 => nthOp l n
theorem nthOp_eq : ∀ (l : List Oper) (i : Nat), nthOp l i = l.toArray[i]?
  | [], _ => rfl
  | _ :: _, 0 => rfl
  | _ :: l, n + 1 => by
    rw [nthOp, nthOp_eq l n]
    simp

/-- In the order σ. -/
def wpS (P : Program) (md : Region.Mode) (ops : List Oper) (Q : Exit → Act → World → Prop) (σ : List Nat) (listed : Array Bool) (a : Act) (w : World) : Prop := wpMov P md ops.toArray Q σ.length listed a w

theorem wpS_start {l : List Oper} {id : Nat} {a : Act} {w w1 : World} (σ : List Nat) (hm : P.follows .mixedOrders = true) (hl : σ.length = l.length) (hw : w.drew = w1)
    (h : wpS P .any l Q σ (Array.replicate l.length false) a w1) : (Code.region id l.toArray true).wp P Q a w := by
  subst hw
  refine wp_region_any hm (wpAny_of_mov _ _ _ _ ?_)
  unfold wpS at h
  rw [hl] at h
  simpa using h
theorem wpS_read {l : List Oper} {i : Nat} {σ : List Nat} {oi : Oper} {v : Value} {listed : Array Bool} {a : Act} {w : World} (hi : nthOp l i = some oi)
    (hs : Region.noSelect l.toArray = true) (hf : Region.free md l.toArray listed i = true) (hr : (Region.ready md l.toArray listed).contains i = true)
    (hQ : ∀ c a w, Q (.panic c) (a.put oi.dst v) w → Q (.panic c) a w) (hy : YieldsIf P l.toArray (Stays w) oi v a)
    (h : wpS P md l Q σ (listed.setIfInBounds i true) (a.put oi.dst v) w) (hcl : closedB md l.toArray listed = true := by kernel_rfl) : wpS P md l Q (i :: σ) listed a w :=
  wpMov_first (by rw [← nthOp_eq]; exact hi) (Region.noSelect_spec hs) hQ σ.length listed a w (Region.free_spec (by rw [← nthOp_eq]; exact hi) hf) (closedB_spec hcl) (by simpa using hr) hy h
theorem wpOp_of {P : Program} {l : List Oper} {Q : Exit → Act → World → Prop} {i : Nat} {o : Oper} {a : Act} {w : World} {K : Act → World → Prop} (hi : nthOp l i = some o)
    (h : if Region.wanted o (yielded l.toArray a.tmps) then o.wp P a w K Q else K (a.put o.dst undef) w) : wpOp P l.toArray Q i K a w := by
  unfold wpOp
  rw [← nthOp_eq, hi]
  simp only
  split
  · rename_i hw; rw [if_pos hw] at h; exact .inl h
  · rename_i hw; rw [if_neg hw] at h; exact h
theorem wpS_lone {l : List Oper} {i : Nat} {σ : List Nat} {o : Oper} {listed : Array Bool} {a : Act} {w : World} (hi : nthOp l i = some o) (hr : Region.ready md l.toArray listed = [i])
    (h : ∀ K : Act → World → Prop, (∀ a' w', Stays w w' → wpS P md l Q σ (listed.setIfInBounds i true) a' w' → K a' w') → if Region.wanted o (yielded l.toArray a.tmps) then o.wp P a w K Q else K (a.put o.dst undef) w) :
    wpS P md l Q (i :: σ) listed a w := by
  refine ⟨fun h0 => (by rw [hr] at h0; cases h0), fun j hj => ?_⟩
  rw [hr, List.mem_singleton] at hj
  subst hj
  exact wpOp_of hi (h (fun a' w' => (lastB md l.toArray j = true ∨ Stays w w') ∧ wpMov P md l.toArray Q σ.length (listed.setIfInBounds j true) a' w') (fun a' w' hS hs => ⟨.inr hS, hs⟩))
/-- An operation that has its own place in the order. -/
theorem wpS_last {l : List Oper} {i : Nat} {σ : List Nat} {o : Oper} {listed : Array Bool} {a : Act} {w : World} (hi : nthOp l i = some o) (hr : Region.ready md l.toArray listed = [i]) (hl : lastB md l.toArray i = true)
    (h : ∀ K : Act → World → Prop, (∀ a' w', wpS P md l Q σ (listed.setIfInBounds i true) a' w' → K a' w') → if Region.wanted o (yielded l.toArray a.tmps) then o.wp P a w K Q else K (a.put o.dst undef) w) :
    wpS P md l Q (i :: σ) listed a w := by
  refine ⟨fun h0 => (by rw [hr] at h0; cases h0), fun j hj => ?_⟩
  rw [hr, List.mem_singleton] at hj
  subst hj
  exact wpOp_of hi (h (fun a' w' => (lastB md l.toArray j = true ∨ Stays w w') ∧ wpMov P md l.toArray Q σ.length (listed.setIfInBounds j true) a' w') (fun a' w' hs => ⟨.inl hl, hs⟩))
/-- Two operations stand side by side: both ways. -/
theorem wpS_fork {l : List Oper} {i j : Nat} {σ : List Nat} {oi oj : Oper} {listed : Array Bool} {a : Act} {w : World} (hi : nthOp l i = some oi) (hj : nthOp l j = some oj) (hr : Region.ready md l.toArray listed = [i, j])
    (h1 : ∀ K : Act → World → Prop, (∀ a' w', Stays w w' → wpS P md l Q (j :: σ) (listed.setIfInBounds i true) a' w' → K a' w') → if Region.wanted oi (yielded l.toArray a.tmps) then oi.wp P a w K Q else K (a.put oi.dst undef) w)
    (h2 : ∀ K : Act → World → Prop, (∀ a' w', Stays w w' → wpS P md l Q (i :: σ) (listed.setIfInBounds j true) a' w' → K a' w') → if Region.wanted oj (yielded l.toArray a.tmps) then oj.wp P a w K Q else K (a.put oj.dst undef) w) :
    wpS P md l Q (i :: j :: σ) listed a w := by
  refine ⟨fun h0 => (by rw [hr] at h0; cases h0), fun k hk => ?_⟩
  rw [hr] at hk
  rcases List.mem_cons.1 hk with rfl | hk
  · exact wpOp_of hi (h1 (fun a' w' => (lastB md l.toArray k = true ∨ Stays w w') ∧ wpMov P md l.toArray Q (j :: σ).length (listed.setIfInBounds k true) a' w') (fun a' w' hS hs => ⟨.inr hS, hs⟩))
  · rw [List.mem_singleton] at hk
    subst hk
    exact wpOp_of hj (h2 (fun a' w' => (lastB md l.toArray k = true ∨ Stays w w') ∧ wpMov P md l.toArray Q (i :: σ).length (listed.setIfInBounds k true) a' w') (fun a' w' hS hs => ⟨.inr hS, hs⟩))
theorem wpS_done {l : List Oper} {listed : Array Bool} {a : Act} {w : World} (hr : Region.ready md l.toArray listed = []) (h : Q .normal a w) : wpS P md l Q [] listed a w := ⟨hr, h⟩
end
end Go.Proofs.YtldnelimemjaiaaGreatDoor
/-
  A region that draws its order, walked in one order of one's own, in worlds that keep a word of one's own: each operation keeps it; each that reads yields the same in every world that keeps it.
-/
namespace Go.Proofs.YtldnelimemjaiaaGreatDoor
open Go Go.RowKit
set_option maxRecDepth 100000

section
variable {P : Program} {ops : Array Oper} {Q : Exit → Act → World → Prop} {md : Region.Mode} {S : World → Prop}
/-- Whatever order is picked from here on, each operation keeps the word. -/
def wpMI (P : Program) (md : Region.Mode) (S : World → Prop) (ops : Array Oper) (Q : Exit → Act → World → Prop) : Nat → Array Bool → Act → World → Prop
  | 0, listed, a, w => Region.ready md ops listed = [] ∧ Q .normal a w
  | fuel + 1, listed, a, w =>
    (Region.ready md ops listed = [] → Q .normal a w) ∧
    ∀ i ∈ Region.ready md ops listed, wpOp P ops Q i (fun a' w' => S w' ∧ wpMI P md S ops Q fuel (listed.setIfInBounds i true) a' w') a w
theorem wpAny_of_mi : ∀ (fuel : Nat) (listed : Array Bool) (a : Act) (w : World), wpMI P md S ops Q fuel listed a w → wpAny P md ops Q fuel listed a w
  | 0, _, _, _, h => h
  | fuel + 1, _, _, _, h => ⟨h.1, fun i hi => wpOp_mono (fun a' w' h' => wpAny_of_mi fuel _ a' w' h'.2) (h.2 i hi)⟩
theorem wpMI_first {i : Nat} {oi : Oper} {v : Value} (hi : ops[i]? = some oi) (hsel : ∀ (j : Nat) (o : Oper) cs b, ops[j]? = some o → o.op ≠ .select cs b)
    (hQ : ∀ c a w, Q (.panic c) (a.put oi.dst v) w → Q (.panic c) a w) :
    ∀ (fuel : Nat) (listed : Array Bool) (a : Act) (w : World), S w →
      (∀ j oj, ops[j]? = some oj → j ≠ i → listed.getD j true = false → (∀ e ∈ oj.after, Region.binds md e = true → e.on ≠ i) → oi.apart ops oj = true) →
      i ∈ Region.ready md ops listed → YieldsIf P ops S oi v a →
      wpMI P md S ops Q fuel (listed.setIfInBounds i true) (a.put oi.dst v) w → wpMI P md S ops Q (fuel + 1) listed a w := by
  intro fuel
  induction fuel with
  | zero =>
    intro listed a w hS _ hr hy H
    refine ⟨fun h => (by rw [h] at hr; cases hr), fun j hj => ?_⟩
    by_cases hji : j = i
    · subst hji; exact hy.wpOp hi hS ⟨hS, H⟩
    · have := ready_mono hj hji
      rw [H.1] at this
      cases this
  | succ fuel ih =>
    intro listed a w hS hfree hr hy H
    refine ⟨fun h => (by rw [h] at hr; cases hr), fun j hj => ?_⟩
    by_cases hji : j = i
    · subst hji; exact hy.wpOp hi hS ⟨hS, H⟩
    · have g1 := H.2 j (ready_mono hj hji)
      obtain ⟨hjun, oj, hoj, hall⟩ := mem_ready.1 hj
      have hnot : ∀ e ∈ oj.after, Region.binds md e = true → e.on ≠ i := by
        intro e he hb heq
        have t1 := hall e he hb
        have t0 := (mem_ready.1 hr).1
        rw [heq] at t1
        rcases Nat.lt_or_ge i listed.size with h' | h'
        · simp [h'] at t0 t1; rw [t0] at t1; cases t1
        · simp [Array.getElem?_eq_none h'] at t1
      have g2 := wpOp_putIf hoj (hfree j oj hoj hji hjun hnot) (fun cs b => hsel i oi cs b hi) (fun cs b => hsel j oj cs b hoj) hQ hy g1
      refine wpOp_mono (fun a' w' g3 => ⟨g3.2.1, ih (listed.setIfInBounds j true) a' w' g3.2.1 ?_ (ready_mono hr (Ne.symm hji)) g3.1 ?_⟩) g2
      · intro k ok hk hki hun hno
        refine hfree k ok hk hki ?_ hno
        by_cases hjk : j = k
        · subst hjk; exact hjun
        · rw [getD_set_ne true hjk] at hun; exact hun
      · rw [Array.setIfInBounds_comm _ _ hji]
        exact g3.2.2
/-- In the order σ. -/
def wpI (P : Program) (md : Region.Mode) (S : World → Prop) (ops : List Oper) (Q : Exit → Act → World → Prop) (σ : List Nat) (listed : Array Bool) (a : Act) (w : World) : Prop := wpMI P md S ops.toArray Q σ.length listed a w
theorem wpI_start {l : List Oper} {id : Nat} {a : Act} {w w1 : World} (S : World → Prop) (σ : List Nat) (hm : P.follows .mixedOrders = true) (hl : σ.length = l.length) (hw : w.drew = w1)
    (h : wpI P .any S l Q σ (Array.replicate l.length false) a w1) : (Code.region id l.toArray true).wp P Q a w := by
  subst hw
  refine wp_region_any hm (wpAny_of_mi _ _ _ _ (S := S) ?_)
  unfold wpI at h
  rw [hl] at h
  simpa using h
theorem wpI_read {l : List Oper} {i : Nat} {σ : List Nat} {oi : Oper} {v : Value} {listed : Array Bool} {a : Act} {w : World} (hS : S w) (hi : nthOp l i = some oi)
    (hs : Region.noSelect l.toArray = true) (hf : Region.free md l.toArray listed i = true) (hr : (Region.ready md l.toArray listed).contains i = true)
    (hQ : ∀ c a w, Q (.panic c) (a.put oi.dst v) w → Q (.panic c) a w) (hy : YieldsIf P l.toArray S oi v a)
    (h : wpI P md S l Q σ (listed.setIfInBounds i true) (a.put oi.dst v) w) : wpI P md S l Q (i :: σ) listed a w :=
  wpMI_first (by rw [← nthOp_eq]; exact hi) (Region.noSelect_spec hs) hQ σ.length listed a w hS (Region.free_spec (by rw [← nthOp_eq]; exact hi) hf) (by simpa using hr) hy h
theorem wpI_lone {l : List Oper} {i : Nat} {σ : List Nat} {o : Oper} {listed : Array Bool} {a : Act} {w : World} (hi : nthOp l i = some o) (hr : Region.ready md l.toArray listed = [i])
    (h : ∀ K : Act → World → Prop, (∀ a' w', S w' → wpI P md S l Q σ (listed.setIfInBounds i true) a' w' → K a' w') → if Region.wanted o (yielded l.toArray a.tmps) then o.wp P a w K Q else K (a.put o.dst undef) w) :
    wpI P md S l Q (i :: σ) listed a w := by
  refine ⟨fun h0 => (by rw [hr] at h0; cases h0), fun j hj => ?_⟩
  rw [hr, List.mem_singleton] at hj
  subst hj
  exact wpOp_of hi (h (fun a' w' => S w' ∧ wpMI P md S l.toArray Q σ.length (listed.setIfInBounds j true) a' w') (fun a' w' hS hs => ⟨hS, hs⟩))
/-- Two operations stand side by side: both ways. -/
theorem wpI_fork {l : List Oper} {i j : Nat} {σ : List Nat} {oi oj : Oper} {listed : Array Bool} {a : Act} {w : World} (hi : nthOp l i = some oi) (hj : nthOp l j = some oj) (hr : Region.ready md l.toArray listed = [i, j])
    (h1 : ∀ K : Act → World → Prop, (∀ a' w', S w' → wpI P md S l Q (j :: σ) (listed.setIfInBounds i true) a' w' → K a' w') → if Region.wanted oi (yielded l.toArray a.tmps) then oi.wp P a w K Q else K (a.put oi.dst undef) w)
    (h2 : ∀ K : Act → World → Prop, (∀ a' w', S w' → wpI P md S l Q (i :: σ) (listed.setIfInBounds j true) a' w' → K a' w') → if Region.wanted oj (yielded l.toArray a.tmps) then oj.wp P a w K Q else K (a.put oj.dst undef) w) :
    wpI P md S l Q (i :: j :: σ) listed a w := by
  refine ⟨fun h0 => (by rw [hr] at h0; cases h0), fun k hk => ?_⟩
  rw [hr] at hk
  rcases List.mem_cons.1 hk with rfl | hk
  · exact wpOp_of hi (h1 (fun a' w' => S w' ∧ wpMI P md S l.toArray Q (j :: σ).length (listed.setIfInBounds k true) a' w') (fun a' w' hS hs => ⟨hS, hs⟩))
  · rw [List.mem_singleton] at hk
    subst hk
    exact wpOp_of hj (h2 (fun a' w' => S w' ∧ wpMI P md S l.toArray Q (i :: σ).length (listed.setIfInBounds k true) a' w') (fun a' w' hS hs => ⟨hS, hs⟩))
/-- In another order as long. -/
theorem wpI_turn {l : List Oper} {σ : List Nat} {listed : Array Bool} {a : Act} {w : World} (τ : List Nat) (hl : τ.length = σ.length) (h : wpI P md S l Q τ listed a w) : wpI P md S l Q σ listed a w := by
  unfold wpI at h ⊢
  rw [← hl]
  exact h
theorem wpI_done {l : List Oper} {listed : Array Bool} {a : Act} {w : World} (hr : Region.ready md l.toArray listed = []) (h : Q .normal a w) : wpI P md S l Q [] listed a w := ⟨hr, h⟩
end
end Go.Proofs.YtldnelimemjaiaaGreatDoor
/-
  make of slices of bytes, of slices of slices of bytes, of slices of writes: new blocks; three new blocks made in an order that is left open.
-/
namespace Go.Proofs.YtldnelimemjaiaaGreatDoor
open Go.RowKit Go.Shelf
set_option maxRecDepth 100000

theorem infoSlB : (Tryz.prog.info? 45).map (fun i => (i.zero, i.size, i.bytes)) = some (some (.slice none 0 0), 1, 24) := by kernel_rfl
theorem infoWri : (Tryz.prog.info? 47).map (fun i => (i.zero, i.size, i.bytes)) = some (some (.agg #[.int .i64 0, .slice none 0 0]), 2, 32) := by kernel_rfl
theorem made_one (v : Value) (hv : v.cells = #[v]) (n : Nat) : madeCells v.cells (n * 1) = Array.replicate n v := by
  apply Array.ext
  · simp [size_madeCells]
  · intro i h1 h2
    simp [madeCells, hv, Nat.mod_one]
theorem make_bytes (n : Nat) (hn : n ≤ 1000000000000) (W : World) : (Instr.makeSlice 45 (.int .i64 n) (.int .i64 n)).run Tryz.prog W = .ok (.slice (some ⟨W.heap.size, 0, none⟩) n n) (W.alloc (.cells (ar (List.replicate n 0)) 5)) := by
  obtain ⟨i0, hi, hz0, hz1, hz2⟩ := info_parts infoU8
  have hr := run_make (P := Tryz.prog) W 45 5 i0 (.int .u8 0) Tryz.underlying45 hi hz0 .i64 .i64 n n (by omega) (Int.le_refl _) (by rw [hz2]; omega) (by omega)
  rw [hz1] at hr
  simp only [Int.toNat_natCast] at hr
  rw [made_one _ rfl] at hr
  rw [hr]
  have e : Array.replicate n (Value.int .u8 0) = ar (List.replicate n 0) := by simp [ar, vals]
  rw [e]
theorem make_rows (n : Nat) (hn : n ≤ 1000000) (W : World) : (Instr.makeSlice 22 (.int .i64 n) (.int .i64 n)).run Tryz.prog W = .ok (.slice (some ⟨W.heap.size, 0, none⟩) n n) (W.alloc (.cells (Array.replicate n (.slice none 0 0)) 45)) := by
  obtain ⟨i0, hi, hz0, hz1, hz2⟩ := info_parts infoSlB
  have hr := run_make (P := Tryz.prog) W 22 45 i0 (.slice none 0 0) Tryz.underlying22 hi hz0 .i64 .i64 n n (by omega) (Int.le_refl _) (by rw [hz2]; omega) (by omega)
  rw [hz1] at hr
  simp only [Int.toNat_natCast] at hr
  rw [made_one _ rfl] at hr
  exact hr
/-- The cells of so many empty writes. -/
def noWrites (n : Nat) : Array Value := madeCells #[.int .i64 0, .slice none 0 0] (n * 2)
theorem noWrites_size (n : Nat) : (noWrites n).size = n * 2 := size_madeCells _ _
theorem noWrites_data (n i : Nat) (hi : i < n) : (noWrites n)[i * 2 + 1]? = some (.slice none 0 0) := by
  have h : i * 2 + 1 < (noWrites n).size := by rw [noWrites_size]; omega
  rw [Array.getElem?_eq_getElem h]
  have e : (i * 2 + 1) % 2 = 1 := by omega
  simp [noWrites, madeCells, e]
theorem make_writes (n : Nat) (hn : n ≤ 1000000) (W : World) : (Instr.makeSlice 23 (.int .i64 n) (.int .i64 n)).run Tryz.prog W = .ok (.slice (some ⟨W.heap.size, 0, none⟩) n n) (W.alloc (.cells (noWrites n) 47)) := by
  obtain ⟨i0, hi, hz0, hz1, hz2⟩ := info_parts infoWri
  have hr := run_make (P := Tryz.prog) W 23 47 i0 (.agg #[.int .i64 0, .slice none 0 0]) Tryz.underlying23 hi hz0 .i64 .i64 n n (by omega) (Int.le_refl _) (by rw [hz2]; omega) (by omega)
  rw [hz1] at hr
  simp only [Int.toNat_natCast] at hr
  exact hr
section
variable {P : Program} {Q : Exit → Act → World → Prop} {md : Region.Mode} {S : World → Prop}
/-- Three operations stand side by side: each way. -/
theorem wpI_fork3 {l : List Oper} {i j k : Nat} {σ : List Nat} {oi oj ok : Oper} {listed : Array Bool} {a : Act} {w : World} (hi : nthOp l i = some oi) (hj : nthOp l j = some oj) (hk : nthOp l k = some ok) (hr : Region.ready md l.toArray listed = [i, j, k])
    (h1 : ∀ K : Act → World → Prop, (∀ a' w', S w' → wpI P md S l Q (j :: k :: σ) (listed.setIfInBounds i true) a' w' → K a' w') → if Region.wanted oi (yielded l.toArray a.tmps) then oi.wp P a w K Q else K (a.put oi.dst undef) w)
    (h2 : ∀ K : Act → World → Prop, (∀ a' w', S w' → wpI P md S l Q (i :: k :: σ) (listed.setIfInBounds j true) a' w' → K a' w') → if Region.wanted oj (yielded l.toArray a.tmps) then oj.wp P a w K Q else K (a.put oj.dst undef) w)
    (h3 : ∀ K : Act → World → Prop, (∀ a' w', S w' → wpI P md S l Q (i :: j :: σ) (listed.setIfInBounds k true) a' w' → K a' w') → if Region.wanted ok (yielded l.toArray a.tmps) then ok.wp P a w K Q else K (a.put ok.dst undef) w) :
    wpI P md S l Q (i :: j :: k :: σ) listed a w := by
  refine ⟨fun h0 => (by rw [hr] at h0; cases h0), fun m hm => ?_⟩
  rw [hr] at hm
  rcases List.mem_cons.1 hm with rfl | hm
  · exact wpOp_of hi (h1 (fun a' w' => S w' ∧ wpMI P md S l.toArray Q (j :: k :: σ).length (listed.setIfInBounds m true) a' w') (fun a' w' hS hs => ⟨hS, hs⟩))
  · rcases List.mem_cons.1 hm with rfl | hm
    · exact wpOp_of hj (h2 (fun a' w' => S w' ∧ wpMI P md S l.toArray Q (i :: k :: σ).length (listed.setIfInBounds m true) a' w') (fun a' w' hS hs => ⟨hS, hs⟩))
    · rw [List.mem_singleton] at hm
      subst hm
      exact wpOp_of hk (h3 (fun a' w' => S w' ∧ wpMI P md S l.toArray Q (i :: j :: σ).length (listed.setIfInBounds m true) a' w') (fun a' w' hS hs => ⟨hS, hs⟩))
end
end Go.Proofs.YtldnelimemjaiaaGreatDoor
/-
  dev.laid lays a disk in new memory, in one piece.
-/
namespace Go.Proofs.YtldnelimemjaiaaGreatDoor
open Go.RowKit Go.Shelf
set_option maxRecDepth 100000

theorem Blk.ne {w : World} {a b : Nat} {t t' : TypeId} {cs cs' : Array Value} (h : Blk w a t cs) (h' : Blk w b t' cs') (ht : t ≠ t') : a ≠ b := by
  rintro rfl
  unfold Blk at h h'
  rw [h] at h'
  cases h'
  exact ht rfl
/-- The value of the piece of number i. -/
def PieceV (g : Nat) (P : List (List UInt8)) (i : Nat) (v : Value) : Prop := ∃ o, v = .slice (some ⟨g, o, none⟩) (P.getD i []).length (P.getD i []).length ∧ (0 < (P.getD i []).length → o = startP P i)
/-- A disk whose first k pieces are laid. -/
def LaidI (g gd hb hw : Nat) (D : DkL) (T k : Nat) (w : World) : Prop :=
  Blk w gd 25 #[.slice (some ⟨hb, 0, none⟩) D.1.length D.1.length, .slice (some ⟨hw, 0, none⟩) D.2.length D.2.length] ∧
  Blk w g 5 (ar (roomP (pieces D) T k)) ∧
  (∃ cb, Blk w hb 45 cb ∧ cb.size = D.1.length ∧ ∀ i, i < D.1.length → i < k → ∃ v, cb[i]? = some v ∧ PieceV g (pieces D) i v) ∧
  ∃ cw, Blk w hw 47 cw ∧ cw.size = D.2.length * 2 ∧ ∀ i, i < D.2.length → D.1.length + i < k → cw[i * 2]? = some (.int .i64 (wr_ D.2 i).1) ∧ ∃ v, cw[i * 2 + 1]? = some v ∧ PieceV g (pieces D) (D.1.length + i) v
/-- The room that is left. -/
def RoomI (g gv T u : Nat) (w : World) : Prop := ∃ o, Blk w gv 45 #[.slice (some ⟨g, o, none⟩) (T - u) (T - u)] ∧ (0 < T - u → o = u)
/-- A disk laid in one piece, all of it at block lo or behind. -/
def Laid (w : World) (lo : Nat) (x : DAt) (D : DkL) : Prop :=
  ∃ g hb hw, x = ⟨some ⟨hb, 0, none⟩, D.1.length, some ⟨hw, 0, none⟩, D.2.length⟩ ∧ lo ≤ g ∧ lo ≤ hb ∧ lo ≤ hw ∧ D.1.length ≤ 1000000 ∧ D.2.length ≤ 1000000 ∧ sumD D ≤ 1000000000000 ∧
    (∀ i, i < D.2.length → (Lit.int .i64 (wr_ D.2 i).1).wf = true) ∧ Blk w g 5 (ar (roomP (pieces D) (sumD D) (D.1.length + D.2.length))) ∧
    (∃ cb, Blk w hb 45 cb ∧ cb.size = D.1.length ∧ ∀ i, i < D.1.length → ∃ v, cb[i]? = some v ∧ PieceV g (pieces D) i v) ∧
    ∃ cw, Blk w hw 47 cw ∧ cw.size = D.2.length * 2 ∧ ∀ i, i < D.2.length → cw[i * 2]? = some (.int .i64 (wr_ D.2 i).1) ∧ ∃ v, cw[i * 2 + 1]? = some v ∧ PieceV g (pieces D) (D.1.length + i) v
theorem piece_bsl {w : World} {g T n i : Nat} {P : List (List UInt8)} {v : Value} (h : PieceV g P i v) (hg : Blk w g 5 (ar (roomP P T n))) (hi : i < n) (hn : n ≤ P.length) (hl : (P.getD i []).length ≤ maxLen) :
    ∃ A c, v = .slice A (P.getD i []).length c ∧ Bsl w w.heap.size A (P.getD i []).length c (P.getD i []) := by
  obtain ⟨o, rfl, ho⟩ := h
  refine ⟨_, _, rfl, rfl, Nat.le_refl _, hl, fun e => (by cases e), fun h0 => ⟨g, o, rfl, hg.lt, fun j hj => ?_⟩⟩
  rw [ho h0, hg.cell, ar, List.getElem?_toArray, vals, List.getElem?_map, room_get hi hn hj, List.getElem?_eq_getElem hj]
  rfl
theorem Laid.dsk {w : World} {lo : Nat} {x : DAt} {D : DkL} (h : Laid w lo x D) : Dsk w w.heap.size x D := by
  obtain ⟨g, hb, hw, rfl, _, _, _, h1, h2, h3, h4, h5, ⟨cb, h6, h7, h8⟩, cw, h9, h10, h11⟩ := h
  have hP := pieces_length D
  have hsum : ∀ i, i < D.1.length + D.2.length → ((pieces D).getD i []).length ≤ maxLen := fun i hi => by
    have e1 := startP_succ (P := pieces D) (show i < (pieces D).length by omega)
    have e2 := startP_mono (P := pieces D) (show i + 1 ≤ D.1.length + D.2.length by omega)
    rw [startP_sumD] at e2
    unfold maxLen
    omega
  refine ⟨⟨rfl, Nat.le_refl _, by unfold maxLen; show D.1.length ≤ _; omega, fun h0 => ⟨hb, 0, rfl, h6.lt, fun i hi => ?_⟩⟩, rfl, Nat.le_refl _, by unfold maxLen; show D.2.length ≤ _; omega, fun h0 => ⟨hw, 0, rfl, h9.lt, fun i hi => ?_⟩⟩
  · obtain ⟨v, e1, e2⟩ := h8 i hi
    obtain ⟨A, c, e3, e4⟩ := piece_bsl e2 h5 (by omega) (by omega) (hsum i (by omega))
    rw [pieces_left hi] at e3 e4
    exact ⟨A, c, by rw [Nat.zero_add, h6.cell, e1, e3], e4⟩
  · obtain ⟨e0, v, e1, e2⟩ := h11 i hi
    obtain ⟨A, c, e3, e4⟩ := piece_bsl e2 h5 (by omega) (by omega) (hsum _ (by omega))
    rw [pieces_right hi] at e3 e4
    refine ⟨h4 i hi, by rw [Nat.zero_add, h9.cell, e0], A, c, by rw [Nat.zero_add, h9.cell, e1, e3], e4⟩
/-- Two stores beside it. -/
theorem laid_far {w : World} {lo lo' g : Nat} {x : DAt} {D : DkL} (h : Laid w lo x D) (hg : g < lo) (hl : lo' ≤ lo) (u v : Value) : Laid ((w.setCell ⟨g, 0, none⟩ u).setCell ⟨g, 1, none⟩ v) lo' x D := by
  obtain ⟨r, hb, hw, h0, k1, k2, k3, h1, h2, h3, h4, h5, ⟨cb, h6, h7⟩, cw, h9, h10⟩ := h
  exact ⟨r, hb, hw, h0, by omega, by omega, by omega, h1, h2, h3, h4, (h5.far (by show r ≠ g; omega) _).far (by show r ≠ g; omega) _, ⟨cb, (h6.far (by show hb ≠ g; omega) _).far (by show hb ≠ g; omega) _, h7⟩, cw, (h9.far (by show hw ≠ g; omega) _).far (by show hw ≠ g; omega) _, h10⟩
theorem Laid.below {w w' : World} {lo : Nat} {x : DAt} {D : DkL} (h : Laid w lo x D) (hb' : Below w.heap.size w w') : Laid w' lo x D := by
  obtain ⟨r, hb, hw, h0, k1, k2, k3, h1, h2, h3, h4, h5, ⟨cb, h6, h7⟩, cw, h9, h10⟩ := h
  exact ⟨r, hb, hw, h0, k1, k2, k3, h1, h2, h3, h4, h5.below hb' h5.lt, ⟨cb, h6.below hb' h6.lt, h7⟩, cw, h9.below hb' h9.lt, h10⟩
theorem Laid.lower {w : World} {lo lo' : Nat} {x : DAt} {D : DkL} (h : Laid w lo x D) (hl : lo' ≤ lo) : Laid w lo' x D := by
  obtain ⟨r, hb, hw, h0, k1, k2, k3, h1⟩ := h
  exact ⟨r, hb, hw, h0, by omega, by omega, by omega, h1⟩
/-- A round: a block is cut off and put in its place. -/
theorem LaidI.block {g gd hb hw gv o B0 k : Nat} {D : DkL} {T : Nat} {w0 w w' : World} {s : List UInt8} {e : Ending} (h : LaidI g gd hb hw D T k w) (hk : k < D.1.length) (hs : (pieces D).getD k [] = s) (hT : startP (pieces D) (k + 1) ≤ T)
    (ho : 0 < T - startP (pieces D) k → o = startP (pieces D) k) (hvb : gv ≠ hb) (hB : Below B0 w0 w) (hBg : B0 ≤ g) (hBv : B0 ≤ gv) (hBb : B0 ≤ hb) (hr : Blk w gv 45 #[.slice (some ⟨g, o, none⟩) (T - startP (pieces D) k) (T - startP (pieces D) k)])
    (hc : CutPost gv g o (T - startP (pieces D) k) s.length (roomP (pieces D) T k) s w e w') :
    Blk w' gd 25 #[.slice (some ⟨hb, 0, none⟩) D.1.length D.1.length, .slice (some ⟨hw, 0, none⟩) D.2.length D.2.length] ∧ (∃ cb, Blk w' hb 45 cb ∧ cb.size = D.1.length) ∧
    LaidI g gd hb hw D T (k + 1) (w'.setCell ⟨hb, k, none⟩ (.slice (some ⟨g, o, none⟩) s.length s.length)) ∧ RoomI g gv T (startP (pieces D) (k + 1)) (w'.setCell ⟨hb, k, none⟩ (.slice (some ⟨g, o, none⟩) s.length s.length)) ∧
    Below B0 w0 (w'.setCell ⟨hb, k, none⟩ (.slice (some ⟨g, o, none⟩) s.length s.length)) := by
  obtain ⟨h1, h2, ⟨cb, h3, h4, h5⟩, cw, h6, h7, h8⟩ := h
  obtain ⟨_, hz, ⟨o', c1, c2⟩, c3, w1, g1, g2⟩ := hc
  have hkP : k < (pieces D).length := by rw [pieces_length]; omega
  have hst := startP_succ hkP
  rw [hs] at hst
  have n1 : gd ≠ gv := h1.ne hr (by decide)
  have n2 : gd ≠ g := h1.ne h2 (by decide)
  have n3 : hb ≠ g := h3.ne h2 (by decide)
  have n4 : hw ≠ gv := h6.ne hr (by decide)
  have n5 : hw ≠ g := h6.ne h2 (by decide)
  have n6 : hw ≠ hb := h6.ne h3 (by decide)
  have n7 : gd ≠ hb := h1.ne h3 (by decide)
  have x1 := (h1.grown g1 (fun e => n1 (Option.some.inj e))).grown g2 (fun e => n2 (Option.some.inj e))
  have x3 := (h3.grown g1 (fun e => hvb (Option.some.inj e).symm)).grown g2 (fun e => n3 (Option.some.inj e))
  have x6 := (h6.grown g1 (fun e => n4 (Option.some.inj e))).grown g2 (fun e => n5 (Option.some.inj e))
  have hB1 : Below B0 w0 w' := below_only (below_only hB hBv g1 (by have := hr.lt; omega)) hBg g2 (by have := g1.size; have := hr.lt; omega)
  have hroom : (if s.length = 0 then roomP (pieces D) T k else overL (roomP (pieces D) T k) o s) = roomP (pieces D) T (k + 1) := by
    split
    · rename_i h0
      exact room_same hkP (by rw [hs]; exact h0)
    · rename_i h0
      rw [ho (by omega), ← hs]
      exact room_step hkP hT
  rw [hroom] at c3
  refine ⟨x1, ⟨cb, x3, h4⟩, ⟨x1.far (by simpa using n7) _, c3.far (by simpa using n3.symm) _, ⟨_, x3.set_ k _, by simpa using h4, fun i hi hik => ?_⟩, cw, x6.far (by simpa using n6) _, h7, fun i hi hik => absurd hik (by omega)⟩, ⟨o', ?_, fun hh => ?_⟩, hB1.setCell (p := ⟨hb, k, none⟩) hBb _⟩
  · rcases Nat.lt_or_ge i k with h9 | h9
    · obtain ⟨v, e1, e2⟩ := h5 i hi h9
      exact ⟨v, by rw [Array.getElem?_setIfInBounds, if_neg (by omega)]; exact e1, e2⟩
    · obtain rfl : i = k := by omega
      refine ⟨_, by rw [Array.getElem?_setIfInBounds, if_pos rfl, if_pos (by omega)], o, by rw [hs], fun hh => ho (by rw [hs] at hh; omega)⟩
  · have e : T - startP (pieces D) (k + 1) = T - startP (pieces D) k - s.length := by omega
    rw [e]
    exact c1.far (by simpa using hvb) _
  · rw [c2 (by omega), ho (by omega), hst]
/-- A round: a write is put in its place. -/
theorem LaidI.write {g gd hb hw gv o B0 k j : Nat} {D : DkL} {T : Nat} {w0 w w' : World} {s : List UInt8} {p : Int} {e : Ending} (h : LaidI g gd hb hw D T k w) (hk : k = D.1.length + j) (hj : j < D.2.length) (hs : wr_ D.2 j = (p, s)) (hT : startP (pieces D) (k + 1) ≤ T)
    (ho : 0 < T - startP (pieces D) k → o = startP (pieces D) k) (hvb : gv ≠ hb) (hB : Below B0 w0 w) (hBg : B0 ≤ g) (hBv : B0 ≤ gv) (hBw : B0 ≤ hw) (hr : Blk w gv 45 #[.slice (some ⟨g, o, none⟩) (T - startP (pieces D) k) (T - startP (pieces D) k)])
    (hc : CutPost gv g o (T - startP (pieces D) k) s.length (roomP (pieces D) T k) s w e w') :
    Blk w' gd 25 #[.slice (some ⟨hb, 0, none⟩) D.1.length D.1.length, .slice (some ⟨hw, 0, none⟩) D.2.length D.2.length] ∧ (∃ cw, Blk w' hw 47 cw ∧ cw.size = D.2.length * 2) ∧
    LaidI g gd hb hw D T (k + 1) ((w'.setCell ⟨hw, j * 2, none⟩ (.int .i64 p)).setCell ⟨hw, j * 2 + 1, none⟩ (.slice (some ⟨g, o, none⟩) s.length s.length)) ∧
    RoomI g gv T (startP (pieces D) (k + 1)) ((w'.setCell ⟨hw, j * 2, none⟩ (.int .i64 p)).setCell ⟨hw, j * 2 + 1, none⟩ (.slice (some ⟨g, o, none⟩) s.length s.length)) ∧
    Below B0 w0 ((w'.setCell ⟨hw, j * 2, none⟩ (.int .i64 p)).setCell ⟨hw, j * 2 + 1, none⟩ (.slice (some ⟨g, o, none⟩) s.length s.length)) := by
  obtain ⟨h1, h2, ⟨cb, h3, h4, h5⟩, cw, h6, h7, h8⟩ := h
  obtain ⟨_, hz, ⟨o', c1, c2⟩, c3, w1, g1, g2⟩ := hc
  subst hk
  have hkP : D.1.length + j < (pieces D).length := by rw [pieces_length]; omega
  have hps : (pieces D).getD (D.1.length + j) [] = s := by rw [pieces_right hj, hs]
  have hst := startP_succ hkP
  rw [hps] at hst
  have n1 : gd ≠ gv := h1.ne hr (by decide)
  have n2 : gd ≠ g := h1.ne h2 (by decide)
  have n3 : hb ≠ g := h3.ne h2 (by decide)
  have n4 : hw ≠ gv := h6.ne hr (by decide)
  have n5 : hw ≠ g := h6.ne h2 (by decide)
  have n6 : hw ≠ hb := h6.ne h3 (by decide)
  have n7 : gd ≠ hw := h1.ne h6 (by decide)
  have x1 := (h1.grown g1 (fun e => n1 (Option.some.inj e))).grown g2 (fun e => n2 (Option.some.inj e))
  have x3 := (h3.grown g1 (fun e => hvb (Option.some.inj e).symm)).grown g2 (fun e => n3 (Option.some.inj e))
  have x6 := (h6.grown g1 (fun e => n4 (Option.some.inj e))).grown g2 (fun e => n5 (Option.some.inj e))
  have hB1 : Below B0 w0 w' := below_only (below_only hB hBv g1 (by have := hr.lt; omega)) hBg g2 (by have := g1.size; have := hr.lt; omega)
  have hroom : (if s.length = 0 then roomP (pieces D) T (D.1.length + j) else overL (roomP (pieces D) T (D.1.length + j)) o s) = roomP (pieces D) T (D.1.length + j + 1) := by
    split
    · rename_i h0
      exact room_same hkP (by rw [hps]; exact h0)
    · rename_i h0
      rw [ho (by omega), ← hps]
      exact room_step hkP hT
  rw [hroom] at c3
  refine ⟨x1, ⟨cw, x6, h7⟩, ⟨(x1.far (by simpa using n7) _).far (by simpa using n7) _, (c3.far (by simpa using n5.symm) _).far (by simpa using n5.symm) _, ⟨cb, (x3.far (by simpa using n6.symm) _).far (by simpa using n6.symm) _, h4, fun i hi hik => h5 i hi (by omega)⟩, _, (x6.set_ _ _).set_ _ _, by simpa using h7, fun i hi hik => ?_⟩, ⟨o', ?_, fun hh => ?_⟩, (hB1.setCell (p := ⟨hw, j * 2, none⟩) hBw _).setCell (p := ⟨hw, j * 2 + 1, none⟩) hBw _⟩
  · rcases Nat.lt_or_ge i j with h9 | h9
    · obtain ⟨e0, v, e1, e2⟩ := h8 i hi (by omega)
      refine ⟨?_, v, ?_, e2⟩
      · rw [Array.getElem?_setIfInBounds, if_neg (by omega), Array.getElem?_setIfInBounds, if_neg (by omega)]
        exact e0
      · rw [Array.getElem?_setIfInBounds, if_neg (by omega), Array.getElem?_setIfInBounds, if_neg (by omega)]
        exact e1
    · obtain rfl : i = j := by omega
      refine ⟨?_, _, ?_, o, by rw [hps], fun hh => ho (by rw [hps] at hh; omega)⟩
      · rw [Array.getElem?_setIfInBounds, if_neg (by omega), Array.getElem?_setIfInBounds, if_pos rfl, if_pos (by omega), hs]
      · rw [Array.getElem?_setIfInBounds, if_pos rfl, if_pos (by simp; omega)]
  · have e : T - startP (pieces D) (D.1.length + j + 1) = T - startP (pieces D) (D.1.length + j) - s.length := by omega
    rw [e]
    exact (c1.far (by simpa using n4.symm) _).far (by simpa using n4.symm) _
  · rw [c2 (by omega), ho (by omega), hst]
end Go.Proofs.YtldnelimemjaiaaGreatDoor
/-
  dev.laid, whatever disk it is handed, answers a disk that reads as it does, laid in one piece of new memory; nothing that was there is written.
-/
namespace Go.Proofs.YtldnelimemjaiaaGreatDoor
open Go.RowKit Go.Shelf
set_option maxRecDepth 100000

theorem below_alloc2' (w : World) (o1 o2 : Obj) : Below w.heap.size w ((w.alloc o1).alloc o2) := ((Below.refl _ w).alloc (Nat.le_refl _) _).alloc (by simp) _
theorem blk3_0 (w : World) (t : TypeId) (cs : Array Value) (o2 o3 : Obj) : Blk (((w.alloc (.cells cs t)).alloc o2).alloc o3) w.heap.size t cs := ((Blk.new w t cs).alloc _).alloc _
theorem blk3_1 (w : World) (t : TypeId) (cs : Array Value) (o1 o3 : Obj) : Blk (((w.alloc o1).alloc (.cells cs t)).alloc o3) (w.heap.size + 1) t cs := by
  have := (Blk.new (w.alloc o1) t cs).alloc o3
  rwa [World.size_alloc] at this
theorem blk3_2 (w : World) (t : TypeId) (cs : Array Value) (o1 o2 : Obj) : Blk (((w.alloc o1).alloc o2).alloc (.cells cs t)) (w.heap.size + 1 + 1) t cs := by
  have := Blk.new ((w.alloc o1).alloc o2) t cs
  rwa [World.size_alloc, World.size_alloc] at this
/-- What laid answers: the disk, in one new piece. -/
def LaidPost (D : DkL) (w : World) (e : Ending) (w' : World) : Prop := ∃ x', e = .returned (dval x' D) ∧ Laid w' w.heap.size x' D ∧ Below w.heap.size w w'
set_option maxHeartbeats 4000000 in
theorem dLaid_any (x : DAt) (D : DkL) (w : World) (h : Dsk w w.heap.size x D) (hf : Fits D) :
    Calls Tryz.prog 32 #[.slice x.ba D.1.length x.bc, .slice x.wa D.2.length x.wc] w (LaidPost D w) := by
  have hmx : Tryz.prog.follows Departure.mixedOrders = true := by kernel_rfl
  have hby := dBytesOf_any x D
  obtain ⟨f1, f2, f3⟩ := hf
  obtain ⟨n, hn⟩ : ∃ n, D.1.length = n := ⟨_, rfl⟩
  obtain ⟨m, hm⟩ : ∃ m, D.2.length = m := ⟨_, rfl⟩
  obtain ⟨T, hT⟩ : ∃ T, sumD D = T := ⟨_, rfl⟩
  obtain ⟨ba, bc, wa, wc⟩ := x
  rw [hn, hm, hT] at hby
  rw [hn] at f1
  rw [hm] at f2
  rw [hT] at f3
  simp only [hn, hm]
  have mk1 := make_bytes T f3
  have mk2 := make_rows n f1
  have mk3 := make_writes m f2
  have n0 : (0 : Int) ≤ n := by omega
  have n1 : (n : Int) ≤ 1000000 := by omega
  have m0 : (0 : Int) ≤ m := by omega
  have m1 : (m : Int) ≤ 1000000 := by omega
  obtain ⟨B0, hB0⟩ : ∃ B0, w.heap.size + 1 = B0 := ⟨_, rfl⟩
  have b0 := (Below.refl w.heap.size w).alloc (Nat.le_refl _) (.cells #[.slice none 0 0, .slice none 0 0] 25)
  have z0 := World.size_alloc w (.cells #[.slice none 0 0, .slice none 0 0] 25)
  have x0 := Blk.new w 25 #[.slice none 0 0, .slice none 0 0]
  obtain ⟨w0, hw0⟩ : ∃ w0, w.alloc (.cells #[.slice none 0 0, .slice none 0 0] 25) = w0 := ⟨_, rfl⟩
  rw [hw0] at b0 z0 x0
  have hd0 := h.step b0
  have hy0 := hby w0 hd0 ⟨by rw [hn]; exact f1, by rw [hm]; exact f2, by rw [hT]; exact f3⟩
  have HY := Lib.hid hy0
  have HD := Lib.hid hd0
  have HB := Lib.hid b0
  have HZ := Lib.hid z0
  have HX := Lib.hid x0
  have HN := Lib.hid hn
  have HM := Lib.hid hm
  have HT := Lib.hid hT
  have HBB := Lib.hid hB0
  clear h hby hy0 hd0 b0 z0 x0 hn hm hT hB0
  go_enter Tryz.func32, Tryz.ntmps32
  go_wp2_with fail
  clear hw0
  refine HY.out.mono ?_
  rintro e w1 ⟨rfl, b1⟩
  have HB1 := Lib.hid b1
  clear b1 HY
  go_wp2_with fail
  obtain ⟨g, hg⟩ : ∃ g, w1.heap.size = g := ⟨_, rfl⟩
  have y1 := (Blk.new w1 5 (ar (List.replicate T 0))).alloc (.cells #[.slice (some ⟨w1.heap.size, 0, none⟩) T T] 45)
  have y2 := Blk.new (w1.alloc (.cells (ar (List.replicate T 0)) 5)) 45 #[.slice (some ⟨w1.heap.size, 0, none⟩) T T]
  have hz1 : B0 ≤ w1.heap.size := by have := HB1.out.size; have := HZ.out; have := HBB.out; omega
  have bd : Below B0 w0 ((w1.alloc (.cells (ar (List.replicate T 0)) 5)).alloc (.cells #[.slice (some ⟨w1.heap.size, 0, none⟩) T T] 45)) := by
    have hb := HB1.out
    rw [show w0.heap.size = B0 by have := HZ.out; have := HBB.out; omega] at hb
    exact (hb.alloc hz1 _).alloc (by rw [World.size_alloc]; omega) _
  have hzd : ((w1.alloc (.cells (ar (List.replicate T 0)) 5)).alloc (.cells #[.slice (some ⟨w1.heap.size, 0, none⟩) T T] 45)).heap.size = w1.heap.size + 2 := by simp
  rw [World.size_alloc] at y2
  rw [hg] at y1 y2 bd hzd hz1 ⊢
  obtain ⟨w2, hw2⟩ : ∃ w2, (w1.alloc (.cells (ar (List.replicate T 0)) 5)).alloc (.cells #[.slice (some ⟨g, 0, none⟩) T T] 45) = w2 := ⟨_, rfl⟩
  rw [hw2] at y1 y2 bd hzd ⊢
  have HY1 := Lib.hid y1
  have HY2 := Lib.hid y2
  have HBD := Lib.hid bd
  have HZD := Lib.hid hzd
  have HZ1 := Lib.hid hz1
  clear y1 y2 bd hzd hz1 hg hw2 HB1
  go_cut [7] from 17 to 23 (fun v wx => ∃ gd hb hw, v = .pointer (some ⟨gd, 0, none⟩) ∧ B0 ≤ hb ∧ B0 ≤ hw ∧ hb ≠ g + 1 ∧ B0 ≤ gd ∧
    Blk wx gd 25 #[.slice (some ⟨hb, 0, none⟩) n n, .slice (some ⟨hw, 0, none⟩) m m] ∧ Blk wx hb 45 (Array.replicate n (.slice none 0 0)) ∧ Blk wx hw 47 (noWrites m) ∧
    Blk wx g 5 (ar (List.replicate T 0)) ∧ Blk wx (g + 1) 45 #[.slice (some ⟨g, 0, none⟩) T T] ∧ Below B0 w0 wx)
  case first =>
    obtain ⟨wd, hwd⟩ : ∃ wd, w2.drew = wd := ⟨_, rfl⟩
    have y1 : Blk wd g 5 (ar (List.replicate T 0)) := by rw [← hwd]; exact HY1.out.drew
    have y2 : Blk wd (g + 1) 45 #[.slice (some ⟨g, 0, none⟩) T T] := by rw [← hwd]; exact HY2.out.drew
    have bd : Below B0 w0 wd := by rw [← hwd]; exact HBD.out.drew
    have hzd : wd.heap.size = g + 2 := by rw [← hwd]; exact HZD.out
    have HY1 := Lib.hid y1
    have HY2 := Lib.hid y2
    have HBD := Lib.hid bd
    have HZD := Lib.hid hzd
    clear y1 y2 bd hzd
    refine wpI_start (Below wd.heap.size wd) [0, 1, 3, 4, 2, 5, 7, 6, 8] hmx rfl hwd ?_
    clear hwd
    have hS : Below wd.heap.size wd wd := Below.refl _ _
    iterate 4 (
      refine wpI_read (v := ?_) hS rfl (by kernel_rfl) (by kernel_rfl) (by kernel_rfl) (fun _ _ _ h => h) (.inl ⟨by rfl, ?_⟩) ?_
      rotate_left
      · intro X hX
        go_simp
        with_reducible rfl
      try simp only [Act.put, List.setIfInBounds_toArray, List.set_cons_zero, List.set_cons_succ])
    refine wpI_fork3 rfl rfl rfl (by kernel_rfl) (fun K hK => ?_) (fun K hK => ?_) (fun K hK => ?_)
    all_goals
      go_simp
      refine hK _ _ (hS.alloc (Nat.le_refl _) _) ?_
      clear hK K
      try simp only [Act.put, List.setIfInBounds_toArray, List.set_cons_zero, List.set_cons_succ]
      refine wpI_fork rfl rfl (by kernel_rfl) (fun K hK => ?_) (fun K hK => ?_)
    all_goals
      go_simp
      refine hK _ _ (below_alloc2' _ _ _) ?_
      clear hK K
      try simp only [Act.put, List.setIfInBounds_toArray, List.set_cons_zero, List.set_cons_succ]
    all_goals
      first
        | (refine wpI_turn [6, 7, 8] rfl ?_
           refine wpI_read (v := ?_) (below_alloc2' _ _ _) rfl (by kernel_rfl) (by kernel_rfl) (by kernel_rfl) (fun _ _ _ h => h) (.inl ⟨by rfl, ?_⟩) ?_
           rotate_left
           · intro X hX
             go_simp
             with_reducible rfl
           try simp only [Act.put, List.setIfInBounds_toArray, List.set_cons_zero, List.set_cons_succ]
           refine wpI_lone rfl (by kernel_rfl) (fun K hK => ?_)
           go_simp
           refine hK _ _ (below_alloc3' _ _ _ _) ?_
           clear hK K
           try simp only [Act.put, List.setIfInBounds_toArray, List.set_cons_zero, List.set_cons_succ])
        | (refine wpI_lone rfl (by kernel_rfl) (fun K hK => ?_)
           go_simp
           refine hK _ _ (below_alloc3' _ _ _ _) ?_
           clear hK K
           try simp only [Act.put, List.setIfInBounds_toArray, List.set_cons_zero, List.set_cons_succ]
           refine wpI_read (v := ?_) (below_alloc3' _ _ _ _) rfl (by kernel_rfl) (by kernel_rfl) (by kernel_rfl) (fun _ _ _ h => h) (.inl ⟨by rfl, ?_⟩) ?_
           rotate_left
           · intro X hX
             go_simp
             with_reducible rfl
           try simp only [Act.put, List.setIfInBounds_toArray, List.set_cons_zero, List.set_cons_succ])
      refine wpI_lone rfl (by kernel_rfl) (fun K hK => ?_)
      go_simp
      refine hK _ _ (below_alloc3' _ _ _ _) ?_
      clear hK K
      try simp only [Act.put, List.setIfInBounds_toArray, List.set_cons_zero, List.set_cons_succ]
      refine wpI_done (by kernel_rfl) ?_
      go_wp2_with fail
      go_meet
      have hz := HZD.out
      have hz1 := HZ1.out
      refine ⟨_, _, _, rfl, ?_, ?_, ?_, ?_, (by first | exact blk3_0 _ _ _ _ _ | exact blk3_1 _ _ _ _ _ | exact blk3_2 _ _ _ _ _), (by first | exact blk3_0 _ _ _ _ _ | exact blk3_1 _ _ _ _ _ | exact blk3_2 _ _ _ _ _), (by first | exact blk3_0 _ _ _ _ _ | exact blk3_1 _ _ _ _ _ | exact blk3_2 _ _ _ _ _), ((HY1.out.alloc _).alloc _).alloc _, ((HY2.out.alloc _).alloc _).alloc _, HBD.out.trans ((below_alloc3' _ _ _ _).mono (by omega))⟩
      all_goals omega
  case rest =>
    obtain ⟨gd, hb, hw, rfl, k1, k2, k3, k4, x1, x2, x3, x4, x5, bx⟩ := hcut
    have hbg : B0 ≤ g := HZ1.out
    have hI : LaidI g gd hb hw D T 0 wc := ⟨by rw [HN.out, HM.out]; exact x1, by rw [roomP_zero]; exact x4, ⟨_, x2, by simp [HN.out], fun i _ h => absurd h (Nat.not_lt_zero _)⟩, _, x3, by rw [noWrites_size, HM.out], fun i _ h => absurd h (Nat.not_lt_zero _)⟩
    have hR : RoomI g (g + 1) T (startP (pieces D) 0) wc := ⟨0, x5, fun _ => rfl⟩
    have HI := Lib.hid hI
    have HR := Lib.hid hR
    have HBx := Lib.hid bx
    clear hI hR bx x1 x2 x3 x4 x5 HY1 HY2 HBD HZD mk1 mk2 mk3
    go_wp2_with fail
    go_loopw [26] (fun i wr => ∃ k : Nat, k ≤ n ∧ i = .int .i64 k ∧ Hid (LaidI g gd hb hw D T k wr) ∧ Hid (RoomI g (g + 1) T (startP (pieces D) k) wr) ∧ Hid (Below B0 w0 wr)) (fun i _ => n - (intOf i).toNat)
    case atStart => exact ⟨0, Nat.zero_le _, rfl, HI, HR, HBx⟩
    case round =>
      obtain ⟨k, hk, rfl, HIr, HRr, HBr⟩ := hrel
      clear HI HR HBx
      have i0 : (0 : Int) ≤ k := by omega
      by_cases hlt : k < n
      · have i1 : (k : Int) < n := by omega
        obtain ⟨b, off, A, l, c, s, hbe, hlb, hl, hc, hA⟩ := HD.out.1.at_ (show k < D.1.length by rw [HN.out]; exact hlt)
        obtain rfl : ba = some ⟨b, off, none⟩ := hbe
        have hz : w0.heap.size = B0 := by have := HZ.out; have := HBB.out; omega
        rw [hz] at hlb hA
        have c1 := (HBr.out.cell (p := ⟨b, off + k, none⟩) hlb).trans hc
        obtain ⟨o, hr, ho⟩ := HRr.out
        have hls := hA.1
        subst hls
        have hkP : k < (pieces D).length := by rw [pieces_length, HN.out, HM.out]; omega
        have hps : (pieces D).getD k [] = s := by rw [pieces_left (by rw [HN.out]; exact hlt)]; exact hl
        have hst := startP_succ hkP
        have hT2 : startP (pieces D) (k + 1) ≤ T := by
          rw [← HT.out, ← startP_sumD, HN.out, HM.out]
          exact startP_mono (by omega)
        rw [hps] at hst
        obtain ⟨wd, hwd⟩ : ∃ wd, wr.drew = wd := ⟨_, rfl⟩
        have hId : LaidI g gd hb hw D T k wd := by rw [← hwd]; exact HIr.out
        have hrd : Blk wd (g + 1) 45 #[.slice (some ⟨g, o, none⟩) (T - startP (pieces D) k) (T - startP (pieces D) k)] := by rw [← hwd]; exact hr
        have hBd : Below B0 w0 wd := by rw [← hwd]; exact HBr.out.drew
        have hcp := dCut_any B0 A s.length c (g + 1) g o (T - startP (pieces D) k) (roomP (pieces D) T k) s wd (hA.below hBd) (by omega) (by omega) hrd hId.2.1 (by omega) (fun hh => by rw [ho hh, roomP_length (by omega)]; omega)
        have hfin := fun e w' (hcc : CutPost (g + 1) g o (T - startP (pieces D) k) s.length (roomP (pieces D) T k) s wd e w') => hId.block (by rw [HN.out]; exact hlt) hps hT2 ho (by omega) hBd hbg (by omega) k1 hrd hcc
        have hxd := hId.1
        rw [HN.out, HM.out] at hfin hxd
        have HCP := Lib.hid hcp
        have HFIN := Lib.hid hfin
        have HXD := Lib.hid hxd
        clear hcp hfin hId hrd hBd hps hst hT2 hkP ho hr hc hA hl hz hxd HIr HRr HBr
        go_wp2_with fail
        refine wpI_start (fun X => Blk X gd 25 #[.slice (some ⟨hb, 0, none⟩) n n, .slice (some ⟨hw, 0, none⟩) m m]) [0, 1, 2, 3, 4, 5, 6, 7] hmx rfl hwd ?_
        clear hwd
        iterate 5 (
          refine wpI_read (v := ?_) HXD.out rfl (by kernel_rfl) (by kernel_rfl) (by kernel_rfl) (fun _ _ _ h => h) (.inl ⟨by rfl, ?_⟩) ?_
          rotate_left
          · intro X hX
            have hXa := hX.cell 0
            clear hX
            go_simp
            with_reducible rfl
          try simp only [Act.put, List.setIfInBounds_toArray, List.set_cons_zero, List.set_cons_succ])
        refine wpI_lone rfl (by kernel_rfl) (fun K hK => ?_)
        go_simp
        refine HCP.out.mono ?_
        intro e w3 hcc
        obtain ⟨hx3, ⟨cb, hx4, hx5⟩, hI4, hR4, hB4⟩ := HFIN.out e w3 hcc
        obtain rfl := hcc.1
        refine hK _ _ hx3 ?_
        clear hK K
        try simp only [Act.put, List.setIfInBounds_toArray, List.set_cons_zero, List.set_cons_succ]
        refine wpI_read (v := ?_) hx3 rfl (by kernel_rfl) (by kernel_rfl) (by kernel_rfl) (fun _ _ _ h => h) (.inl ⟨by rfl, ?_⟩) ?_
        rotate_left
        · intro X hX
          clear hX
          go_simp
          with_reducible rfl
        try simp only [Act.put, List.setIfInBounds_toArray, List.set_cons_zero, List.set_cons_succ]
        have hc3 : ∃ u, w3.cell? ⟨hb, k, none⟩ = some u := ⟨_, by rw [hx4.cell]; exact Array.getElem?_eq_getElem (by omega)⟩
        obtain ⟨u3, hu3⟩ := hc3
        have hf3 := hx4.frozen k
        have HX4 := Lib.hid hI4
        have HR4 := Lib.hid hR4
        have HB4 := Lib.hid hB4
        have HX3 := Lib.hid hx3
        clear hI4 hR4 hB4 hx3 hx4 hx5 hcc HFIN HCP
        refine wpI_lone rfl (by kernel_rfl) (fun K hK => ?_)
        go_simp
        refine hK _ _ (by have h := HX4.out.1; rw [HN.out, HM.out] at h; exact h) ?_
        clear hK K
        try simp only [Act.put, List.setIfInBounds_toArray, List.set_cons_zero, List.set_cons_succ]
        refine wpI_done (by kernel_rfl) ?_
        go_wp2_with fail
        go_roundw
        case rel => exact ⟨k + 1, by omega, by go_num, HX4, HR4, HB4⟩
        case measure => simp [intOf]; omega
      · obtain rfl : k = n := by omega
        go_wp2_with fail
        go_loopw [41] (fun i wr => ∃ j : Nat, j ≤ m ∧ i = .int .i64 j ∧ Hid (LaidI g gd hb hw D T (k + j) wr) ∧ Hid (RoomI g (g + 1) T (startP (pieces D) (k + j)) wr) ∧ Hid (Below B0 w0 wr)) (fun i _ => m - (intOf i).toNat)
        case atStart => exact ⟨0, Nat.zero_le _, rfl, HIr, HRr, HBr⟩
        case round =>
          obtain ⟨j, hj, rfl, HI, HR, HB'⟩ := hrel
          clear HIr HRr HBr
          have j0 : (0 : Int) ≤ j := by omega
          by_cases hlt : j < m
          · have j1 : (j : Int) < m := by omega
            obtain ⟨b, off, p, A, l, c, s, hbe, hlb, hl, _, hc, hd, hA⟩ := HD.out.2.at_ (show j < D.2.length by rw [HM.out]; exact hlt)
            obtain rfl : wa = some ⟨b, off, none⟩ := hbe
            have hz : w0.heap.size = B0 := by have := HZ.out; have := HBB.out; omega
            rw [hz] at hlb hA
            have c1 := (HB'.out.cell (p := ⟨b, off + j * 2, none⟩) hlb).trans hc
            have c2 := (HB'.out.cell (p := ⟨b, off + j * 2 + 1, none⟩) hlb).trans hd
            obtain ⟨o, hr, ho⟩ := HR.out
            have hls := hA.1
            subst hls
            have hkP : k + j < (pieces D).length := by rw [pieces_length, HN.out, HM.out]; omega
            have hps : (pieces D).getD (k + j) [] = s := by rw [← HN.out, pieces_right (by rw [HM.out]; exact hlt), hl]
            have hst := startP_succ hkP
            have hT2 : startP (pieces D) (k + j + 1) ≤ T := by
              rw [← HT.out, ← startP_sumD, HN.out, HM.out]
              exact startP_mono (by omega)
            rw [hps] at hst
            obtain ⟨gt, hgt⟩ : ∃ gt, wr.heap.size = gt := ⟨_, rfl⟩
            obtain ⟨wd, hwd⟩ : ∃ wd, (wr.alloc (.cells #[.int .i64 p, .slice A s.length c] 47)).drew = wd := ⟨_, rfl⟩
            have hBa : Below wr.heap.size wr wd := by rw [← hwd]; exact ((Below.refl _ wr).alloc (Nat.le_refl _) _).drew
            have hId : LaidI g gd hb hw D T (k + j) wd := by
              obtain ⟨y1, y2, ⟨cb, y3, y4⟩, cw, y5, y6⟩ := HI.out
              exact ⟨y1.below hBa y1.lt, y2.below hBa y2.lt, ⟨cb, y3.below hBa y3.lt, y4⟩, cw, y5.below hBa y5.lt, y6⟩
            have hrd := hr.below hBa hr.lt
            have hBd : Below B0 w0 wd := HB'.out.trans (hBa.mono (by have := hr.lt; omega))
            have hxt : Blk wd gt 47 #[.int .i64 p, .slice A s.length c] := by rw [← hwd, ← hgt]; exact (Blk.new wr _ _).drew
            have hcp := dCut_any B0 A s.length c (g + 1) g o (T - startP (pieces D) (k + j)) (roomP (pieces D) T (k + j)) s wd (hA.below hBd) (by omega) (by omega) hrd hId.2.1 (by omega) (fun hh => by rw [ho hh, roomP_length (by omega)]; omega)
            have hfin := fun e w' (hcc : CutPost (g + 1) g o (T - startP (pieces D) (k + j)) s.length (roomP (pieces D) T (k + j)) s wd e w') => hId.write (by rw [HN.out]) (by rw [HM.out]; exact hlt) hl hT2 ho (by omega) hBd hbg (by omega) k2 hrd hcc
            have hgt1 : gt ≠ g + 1 := by have := hr.lt; omega
            have hgt2 : gt ≠ g := by have := hr.lt; omega
            have hgt3 : gt ≠ hw := by have := HI.out.2.2.2; obtain ⟨cw, y5, _⟩ := this; have := y5.lt; omega
            have hxd := hId.1
            rw [HN.out, HM.out] at hfin hxd
            have HCP := Lib.hid hcp
            have HFIN := Lib.hid hfin
            have HXD := Lib.hid hxd
            have HXT := Lib.hid hxt
            have HST := Lib.hid (And.intro hgt1 (And.intro hgt2 hgt3))
            clear hcp hfin hId hrd hBd hps hst hT2 hkP ho hr hc hd hA hl hz hxd hxt HI HR HB' hBa hgt1 hgt2 hgt3
            go_wp2_with fail
            clear hgt
            refine wpI_start (fun X => Blk X gd 25 #[.slice (some ⟨hb, 0, none⟩) k k, .slice (some ⟨hw, 0, none⟩) m m] ∧ Blk X gt 47 #[.int .i64 p, .slice A s.length c]) [0, 1, 2, 3, 4, 5, 6, 7, 8, 9, 10, 11] hmx rfl hwd ?_
            clear hwd
            iterate 8 (
              refine wpI_read (v := ?_) ⟨HXD.out, HXT.out⟩ rfl (by kernel_rfl) (by kernel_rfl) (by kernel_rfl) (fun _ _ _ h => h) (.inl ⟨by rfl, ?_⟩) ?_
              rotate_left
              · intro X hX
                have hXa := hX.1.cell 1
                have hXb := hX.2.cell 0
                have hXc := hX.2.cell 1
                clear hX
                go_simp
                with_reducible rfl
              try simp only [Act.put, List.setIfInBounds_toArray, List.set_cons_zero, List.set_cons_succ])
            refine wpI_lone rfl (by kernel_rfl) (fun K hK => ?_)
            go_simp
            refine HCP.out.mono ?_
            intro e w3 hcc
            obtain ⟨hx3, ⟨cb, hx4, hx5⟩, hI4, hR4, hB4⟩ := HFIN.out e w3 hcc
            have hxt3 : Blk w3 gt 47 #[.int .i64 p, .slice A s.length c] := by
              obtain ⟨_, _, _, _, w9, g1, g2⟩ := hcc
              exact (HXT.out.grown g1 (fun e => HST.out.1 (Option.some.inj e))).grown g2 (fun e => HST.out.2.1 (Option.some.inj e))
            obtain rfl := hcc.1
            refine hK _ _ ⟨hx3, hxt3⟩ ?_
            clear hK K
            try simp only [Act.put, List.setIfInBounds_toArray, List.set_cons_zero, List.set_cons_succ]
            iterate 2 (
              refine wpI_read (v := ?_) ⟨hx3, hxt3⟩ rfl (by kernel_rfl) (by kernel_rfl) (by kernel_rfl) (fun _ _ _ h => h) (.inl ⟨by rfl, ?_⟩) ?_
              rotate_left
              · intro X hX
                clear hX
                go_simp
                with_reducible rfl
              try simp only [Act.put, List.setIfInBounds_toArray, List.set_cons_zero, List.set_cons_succ])
            obtain ⟨u3, hu3⟩ : ∃ u, w3.cell? ⟨hw, j * 2, none⟩ = some u := ⟨_, by rw [hx4.cell]; exact Array.getElem?_eq_getElem (by omega)⟩
            obtain ⟨u4, hu4⟩ : ∃ u, w3.cell? ⟨hw, j * 2 + 1, none⟩ = some u := ⟨_, by rw [hx4.cell]; exact Array.getElem?_eq_getElem (by omega)⟩
            have hf3 := hx4.frozen (j * 2)
            have hf4 := hx4.frozen (j * 2 + 1)
            have HX4 := Lib.hid hI4
            have HR4 := Lib.hid hR4
            have HB4 := Lib.hid hB4
            have HX5 := Lib.hid ((hxt3.far (p := ⟨hw, j * 2, none⟩) HST.out.2.2 (.int .i64 p)).far (p := ⟨hw, j * 2 + 1, none⟩) HST.out.2.2 (.slice (some ⟨g, o, none⟩) s.length s.length))
            clear hI4 hR4 hB4 hx3 hx4 hx5 hcc HFIN HCP hxt3
            refine wpI_lone rfl (by kernel_rfl) (fun K hK => ?_)
            go_simp
            refine hK _ _ ⟨by have h := HX4.out.1; rw [HN.out, HM.out] at h; exact h, HX5.out⟩ ?_
            clear hK K
            try simp only [Act.put, List.setIfInBounds_toArray, List.set_cons_zero, List.set_cons_succ]
            refine wpI_done (by kernel_rfl) ?_
            go_wp2_with fail
            go_roundw
            case rel => exact ⟨j + 1, by omega, by go_num, HX4, HR4, HB4⟩
            case measure => simp [intOf]; omega
          · obtain rfl : j = m := by omega
            obtain ⟨y1, y2, ⟨cb, y3, y4, y5⟩, cw, y6, y7, y8⟩ := HI.out
            rw [HN.out, HM.out] at y1
            rw [HN.out] at y4 y5 y8
            rw [HM.out] at y7 y8
            have hgr : w.heap.size < B0 := by have := HBB.out; omega
            have xr := HX.out.below HB'.out hgr
            have c0 := y1.cell 0
            have c1 := y1.cell 1
            have d0 := xr.cell 0
            have d1 := xr.cell 1
            have hf := fun i => xr.frozen i
            have hwf : ∀ i, i < D.2.length → (Lit.int .i64 (wr_ D.2 i).1).wf = true := fun i hi => by
              obtain ⟨_, _, p, _, _, _, _, _, _, hp, hwf, _⟩ := HD.out.2.at_ hi
              rw [hp]
              exact hwf
            have hbw : Below w.heap.size w wr := HB.out.trans (HB'.out.mono (by omega))
            have hfin : Laid ((wr.setCell ⟨w.heap.size, 0, none⟩ (.slice (some ⟨hb, 0, none⟩) k k)).setCell ⟨w.heap.size, 1, none⟩ (.slice (some ⟨hw, 0, none⟩) j j)) w.heap.size ⟨some ⟨hb, 0, none⟩, k, some ⟨hw, 0, none⟩, j⟩ D := by
              refine ⟨g, hb, hw, by rw [HN.out, HM.out], by omega, by omega, by omega, by rw [HN.out]; exact f1, by rw [HM.out]; exact f2, by rw [HT.out]; exact f3, hwf, ?_, ⟨cb, ?_, by rw [HN.out]; exact y4, fun i hi => y5 i (by rw [← HN.out]; exact hi) (by rw [HN.out] at hi; omega)⟩, cw, ?_, by rw [HM.out]; exact y7, fun i hi => ?_⟩
              · rw [HN.out, HM.out, HT.out]
                exact (y2.far (by simp; omega) _).far (by simp; omega) _
              · exact (y3.far (by simp; omega) _).far (by simp; omega) _
              · exact (y6.far (by simp; omega) _).far (by simp; omega) _
              · rw [HN.out]
                exact y8 i (by rw [← HM.out]; exact hi) (by rw [HM.out] at hi; omega)
            have HFIN := Lib.hid hfin
            have HBF := Lib.hid ((hbw.setCell (p := ⟨w.heap.size, 0, none⟩) (Nat.le_refl _) (.slice (some ⟨hb, 0, none⟩) k k)).setCell (p := ⟨w.heap.size, 1, none⟩) (Nat.le_refl _) (.slice (some ⟨hw, 0, none⟩) j j))
            have hxr := (xr.set_ 0 (.slice (some ⟨hb, 0, none⟩) k k)).set_ 1 (.slice (some ⟨hw, 0, none⟩) j j)
            have HXR := Lib.hid hxr
            clear hfin hbw hwf y1 y2 y3 y4 y5 y6 y7 y8 xr hxr hgr HI HR HB'
            go_wp2_with fail
            obtain ⟨wf, hwf⟩ : ∃ wf, ((wr.setCell ⟨w.heap.size, 0, none⟩ (.slice (some ⟨hb, 0, none⟩) k k)).setCell ⟨w.heap.size, 1, none⟩ (.slice (some ⟨hw, 0, none⟩) j j)) = wf := ⟨_, rfl⟩
            rw [hwf] at HFIN HBF HXR ⊢
            clear hwf c0 c1 d0 d1 hf
            have e0 := HXR.out.cell 0
            have e1 := HXR.out.cell 1
            refine bodyPost_ret (v := .agg #[.slice (some ⟨hb, 0, none⟩) k k, .slice (some ⟨hw, 0, none⟩) j j]) (by simp [results, Tryz.f32, go_sem, e0, e1]) rfl ?_
            refine ⟨⟨some ⟨hb, 0, none⟩, k, some ⟨hw, 0, none⟩, j⟩, ?_, HFIN.out, HBF.out⟩
            rw [dval, HN.out, HM.out]
end Go.Proofs.YtldnelimemjaiaaGreatDoor
/-
  Words for rows of the call's own whose cells are slices of bytes, or writes; appends to them.
-/
namespace Go.Proofs.YtldnelimemjaiaaGreatDoor
open Go.RowKit Go.Shelf
set_option maxRecDepth 100000

/-- A slice that reads as s, and lies below block B, or in a block of bytes. -/
def BslO (w : World) (B : Nat) (A : Option Addr) (n c : Nat) (s : List UInt8) : Prop :=
  s.length = n ∧ n ≤ c ∧ c ≤ maxLen ∧ (A = none → c = 0) ∧
    (0 < n → ∃ b off, A = some ⟨b, off, none⟩ ∧ b < w.heap.size ∧ (b < B ∨ ∃ cs, Blk w b 5 cs) ∧ ∀ i (h : i < s.length), w.cell? ⟨b, off + i, none⟩ = some (.int .u8 ((s[i]).toNat : Int)))
section
variable {w w' : World} {B n c : Nat} {A : Option Addr} {s : List UInt8}
theorem BslO.bsl (h : BslO w B A n c s) : Bsl w w.heap.size A n c s := by
  obtain ⟨h1, h2, h3, h4, h5⟩ := h
  refine ⟨h1, h2, h3, h4, fun h0 => ?_⟩
  obtain ⟨b, off, e, hb, _, hc⟩ := h5 h0
  exact ⟨b, off, e, hb, hc⟩
theorem BslO.of (h : Bsl w B A n c s) (hB : B ≤ w.heap.size) : BslO w B A n c s := by
  obtain ⟨h1, h2, h3, h4, h5⟩ := h
  refine ⟨h1, h2, h3, h4, fun h0 => ?_⟩
  obtain ⟨b, off, e, hb, hc⟩ := h5 h0
  exact ⟨b, off, e, by omega, .inl hb, hc⟩
theorem BslO.own {base : Nat} (h : w.ownsRow base 5 1 (.slice A n c) n (vals s)) (B : Nat) : BslO w B A n c s := by
  have hb := own_bsl h
  obtain ⟨h1, h2, h3, h4, h5⟩ := hb
  refine ⟨h1, h2, h3, h4, fun h0 => ?_⟩
  obtain ⟨b, off, e, hb, hc⟩ := h5 h0
  subst e
  obtain ⟨_, ⟨e, _⟩ | ⟨g, cap, cur, e, _, hh, _⟩⟩ := h
  · cases e
  · cases e
    exact ⟨b, 0, rfl, hb, .inr ⟨cur, hh⟩, hc⟩
theorem BslO.below (h : BslO w B A n c s) (hb : Below w.heap.size w w') : BslO w' B A n c s := by
  obtain ⟨h1, h2, h3, h4, h5⟩ := h
  refine ⟨h1, h2, h3, h4, fun h0 => ?_⟩
  obtain ⟨b, off, e, hlt, ho, hc⟩ := h5 h0
  exact ⟨b, off, e, Nat.lt_of_lt_of_le hlt hb.size, ho.imp id fun ⟨cs, hcs⟩ => ⟨cs, hcs.below hb hlt⟩, fun i hi => (hb.cell (p := ⟨b, off + i, none⟩) hlt).trans (hc i hi)⟩
/-- Another block of one's own, that is none of bytes, is written. -/
theorem BslO.row {row : Option Nat} (h : BslO w B A n c s) (hg : w.grownBy w' row) (hr : ∀ g, row = some g → B ≤ g ∧ ∃ t cs, Blk w g t cs ∧ t ≠ 5) : BslO w' B A n c s := by
  obtain ⟨h1, h2, h3, h4, h5⟩ := h
  refine ⟨h1, h2, h3, h4, fun h0 => ?_⟩
  obtain ⟨b, off, e, hlt, ho, hc⟩ := h5 h0
  have hne : some b ≠ row := fun er => by
    obtain ⟨h6, t, cs, h7, h8⟩ := hr b er.symm
    rcases ho with ho | ⟨cs', h9⟩
    · omega
    · exact h9.ne h7 (fun e => h8 e.symm) rfl
  have hbk := hg.block b hlt hne
  refine ⟨b, off, e, Nat.lt_of_lt_of_le hlt hg.size, ho.imp id fun ⟨cs, hcs⟩ => ⟨cs, hbk.trans hcs⟩, fun i hi => ?_⟩
  rw [← hc i hi]
  exact World.cell?_of_block (a := ⟨b, off + i, none⟩) hbk
end
/-- What an append writes is the row's own block. -/
theorem own_row {w : World} {base : Nat} {e : TypeId} {size : Nat} {v : Value} {n : Nat} {xs : List Value} (h : w.ownsRow base e size v n xs) (he : e ≠ 5) : ∀ g, v.ownBlock = some g → base ≤ g ∧ ∃ t cs, Blk w g t cs ∧ t ≠ 5 := by
  rintro g hg
  obtain ⟨_, ⟨rfl, _⟩ | ⟨g', cap, cur, rfl, h1, h2, _⟩⟩ := h
  · cases hg
  · cases hg
    exact ⟨h1, _, _, h2, he⟩
/-- A row of the call's own, of slices of bytes. -/
def BRowC (w : World) (C base : Nat) (v : Value) (bl : List (List UInt8)) : Prop :=
  ∃ xs, w.ownsRow base 45 1 v bl.length xs ∧ ∀ i, i < bl.length → ∃ A c, xs.getD i undef = .slice A (bl.getD i []).length c ∧ BslO w C A (bl.getD i []).length c (bl.getD i [])
abbrev BRow (w : World) (base : Nat) (v : Value) (bl : List (List UInt8)) : Prop := BRowC w base base v bl
/-- A row of the call's own, of writes. -/
def WRowC (w : World) (C base : Nat) (v : Value) (ws : WrL) : Prop :=
  ∃ xs, w.ownsRow base 47 2 v ws.length xs ∧ ∀ i, i < ws.length → (Lit.int .i64 (wr_ ws i).1).wf = true ∧ xs.getD (i * 2) undef = .int .i64 (wr_ ws i).1 ∧ ∃ A c, xs.getD (i * 2 + 1) undef = .slice A (wr_ ws i).2.length c ∧ BslO w C A (wr_ ws i).2.length c (wr_ ws i).2
abbrev WRow (w : World) (base : Nat) (v : Value) (ws : WrL) : Prop := WRowC w base base v ws
theorem brow_nil (w : World) (base : Nat) {C : Nat} : BRowC w C base (.slice none 0 0) [] := ⟨[], World.ownsRow_nil _ _ _ _, fun _ h => absurd h (Nat.not_lt_zero _)⟩
theorem wrow_nil (w : World) (base : Nat) {C : Nat} : WRowC w C base (.slice none 0 0) [] := ⟨[], ⟨by simp, .inl ⟨rfl, rfl⟩⟩, fun _ h => absurd h (Nat.not_lt_zero _)⟩
theorem BRowC.below {w w' : World} {C base : Nat} {v : Value} {bl : List (List UInt8)} (h : BRowC w C base v bl) (hb : Below w.heap.size w w') : BRowC w' C base v bl := by
  obtain ⟨xs, h1, h2⟩ := h
  refine ⟨xs, own_below h1 hb, fun i hi => ?_⟩
  obtain ⟨A, c, h3, h4⟩ := h2 i hi
  exact ⟨A, c, h3, h4.below hb⟩
theorem WRowC.below {w w' : World} {C base : Nat} {v : Value} {ws : WrL} (h : WRowC w C base v ws) (hb : Below w.heap.size w w') : WRowC w' C base v ws := by
  obtain ⟨xs, h1, h2⟩ := h
  refine ⟨xs, own_below h1 hb, fun i hi => ?_⟩
  obtain ⟨h0, h5, A, c, h3, h4⟩ := h2 i hi
  exact ⟨h0, h5, A, c, h3, h4.below hb⟩
/-- Another block of one's own, that is none of bytes, is written. -/
theorem BRowC.row {w w' : World} {C base : Nat} {v : Value} {bl : List (List UInt8)} (h : BRowC w C base v bl) {g : Nat} (hg : w.grownBy w' (some g)) (hB : C ≤ g) {t : TypeId} {cs : Array Value} (hx : Blk w g t cs) (ht : t ≠ 5) (hne : t ≠ 45) : BRowC w' C base v bl := by
  obtain ⟨xs, h1, h2⟩ := h
  refine ⟨xs, own_other h1 hg fun k hk e => ?_, fun i hi => ?_⟩
  · obtain ⟨_, ⟨rfl, _⟩ | ⟨g', cap, cur, rfl, _, h3, _⟩⟩ := h1
    · cases hk
    · exact (show Blk w g' _ cur from h3).ne hx (Ne.symm hne) ((Option.some.inj hk).trans e)
  · obtain ⟨A, c, h3, h4⟩ := h2 i hi
    exact ⟨A, c, h3, h4.row hg fun k hk => by cases hk; exact ⟨hB, t, cs, hx, ht⟩⟩
theorem WRowC.row {w w' : World} {C base : Nat} {v : Value} {ws : WrL} (h : WRowC w C base v ws) {g : Nat} (hg : w.grownBy w' (some g)) (hB : C ≤ g) {t : TypeId} {cs : Array Value} (hx : Blk w g t cs) (ht : t ≠ 5) (hne : t ≠ 47) : WRowC w' C base v ws := by
  obtain ⟨xs, h1, h2⟩ := h
  refine ⟨xs, own_other h1 hg fun k hk e => ?_, fun i hi => ?_⟩
  · obtain ⟨_, ⟨rfl, _⟩ | ⟨g', cap, cur, rfl, _, h3, _⟩⟩ := h1
    · cases hk
    · exact (show Blk w g' _ cur from h3).ne hx (Ne.symm hne) ((Option.some.inj hk).trans e)
  · obtain ⟨h0, h5, A, c, h3, h4⟩ := h2 i hi
    exact ⟨h0, h5, A, c, h3, h4.row hg fun k hk => by cases hk; exact ⟨hB, t, cs, hx, ht⟩⟩
theorem BRowC.bls {w : World} {C base : Nat} {v : Value} {bl : List (List UInt8)} (h : BRowC w C base v bl) : ∃ a c, v = .slice a bl.length c ∧ Bls w w.heap.size a bl.length c bl := by
  obtain ⟨xs, h1, h2⟩ := h
  obtain ⟨hl, ⟨rfl, h0⟩ | ⟨g, cap, cur, rfl, _, h3, h4, h5, h6, h7⟩⟩ := id h1
  · have : bl = [] := List.eq_nil_of_length_eq_zero h0
    subst this
    exact ⟨none, 0, rfl, bls_nil _ _⟩
  · refine ⟨_, _, rfl, rfl, h4, h5, fun _ => ⟨g, 0, rfl, (Array.getElem?_eq_some_iff.1 h3).1, fun i hi => ?_⟩⟩
    obtain ⟨A, c, e1, e2⟩ := h2 i hi
    refine ⟨A, c, ?_, e2.bsl⟩
    rw [Nat.zero_add, cell_of_row w g i cur 45 (0, 0) h3, ← Array.getElem?_toList]
    have : cur.toList[i]? = xs[i]? := by rw [← h7, List.getElem?_take_of_lt (by omega)]
    rw [this, ← e1, List.getD_eq_getElem?_getD, List.getElem?_eq_getElem (by omega)]
    rfl
theorem WRowC.wts {w : World} {C base : Nat} {v : Value} {ws : WrL} (h : WRowC w C base v ws) : ∃ a c, v = .slice a ws.length c ∧ Wts w w.heap.size a ws.length c ws := by
  obtain ⟨xs, h1, h2⟩ := h
  obtain ⟨hl, ⟨rfl, h0⟩ | ⟨g, cap, cur, rfl, _, h3, h4, h5, h6, h7⟩⟩ := id h1
  · have : ws = [] := List.eq_nil_of_length_eq_zero h0
    subst this
    exact ⟨none, 0, rfl, wts_nil _ _⟩
  · refine ⟨_, _, rfl, rfl, h4, h5, fun _ => ⟨g, 0, rfl, (Array.getElem?_eq_some_iff.1 h3).1, fun i hi => ?_⟩⟩
    obtain ⟨e0, e3, A, c, e1, e2⟩ := h2 i hi
    have hget : ∀ j, j < ws.length * 2 → cur.toList[j]? = some (xs.getD j undef) := fun j hj => by
      have : cur.toList[j]? = xs[j]? := by rw [← h7, List.getElem?_take_of_lt hj]
      rw [this, List.getD_eq_getElem?_getD, List.getElem?_eq_getElem (by omega)]
      rfl
    refine ⟨e0, ?_, A, c, ?_, e2.bsl⟩
    · rw [Nat.zero_add, cell_of_row w g _ cur 47 (0, 0) h3, ← Array.getElem?_toList, hget _ (by omega), e3]
    · rw [Nat.zero_add, cell_of_row w g _ cur 47 (0, 0) h3, ← Array.getElem?_toList, hget _ (by omega), e1]
/-- Behind an append: the lists, one behind the other. -/
theorem brow_app {w w' : World} {C base : Nat} {v v' : Value} {bl : List (List UInt8)} {xs : List Value} {A : Option Addr} {c : Nat} {s : List UInt8} (hC : C ≤ base) (h : w.ownsRow base 45 1 v bl.length xs) (h2 : ∀ i, i < bl.length → ∃ A c, xs.getD i undef = .slice A (bl.getD i []).length c ∧ BslO w C A (bl.getD i []).length c (bl.getD i []))
    (hs : BslO w C A s.length c s) (ho : w'.ownsRow base 45 1 v' (bl.length + 1) (xs ++ [.slice A s.length c])) (hg : w.grownBy w' v.ownBlock) : BRowC w' C base v' (bl ++ [s]) := by
  have hl : xs.length = bl.length := by have := h.1; omega
  refine ⟨_, by rw [List.length_append]; exact ho, fun i hi => ?_⟩
  rw [List.length_append] at hi
  simp only [List.length_cons, List.length_nil] at hi
  rcases Nat.lt_or_ge i bl.length with h3 | h3
  · obtain ⟨A', c', e1, e2⟩ := h2 i h3
    have g1 : (bl ++ [s]).getD i [] = bl.getD i [] := by rw [List.getD_eq_getElem?_getD, List.getElem?_append_left h3, ← List.getD_eq_getElem?_getD]
    have g2 : (xs ++ [Value.slice A s.length c]).getD i undef = xs.getD i undef := by rw [List.getD_eq_getElem?_getD, List.getElem?_append_left (by omega), ← List.getD_eq_getElem?_getD]
    rw [g1, g2]
    exact ⟨A', c', e1, e2.row hg (fun g hg => (own_row h (by decide) g hg).imp_left (Nat.le_trans hC))⟩
  · obtain rfl : i = bl.length := by omega
    have g1 : (bl ++ [s]).getD bl.length [] = s := by rw [List.getD_eq_getElem?_getD, List.getElem?_append_right (Nat.le_refl _), Nat.sub_self]; rfl
    have g2 : (xs ++ [Value.slice A s.length c]).getD bl.length undef = .slice A s.length c := by rw [List.getD_eq_getElem?_getD, List.getElem?_append_right (by omega), hl, Nat.sub_self]; rfl
    rw [g1, g2]
    exact ⟨A, c, rfl, hs.row hg (fun g hg => (own_row h (by decide) g hg).imp_left (Nat.le_trans hC))⟩
theorem wrow_app {w w' : World} {C base : Nat} {v v' : Value} {ws ws' : WrL} {xs ys : List Value} (hC : C ≤ base) (h : w.ownsRow base 47 2 v ws.length xs)
    (h2 : ∀ i, i < ws.length → (Lit.int .i64 (wr_ ws i).1).wf = true ∧ xs.getD (i * 2) undef = .int .i64 (wr_ ws i).1 ∧ ∃ A c, xs.getD (i * 2 + 1) undef = .slice A (wr_ ws i).2.length c ∧ BslO w C A (wr_ ws i).2.length c (wr_ ws i).2)
    (h3 : ∀ i, i < ws'.length → (Lit.int .i64 (wr_ ws' i).1).wf = true ∧ ys.getD (i * 2) undef = .int .i64 (wr_ ws' i).1 ∧ ∃ A c, ys.getD (i * 2 + 1) undef = .slice A (wr_ ws' i).2.length c ∧ BslO w C A (wr_ ws' i).2.length c (wr_ ws' i).2)
    (ho : w'.ownsRow base 47 2 v' (ws.length + ws'.length) (xs ++ ys)) (hg : w.grownBy w' v.ownBlock) : WRowC w' C base v' (ws ++ ws') := by
  have hl : xs.length = ws.length * 2 := h.1
  refine ⟨_, by rw [List.length_append]; exact ho, fun i hi => ?_⟩
  rw [List.length_append] at hi
  rcases Nat.lt_or_ge i ws.length with h4 | h4
  · obtain ⟨e0, e3, A, c, e1, e2⟩ := h2 i h4
    have g1 : wr_ (ws ++ ws') i = wr_ ws i := by unfold wr_; rw [List.getD_eq_getElem?_getD, List.getElem?_append_left h4, ← List.getD_eq_getElem?_getD]
    have g2 : ∀ j, j < ws.length * 2 → (xs ++ ys).getD j undef = xs.getD j undef := fun j hj => by rw [List.getD_eq_getElem?_getD, List.getElem?_append_left (by omega), ← List.getD_eq_getElem?_getD]
    rw [g1, g2 _ (by omega), g2 _ (by omega)]
    exact ⟨e0, e3, A, c, e1, e2.row hg (fun g hg => (own_row h (by decide) g hg).imp_left (Nat.le_trans hC))⟩
  · obtain ⟨k, rfl⟩ : ∃ k, i = ws.length + k := ⟨i - ws.length, by omega⟩
    obtain ⟨e0, e3, A, c, e1, e2⟩ := h3 k (by omega)
    have g1 : wr_ (ws ++ ws') (ws.length + k) = wr_ ws' k := by
      unfold wr_
      rw [List.getD_eq_getElem?_getD, List.getElem?_append_right (by omega), Nat.add_sub_cancel_left, ← List.getD_eq_getElem?_getD]
    have g2 : ∀ j, (xs ++ ys).getD (ws.length * 2 + j) undef = ys.getD j undef := fun j => by
      rw [List.getD_eq_getElem?_getD, List.getElem?_append_right (by omega), hl, Nat.add_sub_cancel_left, ← List.getD_eq_getElem?_getD]
    have e4 : (ws.length + k) * 2 = ws.length * 2 + k * 2 := by omega
    have e5 : (ws.length + k) * 2 + 1 = ws.length * 2 + (k * 2 + 1) := by omega
    rw [g1, e5, e4, g2, g2]
    exact ⟨e0, e3, A, c, e1, e2.row hg (fun g hg => (own_row h (by decide) g hg).imp_left (Nat.le_trans hC))⟩
/-- append(v, nil...), whatever capacity nil is written with. -/
theorem run_append_nothing {P : Program} {w : World} (base : Nat) (t ty e : TypeId) (i : TypeInfo) (size c : Nat) (ht : P.underlying t = some (.slice e)) (hi : P.info? e = some i)
    (v : Value) (n : Nat) (xs : List Value) (hown : w.ownsRow base e size v n xs) : (Builtin.append_ #[t, t] ty #[v, .slice none 0 c]).run P w = .ok v w := by
  rcases hown.2 with ⟨rfl, rfl⟩ | ⟨g, cap, cur, rfl, _, _, hnc, _⟩
  · simp [Builtin.append_, run_underlying ht, sizeOf, typeInfo, hi, Builtin.lenOf, Builtin.firstCells]
  · simp [Builtin.append_, run_underlying ht, sizeOf, typeInfo, hi, Builtin.lenOf, Builtin.firstCells, hnc, storeCells]
section
variable {w : World} {o : Oper} {a : Act} {K : Act → World → Prop} {Q : Exit → Act → World → Prop} {ops : Array Oper} {rest : List Oper}
/-- append(bytes, more...). -/
theorem wp_append_big (s x : Operand)
    (ho : o.op = .call { callee := .builtin .append, args := #[s, x], argTypes := #[45, 45] })
    (base : Nat) (v : Value) (n : Nat) (xs : List UInt8) (hs : a.eval s = v) (hown : w.ownsRow base 5 1 v n (vals xs))
    (B : Nat) (A : Option Addr) (m c : Nat) (news : List UInt8) (hx : a.eval x = .slice A m c) (hr : Bsl w B A m c news)
    (hnm : n + m ≤ 100000000000000) (hbase : base ≤ w.heap.size)
    (h : ∀ v' w', w'.ownsRow base 5 1 v' (n + m) (vals (xs ++ news)) → w.grownBy w' v.ownBlock → K (a.put o.dst v') w') : o.wp Tryz.prog a w K Q := by
  obtain ⟨i0, hi, hz0, hz1, hz2⟩ := info_parts infoU8
  obtain ⟨h1, h2, h3, h4, h5⟩ := hr
  cases A with
  | none =>
    have hc := h4 rfl
    have hm : m = 0 := by omega
    subst hm; subst hc
    obtain rfl : news = [] := List.eq_nil_of_length_eq_zero h1
    have hrun := run_append_nothing (P := Tryz.prog) (w := w) base 45 o.type 5 i0 1 0 Tryz.underlying45 hi v n (vals xs) hown
    unfold Oper.wp
    simp [execOp, ho, resolve, invoke, builtin, hs, hx, hrun, Result.andThen]
    exact h v w (by simpa using hown) (World.grownBy.refl w _)
  | some ad =>
    refine wp_append_own w s x 45 ho base 5 i0 (.int .u8 0) 1 1 Tryz.underlying45 hi hz0 hz1 hz2 rfl (by decide) v n (vals xs) hs hown ad m c (vals news) hx (by simp [vals, h1]) (fun j u hu => ?_) (fun u hu => ?_) (by unfold maxLen; omega) (by omega) hbase ?_
    · obtain ⟨hj, rfl⟩ := vals_get hu
      obtain ⟨b, off, e, _, hc⟩ := h5 (by omega)
      cases e
      rw [← hc j hj]
      congr 1
      unfold Addr.add
      split <;> simp_all
    · obtain ⟨y, _, rfl⟩ := List.mem_map.1 hu
      rfl
    · intro v' w' h2 h3 _
      exact h v' w' (by rw [← vals_append]; exact h2) h3
/-- append(rows, s). -/
theorem wp_append_browC {C : Nat} (x y : Operand) (ho : o.op = .call { callee := .builtin .append, args := #[x, y], argTypes := #[22, 22] })
    (base : Nat) (hC : C ≤ base) (v : Value) (bl : List (List UInt8)) (hx : a.eval x = v) (hr : BRowC w C base v bl) (A : Option Addr) (c : Nat) (s : List UInt8) (b : Nat) (hy : a.eval y = .slice (some ⟨b, 0, none⟩) 1 1) (hb : Blk w b 45 #[.slice A s.length c]) (hs : BslO w C A s.length c s)
    (hn : bl.length ≤ 1000000) (hbase : base ≤ w.heap.size)
    (h : ∀ v' w', BRowC w' C base v' (bl ++ [s]) → w.grownBy w' v.ownBlock → (∀ g, v.ownBlock = some g → base ≤ g ∧ ∃ t cs, Blk w g t cs ∧ t ≠ 5) → K (a.put o.dst v') w') : o.wp Tryz.prog a w K Q := by
  obtain ⟨i0, hi0, hz0, hz1, hz2⟩ := info_parts infoSlB
  obtain ⟨xs, h1, h2⟩ := hr
  refine wp_append_own w x y 22 ho base 45 i0 (.slice none 0 0) 1 24 Tryz.underlying22 hi0 hz0 hz1 hz2 rfl (by decide) v bl.length xs hx h1 ⟨b, 0, none⟩ 1 1 [.slice A s.length c] hy rfl (fun j u hu => ?_) (fun u hu => ?_) (by unfold maxLen; omega) (by omega) hbase fun v' w' h6 h7 _ => ?_
  · rcases j with _ | j
    · obtain rfl : Value.slice A s.length c = u := by simpa using hu
      have e : (⟨b, 0, none⟩ : Addr).add 0 = ⟨b, 0, none⟩ := by simp [Addr.add]
      rw [e]
      exact hb.cell 0
    · simp at hu
  · obtain rfl : u = .slice A s.length c := by simpa using hu
    rfl
  · exact h v' w' (brow_app hC h1 h2 hs h6 h7) h7 (own_row h1 (by decide))
theorem wp_append_brow (x y : Operand) (ho : o.op = .call { callee := .builtin .append, args := #[x, y], argTypes := #[22, 22] })
    (base : Nat) (v : Value) (bl : List (List UInt8)) (hx : a.eval x = v) (hr : BRow w base v bl) (A : Option Addr) (c : Nat) (s : List UInt8) (b : Nat) (hy : a.eval y = .slice (some ⟨b, 0, none⟩) 1 1) (hb : Blk w b 45 #[.slice A s.length c]) (hs : BslO w base A s.length c s)
    (hn : bl.length ≤ 1000000) (hbase : base ≤ w.heap.size)
    (h : ∀ v' w', BRow w' base v' (bl ++ [s]) → w.grownBy w' v.ownBlock → (∀ g, v.ownBlock = some g → base ≤ g ∧ ∃ t cs, Blk w g t cs ∧ t ≠ 5) → K (a.put o.dst v') w') : o.wp Tryz.prog a w K Q := wp_append_browC x y ho base (Nat.le_refl _) v bl hx hr A c s b hy hb hs hn hbase h
theorem wpList_append_brow (hgd : o.guard = none) (x y : Operand) (ho : o.op = .call { callee := .builtin .append, args := #[x, y], argTypes := #[22, 22] })
    (base : Nat) (v : Value) (bl : List (List UInt8)) (hx : a.eval x = v) (hr : BRow w base v bl) (A : Option Addr) (c : Nat) (s : List UInt8) (b : Nat) (hy : a.eval y = .slice (some ⟨b, 0, none⟩) 1 1) (hb : Blk w b 45 #[.slice A s.length c]) (hs : BslO w base A s.length c s)
    (hn : bl.length ≤ 1000000) (hbase : base ≤ w.heap.size)
    (h : ∀ v' w', BRow w' base v' (bl ++ [s]) → w.grownBy w' v.ownBlock → (∀ g, v.ownBlock = some g → base ≤ g ∧ ∃ t cs, Blk w g t cs ∧ t ≠ 5) → wpList Tryz.prog ops Q rest (a.put o.dst v') w') : wpList Tryz.prog ops Q (o :: rest) a w :=
  wpList_plain hgd fun _ hK => wp_append_brow x y ho base v bl hx hr A c s b hy hb hs hn hbase fun v' w' h1 h2 h3 => hK _ _ (h v' w' h1 h2 h3)
/-- append(writes, more...). -/
theorem wp_append_wrowC {C : Nat} (x y : Operand) (ho : o.op = .call { callee := .builtin .append, args := #[x, y], argTypes := #[23, 23] })
    (base : Nat) (hC : C ≤ base) (v : Value) (ws : WrL) (hx : a.eval x = v) (hr : WRowC w C base v ws) (ys : List Value) (ws' : WrL) (ad : Addr) (m c : Nat) (hy : a.eval y = .slice (some ad) m c) (hm : ws'.length = m) (hyl : ys.length = m * 2) (hcell : ∀ j u, ys[j]? = some u → w.cell? (ad.add j) = some u)
    (h3 : ∀ i, i < ws'.length → (Lit.int .i64 (wr_ ws' i).1).wf = true ∧ ys.getD (i * 2) undef = .int .i64 (wr_ ws' i).1 ∧ ∃ A c, ys.getD (i * 2 + 1) undef = .slice A (wr_ ws' i).2.length c ∧ BslO w C A (wr_ ws' i).2.length c (wr_ ws' i).2)
    (hn : ws.length + m ≤ 1000000) (hbase : base ≤ w.heap.size)
    (h : ∀ v' w', WRowC w' C base v' (ws ++ ws') → w.grownBy w' v.ownBlock → (∀ g, v.ownBlock = some g → base ≤ g ∧ ∃ t cs, Blk w g t cs ∧ t ≠ 5) → K (a.put o.dst v') w') : o.wp Tryz.prog a w K Q := by
  obtain ⟨i0, hi0, hz0, hz1, hz2⟩ := info_parts infoWri
  obtain ⟨xs, h1, h2⟩ := hr
  subst hm
  refine wp_append_own w x y 23 ho base 47 i0 (.agg #[.int .i64 0, .slice none 0 0]) 2 32 Tryz.underlying23 hi0 hz0 hz1 hz2 rfl (by decide) v ws.length xs hx h1 ad ws'.length c ys hy hyl hcell (fun u hu => ?_) (by unfold maxLen; omega) (by omega) hbase fun v' w' h6 h7 _ => ?_
  · obtain ⟨j, hj, rfl⟩ := List.getElem_of_mem hu
    have e : ys[j] = ys.getD j undef := by rw [List.getD_eq_getElem?_getD, List.getElem?_eq_getElem hj]; rfl
    rw [e]
    obtain ⟨_, e3, A, c', e1, _⟩ := h3 (j / 2) (by omega)
    rcases Nat.mod_two_eq_zero_or_one j with h0 | h0
    · rw [show j = j / 2 * 2 by omega, e3]
      rfl
    · rw [show j = j / 2 * 2 + 1 by omega, e1]
      rfl
  · exact h v' w' (wrow_app hC h1 h2 h3 h6 h7) h7 (own_row h1 (by decide))
theorem wp_append_wrow (x y : Operand) (ho : o.op = .call { callee := .builtin .append, args := #[x, y], argTypes := #[23, 23] })
    (base : Nat) (v : Value) (ws : WrL) (hx : a.eval x = v) (hr : WRow w base v ws) (ys : List Value) (ws' : WrL) (ad : Addr) (m c : Nat) (hy : a.eval y = .slice (some ad) m c) (hm : ws'.length = m) (hyl : ys.length = m * 2) (hcell : ∀ j u, ys[j]? = some u → w.cell? (ad.add j) = some u)
    (h3 : ∀ i, i < ws'.length → (Lit.int .i64 (wr_ ws' i).1).wf = true ∧ ys.getD (i * 2) undef = .int .i64 (wr_ ws' i).1 ∧ ∃ A c, ys.getD (i * 2 + 1) undef = .slice A (wr_ ws' i).2.length c ∧ BslO w base A (wr_ ws' i).2.length c (wr_ ws' i).2)
    (hn : ws.length + m ≤ 1000000) (hbase : base ≤ w.heap.size)
    (h : ∀ v' w', WRow w' base v' (ws ++ ws') → w.grownBy w' v.ownBlock → (∀ g, v.ownBlock = some g → base ≤ g ∧ ∃ t cs, Blk w g t cs ∧ t ≠ 5) → K (a.put o.dst v') w') : o.wp Tryz.prog a w K Q := wp_append_wrowC x y ho base (Nat.le_refl _) v ws hx hr ys ws' ad m c hy hm hyl hcell h3 hn hbase h
theorem wpList_append_wrow (hgd : o.guard = none) (x y : Operand) (ho : o.op = .call { callee := .builtin .append, args := #[x, y], argTypes := #[23, 23] })
    (base : Nat) (v : Value) (ws : WrL) (hx : a.eval x = v) (hr : WRow w base v ws) (B : Nat) (A : Option Addr) (m c : Nat) (ws' : WrL) (hy : a.eval y = .slice A m c) (hs : Wts w B A m c ws') (hB : B ≤ base) (hn : ws.length + m ≤ 1000000) (hbase : base ≤ w.heap.size)
    (h : ∀ v' w', WRow w' base v' (ws ++ ws') → w.grownBy w' v.ownBlock → (∀ g, v.ownBlock = some g → base ≤ g ∧ ∃ t cs, Blk w g t cs ∧ t ≠ 5) → wpList Tryz.prog ops Q rest (a.put o.dst v') w') : wpList Tryz.prog ops Q (o :: rest) a w := by
  obtain ⟨h1, h2, h3, h4⟩ := hs
  rcases Nat.eq_zero_or_pos m with h0 | h0
  · subst h0
    have hws : ws' = [] := List.eq_nil_of_length_eq_zero h1
    subst hws
    cases A with
    | none =>
      obtain ⟨i0, hi0, hz0, hz1, hz2⟩ := info_parts infoWri
      obtain ⟨xs, h5, h6⟩ := id hr
      refine wpList_plain hgd fun K hK => ?_
      have hrun := run_append_nothing (P := Tryz.prog) (w := w) base 23 o.type 47 i0 2 c Tryz.underlying23 hi0 v ws.length xs h5
      unfold Oper.wp
      simp [execOp, ho, resolve, invoke, builtin, hx, hy, hrun, Result.andThen]
      exact hK _ _ (h v w (by rw [List.append_nil]; exact hr) (World.grownBy.refl w _) (own_row h5 (by decide)))
    | some ad =>
      exact wpList_plain hgd fun _ hK => wp_append_wrow x y ho base v ws hx hr [] [] ad 0 c hy rfl rfl (fun j u hu => by simp at hu) (fun i hi => absurd hi (Nat.not_lt_zero _)) hn hbase fun v' w' h1 h2 h3 => hK _ _ (h v' w' h1 h2 h3)
  · obtain ⟨b, off, rfl, hlt, hc⟩ := h4 h0
    have hadd : ∀ j, (⟨b, off, none⟩ : Addr).add j = ⟨b, off + j, none⟩ := fun j => by unfold Addr.add; split <;> simp_all
    -- the cells, as they lie
    let ys : List Value := (List.range (m * 2)).map fun j => (w.cell? ⟨b, off + j, none⟩).getD undef
    have hyl : ys.length = m * 2 := by simp [ys]
    have hyg : ∀ j, j < m * 2 → ys.getD j undef = (w.cell? ⟨b, off + j, none⟩).getD undef := fun j hj => by simp [ys, List.getD_eq_getElem?_getD, hj]
    refine wpList_plain hgd fun _ hK => wp_append_wrow x y ho base v ws hx hr ys ws' ⟨b, off, none⟩ m c hy h1 hyl (fun j u hu => ?_) (fun i hi => ?_) hn hbase fun v' w' h1 h2 h3 => hK _ _ (h v' w' h1 h2 h3)
    · have hj : j < m * 2 := by
        rcases Nat.lt_or_ge j ys.length with hj | hj
        · omega
        · rw [List.getElem?_eq_none hj] at hu; cases hu
      rw [hadd]
      have hg := hyg j hj
      rw [List.getD_eq_getElem?_getD, hu] at hg
      have hu' : u = (w.cell? ⟨b, off + j, none⟩).getD undef := hg
      obtain ⟨_, e3, A, c', e1, _⟩ := hc (j / 2) (by omega)
      rcases Nat.mod_two_eq_zero_or_one j with h0 | h0
      · rw [show j = j / 2 * 2 by omega] at hu' ⊢
        rw [hu', e3]
        rfl
      · rw [show j = j / 2 * 2 + 1 by omega] at hu' ⊢
        rw [← Nat.add_assoc] at hu' ⊢
        rw [hu', e1]
        rfl
    · obtain ⟨e0, e3, A, c', e1, e2⟩ := hc i (by omega)
      rw [hyg _ (by omega), hyg _ (by omega), e3, ← Nat.add_assoc, e1]
      refine ⟨e0, rfl, A, c', rfl, ?_⟩
      obtain ⟨h1, h2, h3, h4, h5⟩ := e2
      refine ⟨h1, h2, h3, h4, fun h0 => ?_⟩
      obtain ⟨b', off', e, hb, hc'⟩ := h5 h0
      exact ⟨b', off', e, by omega, .inl (by omega), hc'⟩
end
section
variable {l : List Oper} {Q : Exit → Act → World → Prop} {md : Region.Mode} {S : World → Prop} {i : Nat} {σ : List Nat} {o : Oper} {listed : Array Bool} {a : Act} {w : World}
/-- In a region that draws its order: append(bytes, more...), where its turn comes alone. -/
theorem wpI_append_big (hi : nthOp l i = some o) (hr : Region.ready md l.toArray listed = [i]) (hgd : o.guard = none) (s x : Operand)
    (ho : o.op = .call { callee := .builtin .append, args := #[s, x], argTypes := #[45, 45] })
    (base : Nat) (v : Value) (n : Nat) (xs : List UInt8) (hs : a.eval s = v) (hown : w.ownsRow base 5 1 v n (vals xs))
    (B : Nat) (A : Option Addr) (m c : Nat) (news : List UInt8) (hx : a.eval x = .slice A m c) (hb : Bsl w B A m c news)
    (hnm : n + m ≤ 100000000000000) (hbase : base ≤ w.heap.size)
    (h : ∀ v' w', w'.ownsRow base 5 1 v' (n + m) (vals (xs ++ news)) → w.grownBy w' v.ownBlock → S w' ∧ wpI Tryz.prog md S l Q σ (listed.setIfInBounds i true) (a.put o.dst v') w') : wpI Tryz.prog md S l Q (i :: σ) listed a w :=
  wpI_lone hi hr fun K hK => by
    rw [if_pos (by simp [Region.wanted, hgd])]
    exact wp_append_big s x ho base v n xs hs hown B A m c news hx hb hnm hbase fun v' w' h1 h2 => hK _ _ (h v' w' h1 h2).1 (h v' w' h1 h2).2
/-- append(rows, s). -/
theorem wpI_append_brow (hi : nthOp l i = some o) (hr : Region.ready md l.toArray listed = [i]) (hgd : o.guard = none) (x y : Operand) (ho : o.op = .call { callee := .builtin .append, args := #[x, y], argTypes := #[22, 22] })
    (base : Nat) (v : Value) (bl : List (List UInt8)) (hx : a.eval x = v) (hrw : BRow w base v bl) (A : Option Addr) (c : Nat) (s : List UInt8) (b : Nat) (hy : a.eval y = .slice (some ⟨b, 0, none⟩) 1 1) (hb : Blk w b 45 #[.slice A s.length c]) (hs : BslO w base A s.length c s)
    (hn : bl.length ≤ 1000000) (hbase : base ≤ w.heap.size)
    (h : ∀ v' w', BRow w' base v' (bl ++ [s]) → w.grownBy w' v.ownBlock → (∀ g, v.ownBlock = some g → base ≤ g ∧ ∃ t cs, Blk w g t cs ∧ t = 45) → S w' ∧ wpI Tryz.prog md S l Q σ (listed.setIfInBounds i true) (a.put o.dst v') w') : wpI Tryz.prog md S l Q (i :: σ) listed a w :=
  wpI_lone hi hr fun K hK => by
    rw [if_pos (by simp [Region.wanted, hgd])]
    have hty : ∀ g, v.ownBlock = some g → base ≤ g ∧ ∃ t cs, Blk w g t cs ∧ t = 45 := by
      obtain ⟨xs, h1, _⟩ := hrw
      intro g hg
      obtain ⟨_, ⟨rfl, _⟩ | ⟨g', cap, cur, rfl, h2, h3, _⟩⟩ := h1
      · cases hg
      · cases hg
        exact ⟨h2, _, _, h3, rfl⟩
    exact wp_append_brow x y ho base v bl hx hrw A c s b hy hb hs hn hbase fun v' w' h1 h2 _ => hK _ _ (h v' w' h1 h2 hty).1 (h v' w' h1 h2 hty).2
/-- append(writes, more...). -/
theorem wpI_append_wrow (hi : nthOp l i = some o) (hr : Region.ready md l.toArray listed = [i]) (hgd : o.guard = none) (x y : Operand) (ho : o.op = .call { callee := .builtin .append, args := #[x, y], argTypes := #[23, 23] })
    (base : Nat) (v : Value) (ws : WrL) (hx : a.eval x = v) (hrw : WRow w base v ws) (ys : List Value) (ws' : WrL) (ad : Addr) (m c : Nat) (hy : a.eval y = .slice (some ad) m c) (hm : ws'.length = m) (hyl : ys.length = m * 2) (hcell : ∀ j u, ys[j]? = some u → w.cell? (ad.add j) = some u)
    (h3 : ∀ i, i < ws'.length → (Lit.int .i64 (wr_ ws' i).1).wf = true ∧ ys.getD (i * 2) undef = .int .i64 (wr_ ws' i).1 ∧ ∃ A c, ys.getD (i * 2 + 1) undef = .slice A (wr_ ws' i).2.length c ∧ BslO w base A (wr_ ws' i).2.length c (wr_ ws' i).2)
    (hn : ws.length + m ≤ 1000000) (hbase : base ≤ w.heap.size)
    (h : ∀ v' w', WRow w' base v' (ws ++ ws') → w.grownBy w' v.ownBlock → (∀ g, v.ownBlock = some g → base ≤ g ∧ ∃ t cs, Blk w g t cs ∧ t = 47) → S w' ∧ wpI Tryz.prog md S l Q σ (listed.setIfInBounds i true) (a.put o.dst v') w') : wpI Tryz.prog md S l Q (i :: σ) listed a w :=
  wpI_lone hi hr fun K hK => by
    rw [if_pos (by simp [Region.wanted, hgd])]
    have hty : ∀ g, v.ownBlock = some g → base ≤ g ∧ ∃ t cs, Blk w g t cs ∧ t = 47 := by
      obtain ⟨xs, h1, _⟩ := hrw
      intro g hg
      obtain ⟨_, ⟨rfl, _⟩ | ⟨g', cap, cur, rfl, h2, h3, _⟩⟩ := h1
      · cases hg
      · cases hg
        exact ⟨h2, _, _, h3, rfl⟩
    exact wp_append_wrow x y ho base v ws hx hrw ys ws' ad m c hy hm hyl hcell h3 hn hbase fun v' w' h1 h2 _ => hK _ _ (h v' w' h1 h2 hty).1 (h v' w' h1 h2 hty).2
/-- append(nil, bytes...), where its turn comes alone. -/
theorem wpS_append_new (hi : nthOp l i = some o) (hr : Region.ready md l.toArray listed = [i]) (hgd : o.guard = none) (s x : Operand)
    (ho : o.op = .call { callee := .builtin .append, args := #[s, x], argTypes := #[45, 45] }) (hs : a.eval s = .slice none 0 0)
    (B : Nat) (A : Option Addr) (m c : Nat) (news : List UInt8) (hx : a.eval x = .slice A m c) (hb : Bsl w B A m c news) (hm : m ≤ 100000000000000)
    (h : ∀ v' w', w'.ownsRow w.heap.size 5 1 v' m (vals news) → Below w.heap.size w w' → wpS Tryz.prog md l Q σ (listed.setIfInBounds i true) (a.put o.dst v') w') : wpS Tryz.prog md l Q (i :: σ) listed a w :=
  wpS_lone hi hr fun K hK => by
    rw [if_pos (by simp [Region.wanted, hgd])]
    refine wp_append_big s x ho w.heap.size (.slice none 0 0) 0 [] hs (own_nil w _) B A m c news hx hb (by omega) (Nat.le_refl _) fun v' w' h1 h2 => ?_
    have b2 : Below w.heap.size w w' := ⟨h2.os, h2.tape, h2.output, h2.size, fun i hi => h2.block i hi (by simp [Value.ownBlock])⟩
    rw [Nat.zero_add, List.nil_append] at h1
    exact hK _ _ (Stays.of_below b2) (h v' w' h1 b2)
end
end Go.Proofs.YtldnelimemjaiaaGreatDoor
/-
  slices.Grow of nil, and slices.Concat of slices of writes: a row of the call's own that holds them all, one behind the other.
-/
namespace Go.Proofs.YtldnelimemjaiaaGreatDoor
open Go.RowKit Go.Shelf
set_option maxRecDepth 100000

set_option maxHeartbeats 1000000 in
theorem dGrow_any (n : Nat) (h0 : 0 < n) (hn : n ≤ 1000000) (w : World) : Calls Tryz.prog 58 #[.slice none 0 0, .int .i64 n] w fun e w' => ∃ v, e = .returned v ∧ WRow w' w.heap.size v [] ∧ Below w.heap.size w w' := by
  obtain ⟨i0, hi, hz0, hz1, hz2⟩ := info_parts infoWri
  have hr : ∀ ty, (Builtin.append_ #[23, 3] ty #[.slice none 0 0, .int .i64 n]).run Tryz.prog w =
      .ok (.slice (some ⟨w.heap.size, 0, none⟩) n (grownCap w n 0 47)) (w.drew.alloc (.cells (Builtin.zeroCells (Value.agg #[.int .i64 0, .slice none 0 0]).cells n ++ Builtin.zeroCells (Value.agg #[.int .i64 0, .slice none 0 0]).cells (grownCap w n 0 47 - n)) 47)) := fun ty =>
    Lib.run_append_nil_zeros w 23 3 ty 47 i0 (.agg #[.int .i64 0, .slice none 0 0]) .i64 .i64 Tryz.underlying23 Tryz.underlying3 hi hz0 n h0 (by omega) (by omega) (by rw [hz2]; omega)
  have hG1 : n ≤ grownCap w n 0 47 := grownCap_ge w _ _ _
  have hG2 : grownCap w n 0 47 ≤ maxLen := grownCap_le_maxLen w n 0 47 (by unfold maxLen; omega)
  obtain ⟨G, hG⟩ : ∃ G, grownCap w n 0 47 = G := ⟨_, rfl⟩
  rw [hG] at hr hG1 hG2
  obtain ⟨cs, hcs⟩ : ∃ cs, Builtin.zeroCells (Value.agg #[.int .i64 0, .slice none 0 0]).cells n ++ Builtin.zeroCells (Value.agg #[.int .i64 0, .slice none 0 0]).cells (G - n) = cs := ⟨_, rfl⟩
  have hsz : cs.size = G * 2 := by
    rw [← hcs]
    simp [Builtin.zeroCells, Value.cells]
    omega
  rw [hcs] at hr
  have z5 : ∀ w, (Go.sizeOf 47).run Tryz.prog w = .ok 2 w := fun w => by kernel_rfl
  have n1 : ¬ ((n : Int) < 0) := by omega
  have n2 : (0 : Int) < n := by omega
  have n3 : (n : Int) ≤ 1000000 := by omega
  have g0 : (G : Int) ≤ 9223372036854775807 := by unfold maxLen at hG2; omega
  have hown : (w.drew.alloc (.cells cs 47)).ownsRow w.heap.size 47 2 (.slice (some ⟨w.heap.size, 0, none⟩) 0 G) 0 [] :=
    ⟨rfl, .inr ⟨w.heap.size, G, cs, rfl, Nat.le_refl _, by have := heap_alloc_new w.drew (.cells cs 47); simpa using this, Nat.zero_le _, hG2, by omega, by simp⟩⟩
  have hrow : WRow (w.drew.alloc (.cells cs 47)) w.heap.size (.slice (some ⟨w.heap.size, 0, none⟩) 0 G) [] := ⟨[], hown, fun i h => absurd h (Nat.not_lt_zero _)⟩
  have hbel : Below w.heap.size w (w.drew.alloc (.cells cs 47)) := (Below.refl _ w).drew.alloc (by simp) _
  have HO := Lib.hid hrow; clear hown hrow
  have HB := Lib.hid hbel; clear hbel
  have HG2 := Lib.hid hG2; clear hG2
  clear hG hcs hsz hi hz0 hz1 hz2
  go_enter Tryz.func58, Tryz.ntmps58
  go_wp2_with (at_builtin; refine Lib.wpList_append_run _ rfl _ _ _ _ rfl _ _ rfl rfl _ _ (hr _) ?_)
  go_ret
  exact ⟨_, rfl, HO.out, HB.out⟩

/-- A slice of writes as it is handed in. -/
structure WPart where
  a : Option Addr
  len : Nat
  cap : Nat
  ws : WrL
def flatW (ps : List WPart) : WrL := ps.flatMap (·.ws)
theorem flatW_take_succ (ps : List WPart) (k : Nat) (h : k < ps.length) : flatW (ps.take (k + 1)) = flatW (ps.take k) ++ (ps[k]).ws := by
  unfold flatW
  rw [List.take_succ_eq_append_getElem h, List.flatMap_append]
  simp
theorem flatW_take_le (ps : List WPart) (k : Nat) : (flatW (ps.take k)).length ≤ (flatW ps).length := by
  have : flatW ps = flatW (ps.take k) ++ flatW (ps.drop k) := by
    unfold flatW
    rw [← List.flatMap_append, List.take_append_drop]
  rw [this, List.length_append]
  omega
/-- A row of the call's own that holds ws. -/
def WOwn (ws : WrL) (w : World) (e : Ending) (w' : World) : Prop := ∃ v, e = .returned v ∧ WRow w' w.heap.size v ws ∧ Below w.heap.size w w'
set_option maxHeartbeats 2000000 in
theorem dConcat_any (r c : Nat) (ps : List WPart) (w : World) (hr : r < w.heap.size) (hl : ps.length ≤ 1000)
    (hcell : ∀ i (h : i < ps.length), w.cell? ⟨r, i, none⟩ = some (.slice (ps[i]).a (ps[i]).len (ps[i]).cap)) (hb : ∀ i (h : i < ps.length), Wts w w.heap.size (ps[i]).a (ps[i]).len (ps[i]).cap (ps[i]).ws)
    (h0 : 0 < (flatW ps).length) (hm : (flatW ps).length ≤ 1000000) :
    Calls Tryz.prog 31 #[.slice (some ⟨r, 0, none⟩) ps.length c] w (WOwn (flatW ps) w) := by
  obtain ⟨n, hn⟩ : ∃ n, ps.length = n := ⟨_, rfl⟩
  have HN := Lib.hid hn
  rw [hn] at hl ⊢
  clear hn
  have n0 : (0 : Int) ≤ n := by omega
  have n1 : (n : Int) ≤ 1000 := by omega
  have HC := Lib.hid hcell; clear hcell
  have HB := Lib.hid hb; clear hb
  have HM := Lib.hid hm; clear hm
  have H0 := Lib.hid h0; clear h0
  go_enter Tryz.func31, Tryz.ntmps31
  go_wp2_with fail
  go_loop [3, 11] (fun z i => ∃ k : Nat, k ≤ n ∧ i = .int .i64 k ∧ z = .int .i64 ((flatW (ps.take k)).length : Nat)) (fun _ i => n - (intOf i).toNat)
  case atStart => exact ⟨0, Nat.zero_le _, rfl, rfl⟩
  case round =>
    obtain ⟨k, hk, rfl, rfl⟩ := hrel
    by_cases hlt : k < n
    · have hkp : k < ps.length := by rw [HN.out]; exact hlt
      have hce := HC.out k hkp
      have hbe := (HB.out k hkp).1
      have hsu := flatW_take_succ ps k hkp
      have hle := flatW_take_le ps (k + 1)
      rw [hsu, List.length_append, hbe] at hle
      have hsl : (flatW (ps.take (k + 1))).length = (flatW (ps.take k)).length + (ps[k]).len := by rw [hsu, List.length_append, hbe]
      obtain ⟨p, hp⟩ : ∃ p, ps[k] = p := ⟨_, rfl⟩
      rw [hp] at hce hle hsl
      obtain ⟨m, hm⟩ : ∃ m, (flatW (ps.take k)).length = m := ⟨_, rfl⟩
      rw [hm] at hle hsl ⊢
      obtain ⟨pa, pl, pc, pss⟩ := p
      dsimp only at hce hle hsl
      have hmm := HM.out
      have m0 : (0 : Int) ≤ (m : Int) := by omega
      have m1 : (m : Int) + (pl : Int) ≤ 1000000 := by omega
      have m2 : (0 : Int) ≤ (pl : Int) := by omega
      have m3 : ¬ ((m : Int) + (pl : Int) < 0) := by omega
      have k0 : (k : Int) < n := by omega
      have HSL := Lib.hid hsl; clear hsl
      clear hp hm hsu hbe hle hmm
      go_wp2_with fail
      go_round
      case rel => exact ⟨k + 1, by omega, by go_num, by rw [HSL.out]; go_num⟩
      case measure => simp [intOf]; omega
    · obtain rfl : k = n := by omega
      have ht : ps.take k = ps := List.take_of_length_le (by rw [HN.out]; exact Nat.le_refl _)
      rw [ht]
      obtain ⟨m, hm⟩ : ∃ m, (flatW ps).length = m := ⟨_, rfl⟩
      have gr := dGrow_any m (by rw [← hm]; exact H0.out) (by rw [← hm]; exact HM.out) w
      rw [hm]
      have GR := Lib.hid gr; clear gr
      clear hm ht
      go_wp2_with fail
      refine GR.out.mono ?_
      rintro e w1 ⟨v, rfl, ho, b1⟩
      have HO := Lib.hid ho; clear ho
      have HB1 := Lib.hid b1; clear b1
      go_wp2_with fail
      go_loopw [6, 27] (fun v i wr => ∃ j : Nat, j ≤ k ∧ i = .int .i64 j ∧ WRow wr w.heap.size v (flatW (ps.take j)) ∧ Below w.heap.size w wr) (fun _ i _ => k - (intOf i).toNat)
      case atStart => exact ⟨0, Nat.zero_le _, rfl, HO.out, HB1.out⟩
      case round =>
        obtain ⟨j, hj, rfl, ho2, hb2⟩ := hrel
        by_cases hlt2 : j < k
        · have hkp : j < ps.length := by rw [HN.out]; exact hlt2
          have hce := (hb2.cell (p := ⟨r, j, none⟩) hr).trans (HC.out j hkp)
          have hbs := (HB.out j hkp).below hb2
          have hbe := (HB.out j hkp).1
          have hsu := flatW_take_succ ps j hkp
          have hle := flatW_take_le ps (j + 1)
          rw [hsu, List.length_append, hbe] at hle
          obtain ⟨p, hp⟩ : ∃ p, ps[j] = p := ⟨_, rfl⟩
          rw [hp] at hce hle hsu hbs hbe
          obtain ⟨t, ht⟩ : ∃ t, flatW (ps.take j) = t := ⟨_, rfl⟩
          rw [ht] at hle hsu ho2
          obtain ⟨pa, pl, pc, pss⟩ := p
          dsimp only at hce hle hsu hbs hbe
          have hmm := HM.out
          have k0 : (j : Int) < k := by omega
          have hnm : t.length + pl ≤ 1000000 := by omega
          have HSU := Lib.hid hsu; clear hsu
          have HO2 := Lib.hid ho2; clear ho2
          have HB2 := Lib.hid hb2; clear hb2
          have HBS := Lib.hid hbs; clear hbs
          clear hp ht hle hmm hbe
          go_wp2_with (at_builtin; refine wpList_append_wrow rfl (.tmp 31) (.tmp 32) rfl w.heap.size u6 t rfl HO2.out w.heap.size pa pl pc pss rfl HBS.out (Nat.le_refl _) hnm HB2.out.size ?_; intro v' W3 hown' hg' hrow')
          have hb3 : Below w.heap.size w W3 := HB2.out.grown hg' HB2.out.size (fun k e => (hrow' k e).1)
          have HO3 := Lib.hid hown'; clear hown'
          have HB3 := Lib.hid hb3; clear hb3 hg' hrow'
          go_wp2_with fail
          go_roundw
          case rel => exact ⟨j + 1, by omega, by go_num, by rw [HSU.out]; exact HO3.out, HB3.out⟩
          case measure => simp [intOf]; omega
        · obtain rfl : j = k := by omega
          have ht : ps.take j = ps := List.take_of_length_le (by rw [HN.out]; exact Nat.le_refl _)
          rw [ht] at ho2
          have HO2 := Lib.hid ho2
          have HB2 := Lib.hid hb2; clear hb2
          clear ho2 ht
          go_wp2_with fail
          go_ret
          exact ⟨_, rfl, HO2.out, HB2.out⟩
end Go.Proofs.YtldnelimemjaiaaGreatDoor
/-
  dev.settled of a disk that may be answers what the writes leave whose mark is true, laid in one new piece.
-/
namespace Go.Proofs.YtldnelimemjaiaaGreatDoor
open Go.RowKit Go.Shelf
set_option maxRecDepth 100000

/-- A row of one's own whose first k cells are lists below block B that read as f tells. -/
def RowsI (B : Nat) (f : Nat → List UInt8) (hb n k : Nat) (w : World) : Prop := ∃ cb, Blk w hb 45 cb ∧ cb.size = n ∧ ∀ i, i < k → ∃ A c, cb[i]? = some (.slice A (f i).length c) ∧ Bsl w B A (f i).length c (f i)
theorem RowsI.below {B : Nat} {f : Nat → List UInt8} {hb n k : Nat} {w w' : World} (h : RowsI B f hb n k w) (hB : B ≤ w.heap.size) (hw : Below w.heap.size w w') : RowsI B f hb n k w' := by
  obtain ⟨cb, h1, h2, h3⟩ := h
  refine ⟨cb, h1.below hw h1.lt, h2, fun i hi => ?_⟩
  obtain ⟨A, c, h4, h5⟩ := h3 i hi
  exact ⟨A, c, h4, h5.below (hw.mono hB)⟩
theorem RowsI.put {B : Nat} {f : Nat → List UInt8} {hb n k : Nat} {w : World} (h : RowsI B f hb n k w) (hB : B ≤ hb) (hk : k < n) {A : Option Addr} {c : Nat} (hs : Bsl w B A (f k).length c (f k)) : RowsI B f hb n (k + 1) (w.setCell ⟨hb, k, none⟩ (.slice A (f k).length c)) := by
  obtain ⟨cb, h1, h2, h3⟩ := h
  have hb' : Below B w (w.setCell ⟨hb, k, none⟩ (.slice A (f k).length c)) := (Below.refl B w).setCell (p := ⟨hb, k, none⟩) hB _
  refine ⟨_, h1.set_ k _, by simpa using h2, fun i hi => ?_⟩
  rcases Nat.lt_or_ge i k with h9 | h9
  · obtain ⟨A', c', h4, h5⟩ := h3 i h9
    exact ⟨A', c', by rw [Array.getElem?_setIfInBounds, if_neg (by omega)]; exact h4, h5.below hb'⟩
  · obtain rfl : i = k := by omega
    exact ⟨A, c, by rw [Array.getElem?_setIfInBounds, if_pos rfl, if_pos (by omega)], hs.below hb'⟩
theorem RowsI.bls {B : Nat} {f : Nat → List UInt8} {hb n : Nat} {w : World} (h : RowsI B f hb n n w) (hB : B ≤ w.heap.size) (hn : n ≤ 1000000) : Bls w w.heap.size (some ⟨hb, 0, none⟩) n n ((List.range n).map f) := by
  obtain ⟨cb, h1, h2, h3⟩ := h
  refine ⟨by simp, Nat.le_refl _, by unfold maxLen; omega, fun h0 => ⟨hb, 0, rfl, h1.lt, fun i hi => ?_⟩⟩
  obtain ⟨A, c, h4, h5⟩ := h3 i hi
  have e : ((List.range n).map f).getD i [] = f i := by simp [List.getD_eq_getElem?_getD, hi]
  rw [e]
  exact ⟨A, c, by rw [Nat.zero_add, h1.cell, h4], h5.more hB⟩
end Go.Proofs.YtldnelimemjaiaaGreatDoor
/-
  dev.Check, Flush, Crash, Twin: what they answer, whatever disk they are handed.
-/
namespace Go.Proofs.YtldnelimemjaiaaGreatDoor
open Go.RowKit Go.Shelf
set_option maxRecDepth 100000

/-- A disk that is answered: none, or one laid in a new piece. -/
def OutD (w : World) (lo : Nat) (x : DAt) (D : DkL) : Prop := (x = ⟨none, 0, none, 0⟩ ∧ D = ([], [])) ∨ Laid w lo x D
theorem OutD.dsk {w : World} {lo : Nat} {x : DAt} {D : DkL} (h : OutD w lo x D) : Dsk w w.heap.size x D := by
  rcases h with ⟨rfl, rfl⟩ | h
  · exact ⟨bls_nil _ _, wts_nil _ _⟩
  · exact h.dsk
theorem OutD.below {w w' : World} {lo : Nat} {x : DAt} {D : DkL} (h : OutD w lo x D) (hb : Below w.heap.size w w') : OutD w' lo x D := h.imp id fun h => h.below hb
theorem OutD.lower {w : World} {lo lo' : Nat} {x : DAt} {D : DkL} (h : OutD w lo x D) (hl : lo' ≤ lo) : OutD w lo' x D := h.imp id fun h => h.lower hl
/-- A disk and an error's number. -/
def ToldD (o : DkL × Int) (w : World) (e : Ending) (w' : World) : Prop := ∃ x', e = .returned (.tuple #[dval x' o.1, .int .i64 o.2]) ∧ OutD w' w.heap.size x' o.1 ∧ Below w.heap.size w w'
/-- An error, and no disk. -/
theorem toldD_no {c : Int} {w : World} {e : Ending} {w' : World} (he : e = .returned (.tuple #[.agg #[.slice none 0 0, .slice none 0 0], .int .i64 c])) (hb : Below w.heap.size w w') : ToldD (([], []), c) w e w' := ⟨⟨none, 0, none, 0⟩, he, .inl ⟨rfl, rfl⟩, hb⟩
def flushO (D : DkL) : DkL × Int := if MayD D then (keptD D (fun _ => true), 0) else (([], []), 8)
def crashO (D : DkL) (ks : List Bool) : DkL × Int := if MayD D then (if ks.length = D.2.length then (keptD D (fun i => ks.getD i false), 0) else (([], []), 2)) else (([], []), 8)
def checkO (D : DkL) : Int := if MayD D then 0 else 8
theorem dCheck_any (x : DAt) (D : DkL) (w : World) (h : Dsk w w.heap.size x D) : Calls Tryz.prog 13 #[dval x D] w fun e w' => e = .returned (.int .i64 (checkO D)) ∧ Below w.heap.size w w' := by
  have b0 := (Below.refl w.heap.size w).alloc (Nat.le_refl _) (.cells #[.slice x.ba D.1.length x.bc, .slice x.wa D.2.length x.wc] 25)
  have h0 := h.step b0
  unfold checkO
  by_cases hm : MayD D
  · rw [if_pos hm]
    have HC := Lib.hid (dMay_yes x D _ h0 hm)
    simp only [dval] at HC ⊢
    have HB := Lib.hid b0
    clear b0 h0 h hm
    go_enter Tryz.func13, Tryz.ntmps13
    go_wp2_with fail
    refine HC.out.mono ?_
    rintro e w1 ⟨rfl, b1⟩
    have HB1 := Lib.hid (HB.out.trans (b1.mono HB.out.size))
    clear b1
    go_wp2_with fail
    go_ret
    exact ⟨rfl, HB1.out⟩
  · rw [if_neg hm]
    have HC := Lib.hid (dMay_no x D _ h0 hm)
    simp only [dval] at HC ⊢
    have HB := Lib.hid b0
    clear b0 h0 h hm
    go_enter Tryz.func13, Tryz.ntmps13
    go_wp2_with fail
    refine HC.out.mono ?_
    rintro e w1 ⟨rfl, b1⟩
    have HB1 := Lib.hid (HB.out.trans (b1.mono HB.out.size))
    clear b1
    go_wp2_with fail
    go_ret
    exact ⟨rfl, HB1.out⟩
/-- Boxed, and room for the answer. -/
theorem two_boxes (w : World) (u v : Value) : ∃ w0, (w.alloc (.cells #[u, v] 25)).alloc (.cells #[.slice none 0 0, .slice none 0 0] 25) = w0 ∧ Below w.heap.size w w0 ∧ w0.heap.size = w.heap.size + 2 ∧ Blk w0 w.heap.size 25 #[u, v] ∧ Blk w0 (w.heap.size + 1) 25 #[.slice none 0 0, .slice none 0 0] := by
  refine ⟨_, rfl, ((Below.refl _ w).alloc (Nat.le_refl _) _).alloc (by simp) _, by simp, (Blk.new w _ _).alloc _, ?_⟩
  have := Blk.new (w.alloc (.cells #[u, v] 25)) 25 #[.slice none 0 0, .slice none 0 0]
  rw [World.size_alloc] at this
  exact this
theorem three_boxes (w : World) (u v k : Value) : ∃ w0, ((w.alloc (.cells #[u, v] 25)).alloc (.cells #[k] 132)).alloc (.cells #[.slice none 0 0, .slice none 0 0] 25) = w0 ∧ Below w.heap.size w w0 ∧ w0.heap.size = w.heap.size + 3 ∧ Blk w0 w.heap.size 25 #[u, v] ∧ Blk w0 (w.heap.size + 1) 132 #[k] ∧ Blk w0 (w.heap.size + 2) 25 #[.slice none 0 0, .slice none 0 0] :=
  ⟨_, rfl, below_alloc3' w _ _ _, by simp, blk3_0 w _ _ _ _, blk3_1 w _ _ _ _, blk3_2 w _ _ _ _⟩
end Go.Proofs.YtldnelimemjaiaaGreatDoor
/-
  dev.Write: what it answers, whatever disk, place and bytes it is handed.
-/
namespace Go.Proofs.YtldnelimemjaiaaGreatDoor
open Go.RowKit Go.Shelf
set_option maxRecDepth 100000

/-- A disk on which one more write waits. -/
def withD (D : DkL) (p : Int) (s : List UInt8) : DkL := (D.1, D.2 ++ [(p, s)])
def writeO (D : DkL) (p : Int) (s : List UInt8) : DkL × Int :=
  if MayD D then (if 0 ≤ p ∧ p < 256 then (if s.length = 256 then (if D.2.length = 4096 then (([], []), 9) else (withD D p s, 0)) else (([], []), 3)) else (([], []), 2)) else (([], []), 8)
theorem wr_with (ws : WrL) (p : Int) (s : List UInt8) : (∀ i, i < ws.length → wr_ (ws ++ [(p, s)]) i = wr_ ws i) ∧ wr_ (ws ++ [(p, s)]) ws.length = (p, s) := by
  unfold wr_
  refine ⟨fun i hi => ?_, ?_⟩
  · rw [List.getD_eq_getElem?_getD, List.getElem?_append_left hi, ← List.getD_eq_getElem?_getD]
  · rw [List.getD_eq_getElem?_getD, List.getElem?_append_right (Nat.le_refl _), Nat.sub_self]
    rfl
theorem sumW_congr {a b : WrL} : ∀ {n : Nat}, (∀ i, i < n → wr_ a i = wr_ b i) → sumW a n = sumW b n
  | 0, _ => rfl
  | n + 1, h => by
    unfold sumW
    rw [sumW_congr (fun i hi => h i (by omega)), h n (by omega)]
theorem with_may {D : DkL} {p : Int} {s : List UInt8} (h : MayD D) (hp : 0 ≤ p ∧ p < 256) (hs : s.length = 256) (hn : D.2.length ≠ 4096) : MayD (withD D p s) := by
  obtain ⟨h1, h2, h3⟩ := h
  obtain ⟨e1, e2⟩ := wr_with D.2 p s
  refine ⟨h1, by show (D.2 ++ [(p, s)]).length ≤ 4096; rw [List.length_append]; simp; omega, fun i hi => ?_⟩
  have hi' : i < D.2.length + 1 := by have : i < (D.2 ++ [(p, s)]).length := hi; rwa [List.length_append] at this
  show (0 ≤ (wr_ (D.2 ++ [(p, s)]) i).1 ∧ (wr_ (D.2 ++ [(p, s)]) i).1 < 256) ∧ (wr_ (D.2 ++ [(p, s)]) i).2.length = 256
  rcases Nat.lt_or_ge i D.2.length with h4 | h4
  · rw [e1 i h4]
    exact h3 i h4
  · obtain rfl : i = D.2.length := by omega
    rw [e2]
    exact ⟨hp, hs⟩
def WriteGoes (D : DkL) (p : Int) (s : List UInt8) : Prop := MayD D ∧ (0 ≤ p ∧ p < 256) ∧ s.length = 256 ∧ D.2.length ≠ 4096
/-- The ways that are refused. -/
theorem dWrite_no (x : DAt) (D : DkL) (p : Int) (a : Option Addr) (n c : Nat) (s : List UInt8) (w : World) (h : Dsk w w.heap.size x D) (hs : Bsl w w.heap.size a n c s) (hno : ¬ WriteGoes D p s) : Calls Tryz.prog 15 #[dval x D, .int .i64 p, .slice a n c] w (ToldD (writeO D p s) w) := by
  obtain ⟨w0, hw0, b0, z0, x0, x1⟩ := two_boxes w (.slice x.ba D.1.length x.bc) (.slice x.wa D.2.length x.wc)
  have h0 := h.step b0
  have c0 := x0.cell 0
  have c1 := x0.cell 1
  have HX0 := Lib.hid x0
  have HX1 := Lib.hid x1
  have HB := Lib.hid b0
  have hbk := dIsBlock_any p
  have hlg := dIsLong_any a n c
  have hsl := hs.1
  unfold writeO
  by_cases hm : MayD D
  · rw [if_pos hm]
    have HC := Lib.hid (dMay_yes x D _ h0 hm)
    simp only [dval] at HC ⊢
    by_cases hp : 0 ≤ p ∧ p < 256
    · rw [if_pos hp]
      simp only [decide_eq_true hp] at hbk
      have HBK := Lib.hid hbk
      by_cases hl : s.length = 256
      · have hf4 : D.2.length = 4096 := Classical.byContradiction fun hh => hno ⟨hm, hp, hl, hh⟩
        rw [if_pos hl, if_pos hf4]
        have hn : n = 256 := by omega
        simp only [decide_eq_true hn] at hlg
        have HLG := Lib.hid hlg
        rw [hf4] at hw0 HX0 c1 HC ⊢
        clear b0 h0 h hm x0 x1 z0 hbk hlg hno hp hl hsl hs hf4 hn
        go_enter Tryz.func15, Tryz.ntmps15
        go_wp2_with fail
        clear hw0 c0 c1
        refine HC.out.mono ?_
        rintro e w1 ⟨rfl, b1⟩
        have HX01 := Lib.hid (HX0.out.below b1 HX0.out.lt)
        have HY := Lib.hid (HX1.out.below b1 HX1.out.lt)
        have HB1 := Lib.hid (HB.out.trans (b1.mono HB.out.size))
        clear b1
        go_wp2_with fail
        refine (HBK.out _).mono ?_
        rintro e w1' ⟨rfl, rfl⟩
        go_wp2_with fail
        refine (HLG.out _).mono ?_
        rintro e w1' ⟨rfl, rfl⟩
        have c1 := HX01.out.cell 1
        have d0 := HY.out.cell 0
        have d1 := HY.out.cell 1
        have hf := fun i => HY.out.frozen i
        go_wp2_with fail
        clear c1
        have hBF := (HB1.out.setCell (p := ⟨w.heap.size + 1, 0, none⟩) (Nat.le_add_right _ _) (.slice none 0 0)).setCell (p := ⟨w.heap.size + 1, 1, none⟩) (Nat.le_add_right _ _) (.slice none 0 0)
        have hXF := (HY.out.set_ 0 (.slice none 0 0)).set_ 1 (.slice none 0 0)
        obtain ⟨wf, hwf⟩ : ∃ wf, ((w1.setCell ⟨w.heap.size + 1, 0, none⟩ (.slice none 0 0)).setCell ⟨w.heap.size + 1, 1, none⟩ (.slice none 0 0)) = wf := ⟨_, rfl⟩
        rw [hwf] at hBF hXF ⊢
        clear hwf d0 d1 hf
        have e0 := hXF.cell 0
        have e1 := hXF.cell 1
        exact bodyPost_ret (v := .tuple #[.agg #[.slice none 0 0, .slice none 0 0], .int .i64 9]) (by simp [results, Tryz.f15, go_sem, e0, e1]) rfl (toldD_no rfl hBF)
      · rw [if_neg hl]
        have hn : n ≠ 256 := by omega
        simp only [decide_eq_false hn] at hlg
        have HLG := Lib.hid hlg
        clear b0 h0 h hm x0 x1 z0 hbk hlg hno hp hl hsl hs hn
        go_enter Tryz.func15, Tryz.ntmps15
        go_wp2_with fail
        clear hw0 c0 c1
        refine HC.out.mono ?_
        rintro e w1 ⟨rfl, b1⟩
        have HX01 := Lib.hid (HX0.out.below b1 HX0.out.lt)
        have HY := Lib.hid (HX1.out.below b1 HX1.out.lt)
        have HB1 := Lib.hid (HB.out.trans (b1.mono HB.out.size))
        clear b1
        go_wp2_with fail
        refine (HBK.out _).mono ?_
        rintro e w1' ⟨rfl, rfl⟩
        go_wp2_with fail
        refine (HLG.out _).mono ?_
        rintro e w1' ⟨rfl, rfl⟩
        have c1 := HX01.out.cell 1
        have d0 := HY.out.cell 0
        have d1 := HY.out.cell 1
        have hf := fun i => HY.out.frozen i
        go_wp2_with fail
        clear c1
        have hBF := (HB1.out.setCell (p := ⟨w.heap.size + 1, 0, none⟩) (Nat.le_add_right _ _) (.slice none 0 0)).setCell (p := ⟨w.heap.size + 1, 1, none⟩) (Nat.le_add_right _ _) (.slice none 0 0)
        have hXF := (HY.out.set_ 0 (.slice none 0 0)).set_ 1 (.slice none 0 0)
        obtain ⟨wf, hwf⟩ : ∃ wf, ((w1.setCell ⟨w.heap.size + 1, 0, none⟩ (.slice none 0 0)).setCell ⟨w.heap.size + 1, 1, none⟩ (.slice none 0 0)) = wf := ⟨_, rfl⟩
        rw [hwf] at hBF hXF ⊢
        clear hwf d0 d1 hf
        have e0 := hXF.cell 0
        have e1 := hXF.cell 1
        exact bodyPost_ret (v := .tuple #[.agg #[.slice none 0 0, .slice none 0 0], .int .i64 3]) (by simp [results, Tryz.f15, go_sem, e0, e1]) rfl (toldD_no rfl hBF)
    · rw [if_neg hp]
      simp only [decide_eq_false hp] at hbk
      have HBK := Lib.hid hbk
      clear b0 h0 h hm x0 x1 z0 hbk hlg hno hp hsl hs
      go_enter Tryz.func15, Tryz.ntmps15
      go_wp2_with fail
      clear hw0 c0 c1
      refine HC.out.mono ?_
      rintro e w1 ⟨rfl, b1⟩
      have HX01 := Lib.hid (HX0.out.below b1 HX0.out.lt)
      have HY := Lib.hid (HX1.out.below b1 HX1.out.lt)
      have HB1 := Lib.hid (HB.out.trans (b1.mono HB.out.size))
      clear b1
      go_wp2_with fail
      refine (HBK.out _).mono ?_
      rintro e w1' ⟨rfl, rfl⟩
      have c1 := HX01.out.cell 1
      have d0 := HY.out.cell 0
      have d1 := HY.out.cell 1
      have hf := fun i => HY.out.frozen i
      go_wp2_with fail
      clear c1
      have hBF := (HB1.out.setCell (p := ⟨w.heap.size + 1, 0, none⟩) (Nat.le_add_right _ _) (.slice none 0 0)).setCell (p := ⟨w.heap.size + 1, 1, none⟩) (Nat.le_add_right _ _) (.slice none 0 0)
      have hXF := (HY.out.set_ 0 (.slice none 0 0)).set_ 1 (.slice none 0 0)
      obtain ⟨wf, hwf⟩ : ∃ wf, ((w1.setCell ⟨w.heap.size + 1, 0, none⟩ (.slice none 0 0)).setCell ⟨w.heap.size + 1, 1, none⟩ (.slice none 0 0)) = wf := ⟨_, rfl⟩
      rw [hwf] at hBF hXF ⊢
      clear hwf d0 d1 hf
      have e0 := hXF.cell 0
      have e1 := hXF.cell 1
      exact bodyPost_ret (v := .tuple #[.agg #[.slice none 0 0, .slice none 0 0], .int .i64 2]) (by simp [results, Tryz.f15, go_sem, e0, e1]) rfl (toldD_no rfl hBF)
  · rw [if_neg hm]
    have HC := Lib.hid (dMay_no x D _ h0 hm)
    simp only [dval] at HC ⊢
    clear b0 h0 h hm x0 x1 z0 hbk hlg hno hsl hs
    go_enter Tryz.func15, Tryz.ntmps15
    go_wp2_with fail
    clear hw0 c0 c1
    refine HC.out.mono ?_
    rintro e w1 ⟨rfl, b1⟩
    have HX01 := Lib.hid (HX0.out.below b1 HX0.out.lt)
    have HY := Lib.hid (HX1.out.below b1 HX1.out.lt)
    have HB1 := Lib.hid (HB.out.trans (b1.mono HB.out.size))
    clear b1
    have c1 := HX01.out.cell 1
    have d0 := HY.out.cell 0
    have d1 := HY.out.cell 1
    have hf := fun i => HY.out.frozen i
    go_wp2_with fail
    clear c1
    have hBF := (HB1.out.setCell (p := ⟨w.heap.size + 1, 0, none⟩) (Nat.le_add_right _ _) (.slice none 0 0)).setCell (p := ⟨w.heap.size + 1, 1, none⟩) (Nat.le_add_right _ _) (.slice none 0 0)
    have hXF := (HY.out.set_ 0 (.slice none 0 0)).set_ 1 (.slice none 0 0)
    obtain ⟨wf, hwf⟩ : ∃ wf, ((w1.setCell ⟨w.heap.size + 1, 0, none⟩ (.slice none 0 0)).setCell ⟨w.heap.size + 1, 1, none⟩ (.slice none 0 0)) = wf := ⟨_, rfl⟩
    rw [hwf] at hBF hXF ⊢
    clear hwf d0 d1 hf
    have e0 := hXF.cell 0
    have e1 := hXF.cell 1
    exact bodyPost_ret (v := .tuple #[.agg #[.slice none 0 0, .slice none 0 0], .int .i64 8]) (by simp [results, Tryz.f15, go_sem, e0, e1]) rfl (toldD_no rfl hBF)
set_option maxHeartbeats 4000000 in
theorem dWrite_yes (x : DAt) (D : DkL) (p : Int) (a : Option Addr) (c : Nat) (s : List UInt8) (w : World) (h : Dsk w w.heap.size x D) (hs : Bsl w w.heap.size a 256 c s) (hm : MayD D) (hp : 0 ≤ p ∧ p < 256) (hn : D.2.length ≠ 4096) : Calls Tryz.prog 15 #[dval x D, .int .i64 p, .slice a 256 c] w (ToldD (withD D p s, 0) w) := by
  obtain ⟨w0, hw0, b0, z0, x0, x1⟩ := two_boxes w (.slice x.ba D.1.length x.bc) (.slice x.wa D.2.length x.wc)
  have h0 := h.step b0
  have c0 := x0.cell 0
  have c1 := x0.cell 1
  have HX0 := Lib.hid x0
  have HX1 := Lib.hid x1
  have HB := Lib.hid b0
  have HZ := Lib.hid z0
  have HD := Lib.hid h0
  have HS0 := Lib.hid (hs.step b0)
  have HC := Lib.hid (dMay_yes x D _ h0 hm)
  have hbk := dIsBlock_any p
  simp only [decide_eq_true hp] at hbk
  have HBK := Lib.hid hbk
  have hlg := dIsLong_any a 256 c
  have HLG : Hid (∀ W, Calls Tryz.prog 30 #[.slice a 256 c] W fun e w' => e = .returned (.bool true) ∧ W = w') := Lib.hid hlg
  have HM := Lib.hid hm
  have HF := Lib.hid (may_fits (with_may hm hp hs.1 hn))
  obtain ⟨m, hm2⟩ : ∃ m, D.2.length = m := ⟨_, rfl⟩
  have m0 : m < 4096 := by have := hm.2.1; omega
  have m1 : ((m : Int) == 4096) = false := by simp; omega
  have HM2 := Lib.hid hm2
  have HP := Lib.hid hp
  simp only [dval] at HC ⊢
  rw [hm2] at HX0 hw0 c1 HC ⊢
  clear b0 h0 h hm x0 x1 z0 hbk hlg hs hn hp
  go_enter Tryz.func15, Tryz.ntmps15
  go_wp2_with fail
  clear hw0 c0 c1 hm2
  refine HC.out.mono ?_
  rintro e w1 ⟨rfl, b1⟩
  have x01 := HX0.out.below b1 HX0.out.lt
  have c0 := x01.cell 0
  have c1 := x01.cell 1
  have HX01 := Lib.hid x01
  have HX11 := Lib.hid (HX1.out.below b1 HX1.out.lt)
  have HB1 := Lib.hid (HB.out.trans (b1.mono HB.out.size))
  have HZ1 := Lib.hid (show w.heap.size + 2 ≤ w1.heap.size by have := b1.size; have := HZ.out; omega)
  have HD1 := Lib.hid (HD.out.step b1)
  have HS1 := Lib.hid (HS0.out.step b1)
  clear b1 x01 HX0 HX1 HB HD HS0
  go_wp2_with fail
  refine (HBK.out _).mono ?_
  rintro e w1' ⟨rfl, rfl⟩
  go_wp2_with fail
  refine (HLG.out _).mono ?_
  rintro e w1' ⟨rfl, rfl⟩
  go_wp2_with fail
  have hsz := HZ1.out
  have hD1 := HD1.out
  have hS1 := HS1.out
  have hp := HP.out
  obtain ⟨g1, hg1⟩ : ∃ g, w1.heap.size = g := ⟨_, rfl⟩
  obtain ⟨w2, hw2⟩ : ∃ w2, (w1.alloc (.cells #[.int .i64 p, .slice a 256 c] 47)).alloc (.cells #[.slice x.wa m x.wc, .slice (some ⟨g1, 0, none⟩) 1 1] 23) = w2 := ⟨_, rfl⟩
  have b2 : Below w1.heap.size w1 w2 := by rw [← hw2]; exact ((Below.refl _ w1).alloc (Nat.le_refl _) _).alloc (by simp) _
  have y1 : Blk w2 g1 47 #[.int .i64 p, .slice a 256 c] := by rw [← hw2, ← hg1]; exact (Blk.new w1 _ _).alloc _
  have y2 : Blk w2 (g1 + 1) 23 #[.slice x.wa m x.wc, .slice (some ⟨g1, 0, none⟩) 1 1] := by
    have := Blk.new (w1.alloc (.cells #[.int .i64 p, .slice a 256 c] 47)) 23 #[.slice x.wa m x.wc, .slice (some ⟨g1, 0, none⟩) 1 1]
    rw [World.size_alloc, hg1, hw2] at this
    exact this
  have hD2 := hD1.step b2
  have hS2 := hS1.step b2
  have hone : Wts w2 w2.heap.size (some ⟨g1, 0, none⟩) 1 1 [(p, s)] := by
    refine ⟨rfl, Nat.le_refl _, by unfold maxLen; omega, fun _ => ⟨g1, 0, rfl, y1.lt, fun i hi => ?_⟩⟩
    obtain rfl : i = 0 := by omega
    have hsl := hS2.1
    refine ⟨wf64 (p := p) (by omega) (by omega), y1.cell 0, a, c, ?_, ?_⟩
    · show w2.cell? ⟨g1, 1, none⟩ = some (.slice a s.length c)
      rw [hsl]
      exact y1.cell 1
    · show Bsl w2 _ a s.length c s
      rw [hsl]
      exact hS2
  have hcon := dConcat_any (g1 + 1) 2 [⟨x.wa, m, x.wc, D.2⟩, ⟨some ⟨g1, 0, none⟩, 1, 1, [(p, s)]⟩] w2 y2.lt (by simp) (fun i hi => by
    have : i = 0 ∨ i = 1 := by simp at hi; omega
    rcases this with rfl | rfl
    · exact y2.cell 0
    · exact y2.cell 1) (fun i hi => by
    have : i = 0 ∨ i = 1 := by simp at hi; omega
    rcases this with rfl | rfl
    · show Wts w2 w2.heap.size x.wa m x.wc D.2
      rw [← HM2.out]
      exact hD2.2
    · exact hone) (by simp [flatW]) (by simp [flatW, HM2.out]; omega)
  have hfl : flatW [⟨x.wa, m, x.wc, D.2⟩, ⟨some ⟨g1, 0, none⟩, 1, 1, [(p, s)]⟩] = D.2 ++ [(p, s)] := by simp [flatW]
  rw [hfl] at hcon
  have HCON := Lib.hid hcon
  have HX02 := Lib.hid (HX01.out.below b2 HX01.out.lt)
  have HX12 := Lib.hid (HX11.out.below b2 HX11.out.lt)
  have HB2 := Lib.hid (HB1.out.trans (b2.mono (by omega)))
  have HZ2 := Lib.hid (show w.heap.size + 2 ≤ w2.heap.size by have := b2.size; omega)
  have HD2 := Lib.hid hD2
  rw [hg1, hw2]
  clear hsz hD1 hS1 hp hg1 hw2 b2 y1 y2 hD2 hS2 hone hcon hfl HB1 HZ1 HD1 HS1 HX01 HX11 c0 c1
  refine HCON.out.mono ?_
  rintro e w3 ⟨v, rfl, hrow, b3⟩
  obtain ⟨wa3, wc3, rfl, hwts⟩ := hrow.wts
  have x03 := HX02.out.below b3 HX02.out.lt
  have c0 := x03.cell 0
  have c1 := x03.cell 1
  have hla := dLaid_any ⟨x.ba, x.bc, wa3, wc3⟩ (withD D p s) w3 ⟨(HD2.out.step b3).1, hwts⟩ HF.out
  have hw1 : (withD D p s).1 = D.1 := rfl
  have hw2 : (withD D p s).2 = D.2 ++ [(p, s)] := rfl
  simp only [hw1, hw2] at hla
  obtain ⟨L, hL⟩ : ∃ L, (D.2 ++ [(p, s)]).length = L := ⟨_, rfl⟩
  rw [hL] at hla ⊢
  have HLA := Lib.hid hla
  have HX2 := Lib.hid (HX12.out.below b3 HX12.out.lt)
  have HB1 := Lib.hid (HB2.out.trans (b3.mono HB2.out.size))
  have HZ1 := Lib.hid (show w.heap.size + 2 ≤ w3.heap.size by have := b3.size; have := HZ2.out; omega)
  have HW2 := Lib.hid (show (withD D p s).2.length = L from hL)
  clear hrow b3 hwts x03 hla hw1 hw2 hL HCON HX02 HX12 HB2 HZ2 HD2
  go_wp2_with fail
  refine HLA.out.mono ?_
  rintro e w4 ⟨x2, rfl, h2, b2⟩
  clear c0 c1
  have y2 := HX2.out.below b2 HX2.out.lt
  have d0 := y2.cell 0
  have d1 := y2.cell 1
  have hf := fun i => y2.frozen i
  have hz := HZ1.out
  have HK := Lib.hid (fun (u v : Value) => laid_far (g := w.heap.size + 1) (lo' := w.heap.size) h2 (by omega) (by omega) u v)
  have HBF := Lib.hid (fun (u v : Value) => ((HB1.out.trans (b2.mono (by omega))).setCell (p := ⟨w.heap.size + 1, 0, none⟩) (Nat.le_add_right _ _) u).setCell (p := ⟨w.heap.size + 1, 1, none⟩) (Nat.le_add_right _ _) v)
  have HXF := Lib.hid (fun (u v : Value) => (y2.set_ 0 u).set_ 1 v)
  obtain ⟨K, hK⟩ : ∃ K, withD D p s = K := ⟨_, rfl⟩
  rw [hK] at HK ⊢
  have HK0 := Lib.hid hK
  obtain ⟨ba2, bc2, wa2, wc2⟩ := x2
  clear h2 b2 y2 hz hK
  simp only [dval]
  go_wp2_with fail
  have hKD := HK.out (.slice ba2 K.1.length bc2) (.slice wa2 K.2.length wc2)
  have hBF := HBF.out (.slice ba2 K.1.length bc2) (.slice wa2 K.2.length wc2)
  have hXF := HXF.out (.slice ba2 K.1.length bc2) (.slice wa2 K.2.length wc2)
  obtain ⟨wf, hwf⟩ : ∃ wf, ((w4.setCell ⟨w.heap.size + 1, 0, none⟩ (.slice ba2 K.1.length bc2)).setCell ⟨w.heap.size + 1, 1, none⟩ (.slice wa2 K.2.length wc2)) = wf := ⟨_, rfl⟩
  rw [hwf] at hKD hBF hXF ⊢
  clear hwf d0 d1 hf
  have e0 := hXF.cell 0
  have e1 := hXF.cell 1
  refine bodyPost_ret (v := .tuple #[dval ⟨ba2, bc2, wa2, wc2⟩ K, .int .i64 0]) (by simp [results, Tryz.f15, go_sem, e0, e1, dval]) rfl ?_
  exact ⟨⟨ba2, bc2, wa2, wc2⟩, by rw [HK0.out], .inr (by rw [HK0.out]; exact hKD), hBF⟩
theorem dWrite_any (x : DAt) (D : DkL) (p : Int) (a : Option Addr) (n c : Nat) (s : List UInt8) (w : World) (h : Dsk w w.heap.size x D) (hs : Bsl w w.heap.size a n c s) : Calls Tryz.prog 15 #[dval x D, .int .i64 p, .slice a n c] w (ToldD (writeO D p s) w) := by
  by_cases hy : WriteGoes D p s
  · obtain ⟨h1, h2, h3, h4⟩ := hy
    rw [writeO, if_pos h1, if_pos h2, if_pos h3, if_neg h4]
    obtain rfl : n = 256 := by rw [← hs.1]; exact h3
    exact dWrite_yes x D p a c s w h hs h1 h2 h4
  · exact dWrite_no x D p a n c s w h hs hy
end Go.Proofs.YtldnelimemjaiaaGreatDoor
/-
  dev.Read: what it answers, whatever disk and place it is handed.
-/
namespace Go.Proofs.YtldnelimemjaiaaGreatDoor
open Go.RowKit Go.Shelf
set_option maxRecDepth 100000

/-- bytes.Clone: a list of the call's own. -/
theorem dClone_any (B : Nat) (a : Option Addr) (len cap : Nat) (s : List UInt8) (w : World) (hB : B ≤ w.heap.size) (hA : Bsl w B a len cap s) (hlen : len ≤ 1000000000000) :
    Calls Tryz.prog 44 #[.slice a len cap] w (OwnV len s w) := by
  have q22 : ∀ (w : World) (a : Option Addr) (n c n' c' : Nat), (binOp .eql 45 (.slice a n c) (.slice none n' c')).run Tryz.prog w = .ok (.bool a.isNone) w := fun w a n c n' c' => Lib.run_eql_slice_nil w _ _ a n c n' c' Tryz.underlying45
  obtain ⟨h1, h2, h3, h4, h5⟩ := hA
  cases a with
  | none =>
    have hc := h4 rfl
    have hl : len = 0 := by omega
    subst hl; subst hc
    obtain rfl : s = [] := List.eq_nil_of_length_eq_zero h1
    go_enter Tryz.func44, Tryz.ntmps44
    go_wp2_with fail
    go_ret
    exact ⟨_, rfl, own_nil _ _, Below.refl _ _⟩
  | some ad =>
    have hA : Bsl w B (some ad) len cap s := ⟨h1, h2, h3, h4, h5⟩
    have b1 : Below w.heap.size w (w.alloc (.cells #[] 5)) := (Below.refl _ w).alloc (Nat.le_refl _) _
    have HA1 := Lib.hid (hA.below (b1.mono hB)); clear hA
    have HB1 := Lib.hid b1; clear b1
    have HO1 := Lib.hid (own_empty w)
    clear h1 h2 h3 h4 h5
    go_enter Tryz.func44, Tryz.ntmps44
    go_wp2_with (at_builtin
                 refine wpList_append_big rfl (.tmp 5) (.tmp 6) rfl w.heap.size _ 0 _ rfl HO1.out _ (some ad) len cap s rfl HA1.out (by omega) HB1.out.size ?_
                 intro v' W3 hown' hg'
                 have HB3 := Lib.hid (app_below HB1.out HO1.out hg' HB1.out.size); clear hg'
                 have HO3 := Lib.hid hown'; clear hown')
    go_ret
    refine ⟨_, rfl, ?_, HB3.out⟩
    have := HO3.out
    rwa [Nat.zero_add, List.nil_append] at this
/-- A list of the call's own, and an error's number. -/
def ToldL (o : List UInt8 × Int) (w : World) (e : Ending) (w' : World) : Prop := ∃ v, e = .returned (.tuple #[v, .int .i64 o.2]) ∧ w'.ownsRow w.heap.size 5 1 v o.1.length (vals o.1) ∧ Below w.heap.size w w'
def readO (D : DkL) (p : Int) : List UInt8 × Int := if MayD D then (if 0 ≤ p ∧ p < 256 then (leftD D (fun _ => true) p.toNat, 0) else ([], 2)) else ([], 8)
theorem leftD_goes (D : DkL) (p : Nat) : leftD D (fun i => decide ((wr_ D.2 i).1 = (p : Int))) p = leftD D (fun _ => true) p := by
  have : lastTo D.2 (fun i => decide ((wr_ D.2 i).1 = (p : Int))) (p : Int) D.2.length = lastTo D.2 (fun _ => true) (p : Int) D.2.length := lastTo_congr fun i _ => by simp
  unfold leftD
  rw [this]
theorem read_boxes (w : World) (u v k : Value) : ∃ w0, (w.alloc (.cells #[u, v] 25)).alloc (.cells #[k] 3) = w0 ∧ Below w.heap.size w w0 ∧ w0.heap.size = w.heap.size + 2 ∧ Blk w0 w.heap.size 25 #[u, v] ∧ Blk w0 (w.heap.size + 1) 3 #[k] := by
  refine ⟨_, rfl, ((Below.refl _ w).alloc (Nat.le_refl _) _).alloc (by simp) _, by simp, (Blk.new w _ _).alloc _, ?_⟩
  have := Blk.new (w.alloc (.cells #[u, v] 25)) 3 #[k]
  rw [World.size_alloc] at this
  exact this
set_option maxHeartbeats 2000000 in
theorem dRead_any (x : DAt) (D : DkL) (p : Int) (w : World) (h : Dsk w w.heap.size x D) : Calls Tryz.prog 20 #[dval x D, .int .i64 p] w (ToldL (readO D p) w) := by
  obtain ⟨w0, hw0, b0, z0, x0, xp⟩ := read_boxes w (.slice x.ba D.1.length x.bc) (.slice x.wa D.2.length x.wc) (.int .i64 p)
  have h0 := h.step b0
  have c0 := x0.cell 0
  have c1 := x0.cell 1
  have cp := xp.cell 0
  have HX0 := Lib.hid x0
  have HXp := Lib.hid xp
  have HB := Lib.hid b0
  have HZ := Lib.hid z0
  have HD := Lib.hid h0
  unfold readO
  by_cases hm : MayD D
  · rw [if_pos hm]
    have HC := Lib.hid (dMay_yes x D _ h0 hm)
    simp only [dval] at HC ⊢
    have hbk := dIsBlock_any p
    have HM := Lib.hid hm
    by_cases hp : 0 ≤ p ∧ p < 256
    · rw [if_pos hp]
      simp only [decide_eq_true hp] at hbk
      obtain ⟨q, rfl⟩ := Int.eq_ofNat_of_zero_le hp.1
      have hq : q < 256 := by omega
      have HBK := Lib.hid hbk
      have hll := leftD_length hm (fun _ => true) hq
      have e2 : ((q : Int).toNat) = q := by simp
      obtain ⟨s, hs⟩ : ∃ s, leftD D (fun _ => true) q = s := ⟨_, rfl⟩
      rw [hs] at hll
      rw [e2, hs]
      have HLL := Lib.hid hll
      have HS := Lib.hid hs
      clear e2 hs b0 h0 h hm x0 xp z0 hbk hp hll
      go_enter Tryz.func20, Tryz.ntmps20
      go_wp2_with fail
      clear hw0 c0 c1 cp
      refine HC.out.mono ?_
      rintro e w1 ⟨rfl, b1⟩
      have cp := (HXp.out.below b1 HXp.out.lt).cell 0
      have HB1 := Lib.hid b1
      clear b1
      go_wp2_with fail
      refine (HBK.out _).mono ?_
      rintro e w1' ⟨rfl, rfl⟩
      have b1 := HB1.out
      have x01 := HX0.out.below b1 HX0.out.lt
      have xp1 := HXp.out.below b1 HXp.out.lt
      have hD1 := HD.out.step b1
      have c0 := x01.cell 0
      have c1 := x01.cell 1
      have hl := dLast2_any x.wa D.2.length x.wc D.2 (fun i => decide ((wr_ D.2 i).1 = (q : Int))) ⟨w.heap.size, 0, none⟩ ⟨w.heap.size + 1, 0, none⟩ w1 hD1.2 (fun W hW i hi => dGoes_any w1.heap.size x D w.heap.size (w.heap.size + 1) (q : Int) i W ⟨hD1.1.below hW, hD1.2.below hW⟩ (x01.below hW x01.lt) ((xp1.below hW xp1.lt).cell 0) hi)
      have HL := Lib.hid hl
      have HX1 := Lib.hid x01
      have HXp1 := Lib.hid xp1
      have HD1 := Lib.hid hD1
      have HBw := Lib.hid (HB.out.trans (b1.mono HB.out.size))
      clear b1 x01 xp1 hD1 hl HB1 HC HBK HX0 HXp HB HD
      go_wp2_with fail
      clear c0 c1 cp
      refine HL.out.mono ?_
      rintro e w2 ⟨g, rfl, hge, hM, b2⟩
      have c0 := (HX1.out.below b2 HX1.out.lt).cell 0
      have c1 := (HX1.out.below b2 HX1.out.lt).cell 1
      have cp := (HXp1.out.below b2 HXp1.out.lt).cell 0
      have hle := dLeft_any w2.heap.size x D g D.2.length (fun i => decide ((wr_ D.2 i).1 = (q : Int))) q w2 (Nat.le_refl _) (HD1.out.step b2) hM (by rw [HM.out.1.1]; exact hq)
      rw [leftD_goes] at hle
      simp only [dval] at hle
      rw [HS.out] at hle
      have HLE := Lib.hid hle
      have HB2 := Lib.hid (HBw.out.trans (b2.mono HBw.out.size))
      clear hle b2 hM hge HL
      go_wp2_with fail
      clear c0 c1 cp
      refine HLE.out.mono ?_
      rintro e w3 ⟨A, c, rfl, h3, b3⟩
      have HCL := Lib.hid (dClone_any w2.heap.size A s.length c s w3 b3.size h3 (by rw [HLL.out]; omega))
      have HB3 := Lib.hid (HB2.out.trans (b3.mono HB2.out.size))
      clear h3 b3 HLE
      go_wp2_with fail
      refine HCL.out.mono ?_
      rintro e w4 ⟨v4, rfl, h4, b4⟩
      have HO := Lib.hid (own_mono h4 HB3.out.size)
      have HB4 := Lib.hid (HB3.out.trans (b4.mono HB3.out.size))
      clear h4 b4
      go_wp2_with fail
      go_ret2
      exact ⟨v4, rfl, HO.out, HB4.out⟩
    · rw [if_neg hp]
      simp only [decide_eq_false hp] at hbk
      have HBK := Lib.hid hbk
      clear b0 h0 h hm x0 xp z0 hbk hp
      go_enter Tryz.func20, Tryz.ntmps20
      go_wp2_with fail
      clear hw0 c0 c1 cp
      refine HC.out.mono ?_
      rintro e w1 ⟨rfl, b1⟩
      have cp := (HXp.out.below b1 HXp.out.lt).cell 0
      have HB1 := Lib.hid (HB.out.trans (b1.mono HB.out.size))
      clear b1
      go_wp2_with fail
      refine (HBK.out _).mono ?_
      rintro e w1' ⟨rfl, rfl⟩
      go_wp2_with fail
      go_ret2
      exact ⟨_, rfl, own_nil _ _, HB1.out⟩
  · rw [if_neg hm]
    have HC := Lib.hid (dMay_no x D _ h0 hm)
    simp only [dval] at HC ⊢
    clear b0 h0 h hm x0 xp z0
    go_enter Tryz.func20, Tryz.ntmps20
    go_wp2_with fail
    clear hw0 c0 c1 cp
    refine HC.out.mono ?_
    rintro e w1 ⟨rfl, b1⟩
    have HB1 := Lib.hid (HB.out.trans (b1.mono HB.out.size))
    clear b1
    go_wp2_with fail
    go_ret2
    exact ⟨_, rfl, own_nil _ _, HB1.out⟩
end Go.Proofs.YtldnelimemjaiaaGreatDoor
/-
  Labels as bytes, and the labels that stand on a disk, as plain lists.
-/
namespace Go.Proofs.YtldnelimemjaiaaGreatDoor
open Go.RowKit Go.Shelf
set_option maxRecDepth 100000

/-- The sum of a text. -/
def sumN (s : List UInt8) : Nat := (fourW s).a.toNat
theorem sumN_lt (s : List UInt8) : sumN s < 4294967296 := (fourW s).a.isLt
/-- What is summed of a label. -/
def summedL (l : Lb) : List UInt8 := [67] ++ (leB 4 l.1 ++ (leB 4 l.2.1 ++ bytesP l.2.2))
theorem summedL_length (l : Lb) : (summedL l).length = 25 := by simp [summedL, leB_length, bytesP_length]
/-- A label's block. -/
def blockL (l : Lb) : List UInt8 := summedL l ++ (leB 4 (sumN (summedL l)) ++ List.replicate 227 0)
theorem blockL_length (l : Lb) : (blockL l).length = 256 := by simp [blockL, summedL_length, leB_length]
/-- The label that a block would be of. -/
def readL (b : List UInt8) : Lb := (leN ((b.drop 1).take 4), leN ((b.drop 5).take 4), getP ((b.drop 9).take 16))
theorem wf_readL (b : List UInt8) : WfL (readL b) := ⟨leN_le b 1 4, leN_le b 5 4, wf_getP _⟩
/-- The label of a block. -/
def labelO (b : List UInt8) : Option Lb := if MayP (readL b).2.2 then (if MayL (readL b) ∧ b = blockL (readL b) then some (readL b) else none) else none
theorem labelO_some {b : List UInt8} {l : Lb} (h : labelO b = some l) : MayL l ∧ WfL l ∧ b = blockL l := by
  unfold labelO at h
  split at h
  · split at h
    · next h1 =>
      cases h
      exact ⟨h1.1, wf_readL b, h1.2⟩
    · cases h
  · cases h
theorem win_of (A B C : List UInt8) (i k : Nat) (hi : A.length = i) (hk : B.length = k) : ((A ++ (B ++ C)).drop i).take k = B := by
  rw [List.drop_append_of_le_length (by omega), List.drop_of_length_le (by omega), List.nil_append, List.take_append_of_le_length (by omega), List.take_of_length_le (by omega)]
theorem readL_block {l : Lb} (hm : MayL l) (hw : WfL l) : readL (blockL l) = l := by
  obtain ⟨g, e, p⟩ := l
  obtain ⟨w1, w2, w3⟩ := hw
  obtain ⟨_, _, _, m4⟩ := hm
  simp only at w1 w2 w3 m4
  obtain ⟨T, hT⟩ : ∃ T, leB 4 (sumN (summedL (g, e, p))) ++ List.replicate 227 0 = T := ⟨_, rfl⟩
  have e0 : blockL (g, e, p) = [67] ++ (leB 4 g ++ (leB 4 e ++ (bytesP p ++ T))) := by rw [blockL, hT]; simp [summedL]
  have e1 : ((blockL (g, e, p)).drop 1).take 4 = leB 4 g := by rw [e0]; exact win_of _ _ _ 1 4 rfl (leB_length 4 g)
  have e2 : ((blockL (g, e, p)).drop 5).take 4 = leB 4 e := by
    rw [e0, ← List.append_assoc]
    exact win_of _ _ _ 5 4 (by simp [leB_length]) (leB_length 4 e)
  have e3 : ((blockL (g, e, p)).drop 9).take 16 = bytesP p := by
    rw [e0, ← List.append_assoc, ← List.append_assoc]
    exact win_of _ _ _ 9 16 (by simp [leB_length]) (bytesP_length p)
  rw [readL, e1, e2, e3, leN_leB 4 g (by omega), leN_leB 4 e (by omega), getP_bytesP m4 w3]
theorem labelO_block {l : Lb} (hm : MayL l) (hw : WfL l) : labelO (blockL l) = some l := by
  unfold labelO
  rw [readL_block hm hw, if_pos hm.2.2.2, if_pos ⟨hm, rfl⟩]

/-- A label is put in ahead of the first one with a smaller Gen. -/
def insL (l : Lb) : List Lb → List Lb
  | [] => [l]
  | m :: r => if m.1 < l.1 then l :: m :: r else m :: insL l r
theorem insL_perm (l : Lb) : ∀ L : List Lb, (insL l L).Perm (l :: L)
  | [] => List.Perm.refl _
  | m :: r => by
    unfold insL
    split
    · exact List.Perm.refl _
    · exact ((insL_perm l r).cons m).trans (List.Perm.swap l m r)
/-- Gens fall. -/
def Falls (L : List Lb) : Prop := L.Pairwise (fun l m => m.1 ≤ l.1)
theorem insL_falls (l : Lb) : ∀ {L : List Lb}, Falls L → Falls (insL l L)
  | [], _ => List.pairwise_singleton _ _
  | m :: r, h => by
    unfold insL
    obtain ⟨h1, h2⟩ := List.pairwise_cons.1 h
    split
    · next hlt =>
      refine List.pairwise_cons.2 ⟨fun x hx => ?_, h⟩
      rcases List.mem_cons.1 hx with rfl | hx
      · omega
      · have := h1 x hx; omega
    · next hge =>
      refine List.pairwise_cons.2 ⟨fun x hx => ?_, insL_falls l h2⟩
      rcases List.mem_cons.1 ((insL_perm l r).mem_iff.1 hx) with rfl | hx
      · omega
      · exact h1 x hx
/-- The labels in the first k slots, the greatest Gen first; as they come. -/
def standL (f : Nat → Option Lb) : Nat → List Lb
  | 0 => []
  | k + 1 => match f k with
    | some l => insL l (standL f k)
    | none => standL f k
def slotsL (f : Nat → Option Lb) : Nat → List Lb
  | 0 => []
  | k + 1 => match f k with
    | some l => slotsL f k ++ [l]
    | none => slotsL f k
theorem standL_congr {f g : Nat → Option Lb} : ∀ {n : Nat}, (∀ k, k < n → f k = g k) → standL f n = standL g n
  | 0, _ => rfl
  | n + 1, h => by rw [standL, standL, h n (Nat.lt_succ_self _), standL_congr (fun k hk => h k (by omega))]
theorem standL_perm (f : Nat → Option Lb) : ∀ k, (standL f k).Perm (slotsL f k)
  | 0 => List.Perm.refl _
  | k + 1 => by
    unfold standL slotsL
    cases f k with
    | none => exact standL_perm f k
    | some l => exact (insL_perm l _).trans (((standL_perm f k).cons l).trans (List.perm_append_singleton l _).symm)
theorem standL_falls (f : Nat → Option Lb) : ∀ k, Falls (standL f k)
  | 0 => List.Pairwise.nil
  | k + 1 => by
    unfold standL
    cases f k with
    | none => exact standL_falls f k
    | some l => exact insL_falls l (standL_falls f k)
theorem slotsL_mem {f : Nat → Option Lb} {l : Lb} : ∀ {k : Nat}, l ∈ slotsL f k ↔ ∃ q, q < k ∧ f q = some l
  | 0 => by simp [slotsL]
  | k + 1 => by
    have ih := slotsL_mem (f := f) (l := l) (k := k)
    unfold slotsL
    cases hf : f k with
    | none =>
      simp only
      rw [ih]
      constructor
      · rintro ⟨q, h1, h2⟩
        exact ⟨q, by omega, h2⟩
      · rintro ⟨q, h1, h2⟩
        rcases Nat.lt_or_ge q k with h | h
        · exact ⟨q, h, h2⟩
        · obtain rfl : q = k := by omega
          rw [hf] at h2
          cases h2
    | some m =>
      simp only [List.mem_append, List.mem_singleton]
      rw [ih]
      constructor
      · rintro (⟨q, h1, h2⟩ | rfl)
        · exact ⟨q, by omega, h2⟩
        · exact ⟨k, by omega, hf⟩
      · rintro ⟨q, h1, h2⟩
        rcases Nat.lt_or_ge q k with h | h
        · exact .inl ⟨q, h, h2⟩
        · obtain rfl : q = k := by omega
          rw [hf] at h2
          exact .inr (Option.some.inj h2).symm
theorem standL_mem {f : Nat → Option Lb} {l : Lb} {k : Nat} : l ∈ standL f k ↔ ∃ q, q < k ∧ f q = some l := (standL_perm f k).mem_iff.trans slotsL_mem
theorem slotsL_length (f : Nat → Option Lb) : ∀ k, (slotsL f k).length ≤ k
  | 0 => Nat.le_refl _
  | k + 1 => by
    have := slotsL_length f k
    unfold slotsL
    cases f k with
    | none => simp only; omega
    | some l => simp only [List.length_append, List.length_singleton]; omega
theorem standL_length (f : Nat → Option Lb) (k : Nat) : (standL f k).length ≤ k := by rw [(standL_perm f k).length_eq]; exact slotsL_length f k
/-- Each in its slot. -/
def Slotted (f : Nat → Option Lb) : Prop := ∀ q l, f q = some l → l.1 % 4 = q
theorem standL_uniq {f : Nat → Option Lb} (hs : Slotted f) {k : Nat} {l m : Lb} (hl : l ∈ standL f k) (hm : m ∈ standL f k) (h : l.1 = m.1) : l = m := by
  obtain ⟨q, _, e1⟩ := standL_mem.1 hl
  obtain ⟨r, _, e2⟩ := standL_mem.1 hm
  have h1 := hs q l e1
  have h2 := hs r m e2
  obtain rfl : q = r := by omega
  rw [e1] at e2
  exact Option.some.inj e2
/-- What falls and holds the same labels is the same list. -/
theorem standL_eq {f : Nat → Option Lb} (hs : Slotted f) {k : Nat} {L : List Lb} (hp : L.Perm (slotsL f k)) (hL : Falls L) : L = standL f k :=
  List.Perm.eq_of_pairwise (le := fun (l m : Lb) => m.1 ≤ l.1) (fun l m h1 h2 a b => standL_uniq hs ((hp.trans (standL_perm f k).symm).mem_iff.1 h1) h2 (by omega)) hL (standL_falls f k) (hp.trans (standL_perm f k).symm)
theorem slotsL_nodup {f : Nat → Option Lb} (hs : Slotted f) : ∀ k, (slotsL f k).Nodup
  | 0 => List.nodup_nil
  | k + 1 => by
    have ih := slotsL_nodup hs k
    unfold slotsL
    cases hf : f k with
    | none => exact ih
    | some l =>
      refine List.nodup_append.2 ⟨ih, List.pairwise_singleton _ _, fun a ha b hb e => ?_⟩
      obtain ⟨q, h1, h2⟩ := slotsL_mem.1 ha
      simp only [List.mem_singleton] at hb
      have e1 := hs q a h2
      have e2 := hs k l hf
      subst hb
      subst e
      omega
/-- Falling, and no Gen twice. -/
theorem standL_strict {f : Nat → Option Lb} (hs : Slotted f) (k : Nat) : (standL f k).Pairwise (fun l m => m.1 < l.1) := by
  have hn : (standL f k).Nodup := (standL_perm f k).nodup_iff.2 (slotsL_nodup hs k)
  have hf := standL_falls f k
  have hu : ∀ l m, l ∈ standL f k → m ∈ standL f k → l.1 = m.1 → l = m := fun l m h1 h2 h => standL_uniq hs h1 h2 h
  obtain ⟨L, hL⟩ : ∃ L, standL f k = L := ⟨_, rfl⟩
  rw [hL] at hn hf hu ⊢
  clear hL
  have := List.pairwise_and_iff.2 ⟨hn, hf⟩
  exact List.Pairwise.imp_of_mem (fun {a b} ha hb h => by
    have h1 := h.2
    rcases Nat.lt_or_eq_of_le h1 with h2 | h2
    · exact h2
    · exact absurd (hu a b ha hb h2.symm) h.1) this

/-- The label that stands in a slot. -/
def seenL (D : DkL) (p : Nat) : Option Lb := match labelO (leftD D (fun _ => true) p) with
  | some l => if l.1 % 4 = p then some l else none
  | none => none
theorem seenL_slotted (D : DkL) : Slotted (seenL D) := by
  intro q l h
  unfold seenL at h
  split at h
  · split at h
    · next h1 => cases h; exact h1
    · cases h
  · cases h
theorem seenL_may {D : DkL} {p : Nat} {l : Lb} (h : seenL D p = some l) : MayL l ∧ WfL l ∧ l.1 % 4 = p := by
  have hs := seenL_slotted D p l h
  unfold seenL at h
  split at h
  · next m hm =>
    split at h
    · cases h
      exact ⟨(labelO_some hm).1, (labelO_some hm).2.1, hs⟩
    · cases h
  · cases h
/-- What Find answers. -/
def findL (D : DkL) : List Lb := standL (seenL D) 4
def findO (D : DkL) : List Lb × Int := if MayD D then (findL D, 0) else ([], 8)
/-- What Put answers. -/
def putO (D : DkL) (l : Lb) : DkL × Int := if MayD D then (if MayL l then writeO D ((l.1 % 4 : Nat) : Int) (blockL l) else (([], []), 8)) else (([], []), 8)
theorem left_with (D : DkL) (p : Nat) (s : List UInt8) (q : Nat) : leftD (withD D p s) (fun _ => true) q = if q = p then s else leftD D (fun _ => true) q := by
  obtain ⟨h1, h2⟩ := wr_with D.2 (p : Int) s
  have hl : (withD D (p : Int) s).2.length = D.2.length + 1 := by simp [withD]
  have he : (withD D (p : Int) s).2 = D.2 ++ [((p : Int), s)] := rfl
  unfold leftD
  rw [hl, he, lastTo, h2]
  by_cases e : q = p
  · subst e
    rw [if_pos ⟨rfl, rfl⟩, if_pos rfl]
    simp only
    rw [h2]
  · rw [if_neg (fun h => e (by have := h.2; simp only at this; omega)), if_neg e]
    have hc : lastTo (D.2 ++ [((p : Int), s)]) (fun _ => true) (q : Int) D.2.length = lastTo D.2 (fun _ => true) (q : Int) D.2.length := lastTo_congr (fun i hi => by rw [h1 i hi])
    rw [hc]
    cases hx : lastTo D.2 (fun _ => true) (q : Int) D.2.length with
    | none => rfl
    | some i => simp only; rw [h1 i (lastTo_lt hx).1]
theorem seenL_with {D : DkL} {l : Lb} (hm : MayL l) (hw : WfL l) (q : Nat) : seenL (withD D ((l.1 % 4 : Nat) : Int) (blockL l)) q = if q = l.1 % 4 then some l else seenL D q := by
  unfold seenL
  rw [left_with]
  by_cases e : q = l.1 % 4
  · rw [if_pos e, if_pos e, labelO_block hm hw]
    simp only
    rw [if_pos e.symm]
  · rw [if_neg e, if_neg e]
theorem seenL_far {D : DkL} {p : Nat} {s : List UInt8} {q : Nat} (h : q ≠ p) : seenL (withD D (p : Int) s) q = seenL D q := by
  unfold seenL
  rw [left_with, if_neg h]
/-- Put's answer where it is one. -/
theorem putO_cases (D : DkL) (l : Lb) : (∃ c : Int, putO D l = (([], []), c) ∧ c ≠ 0) ∨ (MayD D ∧ MayL l ∧ D.2.length ≠ 4096 ∧ MayD (withD D ((l.1 % 4 : Nat) : Int) (blockL l)) ∧ putO D l = (withD D ((l.1 % 4 : Nat) : Int) (blockL l), 0)) := by
  unfold putO
  by_cases h1 : MayD D
  · rw [if_pos h1]
    by_cases h2 : MayL l
    · rw [if_pos h2]
      have hp : (0 : Int) ≤ ((l.1 % 4 : Nat) : Int) ∧ ((l.1 % 4 : Nat) : Int) < 256 := by omega
      unfold writeO
      rw [if_pos h1, if_pos hp, if_pos (blockL_length l)]
      by_cases h3 : D.2.length = 4096
      · rw [if_pos h3]; exact .inl ⟨_, rfl, by decide⟩
      · rw [if_neg h3]; exact .inr ⟨h1, h2, h3, with_may h1 hp (blockL_length l) h3, rfl⟩
    · rw [if_neg h2]; exact .inl ⟨_, rfl, by decide⟩
  · rw [if_neg h1]; exact .inl ⟨_, rfl, by decide⟩
end Go.Proofs.YtldnelimemjaiaaGreatDoor
/-
  ptr.put: the bytes of a pointer whose numbers have room, in a row of the call's own.
-/
namespace Go.Proofs.YtldnelimemjaiaaGreatDoor
open Go.RowKit Go.Shelf
set_option maxRecDepth 100000

/-- make([]byte, 0, 16). -/
theorem make_room (n : Nat) (hn : n ≤ 1000000) (W : World) : (Instr.makeSlice 45 (.int .i64 0) (.int .i64 (n : Int))).run Tryz.prog W = .ok (.slice (some ⟨W.heap.size, 0, none⟩) 0 n) (W.alloc (.cells (Array.replicate n (.int .u8 0)) 5)) := by
  obtain ⟨i0, hi, hz0, hz1, hz2⟩ := info_parts infoU8
  have hr := run_make (P := Tryz.prog) W 45 5 i0 (.int .u8 0) Tryz.underlying45 hi hz0 .i64 .i64 0 n (by omega) (by omega) (by rw [hz2]; omega) (by omega)
  rw [hz1] at hr
  simp only [Int.toNat_natCast] at hr
  have e : madeCells (Value.int .u8 0).cells (n * 1) = Array.replicate n (Value.int .u8 0) := by
    apply Array.ext
    · simp [size_madeCells]
    · intro i h1 h2
      simp [madeCells, Value.cells, Nat.mod_one]
  rw [e] at hr
  exact hr
theorem own_room0 (w : World) (n : Nat) (hn : n ≤ 1000000) : (w.alloc (.cells (Array.replicate n (.int .u8 0)) 5)).ownsRow w.heap.size 5 1 (.slice (some ⟨w.heap.size, 0, none⟩) 0 n) 0 (vals []) :=
  ⟨rfl, .inr ⟨w.heap.size, n, _, rfl, Nat.le_refl _, heap_alloc_new w _, Nat.zero_le _, by unfold maxLen; omega, by simp, rfl⟩⟩
/-- The bytes of the first numbers. -/
def putTo (p : Pt) : Nat → List UInt8
  | 0 => []
  | 1 => leB 1 p.1.toNat
  | 2 => leB 1 p.1.toNat ++ leB 3 p.2.1
  | 3 => leB 1 p.1.toNat ++ leB 3 p.2.1 ++ leB 4 p.2.2.1
  | 4 => leB 1 p.1.toNat ++ leB 3 p.2.1 ++ leB 4 p.2.2.1 ++ leB 4 p.2.2.2.1
  | _ => bytesP p
/-- How many bytes the first numbers have. -/
def stP : Nat → Nat
  | 0 => 0
  | 1 => 1
  | 2 => 4
  | 3 => 8
  | 4 => 12
  | _ => 16
set_option maxHeartbeats 1000000 in
theorem put_any (p : Pt) (hw : WfP p) (hroom : (0 ≤ p.1 ∧ p.1 < 256) ∧ p.2.1 < 16777216) (w : World) (hz : Szs w) : Calls Tryz.prog 62 #[ptV p] w (OwnV 16 (bytesP p) w) := by
  obtain ⟨a, b, c, d, e⟩ := p
  obtain ⟨_, _, h4, h5, h6⟩ := hw
  obtain ⟨⟨h1, h2⟩, h3⟩ := hroom
  dsimp only at h1 h2 h3 h4 h5 h6
  obtain ⟨A, rfl⟩ := Int.eq_ofNat_of_zero_le h1
  have i1 : (0 : Int) ≤ (b : Int) := by omega
  have i2 : (b : Int) ≤ 4294967295 := by omega
  have i3 : (0 : Int) ≤ (c : Int) := by omega
  have i4 : (c : Int) ≤ 4294967295 := by omega
  have i5 : (0 : Int) ≤ (d : Int) := by omega
  have i6 : (d : Int) ≤ 4294967295 := by omega
  have i7 : (0 : Int) ≤ (e : Int) := by omega
  have i8 : (e : Int) ≤ 4294967295 := by omega
  have hmk : ∀ W : World, (Instr.makeSlice 45 (.int .i64 0) (.int .i64 16)).run Tryz.prog W = _ := make_room 16 (by omega)
  have HZ := Lib.hid hz; clear hz
  obtain ⟨g, hg⟩ : ∃ g, w.heap.size = g := ⟨_, rfl⟩
  have HG := Lib.hid hg
  have hz3 := HZ.out.2
  obtain ⟨z0, z1, z2, z3, z4⟩ := hz3
  have y0 : ∀ o1 o2 o3 : Obj, (((w.alloc o1).alloc o2).alloc o3).cell? ⟨0, 0, none⟩ = some (.int .i64 1) := fun o1 o2 o3 => (HZ.out.step (below_alloc3' w o1 o2 o3)).2.1
  have y1 : ∀ o1 o2 o3 : Obj, (((w.alloc o1).alloc o2).alloc o3).cell? ⟨0, 1, none⟩ = some (.int .i64 3) := fun o1 o2 o3 => (HZ.out.step (below_alloc3' w o1 o2 o3)).2.2.1
  have y2 : ∀ o1 o2 o3 : Obj, (((w.alloc o1).alloc o2).alloc o3).cell? ⟨0, 2, none⟩ = some (.int .i64 4) := fun o1 o2 o3 => (HZ.out.step (below_alloc3' w o1 o2 o3)).2.2.2.1
  have y3 : ∀ o1 o2 o3 : Obj, (((w.alloc o1).alloc o2).alloc o3).cell? ⟨0, 3, none⟩ = some (.int .i64 4) := fun o1 o2 o3 => (HZ.out.step (below_alloc3' w o1 o2 o3)).2.2.2.2.1
  have y4 : ∀ o1 o2 o3 : Obj, (((w.alloc o1).alloc o2).alloc o3).cell? ⟨0, 4, none⟩ = some (.int .i64 4) := fun o1 o2 o3 => (HZ.out.step (below_alloc3' w o1 o2 o3)).2.2.2.2.2
  clear z0 z1 z2 z3 z4
  go_enter Tryz.func62, Tryz.ntmps62
  go_wp2_with fail
  clear y0 y1 y2 y3 y4
  go_loopw [4, 26] (fun v i wr => ∃ j : Nat, j ≤ 5 ∧ i = .int .i64 j ∧ wr.ownsRow (g + 2) 5 1 v (stP j) (vals (putTo (A, b, c, d, e) j)) ∧ Below g w wr ∧ Blk wr (g + 1) 115 #[.int .i64 (A : Int), .int .i64 (b : Int), .int .i64 (c : Int), .int .i64 (d : Int), .int .i64 (e : Int)] ∧ g + 3 ≤ wr.heap.size)
    (fun _ i _ => 5 - (intOf i).toNat)
  case atStart =>
    have hz2 : ((w.alloc (Obj.cells #[Value.int IntKind.i64 (A : Int), Value.int IntKind.u32 (b : Int), Value.int IntKind.u32 (c : Int), Value.int IntKind.u32 (d : Int), Value.int IntKind.u32 (e : Int)] 28)).alloc (Obj.cells #[Value.int IntKind.i64 (A : Int), Value.int IntKind.i64 (b : Int), Value.int IntKind.i64 (c : Int), Value.int IntKind.i64 (d : Int), Value.int IntKind.i64 (e : Int)] 115)).heap.size = g + 2 := by simp [hg]
    have hz1 : (w.alloc (Obj.cells #[Value.int IntKind.i64 (A : Int), Value.int IntKind.u32 (b : Int), Value.int IntKind.u32 (c : Int), Value.int IntKind.u32 (d : Int), Value.int IntKind.u32 (e : Int)] 28)).heap.size = g + 1 := by simp [hg]
    refine ⟨0, by omega, rfl, ?_, ?_, ?_, ?_⟩
    · have := own_room0 ((w.alloc (Obj.cells #[Value.int IntKind.i64 (A : Int), Value.int IntKind.u32 (b : Int), Value.int IntKind.u32 (c : Int), Value.int IntKind.u32 (d : Int), Value.int IntKind.u32 (e : Int)] 28)).alloc (Obj.cells #[Value.int IntKind.i64 (A : Int), Value.int IntKind.i64 (b : Int), Value.int IntKind.i64 (c : Int), Value.int IntKind.i64 (d : Int), Value.int IntKind.i64 (e : Int)] 115)) 16 (by omega)
      rw [hz2] at this
      exact this
    · have := below_alloc3' w (Obj.cells #[Value.int IntKind.i64 (A : Int), Value.int IntKind.u32 (b : Int), Value.int IntKind.u32 (c : Int), Value.int IntKind.u32 (d : Int), Value.int IntKind.u32 (e : Int)] 28) (Obj.cells #[Value.int IntKind.i64 (A : Int), Value.int IntKind.i64 (b : Int), Value.int IntKind.i64 (c : Int), Value.int IntKind.i64 (d : Int), Value.int IntKind.i64 (e : Int)] 115) (Obj.cells (Array.replicate 16 (Value.int IntKind.u8 0)) 5)
      rw [hg] at this
      exact this
    · have := (Blk.new (w.alloc (Obj.cells #[Value.int IntKind.i64 (A : Int), Value.int IntKind.u32 (b : Int), Value.int IntKind.u32 (c : Int), Value.int IntKind.u32 (d : Int), Value.int IntKind.u32 (e : Int)] 28)) 115 #[Value.int IntKind.i64 (A : Int), Value.int IntKind.i64 (b : Int), Value.int IntKind.i64 (c : Int), Value.int IntKind.i64 (d : Int), Value.int IntKind.i64 (e : Int)]).alloc (Obj.cells (Array.replicate 16 (Value.int IntKind.u8 0)) 5)
      rw [hz1] at this
      exact this
    · simp [hg]
  case round =>
    obtain ⟨j, hj, rfl, ho, hb, hn, hs⟩ := hrel
    have HO := Lib.hid ho; clear ho
    have HL := Lib.hid hb; clear hb
    have HN := Lib.hid hn; clear hn
    have HS := Lib.hid hs; clear hs
    obtain ⟨v, hv⟩ : ∃ v : Value, u4 = v := ⟨_, rfl⟩
    rw [hv] at HO ⊢
    clear hv
    have hcs : j = 0 ∨ j = 1 ∨ j = 2 ∨ j = 3 ∨ j = 4 ∨ j = 5 := by omega
    rcases hcs with rfl | rfl | rfl | rfl | rfl | rfl
    · have hn : wr.cell? ⟨g + 1, 0, none⟩ = some (.int .i64 ((A : Nat) : Int)) := HN.out.cell 0
      have hidx := szIdx0 wr
      have hput : ∀ (W : World), Calls Tryz.prog 64 #[.int .i64 (A : Nat), .int .i64 1] W _ := fun W => put_ok A 1 (by omega) (by omega) (by omega) W
      have HP := Lib.hid (hput wr); clear hput
      go_wp2_with fail
      refine HP.out.mono ?_
      rintro ev w1 ⟨rfl, hh, b1, s1⟩
      have HB1 := Lib.hid (bsl_of_holds (cap := 1) (leB_length 1 A) (Nat.le_refl _) (by unfold maxLen; omega) s1 hh)
      have HO1 := Lib.hid (own_below HO.out b1)
      have hsz1 : wr.heap.size ≤ w1.heap.size := b1.size
      have HS1 := Lib.hid hsz1; clear hsz1
      have HL1 := Lib.hid (HL.out.trans (b1.mono (by have := HS.out; omega)))
      have HN1 := Lib.hid (HN.out.below b1 HN.out.lt)
      clear hh s1 b1
      go_wp2_with (at_builtin
                   refine wpList_append_bsl rfl (.tmp 38) (.tmp 39) rfl (g + 2) v 0 _ rfl HO1.out w1.heap.size (some ⟨wr.heap.size + 1, 0, none⟩) 1 1 (leB 1 A) rfl HB1.out (by omega) (by have := HS.out; have := HS1.out; omega) ?_
                   intro v2 w2 h2 hgr2
                   have HO2 := Lib.hid h2; clear h2
                   have HGR := Lib.hid hgr2; clear hgr2)
      go_roundw
      case rel =>
        have hne : ∀ r, v.ownBlock = some r → g + 2 ≤ r := fun r hr => (HO1.out.lt r hr).1
        refine ⟨1, by omega, by first | rfl | go_num, ?_, ?_, ?_, ?_⟩
        · have := HO2.out; simpa [putTo, stP, bytesP] using this
        · exact HL1.out.grown HGR.out (by have := HS.out; have := HS1.out; omega) (fun r hr => by have := hne r hr; omega)
        · exact HN1.out.grown HGR.out (fun er => by have := hne (g + 1) er.symm; omega)
        · have := HGR.out.size; have := HS1.out; have := HS.out; omega
      case measure => simp [intOf]
    · have hn : wr.cell? ⟨g + 1, 1, none⟩ = some (.int .i64 ((b : Nat) : Int)) := HN.out.cell 1
      have hidx := szIdx1 wr
      have hput : ∀ (W : World), Calls Tryz.prog 64 #[.int .i64 (b : Nat), .int .i64 3] W _ := fun W => put_ok b 3 (by omega) (by omega) (by omega) W
      have HP := Lib.hid (hput wr); clear hput
      go_wp2_with fail
      refine HP.out.mono ?_
      rintro ev w1 ⟨rfl, hh, b1, s1⟩
      have HB1 := Lib.hid (bsl_of_holds (cap := 3) (leB_length 3 b) (Nat.le_refl _) (by unfold maxLen; omega) s1 hh)
      have HO1 := Lib.hid (own_below HO.out b1)
      have hsz1 : wr.heap.size ≤ w1.heap.size := b1.size
      have HS1 := Lib.hid hsz1; clear hsz1
      have HL1 := Lib.hid (HL.out.trans (b1.mono (by have := HS.out; omega)))
      have HN1 := Lib.hid (HN.out.below b1 HN.out.lt)
      clear hh s1 b1
      go_wp2_with (at_builtin
                   refine wpList_append_bsl rfl (.tmp 38) (.tmp 39) rfl (g + 2) v 1 _ rfl HO1.out w1.heap.size (some ⟨wr.heap.size + 1, 0, none⟩) 3 3 (leB 3 b) rfl HB1.out (by omega) (by have := HS.out; have := HS1.out; omega) ?_
                   intro v2 w2 h2 hgr2
                   have HO2 := Lib.hid h2; clear h2
                   have HGR := Lib.hid hgr2; clear hgr2)
      go_roundw
      case rel =>
        have hne : ∀ r, v.ownBlock = some r → g + 2 ≤ r := fun r hr => (HO1.out.lt r hr).1
        refine ⟨2, by omega, by first | rfl | go_num, ?_, ?_, ?_, ?_⟩
        · have := HO2.out; simpa [putTo, stP, bytesP] using this
        · exact HL1.out.grown HGR.out (by have := HS.out; have := HS1.out; omega) (fun r hr => by have := hne r hr; omega)
        · exact HN1.out.grown HGR.out (fun er => by have := hne (g + 1) er.symm; omega)
        · have := HGR.out.size; have := HS1.out; have := HS.out; omega
      case measure => simp [intOf]
    · have hn : wr.cell? ⟨g + 1, 2, none⟩ = some (.int .i64 ((c : Nat) : Int)) := HN.out.cell 2
      have hidx := szIdx2 wr
      have hput : ∀ (W : World), Calls Tryz.prog 64 #[.int .i64 (c : Nat), .int .i64 4] W _ := fun W => put_ok c 4 (by omega) (by omega) (by omega) W
      have HP := Lib.hid (hput wr); clear hput
      go_wp2_with fail
      refine HP.out.mono ?_
      rintro ev w1 ⟨rfl, hh, b1, s1⟩
      have HB1 := Lib.hid (bsl_of_holds (cap := 4) (leB_length 4 c) (Nat.le_refl _) (by unfold maxLen; omega) s1 hh)
      have HO1 := Lib.hid (own_below HO.out b1)
      have hsz1 : wr.heap.size ≤ w1.heap.size := b1.size
      have HS1 := Lib.hid hsz1; clear hsz1
      have HL1 := Lib.hid (HL.out.trans (b1.mono (by have := HS.out; omega)))
      have HN1 := Lib.hid (HN.out.below b1 HN.out.lt)
      clear hh s1 b1
      go_wp2_with (at_builtin
                   refine wpList_append_bsl rfl (.tmp 38) (.tmp 39) rfl (g + 2) v 4 _ rfl HO1.out w1.heap.size (some ⟨wr.heap.size + 1, 0, none⟩) 4 4 (leB 4 c) rfl HB1.out (by omega) (by have := HS.out; have := HS1.out; omega) ?_
                   intro v2 w2 h2 hgr2
                   have HO2 := Lib.hid h2; clear h2
                   have HGR := Lib.hid hgr2; clear hgr2)
      go_roundw
      case rel =>
        have hne : ∀ r, v.ownBlock = some r → g + 2 ≤ r := fun r hr => (HO1.out.lt r hr).1
        refine ⟨3, by omega, by first | rfl | go_num, ?_, ?_, ?_, ?_⟩
        · have := HO2.out; simpa [putTo, stP, bytesP] using this
        · exact HL1.out.grown HGR.out (by have := HS.out; have := HS1.out; omega) (fun r hr => by have := hne r hr; omega)
        · exact HN1.out.grown HGR.out (fun er => by have := hne (g + 1) er.symm; omega)
        · have := HGR.out.size; have := HS1.out; have := HS.out; omega
      case measure => simp [intOf]
    · have hn : wr.cell? ⟨g + 1, 3, none⟩ = some (.int .i64 ((d : Nat) : Int)) := HN.out.cell 3
      have hidx := szIdx3 wr
      have hput : ∀ (W : World), Calls Tryz.prog 64 #[.int .i64 (d : Nat), .int .i64 4] W _ := fun W => put_ok d 4 (by omega) (by omega) (by omega) W
      have HP := Lib.hid (hput wr); clear hput
      go_wp2_with fail
      refine HP.out.mono ?_
      rintro ev w1 ⟨rfl, hh, b1, s1⟩
      have HB1 := Lib.hid (bsl_of_holds (cap := 4) (leB_length 4 d) (Nat.le_refl _) (by unfold maxLen; omega) s1 hh)
      have HO1 := Lib.hid (own_below HO.out b1)
      have hsz1 : wr.heap.size ≤ w1.heap.size := b1.size
      have HS1 := Lib.hid hsz1; clear hsz1
      have HL1 := Lib.hid (HL.out.trans (b1.mono (by have := HS.out; omega)))
      have HN1 := Lib.hid (HN.out.below b1 HN.out.lt)
      clear hh s1 b1
      go_wp2_with (at_builtin
                   refine wpList_append_bsl rfl (.tmp 38) (.tmp 39) rfl (g + 2) v 8 _ rfl HO1.out w1.heap.size (some ⟨wr.heap.size + 1, 0, none⟩) 4 4 (leB 4 d) rfl HB1.out (by omega) (by have := HS.out; have := HS1.out; omega) ?_
                   intro v2 w2 h2 hgr2
                   have HO2 := Lib.hid h2; clear h2
                   have HGR := Lib.hid hgr2; clear hgr2)
      go_roundw
      case rel =>
        have hne : ∀ r, v.ownBlock = some r → g + 2 ≤ r := fun r hr => (HO1.out.lt r hr).1
        refine ⟨4, by omega, by first | rfl | go_num, ?_, ?_, ?_, ?_⟩
        · have := HO2.out; simpa [putTo, stP, bytesP] using this
        · exact HL1.out.grown HGR.out (by have := HS.out; have := HS1.out; omega) (fun r hr => by have := hne r hr; omega)
        · exact HN1.out.grown HGR.out (fun er => by have := hne (g + 1) er.symm; omega)
        · have := HGR.out.size; have := HS1.out; have := HS.out; omega
      case measure => simp [intOf]
    · have hn : wr.cell? ⟨g + 1, 4, none⟩ = some (.int .i64 ((e : Nat) : Int)) := HN.out.cell 4
      have hidx := szIdx4 wr
      have hput : ∀ (W : World), Calls Tryz.prog 64 #[.int .i64 (e : Nat), .int .i64 4] W _ := fun W => put_ok e 4 (by omega) (by omega) (by omega) W
      have HP := Lib.hid (hput wr); clear hput
      go_wp2_with fail
      refine HP.out.mono ?_
      rintro ev w1 ⟨rfl, hh, b1, s1⟩
      have HB1 := Lib.hid (bsl_of_holds (cap := 4) (leB_length 4 e) (Nat.le_refl _) (by unfold maxLen; omega) s1 hh)
      have HO1 := Lib.hid (own_below HO.out b1)
      have hsz1 : wr.heap.size ≤ w1.heap.size := b1.size
      have HS1 := Lib.hid hsz1; clear hsz1
      have HL1 := Lib.hid (HL.out.trans (b1.mono (by have := HS.out; omega)))
      have HN1 := Lib.hid (HN.out.below b1 HN.out.lt)
      clear hh s1 b1
      go_wp2_with (at_builtin
                   refine wpList_append_bsl rfl (.tmp 38) (.tmp 39) rfl (g + 2) v 12 _ rfl HO1.out w1.heap.size (some ⟨wr.heap.size + 1, 0, none⟩) 4 4 (leB 4 e) rfl HB1.out (by omega) (by have := HS.out; have := HS1.out; omega) ?_
                   intro v2 w2 h2 hgr2
                   have HO2 := Lib.hid h2; clear h2
                   have HGR := Lib.hid hgr2; clear hgr2)
      go_roundw
      case rel =>
        have hne : ∀ r, v.ownBlock = some r → g + 2 ≤ r := fun r hr => (HO1.out.lt r hr).1
        refine ⟨5, by omega, by first | rfl | go_num, ?_, ?_, ?_, ?_⟩
        · have := HO2.out; simpa [putTo, stP, bytesP] using this
        · exact HL1.out.grown HGR.out (by have := HS.out; have := HS1.out; omega) (fun r hr => by have := hne r hr; omega)
        · exact HN1.out.grown HGR.out (fun er => by have := hne (g + 1) er.symm; omega)
        · have := HGR.out.size; have := HS1.out; have := HS.out; omega
      case measure => simp [intOf]
    · go_wp2_with fail
      go_ret
      have := HO.out
      refine ⟨_, rfl, own_mono this (by have := HG.out; omega), ?_⟩
      rw [HG.out]
      exact HL.out
end Go.Proofs.YtldnelimemjaiaaGreatDoor
/-
  ptr.get: the pointer whose sixteen bytes these are.
-/
namespace Go.Proofs.YtldnelimemjaiaaGreatDoor
open Go.RowKit Go.Shelf
set_option maxRecDepth 100000

/-- The numbers that are there yet. -/
def numTo (n0 n1 n2 n3 n4 : Nat) : Nat → Array Value
  | 0 => #[.int .i64 0, .int .i64 0, .int .i64 0, .int .i64 0, .int .i64 0]
  | 1 => #[.int .i64 (n0 : Int), .int .i64 0, .int .i64 0, .int .i64 0, .int .i64 0]
  | 2 => #[.int .i64 (n0 : Int), .int .i64 (n1 : Int), .int .i64 0, .int .i64 0, .int .i64 0]
  | 3 => #[.int .i64 (n0 : Int), .int .i64 (n1 : Int), .int .i64 (n2 : Int), .int .i64 0, .int .i64 0]
  | 4 => #[.int .i64 (n0 : Int), .int .i64 (n1 : Int), .int .i64 (n2 : Int), .int .i64 (n3 : Int), .int .i64 0]
  | _ => #[.int .i64 (n0 : Int), .int .i64 (n1 : Int), .int .i64 (n2 : Int), .int .i64 (n3 : Int), .int .i64 (n4 : Int)]
/-- Where the next one stands. -/
def atP : Nat → Nat
  | 0 => 0
  | 1 => 1
  | 2 => 4
  | 3 => 8
  | 4 => 12
  | _ => 16
set_option maxHeartbeats 1000000 in
theorem get_any (a : Option Addr) (cap : Nat) (s : List UInt8) (w : World) (hB : Bsl w w.heap.size a 16 cap s) (hz : Szs w) : Calls Tryz.prog 69 #[.slice a 16 cap] w fun e w' => e = .returned (ptV (getP s)) ∧ Below w.heap.size w w' := by
  have l0 := leN_le s 0 1
  have l1 := leN_le s 1 3
  have l2 := leN_le s 4 4
  have l3 := leN_le s 8 4
  have l4 := leN_le s 12 4
  obtain ⟨P, hP⟩ : ∃ P, getP s = P := ⟨_, rfl⟩
  rw [hP]
  rw [getP] at hP
  obtain ⟨n0, h0⟩ : ∃ n, leN ((s.drop 0).take 1) = n := ⟨_, rfl⟩
  obtain ⟨n1, h1⟩ : ∃ n, leN ((s.drop 1).take 3) = n := ⟨_, rfl⟩
  obtain ⟨n2, h2⟩ : ∃ n, leN ((s.drop 4).take 4) = n := ⟨_, rfl⟩
  obtain ⟨n3, h3⟩ : ∃ n, leN ((s.drop 8).take 4) = n := ⟨_, rfl⟩
  obtain ⟨n4, h4⟩ : ∃ n, leN ((s.drop 12).take 4) = n := ⟨_, rfl⟩
  rw [h0, h1, h2, h3, h4] at hP
  rw [h0] at l0
  rw [h1] at l1
  rw [h2] at l2
  rw [h3] at l3
  rw [h4] at l4
  subst hP
  have i0 : (0 : Int) ≤ (n0 : Int) := by omega
  have j0 : (n0 : Int) ≤ 4294967295 := by omega
  have i1 : (0 : Int) ≤ (n1 : Int) := by omega
  have j1 : (n1 : Int) ≤ 4294967295 := by omega
  have i2 : (0 : Int) ≤ (n2 : Int) := by omega
  have j2 : (n2 : Int) ≤ 4294967295 := by omega
  have i3 : (0 : Int) ≤ (n3 : Int) := by omega
  have j3 : (n3 : Int) ≤ 4294967295 := by omega
  have i4 : (0 : Int) ≤ (n4 : Int) := by omega
  have j4 : (n4 : Int) ≤ 4294967295 := by omega
  obtain ⟨g, hg⟩ : ∃ g, w.heap.size = g := ⟨_, rfl⟩
  have HG := Lib.hid hg
  have HZ := Lib.hid hz; clear hz
  have HB := Lib.hid hB; clear hB
  have al2 : ∀ o1 o2 : Obj, Below w.heap.size w ((w.alloc o1).alloc o2) := fun o1 o2 => ((Below.refl _ w).alloc (Nat.le_refl _) _).alloc (by simp) _
  have y0 : ∀ o1 o2 : Obj, ((w.alloc o1).alloc o2).cell? ⟨0, 0, none⟩ = some (.int .i64 1) := fun o1 o2 => (HZ.out.step (al2 o1 o2)).2.1
  have y1 : ∀ o1 o2 : Obj, ((w.alloc o1).alloc o2).cell? ⟨0, 1, none⟩ = some (.int .i64 3) := fun o1 o2 => (HZ.out.step (al2 o1 o2)).2.2.1
  have y2 : ∀ o1 o2 : Obj, ((w.alloc o1).alloc o2).cell? ⟨0, 2, none⟩ = some (.int .i64 4) := fun o1 o2 => (HZ.out.step (al2 o1 o2)).2.2.2.1
  have y3 : ∀ o1 o2 : Obj, ((w.alloc o1).alloc o2).cell? ⟨0, 3, none⟩ = some (.int .i64 4) := fun o1 o2 => (HZ.out.step (al2 o1 o2)).2.2.2.2.1
  have y4 : ∀ o1 o2 : Obj, ((w.alloc o1).alloc o2).cell? ⟨0, 4, none⟩ = some (.int .i64 4) := fun o1 o2 => (HZ.out.step (al2 o1 o2)).2.2.2.2.2
  have H0 := Lib.hid h0; clear h0
  have H1 := Lib.hid h1; clear h1
  have H2 := Lib.hid h2; clear h2
  have H3 := Lib.hid h3; clear h3
  have H4 := Lib.hid h4; clear h4
  have AL := Lib.hid al2; clear al2
  go_enter Tryz.func69, Tryz.ntmps69
  go_wp2_with fail
  clear y0 y1 y2 y3 y4
  go_loopw [4, 8] (fun t i wr => ∃ j : Nat, j ≤ 5 ∧ i = .int .i64 j ∧ t = .int .i64 (atP j : Nat) ∧ Below g w wr ∧ Blk wr (g + 1) 115 (numTo n0 n1 n2 n3 n4 j) ∧ Blk wr g 28 #[.int .i64 0, .int .u32 0, .int .u32 0, .int .u32 0, .int .u32 0])
    (fun _ i _ => 5 - (intOf i).toNat)
  case atStart =>
    refine ⟨0, by omega, rfl, rfl, ?_, ?_, ?_⟩
    · have := AL.out (Obj.cells #[.int .i64 0, .int .u32 0, .int .u32 0, .int .u32 0, .int .u32 0] 28) (Obj.cells #[.int .i64 0, .int .i64 0, .int .i64 0, .int .i64 0, .int .i64 0] 115)
      rw [HG.out] at this
      exact this
    · have := Blk.new (w.alloc (Obj.cells #[.int .i64 0, .int .u32 0, .int .u32 0, .int .u32 0, .int .u32 0] 28)) 115 #[.int .i64 0, .int .i64 0, .int .i64 0, .int .i64 0, .int .i64 0]
      rw [World.size_alloc, HG.out] at this
      exact this
    · have := (Blk.new w 28 #[.int .i64 0, .int .u32 0, .int .u32 0, .int .u32 0, .int .u32 0]).alloc (Obj.cells #[.int .i64 0, .int .i64 0, .int .i64 0, .int .i64 0, .int .i64 0] 115)
      rw [HG.out] at this
      exact this
  case round =>
    obtain ⟨j, hj, rfl, rfl, hb, hn, hp⟩ := hrel
    have HL := Lib.hid hb; clear hb
    have HN := Lib.hid hn; clear hn
    have HP := Lib.hid hp; clear hp
    have hcs : j = 0 ∨ j = 1 ∨ j = 2 ∨ j = 3 ∨ j = 4 ∨ j = 5 := by omega
    rcases hcs with rfl | rfl | rfl | rfl | rfl | rfl
    · have hidx := szIdx0 wr
      have hB1 : Bsl wr wr.heap.size a 16 cap s := (HB.out.below (by rw [HG.out]; exact HL.out)).more HL.out.size
      have hget : Calls Tryz.prog 70 #[.slice a 16 cap, .int .i64 0, .int .i64 1] wr _ := get_bsl hB1 0 1 (by omega) (by omega) (by omega)
      rw [H0.out] at hget
      have HGT := Lib.hid hget; clear hget hB1
      have e0 : ((atP 0 : Nat) : Int) = 0 := rfl
      rw [e0]
      go_wp2_with fail
      refine HGT.out.mono ?_
      rintro ev w1 ⟨rfl, b1⟩
      have HN1 := Lib.hid (HN.out.below b1 HN.out.lt)
      have HP1 := Lib.hid (HP.out.below b1 HP.out.lt)
      have HL1 := Lib.hid (HL.out.trans (b1.mono (by have := HN.out.lt; omega)))
      have hcj : w1.cell? ⟨g + 1, 0, none⟩ = some (.int .i64 0) := HN1.out.cell 0
      have hfj : w1.frozen? ⟨g + 1, 0, none⟩ = false := HN1.out.frozen 0
      clear b1
      go_wp2_with fail
      go_roundw
      case rel =>
        refine ⟨1, by omega, by first | rfl | go_num, by first | rfl | go_num, ?_, ?_, ?_⟩
        · exact HL1.out.setCell (p := ⟨g + 1, 0, none⟩) (by show g ≤ g + 1; omega) _
        · exact HN1.out.set_ 0 (.int .i64 (n0 : Int))
        · exact HP1.out.far (by show g ≠ g + 1; omega) _
      case measure => simp [intOf]
    · have hidx := szIdx1 wr
      have hB1 : Bsl wr wr.heap.size a 16 cap s := (HB.out.below (by rw [HG.out]; exact HL.out)).more HL.out.size
      have hget : Calls Tryz.prog 70 #[.slice a 16 cap, .int .i64 1, .int .i64 3] wr _ := get_bsl hB1 1 3 (by omega) (by omega) (by omega)
      rw [H1.out] at hget
      have HGT := Lib.hid hget; clear hget hB1
      have e0 : ((atP 1 : Nat) : Int) = 1 := rfl
      rw [e0]
      go_wp2_with fail
      refine HGT.out.mono ?_
      rintro ev w1 ⟨rfl, b1⟩
      have HN1 := Lib.hid (HN.out.below b1 HN.out.lt)
      have HP1 := Lib.hid (HP.out.below b1 HP.out.lt)
      have HL1 := Lib.hid (HL.out.trans (b1.mono (by have := HN.out.lt; omega)))
      have hcj : w1.cell? ⟨g + 1, 1, none⟩ = some (.int .i64 0) := HN1.out.cell 1
      have hfj : w1.frozen? ⟨g + 1, 1, none⟩ = false := HN1.out.frozen 1
      clear b1
      go_wp2_with fail
      go_roundw
      case rel =>
        refine ⟨2, by omega, by first | rfl | go_num, by first | rfl | go_num, ?_, ?_, ?_⟩
        · exact HL1.out.setCell (p := ⟨g + 1, 1, none⟩) (by show g ≤ g + 1; omega) _
        · exact HN1.out.set_ 1 (.int .i64 (n1 : Int))
        · exact HP1.out.far (by show g ≠ g + 1; omega) _
      case measure => simp [intOf]
    · have hidx := szIdx2 wr
      have hB1 : Bsl wr wr.heap.size a 16 cap s := (HB.out.below (by rw [HG.out]; exact HL.out)).more HL.out.size
      have hget : Calls Tryz.prog 70 #[.slice a 16 cap, .int .i64 4, .int .i64 4] wr _ := get_bsl hB1 4 4 (by omega) (by omega) (by omega)
      rw [H2.out] at hget
      have HGT := Lib.hid hget; clear hget hB1
      have e0 : ((atP 2 : Nat) : Int) = 4 := rfl
      rw [e0]
      go_wp2_with fail
      refine HGT.out.mono ?_
      rintro ev w1 ⟨rfl, b1⟩
      have HN1 := Lib.hid (HN.out.below b1 HN.out.lt)
      have HP1 := Lib.hid (HP.out.below b1 HP.out.lt)
      have HL1 := Lib.hid (HL.out.trans (b1.mono (by have := HN.out.lt; omega)))
      have hcj : w1.cell? ⟨g + 1, 2, none⟩ = some (.int .i64 0) := HN1.out.cell 2
      have hfj : w1.frozen? ⟨g + 1, 2, none⟩ = false := HN1.out.frozen 2
      clear b1
      go_wp2_with fail
      go_roundw
      case rel =>
        refine ⟨3, by omega, by first | rfl | go_num, by first | rfl | go_num, ?_, ?_, ?_⟩
        · exact HL1.out.setCell (p := ⟨g + 1, 2, none⟩) (by show g ≤ g + 1; omega) _
        · exact HN1.out.set_ 2 (.int .i64 (n2 : Int))
        · exact HP1.out.far (by show g ≠ g + 1; omega) _
      case measure => simp [intOf]
    · have hidx := szIdx3 wr
      have hB1 : Bsl wr wr.heap.size a 16 cap s := (HB.out.below (by rw [HG.out]; exact HL.out)).more HL.out.size
      have hget : Calls Tryz.prog 70 #[.slice a 16 cap, .int .i64 8, .int .i64 4] wr _ := get_bsl hB1 8 4 (by omega) (by omega) (by omega)
      rw [H3.out] at hget
      have HGT := Lib.hid hget; clear hget hB1
      have e0 : ((atP 3 : Nat) : Int) = 8 := rfl
      rw [e0]
      go_wp2_with fail
      refine HGT.out.mono ?_
      rintro ev w1 ⟨rfl, b1⟩
      have HN1 := Lib.hid (HN.out.below b1 HN.out.lt)
      have HP1 := Lib.hid (HP.out.below b1 HP.out.lt)
      have HL1 := Lib.hid (HL.out.trans (b1.mono (by have := HN.out.lt; omega)))
      have hcj : w1.cell? ⟨g + 1, 3, none⟩ = some (.int .i64 0) := HN1.out.cell 3
      have hfj : w1.frozen? ⟨g + 1, 3, none⟩ = false := HN1.out.frozen 3
      clear b1
      go_wp2_with fail
      go_roundw
      case rel =>
        refine ⟨4, by omega, by first | rfl | go_num, by first | rfl | go_num, ?_, ?_, ?_⟩
        · exact HL1.out.setCell (p := ⟨g + 1, 3, none⟩) (by show g ≤ g + 1; omega) _
        · exact HN1.out.set_ 3 (.int .i64 (n3 : Int))
        · exact HP1.out.far (by show g ≠ g + 1; omega) _
      case measure => simp [intOf]
    · have hidx := szIdx4 wr
      have hB1 : Bsl wr wr.heap.size a 16 cap s := (HB.out.below (by rw [HG.out]; exact HL.out)).more HL.out.size
      have hget : Calls Tryz.prog 70 #[.slice a 16 cap, .int .i64 12, .int .i64 4] wr _ := get_bsl hB1 12 4 (by omega) (by omega) (by omega)
      rw [H4.out] at hget
      have HGT := Lib.hid hget; clear hget hB1
      have e0 : ((atP 4 : Nat) : Int) = 12 := rfl
      rw [e0]
      go_wp2_with fail
      refine HGT.out.mono ?_
      rintro ev w1 ⟨rfl, b1⟩
      have HN1 := Lib.hid (HN.out.below b1 HN.out.lt)
      have HP1 := Lib.hid (HP.out.below b1 HP.out.lt)
      have HL1 := Lib.hid (HL.out.trans (b1.mono (by have := HN.out.lt; omega)))
      have hcj : w1.cell? ⟨g + 1, 4, none⟩ = some (.int .i64 0) := HN1.out.cell 4
      have hfj : w1.frozen? ⟨g + 1, 4, none⟩ = false := HN1.out.frozen 4
      clear b1
      go_wp2_with fail
      go_roundw
      case rel =>
        refine ⟨5, by omega, by first | rfl | go_num, by first | rfl | go_num, ?_, ?_, ?_⟩
        · exact HL1.out.setCell (p := ⟨g + 1, 4, none⟩) (by show g ≤ g + 1; omega) _
        · exact HN1.out.set_ 4 (.int .i64 (n4 : Int))
        · exact HP1.out.far (by show g ≠ g + 1; omega) _
      case measure => simp [intOf]
    · have q0 : wr.cell? ⟨g + 1, 0, none⟩ = some (.int .i64 (n0 : Int)) := HN.out.cell 0
      have q1 : wr.cell? ⟨g + 1, 1, none⟩ = some (.int .i64 (n1 : Int)) := HN.out.cell 1
      have q2 : wr.cell? ⟨g + 1, 2, none⟩ = some (.int .i64 (n2 : Int)) := HN.out.cell 2
      have q3 : wr.cell? ⟨g + 1, 3, none⟩ = some (.int .i64 (n3 : Int)) := HN.out.cell 3
      have q4 : wr.cell? ⟨g + 1, 4, none⟩ = some (.int .i64 (n4 : Int)) := HN.out.cell 4
      have d0 : wr.cell? ⟨g, 0, none⟩ = some (.int .i64 0) := HP.out.cell 0
      have d1 : wr.cell? ⟨g, 1, none⟩ = some (.int .u32 0) := HP.out.cell 1
      have d2 : wr.cell? ⟨g, 2, none⟩ = some (.int .u32 0) := HP.out.cell 2
      have d3 : wr.cell? ⟨g, 3, none⟩ = some (.int .u32 0) := HP.out.cell 3
      have d4 : wr.cell? ⟨g, 4, none⟩ = some (.int .u32 0) := HP.out.cell 4
      have fr : ∀ i, wr.frozen? ⟨g, i, none⟩ = false := fun i => HP.out.frozen i
      go_wp2_with fail
      obtain ⟨wf, hwf⟩ : ∃ wf, set5 wr g (.int .i64 (n0 : Int)) (.int .u32 (n1 : Int)) (.int .u32 (n2 : Int)) (.int .u32 (n3 : Int)) (.int .u32 (n4 : Int)) = wf := ⟨_, rfl⟩
      have HX := Lib.hid (HP.out.set5 (.int .i64 (n0 : Int)) (.int .u32 (n1 : Int)) (.int .u32 (n2 : Int)) (.int .u32 (n3 : Int)) (.int .u32 (n4 : Int)))
      have HBF := Lib.hid (below_set5 HL.out (Nat.le_refl g) (.int .i64 (n0 : Int)) (.int .u32 (n1 : Int)) (.int .u32 (n2 : Int)) (.int .u32 (n3 : Int)) (.int .u32 (n4 : Int)))
      rw [hwf] at HX HBF
      simp only [set5] at hwf
      rw [hwf]
      clear hwf q0 q1 q2 q3 q4 d0 d1 d2 d3 d4 fr
      have e0 := HX.out.cell 0
      have e1 := HX.out.cell 1
      have e2 := HX.out.cell 2
      have e3 := HX.out.cell 3
      have e4 := HX.out.cell 4
      refine bodyPost_ret (v := ptV (n0, n1, n2, n3, n4)) (by simp [results, Tryz.f69, go_sem, e0, e1, e2, e3, e4]) rfl ⟨rfl, ?_⟩
      rw [HG.out]
      exact HBF.out
end Go.Proofs.YtldnelimemjaiaaGreatDoor
/-
  ptr.Check, ptr.Write and ptr.Read, whatever they are handed; nothing that was there is written.
-/
namespace Go.Proofs.YtldnelimemjaiaaGreatDoor
open Go.RowKit Go.Shelf
set_option maxRecDepth 100000

/-- A list of the call's own, and an error's number. -/
def OutB (S : List UInt8) (c : Int) (w : World) (e : Ending) (w' : World) : Prop := ∃ v, e = .returned (.tuple #[v, .int .i64 c]) ∧ w'.ownsRow w.heap.size 5 1 v S.length (vals S) ∧ Below w.heap.size w w'
theorem outB_no {w w' : World} {c : Int} {e : Ending} (he : e = .returned (.tuple #[.slice none 0 0, .int .i64 c])) (hb : Below w.heap.size w w') : OutB [] c w e w' := ⟨_, he, own_nil _ _, hb⟩
/-- A pointer, and an error's number. -/
def OutP (p : Pt) (c : Int) (w : World) (e : Ending) (w' : World) : Prop := e = .returned (.tuple #[ptV p, .int .i64 c]) ∧ Below w.heap.size w w'
/-- What Check answers. -/
def pcheckO (p : Pt) : Int := if MayP p then 0 else 8
/-- What Write answers. -/
def pwriteO (p : Pt) : List UInt8 × Int := if MayP p then (bytesP p, 0) else ([], 8)
/-- What Read answers. -/
def preadO (s : List UInt8) : Pt × Int := if s.length = 16 then (if MayP (getP s) then (getP s, 0) else (p0, 8)) else (p0, 3)

theorem Check_any (p : Pt) (w : World) : Calls Tryz.prog 57 #[ptV p] w fun e w' => e = .returned (.int .i64 (pcheckO p)) ∧ Below w.heap.size w w' := by
  have hm := mayBe_any p (w.alloc (.cells (ptC p).toArray 28))
  have hb1 : Below w.heap.size w (w.alloc (.cells (ptC p).toArray 28)) := (Below.refl _ w).alloc (Nat.le_refl _) _
  have HB := Lib.hid hb1; clear hb1
  rw [pcheckO]
  by_cases h : MayP p
  · rw [if_pos h]
    rw [decide_eq_true h] at hm
    obtain ⟨a, b, c, d, e⟩ := p
    have HM := Lib.hid hm; clear hm
    go_enter Tryz.func57, Tryz.ntmps57
    go_wp2_with (go_at_call 61; refine HM.out.mono ?_; rintro ev w1 ⟨rfl, b1⟩; have HB1 := Lib.hid (HB.out.trans (b1.mono (by simp [ptC]))); clear b1)
    go_ret
    exact ⟨rfl, HB1.out⟩
  · rw [if_neg h]
    rw [decide_eq_false h] at hm
    obtain ⟨a, b, c, d, e⟩ := p
    have HM := Lib.hid hm; clear hm
    go_enter Tryz.func57, Tryz.ntmps57
    go_wp2_with (go_at_call 61; refine HM.out.mono ?_; rintro ev w1 ⟨rfl, b1⟩; have HB1 := Lib.hid (HB.out.trans (b1.mono (by simp [ptC]))); clear b1)
    go_ret
    exact ⟨rfl, HB1.out⟩

theorem Write_any (p : Pt) (hw : WfP p) (w : World) (hz : Szs w) : Calls Tryz.prog 33 #[ptV p] w (OutB (pwriteO p).1 (pwriteO p).2 w) := by
  have hm := mayBe_any p (w.alloc (.cells (ptC p).toArray 28))
  have hb1 : Below w.heap.size w (w.alloc (.cells (ptC p).toArray 28)) := (Below.refl _ w).alloc (Nat.le_refl _) _
  have HB := Lib.hid hb1; clear hb1
  have HZ := Lib.hid hz; clear hz
  have HW := Lib.hid hw; clear hw
  have hk : Blk (w.alloc (.cells (ptC p).toArray 28)) w.heap.size 28 (ptC p).toArray := Blk.new w _ _
  have HK := Lib.hid hk; clear hk
  rw [pwriteO]
  by_cases h : MayP p
  · rw [if_pos h]
    rw [decide_eq_true h] at hm
    have HR := Lib.hid h.room
    clear h
    obtain ⟨a, b, c, d, e⟩ := p
    have HM := Lib.hid hm; clear hm
    go_enter Tryz.func33, Tryz.ntmps33
    go_wp2_with (first
      | (go_at_call 61
         refine HM.out.mono ?_
         rintro ev w1 ⟨rfl, b1⟩
         have HB1 := Lib.hid (HB.out.trans (b1.mono (by simp [ptC])))
         obtain ⟨c0, c1, c2, c3, c4⟩ := (HK.out.below b1 HK.out.lt).five
         have HP := Lib.hid (put_any (a, b, c, d, e) HW.out HR.out w1 (HZ.out.step HB1.out))
         clear b1)
      | (go_at_call 62
         refine HP.out.mono ?_
         rintro ev w2 ⟨v2, rfl, o2, b2⟩
         have HO2 := Lib.hid (own_mono o2 HB1.out.size)
         have HB2 := Lib.hid (HB1.out.trans (b2.mono HB1.out.size))
         clear b2 o2))
    go_ret2
    refine ⟨v2, rfl, ?_, HB2.out⟩
    rw [bytesP_length]
    exact HO2.out
  · rw [if_neg h]
    rw [decide_eq_false h] at hm
    obtain ⟨a, b, c, d, e⟩ := p
    have HM := Lib.hid hm; clear hm
    go_enter Tryz.func33, Tryz.ntmps33
    go_wp2_with (go_at_call 61; refine HM.out.mono ?_; rintro ev w1 ⟨rfl, b1⟩; have HB1 := Lib.hid (HB.out.trans (b1.mono (by simp [ptC]))); clear b1)
    refine bodyPost_ret (v := .tuple #[.slice none 0 0, .int .i64 8]) (by simp [results, Tryz.f33, go_sem]) rfl ?_
    exact outB_no rfl HB1.out

theorem Read_any (a : Option Addr) (len cap : Nat) (s : List UInt8) (w : World) (hB : Bsl w w.heap.size a len cap s) (hz : Szs w) : Calls Tryz.prog 46 #[.slice a len cap] w (OutP (preadO s).1 (preadO s).2 w) := by
  have hl := hB.1
  rw [preadO]
  have hk : Blk (w.alloc (.cells #[.int .i64 0, .int .u32 0, .int .u32 0, .int .u32 0, .int .u32 0] 28)) w.heap.size 28 #[.int .i64 0, .int .u32 0, .int .u32 0, .int .u32 0, .int .u32 0] := Blk.new w _ _
  have hb1 : Below w.heap.size w (w.alloc (.cells #[.int .i64 0, .int .u32 0, .int .u32 0, .int .u32 0, .int .u32 0] 28)) := (Below.refl _ w).alloc (Nat.le_refl _) _
  have HK := Lib.hid hk; clear hk
  have HB1 := Lib.hid hb1; clear hb1
  have i0 : (0 : Int) ≤ (len : Int) := by omega
  have i1 : (len : Int) ≤ 9223372036854775807 := by have h1 := hB.2.1; have h2 := hB.2.2.1; unfold maxLen at h2; omega
  by_cases h16 : s.length = 16
  · rw [if_pos h16]
    obtain rfl : len = 16 := by omega
    have hb2 : Bsl (w.alloc (.cells #[.int .i64 0, .int .u32 0, .int .u32 0, .int .u32 0, .int .u32 0] 28)) (w.alloc (.cells #[.int .i64 0, .int .u32 0, .int .u32 0, .int .u32 0, .int .u32 0] 28)).heap.size a 16 cap s := hB.step HB1.out
    have HG := Lib.hid (get_any a cap s _ hb2 (hz.step HB1.out)); clear hb2
    have hm := fun w => mayBe_any (getP s) w
    obtain ⟨P, hP⟩ : ∃ P, getP s = P := ⟨_, rfl⟩
    rw [hP] at HG hm ⊢
    clear hP hl hz hB h16
    by_cases h : MayP P
    · rw [if_pos h]
      rw [decide_eq_true h] at hm
      clear h
      obtain ⟨a', b', c', d', e'⟩ := P
      have HM := Lib.hid hm; clear hm
      go_enter Tryz.func46, Tryz.ntmps46
      go_wp2_with (first
        | (go_at_call 69
           refine HG.out.mono ?_
           rintro ev w1 ⟨rfl, b1⟩
           have HB2 := Lib.hid (HB1.out.trans (b1.mono (by simp)))
           have HK2 := Lib.hid (HK.out.below b1 HK.out.lt)
           have HB3 := Lib.hid (HB2.out.alloc HB2.out.size (.cells #[.int .i64 a', .int .u32 (b' : Int), .int .u32 (c' : Int), .int .u32 (d' : Int), .int .u32 (e' : Int)] 28))
           have HK3 := Lib.hid (HK2.out.alloc (.cells #[.int .i64 a', .int .u32 (b' : Int), .int .u32 (c' : Int), .int .u32 (d' : Int), .int .u32 (e' : Int)] 28))
           have HP3 := Lib.hid (Blk.new w1 28 #[.int .i64 a', .int .u32 (b' : Int), .int .u32 (c' : Int), .int .u32 (d' : Int), .int .u32 (e' : Int)])
           clear b1)
        | (go_at_call 61
           refine (HM.out _).mono ?_
           rintro ev w2 ⟨rfl, b2⟩
           have HB4 := Lib.hid (HB3.out.trans (b2.mono HB3.out.size))
           have HK4 := Lib.hid (HK3.out.below b2 HK3.out.lt)
           obtain ⟨c0, c1, c2, c3, c4⟩ := (HP3.out.below b2 HP3.out.lt).five
           have d0 : w2.cell? ⟨w.heap.size, 0, none⟩ = some (.int .i64 0) := HK4.out.cell 0
           have d1 : w2.cell? ⟨w.heap.size, 1, none⟩ = some (.int .u32 0) := HK4.out.cell 1
           have d2 : w2.cell? ⟨w.heap.size, 2, none⟩ = some (.int .u32 0) := HK4.out.cell 2
           have d3 : w2.cell? ⟨w.heap.size, 3, none⟩ = some (.int .u32 0) := HK4.out.cell 3
           have d4 : w2.cell? ⟨w.heap.size, 4, none⟩ = some (.int .u32 0) := HK4.out.cell 4
           have fr : ∀ i, w2.frozen? ⟨w.heap.size, i, none⟩ = false := fun i => HK4.out.frozen i
           clear b2))
      obtain ⟨wf, hwf⟩ : ∃ wf, set5 w2 w.heap.size (.int .i64 a') (.int .u32 (b' : Int)) (.int .u32 (c' : Int)) (.int .u32 (d' : Int)) (.int .u32 (e' : Int)) = wf := ⟨_, rfl⟩
      have HXF := Lib.hid (HK4.out.set5 (.int .i64 a') (.int .u32 (b' : Int)) (.int .u32 (c' : Int)) (.int .u32 (d' : Int)) (.int .u32 (e' : Int)))
      have HBF := Lib.hid (below_set5 HB4.out (Nat.le_refl w.heap.size) (.int .i64 a') (.int .u32 (b' : Int)) (.int .u32 (c' : Int)) (.int .u32 (d' : Int)) (.int .u32 (e' : Int)))
      rw [hwf] at HXF HBF
      simp only [set5] at hwf
      rw [hwf]
      clear hwf d0 d1 d2 d3 d4 fr
      have e0 := HXF.out.cell 0
      have e1 := HXF.out.cell 1
      have e2 := HXF.out.cell 2
      have e3 := HXF.out.cell 3
      have e4 := HXF.out.cell 4
      exact bodyPost_ret (v := .tuple #[ptV (a', b', c', d', e'), .int .i64 0]) (by simp [results, Tryz.f46, go_sem, e0, e1, e2, e3, e4]) rfl ⟨rfl, HBF.out⟩
    · rw [if_neg h]
      rw [decide_eq_false h] at hm
      clear h
      obtain ⟨a', b', c', d', e'⟩ := P
      have HM := Lib.hid hm; clear hm
      go_enter Tryz.func46, Tryz.ntmps46
      go_wp2_with (first
        | (go_at_call 69
           refine HG.out.mono ?_
           rintro ev w1 ⟨rfl, b1⟩
           have HB2 := Lib.hid (HB1.out.trans (b1.mono (by simp)))
           have HK2 := Lib.hid (HK.out.below b1 HK.out.lt)
           have HB3 := Lib.hid (HB2.out.alloc HB2.out.size (.cells #[.int .i64 a', .int .u32 (b' : Int), .int .u32 (c' : Int), .int .u32 (d' : Int), .int .u32 (e' : Int)] 28))
           have HK3 := Lib.hid (HK2.out.alloc (.cells #[.int .i64 a', .int .u32 (b' : Int), .int .u32 (c' : Int), .int .u32 (d' : Int), .int .u32 (e' : Int)] 28))
           have HP3 := Lib.hid (Blk.new w1 28 #[.int .i64 a', .int .u32 (b' : Int), .int .u32 (c' : Int), .int .u32 (d' : Int), .int .u32 (e' : Int)])
           clear b1)
        | (go_at_call 61
           refine (HM.out _).mono ?_
           rintro ev w2 ⟨rfl, b2⟩
           have HB4 := Lib.hid (HB3.out.trans (b2.mono HB3.out.size))
           have HK4 := Lib.hid (HK3.out.below b2 HK3.out.lt)
           obtain ⟨c0, c1, c2, c3, c4⟩ := (HP3.out.below b2 HP3.out.lt).five
           have d0 : w2.cell? ⟨w.heap.size, 0, none⟩ = some (.int .i64 0) := HK4.out.cell 0
           have d1 : w2.cell? ⟨w.heap.size, 1, none⟩ = some (.int .u32 0) := HK4.out.cell 1
           have d2 : w2.cell? ⟨w.heap.size, 2, none⟩ = some (.int .u32 0) := HK4.out.cell 2
           have d3 : w2.cell? ⟨w.heap.size, 3, none⟩ = some (.int .u32 0) := HK4.out.cell 3
           have d4 : w2.cell? ⟨w.heap.size, 4, none⟩ = some (.int .u32 0) := HK4.out.cell 4
           have fr : ∀ i, w2.frozen? ⟨w.heap.size, i, none⟩ = false := fun i => HK4.out.frozen i
           clear b2))
      obtain ⟨wf, hwf⟩ : ∃ wf, set5 w2 w.heap.size (.int .i64 0) (.int .u32 0) (.int .u32 0) (.int .u32 0) (.int .u32 0) = wf := ⟨_, rfl⟩
      have HXF := Lib.hid (HK4.out.set5 (.int .i64 0) (.int .u32 0) (.int .u32 0) (.int .u32 0) (.int .u32 0))
      have HBF := Lib.hid (below_set5 HB4.out (Nat.le_refl w.heap.size) (.int .i64 0) (.int .u32 0) (.int .u32 0) (.int .u32 0) (.int .u32 0))
      rw [hwf] at HXF HBF
      simp only [set5] at hwf
      rw [hwf]
      clear hwf d0 d1 d2 d3 d4 fr
      have e0 := HXF.out.cell 0
      have e1 := HXF.out.cell 1
      have e2 := HXF.out.cell 2
      have e3 := HXF.out.cell 3
      have e4 := HXF.out.cell 4
      exact bodyPost_ret (v := .tuple #[ptV p0, .int .i64 8]) (by simp [results, Tryz.f46, go_sem, e0, e1, e2, e3, e4]) rfl ⟨rfl, HBF.out⟩
  · rw [if_neg h16]
    have hne : ¬ (len : Int) = 16 := by omega
    have d0 : (w.alloc (.cells #[.int .i64 0, .int .u32 0, .int .u32 0, .int .u32 0, .int .u32 0] 28)).cell? ⟨w.heap.size, 0, none⟩ = some (.int .i64 0) := HK.out.cell 0
    have d1 : (w.alloc (.cells #[.int .i64 0, .int .u32 0, .int .u32 0, .int .u32 0, .int .u32 0] 28)).cell? ⟨w.heap.size, 1, none⟩ = some (.int .u32 0) := HK.out.cell 1
    have d2 : (w.alloc (.cells #[.int .i64 0, .int .u32 0, .int .u32 0, .int .u32 0, .int .u32 0] 28)).cell? ⟨w.heap.size, 2, none⟩ = some (.int .u32 0) := HK.out.cell 2
    have d3 : (w.alloc (.cells #[.int .i64 0, .int .u32 0, .int .u32 0, .int .u32 0, .int .u32 0] 28)).cell? ⟨w.heap.size, 3, none⟩ = some (.int .u32 0) := HK.out.cell 3
    have d4 : (w.alloc (.cells #[.int .i64 0, .int .u32 0, .int .u32 0, .int .u32 0, .int .u32 0] 28)).cell? ⟨w.heap.size, 4, none⟩ = some (.int .u32 0) := HK.out.cell 4
    have fr : ∀ i, (w.alloc (.cells #[.int .i64 0, .int .u32 0, .int .u32 0, .int .u32 0, .int .u32 0] 28)).frozen? ⟨w.heap.size, i, none⟩ = false := fun i => HK.out.frozen i
    go_enter Tryz.func46, Tryz.ntmps46
    go_wp2_with fail
    exact bodyPost_ret (v := .tuple #[ptV p0, .int .i64 3]) (by simp [results, Tryz.f46, go_sem, d0, d1, d2, d3, d4]) rfl ⟨rfl, HB1.out⟩
end Go.Proofs.YtldnelimemjaiaaGreatDoor
