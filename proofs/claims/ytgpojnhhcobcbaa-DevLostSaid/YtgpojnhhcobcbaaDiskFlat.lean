/-
  Plain lists for layer 9: all bytes of a disk in one row, piece behind piece.
-/
import Derived.Test.YtgpojnhhcobcbaaDiskMath
namespace Go.Proofs.Ytgpojnhhcobcbaa

/-- The pieces of a disk: its blocks, then its writes' bytes. -/
def pieces (D : DkL) : List (List UInt8) := D.1 ++ D.2.map (·.2)
def flatP (P : List (List UInt8)) (k : Nat) : List UInt8 := (P.take k).flatten
def startP (P : List (List UInt8)) (k : Nat) : Nat := (flatP P k).length
/-- The room where the first k pieces are laid. -/
def roomP (P : List (List UInt8)) (T k : Nat) : List UInt8 := flatP P k ++ List.replicate (T - startP P k) 0
/-- What a list is where s is laid over it from o on. -/
def overL (t : List UInt8) (o : Nat) (s : List UInt8) : List UInt8 := t.take o ++ (s ++ t.drop (o + s.length))
theorem overL_length {t : List UInt8} {o : Nat} {s : List UInt8} (h : o + s.length ≤ t.length) : (overL t o s).length = t.length := by simp [overL]; omega
theorem flatP_succ {P : List (List UInt8)} {k : Nat} (h : k < P.length) : flatP P (k + 1) = flatP P k ++ P.getD k [] := by
  unfold flatP
  rw [List.take_succ_eq_append_getElem h, List.flatten_append, List.getD_eq_getElem?_getD, List.getElem?_eq_getElem h]
  simp
theorem startP_succ {P : List (List UInt8)} {k : Nat} (h : k < P.length) : startP P (k + 1) = startP P k + (P.getD k []).length := by
  unfold startP
  rw [flatP_succ h, List.length_append]
theorem startP_mono {P : List (List UInt8)} {j k : Nat} (h : j ≤ k) : startP P j ≤ startP P k := by
  induction k with
  | zero => obtain rfl : j = 0 := by omega
            exact Nat.le_refl _
  | succ k ih =>
    rcases Nat.lt_or_ge j (k + 1) with h1 | h1
    · refine Nat.le_trans (ih (by omega)) ?_
      rcases Nat.lt_or_ge k P.length with h2 | h2
      · rw [startP_succ h2]
        exact Nat.le_add_right _ _
      · unfold startP flatP
        rw [List.take_of_length_le h2, List.take_of_length_le (by omega)]
        exact Nat.le_refl _
    · obtain rfl : j = k + 1 := by omega
      exact Nat.le_refl _
theorem startP_zero (P : List (List UInt8)) : startP P 0 = 0 := rfl
theorem roomP_length {P : List (List UInt8)} {T k : Nat} (h : startP P k ≤ T) : (roomP P T k).length = T := by
  unfold roomP
  rw [List.length_append, List.length_replicate]
  unfold startP at h ⊢
  omega
theorem roomP_zero (P : List (List UInt8)) (T : Nat) : roomP P T 0 = List.replicate T 0 := by simp [roomP, flatP, startP]
theorem room_step {P : List (List UInt8)} {T k : Nat} (h : k < P.length) (hT : startP P (k + 1) ≤ T) : overL (roomP P T k) (startP P k) (P.getD k []) = roomP P T (k + 1) := by
  have h1 := startP_succ h
  unfold overL roomP
  rw [flatP_succ h]
  have e1 : (flatP P k ++ List.replicate (T - startP P k) 0).take (startP P k) = flatP P k := by
    unfold startP
    simp
  have e2 : (flatP P k ++ List.replicate (T - startP P k) 0).drop (startP P k + (P.getD k []).length) = List.replicate (T - startP P (k + 1)) 0 := by
    rw [List.drop_append, List.drop_of_length_le (by unfold startP; omega), List.nil_append, List.drop_replicate]
    congr 1
    show T - startP P k - (startP P k + (P.getD k []).length - (flatP P k).length) = _
    have : (flatP P k).length = startP P k := rfl
    omega
  rw [e1, e2, List.append_assoc]
theorem room_same {P : List (List UInt8)} {T k : Nat} (h : k < P.length) (h0 : (P.getD k []).length = 0) : roomP P T k = roomP P T (k + 1) := by
  have h1 := startP_succ h
  have h2 := flatP_succ h
  rw [List.eq_nil_of_length_eq_zero h0, List.append_nil] at h2
  unfold roomP
  rw [h2, h1, h0, Nat.add_zero]
theorem pieces_length (D : DkL) : (pieces D).length = D.1.length + D.2.length := by simp [pieces]
theorem pieces_left {D : DkL} {i : Nat} (h : i < D.1.length) : (pieces D).getD i [] = D.1.getD i [] := by
  rw [List.getD_eq_getElem?_getD, pieces, List.getElem?_append_left h, ← List.getD_eq_getElem?_getD]
theorem pieces_right {D : DkL} {i : Nat} (h : i < D.2.length) : (pieces D).getD (D.1.length + i) [] = (wr_ D.2 i).2 := by
  rw [List.getD_eq_getElem?_getD, pieces, List.getElem?_append_right (by omega)]
  simp [wr_, h]
theorem startP_sumB {D : DkL} : ∀ {k : Nat}, k ≤ D.1.length → startP (pieces D) k = sumB D.1 k
  | 0, _ => rfl
  | k + 1, h => by
    rw [startP_succ (by rw [pieces_length]; omega), startP_sumB (by omega), pieces_left (by omega)]
    rfl
theorem startP_sumW {D : DkL} : ∀ {k : Nat}, k ≤ D.2.length → startP (pieces D) (D.1.length + k) = sumB D.1 D.1.length + sumW D.2 k
  | 0, _ => by rw [Nat.add_zero, startP_sumB (Nat.le_refl _)]; rfl
  | k + 1, h => by
    have h1 : startP (pieces D) (D.1.length + k + 1) = _ := startP_succ (by rw [pieces_length]; omega)
    rw [← Nat.add_assoc, h1, startP_sumW (by omega), pieces_right (by omega)]
    show _ = _ + (_ + _)
    omega
theorem startP_sumD (D : DkL) : startP (pieces D) (D.1.length + D.2.length) = sumD D := startP_sumW (Nat.le_refl _)
/-- A byte of a piece, where it is laid. -/
theorem room_get {P : List (List UInt8)} {T n k j : Nat} (h : k < n) (hn : n ≤ P.length) (hj : j < (P.getD k []).length) : (roomP P T n)[startP P k + j]? = (P.getD k [])[j]? := by
  have hlt : startP P k + j < startP P n := by
    have h1 := startP_succ (show k < P.length by omega)
    have h2 := startP_mono (P := P) (show k + 1 ≤ n by omega)
    omega
  unfold roomP
  rw [List.getElem?_append_left (by exact hlt)]
  clear hlt
  induction n with
  | zero => omega
  | succ n ih =>
    rw [flatP_succ (by omega)]
    rcases Nat.lt_or_ge k n with h1 | h1
    · have hlt : startP P k + j < (flatP P n).length := by
        have h1' := startP_succ (show k < P.length by omega)
        have h2 := startP_mono (P := P) (show k + 1 ≤ n by omega)
        show _ < startP P n
        omega
      rw [List.getElem?_append_left hlt]
      exact ih h1 (by omega)
    · obtain rfl : k = n := by omega
      rw [List.getElem?_append_right (by unfold startP; omega)]
      congr 1
      unfold startP
      omega
theorem getD_set {α : Type} (l : List α) (p i : Nat) (z d : α) (hp : p < l.length) : (l.set p z).getD i d = if i = p then z else l.getD i d := by
  rw [List.getD_eq_getElem?_getD, List.getElem?_set]
  by_cases e : i = p
  · subst e
    simp [hp]
  · rw [if_neg (fun h => e h.symm), if_neg e, ← List.getD_eq_getElem?_getD]
theorem startP_set {P : List (List UInt8)} {p : Nat} {z : List UInt8} (hp : p < P.length) (hz : z.length = (P.getD p []).length) : ∀ {k : Nat}, k ≤ P.length → startP (P.set p z) k = startP P k
  | 0, _ => rfl
  | k + 1, h => by
    rw [startP_succ (by rw [List.length_set]; omega), startP_succ (by omega), startP_set hp hz (by omega), getD_set _ _ _ _ _ hp]
    split
    · rename_i e
      rw [e, hz]
    · rfl
theorem flatP_set {P : List (List UInt8)} {p q : Nat} {y : UInt8} (hp : p < P.length) (hq : q < (P.getD p []).length) : ∀ {k : Nat}, p < k → k ≤ P.length → flatP (P.set p ((P.getD p []).set q y)) k = (flatP P k).set (startP P p + q) y
  | 0, h, _ => absurd h (Nat.not_lt_zero _)
  | k + 1, h, hk => by
    rw [flatP_succ (by rw [List.length_set]; omega), flatP_succ (by omega), getD_set _ _ _ _ _ hp]
    rcases Nat.lt_or_ge p k with h1 | h1
    · rw [if_neg (by omega), flatP_set hp hq h1 (by omega), List.set_append_left]
      have e1 := startP_succ hp
      have e2 := startP_mono (P := P) (show p + 1 ≤ k by omega)
      show _ < startP P k
      omega
    · obtain rfl : p = k := by omega
      rw [if_pos rfl]
      have e : flatP (P.set p ((P.getD p []).set q y)) p = flatP P p := by
        unfold flatP
        rw [List.take_set, List.set_eq_of_length_le (by simp; omega)]
      rw [e, List.set_append_right _ _ (by unfold startP; omega)]
      congr 2
      unfold startP
      omega
/-- A disk with one byte turned. -/
def turnedD (D : DkL) (p q : Nat) (b : UInt8) : DkL := (D.1.set p ((D.1.getD p []).set q ((D.1.getD p []).getD q 0 ^^^ b)), D.2)
theorem turned_pieces {D : DkL} {p q : Nat} {b : UInt8} (hp : p < D.1.length) : pieces (turnedD D p q b) = (pieces D).set p (((pieces D).getD p []).set q (((pieces D).getD p []).getD q 0 ^^^ b)) := by
  rw [pieces_left hp]
  unfold pieces turnedD
  rw [List.set_append_left _ _ hp]
theorem turned_room {D : DkL} {p q : Nat} {b : UInt8} (hp : p < D.1.length) (hq : q < (D.1.getD p []).length) (T : Nat) : roomP (pieces (turnedD D p q b)) T (D.1.length + D.2.length) = (roomP (pieces D) T (D.1.length + D.2.length)).set (startP (pieces D) p + q) ((D.1.getD p []).getD q 0 ^^^ b) := by
  have hl := pieces_length D
  have hpP : p < (pieces D).length := by omega
  have hqP : q < ((pieces D).getD p []).length := by rw [pieces_left hp]; exact hq
  unfold roomP
  rw [turned_pieces hp, startP_set hpP (by simp) (by omega), flatP_set hpP hqP (by omega) (by omega), List.set_append_left, pieces_left hp]
  have e1 := startP_succ hpP
  have e2 := startP_mono (P := pieces D) (show p + 1 ≤ D.1.length + D.2.length by omega)
  show _ < startP _ _
  omega
theorem turned_len {D : DkL} {p q : Nat} {b : UInt8} (i : Nat) : ((turnedD D p q b).1.getD i []).length = (D.1.getD i []).length := by
  rcases Nat.lt_or_ge p D.1.length with hp | hp
  · show ((D.1.set p _).getD i []).length = _
    rw [getD_set _ _ _ _ _ hp]
    split
    · rename_i e
      rw [e, List.length_set]
    · rfl
  · show ((D.1.set p _).getD i []).length = _
    rw [List.set_eq_of_length_le hp]
theorem turned_sum {D : DkL} {p q : Nat} {b : UInt8} (hp : p < D.1.length) : sumD (turnedD D p q b) = sumD D := by
  rw [← startP_sumD, ← startP_sumD, turned_pieces hp]
  have e : (turnedD D p q b).1.length = D.1.length := List.length_set ..
  have e2 : (turnedD D p q b).2 = D.2 := rfl
  rw [e, e2]
  exact startP_set (by rw [pieces_length]; omega) (by simp) (by rw [pieces_length]; omega)
theorem turned_may {D : DkL} {p q : Nat} {b : UInt8} (h : MayD D) : MayD (turnedD D p q b) :=
  ⟨⟨by rw [← h.1.1]; exact List.length_set .., fun i hi => by rw [turned_len]; exact h.1.2 i hi⟩, h.2⟩
end Go.Proofs.Ytgpojnhhcobcbaa
