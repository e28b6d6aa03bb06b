/-
  Plain mathematics of layer 2: four words, turned there and back; the four words of bytes; texts of one length with one other piece have unlike four words. Nothing of the program.
-/
import Derived.Test.YtoednighmdoooaaByt
namespace Go.Proofs.Ytoednighmdoooaa
set_option maxRecDepth 100000

def pl (x y : BitVec 32) : BitVec 32 := x + y
def mi (x y : BitVec 32) : BitVec 32 := x - y
def xo (x y : BitVec 32) : BitVec 32 := x ^^^ y
def ro (k : Nat) (x : BitVec 32) : BitVec 32 := x.rotateLeft k

theorem mi_pl (x y : BitVec 32) : mi (pl x y) y = x := by unfold mi pl; exact BitVec.add_sub_cancel x y
theorem pl_mi (x y : BitVec 32) : pl (mi x y) y = x := by unfold mi pl; exact BitVec.sub_add_cancel x y
theorem xo_xo (x y : BitVec 32) : xo (xo x y) y = x := by unfold xo; rw [BitVec.xor_assoc, BitVec.xor_self, BitVec.xor_zero]
theorem ro_ro (i j : Nat) (h : i + j = 32) (hi : 0 < i) (hj : 0 < j) (x : BitVec 32) : ro i (ro j x) = x := by
  unfold ro
  apply BitVec.eq_of_getElem_eq
  intro k hk
  have ei : i % 32 = i := Nat.mod_eq_of_lt (by omega)
  have ej : j % 32 = j := Nat.mod_eq_of_lt (by omega)
  rw [BitVec.getElem_rotateLeft]
  simp only [ei]
  split
  · rw [BitVec.getElem_rotateLeft]
    simp only [ej]
    rw [dif_neg (by omega)]
    congr 1
    omega
  · rw [BitVec.getElem_rotateLeft]
    simp only [ej]
    rw [dif_pos (by omega)]
    congr 1
    omega
/-- One bit to the left, by numbers. -/
theorem ro_succ (k : Nat) (hk : k < 31) (x : BitVec 32) : (ro (k + 1) x).toNat = (ro k x).toNat * 2 % 4294967296 + (ro k x).toNat * 2 / 4294967296 := by
  have h1 : ro (k + 1) x = ro 1 (ro k x) := by
    unfold ro
    apply BitVec.eq_of_getElem_eq
    intro i hi
    have e1 : (k + 1) % 32 = k + 1 := Nat.mod_eq_of_lt (by omega)
    have e2 : k % 32 = k := Nat.mod_eq_of_lt (by omega)
    have e3 : 1 % 32 = 1 := rfl
    simp only [BitVec.getElem_rotateLeft, e1, e2, e3]
    by_cases a : i < 1
    · rw [dif_pos (by omega), dif_pos a]
      rcases Nat.eq_zero_or_pos k with h0 | h0
      · subst h0
        rw [dif_neg (by omega)]
        congr 1 <;> omega
      · rw [dif_neg (by omega)]
        congr 1
        omega
    · rw [dif_neg a]
      by_cases b : i < k + 1
      · rw [dif_pos b, dif_pos (by omega)]
        congr 1
        omega
      · rw [dif_neg b, dif_neg (by omega)]
        congr 1
        omega
  rw [h1]
  generalize ro k x = y
  unfold ro
  have hy := y.isLt
  rw [BitVec.rotateLeft_def, BitVec.toNat_or, BitVec.toNat_shiftLeft, BitVec.toNat_ushiftRight]
  have e1 : 1 % 32 = 1 := rfl
  rw [e1, Nat.shiftLeft_eq, Nat.shiftRight_eq_div_pow]
  have e2 : y.toNat * 2 ^ 1 % 2 ^ 32 = (y.toNat % 2 ^ 31) * 2 := by omega
  have e3 : y.toNat / 2 ^ (32 - 1) ≤ 1 := by omega
  have e4 : (y.toNat % 2 ^ 31) * 2 ||| y.toNat / 2 ^ (32 - 1) = (y.toNat % 2 ^ 31) * 2 + y.toNat / 2 ^ (32 - 1) := by
    have := Nat.two_pow_add_eq_or_of_lt (i := 1) (b := y.toNat / 2 ^ (32 - 1)) (by omega) (y.toNat % 2 ^ 31)
    rw [show 2 ^ 1 * (y.toNat % 2 ^ 31) = (y.toNat % 2 ^ 31) * 2 by omega] at this
    exact this.symm
  rw [e2, e4]
  omega
theorem ro_0 (x : BitVec 32) : ro 0 x = x := by
  unfold ro
  apply BitVec.eq_of_getElem_eq
  intro i hi
  simp only [BitVec.getElem_rotateLeft, Nat.zero_mod]
  rw [dif_neg (by omega)]
  rfl

/-- Four words. -/
structure W4 where
  a : BitVec 32
  b : BitVec 32
  c : BitVec 32
  d : BitVec 32

def halfT (k m : Nat) (x : W4) : W4 :=
  ⟨pl x.a x.b, ro m (xo x.b (pl x.c (ro k (xo x.d (pl x.a x.b))))), pl x.c (ro k (xo x.d (pl x.a x.b))), ro k (xo x.d (pl x.a x.b))⟩
def halfB (k m : Nat) (x : W4) : W4 :=
  ⟨mi x.a (xo (ro m x.b) x.c), xo (ro m x.b) x.c, mi x.c x.d, xo (ro k x.d) x.a⟩
def turnW (x : W4) : W4 := halfT 9 6 (halfT 15 11 x)
def backW (x : W4) : W4 := halfB 17 21 (halfB 23 26 x)

theorem halfB_halfT (k k' m m' : Nat) (h1 : k' + k = 32) (h2 : m' + m = 32) (a : 0 < k) (b : 0 < k') (c : 0 < m) (d : 0 < m') (x : W4) : halfB k' m' (halfT k m x) = x := by
  cases x
  simp only [halfB, halfT, ro_ro _ _ h1 b a, ro_ro _ _ h2 d c, xo_xo, mi_pl]
theorem halfT_halfB (k k' m m' : Nat) (h1 : k + k' = 32) (h2 : m + m' = 32) (a : 0 < k) (b : 0 < k') (c : 0 < m) (d : 0 < m') (x : W4) : halfT k m (halfB k' m' x) = x := by
  cases x
  simp only [halfB, halfT, ro_ro _ _ h1 a b, ro_ro _ _ h2 c d, xo_xo, pl_mi]
theorem backW_turnW (x : W4) : backW (turnW x) = x := by
  unfold backW turnW
  rw [halfB_halfT 9 23 6 26 (by omega) (by omega) (by omega) (by omega) (by omega) (by omega), halfB_halfT 15 17 11 21 (by omega) (by omega) (by omega) (by omega) (by omega) (by omega)]
theorem turnW_backW (x : W4) : turnW (backW x) = x := by
  unfold backW turnW
  rw [halfT_halfB 15 17 11 21 (by omega) (by omega) (by omega) (by omega) (by omega) (by omega), halfT_halfB 9 23 6 26 (by omega) (by omega) (by omega) (by omega) (by omega) (by omega)]
theorem turnW_inj {x y : W4} (h : turnW x = turnW y) : x = y := by rw [← backW_turnW x, h, backW_turnW y]

def turnsW : Nat → W4 → W4
  | 0, x => x
  | n + 1, x => turnW (turnsW n x)
def backsW : Nat → W4 → W4
  | 0, x => x
  | n + 1, x => backW (backsW n x)
theorem turnsW_inj : ∀ (n : Nat) {x y : W4}, turnsW n x = turnsW n y → x = y
  | 0, _, _, h => h
  | n + 1, _, _, h => turnsW_inj n (turnW_inj h)
theorem turnsW_succ' : ∀ (n : Nat) (x : W4), turnsW (n + 1) x = turnsW n (turnW x)
  | 0, _ => rfl
  | n + 1, x => by rw [turnsW, turnsW_succ' n x]; rfl
theorem backsW_turnsW : ∀ (n : Nat) (x : W4), backsW n (turnsW n x) = x
  | 0, _ => rfl
  | n + 1, x => by
    have e : ∀ (k : Nat) (y : W4), backsW (k + 1) y = backsW k (backW y) := by
      intro k
      induction k with
      | zero => intro y; rfl
      | succ k ih => intro y; rw [backsW, ih y]; rfl
    rw [e, turnsW, backW_turnW, backsW_turnsW n x]

/-- One piece, of the numbers m and n, is taken in. -/
def stepW (x : W4) (m n : BitVec 32) : W4 := turnsW 4 ⟨xo x.a m, x.b, xo x.c n, x.d⟩
theorem stepW_inj_x {x y : W4} {m n : BitVec 32} (h : stepW x m n = stepW y m n) : x = y := by
  have := turnsW_inj 4 h
  obtain ⟨a, b, c, d⟩ := x
  obtain ⟨a', b', c', d'⟩ := y
  simp only [W4.mk.injEq] at this ⊢
  obtain ⟨h1, h2, h3, h4⟩ := this
  exact ⟨by rw [← xo_xo a m, h1, xo_xo], h2, by rw [← xo_xo c n, h3, xo_xo], h4⟩
theorem xo_comm (x y : BitVec 32) : xo x y = xo y x := by unfold xo; exact BitVec.xor_comm x y
theorem stepW_inj_p {x : W4} {m n m' n' : BitVec 32} (h : stepW x m n = stepW x m' n') : m = m' ∧ n = n' := by
  have := turnsW_inj 4 h
  obtain ⟨a, b, c, d⟩ := x
  simp only [W4.mk.injEq] at this
  obtain ⟨h1, _, h3, _⟩ := this
  rw [xo_comm a, xo_comm a] at h1
  rw [xo_comm c, xo_comm c] at h3
  exact ⟨by rw [← xo_xo m a, h1, xo_xo], by rw [← xo_xo n c, h3, xo_xo]⟩

/-- The byte at place i of a text, one byte 1 and noughts behind it. -/
def byteP (s : List UInt8) (i : Nat) : UInt8 := if h : i < s.length then s[i] else if i = s.length then 1 else 0
/-- Four of them. -/
def quadP (s : List UInt8) (i : Nat) : List UInt8 := [byteP s i, byteP s (i + 1), byteP s (i + 2), byteP s (i + 3)]
def wordP (s : List UInt8) (i : Nat) : BitVec 32 := BitVec.ofNat 32 (leN (quadP s i))
/-- The words behind so many pieces. -/
def behind (s : List UInt8) : Nat → W4
  | 0 => ⟨1, 2, 3, 4⟩
  | k + 1 => stepW (behind s k) (wordP s (8 * k)) (wordP s (8 * k + 4))
/-- The four words of a text. -/
def fourW (s : List UInt8) : W4 :=
  let x := behind s (s.length / 8 + 1)
  turnsW 8 ⟨x.a, xo x.b (BitVec.ofNat 32 s.length), x.c, x.d⟩

theorem leN4 (a b c d : UInt8) : leN [a, b, c, d] = a.toNat + 256 * b.toNat + 65536 * c.toNat + 16777216 * d.toNat := by simp only [leN]; omega
theorem leN4_lt (a b c d : UInt8) : leN [a, b, c, d] < 4294967296 := by
  rw [leN4]
  have := a.toNat_lt; have := b.toNat_lt; have := c.toNat_lt; have := d.toNat_lt
  omega
theorem wordP_toNat (s : List UInt8) (i : Nat) : (wordP s i).toNat = leN (quadP s i) := by
  unfold wordP
  rw [BitVec.toNat_ofNat]
  exact Nat.mod_eq_of_lt (leN4_lt _ _ _ _)
theorem quadP_of_wordP {s t : List UInt8} {i : Nat} (h : wordP s i = wordP t i) : quadP s i = quadP t i := by
  have e : leN (quadP s i) = leN (quadP t i) := by rw [← wordP_toNat, ← wordP_toNat, h]
  have := leB_leN (quadP s i)
  have h2 := leB_leN (quadP t i)
  rw [e] at this
  exact this.symm.trans h2
theorem wordP_congr {s t : List UInt8} {i : Nat} (h : ∀ j, i ≤ j → j < i + 4 → byteP s j = byteP t j) : wordP s i = wordP t i := by
  unfold wordP quadP
  rw [h i (by omega) (by omega), h (i + 1) (by omega) (by omega), h (i + 2) (by omega) (by omega), h (i + 3) (by omega) (by omega)]

theorem behind_congr {s t : List UInt8} : ∀ k, (∀ j, j < 8 * k → byteP s j = byteP t j) → behind s k = behind t k
  | 0, _ => rfl
  | k + 1, h => by
    rw [behind, behind, behind_congr k (fun j hj => h j (by omega)), wordP_congr (fun j h1 h2 => h j (by omega)), wordP_congr (i := 8 * k + 4) (fun j h1 h2 => h j (by omega))]
/-- Behind one piece that is another one, and the same ones behind it, the words are unlike. -/
theorem behind_inj {s t : List UInt8} (p : Nat) (h1 : ∀ j, (j < 8 * p ∨ 8 * p + 8 ≤ j) → byteP s j = byteP t j) : ∀ k, p < k → behind s k = behind t k → ∀ j, byteP s j = byteP t j
  | 0, h, _ => by omega
  | k + 1, h, e => by
    rcases Nat.lt_or_ge p k with hl | hl
    · rw [behind, behind, wordP_congr (s := s) (t := t) (i := 8 * k) (fun j a b => h1 j (by omega)), wordP_congr (s := s) (t := t) (i := 8 * k + 4) (fun j a b => h1 j (by omega))] at e
      exact behind_inj p h1 k hl (stepW_inj_x e)
    · obtain rfl : p = k := by omega
      rw [behind, behind, behind_congr p (fun j hj => h1 j (.inl hj))] at e
      obtain ⟨e1, e2⟩ := stepW_inj_p e
      have q1 := quadP_of_wordP e1
      have q2 := quadP_of_wordP e2
      simp only [quadP, List.cons.injEq] at q1 q2
      obtain ⟨a0, a1, a2, a3, _⟩ := q1
      obtain ⟨b0, b1, b2, b3, _⟩ := q2
      intro j
      by_cases hj : j < 8 * p ∨ 8 * p + 8 ≤ j
      · exact h1 j hj
      · have : j = 8 * p ∨ j = 8 * p + 1 ∨ j = 8 * p + 2 ∨ j = 8 * p + 3 ∨ j = 8 * p + 4 ∨ j = 8 * p + 4 + 1 ∨ j = 8 * p + 4 + 2 ∨ j = 8 * p + 4 + 3 := by omega
        rcases this with rfl | rfl | rfl | rfl | rfl | rfl | rfl | rfl <;> assumption
/-- Texts of one length, all of whose pieces but one are the same: their four words are the same just where they are. -/
theorem fourW_inj {s t : List UInt8} (hl : s.length = t.length) (p : Nat) (hp : 8 * p < s.length) (h : ∀ j (h1 : j < s.length) (h2 : j < t.length), (j < 8 * p ∨ 8 * p + 8 ≤ j) → s[j] = t[j]) : fourW s = fourW t ↔ s = t := by
  constructor
  · intro e
    have h1 : ∀ j, (j < 8 * p ∨ 8 * p + 8 ≤ j) → byteP s j = byteP t j := by
      intro j hj
      unfold byteP
      by_cases a : j < s.length
      · rw [dif_pos a, dif_pos (by omega)]
        exact h j a (by omega) hj
      · rw [dif_neg a, dif_neg (by omega), hl]
    unfold fourW at e
    have e1 := turnsW_inj 8 e
    rw [hl] at e1
    have e2 : behind s (t.length / 8 + 1) = behind t (t.length / 8 + 1) := by
      generalize behind s (t.length / 8 + 1) = x at e1
      generalize behind t (t.length / 8 + 1) = y at e1
      obtain ⟨a, b, c, d⟩ := x
      obtain ⟨a', b', c', d'⟩ := y
      simp only [W4.mk.injEq] at e1 ⊢
      obtain ⟨g1, g2, g3, g4⟩ := e1
      exact ⟨g1, by rw [← xo_xo b (BitVec.ofNat 32 t.length), g2, xo_xo], g3, g4⟩
    have e3 := behind_inj p h1 _ (by omega) e2
    apply List.ext_getElem hl
    intro j a b
    have := e3 j
    unfold byteP at this
    rwa [dif_pos a, dif_pos b] at this
  · intro e; rw [e]
end Go.Proofs.Ytoednighmdoooaa
