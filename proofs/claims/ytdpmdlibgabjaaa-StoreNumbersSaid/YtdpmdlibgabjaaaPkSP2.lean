/-
  Texts of one seat, one behind the other.
-/
import Derived.RegionTactic
import Derived.Deep.RegionWith
import Derived.Laws.BitsAllLaws
import Derived.StillTailTactics
import Derived.Outline
import Derived.Deep.RegionHeld3
import Derived.Laws.CopyOwn
import Derived.Maps.OwnSet
import Derived.Maps.Views
import Derived.Carry
import Derived.IntWalk
import Derived.Deep.RegionLaw
import Derived.Test.YtdpmdlibgabjaaaPkSP1
/-
  Plain mathematics of layer 2: four words, turned there and back; the four words of bytes; texts of one length with one other piece have unlike four words. Nothing of the program.
-/
namespace Go.Proofs.Ytdpmdlibgabjaaa
set_option maxRecDepth 100000

def pl (x y : BitVec 32) : BitVec 32 := x + y
def mi (x y : BitVec 32) : BitVec 32 := x - y
def xo (x y : BitVec 32) : BitVec 32 := x ^^^ y
def ro (k : Nat) (x : BitVec 32) : BitVec 32 := x.rotateLeft k

theorem mi_pl (x y : BitVec 32) : mi (pl x y) y = x := by unfold mi pl; exact BitVec.add_sub_cancel x y
theorem pl_mi (x y : BitVec 32) : pl (mi x y) y = x := by unfold mi pl; exact BitVec.sub_add_cancel x y
theorem xo_xo (x y : BitVec 32) : xo (xo x y) y = x := by unfold xo; rw [BitVec.xor_assoc, BitVec.xor_self, BitVec.xor_zero]
theorem ro_ro (i j : Nat) (h : i + j = 32) (hi : 0 < i) (hj : 0 < j) (x : BitVec 32) : ro i (ro j x) = x := by
  unfold ro
  apply BitVec.eq_of_getElem_eq
  intro k hk
  have ei : i % 32 = i := Nat.mod_eq_of_lt (by omega)
  have ej : j % 32 = j := Nat.mod_eq_of_lt (by omega)
  rw [BitVec.getElem_rotateLeft]
  simp only [ei]
  split
  · rw [BitVec.getElem_rotateLeft]
    simp only [ej]
    rw [dif_neg (by omega)]
    congr 1
    omega
  · rw [BitVec.getElem_rotateLeft]
    simp only [ej]
    rw [dif_pos (by omega)]
    congr 1
    omega
/-- One bit to the left, by numbers. -/
theorem ro_succ (k : Nat) (hk : k < 31) (x : BitVec 32) : (ro (k + 1) x).toNat = (ro k x).toNat * 2 % 4294967296 + (ro k x).toNat * 2 / 4294967296 := by
  have h1 : ro (k + 1) x = ro 1 (ro k x) := by
    unfold ro
    apply BitVec.eq_of_getElem_eq
    intro i hi
    have e1 : (k + 1) % 32 = k + 1 := Nat.mod_eq_of_lt (by omega)
    have e2 : k % 32 = k := Nat.mod_eq_of_lt (by omega)
    have e3 : 1 % 32 = 1 := rfl
    simp only [BitVec.getElem_rotateLeft, e1, e2, e3]
    by_cases a : i < 1
    · rw [dif_pos (by omega), dif_pos a]
      rcases Nat.eq_zero_or_pos k with h0 | h0
      · subst h0
        rw [dif_neg (by omega)]
        congr 1 <;> omega
      · rw [dif_neg (by omega)]
        congr 1
        omega
    · rw [dif_neg a]
      by_cases b : i < k + 1
      · rw [dif_pos b, dif_pos (by omega)]
        congr 1
        omega
      · rw [dif_neg b, dif_neg (by omega)]
        congr 1
        omega
  rw [h1]
  generalize ro k x = y
  unfold ro
  have hy := y.isLt
  rw [BitVec.rotateLeft_def, BitVec.toNat_or, BitVec.toNat_shiftLeft, BitVec.toNat_ushiftRight]
  have e1 : 1 % 32 = 1 := rfl
  rw [e1, Nat.shiftLeft_eq, Nat.shiftRight_eq_div_pow]
  have e2 : y.toNat * 2 ^ 1 % 2 ^ 32 = (y.toNat % 2 ^ 31) * 2 := by omega
  have e3 : y.toNat / 2 ^ (32 - 1) ≤ 1 := by omega
  have e4 : (y.toNat % 2 ^ 31) * 2 ||| y.toNat / 2 ^ (32 - 1) = (y.toNat % 2 ^ 31) * 2 + y.toNat / 2 ^ (32 - 1) := by
    have := Nat.two_pow_add_eq_or_of_lt (i := 1) (b := y.toNat / 2 ^ (32 - 1)) (by omega) (y.toNat % 2 ^ 31)
    rw [show 2 ^ 1 * (y.toNat % 2 ^ 31) = (y.toNat % 2 ^ 31) * 2 by omega] at this
    exact this.symm
  rw [e2, e4]
  omega
theorem ro_0 (x : BitVec 32) : ro 0 x = x := by
  unfold ro
  apply BitVec.eq_of_getElem_eq
  intro i hi
  simp only [BitVec.getElem_rotateLeft, Nat.zero_mod]
  rw [dif_neg (by omega)]
  rfl

/-- Four words. -/
structure W4 where
  a : BitVec 32
  b : BitVec 32
  c : BitVec 32
  d : BitVec 32

def halfT (k m : Nat) (x : W4) : W4 :=
  ⟨pl x.a x.b, ro m (xo x.b (pl x.c (ro k (xo x.d (pl x.a x.b))))), pl x.c (ro k (xo x.d (pl x.a x.b))), ro k (xo x.d (pl x.a x.b))⟩
def halfB (k m : Nat) (x : W4) : W4 :=
  ⟨mi x.a (xo (ro m x.b) x.c), xo (ro m x.b) x.c, mi x.c x.d, xo (ro k x.d) x.a⟩
def turnW (x : W4) : W4 := halfT 9 6 (halfT 15 11 x)
def backW (x : W4) : W4 := halfB 17 21 (halfB 23 26 x)

theorem halfB_halfT (k k' m m' : Nat) (h1 : k' + k = 32) (h2 : m' + m = 32) (a : 0 < k) (b : 0 < k') (c : 0 < m) (d : 0 < m') (x : W4) : halfB k' m' (halfT k m x) = x := by
  cases x
  simp only [halfB, halfT, ro_ro _ _ h1 b a, ro_ro _ _ h2 d c, xo_xo, mi_pl]
theorem halfT_halfB (k k' m m' : Nat) (h1 : k + k' = 32) (h2 : m + m' = 32) (a : 0 < k) (b : 0 < k') (c : 0 < m) (d : 0 < m') (x : W4) : halfT k m (halfB k' m' x) = x := by
  cases x
  simp only [halfB, halfT, ro_ro _ _ h1 a b, ro_ro _ _ h2 c d, xo_xo, pl_mi]
theorem backW_turnW (x : W4) : backW (turnW x) = x := by
  unfold backW turnW
  rw [halfB_halfT 9 23 6 26 (by omega) (by omega) (by omega) (by omega) (by omega) (by omega), halfB_halfT 15 17 11 21 (by omega) (by omega) (by omega) (by omega) (by omega) (by omega)]
theorem turnW_backW (x : W4) : turnW (backW x) = x := by
  unfold backW turnW
  rw [halfT_halfB 15 17 11 21 (by omega) (by omega) (by omega) (by omega) (by omega) (by omega), halfT_halfB 9 23 6 26 (by omega) (by omega) (by omega) (by omega) (by omega) (by omega)]
theorem turnW_inj {x y : W4} (h : turnW x = turnW y) : x = y := by rw [← backW_turnW x, h, backW_turnW y]

def turnsW : Nat → W4 → W4
  | 0, x => x
  | n + 1, x => turnW (turnsW n x)
def backsW : Nat → W4 → W4
  | 0, x => x
  | n + 1, x => backW (backsW n x)
theorem turnsW_inj : ∀ (n : Nat) {x y : W4}, turnsW n x = turnsW n y → x = y
  | 0, _, _, h => h
  | n + 1, _, _, h => turnsW_inj n (turnW_inj h)
theorem turnsW_succ' : ∀ (n : Nat) (x : W4), turnsW (n + 1) x = turnsW n (turnW x)
  | 0, _ => rfl
  | n + 1, x => by rw [turnsW, turnsW_succ' n x]; rfl
theorem backsW_turnsW : ∀ (n : Nat) (x : W4), backsW n (turnsW n x) = x
  | 0, _ => rfl
  | n + 1, x => by
    have e : ∀ (k : Nat) (y : W4), backsW (k + 1) y = backsW k (backW y) := by
      intro k
      induction k with
      | zero => intro y; rfl
      | succ k ih => intro y; rw [backsW, ih y]; rfl
    rw [e, turnsW, backW_turnW, backsW_turnsW n x]

/-- One piece, of the numbers m and n, is taken in. -/
def stepW (x : W4) (m n : BitVec 32) : W4 := turnsW 4 ⟨xo x.a m, x.b, xo x.c n, x.d⟩
theorem stepW_inj_x {x y : W4} {m n : BitVec 32} (h : stepW x m n = stepW y m n) : x = y := by
  have := turnsW_inj 4 h
  obtain ⟨a, b, c, d⟩ := x
  obtain ⟨a', b', c', d'⟩ := y
  simp only [W4.mk.injEq] at this ⊢
  obtain ⟨h1, h2, h3, h4⟩ := this
  exact ⟨by rw [← xo_xo a m, h1, xo_xo], h2, by rw [← xo_xo c n, h3, xo_xo], h4⟩
theorem xo_comm (x y : BitVec 32) : xo x y = xo y x := by unfold xo; exact BitVec.xor_comm x y
theorem stepW_inj_p {x : W4} {m n m' n' : BitVec 32} (h : stepW x m n = stepW x m' n') : m = m' ∧ n = n' := by
  have := turnsW_inj 4 h
  obtain ⟨a, b, c, d⟩ := x
  simp only [W4.mk.injEq] at this
  obtain ⟨h1, _, h3, _⟩ := this
  rw [xo_comm a, xo_comm a] at h1
  rw [xo_comm c, xo_comm c] at h3
  exact ⟨by rw [← xo_xo m a, h1, xo_xo], by rw [← xo_xo n c, h3, xo_xo]⟩

/-- The byte at place i of a text, one byte 1 and noughts behind it. -/
def byteP (s : List UInt8) (i : Nat) : UInt8 := if h : i < s.length then s[i] else if i = s.length then 1 else 0
/-- Four of them. -/
def quadP (s : List UInt8) (i : Nat) : List UInt8 := [byteP s i, byteP s (i + 1), byteP s (i + 2), byteP s (i + 3)]
def wordP (s : List UInt8) (i : Nat) : BitVec 32 := BitVec.ofNat 32 (leN (quadP s i))
/-- The words behind so many pieces. -/
def behind (s : List UInt8) : Nat → W4
  | 0 => ⟨1, 2, 3, 4⟩
  | k + 1 => stepW (behind s k) (wordP s (8 * k)) (wordP s (8 * k + 4))
/-- The four words of a text. -/
def fourW (s : List UInt8) : W4 :=
  let x := behind s (s.length / 8 + 1)
  turnsW 8 ⟨x.a, xo x.b (BitVec.ofNat 32 s.length), x.c, x.d⟩

theorem leN4 (a b c d : UInt8) : leN [a, b, c, d] = a.toNat + 256 * b.toNat + 65536 * c.toNat + 16777216 * d.toNat := by simp only [leN]; omega
theorem leN4_lt (a b c d : UInt8) : leN [a, b, c, d] < 4294967296 := by
  rw [leN4]
  have := a.toNat_lt; have := b.toNat_lt; have := c.toNat_lt; have := d.toNat_lt
  omega
theorem wordP_toNat (s : List UInt8) (i : Nat) : (wordP s i).toNat = leN (quadP s i) := by
  unfold wordP
  rw [BitVec.toNat_ofNat]
  exact Nat.mod_eq_of_lt (leN4_lt _ _ _ _)
theorem quadP_of_wordP {s t : List UInt8} {i : Nat} (h : wordP s i = wordP t i) : quadP s i = quadP t i := by
  have e : leN (quadP s i) = leN (quadP t i) := by rw [← wordP_toNat, ← wordP_toNat, h]
  have := leB_leN (quadP s i)
  have h2 := leB_leN (quadP t i)
  rw [e] at this
  exact this.symm.trans h2
theorem wordP_congr {s t : List UInt8} {i : Nat} (h : ∀ j, i ≤ j → j < i + 4 → byteP s j = byteP t j) : wordP s i = wordP t i := by
  unfold wordP quadP
  rw [h i (by omega) (by omega), h (i + 1) (by omega) (by omega), h (i + 2) (by omega) (by omega), h (i + 3) (by omega) (by omega)]

theorem behind_congr {s t : List UInt8} : ∀ k, (∀ j, j < 8 * k → byteP s j = byteP t j) → behind s k = behind t k
  | 0, _ => rfl
  | k + 1, h => by
    rw [behind, behind, behind_congr k (fun j hj => h j (by omega)), wordP_congr (fun j h1 h2 => h j (by omega)), wordP_congr (i := 8 * k + 4) (fun j h1 h2 => h j (by omega))]
/-- Behind one piece that is another one, and the same ones behind it, the words are unlike. -/
theorem behind_inj {s t : List UInt8} (p : Nat) (h1 : ∀ j, (j < 8 * p ∨ 8 * p + 8 ≤ j) → byteP s j = byteP t j) : ∀ k, p < k → behind s k = behind t k → ∀ j, byteP s j = byteP t j
  | 0, h, _ => by omega
  | k + 1, h, e => by
    rcases Nat.lt_or_ge p k with hl | hl
    · rw [behind, behind, wordP_congr (s := s) (t := t) (i := 8 * k) (fun j a b => h1 j (by omega)), wordP_congr (s := s) (t := t) (i := 8 * k + 4) (fun j a b => h1 j (by omega))] at e
      exact behind_inj p h1 k hl (stepW_inj_x e)
    · obtain rfl : p = k := by omega
      rw [behind, behind, behind_congr p (fun j hj => h1 j (.inl hj))] at e
      obtain ⟨e1, e2⟩ := stepW_inj_p e
      have q1 := quadP_of_wordP e1
      have q2 := quadP_of_wordP e2
      simp only [quadP, List.cons.injEq] at q1 q2
      obtain ⟨a0, a1, a2, a3, _⟩ := q1
      obtain ⟨b0, b1, b2, b3, _⟩ := q2
      intro j
      by_cases hj : j < 8 * p ∨ 8 * p + 8 ≤ j
      · exact h1 j hj
      · have : j = 8 * p ∨ j = 8 * p + 1 ∨ j = 8 * p + 2 ∨ j = 8 * p + 3 ∨ j = 8 * p + 4 ∨ j = 8 * p + 4 + 1 ∨ j = 8 * p + 4 + 2 ∨ j = 8 * p + 4 + 3 := by omega
        rcases this with rfl | rfl | rfl | rfl | rfl | rfl | rfl | rfl <;> assumption
/-- Texts of one length, all of whose pieces but one are the same: their four words are the same just where they are. -/
theorem fourW_inj {s t : List UInt8} (hl : s.length = t.length) (p : Nat) (hp : 8 * p < s.length) (h : ∀ j (h1 : j < s.length) (h2 : j < t.length), (j < 8 * p ∨ 8 * p + 8 ≤ j) → s[j] = t[j]) : fourW s = fourW t ↔ s = t := by
  constructor
  · intro e
    have h1 : ∀ j, (j < 8 * p ∨ 8 * p + 8 ≤ j) → byteP s j = byteP t j := by
      intro j hj
      unfold byteP
      by_cases a : j < s.length
      · rw [dif_pos a, dif_pos (by omega)]
        exact h j a (by omega) hj
      · rw [dif_neg a, dif_neg (by omega), hl]
    unfold fourW at e
    have e1 := turnsW_inj 8 e
    rw [hl] at e1
    have e2 : behind s (t.length / 8 + 1) = behind t (t.length / 8 + 1) := by
      generalize behind s (t.length / 8 + 1) = x at e1
      generalize behind t (t.length / 8 + 1) = y at e1
      obtain ⟨a, b, c, d⟩ := x
      obtain ⟨a', b', c', d'⟩ := y
      simp only [W4.mk.injEq] at e1 ⊢
      obtain ⟨g1, g2, g3, g4⟩ := e1
      exact ⟨g1, by rw [← xo_xo b (BitVec.ofNat 32 t.length), g2, xo_xo], g3, g4⟩
    have e3 := behind_inj p h1 _ (by omega) e2
    apply List.ext_getElem hl
    intro j a b
    have := e3 j
    unfold byteP at this
    rwa [dif_pos a, dif_pos b] at this
  · intro e; rw [e]
end Go.Proofs.Ytdpmdlibgabjaaa
/-
  mix.Turn and mix.Back, whatever four words they are handed, answer these words turned, there and back; nothing that was there is written.
-/
namespace Go.Proofs.Ytdpmdlibgabjaaa
open Go.RowKit Go.Shelf
set_option maxRecDepth 100000

theorem add32 (x y : BitVec 32) : ((x.toNat : Int) + (y.toNat : Int)) % 4294967296 = ((pl x y).toNat : Int) := by
  unfold pl
  rw [BitVec.toNat_add]
  show ((x.toNat : Int) + (y.toNat : Int)) % ((4294967296 : Nat) : Int) = _
  rw [Int.natCast_emod]
  rfl
theorem sub32 (x y : BitVec 32) : ((x.toNat : Int) - (y.toNat : Int)) % 4294967296 = ((mi x y).toNat : Int) := by
  unfold mi
  rw [BitVec.toNat_sub]
  have := x.isLt; have := y.isLt
  omega
theorem xor32 (x y : BitVec 32) : bits .xor .u32 (x.toNat : Int) (y.toNat : Int) = ((xo x y).toNat : Int) := by
  rw [u32_xor_nat _ _ x.isLt y.isLt]
  rfl
/-- What RotateLeft32 makes of its two shifts. -/
theorem rot32 (x : BitVec 32) (k l : Nat) (hk : 0 < k) (hl : l + k = 32) (hl0 : 0 < l) (m n : Int) (hm : m = (x.toNat : Int) * ((2 ^ k : Nat) : Int) % 4294967296) (hn : n = (x.toNat : Int) / ((2 ^ l : Nat) : Int)) : bits .or .u32 m n = ((ro k x).toNat : Int) := by
  have e1 : m = ((x.toNat * 2 ^ k % 4294967296 : Nat) : Int) := by rw [hm, Int.natCast_emod, Int.natCast_mul]; rfl
  have e2 : n = ((x.toNat / 2 ^ l : Nat) : Int) := by rw [hn, Int.natCast_ediv]
  have hx := x.isLt
  rw [e1, e2, u32_or_nat _ _ (Nat.mod_lt _ (by omega)) (Nat.lt_of_le_of_lt (Nat.div_le_self _ _) hx)]
  unfold ro
  rw [BitVec.rotateLeft_def, BitVec.toNat_or, BitVec.toNat_shiftLeft, BitVec.toNat_ushiftRight, Nat.mod_eq_of_lt (show k < 32 by omega), Nat.shiftLeft_eq, Nat.shiftRight_eq_div_pow, show 32 - k = l by omega]

theorem ret_int {k : IntKind} {a b : Int} (h : a = b) : Ending.returned (.int k a) = .returned (.int k b) := by rw [h]
theorem rot_any (x : BitVec 32) (z : Int) (k : Nat) (hk : (z = 15 ∧ k = 15) ∨ (z = 11 ∧ k = 11) ∨ (z = 9 ∧ k = 9) ∨ (z = 6 ∧ k = 6) ∨ (z = -15 ∧ k = 17) ∨ (z = -11 ∧ k = 21) ∨ (z = -9 ∧ k = 23) ∨ (z = -6 ∧ k = 26)) (w : World) :
    Calls Try.prog 100 #[.int .u32 (x.toNat : Int), .int .i64 z] w fun e w' => e = .returned (.int .u32 ((ro k x).toNat : Int)) ∧ w = w' := by
  have hx0 : (0 : Int) ≤ (x.toNat : Int) := by omega
  have hx1 : (x.toNat : Int) ≤ 4294967295 := by have := x.isLt; omega
  rcases hk with ⟨rfl, rfl⟩ | ⟨rfl, rfl⟩ | ⟨rfl, rfl⟩ | ⟨rfl, rfl⟩ | ⟨rfl, rfl⟩ | ⟨rfl, rfl⟩ | ⟨rfl, rfl⟩ | ⟨rfl, rfl⟩
  · have e1 : bits BinOp.and IntKind.u64 15 31 = 15 := by decide
    have e2 := rot32 x 15 17 (by omega) (by omega) (by omega) ((x.toNat : Int) * 32768 % 4294967296) ((x.toNat : Int) / 131072) (by simp) (by simp)
    go_enter Try.func100, Try.ntmps100
    go_wp2
    go_ret
    exact ⟨rfl, rfl⟩
  · have e1 : bits BinOp.and IntKind.u64 11 31 = 11 := by decide
    have e2 := rot32 x 11 21 (by omega) (by omega) (by omega) ((x.toNat : Int) * 2048 % 4294967296) ((x.toNat : Int) / 2097152) (by simp) (by simp)
    go_enter Try.func100, Try.ntmps100
    go_wp2
    go_ret
    exact ⟨rfl, rfl⟩
  · have e1 : bits BinOp.and IntKind.u64 9 31 = 9 := by decide
    have e2 := rot32 x 9 23 (by omega) (by omega) (by omega) ((x.toNat : Int) * 512 % 4294967296) ((x.toNat : Int) / 8388608) (by simp) (by simp)
    go_enter Try.func100, Try.ntmps100
    go_wp2
    go_ret
    exact ⟨rfl, rfl⟩
  · have e1 : bits BinOp.and IntKind.u64 6 31 = 6 := by decide
    have e2 := rot32 x 6 26 (by omega) (by omega) (by omega) ((x.toNat : Int) * 64 % 4294967296) ((x.toNat : Int) / 67108864) (by simp) (by simp)
    go_enter Try.func100, Try.ntmps100
    go_wp2
    go_ret
    exact ⟨rfl, rfl⟩
  · have e1 : bits BinOp.and IntKind.u64 (IntKind.u64.wrap (-15)) 31 = 17 := by decide
    have e2 := rot32 x 17 15 (by omega) (by omega) (by omega) ((x.toNat : Int) * 131072 % 4294967296) ((x.toNat : Int) / 32768) (by simp) (by simp)
    go_enter Try.func100, Try.ntmps100
    go_wp2
    go_ret
    exact ⟨rfl, rfl⟩
  · have e1 : bits BinOp.and IntKind.u64 (IntKind.u64.wrap (-11)) 31 = 21 := by decide
    have e2 := rot32 x 21 11 (by omega) (by omega) (by omega) ((x.toNat : Int) * 2097152 % 4294967296) ((x.toNat : Int) / 2048) (by simp) (by simp)
    go_enter Try.func100, Try.ntmps100
    go_wp2
    go_ret
    exact ⟨rfl, rfl⟩
  · have e1 : bits BinOp.and IntKind.u64 (IntKind.u64.wrap (-9)) 31 = 23 := by decide
    have e2 := rot32 x 23 9 (by omega) (by omega) (by omega) ((x.toNat : Int) * 8388608 % 4294967296) ((x.toNat : Int) / 512) (by simp) (by simp)
    go_enter Try.func100, Try.ntmps100
    go_wp2
    go_ret
    exact ⟨rfl, rfl⟩
  · have e1 : bits BinOp.and IntKind.u64 (IntKind.u64.wrap (-6)) 31 = 26 := by decide
    have e2 := rot32 x 26 6 (by omega) (by omega) (by omega) ((x.toNat : Int) * 67108864 % 4294967296) ((x.toNat : Int) / 64) (by simp) (by simp)
    go_enter Try.func100, Try.ntmps100
    go_wp2
    go_ret
    exact ⟨rfl, rfl⟩

/-- Four words as a value. -/
@[reducible] def ag (x : W4) : Value := .agg #[.int .u32 (x.a.toNat : Int), .int .u32 (x.b.toNat : Int), .int .u32 (x.c.toNat : Int), .int .u32 (x.d.toNat : Int)]

set_option maxHeartbeats 1000000 in
theorem turn_any (x : W4) (w : World) : Calls Try.prog 82 #[ag x] w fun e w' => e = .returned (ag (turnW x)) ∧ Below w.heap.size w w' := by
  have r1 := add32
  have r2 := xor32
  obtain ⟨a, b, c, d⟩ := x
  go_enter Try.func82, Try.ntmps82
  go_wp2_with (go_at_call 99; go_in)
  refine (rot_any _ 15 15 (by simp) _).mono ?_
  rintro e w' ⟨rfl, rfl⟩
  go_wp2_with (go_at_call 99; go_in)
  refine (rot_any _ 11 11 (by simp) _).mono ?_
  rintro e w' ⟨rfl, rfl⟩
  go_wp2_with fail
  go_end0
  go_wp2_with (go_at_call 99; go_in)
  refine (rot_any _ 9 9 (by simp) _).mono ?_
  rintro e w' ⟨rfl, rfl⟩
  go_wp2_with fail
  refine (rot_any _ 6 6 (by simp) _).mono ?_
  rintro e w' ⟨rfl, rfl⟩
  go_wp2_with fail
  go_end0
  go_wp2_with fail
  exact bodyPost_ret (v := ag (turnW ⟨a, b, c, d⟩)) (by simp [results, Try.results82, go_sem, turnW, halfT]) rfl ⟨rfl, ((Below.refl _ w).alloc (Nat.le_refl _) _).alloc (by simp) _⟩

/-- The cells of four words. -/
@[reducible] def cl (x : W4) : Array Value := #[.int .u32 (x.a.toNat : Int), .int .u32 (x.b.toNat : Int), .int .u32 (x.c.toNat : Int), .int .u32 (x.d.toNat : Int)]
end Go.Proofs.Ytdpmdlibgabjaaa
/-
  mix.turns, mix.word and mix.take: so many turns; a word of a piece; a piece taken in; nothing that was there is written.
-/
namespace Go.Proofs.Ytdpmdlibgabjaaa
open Go.RowKit Go.Shelf
set_option maxRecDepth 100000

set_option maxHeartbeats 1000000 in
theorem turns_any (x : W4) (n : Nat) (hn : n ≤ 1000) (w : World) : Calls Try.prog 59 #[ag x, .int .i64 n] w fun e w' => e = .returned (ag (turnsW n x)) ∧ Below w.heap.size w w' := by
  have hb0 : Blk ((w.alloc (.cells (cl x) 67)).alloc (.cells #[.int .u32 0, .int .u32 0, .int .u32 0, .int .u32 0] 67)) w.heap.size 67 (cl x) := (Blk.new w _ _).alloc _
  have hr0 := Blk.new (w.alloc (.cells (cl x) 67)) 67 #[.int .u32 0, .int .u32 0, .int .u32 0, .int .u32 0]
  have hB0 : Below w.heap.size w ((w.alloc (.cells (cl x) 67)).alloc (.cells #[.int .u32 0, .int .u32 0, .int .u32 0, .int .u32 0] 67)) := ((Below.refl _ w).alloc (Nat.le_refl _) _).alloc (by simp) _
  rw [World.size_alloc] at hr0
  have HB0 := Lib.hid hb0; clear hb0
  have HR0 := Lib.hid hr0; clear hr0
  have HBe := Lib.hid hB0; clear hB0
  have hn' : (n : Int) ≤ 1000 := by omega
  go_enter Try.func59, Try.ntmps59
  go_wp2_with fail
  go_loopw [6] (fun i wr => ∃ k : Nat, k ≤ n ∧ i = .int .i64 k ∧ Blk wr w.heap.size 67 (cl (turnsW k x)) ∧ Blk wr (w.heap.size + 1) 67 #[.int .u32 0, .int .u32 0, .int .u32 0, .int .u32 0] ∧ Below w.heap.size w wr) (fun i _ => n - (intOf i).toNat)
  case atStart => exact ⟨0, Nat.zero_le _, rfl, HB0.out, HR0.out, HBe.out⟩
  case round =>
    obtain ⟨k, hk, rfl, hb, hr, hbe⟩ := hrel
    have c0 := hb.cell 0
    have c1 := hb.cell 1
    have c2 := hb.cell 2
    have c3 := hb.cell 3
    have HB := Lib.hid hb; clear hb
    have HR := Lib.hid hr; clear hr
    have HE := Lib.hid hbe; clear hbe
    by_cases hlt : k < n
    · go_wp2_with fail
      refine (turn_any _ _).mono ?_
      rintro e w1 ⟨rfl, b1⟩
      have hb1 := HB.out.below b1 HB.out.lt
      have f := fun i => hb1.frozen i
      have d0 := hb1.cell 0
      have d1 := hb1.cell 1
      have d2 := hb1.cell 2
      have d3 := hb1.cell 3
      have HB1 := Lib.hid hb1; clear hb1
      have hr1 := HR.out.below b1 HR.out.lt
      have HR1 := Lib.hid hr1; clear hr1
      have he1 := HE.out.trans (b1.mono HE.out.size)
      have HE1 := Lib.hid he1; clear he1 b1
      clear c0 c1 c2 c3
      go_wp2_with fail
      go_roundw
      case rel => exact ⟨k + 1, by omega, by go_num, HB1.out.set4 _ _ _ _, (((HR1.out.far (by simp) _).far (by simp) _).far (by simp) _).far (by simp) _, below_set4 HE1.out (Nat.le_refl _) _ _ _ _⟩
      case measure => simp [intOf]; omega
    · obtain rfl : k = n := by omega
      have d0 := HR.out.cell 0
      have d1 := HR.out.cell 1
      have d2 := HR.out.cell 2
      have d3 := HR.out.cell 3
      have f := fun i => HR.out.frozen i
      go_wp2_with fail
      have hR := HR.out.set4 (.int .u32 ((turnsW k x).a.toNat : Int)) (.int .u32 ((turnsW k x).b.toNat : Int)) (.int .u32 ((turnsW k x).c.toNat : Int)) (.int .u32 ((turnsW k x).d.toNat : Int))
      have e0 := hR.cell 0
      have e1 := hR.cell 1
      have e2 := hR.cell 2
      have e3 := hR.cell 3
      have E := below_set4 HE.out (g := w.heap.size + 1) (by omega) (.int .u32 ((turnsW k x).a.toNat : Int)) (.int .u32 ((turnsW k x).b.toNat : Int)) (.int .u32 ((turnsW k x).c.toNat : Int)) (.int .u32 ((turnsW k x).d.toNat : Int))
      clear hR
      exact bodyPost_ret (v := ag (turnsW k x)) (by simp [results, Try.results59, go_sem, e0, e1, e2, e3]) rfl ⟨rfl, E⟩

/-- The number of four bytes of a piece. -/
theorem word_any (b off cap i : Nat) (s : List UInt8) (hs : s.length = 8) (hc8 : 8 ≤ cap) (hcm : cap ≤ 9223372036854775807) (hi : i + 4 ≤ 8) (w : World) (hb : b < w.heap.size)
    (hc : ∀ i (h : i < s.length), w.cell? ⟨b, off + i, none⟩ = some (.int .u8 ((s[i]).toNat : Int))) :
    Calls Try.prog 81 #[.slice (some ⟨b, off, none⟩) 8 cap, .int .i64 i] w fun e w' => e = .returned (.int .u32 (leN ((s.drop i).take 4) : Nat)) ∧ Below w.heap.size w w' := by
  have hlt : leN ((s.drop i).take 4) < 4294967296 := by
    have h1 := leN_lt ((s.drop i).take 4)
    have h2 : ((s.drop i).take 4).length = 4 := by simp; omega
    rw [h2] at h1
    exact h1
  have hg := get_ok b off 8 cap i 4 s hs hc8 hcm (by omega) (by omega) (by omega) w hb hc
  have HG := Lib.hid hg; clear hg hc hs
  obtain ⟨m, hm⟩ : ∃ m : Nat, leN ((s.drop i).take 4) = m := ⟨_, rfl⟩
  rw [hm] at hlt HG ⊢
  clear hm
  have h0 : (0 : Int) ≤ m := by omega
  have h1 : (m : Int) ≤ 4294967295 := by omega
  go_enter Try.func81, Try.ntmps81
  go_wp2_with fail
  refine HG.out.mono ?_
  rintro e w1 ⟨rfl, b1⟩
  go_wp2_with fail
  go_ret
  exact ⟨rfl, b1⟩

set_option maxHeartbeats 2000000 in
theorem take_any (x : W4) (b off cap : Nat) (s : List UInt8) (hs : s.length = 8) (hc8 : 8 ≤ cap) (hcm : cap ≤ 9223372036854775807) (w : World) (hb : b < w.heap.size)
    (hc : ∀ i (h : i < s.length), w.cell? ⟨b, off + i, none⟩ = some (.int .u8 ((s[i]).toNat : Int))) :
    Calls Try.prog 58 #[ag x, .slice (some ⟨b, off, none⟩) 8 cap] w fun e w' => e = .returned (ag (stepW x (BitVec.ofNat 32 (leN (s.take 4))) (BitVec.ofNat 32 (leN ((s.drop 4).take 4))))) ∧ Below w.heap.size w w' := by
  have r2 := xor32
  have hb0 : Blk ((w.alloc (.cells (cl x) 67)).alloc (.cells #[.int .u32 0, .int .u32 0, .int .u32 0, .int .u32 0] 67)) w.heap.size 67 (cl x) := (Blk.new w _ _).alloc _
  have hr0 := Blk.new (w.alloc (.cells (cl x) 67)) 67 #[.int .u32 0, .int .u32 0, .int .u32 0, .int .u32 0]
  have hB0 : Below w.heap.size w ((w.alloc (.cells (cl x) 67)).alloc (.cells #[.int .u32 0, .int .u32 0, .int .u32 0, .int .u32 0] 67)) := ((Below.refl _ w).alloc (Nat.le_refl _) _).alloc (by simp) _
  rw [World.size_alloc] at hr0
  have wd : ∀ (z : Int) (i : Nat), z = i → i + 4 ≤ 8 → ∀ W, Below w.heap.size w W → Calls Try.prog 81 #[.slice (some ⟨b, off, none⟩) 8 cap, .int .i64 z] W fun e w' => e = .returned (.int .u32 ((BitVec.ofNat 32 (leN ((s.drop i).take 4))).toNat : Int)) ∧ Below W.heap.size W w' := fun z i hz hi W hW => by
    subst hz
    have e1 : (BitVec.ofNat 32 (leN ((s.drop i).take 4))).toNat = leN ((s.drop i).take 4) := by
      rw [BitVec.toNat_ofNat]
      have h1 := leN_lt ((s.drop i).take 4)
      have h2 : ((s.drop i).take 4).length = 4 := by simp; omega
      rw [h2] at h1
      exact Nat.mod_eq_of_lt h1
    rw [e1]
    exact word_any b off cap i s hs hc8 hcm hi W (Nat.lt_of_lt_of_le hb hW.size) (fun j hj => (hW.cell (p := ⟨b, off + j, none⟩) hb).trans (hc j hj))
  obtain ⟨m, hm⟩ : ∃ m, BitVec.ofNat 32 (leN (s.take 4)) = m := ⟨_, rfl⟩
  obtain ⟨n, hn⟩ : ∃ n, BitVec.ofNat 32 (leN ((s.drop 4).take 4)) = n := ⟨_, rfl⟩
  have wd0 := wd 0 0 rfl (by omega)
  have wd4 := wd 4 4 rfl (by omega)
  rw [List.drop_zero, hm] at wd0
  rw [hn] at wd4
  rw [hm, hn]
  clear hc hs wd hm hn
  have WD0 := Lib.hid wd0; clear wd0
  have WD4 := Lib.hid wd4; clear wd4
  obtain ⟨w0, hw0⟩ : ∃ w0, ((w.alloc (.cells (cl x) 67)).alloc (.cells #[.int .u32 0, .int .u32 0, .int .u32 0, .int .u32 0] 67)) = w0 := ⟨_, rfl⟩
  rw [hw0] at hb0 hr0 hB0
  have HW0 := Lib.hid hw0; clear hw0
  obtain ⟨a, bb, c, d⟩ := x
  have c0 := hb0.cell 0
  have f := fun i => hb0.frozen i
  have HB0 := Lib.hid hb0; clear hb0
  have HR0 := Lib.hid hr0; clear hr0
  have HBe := Lib.hid hB0; clear hB0
  go_enter Try.func58, Try.ntmps58
  go_wp2_with fail
  rw [HW0.out]
  go_region_with (first | (go_at_call 81; (refine (WD0.out _ ?_).mono ?_); exact HBe.out.drew; rintro e w1 ⟨rfl, b1⟩; have fr1 := (HB0.out.drew.below b1 HB0.out.lt).frozen 0; have cr1 := (HB0.out.drew.below b1 HB0.out.lt).cell 0))
  all_goals
    obtain ⟨w2, hw2⟩ : ∃ w2, w1.setCell ⟨w.heap.size, 0, none⟩ (.int .u32 ((xo a m).toNat : Int)) = w2 := ⟨_, rfl⟩
    have hb2 : Blk w2 w.heap.size 67 (cl ⟨xo a m, bb, c, d⟩) := hw2 ▸ (HB0.out.drew.below b1 HB0.out.lt).set_ 0 _
    have hr2 : Blk w2 (w.heap.size + 1) 67 #[.int .u32 0, .int .u32 0, .int .u32 0, .int .u32 0] := hw2 ▸ (HR0.out.drew.below b1 HR0.out.lt).far (by simp) _
    have he2 : Below w.heap.size w w2 := hw2 ▸ (HBe.out.drew.trans (b1.mono HBe.out.size)).setCell (p := ⟨w.heap.size, 0, none⟩) (Nat.le_refl _) _
    have HW2 := Lib.hid hw2; clear hw2
    clear b1 fr1 cr1 c0 f
    have c2 := hb2.cell 2
    have f := fun i => hb2.frozen i
    have HB2 := Lib.hid hb2; clear hb2
    have HR2 := Lib.hid hr2; clear hr2
    have HE2 := Lib.hid he2; clear he2
    rw [HW2.out]
    go_wp2_with fail
    go_region_with (first | (go_at_call 81; (refine (WD4.out _ ?_).mono ?_); exact HE2.out.drew; rintro e w3 ⟨rfl, b3⟩; have fr1 := (HB2.out.drew.below b3 HB2.out.lt).frozen 2; have cr1 := (HB2.out.drew.below b3 HB2.out.lt).cell 2))
    all_goals
      obtain ⟨w4, hw4⟩ : ∃ w4, w3.setCell ⟨w.heap.size, 2, none⟩ (.int .u32 ((xo c n).toNat : Int)) = w4 := ⟨_, rfl⟩
      have hb4 : Blk w4 w.heap.size 67 (cl ⟨xo a m, bb, xo c n, d⟩) := hw4 ▸ (HB2.out.drew.below b3 HB2.out.lt).set_ 2 _
      have hr4 : Blk w4 (w.heap.size + 1) 67 #[.int .u32 0, .int .u32 0, .int .u32 0, .int .u32 0] := hw4 ▸ (HR2.out.drew.below b3 HR2.out.lt).far (by simp) _
      have he4 : Below w.heap.size w w4 := hw4 ▸ (HE2.out.drew.trans (b3.mono HE2.out.size)).setCell (p := ⟨w.heap.size, 2, none⟩) (Nat.le_refl _) _
      have HW4 := Lib.hid hw4; clear hw4
      clear b3 fr1 cr1 c2 f
      have c0 := hb4.cell 0
      have c1 := hb4.cell 1
      have c2 := hb4.cell 2
      have c3 := hb4.cell 3
      have HB4 := Lib.hid hb4; clear hb4
      have HR4 := Lib.hid hr4; clear hr4
      have HE4 := Lib.hid he4; clear he4
      rw [HW4.out]
      go_wp2_with fail
      refine (turns_any ⟨xo a m, bb, xo c n, d⟩ 4 (by omega) _).mono ?_
      rintro e w5 ⟨rfl, b5⟩
      have hr5 := HR4.out.below b5 HR4.out.lt
      have he5 := HE4.out.trans (b5.mono HE4.out.size)
      have f := fun i => hr5.frozen i
      have d0 := hr5.cell 0
      have d1 := hr5.cell 1
      have d2 := hr5.cell 2
      have d3 := hr5.cell 3
      have HR5 := Lib.hid hr5; clear hr5
      have HE5 := Lib.hid he5; clear he5 b5
      obtain ⟨y, hy⟩ : ∃ y, turnsW 4 ⟨xo a m, bb, xo c n, d⟩ = y := ⟨_, rfl⟩
      rw [hy]
      have HY := Lib.hid hy; clear hy
      go_wp2_with fail
      have hR := HR5.out.set4 (.int .u32 (y.a.toNat : Int)) (.int .u32 (y.b.toNat : Int)) (.int .u32 (y.c.toNat : Int)) (.int .u32 (y.d.toNat : Int))
      have e0 := hR.cell 0
      have e1 := hR.cell 1
      have e2 := hR.cell 2
      have e3 := hR.cell 3
      have E := below_set4 HE5.out (g := w.heap.size + 1) (by omega) (.int .u32 (y.a.toNat : Int)) (.int .u32 (y.b.toNat : Int)) (.int .u32 (y.c.toNat : Int)) (.int .u32 (y.d.toNat : Int))
      clear hR
      exact bodyPost_ret (v := ag y) (by simp [results, Try.results58, go_sem, e0, e1, e2, e3]) rfl ⟨by rw [← HY.out]; rfl, E⟩
end Go.Proofs.Ytdpmdlibgabjaaa
/-
  A region that draws its order, at the wide fence, is walked as it is everywhere, where nothing in it is deferred.
-/
namespace Go.Proofs.Ytdpmdlibgabjaaa
open Go
set_option maxRecDepth 100000

section
variable {P : Program} {Q : Exit → Act → World → Prop} {md : Region.Mode} {m : Nat}

theorem rowsIn_of_rows_w {row : String} {args : Array Value} {w : World} {R : Value → World → Prop} (h : Rows P row args w R) : RowsIn Fence.wide m P row args w R :=
  fun c cs _ => let ⟨v, w', r, s⟩ := h c cs; ⟨v, w', r, stepsIn_wide.2 s⟩

theorem uponIn_of_upon_w {o : Oper} {a : Act} {K K' : Act → World → Prop} (hK : ∀ a w, K a w → K' a w) {r : Result Next} (h : o.upon P a K Q r) : o.uponIn Fence.wide m P a K' Q r := by
  cases r with
  | ok x w' =>
    cases x <;> simp only [Oper.upon, Oper.uponIn] at h ⊢
    case value => exact hK _ _ h
    case skip => exact hK _ _ h
    case defer => exact hK _ _ h
    case enter f args =>
      refine ⟨fun h => by simp [Fence.wide] at h, CallsIn.mono (callsIn_wide.2 h) fun e w'' he => ?_⟩
      cases e <;> first | exact hK _ _ he | exact he
    case row row args => exact ⟨fun h => by simp [Fence.wide] at h, (rowsIn_of_rows_w h).mono fun _ _ he => hK _ _ he⟩
  | halt x w' => cases x <;> simp only [Oper.upon, Oper.uponIn] at h ⊢ <;> exact h

theorem wpAnyIn_of_wpAny_w {ops : List Oper} (hnd : noDefer ops = true) (hlo : ¬ LetsOut Q) : ∀ (fuel : Nat) (listed : Array Bool) (a : Act) (w : World), wpAny P md ops.toArray Q fuel listed a w → wpAnyIn Fence.wide m P md ops.toArray Q fuel listed a w
  | 0, _, _, _, h => h
  | fuel + 1, listed, a, w, h => by
    refine ⟨h.1, fun i hi => ?_⟩
    have hop := h.2 i hi
    have ih : ∀ a w, wpAny P md ops.toArray Q fuel (listed.setIfInBounds i true) a w → wpAnyIn Fence.wide m P md ops.toArray Q fuel (listed.setIfInBounds i true) a w := fun a w => wpAnyIn_of_wpAny_w hnd hlo fuel _ a w
    unfold wpOp at hop
    unfold wpOpIn
    cases ho : ops.toArray[i]? with
    | none => rw [ho] at hop; exact ih _ _ hop
    | some o =>
      rw [ho] at hop
      have hmem : o ∈ ops := by
        rw [List.getElem?_toArray] at ho
        exact List.mem_of_getElem? ho
      simp only at hop ⊢
      split
      · rename_i hw
        rw [if_pos hw] at hop
        rcases hop with hop | ⟨_, hl⟩
        · refine ⟨fun _ _ => trivial, ?_⟩
          show Oper.uponIn _ _ _ _ _ _ _ (Sem.run P (o.semAt none a.eval) w)
          rw [Oper.semAt_none]
          exact uponIn_of_upon_w ih hop
        · exact absurd hl hlo
      · rename_i hw
        rw [if_neg hw] at hop
        exact ⟨fun _ _ => trivial, ih _ _ hop⟩

/-- A region that draws its order, in a function that stands in a fence: as everywhere, where nothing is deferred. -/
theorem region_wide {ops : List Oper} {id : Nat} {a : Act} {w : World} (hm : P.follows .mixedOrders = true) (hnd : noDefer ops = true) (hlo : ¬ LetsOut Q)
    (h : wpAny P .any ops.toArray Q ops.length (Array.replicate ops.length false) a w.drew) : (Code.region id ops.toArray true).wpIn Fence.wide m P Q a w :=
  wpIn_region_any hm (by simpa using wpAnyIn_of_wpAny_w (m := m) hnd hlo _ _ _ _ h)

/-- Reads, and one write at the end: the reads in the text's order, then the write. -/
theorem region_wide_tail {ops : List Oper} {id : Nat} {a : Act} {w : World} (n : Nat) (hm : P.follows .mixedOrders = true) (hnd : noDefer ops = true) (hlo : ¬ LetsOut Q) (hB : Region.lexTailB .any ops.toArray n = true)
    (h : wpStill P ops.toArray w.drew (fun a' => wpList P ops.toArray Q (ops.drop n) a' w.drew) (ops.take n) a) : (Code.region id ops.toArray true).wpIn Fence.wide m P Q a w := by
  refine region_wide hm hnd hlo ?_
  simp only [Region.lexTailB, Bool.and_eq_true, decide_eq_true_eq] at hB
  obtain ⟨⟨⟨⟨hsel, hn⟩, hs⟩, hc⟩, hlex⟩ := hB
  have hn' : n < ops.length := by simpa using hn
  have ht : (ops.take n).length = n := by simp; omega
  have hst : HeadInv .any ops.toArray n (Array.replicate ops.toArray.size false) :=
    ⟨by simp, fun j oj _ hl => (by rw [getD_replicate_false] at hl; cases hl), fun t _ ht => getD_in (by simpa using ht) (getD_replicate_false _ _)⟩
  have H := wpAnyL_lex (md := .any) (g := ops.toArray.size - n) hsel hs hc hn (ops.take n) 0 _ a (fun j hj => by rw [ht] at hj; simp [hj]) (by omega) hst (by rw [ht]; exact hlex) h
  have G := wpAny_of_head (Q' := Q) (g := ops.toArray.size - n) (fun listed a' hL => by
    have := wpAny_of_seq (md := .any) (Q' := Q) (ops.drop n) n listed a' w.drew (fun j => by simp) (by simpa using hL.1) hL.2
    simpa using this) _ _ _ H
  have e : (ops.take n).length + (ops.toArray.size - n) = ops.length := by simp; omega
  rw [e] at G
  simpa using G
/-- The same, the world behind the draw under a name. -/
theorem region_wide_named {ops : List Oper} {id : Nat} {a : Act} {w w1 : World} (n : Nat) (hm : P.follows .mixedOrders = true) (hnd : noDefer ops = true) (hlo : ¬ LetsOut Q) (hB : Region.lexTailB .any ops.toArray n = true) (hw : w.drew = w1)
    (h : wpStill P ops.toArray w1 (fun a' => wpList P ops.toArray Q (ops.drop n) a' w1) (ops.take n) a) : (Code.region id ops.toArray true).wpIn Fence.wide m P Q a w := by
  subst hw
  exact region_wide_tail n hm hnd hlo hB h
end
end Go.Proofs.Ytdpmdlibgabjaaa
/-
  slices.Chunk of a slice of bytes by eights, of a length that eights make up, hands the loop its windows in their order.
-/
namespace Go.Proofs.Ytdpmdlibgabjaaa
open Go.RowKit Go.Shelf
set_option maxRecDepth 100000
attribute [local go_sem] Oper.semAt_some

/-- What the walk goes on reading: the box of the slice, and that of the size. -/
def ReachC (Bs Bn : Nat) (A : Option Addr) (q cap : Nat) (W : World) : Prop :=
  W.cell? ⟨Bs, 0, none⟩ = some (.slice A (8 * q) cap) ∧ W.cell? ⟨Bn, 0, none⟩ = some (.int .i64 8)

theorem chunk_in (F : Fence) (n : Nat) (h : F.fn 57) (hro : F.round = none) (a : Option Addr) (len cap : Nat) (w : World) :
    CallsIn F n Try.prog 57 #[.slice a len cap, .int .i64 8] w fun e w' => e = .returned (.func (.func 80) #[] #[.pointer (some ⟨w.heap.size, 0, none⟩), .pointer (some ⟨w.heap.size + 1, 0, none⟩)]) ∧
      w' = (w.alloc (.cells #[.slice a len cap] 23)).alloc (.cells #[.int .i64 8] 3) := by
  refine callsIn_of_wp Try.func57 rfl h ?_ hro
  simp only [Try.ntmps57, List.size_toArray, List.length_cons, List.length_nil, Nat.reduceAdd, Nat.reduceSub, Array.replicate_succ, Array.replicate_zero, List.push_toArray, List.append_toArray, List.nil_append, List.cons_append]
  gi_wp2
  go_ret
  exact ⟨rfl, rfl⟩

/-- s[l:], where it is not empty. -/
theorem slice_l (W : World) (g off len cap l : Nat) (hl : l < len) (hc : len ≤ cap) : (Instr.slice 23 (.slice (some ⟨g, off, none⟩) len cap) (some (.int .i64 (l : Int))) none none).run Try.prog W = .ok (.slice (some ⟨g, off + l, none⟩) (len - l) (cap - l)) W := by
  rw [run_slice_l W 23 _ _ _ (by kernel_rfl) .i64 _ (by omega) (by omega)]
  have hz : (Go.sizeOf (Try.prog.elem 23)).run Try.prog W = .ok 1 W := by kernel_rfl
  rw [hz]
  simp [Result.andThen, sliced, Addr.add]
  rw [if_neg (by omega)]
  by_cases h0 : l = 0
  · subst h0; simp
  · rw [if_neg h0]
/-- The window of number x. -/
@[reducible] def win (b off : Nat) (x : Nat) : Array Value := #[.slice (some ⟨b, off + 8 * x, none⟩) 8 8]

set_option maxHeartbeats 2000000 in
theorem chunk1_in (n : Nat) (hn : 1 ≤ n) (l Bs Bn b off q cap : Nat) (A : Option Addr) (hA : 0 < q → A = some ⟨b, off, none⟩) (hqc : 8 * q ≤ cap) (hcm : cap ≤ 9223372036854775807) (J Jx : List (Fin q) → World → Prop)
    (hY : ∀ pre x W, J pre W → pre.length < q → YieldAt Fence.wide (n - 1) Try.prog l (win b off x.val) W fun e W' =>
      (e = .returned (.bool true) ∧ J (pre ++ [x]) W' ∧ (ReachC Bs Bn A q cap W → ReachC Bs Bn A q cap W')) ∨ (e = .returned (.bool false) ∧ Jx (pre ++ [x]) W'))
    (hJd : ∀ pre W, J pre W → J pre W.drew)
    (W : World) (hR : ReachC Bs Bn A q cap W) (h0 : J [] W) :
    CallsIn Fence.wide n Try.prog 80 #[.func (.yield l) #[] #[], .pointer (some ⟨Bs, 0, none⟩), .pointer (some ⟨Bn, 0, none⟩)] W fun e W' => (∃ v, e = .returned v) ∧
      ((∃ ys, ys.map (·.val) = List.range q ∧ J ys W') ∨ (∃ pre, pre.map (·.val) = List.range pre.length ∧ Jx pre W')) := by
  refine callsIn_of_wp Try.func80 rfl trivial ?_ rfl
  simp only [Try.ntmps80, List.size_toArray, List.length_cons, List.length_nil, Nat.reduceAdd, Nat.reduceSub, Array.replicate_succ, Array.replicate_zero, List.push_toArray, List.append_toArray, List.nil_append, List.cons_append]
  have hmx : Try.prog.follows Departure.mixedOrders = true := by kernel_rfl
  have HR := Lib.hid hR
  clear hR
  gi_wp2
  gi_loopw [4] (fun i wr => ∃ pre : List (Fin q), pre.map (·.val) = List.range pre.length ∧ pre.length ≤ q ∧ i = .int .i64 ((8 * pre.length : Nat) : Int) ∧ J pre wr ∧ ReachC Bs Bn A q cap wr)
    (fun i _ => 8 * q - (intOf i).toNat)
  case atStart => exact ⟨[], rfl, Nat.zero_le _, rfl, h0, HR.out⟩
  case round =>
    obtain ⟨pre, hC, hle, rfl, hJs, hRs⟩ := hrel
    obtain ⟨k, hk⟩ : ∃ k, pre.length = k := ⟨_, rfl⟩
    have hb1 := hRs.1
    have hb2 := hRs.2
    obtain ⟨m, hm⟩ : ∃ m : Nat, 8 * k = m := ⟨_, rfl⟩
    obtain ⟨L, hL⟩ : ∃ L : Nat, 8 * q = L := ⟨_, rfl⟩
    rw [hL] at hb1
    rw [hk, hm]
    by_cases hlt : k < q
    · rw [hA (by omega)] at hb1
      have hmL : m < L := by omega
      have hm8 : m + 8 ≤ L := by omega
      have hLc : L ≤ cap := by omega
      have HRs := Lib.hid hRs; clear hRs
      have HM := Lib.hid hm; clear hm
      have HL := Lib.hid hL; clear hL
      have HK := Lib.hid hk; clear hk
      have h8 : ((m : Int) < (L : Int)) := by omega
      have h80 : (0 : Int) ≤ (m : Int) := by omega
      have h8m : (L : Int) ≤ 9223372036854775807 := by omega
      have hsl := fun W => slice_l W b off L cap m hmL hLc
      have hmin : min (8 : Int) ((L - m : Nat) : Int) = 8 := by omega
      gi_wp2
      refine region_wide_tail 6 hmx (by kernel_rfl) (fun h => by obtain ⟨_, _, ⟨v, hv⟩, _⟩ := h; cases hv) (by kernel_rfl) ?_
      simp only [List.take_succ_cons, List.take_zero, List.drop_succ_cons, List.drop_zero]
      repeat still_step
      refine wpStill_nil ?_
      obtain ⟨fn, tmps, assign, body, hy, hR⟩ := hY pre ⟨k, hlt⟩ wr.drew (hJd _ _ hJs) (by rw [HK.out]; exact hlt)
      have hw : win b off k = #[.slice (some ⟨b, off + m, none⟩) 8 8] := by rw [win, HM.out]
      dsimp only at hy
      rw [hw] at hy
      clear hw
      have HC := Lib.hid hC; clear hC
      go_wp2
      gi_wp2
      refine hR.mono ?_
      rintro e W3 (⟨rfl, hJ3, hk3⟩ | ⟨rfl, hJx3⟩)
      · have hr3 := hk3 HRs.out
        have hb3 := hr3.2
        have HR3 := Lib.hid hr3; clear hr3 hk3
        gi_wp2
        go_roundw
        case rel => exact ⟨pre ++ [⟨k, hlt⟩], by simp [HC.out, List.range_succ, HK.out], by simp; rw [HK.out]; omega, by simp [HK.out]; have := HM.out; omega, hJ3, HR3.out⟩
        case measure => simp [intOf]; have := HM.out; have := HL.out; omega
      · gi_wp2
        refine bodyPost_ret (results_none rfl _ _ _) rfl ?_
        exact ⟨⟨_, rfl⟩, .inr ⟨_, by simp [HC.out, List.range_succ, HK.out], hJx3⟩⟩
    · have hkq : k = q := by omega
      have hmL : m = L := by omega
      rw [hmL]
      have HRs := Lib.hid hRs; clear hRs
      have HM := Lib.hid hm; clear hm
      have HL := Lib.hid hL; clear hL
      have HK := Lib.hid hk; clear hk
      have HKQ := Lib.hid hkq; clear hkq
      have HC := Lib.hid hC; clear hC
      clear hmL
      gi_wp2
      go_end0
      exact ⟨⟨_, rfl⟩, .inl ⟨pre, by rw [HC.out, HK.out, HKQ.out], hJs⟩⟩

theorem reachC_putObj {Bs Bn : Nat} {A : Option Addr} {q cap : Nat} {W : World} (l : Nat) (o o' : Obj) (h : W.heap[l]? = some o) (ho : o.isCells = false) (hR : ReachC Bs Bn A q cap W) : ReachC Bs Bn A q cap (W.putObj l o') := by
  have hk : ∀ r, some l = some r → ∃ o : Obj, W.heap[r]? = some o ∧ o.isCells = false := fun r e => by cases e; exact ⟨_, h, ho⟩
  exact ⟨cell_kept hR.1 (grownBy_putObj' W l o') hk, cell_kept hR.2 (grownBy_putObj' W l o') hk⟩

theorem stopsC (n : Nat) (hn : 1 ≤ n) (Bs Bn b off q cap : Nat) (A : Option Addr) (hA : 0 < q → A = some ⟨b, off, none⟩) (hqc : 8 * q ≤ cap) (hcm : cap ≤ 9223372036854775807) (w : World) (hBs : Bs < w.heap.size) (hBn : Bn < w.heap.size) (hR : ReachC Bs Bn A q cap w) :
    SeqStopsK Fence.wide n Try.prog 80 #[.pointer (some ⟨Bs, 0, none⟩), .pointer (some ⟨Bn, 0, none⟩)] (fun x : Fin q => win b off x.val) (fun W W' => ReachC Bs Bn A q cap W → ReachC Bs Bn A q cap W')
      (fun ys => ys.map (·.val) = List.range q) (fun pre => pre.map (·.val) = List.range pre.length) q w := fun l J Jx W hW hJ _ hY h0 =>
  chunk1_in n hn l Bs Bn b off q cap A hA hqc hcm J Jx hY (fun s W1 h => hJ s W1 W1.drew none h (only_drew (World.grownBy.refl W1 none)) (fun r e => by cases e)) W
    ⟨(hW.cell (p := ⟨Bs, 0, none⟩) hBs).trans hR.1, (hW.cell (p := ⟨Bn, 0, none⟩) hBn).trans hR.2⟩ h0
end Go.Proofs.Ytdpmdlibgabjaaa
/-
  mix.Four, whatever bytes it is handed, answers the four words of these bytes; nothing that was there is written.
-/
namespace Go.Proofs.Ytdpmdlibgabjaaa
open Go.RowKit Go.Shelf
set_option maxRecDepth 100000
attribute [local go_sem] Oper.semAt_some

/-- b[:h], b nil or not. -/
theorem slice_to (W : World) (a : Option Addr) (len cap h : Nat) (hc : h ≤ cap) : (Instr.slice 23 (.slice a len cap) none (some (.int .i64 (h : Int))) none).run Try.prog W = .ok (.slice a h cap) W := by
  rw [run_slice_h W 23 _ _ _ (by kernel_rfl) .i64 _ (by omega) (by omega)]
  have hz : (Go.sizeOf (Try.prog.elem 23)).run Try.prog W = .ok 1 W := by kernel_rfl
  rw [hz]
  cases a <;> simp [Result.andThen, sliced, Addr.add]
/-- b[l:], b nil or not. -/
theorem slice_from (a : Option Addr) (len cap l : Nat) (hl : l ≤ len) (hc : len ≤ cap) : ∃ A', (∀ W : World, (Instr.slice 23 (.slice a len cap) (some (.int .i64 (l : Int))) none none).run Try.prog W = .ok (.slice A' (len - l) (cap - l)) W) ∧ (l < len → ∀ b off, a = some ⟨b, off, none⟩ → A' = some ⟨b, off + l, none⟩) := by
  have hz : ∀ W : World, (Go.sizeOf (Try.prog.elem 23)).run Try.prog W = .ok 1 W := fun W => by kernel_rfl
  cases a with
  | none =>
    refine ⟨none, fun W => ?_, fun _ b off h => by cases h⟩
    rw [run_slice_l W 23 _ _ _ (by kernel_rfl) .i64 _ (by omega) (by omega), hz]
    simp [Result.andThen, sliced]
    try omega
  | some x =>
    refine ⟨if cap = l then some x else some (if l = 0 then x else x.add l), fun W => ?_, fun h b off e => ?_⟩
    · rw [run_slice_l W 23 _ _ _ (by kernel_rfl) .i64 _ (by omega) (by omega), hz]
      have e0 : (if l = 0 then x else x.add l) = x.add l := by
        by_cases h0 : l = 0
        · subst h0; simp [Addr.add]
        · rw [if_neg h0]
      simp [Result.andThen, sliced, e0]
    · cases e
      rw [if_neg (by omega)]
      by_cases h0 : l = 0
      · subst h0; simp
      · rw [if_neg h0]; unfold Addr.add; rw [if_neg h0]

/-- Eight bytes of a text, one byte 1 and noughts behind it. -/
def octP (s : List UInt8) (j : Nat) : List UInt8 := [byteP s j, byteP s (j + 1), byteP s (j + 2), byteP s (j + 3), byteP s (j + 4), byteP s (j + 5), byteP s (j + 6), byteP s (j + 7)]
theorem octP_get (s : List UInt8) (j i : Nat) (h : i < (octP s j).length) : (octP s j)[i] = byteP s (j + i) := by
  have h8 : i < 8 := h
  have : i = 0 ∨ i = 1 ∨ i = 2 ∨ i = 3 ∨ i = 4 ∨ i = 5 ∨ i = 6 ∨ i = 7 := by omega
  rcases this with rfl | rfl | rfl | rfl | rfl | rfl | rfl | rfl <;> rfl
theorem octP_lo (s : List UInt8) (j : Nat) : (octP s j).take 4 = quadP s j := rfl
theorem octP_hi (s : List UInt8) (j : Nat) : ((octP s j).drop 4).take 4 = quadP s (j + 4) := rfl

/-- The words behind these pieces, whichever they are. -/
def foldP (s : List UInt8) (pre : List Nat) : W4 := pre.foldl (fun x k => stepW x (wordP s (8 * k)) (wordP s (8 * k + 4))) ⟨1, 2, 3, 4⟩
theorem foldP_snoc (s : List UInt8) (pre : List Nat) (k : Nat) : foldP s (pre ++ [k]) = stepW (foldP s pre) (wordP s (8 * k)) (wordP s (8 * k + 4)) := by simp [foldP]
theorem foldP_range (s : List UInt8) : ∀ k, foldP s (List.range k) = behind s k
  | 0 => rfl
  | k + 1 => by rw [List.range_succ, foldP_snoc, foldP_range s k]; rfl

theorem vals_length (s : List UInt8) : (vals s).length = s.length := by simp [vals]
/-- What copy lays at the beginning of eight noughts, and one byte 1 behind it. -/
theorem octP_laid (s : List UInt8) (L r : Nat) (hr : r < 8) (hs : s.length = L + r) :
    ((splice (List.replicate 8 (Value.int .u8 0)) 0 (vals (s.drop L))).toArray).setIfInBounds r (.int .u8 1) = (vals (octP s L)).toArray := by
  have hcl : (vals (s.drop L)).length = r := by rw [vals_length, List.length_drop]; omega
  obtain ⟨Z, hZ⟩ : ∃ Z, List.replicate 8 (Value.int .u8 0) = Z := ⟨_, rfl⟩
  have hZl : Z.length = 8 := by rw [← hZ]; rfl
  have hZg : ∀ i (h : i < Z.length), Z[i] = .int .u8 0 := by subst hZ; intro i h; exact List.getElem_replicate _
  rw [hZ]
  clear hZ
  have hlen : (splice Z 0 (vals (s.drop L))).length = 8 := by rw [length_splice _ _ _ (by omega), hZl]
  have ho : (vals (octP s L)).length = 8 := by rw [vals_length]; rfl
  apply Array.ext
  · rw [Array.size_setIfInBounds, List.size_toArray, List.size_toArray, hlen, ho]
  intro i h1 h2
  have hi8 : i < (octP s L).length := by rw [List.size_toArray, vals_length] at h2; exact h2
  have hi9 : i < 8 := hi8
  have hR : ((vals (octP s L)).toArray)[i] = .int .u8 ((byteP s (L + i)).toNat : Int) := by
    have hget := octP_get s L i hi8
    show (List.map (fun x : UInt8 => Value.int .u8 (x.toNat : Int)) (octP s L))[i]'(by rw [List.length_map]; exact hi8) = _
    rw [List.getElem_map, hget]
  refine Eq.trans ?_ hR.symm
  rw [Array.getElem_setIfInBounds (by rw [List.size_toArray, hlen]; exact hi9)]
  by_cases e : r = i
  · subst e
    rw [if_pos rfl]
    unfold byteP
    rw [dif_neg (by omega), if_pos (by omega)]
    rfl
  · rw [if_neg e]
    simp only [List.getElem_toArray, splice, List.take_zero, List.nil_append, Nat.zero_add]
    by_cases hlt : i < r
    · rw [List.getElem_append_left (by rw [hcl]; exact hlt)]
      simp only [vals, List.getElem_map, List.getElem_drop]
      unfold byteP
      rw [dif_pos (by omega)]
    · rw [List.getElem_append_right (by rw [hcl]; omega)]
      simp only [List.getElem_drop, hZg]
      unfold byteP
      rw [dif_neg (by omega), if_neg (by omega)]
      rfl

/-- What the loop of Four keeps: the block of x, that of the result, and what lay below. -/
def FourI (s : List UInt8) (g q : Nat) (w : World) (pre : List (Fin q)) (W : World) : Prop :=
  (Blk W (g + 1) 67 (cl (foldP s (pre.map (·.val)))) ∧ Blk W g 67 #[.int .u32 0, .int .u32 0, .int .u32 0, .int .u32 0]) ∧ Below g w W

theorem keepsOthers_below {W W' : World} (h : Below W.heap.size W W') : KeepsOthers W W' := ⟨h.size, fun k _ hk _ => (h.block k (Array.getElem?_eq_some_iff.1 hk).1).trans hk⟩
theorem keepsOthers_set4 (W : World) (g : Nat) (v0 v1 v2 v3 : Value) : KeepsOthers W ((((W.setCell ⟨g, 0, none⟩ v0).setCell ⟨g, 1, none⟩ v1).setCell ⟨g, 2, none⟩ v2).setCell ⟨g, 3, none⟩ v3) :=
  (((KeepsOthers.setCell _ _ _).trans (KeepsOthers.setCell _ _ _)).trans (KeepsOthers.setCell _ _ _)).trans (KeepsOthers.setCell _ _ _)
theorem cell_set4 {W : World} {g : Nat} {p : Addr} (hp : p.block ≠ g) (v0 v1 v2 v3 : Value) : ((((W.setCell ⟨g, 0, none⟩ v0).setCell ⟨g, 1, none⟩ v1).setCell ⟨g, 2, none⟩ v2).setCell ⟨g, 3, none⟩ v3).cell? p = W.cell? p := by
  have hne : ∀ i, (⟨g, i, none⟩ : Addr) ≠ p := fun i e => hp (by rw [← e])
  rw [World.cell?_setCell_other _ _ _ _ (hne 3), World.cell?_setCell_other _ _ _ _ (hne 2), World.cell?_setCell_other _ _ _ _ (hne 1), World.cell?_setCell_other _ _ _ _ (hne 0)]
theorem reachC_step {Bs Bn g : Nat} {A : Option Addr} {q cap : Nat} {W W1 : World} (hBs : Bs ≠ g) (hBn : Bn ≠ g) (hb : Below W.heap.size W W1) (v0 v1 v2 v3 : Value) (hR : ReachC Bs Bn A q cap W) :
    ReachC Bs Bn A q cap ((((W1.setCell ⟨g, 0, none⟩ v0).setCell ⟨g, 1, none⟩ v1).setCell ⟨g, 2, none⟩ v2).setCell ⟨g, 3, none⟩ v3) := by
  have h1 := World.block_lt_of_cell? W _ hR.1
  have h2 := World.block_lt_of_cell? W _ hR.2
  exact ⟨(cell_set4 (p := ⟨Bs, 0, none⟩) hBs _ _ _ _).trans ((hb.cell h1).trans hR.1), (cell_set4 (p := ⟨Bn, 0, none⟩) hBn _ _ _ _).trans ((hb.cell h2).trans hR.2)⟩
theorem blk_own {β : Type} (B : Nat) (t : TypeId) (f : β → Array Value) : Own (fun s W => Blk W B t (f s)) := fun s X Y row hs hg hrow =>
  Blk.grown hs hg (fun e' => by obtain ⟨o, ho, hc⟩ := hrow B e'.symm; rw [show X.heap[B]? = _ from hs] at ho; cases ho; cases hc)

set_option maxHeartbeats 2000000 in
theorem four_in (m : Nat) (hn : 3 ≤ m) (a : Option Addr) (len cap : Nat) (s : List UInt8) (w : World) (hA : Bsl w w.heap.size a len cap s) (hlen : len ≤ 4294967295) :
    CallsIn Fence.wide m Try.prog 33 #[.slice a len cap] w fun e W' => e = .returned (ag (fourW s)) ∧ Below w.heap.size w W' := by
  have hro : Fence.wide.round = none := rfl
  have hmx : Try.prog.follows Departure.mixedOrders = true := by kernel_rfl
  obtain ⟨q, hq⟩ : ∃ q, len / 8 = q := ⟨_, rfl⟩
  obtain ⟨r, hr⟩ : ∃ r, len % 8 = r := ⟨_, rfl⟩
  obtain ⟨L, hL⟩ : ∃ L, 8 * q = L := ⟨_, rfl⟩
  have hLl : L ≤ len := by omega
  have hlc := hA.2.1
  have hcm := hA.2.2.1
  have e1 : (len : Int) % 8 = (r : Int) := by omega
  have e2 : (len : Int) - (r : Int) = (L : Int) := by omega
  have hto := fun W => slice_to W a len cap L (by omega)
  obtain ⟨A', hfrom, hA'⟩ := slice_from a len cap L hLl hlc
  have i0 : (0 : Int) ≤ len := by omega
  have i1 : (len : Int) ≤ 4294967295 := by omega
  have i2 : (0 : Int) ≤ (r : Int) := by omega
  have i3 : (r : Int) ≤ 7 := by omega
  have HA := Lib.hid hA; clear hA
  have HA' := Lib.hid hA'; clear hA'
  have HQ := Lib.hid hq; clear hq
  have HR := Lib.hid hr; clear hr
  have HL := Lib.hid hL; clear hL
  have HFrom := Lib.hid hfrom; clear hfrom
  refine callsIn_of_wp_marks Try.func33 rfl trivial ?_ hro
  simp only [Try.ntmps33, List.size_toArray, List.length_cons, List.length_nil, Nat.reduceAdd, Nat.reduceSub, Array.replicate_succ, Array.replicate_zero, List.push_toArray, List.append_toArray, List.nil_append, List.cons_append]
  have hd : 1 ≤ m := by omega
  gi_wp2_with (refine ⟨trivial, ?_⟩; (gi_at_call 57; refine (chunk_in Fence.wide (m - 1) trivial hro _ _ _ _).mono ?_; rintro e w' ⟨rfl, rfl⟩))
  obtain ⟨g, hg⟩ : ∃ g, w.heap.size = g := ⟨_, rfl⟩
  obtain ⟨W0, hW0⟩ : ∃ W0, ((((w.alloc (Obj.cells #[Value.int IntKind.u32 0, Value.int IntKind.u32 0, Value.int IntKind.u32 0, Value.int IntKind.u32 0] 67)).alloc (Obj.cells #[Value.int IntKind.u32 1, Value.int IntKind.u32 2, Value.int IntKind.u32 3, Value.int IntKind.u32 4] 67)).alloc (Obj.cells #[Value.slice a L cap] 23)).alloc (Obj.cells #[Value.int IntKind.i64 8] 3)) = W0 := ⟨_, rfl⟩
  have hsz : W0.heap.size = g + 4 := by rw [← hW0]; simp [hg]
  have hB0 : Below g w W0 := by rw [← hW0, ← hg]; exact ((((Below.refl _ w).alloc (Nat.le_refl _) _).alloc (by simp) _).alloc (by simp; omega) _).alloc (by simp; omega) _
  have b0 : Blk W0 g 67 #[.int .u32 0, .int .u32 0, .int .u32 0, .int .u32 0] := by rw [← hW0, ← hg]; exact (((Blk.new w _ _).alloc _).alloc _).alloc _
  have b1 : Blk W0 (g + 1) 67 (cl ⟨1, 2, 3, 4⟩) := by
    have := ((Blk.new (w.alloc (Obj.cells #[Value.int IntKind.u32 0, Value.int IntKind.u32 0, Value.int IntKind.u32 0, Value.int IntKind.u32 0] 67)) 67 (cl ⟨1, 2, 3, 4⟩)).alloc (Obj.cells #[Value.slice a L cap] 23)).alloc (Obj.cells #[Value.int IntKind.i64 8] 3)
    rw [World.size_alloc, hg] at this
    rw [← hW0]
    exact this
  have b2 : Blk W0 (g + 2) 23 #[.slice a L cap] := by
    have := (Blk.new ((w.alloc (Obj.cells #[Value.int IntKind.u32 0, Value.int IntKind.u32 0, Value.int IntKind.u32 0, Value.int IntKind.u32 0] 67)).alloc (Obj.cells (cl ⟨1, 2, 3, 4⟩) 67)) 23 #[.slice a L cap]).alloc (Obj.cells #[Value.int IntKind.i64 8] 3)
    rw [World.size_alloc, World.size_alloc, hg] at this
    rw [← hW0]
    exact this
  have b3 : Blk W0 (g + 3) 3 #[.int .i64 8] := by
    have := (Blk.new (((w.alloc (Obj.cells #[Value.int IntKind.u32 0, Value.int IntKind.u32 0, Value.int IntKind.u32 0, Value.int IntKind.u32 0] 67)).alloc (Obj.cells (cl ⟨1, 2, 3, 4⟩) 67)).alloc (Obj.cells #[Value.slice a L cap] 23)) 3 #[.int .i64 8])
    rw [World.size_alloc, World.size_alloc, World.size_alloc, hg] at this
    rw [← hW0]
    exact this
  obtain ⟨b, off, hbo⟩ : ∃ b off, 0 < len → a = some ⟨b, off, none⟩ ∧ b < g ∧ ∀ i (h : i < s.length), w.cell? ⟨b, off + i, none⟩ = some (.int .u8 ((s[i]).toNat : Int)) := by
    rcases Nat.eq_zero_or_pos len with h0 | h0
    · exact ⟨0, 0, fun h => by omega⟩
    · obtain ⟨b, off, h1, h2, h3⟩ := HA.out.2.2.2.2 h0
      exact ⟨b, off, fun _ => ⟨h1, by omega, h3⟩⟩
  have hqL : 8 * q = L := HL.out
  rw [hW0, hg]
  have hR : ReachC (g + 2) (g + 3) a q cap W0 := ⟨by rw [hqL]; exact b2.cell 0, b3.cell 0⟩
  refine wpIn_rangeFunc_ownG hro hd (gf := 80) (lb := #[.pointer (some ⟨g + 1 + 1, 0, none⟩), .pointer (some ⟨g + 1 + 1 + 1, 0, none⟩)]) rfl trivial (enters_of Try.func80 (by kernel_rfl) rfl)
    (stopsC (m - 1) (by omega) (g + 1 + 1) (g + 1 + 1 + 1) b off q cap a (fun h => (hbo (by omega)).1) (by omega) (by unfold maxLen at hcm; omega) W0 (by omega) (by omega) hR) (fun h k r => k (h r)) (fun W l o o' _ h ho _ => reachC_putObj l o o' h ho) (Below.refl _ _) (fun _ => rfl)
    (FourI s g q w) (fun _ _ _ => False) ?hI (fun _ _ _ _ _ hs _ _ => hs) ⟨⟨b1, b0⟩, hB0⟩
    (fun x => { tmps := #[Value.slice a len cap, undef, Value.pointer (some { block := g, off := 0 }), Value.pointer (some { block := g + 1, off := 0 }), Value.int IntKind.i64 ↑L, .slice (some ⟨b, off + 8 * x.val, none⟩) 8 8, undef, Value.agg #[Value.int IntKind.u32 1, Value.int IntKind.u32 2, Value.int IntKind.u32 3, Value.int IntKind.u32 4], Value.slice a len cap, Value.int IntKind.i64 ↑len, Value.slice a len cap, Value.int IntKind.i64 ↑len, Value.int IntKind.i64 ↑r, Value.int IntKind.i64 ↑L, Value.slice a len cap, Value.int IntKind.i64 ↑L, Value.slice a L cap, Value.func (Fn.func 80) #[] #[Value.pointer (some { block := g + 1 + 1, off := 0 }), Value.pointer (some { block := g + 1 + 1 + 1, off := 0 })], .slice (some ⟨b, off + 8 * x.val, none⟩) 8 8, undef, undef, undef, undef, undef, undef, undef, undef, undef, undef, undef, undef, undef, undef, undef, undef, undef, undef, undef, undef, undef], defers := [] }) ?assign ?body ?done ?stop
  case hI => exact OwnFrom.and (OwnFrom.and ((blk_own _ _ _).from _) ((blk_own _ _ _).from _)) (ownFrom_below (by omega) (by omega))
  case assign =>
    intro l x W K hK
    gi_wp2
    exact hK
  case body =>
    rintro l pre x W ⟨⟨hx, hr0⟩, hB⟩ _
    have c0 := hx.cell 0
    have c1 := hx.cell 1
    have c2 := hx.cell 2
    have c3 := hx.cell 3
    have hbt := hbo (by have := x.isLt; omega)
    have htk := take_any (foldP s (pre.map (·.val))) b (off + 8 * x.val) 8 (octP s (8 * x.val)) rfl (by omega) (by omega) W (Nat.lt_of_lt_of_le hbt.2.1 (by rw [← hg]; exact hB.size)) (fun i hi => by
      have hi8 : i < 8 := hi
      have hxq := x.isLt
      have hls : s.length = len := HA.out.1
      rw [octP_get, Nat.add_assoc, hB.cell (p := ⟨b, off + (8 * x.val + i), none⟩) hbt.2.1, hbt.2.2 (8 * x.val + i) (by omega)]
      unfold byteP
      rw [dif_pos (by omega)])
    rw [octP_lo, octP_hi] at htk
    have HX := Lib.hid hx; clear hx
    have HR0 := Lib.hid hr0; clear hr0
    have HB := Lib.hid hB; clear hB
    have HT := Lib.hid htk; clear htk
    have HBO := Lib.hid hbo; clear hbo
    have HBT := Lib.hid hbt; clear hbt
    have hd2 : 1 ≤ m - 1 - 1 := by omega
    gi_wp2
    refine ⟨trivial, ?_⟩
    refine (CallsIn.inRound l (callsIn_wide.2 HT.out)).mono ?_
    rintro e W1 ⟨rfl, bb⟩
    have hx1 := HX.out.below bb HX.out.lt
    have hr1 := HR0.out.below bb HR0.out.lt
    have hb1 := HB.out.trans (bb.mono (by rw [← hg]; exact HB.out.size))
    have f := fun i => hx1.frozen i
    have d0 := hx1.cell 0
    have d1 := hx1.cell 1
    have d2 := hx1.cell 2
    have d3 := hx1.cell 3
    have HX1 := Lib.hid hx1; clear hx1
    have HR1 := Lib.hid hr1; clear hr1
    have HB1 := Lib.hid hb1; clear hb1
    have HBB := Lib.hid bb; clear bb
    clear c0 c1 c2 c3
    have hy : foldP s ((pre ++ [x]).map (·.val)) = stepW (foldP s (pre.map (·.val))) (BitVec.ofNat 32 (leN (quadP s (8 * x.val)))) (BitVec.ofNat 32 (leN (quadP s (8 * x.val + 4)))) := by rw [List.map_append, List.map_cons, List.map_nil, foldP_snoc]; rfl
    obtain ⟨y, hy'⟩ : ∃ y, stepW (foldP s (pre.map (·.val))) (BitVec.ofNat 32 (leN (quadP s (8 * x.val)))) (BitVec.ofNat 32 (leN (quadP s (8 * x.val + 4)))) = y := ⟨_, rfl⟩
    rw [hy'] at hy ⊢
    clear hy' HT
    have HY := Lib.hid hy; clear hy
    gi_wp2
    exact ⟨((keepsOthers_below HBB.out).trans (keepsOthers_set4 _ _ _ _ _ _)).from _, fun hr => reachC_step (by omega) (by omega) HBB.out _ _ _ _ hr,
      ⟨by rw [HY.out]; exact HX1.out.set4 _ _ _ _, (((HR1.out.far (by simp) _).far (by simp) _).far (by simp) _).far (by simp) _⟩, below_set4 HB1.out (by omega) _ _ _ _⟩
  case done =>
    rintro D ys W hD hC ⟨⟨hx, hr0⟩, hB⟩ hK
    have hC' : ys.map (·.val) = List.range q := hC
    rw [hC', foldP_range] at hx
    clear hC hC'
    have hD' : g + 4 ≤ D := by omega
    have HX := Lib.hid hx; clear hx
    have HR0 := Lib.hid hr0; clear hr0
    have HB := Lib.hid hB; clear hB
    have HK := Lib.hid hK; clear hK
    have HBO := Lib.hid hbo; clear hbo
    have hfr := HFrom.out
    have HSZ := Lib.hid hsz; clear hsz
    have HW0 := Lib.hid hW0; clear hW0
    have HG := Lib.hid hg; clear hg
    have HQL := Lib.hid hqL; clear hqL
    have HB0 := Lib.hid hB0; clear hB0 b0 b1 b2 b3 hR
    gi_wp2
    obtain ⟨t, ht⟩ : ∃ t, W.heap.size = t := ⟨_, rfl⟩
    obtain ⟨W1, hW1⟩ : ∃ W1, (W.alloc (Obj.cells #[Value.int IntKind.u8 0, Value.int IntKind.u8 0, Value.int IntKind.u8 0, Value.int IntKind.u8 0, Value.int IntKind.u8 0, Value.int IntKind.u8 0, Value.int IntKind.u8 0, Value.int IntKind.u8 0] 100)).drew = W1 := ⟨_, rfl⟩
    have hbt : Blk W1 t 100 (List.replicate 8 (Value.int .u8 0)).toArray := by rw [← hW1, ← ht]; exact (Blk.new W _ _).drew
    have hx1 : Blk W1 (g + 1) 67 (cl (behind s q)) := by rw [← hW1]; exact (HX.out.alloc _).drew
    have hr1 : Blk W1 g 67 #[.int .u32 0, .int .u32 0, .int .u32 0, .int .u32 0] := by rw [← hW1]; exact (HR0.out.alloc _).drew
    have hgW : g ≤ W.heap.size := by rw [← HG.out]; exact HB.out.size
    have hb1 : Below g w W1 := by rw [← hW1]; exact (HB.out.alloc hgW _).drew
    have hk1 : W1.heap[D]? = some (.deferred (some [])) := by
      rw [← hW1]
      exact (Below.heap_alloc W _ D (Array.getElem?_eq_some_iff.1 HK.out).1).trans HK.out
    have hst : W1.heap.size = t + 1 := by rw [← hW1, ← ht]; simp
    have hgt : g + 1 < t := by rw [← ht]; exact HX.out.lt
    have hDt : D < t := by rw [← ht]; exact (Array.getElem?_eq_some_iff.1 HK.out).1
    rw [ht]
    have HW1 := Lib.hid hW1; clear hW1
    have HT := Lib.hid ht; clear ht
    have HBT := Lib.hid hbt; clear hbt
    have HX1 := Lib.hid hx1; clear hx1
    have HR1 := Lib.hid hr1; clear hr1
    have HB1 := Lib.hid hb1; clear hb1
    have HK1 := Lib.hid hk1; clear hk1
    have HST := Lib.hid hst; clear hst
    refine region_wide_named 4 hmx (by kernel_rfl) (fun h => by obtain ⟨_, _, h, _⟩ := h; cases h) (by kernel_rfl) HW1.out ?_
    simp only [List.take_succ_cons, List.take_zero, List.drop_succ_cons, List.drop_zero]
    repeat still_step
    refine wpStill_nil ?_
    have hls : s.length = L + r := by rw [HA.out.1]; have := HQ.out; have := HR.out; have := HQL.out; omega
    have hcl : (vals (s.drop L)).length = r := by rw [vals_length, List.length_drop]; omega
    refine wpList_copy_splice rfl (.tmp 22) (.tmp 25) 23 23 rfl 5 Try.underlying23 (by kernel_rfl) (some ⟨t, 0, none⟩) A' 8 8 (len - L) (cap - L) rfl rfl t 0 (List.replicate 8 (.int .u8 0)) 100 HBT.out (vals (s.drop L)) ?_ ?_ ?_ ?_ t W1 (Below.refl _ _) (Nat.le_refl _) ?_
    · rw [hcl]
      have : len - L = r := by have := HA.out.1; omega
      rw [this]
      show r = min r 8
      omega
    · intro hpos
      have hlp : L < len := by have := HA.out.1; omega
      obtain ⟨ea, hbg, hc⟩ := HBO.out (by omega)
      refine ⟨rfl, ⟨b, off + L, none⟩, HA'.out hlp b off ea, fun j v hv => ?_⟩
      obtain ⟨hj, rfl⟩ := vals_get hv
      have hj' : L + j < s.length := by rw [List.length_drop] at hj; omega
      have e1 : (⟨b, off + L, none⟩ : Addr).add j = ⟨b, off + (L + j), none⟩ := by
        unfold Addr.add
        by_cases h0 : j = 0
        · subst h0; simp
        · rw [if_neg h0]; simp; omega
      rw [e1, HB1.out.cell (p := ⟨b, off + (L + j), none⟩) hbg, hc (L + j) hj']
      simp only [List.getElem_drop]
    · rw [hcl]; simp; omega
    · intro v hv
      obtain ⟨y, _, rfl⟩ := List.mem_map.1 hv
      rfl
    · intro W2 hh hb2
      rw [hcl]
      have hbt2 : Blk W2 t 100 (splice (List.replicate 8 (Value.int .u8 0)) 0 (vals (s.drop L))).toArray := hh.out
      have hsp : (splice (List.replicate 8 (Value.int .u8 0)) 0 (vals (s.drop L))).length = 8 := by rw [length_splice _ _ _ (by rw [hcl]; simp; omega)]; rfl
      have hlr : ∃ u, W2.cell? ⟨t, r, none⟩ = some u := by
        rw [hbt2.cell r]
        exact ⟨_, Array.getElem?_eq_getElem (by rw [List.size_toArray, hsp]; omega)⟩
      obtain ⟨u, hu⟩ := hlr
      have hfz := hbt2.frozen r
      have hset := octP_laid s L r (by omega) hls
      have j0 : (r : Int) < 8 := by omega
      have hx2 := HX1.out.below hb2 hgt
      have hr2 := HR1.out.below hb2 (by omega)
      have hbw2 : Below g w W2 := HB1.out.trans (hb2.mono (by omega))
      have hk2 : W2.heap[D]? = some (.deferred (some [])) := (hb2.block D hDt).trans HK1.out
      have HX2 := Lib.hid hx2; clear hx2
      have HR2 := Lib.hid hr2; clear hr2
      have HBW2 := Lib.hid hbw2; clear hbw2
      have HK2 := Lib.hid hk2; clear hk2
      have HBT2 := Lib.hid hbt2; clear hbt2
      have HSET := Lib.hid hset; clear hset
      have HLS := Lib.hid hls; clear hls
      have HCL := Lib.hid hcl; clear hcl
      have HB2 := Lib.hid hb2; clear hb2
      clear hsp hh
      go_wp2
      gi_wp2
      obtain ⟨W3, hW3⟩ : ∃ W3, (W2.setCell ⟨t, r, none⟩ (Value.int IntKind.u8 1)).drew = W3 := ⟨_, rfl⟩
      have hbt3 : Blk W3 t 100 (vals (octP s L)).toArray := by rw [← hW3, ← HSET.out]; exact (HBT2.out.set_ r _).drew
      have hx3 : Blk W3 (g + 1) 67 (cl (behind s q)) := by rw [← hW3]; exact (HX2.out.far (by simp; omega) _).drew
      have hr3 : Blk W3 g 67 #[.int .u32 0, .int .u32 0, .int .u32 0, .int .u32 0] := by rw [← hW3]; exact (HR2.out.far (by simp; omega) _).drew
      have hb3 : Below g w W3 := by rw [← hW3]; exact (HBW2.out.setCell (p := ⟨t, r, none⟩) (by simp; omega) _).drew
      have hk3 : W3.heap[D]? = some (.deferred (some [])) := by rw [← hW3]; exact (Below.heap_setCell W2 ⟨t, r, none⟩ _ D (by simp; omega)).trans HK2.out
      have htk := take_any (behind s q) t 0 8 (octP s L) rfl (by omega) (by omega) W3 hbt3.lt (fun i hi => by
        have hi8 : i < 8 := hi
        rw [Nat.zero_add, hbt3.cell i, List.getElem?_toArray]
        show (List.map _ (octP s L))[i]? = _
        rw [List.getElem?_map, List.getElem?_eq_getElem hi]
        rfl)
      rw [octP_lo, octP_hi] at htk
      have hst : stepW (behind s q) (BitVec.ofNat 32 (leN (quadP s L))) (BitVec.ofNat 32 (leN (quadP s (L + 4)))) = behind s (q + 1) := by rw [← HQL.out]; rfl
      rw [hst] at htk
      have c0 := hx3.cell 0
      have c1 := hx3.cell 1
      have c2 := hx3.cell 2
      have c3 := hx3.cell 3
      have HW3 := Lib.hid hW3; clear hW3
      have HTK := Lib.hid htk; clear htk hst
      have HX3 := Lib.hid hx3; clear hx3
      have HR3 := Lib.hid hr3; clear hr3
      have HB3 := Lib.hid hb3; clear hb3
      have HK3 := Lib.hid hk3; clear hk3
      clear hbt3 hfz hu
      refine region_wide_named 2 hmx (by kernel_rfl) (fun h => by obtain ⟨_, _, h, _⟩ := h; cases h) (by kernel_rfl) HW3.out ?_
      simp only [List.take_succ_cons, List.take_zero, List.drop_succ_cons, List.drop_zero]
      repeat still_step
      refine wpStill_nil ?_
      go_wp2_with fail
      refine HTK.out.mono ?_
      rintro e W4 ⟨rfl, b4⟩
      obtain ⟨y, hy⟩ : ∃ y, behind s (q + 1) = y := ⟨_, rfl⟩
      rw [hy]
      have hx4 := HX3.out.below b4 HX3.out.lt
      have hr4 := HR3.out.below b4 HR3.out.lt
      have hb4 : Below g w W4 := HB3.out.trans (b4.mono (by rw [← HG.out]; exact HB3.out.size))
      have hk4 : W4.heap[D]? = some (.deferred (some [])) := (b4.block D (Array.getElem?_eq_some_iff.1 HK3.out).1).trans HK3.out
      have f := fun i => hx4.frozen i
      have d0 := hx4.cell 0
      have d1 := hx4.cell 1
      have d2 := hx4.cell 2
      have d3 := hx4.cell 3
      have hxl : ∀ x : BitVec 32, bits .xor .u32 (x.toNat : Int) (len : Int) = ((xo x (BitVec.ofNat 32 len)).toNat : Int) := fun x => by
        have e : (BitVec.ofNat 32 len).toNat = len := by rw [BitVec.toNat_ofNat]; exact Nat.mod_eq_of_lt (by omega)
        have := xor32 x (BitVec.ofNat 32 len)
        rwa [e] at this
      have HY := Lib.hid hy; clear hy
      have HX4 := Lib.hid hx4; clear hx4
      have HR4 := Lib.hid hr4; clear hr4
      have HB4 := Lib.hid hb4; clear hb4
      have HK4 := Lib.hid hk4; clear hk4
      clear b4 c0 c1 c2 c3
      go_wp2
      obtain ⟨W5, hW5⟩ : ∃ W5, ((((W4.setCell ⟨g + 1, 0, none⟩ (.int .u32 (y.a.toNat : Int))).setCell ⟨g + 1, 1, none⟩ (.int .u32 (y.b.toNat : Int))).setCell ⟨g + 1, 2, none⟩ (.int .u32 (y.c.toNat : Int))).setCell ⟨g + 1, 3, none⟩ (.int .u32 (y.d.toNat : Int))) = W5 := ⟨_, rfl⟩
      have hx5 : Blk W5 (g + 1) 67 (cl y) := hW5 ▸ HX4.out.set4 _ _ _ _
      have hr5 : Blk W5 g 67 #[.int .u32 0, .int .u32 0, .int .u32 0, .int .u32 0] := hW5 ▸ (((HR4.out.far (by simp) _).far (by simp) _).far (by simp) _).far (by simp) _
      have hb5 : Below g w W5 := hW5 ▸ below_set4 HB4.out (by omega) _ _ _ _
      have hk5 : W5.heap[D]? = some (.deferred (some [])) := hW5 ▸ (keepsOthers_set4 W4 (g + 1) _ _ _ _).same D _ HK4.out rfl
      rw [hW5]
      clear hW5 f d0 d1 d2 d3 e1 e2 hto hfr HX4 HR4 HB4 HK4
      have f := fun i => hx5.frozen i
      have d0 := hx5.cell 0
      have d1 := hx5.cell 1
      have d2 := hx5.cell 2
      have d3 := hx5.cell 3
      have HX5 := Lib.hid hx5; clear hx5
      have HR5 := Lib.hid hr5; clear hr5
      have HB5 := Lib.hid hb5; clear hb5
      have HK5 := Lib.hid hk5; clear hk5
      gi_wp2_with (fail)
      refine ⟨trivial, ?_⟩
      refine (callsIn_wide.2 (turns_any ⟨y.a, xo y.b (BitVec.ofNat 32 len), y.c, y.d⟩ 8 (by omega) _)).mono ?_
      rintro e W6 ⟨rfl, b6⟩
      have hz : turnsW 8 ⟨y.a, xo y.b (BitVec.ofNat 32 len), y.c, y.d⟩ = fourW s := by
        have h1 : s.length = len := HA.out.1
        have h2 : len / 8 = q := HQ.out
        unfold fourW
        rw [h1, h2, HY.out]
      rw [hz]
      obtain ⟨z, hz'⟩ : ∃ z, fourW s = z := ⟨_, rfl⟩
      rw [hz']
      have hr6 : Blk W6 g 67 _ := (HR5.out.far (p := ⟨g + 1, 1, none⟩) (by simp) (.int .u32 ((xo y.b (BitVec.ofNat 32 len)).toNat : Int))).below b6 (by simp; exact HR5.out.lt)
      have hb6 : Below g w W6 := (HB5.out.setCell (p := ⟨g + 1, 1, none⟩) (by simp) _).trans (b6.mono (by simp; rw [← HG.out]; exact HB5.out.size))
      have hk6 : W6.heap[D]? = some (.deferred (some [])) := (b6.block D (by simp; exact (Array.getElem?_eq_some_iff.1 HK5.out).1)).trans ((Below.heap_setCell W5 ⟨g + 1, 1, none⟩ _ D (by simp; omega)).trans HK5.out)
      have HZ := Lib.hid hz'; clear hz' hz
      clear f d0 d1 d2 d3 b6
      have f := fun i => hr6.frozen i
      have d0 := hr6.cell 0
      have d1 := hr6.cell 1
      have d2 := hr6.cell 2
      have d3 := hr6.cell 3
      have HR6 := Lib.hid hr6; clear hr6
      have HB6 := Lib.hid hb6; clear hb6
      have HK6 := Lib.hid hk6; clear hk6
      gi_wp2_with (fail)
      obtain ⟨W7, hW7⟩ : ∃ W7, ((((W6.setCell ⟨g, 0, none⟩ (.int .u32 (z.a.toNat : Int))).setCell ⟨g, 1, none⟩ (.int .u32 (z.b.toNat : Int))).setCell ⟨g, 2, none⟩ (.int .u32 (z.c.toNat : Int))).setCell ⟨g, 3, none⟩ (.int .u32 (z.d.toNat : Int))) = W7 := ⟨_, rfl⟩
      have hr7 : Blk W7 g 67 (cl z) := hW7 ▸ HR6.out.set4 _ _ _ _
      have hb7 : Below g w W7 := hW7 ▸ below_set4 HB6.out (Nat.le_refl _) _ _ _ _
      have hk7 : W7.heap[D]? = some (.deferred (some [])) := hW7 ▸ (keepsOthers_set4 W6 g _ _ _ _).same D _ HK6.out rfl
      rw [hW7]
      clear hW7 f d0 d1 d2 d3
      refine ⟨by simp, .inl ⟨_, _, rfl, run_takeDeferred hk7, ?_⟩⟩
      have hr8 : Blk (W7.putObj D (.deferred none)) g 67 (cl z) := hr7.grown (grownBy_putObj' W7 D (.deferred none)) (fun e => by injection e; omega)
      have e0 := hr8.cell 0
      have e1 := hr8.cell 1
      have e2 := hr8.cell 2
      have e3 := hr8.cell 3
      trace_state
      refine ⟨ag z, by simp [results, Try.f33, go_sem, e0, e1, e2, e3], ?_, ?_⟩
      · rw [HZ.out]
      · rw [HG.out]
        exact hb7.trans (belowK_b (w := w) (by rw [HG.out]; exact Nat.le_refl _) W7 D _ _ (by rw [HG.out]; omega) hk7 rfl rfl)
  case stop =>
    rintro D c pre W _ _ h _
    exact h.elim
end Go.Proofs.Ytdpmdlibgabjaaa
/-
  mix.Four, mix.Sum and mix.Key, whatever bytes they are handed, answer the four words of these bytes, the first of them, and all of them as bytes; nothing that was there is written.
-/
namespace Go.Proofs.Ytdpmdlibgabjaaa
open Go.RowKit Go.Shelf
set_option maxRecDepth 100000

theorem four_any (a : Option Addr) (len cap : Nat) (s : List UInt8) (w : World) (hA : Bsl w w.heap.size a len cap s) (hlen : len ≤ 4294967295) :
    Calls Try.prog 33 #[.slice a len cap] w fun e W' => e = .returned (ag (fourW s)) ∧ Below w.heap.size w W' :=
  callsIn_wide.1 (four_in 3 (Nat.le_refl _) a len cap s w hA hlen)

theorem sum_any (a : Option Addr) (len cap : Nat) (s : List UInt8) (w : World) (hA : Bsl w w.heap.size a len cap s) (hlen : len ≤ 4294967295) :
    Calls Try.prog 15 #[.slice a len cap] w fun e W' => e = .returned (.int .u32 ((fourW s).a.toNat : Int)) ∧ Below w.heap.size w W' := by
  have hf := four_any a len cap s w hA hlen
  have HF := Lib.hid hf; clear hf hA
  obtain ⟨x, hx⟩ : ∃ x, fourW s = x := ⟨_, rfl⟩
  rw [hx] at HF ⊢
  clear hx
  have hi : ∀ W : World, (Instr.index 67 (ag x) (.int .i64 0)).run Try.prog W = .ok (.int .u32 (x.a.toNat : Int)) W := fun W => by kernel_rfl
  go_enter Try.func15, Try.ntmps15
  go_wp2_with fail
  refine HF.out.mono ?_
  rintro e W1 ⟨rfl, b1⟩
  have HB := Lib.hid b1; clear b1
  go_wp2_with fail
  go_ret
  exact ⟨rfl, HB.out⟩

/-- The word of number k. -/
def nthW (x : W4) (k : Nat) : BitVec 32 := if k = 0 then x.a else if k = 1 then x.b else if k = 2 then x.c else x.d
theorem indexW (x : W4) (k : Nat) (hk : k < 4) (W : World) : (Instr.index 67 (ag x) (.int .i64 (k : Int))).run Try.prog W = .ok (.int .u32 ((nthW x k).toNat : Int)) W := by
  have : k = 0 ∨ k = 1 ∨ k = 2 ∨ k = 3 := by omega
  rcases this with rfl | rfl | rfl | rfl
  · exact (show (Instr.index 67 (ag x) (.int .i64 0)).run Try.prog W = .ok (.int .u32 (x.a.toNat : Int)) W by kernel_rfl)
  · exact (show (Instr.index 67 (ag x) (.int .i64 1)).run Try.prog W = .ok (.int .u32 (x.b.toNat : Int)) W by kernel_rfl)
  · exact (show (Instr.index 67 (ag x) (.int .i64 2)).run Try.prog W = .ok (.int .u32 (x.c.toNat : Int)) W by kernel_rfl)
  · exact (show (Instr.index 67 (ag x) (.int .i64 3)).run Try.prog W = .ok (.int .u32 (x.d.toNat : Int)) W by kernel_rfl)
/-- The bytes of the first k words. -/
def bytesW (x : W4) : Nat → List UInt8
  | 0 => []
  | k + 1 => bytesW x k ++ leB 4 (nthW x k).toNat
theorem bytesW_length (x : W4) : ∀ k, (bytesW x k).length = 4 * k
  | 0 => rfl
  | k + 1 => by rw [bytesW, List.length_append, bytesW_length x k, leB_length]; omega

/-- What Key leaves: sixteen bytes in new memory. -/
def KeyPost (x : W4) (w : World) (e : Ending) (W' : World) : Prop :=
  ∃ g cap, e = .returned (.slice (some ⟨g, 0, none⟩) 16 cap) ∧ w.heap.size ≤ g ∧ g < W'.heap.size ∧ 16 ≤ cap ∧ cap ≤ maxLen ∧ Holds W' g (bytesW x 4) ∧ Below w.heap.size w W'

set_option maxHeartbeats 2000000 in
theorem key_any (a : Option Addr) (len cap : Nat) (s : List UInt8) (w : World) (hA : Bsl w w.heap.size a len cap s) (hlen : len ≤ 4294967295) :
    Calls Try.prog 92 #[.slice a len cap] w (KeyPost (fourW s) w) := by
  obtain ⟨x, hx⟩ : ∃ x, fourW s = x := ⟨_, rfl⟩
  have hmk : ∀ W : World, (Instr.makeSlice 23 (.int .i64 0) (.int .i64 16)).run Try.prog W = .ok (.slice (some ⟨W.heap.size, 0, none⟩) 0 16) (W.alloc (.cells (Array.replicate 16 (.int .u8 0)) 5)) := fun W => by kernel_rfl
  have hb0 : Below w.heap.size w (w.alloc (.cells (Array.replicate 16 (.int .u8 0)) 5)) := (Below.refl _ w).alloc (Nat.le_refl _) _
  have hf := four_any a len cap s (w.alloc (.cells (Array.replicate 16 (.int .u8 0)) 5)) ((hA.below hb0).more hb0.size) hlen
  rw [hx] at hf ⊢
  clear hx
  have hown : (w.alloc (.cells (Array.replicate 16 (.int .u8 0)) 5)).ownsRow w.heap.size 5 1 (.slice (some ⟨w.heap.size, 0, none⟩) 0 16) 0 (vals []) :=
    ⟨rfl, .inr ⟨w.heap.size, 16, _, rfl, Nat.le_refl _, heap_alloc_new w _, Nat.zero_le _, by unfold maxLen; omega, rfl, rfl⟩⟩
  have HF := Lib.hid hf; clear hf
  have HB0 := Lib.hid hb0; clear hb0
  have HA := Lib.hid hA; clear hA
  have HO := Lib.hid hown; clear hown
  go_enter Try.func92, Try.ntmps92
  go_wp2_with fail
  refine HF.out.mono ?_
  rintro e W1 ⟨rfl, b1⟩
  have hb1 : Below w.heap.size w W1 := HB0.out.trans (b1.mono HB0.out.size)
  have ho1 := own_below HO.out b1
  have HB1 := Lib.hid hb1; clear hb1 b1
  have HO1 := Lib.hid ho1; clear ho1
  go_wp2_with fail
  go_loopw [3, 11] (fun v i wr => ∃ k : Nat, k ≤ 4 ∧ i = .int .i64 k ∧ wr.ownsRow w.heap.size 5 1 v (4 * k) (vals (bytesW x k)) ∧ Below w.heap.size w wr) (fun _ i _ => 4 - (intOf i).toNat)
  case atStart => exact ⟨0, by omega, rfl, HO1.out, HB1.out⟩
  case round =>
    obtain ⟨k, hk, rfl, ho, hb⟩ := hrel
    have HOr := Lib.hid ho; clear ho
    have HBr := Lib.hid hb; clear hb
    by_cases hlt : k < 4
    · have hi : ∀ W : World, (Instr.index 67 (ag x) (.int .i64 (k : Int))).run Try.prog W = .ok (.int .u32 ((nthW x k).toNat : Int)) W := indexW x k hlt
      obtain ⟨n, hn⟩ : ∃ n : Nat, (nthW x k).toNat = n := ⟨_, rfl⟩
      have hnl : n < 4294967296 := by rw [← hn]; exact (nthW x k).isLt
      rw [hn] at hi
      have HN := Lib.hid hn; clear hn
      have n0 : (0 : Int) ≤ n := by omega
      have n1 : (n : Int) ≤ 4294967295 := by omega
      have k0 : (k : Int) < 4 := by omega
      go_wp2_with fail
      refine (put_at n 4 4 rfl (by omega) (by omega) hnl _).mono ?_
      rintro e W2 ⟨rfl, h2, b2, s2⟩
      have ho2 := own_below HOr.out b2
      have hb2 := HBr.out.trans (b2.mono HBr.out.size)
      have hsl : Bsl W2 W2.heap.size (some ⟨wr.heap.size + 1, 0, none⟩) 4 4 (leB 4 n) := ⟨leB_length _ _, Nat.le_refl _, by unfold maxLen; omega, fun e => (by cases e), fun _ => ⟨_, _, rfl, s2, fun i hi => by rw [Nat.zero_add]; exact h2 i hi⟩⟩
      have HO2 := Lib.hid ho2; clear ho2
      have HB2 := Lib.hid hb2; clear hb2 b2 h2
      have HSL := Lib.hid hsl; clear hsl
      go_wp2_with (at_builtin; refine wpList_append_bsl rfl (.tmp 20) (.tmp 21) rfl w.heap.size u3 (4 * k) _ rfl HO2.out W2.heap.size (some ⟨wr.heap.size + 1, 0, none⟩) 4 4 (leB 4 n) rfl HSL.out (by omega) HB2.out.size ?_; intro v' W3 hown' hg')
      have hb3 : Below w.heap.size w W3 := HB2.out.grown hg' HB2.out.size (fun k e => (HO2.out.lt k e).1)
      have HO3 := Lib.hid hown'; clear hown'
      have HB3 := Lib.hid hb3; clear hb3 hg'
      go_wp2_with fail
      go_roundw
      case rel => exact ⟨k + 1, by omega, by go_num, by rw [bytesW, HN.out]; exact HO3.out, HB3.out⟩
      case measure => simp [intOf]; omega
    · obtain rfl : k = 4 := by omega
      obtain ⟨g, cap', rfl, hgb, hgl, hgc, hgm, hgs, hgh⟩ := bsl_of_own HOr.out (by omega)
      have HH := Lib.hid hgh; clear hgh
      have HS := Lib.hid hgs; clear hgs
      go_wp2_with fail
      go_ret
      exact ⟨g, cap', rfl, hgb, hgl, hgc, hgm, HH.out, HBr.out⟩
end Go.Proofs.Ytdpmdlibgabjaaa
/-
  dev.mayBe tells whether a disk may be.
-/
namespace Go.Proofs.Ytdpmdlibgabjaaa
open Go.RowKit Go.Shelf
set_option maxRecDepth 100000

theorem dIsLong_any (a : Option Addr) (n c : Nat) (w : World) : Calls Try.prog 54 #[.slice a n c] w fun e w' => e = .returned (.bool (decide (n = 256))) ∧ w = w' := by
  by_cases h : n = 256
  · subst h
    go_enter Try.func54, Try.ntmps54
    go_wp2_with fail
    go_ret
    exact ⟨rfl, rfl⟩
  · have h1 : ((n : Int) == 256) = false := by simp; omega
    rw [decide_eq_false h]
    go_enter Try.func54, Try.ntmps54
    go_wp2_with fail
    go_ret
    exact ⟨rfl, rfl⟩
theorem dIsBlock_any (p : Int) (w : World) : Calls Try.prog 31 #[.int .i64 p] w fun e w' => e = .returned (.bool (decide (0 ≤ p ∧ p < 256))) ∧ w = w' := by
  by_cases h0 : 0 ≤ p
  · by_cases h1 : p < 256
    · rw [decide_eq_true (show 0 ≤ p ∧ p < 256 from ⟨h0, h1⟩)]
      go_enter Try.func31, Try.ntmps31
      go_wp2_with fail
      go_ret
      exact ⟨by simp; try omega, rfl⟩
    · rw [decide_eq_false (show ¬ (0 ≤ p ∧ p < 256) from fun h => h1 h.2)]
      go_enter Try.func31, Try.ntmps31
      go_wp2_with fail
      go_ret
      exact ⟨by simp; try omega, rfl⟩
  · rw [decide_eq_false (show ¬ (0 ≤ p ∧ p < 256) from fun h => h0 h.1)]
    go_enter Try.func31, Try.ntmps31
    go_wp2_with fail
    go_ret
    exact ⟨by simp; try omega, rfl⟩
theorem dMayWait_any (p : Int) (a : Option Addr) (n c : Nat) (w : World) : Calls Try.prog 56 #[.agg #[.int .i64 p, .slice a n c]] w fun e w' => e = .returned (.bool (decide ((0 ≤ p ∧ p < 256) ∧ n = 256))) ∧ Below w.heap.size w w' := by
  have hb := dIsBlock_any p
  have hl := dIsLong_any a n c
  have HX := Lib.hid ((Below.refl w.heap.size w).alloc (Nat.le_refl _) (.cells #[.int .i64 p, .slice a n c] 87))
  by_cases h : 0 ≤ p ∧ p < 256
  · simp only [decide_eq_true h] at hb
    have e : decide ((0 ≤ p ∧ p < 256) ∧ n = 256) = decide (n = 256) := by simp [h]
    rw [e]
    have HB := Lib.hid hb
    have HL := Lib.hid hl
    clear hb hl h e
    go_enter Try.func56, Try.ntmps56
    go_wp2_with fail
    refine (HB.out _).mono ?_
    rintro e w1 ⟨rfl, rfl⟩
    go_wp2_with fail
    refine (HL.out _).mono ?_
    rintro e w1 ⟨rfl, rfl⟩
    go_wp2_with fail
    go_ret
    exact ⟨rfl, HX.out⟩
  · simp only [decide_eq_false h] at hb
    have e : decide ((0 ≤ p ∧ p < 256) ∧ n = 256) = false := by simp; omega
    rw [e]
    have HB := Lib.hid hb
    clear hb hl h e
    go_enter Try.func56, Try.ntmps56
    go_wp2_with fail
    refine (HB.out _).mono ?_
    rintro e w1 ⟨rfl, rfl⟩
    go_wp2_with fail
    go_ret
    exact ⟨rfl, HX.out⟩
theorem dNotLong_any (a : Option Addr) (n c g : Nat) (w : World) (hg : w.cell? ⟨g, 0, none⟩ = some (.func (.func 54) #[] #[])) : Calls Try.prog 77 #[.slice a n c, .pointer (some ⟨g, 0, none⟩)] w fun e w' => e = .returned (.bool (!decide (n = 256))) ∧ w = w' := by
  have HL := Lib.hid (dIsLong_any a n c w)
  go_enter Try.func77, Try.ntmps77
  go_wp2_with fail
  refine HL.out.mono ?_
  rintro e w1 ⟨rfl, rfl⟩
  go_wp2_with fail
  go_ret
  exact ⟨rfl, rfl⟩
theorem dNotWait_any (p : Int) (a : Option Addr) (n c g : Nat) (r : Bool) (hr : decide ((0 ≤ p ∧ p < 256) ∧ n = 256) = r) (w : World) (hl : g < w.heap.size) (hg : w.cell? ⟨g, 0, none⟩ = some (.func (.func 56) #[] #[])) : Calls Try.prog 79 #[.agg #[.int .i64 p, .slice a n c], .pointer (some ⟨g, 0, none⟩)] w fun e w' => e = .returned (.bool (!r)) ∧ Below w.heap.size w w' := by
  have b1 := (Below.refl w.heap.size w).alloc (Nat.le_refl _) (.cells #[.int .i64 p, .slice a n c] 87)
  have hg1 := (b1.cell (p := ⟨g, 0, none⟩) hl).trans hg
  have HL : Hid (∀ W, Calls Try.prog 56 #[.agg #[.int .i64 p, .slice a n c]] W fun e w' => e = .returned (.bool r) ∧ Below W.heap.size W w') := Lib.hid fun W => by
    have := dMayWait_any p a n c W
    rw [hr] at this
    exact this
  have HB := Lib.hid b1
  clear b1 hl hr
  go_enter Try.func79, Try.ntmps79
  go_wp2_with fail
  refine (HL.out _).mono ?_
  rintro e w1 ⟨rfl, b2⟩
  have HB2 := Lib.hid (HB.out.trans (b2.mono HB.out.size))
  clear b2
  go_wp2_with fail
  go_ret
  exact ⟨rfl, HB2.out⟩
/-- slices.IndexFunc over blocks: none is odd. -/
theorem dIndexB_none (a : Option Addr) (n c : Nat) (bl : List (List UInt8)) (g : Nat) (w : World) (hB : Bls w w.heap.size a n c bl) (hg : w.cell? ⟨g, 0, none⟩ = some (.func (.func 54) #[] #[])) (hall : ∀ i, i < n → (bl.getD i []).length = 256) :
    Calls Try.prog 96 #[.slice a n c, .func (.func 77) #[] #[.pointer (some ⟨g, 0, none⟩)]] w fun e w' => e = .returned (.int .i64 (-1)) ∧ w = w' := by
  have n0 : (0 : Int) ≤ n := by omega
  have n1 := hB.len_le
  have HB := Lib.hid hB
  have HA := Lib.hid hall
  have HG := Lib.hid hg
  clear hB hall hg
  go_enter Try.func96, Try.ntmps96
  go_wp2_with fail
  go_loop [8] (fun i => ∃ k : Nat, k ≤ n ∧ i = .int .i64 k) (fun i => n - (intOf i).toNat)
  case atStart => exact ⟨0, Nat.zero_le _, rfl⟩
  case round =>
    obtain ⟨k, hk, rfl⟩ := hrel
    have k0 : (0 : Int) ≤ k := by omega
    by_cases hlt : k < n
    · have k1 : (k : Int) < n := by omega
      obtain ⟨b, off, A, l, c', s, rfl, _, hl, hc, hA⟩ := HB.out.at_ hlt
      have hl6 : l = 256 := by rw [← hA.1, ← hl]; exact HA.out k hlt
      subst hl6
      have hx := dNotLong_any A 256 c' g w HG.out
      have HX := Lib.hid hx
      clear hx hA hl
      go_wp2_with fail
      refine HX.out.mono ?_
      rintro e w1 ⟨rfl, rfl⟩
      go_wp2_with fail
      go_round
      case rel => exact ⟨k + 1, by omega, by go_num⟩
      case measure => simp [intOf]; omega
    · obtain rfl : k = n := by omega
      go_wp2_with fail
      go_ret
      exact ⟨rfl, rfl⟩
/-- One is. -/
theorem dIndexB_some (a : Option Addr) (n c : Nat) (bl : List (List UInt8)) (g : Nat) (w : World) (hB : Bls w w.heap.size a n c bl) (hg : w.cell? ⟨g, 0, none⟩ = some (.func (.func 54) #[] #[])) (j : Nat) (hj : j < n) (hodd : (bl.getD j []).length ≠ 256) :
    Calls Try.prog 96 #[.slice a n c, .func (.func 77) #[] #[.pointer (some ⟨g, 0, none⟩)]] w fun e w' => ∃ k : Nat, e = .returned (.int .i64 k) ∧ w = w' := by
  have n0 : (0 : Int) ≤ n := by omega
  have n1 := hB.len_le
  have HB := Lib.hid hB
  have HA := Lib.hid hodd
  have HG := Lib.hid hg
  clear hB hodd hg
  go_enter Try.func96, Try.ntmps96
  go_wp2_with fail
  go_loop [8] (fun i => ∃ k : Nat, k ≤ j ∧ i = .int .i64 k) (fun i => n - (intOf i).toNat)
  case atStart => exact ⟨0, Nat.zero_le _, rfl⟩
  case round =>
    obtain ⟨k, hk, rfl⟩ := hrel
    have k0 : (0 : Int) ≤ k := by omega
    have k1 : (k : Int) < n := by omega
    obtain ⟨b, off, A, l, c', s, rfl, _, hl, hc, hA⟩ := HB.out.at_ (show k < n by omega)
    have hx := dNotLong_any A l c' g w HG.out
    by_cases hl6 : l = 256
    · have hkj : k < j := by
        rcases Nat.lt_or_ge k j with h | h
        · exact h
        · obtain rfl : k = j := by omega
          exact absurd (by rw [hl, hA.1]; exact hl6) HA.out
      subst hl6
      have HX := Lib.hid hx
      clear hx hA hl
      go_wp2_with fail
      refine HX.out.mono ?_
      rintro e w1 ⟨rfl, rfl⟩
      go_wp2_with fail
      go_round
      case rel => exact ⟨k + 1, by omega, by go_num⟩
      case measure => simp [intOf]; omega
    · simp only [decide_eq_false hl6] at hx
      have HX := Lib.hid hx
      clear hx hA hl
      go_wp2_with fail
      refine HX.out.mono ?_
      rintro e w1 ⟨rfl, rfl⟩
      go_wp2_with fail
      go_ret
      exact ⟨k, rfl, rfl⟩
/-- slices.IndexFunc over writes: none is odd. -/
theorem dIndexW_none (a : Option Addr) (n c : Nat) (ws : WrL) (g : Nat) (w : World) (hB : Wts w w.heap.size a n c ws) (hlg : g < w.heap.size) (hg : w.cell? ⟨g, 0, none⟩ = some (.func (.func 56) #[] #[])) (hall : ∀ i, i < n → (0 ≤ (wr_ ws i).1 ∧ (wr_ ws i).1 < 256) ∧ (wr_ ws i).2.length = 256) :
    Calls Try.prog 97 #[.slice a n c, .func (.func 79) #[] #[.pointer (some ⟨g, 0, none⟩)]] w fun e w' => e = .returned (.int .i64 (-1)) ∧ Below w.heap.size w w' := by
  have n0 : (0 : Int) ≤ n := by omega
  have n1 := hB.len_le
  have HB := Lib.hid hB
  have HA := Lib.hid hall
  have HG := Lib.hid hg
  clear hB hall hg
  go_enter Try.func97, Try.ntmps97
  go_wp2_with fail
  go_loopw [8] (fun i wr => ∃ k : Nat, k ≤ n ∧ i = .int .i64 k ∧ Below w.heap.size w wr) (fun i _ => n - (intOf i).toNat)
  case atStart => exact ⟨0, Nat.zero_le _, rfl, Below.refl _ _⟩
  case round =>
    obtain ⟨k, hk, rfl, hb⟩ := hrel
    have k0 : (0 : Int) ≤ k := by omega
    by_cases hlt : k < n
    · have k1 : (k : Int) < n := by omega
      obtain ⟨b, off, p, A, l, c', s, rfl, hbl, hl, _, hc, hd, hA⟩ := HB.out.at_ hlt
      have hok := HA.out k hlt
      rw [hl] at hok
      have hl6 : l = 256 := by rw [← hA.1]; exact hok.2
      subst hl6
      have c1 := (hb.cell (p := ⟨b, off + k * 2, none⟩) hbl).trans hc
      have c2 := (hb.cell (p := ⟨b, off + k * 2 + 1, none⟩) hbl).trans hd
      have hx := dNotWait_any p A 256 c' g true (decide_eq_true ⟨hok.1, rfl⟩) wr (Nat.lt_of_lt_of_le hlg hb.size) ((hb.cell (p := ⟨g, 0, none⟩) hlg).trans HG.out)
      have HX := Lib.hid hx
      have HBr := Lib.hid hb
      clear hx hA hl hok hb hc hd
      go_wp2_with fail
      refine HX.out.mono ?_
      rintro e w1 ⟨rfl, b2⟩
      have HB2 := Lib.hid (HBr.out.trans (b2.mono HBr.out.size))
      clear b2
      go_wp2_with fail
      go_roundw
      case rel => exact ⟨k + 1, by omega, by go_num, HB2.out⟩
      case measure => simp [intOf]; omega
    · obtain rfl : k = n := by omega
      have HBr := Lib.hid hb
      clear hb
      go_wp2_with fail
      go_ret
      exact ⟨rfl, HBr.out⟩
/-- One is. -/
theorem dIndexW_some (a : Option Addr) (n c : Nat) (ws : WrL) (g : Nat) (w : World) (hB : Wts w w.heap.size a n c ws) (hlg : g < w.heap.size) (hg : w.cell? ⟨g, 0, none⟩ = some (.func (.func 56) #[] #[])) (j : Nat) (hj : j < n) (hodd : ¬ ((0 ≤ (wr_ ws j).1 ∧ (wr_ ws j).1 < 256) ∧ (wr_ ws j).2.length = 256)) :
    Calls Try.prog 97 #[.slice a n c, .func (.func 79) #[] #[.pointer (some ⟨g, 0, none⟩)]] w fun e w' => ∃ k : Nat, e = .returned (.int .i64 k) ∧ Below w.heap.size w w' := by
  have n0 : (0 : Int) ≤ n := by omega
  have n1 := hB.len_le
  have HB := Lib.hid hB
  have HA := Lib.hid hodd
  have HG := Lib.hid hg
  clear hB hodd hg
  go_enter Try.func97, Try.ntmps97
  go_wp2_with fail
  go_loopw [8] (fun i wr => ∃ k : Nat, k ≤ j ∧ i = .int .i64 k ∧ Below w.heap.size w wr) (fun i _ => n - (intOf i).toNat)
  case atStart => exact ⟨0, Nat.zero_le _, rfl, Below.refl _ _⟩
  case round =>
    obtain ⟨k, hk, rfl, hb⟩ := hrel
    have k0 : (0 : Int) ≤ k := by omega
    have k1 : (k : Int) < n := by omega
    obtain ⟨b, off, p, A, l, c', s, rfl, hbl, hl, _, hc, hd, hA⟩ := HB.out.at_ (show k < n by omega)
    have c1 := (hb.cell (p := ⟨b, off + k * 2, none⟩) hbl).trans hc
    have c2 := (hb.cell (p := ⟨b, off + k * 2 + 1, none⟩) hbl).trans hd
    have hx := fun r hr => dNotWait_any p A l c' g r hr wr (Nat.lt_of_lt_of_le hlg hb.size) ((hb.cell (p := ⟨g, 0, none⟩) hlg).trans HG.out)
    by_cases hl6 : (0 ≤ p ∧ p < 256) ∧ l = 256
    · have hkj : k < j := by
        rcases Nat.lt_or_ge k j with h | h
        · exact h
        · obtain rfl : k = j := by omega
          exact absurd (by rw [hl]; exact ⟨hl6.1, by rw [hA.1]; exact hl6.2⟩) HA.out
      have HX := Lib.hid (hx true (decide_eq_true hl6))
      have HBr := Lib.hid hb
      clear hx hA hl hl6 hb hc hd
      go_wp2_with fail
      refine HX.out.mono ?_
      rintro e w1 ⟨rfl, b2⟩
      have HB2 := Lib.hid (HBr.out.trans (b2.mono HBr.out.size))
      clear b2
      go_wp2_with fail
      go_roundw
      case rel => exact ⟨k + 1, by omega, by go_num, HB2.out⟩
      case measure => simp [intOf]; omega
    · have HX := Lib.hid (hx false (decide_eq_false hl6))
      have HBr := Lib.hid hb
      clear hx hA hl hl6 hb hc hd
      go_wp2_with fail
      refine HX.out.mono ?_
      rintro e w1 ⟨rfl, b2⟩
      have HB2 := Lib.hid (HBr.out.trans (b2.mono HBr.out.size))
      clear b2
      go_wp2_with fail
      go_ret
      exact ⟨k, rfl, HB2.out⟩
/-- slices.ContainsFunc: is one odd? -/
theorem dContB_any (a : Option Addr) (n c : Nat) (bl : List (List UInt8)) (g : Nat) (w : World) (hB : Bls w w.heap.size a n c bl) (hg : w.cell? ⟨g, 0, none⟩ = some (.func (.func 54) #[] #[])) (r : Bool) (hr : r = true ↔ ∀ i, i < n → (bl.getD i []).length = 256) :
    Calls Try.prog 76 #[.slice a n c, .func (.func 77) #[] #[.pointer (some ⟨g, 0, none⟩)]] w fun e w' => e = .returned (.bool (!r)) ∧ w = w' := by
  cases r with
  | true =>
    have HI := Lib.hid (dIndexB_none a n c bl g w hB hg (hr.1 rfl))
    clear hB hg hr
    go_enter Try.func76, Try.ntmps76
    go_wp2_with fail
    refine HI.out.mono ?_
    rintro e w1 ⟨rfl, rfl⟩
    
    go_wp2_with fail
    go_ret
    exact ⟨rfl, rfl⟩
  | false =>
    obtain ⟨j, hj, hodd⟩ : ∃ i, i < n ∧ ¬ ((bl.getD i []).length = 256) := by
      apply Classical.byContradiction
      intro hn
      have : false = true := hr.2 fun i hi => Classical.byContradiction fun h => hn ⟨i, hi, h⟩
      cases this
    have HI := Lib.hid (dIndexB_some a n c bl g w hB hg j hj hodd)
    clear hB hg hr hodd
    go_enter Try.func76, Try.ntmps76
    go_wp2_with fail
    refine HI.out.mono ?_
    rintro e w1 ⟨k, rfl, rfl⟩
    have k0 : (0 : Int) ≤ k := by omega
    
    go_wp2_with fail
    go_ret
    exact ⟨rfl, rfl⟩
/-- All are as they should be: dev.allAre. -/
theorem dAllB_any (a : Option Addr) (n c : Nat) (bl : List (List UInt8)) (w : World) (hB : Bls w w.heap.size a n c bl) (r : Bool) (hr : r = true ↔ ∀ i, i < n → (bl.getD i []).length = 256) :
    Calls Try.prog 53 #[.slice a n c, .func (.func 54) #[] #[]] w fun e w' => e = .returned (.bool r) ∧ Below w.heap.size w w' := by
  have b0 := (Below.refl w.heap.size w).alloc (Nat.le_refl _) (.cells #[.func (.func 54) #[] #[]] 69)
  have x0 := Blk.new w 69 #[.func (.func 54) #[] #[]]
  have HI := Lib.hid (dContB_any a n c bl w.heap.size _ (hB.step b0) (x0.cell 0) r hr)
  have HB := Lib.hid b0
  clear hB hr b0 x0
  go_enter Try.func53, Try.ntmps53
  go_wp2_with fail
  refine HI.out.mono ?_
  rintro e w1 ⟨rfl, rfl⟩
  have HB2 := HB
  go_wp2_with fail
  go_ret
  exact ⟨by simp, HB2.out⟩
/-- slices.ContainsFunc: is one odd? -/
theorem dContW_any (a : Option Addr) (n c : Nat) (ws : WrL) (g : Nat) (w : World) (hB : Wts w w.heap.size a n c ws) (hlg : g < w.heap.size) (hg : w.cell? ⟨g, 0, none⟩ = some (.func (.func 56) #[] #[])) (r : Bool) (hr : r = true ↔ ∀ i, i < n → (0 ≤ (wr_ ws i).1 ∧ (wr_ ws i).1 < 256) ∧ (wr_ ws i).2.length = 256) :
    Calls Try.prog 78 #[.slice a n c, .func (.func 79) #[] #[.pointer (some ⟨g, 0, none⟩)]] w fun e w' => e = .returned (.bool (!r)) ∧ Below w.heap.size w w' := by
  cases r with
  | true =>
    have HI := Lib.hid (dIndexW_none a n c ws g w hB hlg hg (hr.1 rfl))
    clear hB hg hr
    go_enter Try.func78, Try.ntmps78
    go_wp2_with fail
    refine HI.out.mono ?_
    rintro e w1 ⟨rfl, b2⟩
    have HB2 := Lib.hid b2; clear b2
    go_wp2_with fail
    go_ret
    exact ⟨rfl, HB2.out⟩
  | false =>
    obtain ⟨j, hj, hodd⟩ : ∃ i, i < n ∧ ¬ ((0 ≤ (wr_ ws i).1 ∧ (wr_ ws i).1 < 256) ∧ (wr_ ws i).2.length = 256) := by
      apply Classical.byContradiction
      intro hn
      have : false = true := hr.2 fun i hi => Classical.byContradiction fun h => hn ⟨i, hi, h⟩
      cases this
    have HI := Lib.hid (dIndexW_some a n c ws g w hB hlg hg j hj hodd)
    clear hB hg hr hodd
    go_enter Try.func78, Try.ntmps78
    go_wp2_with fail
    refine HI.out.mono ?_
    rintro e w1 ⟨k, rfl, b2⟩
    have k0 : (0 : Int) ≤ k := by omega
    have HB2 := Lib.hid b2; clear b2
    go_wp2_with fail
    go_ret
    exact ⟨rfl, HB2.out⟩
/-- All are as they should be: dev.allAre. -/
theorem dAllW_any (a : Option Addr) (n c : Nat) (ws : WrL) (w : World) (hB : Wts w w.heap.size a n c ws) (r : Bool) (hr : r = true ↔ ∀ i, i < n → (0 ≤ (wr_ ws i).1 ∧ (wr_ ws i).1 < 256) ∧ (wr_ ws i).2.length = 256) :
    Calls Try.prog 55 #[.slice a n c, .func (.func 56) #[] #[]] w fun e w' => e = .returned (.bool r) ∧ Below w.heap.size w w' := by
  have b0 := (Below.refl w.heap.size w).alloc (Nat.le_refl _) (.cells #[.func (.func 56) #[] #[]] 95)
  have x0 := Blk.new w 95 #[.func (.func 56) #[] #[]]
  have HI := Lib.hid (dContW_any a n c ws w.heap.size _ (hB.step b0) (by rw [World.size_alloc]; omega) (x0.cell 0) r hr)
  have HB := Lib.hid b0
  clear hB hr b0 x0
  go_enter Try.func55, Try.ntmps55
  go_wp2_with fail
  refine HI.out.mono ?_
  rintro e w1 ⟨rfl, b2⟩
  have HB2 := Lib.hid (HB.out.trans (b2.mono HB.out.size)); clear b2
  go_wp2_with fail
  go_ret
  exact ⟨by simp, HB2.out⟩
/-- dev.mayBe. -/
theorem dMay_yes (x : DAt) (D : DkL) (w : World) (h : Dsk w w.heap.size x D) (hm : MayD D) : Calls Try.prog 28 #[dval x D] w fun e w' => e = .returned (.bool true) ∧ Below w.heap.size w w' := by
  obtain ⟨ba, bc, wa, wc⟩ := x
  obtain ⟨bl, ws⟩ := D
  obtain ⟨hB, hW⟩ := h
  obtain ⟨⟨m1, m2⟩, m3, m4⟩ := hm
  simp only [dval] at hB hW m1 m2 m3 m4 ⊢
  obtain ⟨m, hm⟩ : ∃ m, ws.length = m := ⟨_, rfl⟩
  rw [hm] at hW m3 m4 ⊢
  rw [m1] at hB ⊢
  have i0 : (m : Int) ≤ 4096 := by omega
  have b0 := (Below.refl w.heap.size w).alloc (Nat.le_refl _) (.cells #[.slice ba 256 bc, .slice wa m wc] 27)
  have x0 := Blk.new w 27 #[.slice ba 256 bc, .slice wa m wc]
  have HI := Lib.hid (dAllB_any ba 256 bc bl _ (hB.step b0) true ⟨fun _ => m2, fun _ => rfl⟩)
  have HX := Lib.hid x0
  have HB := Lib.hid b0
  have HW := Lib.hid (hW.step b0)
  have HP := Lib.hid m4
  clear hB hW b0 x0 m1 m2 m4 hm
  go_enter Try.func28, Try.ntmps28
  go_wp2_with fail
  refine HI.out.mono ?_
  rintro e w1 ⟨rfl, b1⟩
  have c0 := (HX.out.below b1 HX.out.lt).cell 0
  have c1 := (HX.out.below b1 HX.out.lt).cell 1
  have HI2 := Lib.hid (dAllW_any wa m wc ws w1 (HW.out.step b1) true ⟨fun _ => HP.out, fun _ => rfl⟩)
  have HB2 := Lib.hid (HB.out.trans (b1.mono HB.out.size))
  clear b1
  go_wp2_with fail
  refine HI2.out.mono ?_
  rintro e w2 ⟨rfl, b2⟩
  have HB3 := Lib.hid (HB2.out.trans (b2.mono HB2.out.size))
  clear b2 c0 c1
  go_wp2_with fail
  go_ret
  exact ⟨rfl, HB3.out⟩
theorem dMay_no (x : DAt) (D : DkL) (w : World) (h : Dsk w w.heap.size x D) (hm : ¬ MayD D) : Calls Try.prog 28 #[dval x D] w fun e w' => e = .returned (.bool false) ∧ Below w.heap.size w w' := by
  obtain ⟨ba, bc, wa, wc⟩ := x
  obtain ⟨bl, ws⟩ := D
  obtain ⟨hB, hW⟩ := h
  unfold MayD at hm
  simp only [dval] at hB hW hm ⊢
  have l1 := hB.len_le
  have l2 := hW.len_le
  obtain ⟨n, hn⟩ : ∃ n, bl.length = n := ⟨_, rfl⟩
  obtain ⟨m, hm'⟩ : ∃ m, ws.length = m := ⟨_, rfl⟩
  rw [hm'] at hW hm l2 ⊢
  rw [hn] at hB hm l1 ⊢
  have n0 : (0 : Int) ≤ n := by omega
  have m0 : (0 : Int) ≤ m := by omega
  have b0 := (Below.refl w.heap.size w).alloc (Nat.le_refl _) (.cells #[.slice ba n bc, .slice wa m wc] 27)
  have x0 := Blk.new w 27 #[.slice ba n bc, .slice wa m wc]
  have HX := Lib.hid x0
  have HB := Lib.hid b0
  have HW := Lib.hid (hW.step b0)
  have HBl := Lib.hid (hB.step b0)
  clear hB hW b0 x0 hn hm'
  by_cases h1 : n = 256
  · subst h1
    by_cases h2 : (m : Int) ≤ 4096
    · have hm2 : ¬ ((∀ i, i < 256 → (bl.getD i []).length = 256) ∧ ∀ i, i < m → (0 ≤ (wr_ ws i).1 ∧ (wr_ ws i).1 < 256) ∧ (wr_ ws i).2.length = 256) := fun hh => hm ⟨⟨rfl, hh.1⟩, by omega, hh.2⟩
      by_cases h3 : ∀ i, i < 256 → (bl.getD i []).length = 256
      · have HI := Lib.hid (dAllB_any ba 256 bc bl _ HBl.out true ⟨fun _ => h3, fun _ => rfl⟩)
        have HP := Lib.hid (show ¬ ∀ i, i < m → (0 ≤ (wr_ ws i).1 ∧ (wr_ ws i).1 < 256) ∧ (wr_ ws i).2.length = 256 from fun hh => hm2 ⟨h3, hh⟩)
        clear hm hm2 h3
        go_enter Try.func28, Try.ntmps28
        go_wp2_with fail
        refine HI.out.mono ?_
        rintro e w1 ⟨rfl, b1⟩
        have c0 := (HX.out.below b1 HX.out.lt).cell 0
        have c1 := (HX.out.below b1 HX.out.lt).cell 1
        have HI2 := Lib.hid (dAllW_any wa m wc ws w1 (HW.out.step b1) false ⟨fun h => (by cases h), fun h => absurd h HP.out⟩)
        have HB2 := Lib.hid (HB.out.trans (b1.mono HB.out.size))
        clear b1
        go_wp2_with fail
        refine HI2.out.mono ?_
        rintro e w2 ⟨rfl, b2⟩
        have HB3 := Lib.hid (HB2.out.trans (b2.mono HB2.out.size))
        clear b2 c0 c1
        go_wp2_with fail
        go_ret
        exact ⟨rfl, HB3.out⟩
      · have HI := Lib.hid (dAllB_any ba 256 bc bl _ HBl.out false ⟨fun h => (by cases h), fun h => absurd h h3⟩)
        clear hm hm2 h3
        go_enter Try.func28, Try.ntmps28
        go_wp2_with fail
        refine HI.out.mono ?_
        rintro e w1 ⟨rfl, b1⟩
        have HB2 := Lib.hid (HB.out.trans (b1.mono HB.out.size))
        clear b1
        go_wp2_with fail
        go_ret
        exact ⟨rfl, HB2.out⟩
    · clear hm
      go_enter Try.func28, Try.ntmps28
      go_wp2_with fail
      go_ret
      exact ⟨rfl, HB.out⟩
  · have h2 : ((n : Int) == 256) = false := by simp; omega
    clear hm
    go_enter Try.func28, Try.ntmps28
    go_wp2_with fail
    go_ret
    exact ⟨rfl, HB.out⟩
end Go.Proofs.Ytdpmdlibgabjaaa
/-
  Words for a map[int]int that the call made: what it holds, as a function; a lookup, a store.
-/
namespace Go.Proofs.Ytdpmdlibgabjaaa
open Go.RowKit Go.Shelf Go.Maps Go.WideShapes
set_option maxRecDepth 100000

theorem lawInt : Keyed Try.prog 3 := int_keyed Try.underlying3
theorem zeroInt (w : World) : (zeroValue 3).run Try.prog w = .ok (.int .i64 0) w := by kernel_rfl
/-- Block g is a map of at most n entries that holds just what f tells. -/
def MapI (w : World) (g n : Nat) (f : Int → Option Nat) : Prop :=
  ∃ D : DataW Unit, w.ownsMap Try.prog 3 (plainElem Try.prog 3) g n D ∧ IsMap D ∧ ∀ p : Int, (Lit.int .i64 p).wf = true → has D (.int .i64 p) = (f p).isSome ∧ ∀ i, f p = some i → D.atKey (.int .i64 p) (.lit (.int .i64 0)) = .lit (.int .i64 (i : Nat))
section
variable {w w' : World} {g n : Nat} {f : Int → Option Nat}
theorem MapI.lt (h : MapI w g n f) : g < w.heap.size := by obtain ⟨D, h1, _⟩ := h; exact h1.lt
theorem MapI.kept {row : Option Nat} (h : MapI w g n f) (hg : w.grownBy w' row) (hne : some g ≠ row) : MapI w' g n f := by
  obtain ⟨D, h1, h2⟩ := h
  exact ⟨D, h1.kept hg hne, h2⟩
theorem MapI.below {B : Nat} (h : MapI w g n f) (hb : Below B w w') (hg : g < B) : MapI w' g n f := by
  obtain ⟨D, ⟨es, clock, h1, h3⟩, h2⟩ := h
  exact ⟨D, ⟨es, clock, (hb.block g hg).trans h1, h3⟩, h2⟩
theorem mapI_made (w : World) : MapI (w.alloc (.map #[] 0)) w.heap.size 0 (fun _ => none) :=
  ⟨.map [], World.ownsMap_made _ _ _ _, isMap_empty, fun p _ => ⟨rfl, fun i h => by cases h⟩⟩
theorem MapI.congr {f' : Int → Option Nat} (h : MapI w g n f) (e : ∀ p, f p = f' p) : MapI w g n f' := by
  obtain rfl : f = f' := funext e
  exact h
end
section
variable {w : World} {ops : Array Oper} {rest : List Oper} {o : Oper} {a : Act} {Q : Exit → Act → World → Prop}
/-- m[p] = i. -/
theorem wpList_mapI_put (hg : o.guard = none) (m x v : Operand) (hop : o.op = Op.mapUpdate 84 m x v) (g n : Nat) (f : Int → Option Nat) (hm : a.eval m = .map (some g)) (hown : MapI w g n f) (hn : n < maxLen)
    (p : Int) (i : Nat) (hp : (Lit.int .i64 p).wf = true) (hi : (i : Int) ≤ 9223372036854775807) (hx : a.eval x = .int .i64 p) (hv : a.eval v = .int .i64 (i : Nat))
    (hK : ∀ w', MapI w' g (n + 1) (fun q => if q = p then some i else f q) → w.grownBy w' (some g) → wpList Try.prog ops Q rest (a.put o.dst undef) w') : wpList Try.prog ops Q (o :: rest) a w := by
  obtain ⟨D, h1, h2, h3⟩ := hown
  have hwi : (Lit.int .i64 (i : Nat)).wf = true := by simp [Lit.wf, IntKind.min, IntKind.max, IntKind.signed, IntKind.bits]; omega
  refine wpList_mapUpdate_own w hg m x v 84 hop 3 3 lawInt Try.underlying84 _ g n D hm h1 hn (.int .i64 p) (.int .i64 (i : Nat)) (.int .i64 p) hx hv (keyOf_int_mk Try.underlying3 hp) (.lit (.int .i64 (i : Nat))) [] (plainElem_int Try.underlying3 hwi) ?_
  intro w' hw' hgr
  refine hK w' ⟨_, hw', h2.put _ _, fun q hq => ?_⟩ hgr
  by_cases e : q = p
  · subst e
    have ef : (fun r => if r = q then some i else f r) q = some i := if_pos rfl
    have hk : WideAt.IsKeyLit (.int .i64 q) := by unfold WideAt.IsKeyLit; exact trivial
    rw [ef]
    refine ⟨has_put_same h2 hk _, fun j hj => ?_⟩
    cases hj
    exact atKey_put_same h2 hk _ _
  · have hne : (Lit.int .i64 q) ≠ (Lit.int .i64 p) := fun h => e (by injection h)
    have ef : (fun r => if r = p then some i else f r) q = f q := if_neg e
    obtain ⟨h4, h5⟩ := h3 q hq
    rw [ef]
    refine ⟨by rw [has_put_other hne, h4], fun j hj => ?_⟩
    rw [atKey_put_other hne]
    exact h5 j hj
/-- i, ok := m[p]. -/
theorem wpList_mapI_get (hg : o.guard = none) (m x : Operand) (hop : o.op = Op.lookup 84 m x true) (g n : Nat) (f : Int → Option Nat) (hm : a.eval m = .map (some g)) (hown : MapI w g n f)
    (p : Int) (hp : (Lit.int .i64 p).wf = true) (hx : a.eval x = .int .i64 p)
    (hK : ∀ c : Int, (∀ i, f p = some i → c = (i : Nat)) → wpList Try.prog ops Q rest (a.put o.dst (.tuple #[.int .i64 c, .bool (f p).isSome])) w) : wpList Try.prog ops Q (o :: rest) a w := by
  obtain ⟨D, h1, h2, h3⟩ := hown
  refine wpList_lookup_own_ok_int w hg m x 84 hop 3 3 .i64 lawInt Try.underlying84 Try.underlying3 (zeroInt w) g n D hm h1 (.int .i64 p) (.int .i64 p) hx (keyOf_int_mk Try.underlying3 hp) ?_
  intro c hat hwc
  obtain ⟨h4, h5⟩ := h3 p hp
  rw [h4]
  refine hK c fun i hi => ?_
  rw [h5 i hi] at hat
  injection hat with hat
  injection hat with _ hat
  exact hat.symm
theorem wpList_mapI_some (hg : o.guard = none) (m x : Operand) (hop : o.op = Op.lookup 84 m x true) (g n : Nat) (f : Int → Option Nat) (hm : a.eval m = .map (some g)) (hown : MapI w g n f)
    (p : Int) (hp : (Lit.int .i64 p).wf = true) (hx : a.eval x = .int .i64 p) (i : Nat) (hf : f p = some i)
    (hK : wpList Try.prog ops Q rest (a.put o.dst (.tuple #[.int .i64 (i : Nat), .bool true])) w) : wpList Try.prog ops Q (o :: rest) a w :=
  wpList_mapI_get hg m x hop g n f hm hown p hp hx fun c hc => by
    rw [hf, hc i hf]
    exact hK
theorem wpList_mapI_none (hg : o.guard = none) (m x : Operand) (hop : o.op = Op.lookup 84 m x true) (g n : Nat) (f : Int → Option Nat) (hm : a.eval m = .map (some g)) (hown : MapI w g n f)
    (p : Int) (hp : (Lit.int .i64 p).wf = true) (hx : a.eval x = .int .i64 p) (hf : f p = none)
    (hK : ∀ c : Int, wpList Try.prog ops Q rest (a.put o.dst (.tuple #[.int .i64 c, .bool false])) w) : wpList Try.prog ops Q (o :: rest) a w :=
  wpList_mapI_get hg m x hop g n f hm hown p hp hx fun c _ => by
    rw [hf]
    exact hK c
end
end Go.Proofs.Ytdpmdlibgabjaaa
/-
  dev.lastOnes tells for each block which is the last one of the writes whose mark is true.
-/
namespace Go.Proofs.Ytdpmdlibgabjaaa
open Go.RowKit Go.Shelf
set_option maxRecDepth 100000

/-- A new map that tells of each block its last one among the first m. -/
def LastPost (ws : WrL) (mk : Nat → Bool) (m : Nat) (w : World) (e : Ending) (w' : World) : Prop :=
  ∃ g, e = .returned (.map (some g)) ∧ w.heap.size ≤ g ∧ MapI w' g m (fun p => lastTo ws mk p m) ∧ Below w.heap.size w w'
theorem lastTo_put {ws : WrL} {mk : Nat → Bool} {k : Nat} {p : Int} {s : List UInt8} (h : wr_ ws k = (p, s)) (hm : mk k = true) (q : Int) : (if q = p then some k else lastTo ws mk q k) = lastTo ws mk q (k + 1) := by
  rw [lastTo, h]
  by_cases e : q = p
  · rw [if_pos e, if_pos ⟨hm, e.symm⟩]
  · rw [if_neg e, if_neg (fun h => e h.2.symm)]
theorem lastTo_skip {ws : WrL} {mk : Nat → Bool} {k : Nat} (hm : mk k = false) (q : Int) : lastTo ws mk q k = lastTo ws mk q (k + 1) := by
  rw [lastTo, if_neg (fun h => by rw [hm] at h; cases h.1)]
set_option maxHeartbeats 1000000 in
theorem dLast0_any (a : Option Addr) (m c : Nat) (ws : WrL) (mk : Nat → Bool) (w : World) (hW : Wts w w.heap.size a m c ws)
    (hF : ∀ W, Below w.heap.size w W → ∀ i, i < m → Calls Try.prog 30 #[.int .i64 (i : Nat)] W fun e w' => e = .returned (.bool (mk i)) ∧ Below W.heap.size W w') :
    Calls Try.prog 46 #[.slice a m c, .func (.func 30) #[] #[]] w (LastPost ws mk m w) := by
  have hmm := @run_makeMap Try.prog
  have m0 : (0 : Int) ≤ m := by omega
  have m1 := hW.len_le
  obtain ⟨g, hg⟩ : ∃ g, w.heap.size = g := ⟨_, rfl⟩
  obtain ⟨w0, hw0⟩ : ∃ w0, w.alloc (.map #[] 0) = w0 := ⟨_, rfl⟩
  have hM := mapI_made w
  have hb0 : Below w.heap.size w w0 := by rw [← hw0]; exact (Below.refl _ w).alloc (Nat.le_refl _) _
  rw [hw0, hg] at hM
  rw [hg] at hb0
  have hM0 : MapI w0 g 0 (fun p => lastTo ws mk p 0) := hM
  have HW := Lib.hid hW
  have HF := Lib.hid hF
  have HG := Lib.hid hg
  have HM0 := Lib.hid hM0
  have HB0 := Lib.hid hb0
  clear hW hF hM hM0 hb0
  go_enter Try.func46, Try.ntmps46
  go_wp2_with fail
  clear hg hw0
  go_loopw [11] (fun i wr => ∃ k : Nat, k ≤ m ∧ i = .int .i64 k ∧ Hid (MapI wr g k (fun p => lastTo ws mk p k)) ∧ Hid (Below g w wr)) (fun i _ => m - (intOf i).toNat)
  case atStart => exact ⟨0, Nat.zero_le _, rfl, HM0, HB0⟩
  case round =>
    obtain ⟨k, hk, rfl, HM, HB⟩ := hrel
    have k0 : (0 : Int) ≤ k := by omega
    by_cases hlt : k < m
    · have k1 : (k : Int) < m := by omega
      obtain ⟨b, off, p, A, l, c', s, rfl, hlb, hl, hwf, hc, hd, hA⟩ := HW.out.at_ hlt
      rw [HG.out] at hlb
      have c1 := (HB.out.cell (p := ⟨b, off + k * 2, none⟩) hlb).trans hc
      have c2 := (HB.out.cell (p := ⟨b, off + k * 2 + 1, none⟩) hlb).trans hd
      have hx := Blk.new wr 87 #[.int .i64 p, .slice A l c']
      have ba := (Below.refl wr.heap.size wr).alloc (Nat.le_refl _) (.cells #[.int .i64 p, .slice A l c'] 87)
      have hgr : g < wr.heap.size := HM.out.lt
      have ha := HM.out.below ba hgr
      have hb := HB.out.trans (ba.mono (Nat.le_of_lt hgr))
      have hcl := HF.out _ (by rw [HG.out]; exact hb) k hlt
      obtain ⟨wa, hwa⟩ : ∃ wa, wr.alloc (.cells #[.int .i64 p, .slice A l c'] 87) = wa := ⟨_, rfl⟩
      obtain ⟨gt, hgt⟩ : ∃ gt, wr.heap.size = gt := ⟨_, rfl⟩
      rw [hwa, hgt] at hx
      rw [hwa] at ha hb hcl
      rw [hgt] at hgr
      have HX := Lib.hid hx
      have HA := Lib.hid ha
      have HBa := Lib.hid hb
      have HC := Lib.hid hcl
      have HL := Lib.hid hl
      have HWF := Lib.hid hwf
      clear hc hd hA ba hx ha hb hcl HM HB hl hwf
      go_wp2_with fail
      refine HC.out.mono ?_
      rintro e w1 ⟨rfl, b1⟩
      have hgw := HA.out.lt
      have HB1 := Lib.hid (HBa.out.trans (b1.mono (by omega)))
      have HM1 := Lib.hid (HA.out.below b1 hgw)
      have d0 := (HX.out.below b1 HX.out.lt).cell 0
      clear b1 hgt hwa c1 c2 HC HA HBa HX hgw hgr
      by_cases hm : mk k = true
      · have HMK := Lib.hid hm
        go_wp2_with (at_mapUpdate; refine wpList_mapI_put rfl (.tmp 19) (.tmp 21) (.tmp 22) rfl g k _ rfl HM1.out (by unfold maxLen; omega) p k HWF.out (by omega) rfl rfl ?_
                     intro w2 hm2 hg2
                     have HM2 := Lib.hid (hm2.congr (lastTo_put HL.out HMK.out))
                     have HB2 := Lib.hid (HB1.out.grown hg2 (by have := HM1.out.lt; omega) (fun j e => by cases e; exact Nat.le_refl _))
                     clear hm2 hg2)
        go_roundw
        case rel => exact ⟨k + 1, by omega, by go_num, HM2, HB2⟩
        case measure => simp [intOf]; omega
      · have hm' : mk k = false := by simpa using hm
        have HM2 := Lib.hid ((HM1.out.congr (lastTo_skip hm')))
        clear hm
        go_wp2_with fail
        go_roundw
        case rel =>
          obtain ⟨D, h1, h2⟩ := HM2.out
          exact ⟨k + 1, by omega, by go_num, Lib.hid ⟨D, h1.mono (Nat.le_succ _), h2⟩, HB1⟩
        case measure => simp [intOf]; omega
    · obtain rfl : k = m := by omega
      go_wp2_with fail
      go_ret
      exact ⟨g, rfl, by rw [HG.out]; exact Nat.le_refl _, HM.out, by rw [HG.out]; exact HB.out⟩
set_option maxHeartbeats 1000000 in
theorem dLast2_any (a : Option Addr) (m c : Nat) (ws : WrL) (mk : Nat → Bool) (pa pb : Addr) (w : World) (hW : Wts w w.heap.size a m c ws)
    (hF : ∀ W, Below w.heap.size w W → ∀ i, i < m → Calls Try.prog 47 #[.int .i64 (i : Nat), .pointer (some pa), .pointer (some pb)] W fun e w' => e = .returned (.bool (mk i)) ∧ Below W.heap.size W w') :
    Calls Try.prog 46 #[.slice a m c, .func (.func 47) #[] #[.pointer (some pa), .pointer (some pb)]] w (LastPost ws mk m w) := by
  have hmm := @run_makeMap Try.prog
  have m0 : (0 : Int) ≤ m := by omega
  have m1 := hW.len_le
  obtain ⟨g, hg⟩ : ∃ g, w.heap.size = g := ⟨_, rfl⟩
  obtain ⟨w0, hw0⟩ : ∃ w0, w.alloc (.map #[] 0) = w0 := ⟨_, rfl⟩
  have hM := mapI_made w
  have hb0 : Below w.heap.size w w0 := by rw [← hw0]; exact (Below.refl _ w).alloc (Nat.le_refl _) _
  rw [hw0, hg] at hM
  rw [hg] at hb0
  have hM0 : MapI w0 g 0 (fun p => lastTo ws mk p 0) := hM
  have HW := Lib.hid hW
  have HF := Lib.hid hF
  have HG := Lib.hid hg
  have HM0 := Lib.hid hM0
  have HB0 := Lib.hid hb0
  clear hW hF hM hM0 hb0
  go_enter Try.func46, Try.ntmps46
  go_wp2_with fail
  clear hg hw0
  go_loopw [11] (fun i wr => ∃ k : Nat, k ≤ m ∧ i = .int .i64 k ∧ Hid (MapI wr g k (fun p => lastTo ws mk p k)) ∧ Hid (Below g w wr)) (fun i _ => m - (intOf i).toNat)
  case atStart => exact ⟨0, Nat.zero_le _, rfl, HM0, HB0⟩
  case round =>
    obtain ⟨k, hk, rfl, HM, HB⟩ := hrel
    have k0 : (0 : Int) ≤ k := by omega
    by_cases hlt : k < m
    · have k1 : (k : Int) < m := by omega
      obtain ⟨b, off, p, A, l, c', s, rfl, hlb, hl, hwf, hc, hd, hA⟩ := HW.out.at_ hlt
      rw [HG.out] at hlb
      have c1 := (HB.out.cell (p := ⟨b, off + k * 2, none⟩) hlb).trans hc
      have c2 := (HB.out.cell (p := ⟨b, off + k * 2 + 1, none⟩) hlb).trans hd
      have hx := Blk.new wr 87 #[.int .i64 p, .slice A l c']
      have ba := (Below.refl wr.heap.size wr).alloc (Nat.le_refl _) (.cells #[.int .i64 p, .slice A l c'] 87)
      have hgr : g < wr.heap.size := HM.out.lt
      have ha := HM.out.below ba hgr
      have hb := HB.out.trans (ba.mono (Nat.le_of_lt hgr))
      have hcl := HF.out _ (by rw [HG.out]; exact hb) k hlt
      obtain ⟨wa, hwa⟩ : ∃ wa, wr.alloc (.cells #[.int .i64 p, .slice A l c'] 87) = wa := ⟨_, rfl⟩
      obtain ⟨gt, hgt⟩ : ∃ gt, wr.heap.size = gt := ⟨_, rfl⟩
      rw [hwa, hgt] at hx
      rw [hwa] at ha hb hcl
      rw [hgt] at hgr
      have HX := Lib.hid hx
      have HA := Lib.hid ha
      have HBa := Lib.hid hb
      have HC := Lib.hid hcl
      have HL := Lib.hid hl
      have HWF := Lib.hid hwf
      clear hc hd hA ba hx ha hb hcl HM HB hl hwf
      go_wp2_with fail
      refine HC.out.mono ?_
      rintro e w1 ⟨rfl, b1⟩
      have hgw := HA.out.lt
      have HB1 := Lib.hid (HBa.out.trans (b1.mono (by omega)))
      have HM1 := Lib.hid (HA.out.below b1 hgw)
      have d0 := (HX.out.below b1 HX.out.lt).cell 0
      clear b1 hgt hwa c1 c2 HC HA HBa HX hgw hgr
      by_cases hm : mk k = true
      · have HMK := Lib.hid hm
        go_wp2_with (at_mapUpdate; refine wpList_mapI_put rfl (.tmp 19) (.tmp 21) (.tmp 22) rfl g k _ rfl HM1.out (by unfold maxLen; omega) p k HWF.out (by omega) rfl rfl ?_
                     intro w2 hm2 hg2
                     have HM2 := Lib.hid (hm2.congr (lastTo_put HL.out HMK.out))
                     have HB2 := Lib.hid (HB1.out.grown hg2 (by have := HM1.out.lt; omega) (fun j e => by cases e; exact Nat.le_refl _))
                     clear hm2 hg2)
        go_roundw
        case rel => exact ⟨k + 1, by omega, by go_num, HM2, HB2⟩
        case measure => simp [intOf]; omega
      · have hm' : mk k = false := by simpa using hm
        have HM2 := Lib.hid ((HM1.out.congr (lastTo_skip hm')))
        clear hm
        go_wp2_with fail
        go_roundw
        case rel =>
          obtain ⟨D, h1, h2⟩ := HM2.out
          exact ⟨k + 1, by omega, by go_num, Lib.hid ⟨D, h1.mono (Nat.le_succ _), h2⟩, HB1⟩
        case measure => simp [intOf]; omega
    · obtain rfl : k = m := by omega
      go_wp2_with fail
      go_ret
      exact ⟨g, rfl, by rw [HG.out]; exact Nat.le_refl _, HM.out, by rw [HG.out]; exact HB.out⟩
end Go.Proofs.Ytdpmdlibgabjaaa
/-
  dev.left tells what last ones leave of a block; the closures that tell marks.
-/
namespace Go.Proofs.Ytdpmdlibgabjaaa
open Go.RowKit Go.Shelf
set_option maxRecDepth 100000

/-- A list below block B that reads as s. -/
def ReadPost (B : Nat) (s : List UInt8) (w : World) (e : Ending) (w' : World) : Prop := ∃ A c, e = .returned (.slice A s.length c) ∧ Bsl w' B A s.length c s ∧ Below w.heap.size w w'
theorem wf64 {p : Int} (h0 : -9223372036854775808 ≤ p) (h1 : p ≤ 9223372036854775807) : (Lit.int .i64 p).wf = true := by simp [Lit.wf, IntKind.min, IntKind.max, IntKind.signed, IntKind.bits]; omega
set_option maxHeartbeats 1000000 in
theorem dLeft_some (B : Nat) (x : DAt) (D : DkL) (g N : Nat) (f : Int → Option Nat) (p : Int) (i : Nat) (w : World) (hB : B ≤ w.heap.size) (h : Dsk w B x D) (hM : MapI w g N f) (hp : (Lit.int .i64 p).wf = true) (hf : f p = some i) (hi : i < D.2.length) :
    Calls Try.prog 49 #[dval x D, .map (some g), .int .i64 p] w (ReadPost B (wr_ D.2 i).2 w) := by
  obtain ⟨b, off, q, A, l, c, s, hbe, hlb, hl, _, hc, hd, hA⟩ := h.2.at_ hi
  obtain ⟨ba, bc, wa, wc⟩ := x
  obtain rfl : wa = some ⟨b, off, none⟩ := hbe
  simp only [dval]
  have m1 := h.2.len_le
  obtain ⟨n, hn⟩ : ∃ n, D.1.length = n := ⟨_, rfl⟩
  obtain ⟨m, hm⟩ : ∃ m, D.2.length = m := ⟨_, rfl⟩
  rw [hm] at m1 hi
  have i0 : (0 : Int) ≤ i := by omega
  have i1 : (i : Int) < m := by omega
  have hb := (Below.refl w.heap.size w).alloc (Nat.le_refl _) (.cells #[.slice ba D.1.length bc, .slice (some ⟨b, off, none⟩) D.2.length wc] 27)
  have hx := Blk.new w 27 #[.slice ba D.1.length bc, .slice (some ⟨b, off, none⟩) D.2.length wc]
  have hM1 := hM.below hb hM.lt
  have c1 := (hb.cell (p := ⟨b, off + i * 2, none⟩) (Nat.lt_of_lt_of_le hlb hB)).trans hc
  have c2 := (hb.cell (p := ⟨b, off + i * 2 + 1, none⟩) (Nat.lt_of_lt_of_le hlb hB)).trans hd
  have hA1 := hA.below (hb.mono hB)
  rw [hn, hm] at hb hx hM1 c1 c2 hA1 ⊢
  rw [hl]
  have hls := hA.1
  subst hls
  have HB := Lib.hid hb
  have HX := Lib.hid hx
  have HM := Lib.hid hM1
  have HA := Lib.hid hA1
  have HP := Lib.hid hp
  have HF := Lib.hid hf
  clear h hM hb hx hM1 hc hd hA hA1 hl hn hm hp hf
  go_enter Try.func49, Try.ntmps49
  go_wp2_with (at_lookup; refine wpList_mapI_some rfl (.tmp 10) (.tmp 11) rfl g N f rfl HM.out p HP.out rfl i HF.out ?_)
  go_ret
  exact ⟨A, c, rfl, HA.out, HB.out⟩
set_option maxHeartbeats 1000000 in
theorem dLeft_none (B : Nat) (x : DAt) (D : DkL) (g N : Nat) (f : Int → Option Nat) (p : Nat) (w : World) (hB : B ≤ w.heap.size) (h : Dsk w B x D) (hM : MapI w g N f) (hf : f (p : Int) = none) (hp : p < D.1.length) :
    Calls Try.prog 49 #[dval x D, .map (some g), .int .i64 p] w (ReadPost B (D.1.getD p []) w) := by
  have m1 := h.1.len_le
  obtain ⟨b, off, A, l, c, s, hbe, hlb, hl, hc, hA⟩ := h.1.at_ hp
  obtain ⟨ba, bc, wa, wc⟩ := x
  obtain rfl : ba = some ⟨b, off, none⟩ := hbe
  simp only [dval]
  obtain ⟨n, hn⟩ : ∃ n, D.1.length = n := ⟨_, rfl⟩
  obtain ⟨m, hm⟩ : ∃ m, D.2.length = m := ⟨_, rfl⟩
  rw [hn] at m1 hp
  have i0 : (0 : Int) ≤ p := by omega
  have i1 : (p : Int) < n := by omega
  have hwf := wf64 (p := p) (by omega) (by omega)
  have hb := (Below.refl w.heap.size w).alloc (Nat.le_refl _) (.cells #[.slice (some ⟨b, off, none⟩) D.1.length bc, .slice wa D.2.length wc] 27)
  have hx := Blk.new w 27 #[.slice (some ⟨b, off, none⟩) D.1.length bc, .slice wa D.2.length wc]
  have hM1 := hM.below hb hM.lt
  have c1 := (hb.cell (p := ⟨b, off + p, none⟩) (Nat.lt_of_lt_of_le hlb hB)).trans hc
  have hA1 := hA.below (hb.mono hB)
  rw [hn, hm] at hb hx hM1 c1 hA1 ⊢
  rw [hl]
  have hls := hA.1
  subst hls
  have HB := Lib.hid hb
  have HX := Lib.hid hx
  have HM := Lib.hid hM1
  have HA := Lib.hid hA1
  have HP := Lib.hid hwf
  have HF := Lib.hid hf
  clear h hM hb hx hM1 hc hA hA1 hl hn hm hwf hf
  go_enter Try.func49, Try.ntmps49
  go_wp2_with (at_lookup; refine wpList_mapI_none rfl (.tmp 10) (.tmp 11) rfl g N f rfl HM.out p HP.out rfl HF.out ?_; intro cx)
  go_ret
  exact ⟨A, c, rfl, HA.out, HB.out⟩
/-- What last ones leave. -/
theorem dLeft_any (B : Nat) (x : DAt) (D : DkL) (g N : Nat) (mk : Nat → Bool) (p : Nat) (w : World) (hB : B ≤ w.heap.size) (h : Dsk w B x D) (hM : MapI w g N (fun q => lastTo D.2 mk q D.2.length)) (hp : p < D.1.length) :
    Calls Try.prog 49 #[dval x D, .map (some g), .int .i64 p] w (ReadPost B (leftD D mk p) w) := by
  have m1 := h.1.len_le
  unfold leftD
  split
  · rename_i i hi
    exact dLeft_some B x D g N _ p i w hB h hM (wf64 (by omega) (by omega)) hi (lastTo_lt hi).1
  · rename_i hi
    exact dLeft_none B x D g N _ p w hB h hM hi hp
theorem dAllMarks (i : Int) (w : World) : Calls Try.prog 30 #[.int .i64 i] w fun e w' => e = .returned (.bool true) ∧ Below w.heap.size w w' := by
  go_enter Try.func30, Try.ntmps30
  go_wp2_with fail
  go_ret
  exact ⟨rfl, Below.refl _ _⟩
/-- A slice of marks that lies below block B reads as ks. -/
def Mks (w : World) (B : Nat) (a : Option Addr) (len cap : Nat) (ks : List Bool) : Prop :=
  ks.length = len ∧ len ≤ cap ∧ cap ≤ maxLen ∧ (0 < len → ∃ b off, a = some ⟨b, off, none⟩ ∧ b < B ∧ ∀ i, i < len → w.cell? ⟨b, off + i, none⟩ = some (.bool (ks.getD i false)))
theorem Mks.below {w w' : World} {B len cap : Nat} {a : Option Addr} {ks : List Bool} (h : Mks w B a len cap ks) (hb : Below B w w') : Mks w' B a len cap ks := by
  obtain ⟨h1, h2, h3, h4⟩ := h
  refine ⟨h1, h2, h3, fun hl => ?_⟩
  obtain ⟨b, off, e, hlt, hc⟩ := h4 hl
  exact ⟨b, off, e, hlt, fun i hi => (hb.cell (p := ⟨b, off + i, none⟩) hlt).trans (hc i hi)⟩
theorem Mks.more {w : World} {B B' len cap : Nat} {a : Option Addr} {ks : List Bool} (h : Mks w B a len cap ks) (hB : B ≤ B') : Mks w B' a len cap ks := by
  obtain ⟨h1, h2, h3, h4⟩ := h
  refine ⟨h1, h2, h3, fun hl => ?_⟩
  obtain ⟨b, off, e, hlt, hc⟩ := h4 hl
  exact ⟨b, off, e, by omega, hc⟩
theorem Mks.step {w w' : World} {len cap : Nat} {a : Option Addr} {ks : List Bool} (h : Mks w w.heap.size a len cap ks) (hb : Below w.heap.size w w') : Mks w' w'.heap.size a len cap ks := (h.below hb).more hb.size
theorem Mks.len_le {w : World} {B len cap : Nat} {a : Option Addr} {ks : List Bool} (h : Mks w B a len cap ks) : (len : Int) ≤ 9223372036854775807 := by have h1 := h.2.1; have h2 := h.2.2.1; unfold maxLen at h2; omega
theorem dGoes_any (B : Nat) (x : DAt) (D : DkL) (gd ga : Nat) (p : Int) (i : Nat) (w : World) (h : Dsk w B x D) (hd : Blk w gd 27 #[.slice x.ba D.1.length x.bc, .slice x.wa D.2.length x.wc]) (hp : w.cell? ⟨ga, 0, none⟩ = some (.int .i64 p)) (hi : i < D.2.length) :
    Calls Try.prog 47 #[.int .i64 (i : Nat), .pointer (some ⟨gd, 0, none⟩), .pointer (some ⟨ga, 0, none⟩)] w fun e w' => e = .returned (.bool (decide ((wr_ D.2 i).1 = p))) ∧ Below w.heap.size w w' := by
  obtain ⟨b, off, q, A, l, c, s, hbe, hlb, hl, _, hc, _, hA⟩ := h.2.at_ hi
  obtain ⟨ba, bc, wa, wc⟩ := x
  obtain rfl : wa = some ⟨b, off, none⟩ := hbe
  have m1 := h.2.len_le
  obtain ⟨m, hm⟩ : ∃ m, D.2.length = m := ⟨_, rfl⟩
  rw [hm] at m1 hi
  rw [hl]
  have i0 : (0 : Int) ≤ i := by omega
  have i1 : (i : Int) < m := by omega
  have d1 : w.cell? ⟨gd, 1, none⟩ = some (.slice (some ⟨b, off, none⟩) m wc) := by rw [← hm]; exact hd.cell 1
  have e : (q == p) = decide (q = p) := rfl
  have HB := Lib.hid (fun k => below_drewN (Below.refl w.heap.size w) k)
  have HE := Lib.hid e
  clear h hd hA hm hl e
  go_enter Try.func47, Try.ntmps47
  go_wp2_with fail
  go_quiet (fail)
  go_wp2_with fail
  go_ret
  exact ⟨by first | rfl | (rw [← HE.out]; rfl), HB.out _⟩
end Go.Proofs.Ytdpmdlibgabjaaa
/-
  Words for the document's own Twin of a disk: rows of the call's own whose pieces lie each in a block of its own.
-/
namespace Go.Proofs.Ytdpmdlibgabjaaa
open Go.RowKit Go.Shelf
set_option maxRecDepth 100000

theorem own_val {w : World} {base n : Nat} {v : Value} {s : List UInt8} (h : w.ownsRow base 5 1 v n (vals s)) : ∃ A c, v = .slice A n c ∧ ∀ B, BslO w B A n c s := by
  obtain ⟨A, c, rfl⟩ := own_slice h
  exact ⟨A, c, rfl, fun B => BslO.own h B⟩
/-- The pieces' values: those that are there yet. -/
def ifDone (k i : Nat) (v : Value) : Value := if i < k then v else .slice none 0 0
theorem done_yes {k i : Nat} {v : Value} (h : i < k) : ifDone k i v = v := if_pos h
theorem done_no {k i : Nat} {v : Value} (h : ¬ i < k) : ifDone k i v = .slice none 0 0 := if_neg h
/-- One value more. -/
def putV (vs : Nat → Value) (k : Nat) (v : Value) (i : Nat) : Value := if i = k then v else vs i
theorem put_same (vs : Nat → Value) (k : Nat) (v : Value) : putV vs k v k = v := if_pos rfl
theorem put_ne {vs : Nat → Value} {k i : Nat} {v : Value} (h : i ≠ k) : putV vs k v i = vs i := if_neg h
/-- A disk whose first k pieces are there, each in a block of its own. -/
def TwI (base hb hw : Nat) (D : DkL) (k : Nat) (w : World) : Prop :=
  ∃ (vs : Nat → Value) (cb cw : Array Value), Blk w hb 23 cb ∧ cb.size = D.1.length ∧ Blk w hw 87 cw ∧ cw.size = D.2.length * 2 ∧
    (∀ i, i < D.1.length → cb[i]? = some (ifDone k i (vs i))) ∧
    (∀ j, j < D.2.length → cw[j * 2 + 1]? = some (ifDone k (D.1.length + j) (vs (D.1.length + j))) ∧ (D.1.length + j < k → cw[j * 2]? = some (.int .i64 (wr_ D.2 j).1))) ∧
    (∀ i, i < k → w.ownsRow base 5 1 (vs i) ((pieces D).getD i []).length (vals ((pieces D).getD i []))) ∧
    (∀ i j, i < j → j < k → ∀ b, (vs i).ownBlock = some b → (vs j).ownBlock ≠ some b)
theorem TwI.below {base hb hw k : Nat} {D : DkL} {w w' : World} (h : TwI base hb hw D k w) (hb' : Below w.heap.size w w') : TwI base hb hw D k w' := by
  obtain ⟨vs, cb, cw, h1, h2, h3, h4, h5, h6, h7, h8⟩ := h
  exact ⟨vs, cb, cw, h1.below hb' h1.lt, h2, h3.below hb' h3.lt, h4, h5, h6, fun i hi => own_below (h7 i hi) hb', h8⟩
theorem own_ne {w : World} {base n g : Nat} {v : Value} {xs : List Value} {t : TypeId} {cs : Array Value} (h : w.ownsRow base 5 1 v n xs) (hg : Blk w g t cs) (ht : t ≠ 5) : ∀ b, v.ownBlock = some b → b ≠ g := by
  intro b hb
  obtain ⟨_, ⟨rfl, _⟩ | ⟨g', cap, cur, rfl, _, h3, _⟩⟩ := h
  · cases hb
  · obtain rfl : g' = b := Option.some.inj hb
    exact fun e => (show Blk w g' _ cur from h3).ne hg (Ne.symm ht) e
/-- The next block is there. -/
theorem TwI.block {base hb hw k : Nat} {D : DkL} {w w' : World} {v : Value} (h : TwI base hb hw D k w) (hk : k < D.1.length) (hb' : Below w.heap.size w w') (hv : w'.ownsRow w.heap.size 5 1 v (D.1.getD k []).length (vals (D.1.getD k []))) (hbase : base ≤ w.heap.size) :
    TwI base hb hw D (k + 1) (w'.setCell ⟨hb, k, none⟩ v) := by
  have h0 := h.below hb'
  obtain ⟨vs, cb, cw, h1, h2, h3, h4, h5, h6, h7, h8⟩ := h
  have hlt : ∀ i, i < k → ∀ b, (vs i).ownBlock = some b → b < w.heap.size := fun i hi b e => ((h7 i hi).lt b e).2
  have x1 := h1.below hb' h1.lt
  have x3 := h3.below hb' h3.lt
  have hne : hw ≠ hb := x3.ne x1 (by decide)
  have gs : w'.grownBy (w'.setCell ⟨hb, k, none⟩ v) (some hb) := only_setCell (World.grownBy.refl w' _) (.inl rfl) _
  have hps : (pieces D).getD k [] = D.1.getD k [] := pieces_left hk
  refine ⟨putV vs k v, _, cw, x1.set_ k v, by simpa using h2, x3.far (by simpa using hne) _, h4, fun i hi => ?_, fun j hj => ?_, fun i hi => ?_, fun i j hij hj b e1 e2 => ?_⟩
  · rw [Array.getElem?_setIfInBounds]
    by_cases e : k = i
    · subst e
      rw [if_pos rfl, if_pos (by omega), done_yes (by omega), put_same]
    · rw [if_neg e, h5 i hi, put_ne (Ne.symm e)]
      by_cases e2 : i < k
      · rw [done_yes e2, done_yes (by omega)]
      · rw [done_no e2, done_no (by omega)]
  · obtain ⟨e1, e2⟩ := h6 j hj
    refine ⟨?_, fun hh => absurd hh (by omega)⟩
    rw [e1, done_no (by omega), done_no (by omega)]
  · by_cases e : i = k
    · subst e
      rw [put_same, hps]
      exact own_mono (own_other hv gs (own_ne hv x1 (by decide))) hbase
    · rw [put_ne e]
      have := own_below (h7 i (by omega)) hb'
      exact own_other this gs (own_ne this x1 (by decide))
  · rw [put_ne (by omega)] at e1
    by_cases e : j = k
    · subst e
      rw [put_same] at e2
      have h9 := hlt i (by omega) b e1
      have h10 := (hv.lt b e2).1
      omega
    · rw [put_ne e] at e2
      exact h8 i j hij (by omega) b e1 e2
/-- The next write's place is there. -/
theorem TwI.at_ {base hb hw k j : Nat} {D : DkL} {w : World} {u : Value} (h : TwI base hb hw D k w) (hk : k ≤ D.1.length + j) : TwI base hb hw D k (w.setCell ⟨hw, j * 2, none⟩ u) := by
  obtain ⟨vs, cb, cw, h1, h2, h3, h4, h5, h6, h7, h8⟩ := h
  have hne : hb ≠ hw := h1.ne h3 (by decide)
  have gs : w.grownBy (w.setCell ⟨hw, j * 2, none⟩ u) (some hw) := only_setCell (World.grownBy.refl w _) (.inl rfl) _
  refine ⟨vs, cb, _, h1.far (by simpa using hne) _, h2, h3.set_ _ _, by simpa using h4, h5, fun i hi => ?_, fun i hi => own_other (h7 i hi) gs (own_ne (h7 i hi) h3 (by decide)), h8⟩
  obtain ⟨e1, e2⟩ := h6 i hi
  refine ⟨by rw [Array.getElem?_setIfInBounds, if_neg (by omega)]; exact e1, fun hh => ?_⟩
  rw [Array.getElem?_setIfInBounds, if_neg (by omega)]
  exact e2 hh
/-- The next write is there. -/
theorem TwI.write {base hb hw k j : Nat} {D : DkL} {w w' : World} {v : Value} (h : TwI base hb hw D k w) (hk : k = D.1.length + j) (hj : j < D.2.length) (hat : w.cell? ⟨hw, j * 2, none⟩ = some (.int .i64 (wr_ D.2 j).1)) (hb' : Below w.heap.size w w') (hv : w'.ownsRow w.heap.size 5 1 v (wr_ D.2 j).2.length (vals (wr_ D.2 j).2)) (hbase : base ≤ w.heap.size) :
    TwI base hb hw D (k + 1) (w'.setCell ⟨hw, j * 2 + 1, none⟩ v) := by
  obtain ⟨vs, cb, cw, h1, h2, h3, h4, h5, h6, h7, h8⟩ := h
  have hlt : ∀ i, i < k → ∀ b, (vs i).ownBlock = some b → b < w.heap.size := fun i hi b e => ((h7 i hi).lt b e).2
  have x1 := h1.below hb' h1.lt
  have x3 := h3.below hb' h3.lt
  have hne : hb ≠ hw := x1.ne x3 (by decide)
  rw [h3.cell] at hat
  have gs : w'.grownBy (w'.setCell ⟨hw, j * 2 + 1, none⟩ v) (some hw) := only_setCell (World.grownBy.refl w' _) (.inl rfl) _
  have hps : (pieces D).getD k [] = (wr_ D.2 j).2 := by rw [hk]; exact pieces_right hj
  refine ⟨putV vs k v, cb, _, x1.far (by simpa using hne) _, h2, x3.set_ _ _, by simpa using h4, fun i hi => ?_, fun i hi => ?_, fun i hi => ?_, fun i i' hij hi' b e1 e2 => ?_⟩
  · rw [h5 i hi, put_ne (by omega), done_yes (by omega), done_yes (by omega)]
  · obtain ⟨e1, e2⟩ := h6 i hi
    by_cases e : i = j
    · subst e
      subst hk
      refine ⟨?_, fun _ => ?_⟩
      · rw [Array.getElem?_setIfInBounds, if_pos rfl, if_pos (by omega), done_yes (by omega), put_same]
      · rw [Array.getElem?_setIfInBounds, if_neg (by omega)]
        exact hat
    · refine ⟨?_, fun hh => ?_⟩
      · rw [Array.getElem?_setIfInBounds, if_neg (by omega), e1, put_ne (by omega)]
        by_cases e3 : D.1.length + i < k
        · rw [done_yes e3, done_yes (by omega)]
        · rw [done_no e3, done_no (by omega)]
      · rw [Array.getElem?_setIfInBounds, if_neg (by omega)]
        exact e2 (by omega)
  · by_cases e : i = k
    · subst e
      rw [put_same, hps]
      exact own_mono (own_other hv gs (own_ne hv x3 (by decide))) hbase
    · rw [put_ne e]
      have := own_below (h7 i (by omega)) hb'
      exact own_other this gs (own_ne this x3 (by decide))
  · rw [put_ne (by omega)] at e1
    by_cases e : i' = k
    · subst e
      rw [put_same] at e2
      have h9 := hlt i (by omega) b e1
      have h10 := (hv.lt b e2).1
      omega
    · rw [put_ne e] at e2
      exact h8 i i' hij (by omega) b e1 e2
/-- A disk all of whose pieces are there. -/
def Tw (w : World) (base : Nat) (x : DAt) (D : DkL) : Prop :=
  ∃ hb hw, x = ⟨some ⟨hb, 0, none⟩, D.1.length, some ⟨hw, 0, none⟩, D.2.length⟩ ∧ base ≤ hb ∧ base ≤ hw ∧ Fits D ∧ (∀ i, i < D.2.length → (Lit.int .i64 (wr_ D.2 i).1).wf = true) ∧ TwI base hb hw D (D.1.length + D.2.length) w
theorem Tw.below {w w' : World} {base : Nat} {x : DAt} {D : DkL} (h : Tw w base x D) (hb : Below w.heap.size w w') : Tw w' base x D := by
  obtain ⟨a, b, c, d, e, f, g, h1⟩ := h
  exact ⟨a, b, c, d, e, f, g, h1.below hb⟩
theorem Tw.brow {w : World} {base : Nat} {x : DAt} {D : DkL} (h : Tw w base x D) (C : Nat) : BRowC w C base (.slice x.ba D.1.length x.bc) D.1 := by
  obtain ⟨hb, hw, rfl, k1, k2, hf, hwf, vs, cb, cw, h1, h2, h3, h4, h5, h6, h7, h8⟩ := h
  refine ⟨cb.toList, ⟨by simp [h2], .inr ⟨hb, D.1.length, cb, rfl, k1, h1, Nat.le_refl _, by have := hf.1; unfold maxLen; omega, by omega, List.take_of_length_le (by simp [h2])⟩⟩, fun i hi => ?_⟩
  have ho := h7 i (by omega)
  rw [pieces_left hi] at ho
  obtain ⟨A, c, e, hs⟩ := own_val ho
  refine ⟨A, c, ?_, hs C⟩
  have := h5 i hi
  rw [done_yes (by omega), e] at this
  rw [List.getD_eq_getElem?_getD, Array.getElem?_toList, this]
  rfl
theorem Tw.wrow {w : World} {base : Nat} {x : DAt} {D : DkL} (h : Tw w base x D) (C : Nat) : WRowC w C base (.slice x.wa D.2.length x.wc) D.2 := by
  obtain ⟨hb, hw, rfl, k1, k2, hf, hwf, vs, cb, cw, h1, h2, h3, h4, h5, h6, h7, h8⟩ := h
  refine ⟨cw.toList, ⟨by simp [h4], .inr ⟨hw, D.2.length, cw, rfl, k2, h3, Nat.le_refl _, by have := hf.2.1; unfold maxLen; omega, h4, List.take_of_length_le (by simp [h4])⟩⟩, fun i hi => ?_⟩
  have ho := h7 (D.1.length + i) (by omega)
  rw [pieces_right hi] at ho
  obtain ⟨A, c, e, hs⟩ := own_val ho
  obtain ⟨e1, e2⟩ := h6 i hi
  rw [done_yes (by omega), e] at e1
  refine ⟨hwf i hi, ?_, A, c, ?_, hs C⟩
  · rw [List.getD_eq_getElem?_getD, Array.getElem?_toList, e2 (by omega)]
    rfl
  · rw [List.getD_eq_getElem?_getD, Array.getElem?_toList, e1]
    rfl
theorem Tw.dsk {w : World} {base : Nat} {x : DAt} {D : DkL} (h : Tw w base x D) : Dsk w w.heap.size x D := by
  obtain ⟨a, c, e1, h1⟩ := (h.brow 0).bls
  obtain ⟨a', c', e2, h2⟩ := (h.wrow 0).wts
  cases e1
  cases e2
  exact ⟨h1, h2⟩
/-- A disk that stays where a box of disks is written. -/
def DskT (w : World) (x : DAt) (D : DkL) : Prop := Dsk w w.heap.size x D ∧ ∀ g cs u v, Blk w g 27 cs → Dsk ((w.setCell ⟨g, 0, none⟩ u).setCell ⟨g, 1, none⟩ v) w.heap.size x D
theorem rows_dsk {w : World} {C C' b1 b2 : Nat} {x : DAt} {D : DkL} (h1 : BRowC w C b1 (.slice x.ba D.1.length x.bc) D.1) (h2 : WRowC w C' b2 (.slice x.wa D.2.length x.wc) D.2) : Dsk w w.heap.size x D := by
  obtain ⟨a, c, e1, h1⟩ := h1.bls
  obtain ⟨a', c', e2, h2⟩ := h2.wts
  cases e1
  cases e2
  exact ⟨h1, h2⟩
theorem rows_dskT {w : World} {b1 b2 : Nat} {x : DAt} {D : DkL} (h1 : BRowC w 0 b1 (.slice x.ba D.1.length x.bc) D.1) (h2 : WRowC w 0 b2 (.slice x.wa D.2.length x.wc) D.2) : DskT w x D :=
  ⟨rows_dsk h1 h2, fun g cs u v hg => by
    have gs : w.grownBy ((w.setCell ⟨g, 0, none⟩ u).setCell ⟨g, 1, none⟩ v) (some g) := only_two w g u v
    have := rows_dsk (h1.row gs (Nat.zero_le _) hg (by decide) (by decide)) (h2.row gs (Nat.zero_le _) hg (by decide) (by decide))
    simpa using this⟩
theorem Tw.dskT {w : World} {base : Nat} {x : DAt} {D : DkL} (h : Tw w base x D) : DskT w x D := rows_dskT (h.brow 0) (h.wrow 0)
/-- Two stores beside it. -/
theorem tw_far {w : World} {base base' g : Nat} {x : DAt} {D : DkL} {cs : Array Value} (h : Tw w base x D) (hg : Blk w g 27 cs) (hl : base' ≤ base) (u v : Value) : Tw ((w.setCell ⟨g, 0, none⟩ u).setCell ⟨g, 1, none⟩ v) base' x D := by
  obtain ⟨hb, hw, h0, k1, k2, hf, hwf, vs, cb, cw, h1, h2, h3, h4, h5, h6, h7, h8⟩ := h
  have n1 : hb ≠ g := h1.ne hg (by decide)
  have n2 : hw ≠ g := h3.ne hg (by decide)
  have gs : w.grownBy ((w.setCell ⟨g, 0, none⟩ u).setCell ⟨g, 1, none⟩ v) (some g) := only_two w g u v
  exact ⟨hb, hw, h0, by omega, by omega, hf, hwf, vs, cb, cw, (h1.far (by simpa using n1) _).far (by simpa using n1) _, h2, (h3.far (by simpa using n2) _).far (by simpa using n2) _, h4, h5, h6, fun i hi => own_mono (own_other (h7 i hi) gs (own_ne (h7 i hi) hg (by decide))) hl, h8⟩
end Go.Proofs.Ytdpmdlibgabjaaa
/-
  dev.settled of a disk that may be answers what the writes leave whose mark is true, laid in one new piece.
-/
namespace Go.Proofs.Ytdpmdlibgabjaaa
open Go.RowKit Go.Shelf
set_option maxRecDepth 100000

/-- A row of one's own whose first k cells are lists below block B that read as f tells. -/
def RowsI (B : Nat) (f : Nat → List UInt8) (hb n k : Nat) (w : World) : Prop := ∃ cb, Blk w hb 23 cb ∧ cb.size = n ∧ ∀ i, i < k → ∃ A c, cb[i]? = some (.slice A (f i).length c) ∧ Bsl w B A (f i).length c (f i)
theorem RowsI.below {B : Nat} {f : Nat → List UInt8} {hb n k : Nat} {w w' : World} (h : RowsI B f hb n k w) (hB : B ≤ w.heap.size) (hw : Below w.heap.size w w') : RowsI B f hb n k w' := by
  obtain ⟨cb, h1, h2, h3⟩ := h
  refine ⟨cb, h1.below hw h1.lt, h2, fun i hi => ?_⟩
  obtain ⟨A, c, h4, h5⟩ := h3 i hi
  exact ⟨A, c, h4, h5.below (hw.mono hB)⟩
theorem RowsI.put {B : Nat} {f : Nat → List UInt8} {hb n k : Nat} {w : World} (h : RowsI B f hb n k w) (hB : B ≤ hb) (hk : k < n) {A : Option Addr} {c : Nat} (hs : Bsl w B A (f k).length c (f k)) : RowsI B f hb n (k + 1) (w.setCell ⟨hb, k, none⟩ (.slice A (f k).length c)) := by
  obtain ⟨cb, h1, h2, h3⟩ := h
  have hb' : Below B w (w.setCell ⟨hb, k, none⟩ (.slice A (f k).length c)) := (Below.refl B w).setCell (p := ⟨hb, k, none⟩) hB _
  refine ⟨_, h1.set_ k _, by simpa using h2, fun i hi => ?_⟩
  rcases Nat.lt_or_ge i k with h9 | h9
  · obtain ⟨A', c', h4, h5⟩ := h3 i h9
    exact ⟨A', c', by rw [Array.getElem?_setIfInBounds, if_neg (by omega)]; exact h4, h5.below hb'⟩
  · obtain rfl : i = k := by omega
    exact ⟨A, c, by rw [Array.getElem?_setIfInBounds, if_pos rfl, if_pos (by omega)], hs.below hb'⟩
theorem RowsI.bls {B : Nat} {f : Nat → List UInt8} {hb n : Nat} {w : World} (h : RowsI B f hb n n w) (hB : B ≤ w.heap.size) (hn : n ≤ 1000000) : Bls w w.heap.size (some ⟨hb, 0, none⟩) n n ((List.range n).map f) := by
  obtain ⟨cb, h1, h2, h3⟩ := h
  refine ⟨by simp, Nat.le_refl _, by unfold maxLen; omega, fun h0 => ⟨hb, 0, rfl, h1.lt, fun i hi => ?_⟩⟩
  obtain ⟨A, c, h4, h5⟩ := h3 i hi
  have e : ((List.range n).map f).getD i [] = f i := by simp [List.getD_eq_getElem?_getD, hi]
  rw [e]
  exact ⟨A, c, by rw [Nat.zero_add, h1.cell, h4], h5.more hB⟩
set_option maxHeartbeats 2000000 in
theorem dSettled0_any (x : DAt) (D : DkL) (mk : Nat → Bool) (w : World) (h : Dsk w w.heap.size x D) (hmay : MayD D)
    (hF : ∀ W, Below w.heap.size w W → ∀ i, i < D.2.length → Calls Try.prog 30 #[.int .i64 (i : Nat)] W fun e w' => e = .returned (.bool (mk i)) ∧ Below W.heap.size W w') :
    Calls Try.prog 29 #[dval x D, .func (.func 30) #[] #[]] w (LaidPost (keptD D mk) w) := by
  obtain ⟨ba, bc, wa, wc⟩ := x
  have hl1 := hmay.1.1
  have hfits := may_fits (keptD_may hmay mk)
  have hkl := keptD_length D mk
  simp only [dval]
  rw [hl1]
  have hmk : ∀ W : World, (Instr.makeSlice 24 (.int .i64 256) (.int .i64 256)).run Try.prog W = .ok (.slice (some ⟨W.heap.size, 0, none⟩) 256 256) (W.alloc (.cells (Array.replicate 256 (.slice none 0 0)) 23)) := make_rows 256 (by omega)
  obtain ⟨m, hm⟩ : ∃ m, D.2.length = m := ⟨_, rfl⟩
  obtain ⟨B, hB⟩ : ∃ B, w.heap.size = B := ⟨_, rfl⟩
  obtain ⟨w0, hw0⟩ : ∃ w0, (w.alloc (.cells #[.slice ba 256 bc, .slice wa m wc] 27)).alloc (.cells #[.slice none 0 0, .slice none 0 0] 27) = w0 := ⟨_, rfl⟩
  have b0 : Below B w w0 := by rw [← hw0, ← hB]; exact ((Below.refl _ w).alloc (Nat.le_refl _) _).alloc (by simp) _
  have z0 : w0.heap.size = B + 2 := by rw [← hw0, ← hB]; simp
  have x0 : Blk w0 B 27 #[.slice ba 256 bc, .slice wa m wc] := by rw [← hw0, ← hB]; exact (Blk.new w _ _).alloc _
  have x1 : Blk w0 (B + 1) 27 #[.slice none 0 0, .slice none 0 0] := by
    have := Blk.new (w.alloc (.cells #[.slice ba 256 bc, .slice wa m wc] 27)) 27 #[.slice none 0 0, .slice none 0 0]
    rw [World.size_alloc, hB, hw0] at this
    exact this
  have hD0 : Dsk w0 B ⟨ba, bc, wa, wc⟩ D := by
    rw [← hB] at b0 ⊢
    exact ⟨h.1.below b0, h.2.below b0⟩
  have hW0 := (hD0.2.more (B' := w0.heap.size) (by omega))
  have hl := dLast0_any wa m wc D.2 mk w0 (by rw [← hm]; exact hW0) (fun W hW i hi => hF W (by rw [hB]; exact b0.trans (hW.mono (by omega))) i (by rw [hm]; exact hi))
  rw [hm]
  have c0 := x0.cell 0
  have c1 := x0.cell 1
  have HL := Lib.hid hl
  have HX0 := Lib.hid x0
  have HX1 := Lib.hid x1
  have HB0 := Lib.hid b0
  have HZ0 := Lib.hid z0
  have HD := Lib.hid hD0
  have HM := Lib.hid hm
  have HBB := Lib.hid hB
  have HMAY := Lib.hid hmay
  have HFI := Lib.hid hfits
  have HKL := Lib.hid hkl
  have HL1 := Lib.hid hl1
  clear hl x0 x1 b0 z0 hD0 hm hmay hF h hfits hkl hl1 hW0
  go_enter Try.func29, Try.ntmps29
  go_wp2_with fail
  clear hw0 c0 c1 hB
  refine HL.out.mono ?_
  rintro e w1 ⟨g, rfl, hge, hM1, b1⟩
  have c0 := (HX0.out.below b1 HX0.out.lt).cell 0
  have c1 := (HX0.out.below b1 HX0.out.lt).cell 1
  obtain ⟨hb, hhb⟩ : ∃ hb, w1.heap.size = hb := ⟨_, rfl⟩
  obtain ⟨w2, hw2⟩ : ∃ w2, w1.alloc (.cells (Array.replicate 256 (.slice none 0 0)) 23) = w2 := ⟨_, rfl⟩
  have ba2 : Below w1.heap.size w1 w2 := by rw [← hw2]; exact (Below.refl _ w1).alloc (Nat.le_refl _) _
  have b2 : Below w0.heap.size w0 w2 := b1.trans (ba2.mono b1.size)
  have hR0 : RowsI B (leftD D mk) hb 256 0 w2 := ⟨_, by rw [← hw2, ← hhb]; exact Blk.new w1 _ _, by simp, fun i hi => absurd hi (Nat.not_lt_zero _)⟩
  have hM2 : MapI w2 g m _ := hM1.below ba2 hM1.lt
  have hhb' : g < hb := by rw [← hhb]; exact hM1.lt
  have HB2 := Lib.hid b2
  have HR := Lib.hid hR0
  have HM2 := Lib.hid hM2
  have HGE := Lib.hid (And.intro hge hhb')
  clear b1 hM1 hge ba2 b2 hR0 hM2 hhb' HL
  go_wp2_with fail
  clear hhb hw2 c0 c1
  go_loopw [18] (fun i wr => ∃ k : Nat, k ≤ 256 ∧ i = .int .i64 k ∧ Hid (RowsI B (leftD D mk) hb 256 k wr) ∧ Hid (MapI wr g m (fun p => lastTo D.2 mk p m)) ∧ Hid (Below w0.heap.size w0 wr)) (fun i _ => 256 - (intOf i).toNat)
  case atStart => exact ⟨0, Nat.zero_le _, rfl, HR, HM2, HB2⟩
  case round =>
    obtain ⟨k, hk, rfl, HRr, HMr, HBr⟩ := hrel
    clear HR HM2 HB2
    have k0 : (0 : Int) ≤ k := by omega
    have hz := HZ0.out
    have hzr := HBr.out.size
    have xr := HX0.out.below HBr.out HX0.out.lt
    have d0 := xr.cell 0
    have d1 := xr.cell 1
    by_cases hlt : k < 256
    · have k1 : (k : Int) < 256 := by omega
      have hDr : Dsk wr B ⟨ba, bc, wa, wc⟩ D := ⟨HD.out.1.below (HBr.out.mono (by omega)), HD.out.2.below (HBr.out.mono (by omega))⟩
      have hcl := dLeft_any B ⟨ba, bc, wa, wc⟩ D g m mk k wr (by omega) hDr (by rw [HM.out]; exact HMr.out) (by rw [HL1.out]; exact hlt)
      simp only [dval] at hcl
      rw [HL1.out, HM.out] at hcl
      obtain ⟨s, hs⟩ : ∃ s, leftD D mk k = s := ⟨_, rfl⟩
      rw [hs] at hcl
      have HS := Lib.hid hs
      have HC := Lib.hid hcl
      clear hDr hcl hs xr hz
      go_wp2_with fail
      refine HC.out.mono ?_
      rintro e w3 ⟨A, c, rfl, h3, b3⟩
      have hBr := HBr.out.trans (b3.mono hzr)
      have hR3 := HRr.out.below (by have := HZ0.out; omega) b3
      have hM3 := HMr.out.below b3 HMr.out.lt
      obtain ⟨cb, y1, y2, _⟩ := id hR3
      obtain ⟨u3, hu3⟩ : ∃ u, w3.cell? ⟨hb, k, none⟩ = some u := ⟨_, by rw [y1.cell]; exact Array.getElem?_eq_getElem (by omega)⟩
      have hf3 := y1.frozen k
      have hge := HGE.out
      have hp := hR3.put (k := k) (A := A) (c := c) (by have := HZ0.out; omega) hlt (by rw [HS.out]; exact h3)
      rw [HS.out] at hp
      have gs : w3.grownBy (w3.setCell ⟨hb, k, none⟩ (.slice A s.length c)) (some hb) := only_setCell (World.grownBy.refl w3 _) (.inl rfl) _
      have HP := Lib.hid hp
      have HM3 := Lib.hid (hM3.kept gs (fun e => by have := Option.some.inj e; omega))
      have HB3 := Lib.hid (hBr.setCell (p := ⟨hb, k, none⟩) (by show w0.heap.size ≤ hb; omega) (.slice A s.length c))
      clear h3 b3 hBr hR3 hM3 y1 y2 hp gs HC d0 d1 hzr hge
      go_wp2_with fail
      go_roundw
      case rel => exact ⟨k + 1, by omega, by go_num, HP, HM3, HB3⟩
      case measure => simp [intOf]; omega
    · obtain rfl : k = 256 := by omega
      have hBl := HRr.out.bls (by omega) (by omega)
      have hkd : (keptD D mk).1 = (List.range 256).map (leftD D mk) := rfl
      rw [← hkd] at hBl
      have hla := dLaid_any ⟨some ⟨hb, 0, none⟩, 256, none, 0⟩ (keptD D mk) wr ⟨by rw [HKL.out]; exact hBl, wts_nil _ _⟩ HFI.out
      simp only [HKL.out] at hla
      have e2 : (keptD D mk).2.length = 0 := rfl
      rw [e2] at hla
      have x1r := HX1.out.below HBr.out HX1.out.lt
      have HLA := Lib.hid hla
      have HX1r := Lib.hid x1r
      have HBw := Lib.hid (HB0.out.trans (HBr.out.mono (by omega)))
      have HZR := Lib.hid (show B + 2 ≤ wr.heap.size by omega)
      clear hBl hkd hla e2 xr d0 d1 hz hzr x1r HRr HMr HBr
      go_wp2_with fail
      refine HLA.out.mono ?_
      rintro e w4 ⟨x4, rfl, h4, b4⟩
      have hz := HZR.out
      have y4 := HX1r.out.below b4 HX1r.out.lt
      have d0 := y4.cell 0
      have d1 := y4.cell 1
      have hf := fun i => y4.frozen i
      have hKD : ∀ (u v : Value), Laid ((w4.setCell ⟨B + 1, 0, none⟩ u).setCell ⟨B + 1, 1, none⟩ v) B x4 (keptD D mk) := fun u v => laid_far h4 (by omega) (by omega) u v
      have hBF : ∀ (u v : Value), Below B w ((w4.setCell ⟨B + 1, 0, none⟩ u).setCell ⟨B + 1, 1, none⟩ v) := fun u v => ((HBw.out.trans (b4.mono (by omega))).setCell (p := ⟨B + 1, 0, none⟩) (Nat.le_succ _) u).setCell (p := ⟨B + 1, 1, none⟩) (Nat.le_succ _) v
      have hXF := fun (u v : Value) => (y4.set_ 0 u).set_ 1 v
      have HK := Lib.hid hKD
      have HBF := Lib.hid hBF
      have HXF := Lib.hid hXF
      obtain ⟨ba4, bc4, wa4, wc4⟩ := x4
      clear h4 b4 y4 hz hKD hBF hXF HLA HX1r HBw
      simp only [dval]
      go_wp2_with fail
      have hKD := HK.out (.slice ba4 (keptD D mk).1.length bc4) (.slice wa4 (keptD D mk).2.length wc4)
      have hBF := HBF.out (.slice ba4 (keptD D mk).1.length bc4) (.slice wa4 (keptD D mk).2.length wc4)
      have hXF := HXF.out (.slice ba4 (keptD D mk).1.length bc4) (.slice wa4 (keptD D mk).2.length wc4)
      obtain ⟨wf, hwf⟩ : ∃ wf, ((w4.setCell ⟨B + 1, 0, none⟩ (.slice ba4 (keptD D mk).1.length bc4)).setCell ⟨B + 1, 1, none⟩ (.slice wa4 (keptD D mk).2.length wc4)) = wf := ⟨_, rfl⟩
      rw [hwf] at hKD hBF hXF ⊢
      clear hwf d0 d1 hf
      have e0 := hXF.cell 0
      have e1 := hXF.cell 1
      refine bodyPost_ret (v := dval ⟨ba4, bc4, wa4, wc4⟩ (keptD D mk)) (by simp [results, Try.f29, go_sem, e0, e1, dval]) rfl ?_
      exact ⟨⟨ba4, bc4, wa4, wc4⟩, rfl, by rw [HBB.out]; exact hKD, by rw [HBB.out]; exact hBF⟩
end Go.Proofs.Ytdpmdlibgabjaaa
/-
  dev.Check, Flush, Crash, Twin: what they answer, whatever disk they are handed.
-/
namespace Go.Proofs.Ytdpmdlibgabjaaa
open Go.RowKit Go.Shelf
set_option maxRecDepth 100000

/-- A disk that is answered: none, or one laid in a new piece. -/
def OutD (w : World) (lo : Nat) (x : DAt) (D : DkL) : Prop := (x = ⟨none, 0, none, 0⟩ ∧ D = ([], [])) ∨ Laid w lo x D
theorem OutD.dsk {w : World} {lo : Nat} {x : DAt} {D : DkL} (h : OutD w lo x D) : Dsk w w.heap.size x D := by
  rcases h with ⟨rfl, rfl⟩ | h
  · exact ⟨bls_nil _ _, wts_nil _ _⟩
  · exact h.dsk
theorem OutD.below {w w' : World} {lo : Nat} {x : DAt} {D : DkL} (h : OutD w lo x D) (hb : Below w.heap.size w w') : OutD w' lo x D := h.imp id fun h => h.below hb
theorem OutD.lower {w : World} {lo lo' : Nat} {x : DAt} {D : DkL} (h : OutD w lo x D) (hl : lo' ≤ lo) : OutD w lo' x D := h.imp id fun h => h.lower hl
/-- A disk and an error's number. -/
def ToldD (o : DkL × Int) (w : World) (e : Ending) (w' : World) : Prop := ∃ x', e = .returned (.tuple #[dval x' o.1, .int .i64 o.2]) ∧ OutD w' w.heap.size x' o.1 ∧ Below w.heap.size w w'
/-- An error, and no disk. -/
theorem toldD_no {c : Int} {w : World} {e : Ending} {w' : World} (he : e = .returned (.tuple #[.agg #[.slice none 0 0, .slice none 0 0], .int .i64 c])) (hb : Below w.heap.size w w') : ToldD (([], []), c) w e w' := ⟨⟨none, 0, none, 0⟩, he, .inl ⟨rfl, rfl⟩, hb⟩
def flushO (D : DkL) : DkL × Int := if MayD D then (keptD D (fun _ => true), 0) else (([], []), 8)
def crashO (D : DkL) (ks : List Bool) : DkL × Int := if MayD D then (if ks.length = D.2.length then (keptD D (fun i => ks.getD i false), 0) else (([], []), 2)) else (([], []), 8)
def checkO (D : DkL) : Int := if MayD D then 0 else 8
theorem dCheck_any (x : DAt) (D : DkL) (w : World) (h : Dsk w w.heap.size x D) : Calls Try.prog 60 #[dval x D] w fun e w' => e = .returned (.int .i64 (checkO D)) ∧ Below w.heap.size w w' := by
  have b0 := (Below.refl w.heap.size w).alloc (Nat.le_refl _) (.cells #[.slice x.ba D.1.length x.bc, .slice x.wa D.2.length x.wc] 27)
  have h0 := h.step b0
  unfold checkO
  by_cases hm : MayD D
  · rw [if_pos hm]
    have HC := Lib.hid (dMay_yes x D _ h0 hm)
    simp only [dval] at HC ⊢
    have HB := Lib.hid b0
    clear b0 h0 h hm
    go_enter Try.func60, Try.ntmps60
    go_wp2_with fail
    refine HC.out.mono ?_
    rintro e w1 ⟨rfl, b1⟩
    have HB1 := Lib.hid (HB.out.trans (b1.mono HB.out.size))
    clear b1
    go_wp2_with fail
    go_ret
    exact ⟨rfl, HB1.out⟩
  · rw [if_neg hm]
    have HC := Lib.hid (dMay_no x D _ h0 hm)
    simp only [dval] at HC ⊢
    have HB := Lib.hid b0
    clear b0 h0 h hm
    go_enter Try.func60, Try.ntmps60
    go_wp2_with fail
    refine HC.out.mono ?_
    rintro e w1 ⟨rfl, b1⟩
    have HB1 := Lib.hid (HB.out.trans (b1.mono HB.out.size))
    clear b1
    go_wp2_with fail
    go_ret
    exact ⟨rfl, HB1.out⟩
/-- Boxed, and room for the answer. -/
theorem two_boxes (w : World) (u v : Value) : ∃ w0, (w.alloc (.cells #[u, v] 27)).alloc (.cells #[.slice none 0 0, .slice none 0 0] 27) = w0 ∧ Below w.heap.size w w0 ∧ w0.heap.size = w.heap.size + 2 ∧ Blk w0 w.heap.size 27 #[u, v] ∧ Blk w0 (w.heap.size + 1) 27 #[.slice none 0 0, .slice none 0 0] := by
  refine ⟨_, rfl, ((Below.refl _ w).alloc (Nat.le_refl _) _).alloc (by simp) _, by simp, (Blk.new w _ _).alloc _, ?_⟩
  have := Blk.new (w.alloc (.cells #[u, v] 27)) 27 #[.slice none 0 0, .slice none 0 0]
  rw [World.size_alloc] at this
  exact this
set_option maxHeartbeats 1000000 in
theorem dFlush_any (x : DAt) (D : DkL) (w : World) (h : Dsk w w.heap.size x D) : Calls Try.prog 13 #[dval x D] w (ToldD (flushO D) w) := by
  obtain ⟨w0, hw0, b0, z0, x0, x1⟩ := two_boxes w (.slice x.ba D.1.length x.bc) (.slice x.wa D.2.length x.wc)
  have h0 := h.step b0
  have c0 := x0.cell 0
  have c1 := x0.cell 1
  have HX0 := Lib.hid x0
  have HX1 := Lib.hid x1
  have HB := Lib.hid b0
  have HZ := Lib.hid z0
  have HD := Lib.hid h0
  unfold flushO
  by_cases hm : MayD D
  · rw [if_pos hm]
    have HC := Lib.hid (dMay_yes x D _ h0 hm)
    have HM := Lib.hid hm
    simp only [dval] at HC ⊢
    clear b0 h0 h hm x0 x1 z0
    go_enter Try.func13, Try.ntmps13
    go_wp2_with fail
    clear hw0 c0 c1
    refine HC.out.mono ?_
    rintro e w1 ⟨rfl, b1⟩
    have c0 := (HX0.out.below b1 HX0.out.lt).cell 0
    have c1 := (HX0.out.below b1 HX0.out.lt).cell 1
    have hs := dSettled0_any x D (fun _ => true) w1 (HD.out.step b1) HM.out (fun W _ i _ => dAllMarks i W)
    simp only [dval] at hs
    have HS := Lib.hid hs
    have HX2 := Lib.hid (HX1.out.below b1 HX1.out.lt)
    have HB1 := Lib.hid (HB.out.trans (b1.mono HB.out.size))
    have HZ1 := Lib.hid (show w.heap.size + 2 ≤ w1.heap.size by have := b1.size; have := HZ.out; omega)
    clear b1 hs HC
    go_wp2_with fail
    refine HS.out.mono ?_
    rintro e w2 ⟨x2, rfl, h2, b2⟩
    clear c0 c1
    have y2 := HX2.out.below b2 HX2.out.lt
    have d0 := y2.cell 0
    have d1 := y2.cell 1
    have hf := fun i => y2.frozen i
    have hz := HZ1.out
    have HK := Lib.hid (fun (u v : Value) => laid_far (g := w.heap.size + 1) (lo' := w.heap.size) h2 (by omega) (by omega) u v)
    have HBF := Lib.hid (fun (u v : Value) => ((HB1.out.trans (b2.mono (by omega))).setCell (p := ⟨w.heap.size + 1, 0, none⟩) (Nat.le_add_right _ _) u).setCell (p := ⟨w.heap.size + 1, 1, none⟩) (Nat.le_add_right _ _) v)
    have HXF := Lib.hid (fun (u v : Value) => (y2.set_ 0 u).set_ 1 v)
    obtain ⟨K, hK⟩ : ∃ K, keptD D (fun _ => true) = K := ⟨_, rfl⟩
    rw [hK] at HK ⊢
    have HK0 := Lib.hid hK
    obtain ⟨ba2, bc2, wa2, wc2⟩ := x2
    clear h2 b2 y2 hz hK
    simp only [dval]
    go_wp2_with fail
    have hKD := HK.out (.slice ba2 K.1.length bc2) (.slice wa2 K.2.length wc2)
    have hBF := HBF.out (.slice ba2 K.1.length bc2) (.slice wa2 K.2.length wc2)
    have hXF := HXF.out (.slice ba2 K.1.length bc2) (.slice wa2 K.2.length wc2)
    obtain ⟨wf, hwf⟩ : ∃ wf, ((w2.setCell ⟨w.heap.size + 1, 0, none⟩ (.slice ba2 K.1.length bc2)).setCell ⟨w.heap.size + 1, 1, none⟩ (.slice wa2 K.2.length wc2)) = wf := ⟨_, rfl⟩
    rw [hwf] at hKD hBF hXF ⊢
    clear hwf d0 d1 hf
    have e0 := hXF.cell 0
    have e1 := hXF.cell 1
    refine bodyPost_ret (v := .tuple #[dval ⟨ba2, bc2, wa2, wc2⟩ K, .int .i64 0]) (by simp [results, Try.f13, go_sem, e0, e1, dval]) rfl ?_
    exact ⟨⟨ba2, bc2, wa2, wc2⟩, by rw [HK0.out], .inr (by rw [HK0.out]; exact hKD), hBF⟩
  · rw [if_neg hm]
    have HC := Lib.hid (dMay_no x D _ h0 hm)
    simp only [dval] at HC ⊢
    clear b0 h0 h hm x0 x1 z0
    go_enter Try.func13, Try.ntmps13
    go_wp2_with fail
    clear hw0 c0 c1
    refine HC.out.mono ?_
    rintro e w1 ⟨rfl, b1⟩
    have y2 := HX1.out.below b1 HX1.out.lt
    have d0 := y2.cell 0
    have d1 := y2.cell 1
    have hf := fun i => y2.frozen i
    have HY := Lib.hid y2
    have HB1 := Lib.hid (HB.out.trans (b1.mono HB.out.size))
    clear b1 y2
    go_wp2_with fail
    have hBF := (HB1.out.setCell (p := ⟨w.heap.size + 1, 0, none⟩) (Nat.le_add_right _ _) (.slice none 0 0)).setCell (p := ⟨w.heap.size + 1, 1, none⟩) (Nat.le_add_right _ _) (.slice none 0 0)
    have hXF := (HY.out.set_ 0 (.slice none 0 0)).set_ 1 (.slice none 0 0)
    obtain ⟨wf, hwf⟩ : ∃ wf, ((w1.setCell ⟨w.heap.size + 1, 0, none⟩ (.slice none 0 0)).setCell ⟨w.heap.size + 1, 1, none⟩ (.slice none 0 0)) = wf := ⟨_, rfl⟩
    rw [hwf] at hBF hXF ⊢
    clear hwf d0 d1 hf
    have e0 := hXF.cell 0
    have e1 := hXF.cell 1
    exact bodyPost_ret (v := .tuple #[.agg #[.slice none 0 0, .slice none 0 0], .int .i64 8]) (by simp [results, Try.f13, go_sem, e0, e1]) rfl (toldD_no rfl hBF)
set_option maxHeartbeats 1000000 in
theorem dTwin_any (x : DAt) (D : DkL) (w : World) (h : Dsk w w.heap.size x D) (hf : Fits D) : Calls Try.prog 32 #[dval x D] w (LaidPost D w) := by
  obtain ⟨w0, hw0, b0, z0, x0, x1⟩ := two_boxes w (.slice x.ba D.1.length x.bc) (.slice x.wa D.2.length x.wc)
  have h0 := h.step b0
  have c0 := x0.cell 0
  have c1 := x0.cell 1
  have HX2 := Lib.hid x1
  have HB1 := Lib.hid b0
  have HZ1 := Lib.hid (Nat.le_of_eq z0.symm)
  have HS := Lib.hid (dLaid_any x D w0 h0 hf)
  simp only [dval]
  clear b0 h0 h x0 x1 z0 hf
  go_enter Try.func32, Try.ntmps32
  go_wp2_with fail
  clear hw0
  refine HS.out.mono ?_
  rintro e w2 ⟨x2, rfl, h2, b2⟩
  clear c0 c1
  have y2 := HX2.out.below b2 HX2.out.lt
  have d0 := y2.cell 0
  have d1 := y2.cell 1
  have hf := fun i => y2.frozen i
  have hz := HZ1.out
  have HK := Lib.hid (fun (u v : Value) => laid_far (g := w.heap.size + 1) (lo' := w.heap.size) h2 (by omega) (by omega) u v)
  have HBF := Lib.hid (fun (u v : Value) => ((HB1.out.trans (b2.mono (by omega))).setCell (p := ⟨w.heap.size + 1, 0, none⟩) (Nat.le_add_right _ _) u).setCell (p := ⟨w.heap.size + 1, 1, none⟩) (Nat.le_add_right _ _) v)
  have HXF := Lib.hid (fun (u v : Value) => (y2.set_ 0 u).set_ 1 v)
  obtain ⟨ba2, bc2, wa2, wc2⟩ := x2
  clear h2 b2 y2 hz
  simp only [dval]
  go_wp2_with fail
  have hKD := HK.out (.slice ba2 D.1.length bc2) (.slice wa2 D.2.length wc2)
  have hBF := HBF.out (.slice ba2 D.1.length bc2) (.slice wa2 D.2.length wc2)
  have hXF := HXF.out (.slice ba2 D.1.length bc2) (.slice wa2 D.2.length wc2)
  obtain ⟨wf, hwf⟩ : ∃ wf, ((w2.setCell ⟨w.heap.size + 1, 0, none⟩ (.slice ba2 D.1.length bc2)).setCell ⟨w.heap.size + 1, 1, none⟩ (.slice wa2 D.2.length wc2)) = wf := ⟨_, rfl⟩
  rw [hwf] at hKD hBF hXF ⊢
  clear hwf d0 d1 hf
  have e0 := hXF.cell 0
  have e1 := hXF.cell 1
  refine bodyPost_ret (v := dval ⟨ba2, bc2, wa2, wc2⟩ D) (by simp [results, Try.f32, go_sem, e0, e1, dval]) rfl ?_
  exact ⟨⟨ba2, bc2, wa2, wc2⟩, rfl, hKD, hBF⟩
end Go.Proofs.Ytdpmdlibgabjaaa
/-
  The document's own Twin for layer 9.
-/
namespace Go.Proofs.Ytdpmdlibgabjaaa
open Go.RowKit Go.Shelf
set_option maxRecDepth 100000

/-- What Twin answers. -/
def TwinPost (D : DkL) (w : World) (e : Ending) (w' : World) : Prop := ∃ x', e = .returned (dval x' D) ∧ Tw w' w.heap.size x' D ∧ Below w.heap.size w w'
end Go.Proofs.Ytdpmdlibgabjaaa
/-
  dev.New answers 256 blocks of noughts, in one new piece; slices.Repeat of one block.
-/
namespace Go.Proofs.Ytdpmdlibgabjaaa
open Go.RowKit Go.Shelf
set_option maxRecDepth 100000

theorem dMul64 (w : World) : Calls Try.prog 86 #[.int .u64 1, .int .u64 256] w fun e w' => e = .returned (.tuple #[.int .u64 0, .int .u64 256]) ∧ w = w' := by
  go_enter Try.func86, Try.ntmps86
  go_wp2_with fail
  go_ret2
  exact ⟨rfl, rfl⟩
theorem dMul (w : World) : Calls Try.prog 70 #[.int .u64 1, .int .u64 256] w fun e w' => e = .returned (.tuple #[.int .u64 0, .int .u64 256]) ∧ w = w' := by
  go_enter Try.func70, Try.ntmps70
  go_wp2_with (go_at_call 86; refine (dMul64 _).mono ?_; rintro e w' ⟨rfl, rfl⟩)
  go_ret2
  exact ⟨rfl, rfl⟩
/-- 256 cells, of which n are v. -/
def repR (v : Value) (n : Nat) : List Value := List.replicate n v ++ List.replicate (256 - n) (.slice none 0 0)
theorem repR_length (v : Value) (n : Nat) (h : n ≤ 256) : (repR v n).length = 256 := by simp [repR]; omega
theorem repR_splice (v : Value) (n k : Nat) : splice (repR v n) n (List.replicate k v) = repR v (n + k) := by
  unfold splice repR
  have e1 : (List.replicate n v ++ List.replicate (256 - n) (Value.slice none 0 0)).take n = List.replicate n v := by simp
  have e2 : (List.replicate n v ++ List.replicate (256 - n) (Value.slice none 0 0)).drop (n + (List.replicate k v).length) = List.replicate (256 - (n + k)) (.slice none 0 0) := by
    rw [List.drop_append, List.drop_of_length_le (by simp; try omega)]
    simp
    omega
  rw [e1, e2, ← List.append_assoc, List.replicate_append_replicate]
theorem rep_get {v u : Value} {k j : Nat} (h : (List.replicate k v)[j]? = some u) : j < k ∧ u = v := by
  rw [List.getElem?_replicate] at h
  split at h
  · rename_i h1
    cases h
    exact ⟨h1, rfl⟩
  · cases h
theorem infoSl1 : (Try.prog.info? 23).map (·.size) = some 1 := by kernel_rfl
theorem step_copy_rep {ops : Array Oper} {o : Oper} {a : Act} {w w0 : World} {K : Act → World → Prop} {Q : Exit → Act → World → Prop} {E : Prop} (v : Value) (hv : v.oneCell' = true) (hgd : o.guard = none) (d s : Operand)
    (ho : o.op = .call { callee := .builtin .copy, args := #[d, s], argTypes := #[24, 24] }) (g5 n : Nat) (hn : n ≤ 128)
    (hd : a.eval d = .slice (some ⟨g5, n, none⟩) (256 - n) (256 - n)) (hs : a.eval s = .slice (some ⟨g5, 0, none⟩) n 256) (hx : Blk w g5 23 (repR v n).toArray) (hb : Below g5 w0 w)
    (h : ∀ w', Blk w' g5 23 (repR v (n + n)).toArray → Below g5 w0 w' → K (a.put o.dst (.int .i64 n)) w') :
    if Region.wanted o (yielded ops a.tmps) = true then Oper.wp Try.prog o a w K Q else E := by
  have hl : (List.replicate n v).length = n := by simp
  refine step_copy_splice hgd d s 24 24 ho 23 Try.underlying24 infoSl1 (some ⟨g5, n, none⟩) (some ⟨g5, 0, none⟩) (256 - n) (256 - n) n 256 hd hs g5 n (repR v n) 23 hx (List.replicate n v) (by rw [hl]; simp [Nat.min_def]; omega)
         (fun _ => ⟨rfl, _, rfl, fun j u hu => ?_⟩) (by rw [hl, repR_length v n (by omega)]; omega) (fun u hu => by rw [List.eq_of_mem_replicate hu]; exact hv) g5 w0 hb (Nat.le_refl _) ?_
  · obtain ⟨hj, rfl⟩ := rep_get hu
    have := hx.cell j
    rw [List.getElem?_toArray, repR, List.getElem?_append_left (by simpa using hj), List.getElem?_replicate, if_pos hj] at this
    rw [← this]
    congr 1
    unfold Addr.add
    simp
    exact fun h => h.symm
  · intro w2 hx2 hb2
    rw [hl]
    refine h w2 ?_ hb2
    have := hx2.out
    rwa [repR_splice v n n] at this
theorem rows_l (W : World) (g n : Nat) (hn : n < 256) : (Instr.slice 24 (.slice (some ⟨g, 0, none⟩) 256 256) (some (.int .i64 (n : Int))) none none).run Try.prog W = .ok (.slice (some ⟨g, n, none⟩) (256 - n) (256 - n)) W := by
  rw [run_slice_l W 24 _ _ _ (by kernel_rfl) .i64 _ (by omega) (by omega)]
  have hz : (Go.sizeOf (Try.prog.elem 24)).run Try.prog W = .ok 1 W := by kernel_rfl
  rw [hz]
  have e : ¬ 256 = n := by omega
  simp only [Result.andThen, sliced, Int.toNat_natCast, if_neg e]
  simp [Addr.add]
  exact fun h => h.symm
theorem rows_h (W : World) (g n : Nat) (hn : n < 256) : (Instr.slice 24 (.slice (some ⟨g, 0, none⟩) 256 256) none (some (.int .i64 (n : Int))) none).run Try.prog W = .ok (.slice (some ⟨g, 0, none⟩) n 256) W := by
  rw [run_slice_h W 24 _ _ _ (by kernel_rfl) .i64 _ (by omega) (by omega)]
  have hz : (Go.sizeOf (Try.prog.elem 24)).run Try.prog W = .ok 1 W := by kernel_rfl
  rw [hz]
  simp [Result.andThen, sliced, Addr.add]
/-- The row that Repeat answers. -/
def RepPost (v : Value) (w : World) (e : Ending) (w' : World) : Prop := ∃ g, e = .returned (.slice (some ⟨g, 0, none⟩) 256 256) ∧ w.heap.size ≤ g ∧ Blk w' g 23 (repR v 256).toArray ∧ Below w.heap.size w w'
theorem wpList_copy_one {w w0 : World} {ops : Array Oper} {rest : List Oper} {o : Oper} {a : Act} {Q : Exit → Act → World → Prop} (v : Value) (hv : v.oneCell' = true) (hgd : o.guard = none) (d s : Operand) (ho : o.op = .call { callee := .builtin .copy, args := #[d, s], argTypes := #[24, 24] }) (g g5 : Nat)
    (hd : a.eval d = .slice (some ⟨g5, 0, none⟩) 256 256) (hs : a.eval s = .slice (some ⟨g, 0, none⟩) 1 1) (hx : Blk w g5 23 (repR v 0).toArray) (hN : w.cell? ⟨g, 0, none⟩ = some v) (hb : Below g5 w0 w)
    (h : ∀ w', Blk w' g5 23 (repR v 1).toArray → Below g5 w0 w' → wpList Try.prog ops Q rest (a.put o.dst (.int .i64 1)) w') : wpList Try.prog ops Q (o :: rest) a w := by
  refine wpList_copy_splice hgd d s 24 24 ho 23 Try.underlying24 infoSl1 (some ⟨g5, 0, none⟩) (some ⟨g, 0, none⟩) 256 256 1 1 hd hs g5 0 (repR v 0) 23 hx (List.replicate 1 v) rfl
         (fun _ => ⟨rfl, _, rfl, fun j u hu => ?_⟩) (by rw [repR_length v 0 (by omega)]; simp) (fun u hu => by rw [List.eq_of_mem_replicate hu]; exact hv) g5 w0 hb (Nat.le_refl _) ?_
  · obtain ⟨hj, rfl⟩ := rep_get hu
    obtain rfl : j = 0 := by omega
    exact hN
  · intro w2 hx2 hb2
    refine h w2 ?_ hb2
    have := hx2.out
    rwa [repR_splice v 0 1] at this
set_option maxHeartbeats 4000000 in
theorem dRepeat_any (v : Value) (hv : v.oneCell' = true) (g : Nat) (w : World) (hN : w.cell? ⟨g, 0, none⟩ = some v) :
    Calls Try.prog 44 #[.slice (some ⟨g, 0, none⟩) 1 1, .int .i64 256] w (RepPost v w) := by
  have hmk : ∀ W : World, (Instr.makeSlice 24 (.int .i64 256) (.int .i64 256)).run Try.prog W = .ok (.slice (some ⟨W.heap.size, 0, none⟩) 256 256) (W.alloc (.cells (repR v 0).toArray 23)) := fun W => by
    have e : (repR v 0).toArray = Array.replicate 256 (.slice none 0 0) := by
      unfold repR
      rw [List.replicate_zero, List.nil_append, Nat.sub_zero, List.toArray_replicate]
    rw [e]
    exact make_rows 256 (by omega) W
  have hg := World.block_lt_of_cell? w _ hN
  have b1 : Below w.heap.size w (w.alloc (.cells (repR v 0).toArray 23)) := (Below.refl _ w).alloc (Nat.le_refl _) _
  have x1 := Blk.new w 23 (repR v 0).toArray
  have n1 : (w.alloc (.cells (repR v 0).toArray 23)).cell? ⟨g, 0, none⟩ = some v := (b1.cell (p := ⟨g, 0, none⟩) hg).trans hN
  obtain ⟨g5, hg5⟩ : ∃ g5, w.heap.size = g5 := ⟨_, rfl⟩
  have HX1 := Lib.hid x1; clear x1
  have HN1 := Lib.hid n1; clear n1 hN
  have HB1 := Lib.hid b1; clear b1 hg
  have HG := Lib.hid hg5; clear hg5
  go_enter Try.func44, Try.ntmps44
  go_wp2_with (first
    | (go_at_call 70; refine (dMul _).mono ?_; rintro e w' ⟨rfl, rfl⟩)
    | (with_reducible refine dAtCopy ?_
       refine wpList_copy_one v hv rfl (.tmp 31) (.tmp 32) rfl g w.heap.size rfl rfl HX1.out HN1.out HB1.out ?_
       intro w2 hx2 hb2
       have HX2 := Lib.hid hx2
       have HB2 := Lib.hid hb2
       clear hx2 hb2))
  rw [HG.out] at HX2 HB2 ⊢
  go_loopw [8] (fun i wr => ∃ j n : Nat, j ≤ 8 ∧ n = 2 ^ j ∧ i = .int .i64 n ∧ Blk wr g5 23 (repR v n).toArray ∧ Below g5 w wr) (fun i _ => 256 - (intOf i).toNat)
  case atStart => exact ⟨0, 1, by omega, rfl, rfl, HX2.out, HB2.out⟩
  case round =>
    obtain ⟨j, n, hj, hn, rfl, hx, hb⟩ := hrel
    have HX := Lib.hid hx; clear hx
    have HB := Lib.hid hb; clear hb
    have n0 : (0 : Int) ≤ n := by omega
    by_cases h8 : j < 8
    · have hn128 : n ≤ 128 := by
        have : 2 ^ j ≤ 2 ^ 7 := Nat.pow_le_pow_right (by omega) (by omega)
        omega
      have hpos : 0 < n := by rw [hn]; exact Nat.two_pow_pos j
      have hn2 : n + n = 2 ^ (j + 1) := by rw [Nat.pow_succ, hn]; omega
      have i1 : (n : Int) < 256 := by omega
      have s1 := fun W => rows_l W g5 n (by omega)
      have s2 := fun W => rows_h W g5 n (by omega)
      have HX' := Lib.hid HX.out.drew
      have HB' := Lib.hid HB.out.drew
      have HN2 := Lib.hid hn2
      have hsum : IntKind.i64.wrap ((n : Int) + n) = (n : Int) + n := IntWalk.i64_in _ (by omega)
      have HP := Lib.hid hpos
      clear hn hn2 hpos
      go_wp2_with fail
      go_region_law (refine step_copy_rep v hv rfl (.tmp 41) (.tmp 44) rfl g5 n hn128 (by simp [Act.eval, Act.put]) (by simp [Act.eval, Act.put]) HX'.out HB'.out ?_; intro w4 hx4 hb4; have HX4 := Lib.hid hx4; have HB4 := Lib.hid hb4; clear hx4 hb4)
      refine ⟨⟨.int .i64 ((n : Int) + n), _, _, _, _, _, _, _, _, _, _, _, _, _, ⟨j + 1, n + n, by omega, HN2.out, by go_num, HX4.out, HB4.out⟩, rfl⟩, ?_⟩
      have := HP.out
      show 256 - (intOf (.int .i64 ((n : Int) + n))).toNat < 256 - (intOf (.int .i64 (n : Int))).toNat
      simp [intOf]
      omega
    · obtain rfl : j = 8 := by omega
      subst hn
      go_wp2_with fail
      go_ret
      exact ⟨g5, rfl, by rw [HG.out]; exact Nat.le_refl _, HX.out, by rw [HG.out]; exact HB.out⟩
/-- A disk of noughts. -/
def newD : DkL := (List.replicate 256 (List.replicate 256 0), [])
theorem newD_get {i : Nat} (h : i < 256) : newD.1.getD i [] = List.replicate 256 0 := by
  show (List.replicate 256 (List.replicate 256 (0 : UInt8))).getD i [] = _
  rw [List.getD_eq_getElem?_getD, List.getElem?_replicate, if_pos h]
  rfl
theorem newD_len : newD.1.length = 256 := List.length_replicate ..
theorem newD_may : MayD newD := ⟨⟨newD_len, fun i hi => by rw [newD_get hi]; exact List.length_replicate ..⟩, Nat.zero_le _, fun i hi => absurd hi (Nat.not_lt_zero _)⟩
set_option maxHeartbeats 1000000 in
theorem dNew_any (w : World) : Calls Try.prog 21 #[] w (LaidPost newD w) := by
  have hmk : ∀ W : World, (Instr.makeSlice 23 (.int .i64 256) (.int .i64 256)).run Try.prog W = .ok (.slice (some ⟨W.heap.size, 0, none⟩) 256 256) (W.alloc (.cells (ar (List.replicate 256 0)) 5)) := make_bytes 256 (by omega)
  obtain ⟨B, hB⟩ : ∃ B, w.heap.size = B := ⟨_, rfl⟩
  obtain ⟨Z, hZ⟩ : ∃ Z : List UInt8, List.replicate 256 0 = Z := ⟨_, rfl⟩
  rw [hZ] at hmk
  obtain ⟨w0, hw0⟩ : ∃ w0, ((w.alloc (.cells #[.slice none 0 0, .slice none 0 0] 27)).alloc (.cells (ar Z) 5)).alloc (.cells #[.slice (some ⟨w.heap.size + 1, 0, none⟩) 256 256] 23) = w0 := ⟨_, rfl⟩
  have b0 : Below w.heap.size w w0 := by rw [← hw0]; exact below_alloc3' w _ _ _
  have z0 : w0.heap.size = B + 3 := by rw [← hw0, ← hB]; simp
  have x0 : Blk w0 B 27 #[.slice none 0 0, .slice none 0 0] := by rw [← hw0, ← hB]; exact blk3_0 w _ _ _ _
  have x1 : Blk w0 (B + 1) 5 (ar Z) := by rw [← hw0, ← hB]; exact blk3_1 w _ _ _ _
  have x2 : Blk w0 (B + 2) 23 #[.slice (some ⟨B + 1, 0, none⟩) 256 256] := by rw [← hw0, ← hB]; exact blk3_2 w _ _ _ _
  have hr := dRepeat_any (.slice (some ⟨B + 1, 0, none⟩) 256 256) rfl (B + 2) w0 (x2.cell 0)
  have HR := Lib.hid hr
  have HX0 := Lib.hid x0
  have HX1 := Lib.hid x1
  have HB := Lib.hid b0
  have HZ := Lib.hid z0
  have HBB := Lib.hid hB
  have HZZ := Lib.hid hZ
  rw [hB] at hw0
  clear hr x0 x1 x2 b0 z0 hZ
  go_enter Try.func21, Try.ntmps21
  go_wp2_with fail
  clear hw0
  refine HR.out.mono ?_
  rintro e w1 ⟨g, rfl, hge, hx, b1⟩
  have hz := HZ.out
  have y1 := HX1.out.below b1 HX1.out.lt
  have hzs := HZZ.out
  have hbs : Bsl w1 w1.heap.size (some ⟨B + 1, 0, none⟩) 256 256 Z := by
    refine ⟨by rw [← hzs]; exact List.length_replicate .., Nat.le_refl _, by unfold maxLen; omega, fun e => (by cases e), fun _ => ⟨B + 1, 0, rfl, y1.lt, fun i hi => ?_⟩⟩
    rw [Nat.zero_add, y1.cell, ar_get Z i hi]
  have hbl : Bls w1 w1.heap.size (some ⟨g, 0, none⟩) 256 256 newD.1 := by
    refine ⟨newD_len, Nat.le_refl _, by unfold maxLen; omega, fun _ => ⟨g, 0, rfl, hx.lt, fun i hi => ?_⟩⟩
    have e : newD.1.getD i [] = Z := by rw [newD_get hi]; exact hzs
    have el : Z.length = 256 := by rw [← hzs]; exact List.length_replicate ..
    rw [e, el]
    refine ⟨some ⟨B + 1, 0, none⟩, 256, ?_, hbs⟩
    rw [Nat.zero_add, hx.cell, List.getElem?_toArray, repR, Nat.sub_self, List.replicate_zero, List.append_nil, List.getElem?_replicate, if_pos hi]
  have hla := dLaid_any ⟨some ⟨g, 0, none⟩, 256, none, 0⟩ newD w1 ⟨by rw [newD_len]; exact hbl, wts_nil _ _⟩ (may_fits newD_may)
  simp only [newD_len] at hla
  have e2 : newD.2.length = 0 := rfl
  rw [e2] at hla
  have HLA := Lib.hid hla
  have HXr := Lib.hid (HX0.out.below b1 HX0.out.lt)
  have HB1 := Lib.hid (HB.out.trans (b1.mono HB.out.size))
  have HZ1 := Lib.hid (show B + 3 ≤ w1.heap.size by have := b1.size; omega)
  clear hge hx b1 y1 hzs hbs hbl hla e2 hz HR
  go_wp2_with fail
  refine HLA.out.mono ?_
  rintro e w4 ⟨x4, rfl, h4, b4⟩
  have hz := HZ1.out
  have y4 := HXr.out.below b4 HXr.out.lt
  have d0 := y4.cell 0
  have d1 := y4.cell 1
  have hf := fun i => y4.frozen i
  have hbb := HBB.out
  obtain ⟨ba4, bc4, wa4, wc4⟩ := x4
  have HK := Lib.hid (fun (u v : Value) => laid_far (g := B) (lo' := B) h4 (by omega) (by omega) u v)
  have HBF := Lib.hid (fun (u v : Value) => ((HB1.out.trans (b4.mono (by omega))).setCell (p := ⟨B, 0, none⟩) (Nat.le_of_eq hbb) u).setCell (p := ⟨B, 1, none⟩) (Nat.le_of_eq hbb) v)
  have HXF := Lib.hid (fun (u v : Value) => (y4.set_ 0 u).set_ 1 v)
  clear h4 b4 y4 hz HLA HXr HB1 hbb
  simp only [dval]
  go_wp2_with fail
  have hKD := HK.out (.slice ba4 newD.1.length bc4) (.slice wa4 newD.2.length wc4)
  have hBF := HBF.out (.slice ba4 newD.1.length bc4) (.slice wa4 newD.2.length wc4)
  have hXF := HXF.out (.slice ba4 newD.1.length bc4) (.slice wa4 newD.2.length wc4)
  obtain ⟨wf, hwf⟩ : ∃ wf, ((w4.setCell ⟨B, 0, none⟩ (.slice ba4 newD.1.length bc4)).setCell ⟨B, 1, none⟩ (.slice wa4 newD.2.length wc4)) = wf := ⟨_, rfl⟩
  rw [hwf] at hKD hBF hXF ⊢
  clear hwf d0 d1 hf
  have e0 := hXF.cell 0
  have e1 := hXF.cell 1
  refine bodyPost_ret (v := dval ⟨ba4, bc4, wa4, wc4⟩ newD) (by simp [results, Try.f21, go_sem, e0, e1, dval]) rfl ?_
  exact ⟨⟨ba4, bc4, wa4, wc4⟩, rfl, by rw [HBB.out]; exact hKD, hBF⟩
end Go.Proofs.Ytdpmdlibgabjaaa
/-
  The document's own New for layer 9: a new disk is 256 blocks of noughts.
-/
namespace Go.Proofs.Ytdpmdlibgabjaaa
open Go.RowKit Go.Shelf
set_option maxRecDepth 100000

/-- A disk is answered. -/
def DskPost (D : DkL) (w : World) (e : Ending) (w' : World) : Prop := ∃ x', e = .returned (dval x' D) ∧ DskT w' x' D ∧ Below w.heap.size w w'
theorem TwinPost.dsk {D : DkL} {w w' : World} {e : Ending} (h : TwinPost D w e w') : DskPost D w e w' := by
  obtain ⟨x', h1, h2, h3⟩ := h
  exact ⟨x', h1, h2.dskT, h3⟩
/-- Rows whose first k are blocks of noughts. -/
def NewI (hb : Nat) (Z : List UInt8) (k : Nat) (w : World) : Prop :=
  ∃ cb, Blk w hb 23 cb ∧ cb.size = 256 ∧ ∀ i, i < k → ∃ g, cb[i]? = some (.slice (some ⟨g, 0, none⟩) 256 256) ∧ Blk w g 5 (ar Z)
theorem NewI.next {hb k : Nat} {Z : List UInt8} {w : World} (h : NewI hb Z k w) (hk : k < 256) : NewI hb Z (k + 1) ((w.alloc (.cells (ar Z) 5)).setCell ⟨hb, k, none⟩ (.slice (some ⟨w.heap.size, 0, none⟩) 256 256)) := by
  obtain ⟨cb, h1, h2, h3⟩ := h
  have x1 := h1.alloc (.cells (ar Z) 5)
  have xn := Blk.new w 5 (ar Z)
  have hne : ∀ {g : Nat} {cs : Array Value}, Blk (w.alloc (.cells (ar Z) 5)) g 5 cs → g ≠ hb := fun hg => hg.ne x1 (by decide)
  refine ⟨_, x1.set_ k _, by simpa using h2, fun i hi => ?_⟩
  rw [Array.getElem?_setIfInBounds]
  by_cases e : k = i
  · subst e
    rw [if_pos rfl, if_pos (by omega)]
    exact ⟨_, rfl, xn.far (by simpa using hne xn) _⟩
  · rw [if_neg e]
    obtain ⟨g, h4, h5⟩ := h3 i (by omega)
    have h6 := h5.alloc (.cells (ar Z) 5)
    exact ⟨g, h4, h6.far (by simpa using hne h6) _⟩
theorem NewI.far {hb k g : Nat} {Z : List UInt8} {w : World} {cs : Array Value} (h : NewI hb Z k w) (hg : Blk w g 27 cs) (u v : Value) : NewI hb Z k ((w.setCell ⟨g, 0, none⟩ u).setCell ⟨g, 1, none⟩ v) := by
  obtain ⟨cb, h1, h2, h3⟩ := h
  have hn1 : hb ≠ g := h1.ne hg (by decide)
  refine ⟨cb, (h1.far (p := ⟨g, 0, none⟩) hn1 u).far (p := ⟨g, 1, none⟩) hn1 v, h2, fun i hi => ?_⟩
  obtain ⟨g', h4, h5⟩ := h3 i hi
  have hn2 : g' ≠ g := h5.ne hg (by decide)
  exact ⟨g', h4, (h5.far (p := ⟨g, 0, none⟩) hn2 u).far (p := ⟨g, 1, none⟩) hn2 v⟩
theorem NewI.dsk {hb : Nat} {Z : List UInt8} {w : World} (h : NewI hb Z 256 w) (hZ : List.replicate 256 0 = Z) : Dsk w w.heap.size ⟨some ⟨hb, 0, none⟩, 256, none, 0⟩ newD := by
  obtain ⟨cb, y1, h2, h3⟩ := h
  refine ⟨⟨newD_len, by rw [newD_len]; exact Nat.le_refl _, (show 256 ≤ maxLen by unfold maxLen; omega), fun _ => ⟨hb, 0, rfl, y1.lt, fun i hi => ?_⟩⟩, wts_nil _ _⟩
  rw [newD_len] at hi
  obtain ⟨g, h4, y2⟩ := h3 i hi
  have e : newD.1.getD i [] = Z := by rw [newD_get hi]; exact hZ
  have el : Z.length = 256 := by rw [← hZ]; exact List.length_replicate ..
  rw [e, el]
  refine ⟨some ⟨g, 0, none⟩, 256, ?_, el, Nat.le_refl _, by unfold maxLen; omega, fun e => (by cases e), fun _ => ⟨g, 0, rfl, y2.lt, fun i hi => ?_⟩⟩
  · rw [Nat.zero_add, y1.cell, h4]
  · rw [Nat.zero_add, y2.cell, ar_get Z i hi]
/-- What New answers: rows of noughts of its own. -/
def NewPost9 (w : World) (e : Ending) (w' : World) : Prop := ∃ hb, e = .returned (dval ⟨some ⟨hb, 0, none⟩, 256, none, 0⟩ newD) ∧ NewI hb (List.replicate 256 0) 256 w' ∧ Below w.heap.size w w'
end Go.Proofs.Ytdpmdlibgabjaaa
