/-
  Keys reckoned with plain numbers: a text is a number (its bytes, the lowest first), four words are one number; so that the kernel reckons a thousand keys in seconds.
-/
import Derived.Test.YtoednighmdoooaaVal
namespace Go.Proofs.Ytoednighmdoooaa
set_option maxRecDepth 100000

/-- f of v, v reckoned first. -/
def force (v : Nat) (f : Nat → Nat) : Nat := Nat.rec (f 0) (fun n _ => f (n + 1)) v
theorem force_eq (v : Nat) (f : Nat → Nat) : force v f = f v := by cases v <;> rfl
/-- A word turned to the left. -/
def roN (k x : Nat) : Nat := x <<< k % 4294967296 ||| x >>> (32 - k)
/-- Four words as one number. -/
def pk4 (a b c d : Nat) : Nat := a + 4294967296 * (b + 4294967296 * (c + 4294967296 * d))
def halfN (k m S : Nat) : Nat :=
  force ((S % 4294967296 + S / 4294967296 % 4294967296) % 4294967296) fun a =>
  force (roN k (Nat.xor (S / 79228162514264337593543950336) a)) fun d =>
  force ((S / 18446744073709551616 % 4294967296 + d) % 4294967296) fun c =>
  force (roN m (Nat.xor (S / 4294967296 % 4294967296) c)) fun b => pk4 a b c d
def turnN (S : Nat) : Nat := force (halfN 15 11 S) (halfN 9 6)
def turnsN : Nat → Nat → Nat
  | 0, S => S
  | n + 1, S => force (turnsN n S) turnN
def mixN (S m n : Nat) : Nat := pk4 (Nat.xor (S % 4294967296) m) (S / 4294967296 % 4294967296) (Nat.xor (S / 18446744073709551616 % 4294967296) n) (S / 79228162514264337593543950336)
/-- So many pieces of the text T taken in. -/
def behindN (T : Nat) : Nat → Nat
  | 0 => pk4 1 2 3 4
  | k + 1 => force (behindN T k) fun S => turnsN 4 (mixN S (T / 256 ^ (8 * k) % 4294967296) (T / 256 ^ (8 * k + 4) % 4294967296))
/-- The four words of a text of so many bytes. -/
def fourN (len T : Nat) : Nat :=
  force (behindN (T + 256 ^ len) (len / 8 + 1)) fun S => turnsN 8 (pk4 (S % 4294967296) (Nat.xor (S / 4294967296 % 4294967296) (len % 4294967296)) (S / 18446744073709551616 % 4294967296) (S / 79228162514264337593543950336))
def nextN (l p n v : Nat) : Nat := fourN 19 (v + 256 ^ 16 * (l + 256 * (p + 256 * n)))
def onN (l p n v : Nat) : Nat → Nat
  | 0 => v
  | k + 1 => force (onN l p n v k) (nextN l p (n + k))
def valNN (sd l p n : Nat) : Nat := force (fourN 18 (sd + 256 ^ 16 * (l + 256 * p))) fun v => onN l p 0 v n
def valsNN (sd l : Nat) (ds : List Nat) : Nat → Nat
  | 0 => 0
  | k + 1 => force (valsNN sd l ds k) fun s => s + 256 ^ (16 * k) * valNN sd l k (ds.getD k 0)
def pubNN (l last : Nat) : Nat := fourN 161 (last + 256 ^ 160 * l)
def takenNN (l : Nat) (ds : List Nat) (sig : Nat) : Nat → Nat
  | 0 => 0
  | k + 1 => force (takenNN l ds sig k) fun s => s + 256 ^ (16 * k) * onN l k (ds.getD k 0) (sig / 256 ^ (16 * k) % 256 ^ 16) (15 - ds.getD k 0)

/-- Four words as one number. -/
def pk (x : W4) : Nat := pk4 x.a.toNat x.b.toNat x.c.toNat x.d.toNat
theorem pk_parts (a b c d : Nat) (ha : a < 4294967296) (hb : b < 4294967296) (hc : c < 4294967296) :
    pk4 a b c d % 4294967296 = a ∧ pk4 a b c d / 4294967296 % 4294967296 = b ∧ pk4 a b c d / 18446744073709551616 % 4294967296 = c ∧ pk4 a b c d / 79228162514264337593543950336 = d := by
  unfold pk4
  refine ⟨by omega, by omega, by omega, by omega⟩
theorem pk_a (x : W4) : pk x % 4294967296 = x.a.toNat := (pk_parts _ _ _ _ x.a.isLt x.b.isLt x.c.isLt).1
theorem pk_b (x : W4) : pk x / 4294967296 % 4294967296 = x.b.toNat := (pk_parts _ _ _ _ x.a.isLt x.b.isLt x.c.isLt).2.1
theorem pk_c (x : W4) : pk x / 18446744073709551616 % 4294967296 = x.c.toNat := (pk_parts _ _ _ _ x.a.isLt x.b.isLt x.c.isLt).2.2.1
theorem pk_d (x : W4) : pk x / 79228162514264337593543950336 = x.d.toNat := (pk_parts _ _ _ _ x.a.isLt x.b.isLt x.c.isLt).2.2.2
theorem roN_ro (k : Nat) (h : k < 32) (x : BitVec 32) : roN k x.toNat = (ro k x).toNat := by
  unfold roN ro
  rw [BitVec.rotateLeft_def, BitVec.toNat_or, BitVec.toNat_shiftLeft, BitVec.toNat_ushiftRight, Nat.mod_eq_of_lt h]
theorem xo_toNat (x y : BitVec 32) : (xo x y).toNat = Nat.xor x.toNat y.toNat := BitVec.toNat_xor x y
theorem pl_toNat (x y : BitVec 32) : (pl x y).toNat = (x.toNat + y.toNat) % 4294967296 := BitVec.toNat_add x y
theorem halfN_pk (k m : Nat) (hk : k < 32) (hm : m < 32) (x : W4) : halfN k m (pk x) = pk (halfT k m x) := by
  unfold halfN
  simp only [force_eq, pk_a, pk_b, pk_c, pk_d]
  rw [← pl_toNat, ← xo_toNat, roN_ro k hk, ← pl_toNat, ← xo_toNat, roN_ro m hm]
  rfl
theorem turnN_pk (x : W4) : turnN (pk x) = pk (turnW x) := by
  rw [turnN, force_eq, halfN_pk 15 11 (by omega) (by omega), halfN_pk 9 6 (by omega) (by omega)]
  rfl
theorem turnsN_pk (x : W4) : ∀ n, turnsN n (pk x) = pk (turnsW n x)
  | 0 => rfl
  | n + 1 => by rw [turnsN, force_eq, turnsN_pk x n, turnN_pk]; rfl
theorem mixN_pk (x : W4) (m n : BitVec 32) : turnsN 4 (mixN (pk x) m.toNat n.toNat) = pk (stepW x m n) := by
  unfold mixN
  rw [pk_a, pk_b, pk_c, pk_d, ← xo_toNat, ← xo_toNat]
  exact turnsN_pk ⟨xo x.a m, x.b, xo x.c n, x.d⟩ 4
theorem byteP_num : ∀ (s : List UInt8) (i : Nat), (byteP s i).toNat = (leN s + 256 ^ s.length) / 256 ^ i % 256
  | [], 0 => rfl
  | [], i + 1 => by
    have h1 : byteP [] (i + 1) = 0 := rfl
    have h2 : (1 : Nat) / 256 ^ (i + 1) = 0 := Nat.div_eq_of_lt (Nat.one_lt_pow (by omega) (by omega))
    rw [h1]
    show 0 = (0 + 1) / 256 ^ (i + 1) % 256
    rw [Nat.zero_add, h2]
  | x :: r, 0 => by
    have h1 : byteP (x :: r) 0 = x := rfl
    have h2 := x.toNat_lt
    rw [h1, Nat.pow_zero, Nat.div_one, leN, List.length_cons, Nat.pow_succ]
    omega
  | x :: r, i + 1 => by
    have ih := byteP_num r i
    have h1 : byteP (x :: r) (i + 1) = byteP r i := by
      unfold byteP
      simp only [List.length_cons, List.getElem_cons_succ, Nat.add_lt_add_iff_right, Nat.add_right_cancel_iff]
    have h2 := x.toNat_lt
    rw [h1, ih, Nat.pow_succ, Nat.mul_comm (256 ^ i) 256, ← Nat.div_div_eq_div_mul, leN, List.length_cons, Nat.pow_succ]
    congr 2
    omega
theorem wordP_num (s : List UInt8) (i : Nat) : (wordP s i).toNat = (leN s + 256 ^ s.length) / 256 ^ i % 4294967296 := by
  rw [wordP_toNat, quadP, leN4, byteP_num, byteP_num, byteP_num, byteP_num]
  generalize leN s + 256 ^ s.length = N
  rw [Nat.pow_add 256 i 1, Nat.pow_add 256 i 2, Nat.pow_add 256 i 3, ← Nat.div_div_eq_div_mul, ← Nat.div_div_eq_div_mul, ← Nat.div_div_eq_div_mul]
  generalize N / 256 ^ i = Q
  omega
theorem behindN_pk (s : List UInt8) : ∀ k, behindN (leN s + 256 ^ s.length) k = pk (behind s k)
  | 0 => rfl
  | k + 1 => by rw [behindN, force_eq, behindN_pk s k, ← wordP_num, ← wordP_num, mixN_pk]; rfl
theorem fourN_pk (s : List UInt8) : fourN s.length (leN s) = pk (fourW s) := by
  rw [fourN, force_eq, behindN_pk]
  generalize hx : behind s (s.length / 8 + 1) = x
  have h1 : s.length % 4294967296 = (BitVec.ofNat 32 s.length).toNat := by rw [BitVec.toNat_ofNat]
  rw [pk_a, pk_b, pk_c, pk_d, h1, ← xo_toNat]
  have := turnsN_pk ⟨x.a, xo x.b (BitVec.ofNat 32 s.length), x.c, x.d⟩ 8
  rw [show fourW s = turnsW 8 ⟨x.a, xo x.b (BitVec.ofNat 32 s.length), x.c, x.d⟩ by rw [fourW, hx]]
  exact this
theorem leN_append : ∀ (s t : List UInt8), leN (s ++ t) = leN s + 256 ^ s.length * leN t
  | [], t => by simp [leN]
  | x :: r, t => by
    rw [List.cons_append, leN, leN, leN_append r t, List.length_cons, Nat.pow_succ]
    rw [Nat.mul_add, ← Nat.mul_assoc, Nat.mul_comm (256 ^ r.length) 256]
    omega
theorem leN_keyL (s : List UInt8) : leN (keyL s) = pk (fourW s) := by
  generalize hx : fourW s = x
  have e : keyL s = leB 4 x.a.toNat ++ (leB 4 x.b.toNat ++ (leB 4 x.c.toNat ++ leB 4 x.d.toNat)) := by
    rw [keyL, hx]
    show (((([] ++ leB 4 (nthW x 0).toNat) ++ leB 4 (nthW x 1).toNat) ++ leB 4 (nthW x 2).toNat) ++ leB 4 (nthW x 3).toNat) = _
    rw [List.nil_append, List.append_assoc, List.append_assoc]
    rfl
  rw [e, leN_append, leN_append, leN_append, leB_length, leB_length, leB_length, leN_leB 4 _ x.a.isLt, leN_leB 4 _ x.b.isLt, leN_leB 4 _ x.c.isLt, leN_leB 4 _ x.d.isLt]
  rfl
theorem key_num (s : List UInt8) (n : Nat) (h : s.length = n) : leN (keyL s) = fourN n (leN s) := by
  subst h
  rw [leN_keyL, fourN_pk]
theorem leN_one (x : Nat) (h : x < 256) : leN [UInt8.ofNat x] = x := by
  rw [leN, leN]
  have : (UInt8.ofNat x).toNat = x := by simp; omega
  omega
theorem leN_u8s2 (x y : Nat) (hx : x < 256) (hy : y < 256) : leN [UInt8.ofNat x, UInt8.ofNat y] = x + 256 * y := by
  have h : (UInt8.ofNat x).toNat = x := by simp; omega
  rw [leN, leN_one y hy, h]
theorem leN_u8s3 (x y z : Nat) (hx : x < 256) (hy : y < 256) (hz : z < 256) : leN [UInt8.ofNat x, UInt8.ofNat y, UInt8.ofNat z] = x + 256 * (y + 256 * z) := by
  have h : (UInt8.ofNat x).toNat = x := by simp; omega
  rw [leN, leN_u8s2 y z hy hz, h]
theorem on_num (l p n : Nat) (hl : l < 8) (hp : p < 10) (v : List UInt8) (hv : v.length = 16) : ∀ k, n + k ≤ 15 → leN (onL l p n v k) = onN l p n (leN v) k
  | 0, _ => rfl
  | k + 1, h => by
    have hk := onL_length l p n v hv k
    rw [onL, onN, force_eq, ← on_num l p n hl hp v hv k (by omega), nextN, key_num _ 19 (by rw [List.length_append, hk]; rfl), leN_append, hk, leN_u8s3 l p (n + k) (by omega) (by omega) (by omega)]
theorem val_num (sd : List UInt8) (l p n : Nat) (hs : sd.length = 16) (hl : l < 8) (hp : p < 10) (hn : n ≤ 15) : leN (valL sd l p n) = valNN (leN sd) l p n := by
  rw [valL, valNN, force_eq, on_num l p 0 hl hp _ (keyL_length _) n (by omega), key_num _ 18 (by rw [List.length_append, hs]; rfl), leN_append, hs, leN_u8s2 l p (by omega) (by omega)]
theorem vals_num (sd : List UInt8) (l : Nat) (ds : List Nat) (hs : sd.length = 16) (hl : l < 8) (hd : ∀ k, k < 10 → ds.getD k 0 ≤ 15) : ∀ k, k ≤ 10 → leN (valsL sd l ds k) = valsNN (leN sd) l ds k
  | 0, _ => rfl
  | k + 1, h => by
    rw [valsL, valsNN, force_eq, leN_append, valsL_length, vals_num sd l ds hs hl hd k (by omega), val_num sd l k _ hs hl (by omega) (hd k (by omega))]
theorem pub_num (l : Nat) (last : List UInt8) (hl : l < 8) (h : last.length = 160) : leN (pubL l last) = pubNN l (leN last) := by
  rw [pubL, pubNN, key_num _ 161 (by rw [List.length_append, h]; rfl), leN_append, h, leN_one l (by omega)]
theorem leN_drop : ∀ (s : List UInt8) (k : Nat), leN (s.drop k) = leN s / 256 ^ k
  | s, 0 => by simp
  | [], k + 1 => by simp [leN]
  | x :: r, k + 1 => by
    have h := x.toNat_lt
    rw [List.drop_succ_cons, leN_drop r k, leN, Nat.pow_succ, Nat.mul_comm (256 ^ k) 256, ← Nat.div_div_eq_div_mul]
    congr 1
    omega
theorem leN_take : ∀ (s : List UInt8) (k : Nat), leN (s.take k) = leN s % 256 ^ k
  | s, 0 => by simp [leN, Nat.mod_one]
  | [], k + 1 => by simp [leN]
  | x :: r, k + 1 => by
    have h := x.toNat_lt
    rw [List.take_succ_cons, leN, leN_take r k, leN, Nat.pow_succ, Nat.mul_comm (256 ^ k) 256, Nat.mod_mul]
    have e1 : (x.toNat + 256 * leN r) % 256 = x.toNat := by omega
    have e2 : (x.toNat + 256 * leN r) / 256 = leN r := by omega
    rw [e1, e2]
theorem taken_num (l : Nat) (ds : List Nat) (sig : List UInt8) (hl : l < 8) (hs : sig.length = 160) (hd : ∀ k, k < 10 → ds.getD k 0 ≤ 15) : ∀ k, k ≤ 10 → leN (takenL l ds sig k) = takenNN l ds (leN sig) k
  | 0, _ => rfl
  | k + 1, h => by
    have hk := hd k (by omega)
    rw [takenL, takenNN, force_eq, leN_append, takenL_length l ds sig k (by omega), taken_num l ds sig hl hs hd k (by omega), on_num l k _ hl (by omega) _ (by simp; omega) _ (by omega), leN_take, leN_drop]
end Go.Proofs.Ytoednighmdoooaa
