/-
  Plain mathematics of layer 8: nodes of a tree of public keys, the node above two, the way up from a leaf; the same by plain numbers. Nothing of the program.
-/
import Derived.Test.YtoednighmdoooaaReck
namespace Go.Proofs.Ytoednighmdoooaa
set_option maxRecDepth 100000

/-- The node above two of height h. -/
def upL (h : Nat) (x y : List UInt8) : List UInt8 := keyL (UInt8.ofNat (128 + h) :: (x ++ y))
theorem upL_length (h : Nat) (x y : List UInt8) : (upL h x y).length = 16 := keyL_length _
/-- A leaf's public key; the node of height h at place p. -/
def leafL (sd : List UInt8) (l : Nat) : List UInt8 := pubL l (valsL sd l lasts 10)
def nodeL (sd : List UInt8) : Nat → Nat → List UInt8
  | 0, p => leafL sd p
  | h + 1, p => upL h (nodeL sd h (2 * p)) (nodeL sd h (2 * p + 1))
theorem nodeL_length (sd : List UInt8) : ∀ h p, (nodeL sd h p).length = 16
  | 0, _ => pubL_length _ _
  | _ + 1, _ => upL_length _ _ _
/-- The place beside one. -/
def sib (a : Nat) : Nat := if a % 2 = 1 then a - 1 else a + 1
/-- What comes of a node of height 0 at place l, taken up with the nodes b. -/
def climbL (l : Nat) (b : Nat → List UInt8) (x : List UInt8) : Nat → List UInt8
  | 0 => x
  | h + 1 => if l / 2 ^ h % 2 = 0 then upL h (climbL l b x h) (b h) else upL h (b h) (climbL l b x h)
theorem climbL_length (l : Nat) (b : Nat → List UInt8) (x : List UInt8) (hx : x.length = 16) : ∀ h, (climbL l b x h).length = 16
  | 0 => hx
  | h + 1 => by rw [climbL]; split <;> exact upL_length _ _ _
theorem climb_node (sd : List UInt8) (l : Nat) : ∀ h, climbL l (fun h => nodeL sd h (sib (l / 2 ^ h))) (nodeL sd 0 l) h = nodeL sd h (l / 2 ^ h)
  | 0 => by simp [climbL]
  | h + 1 => by
    rw [climbL, climb_node sd l h, Nat.pow_succ, ← Nat.div_div_eq_div_mul]
    generalize l / 2 ^ h = a
    by_cases ha : a % 2 = 0
    · rw [if_pos ha, nodeL, sib, if_neg (by omega), show 2 * (a / 2) = a by omega]
    · rw [if_neg ha, nodeL, sib, if_pos (by omega), show 2 * (a / 2) + 1 = a by omega, show a - 1 = 2 * (a / 2) by omega]
/-- A signature: the leaf, the text signed, the nodes beside its way up. -/
def sigL (sd : List UInt8) (l x : Nat) : List UInt8 := UInt8.ofNat l :: (valsL sd l (digL x) 10 ++ (nodeL sd 0 (sib l) ++ (nodeL sd 1 (sib (l / 2)) ++ nodeL sd 2 (sib (l / 4)))))
theorem sigL_length (sd : List UInt8) (l x : Nat) : (sigL sd l x).length = 209 := by
  rw [sigL, List.length_cons, List.length_append, List.length_append, List.length_append, valsL_length, nodeL_length, nodeL_length, nodeL_length]

/-- The same by numbers. -/
def upN (h x y : Nat) : Nat := fourN 33 (128 + h + 256 * (x + 256 ^ 16 * y))
theorem up_num (h : Nat) (x y : List UInt8) (hh : h < 3) (hx : x.length = 16) (hy : y.length = 16) : leN (upL h x y) = upN h (leN x) (leN y) := by
  have e : (UInt8.ofNat (128 + h)).toNat = 128 + h := by simp; omega
  rw [upL, upN, key_num _ 33 (by rw [List.length_cons, List.length_append, hx, hy]), leN, leN_append, hx, e]
def leafN (sd l : Nat) : Nat := pubNN l (valsNN sd l lasts 10)
theorem leaf_num (sd : List UInt8) (l : Nat) (hs : sd.length = 16) (hl : l < 8) : leN (leafL sd l) = leafN (leN sd) l := by
  rw [leafL, leafN, pub_num l _ hl (valsL_length _ _ _ _), vals_num sd l lasts hs hl (fun k h => lasts_le k h) 10 (Nat.le_refl _)]
def nodeN (sd : Nat) : Nat → Nat → Nat
  | 0, p => leafN sd p
  | h + 1, p => upN h (nodeN sd h (2 * p)) (nodeN sd h (2 * p + 1))
theorem node_num (sd : List UInt8) (hs : sd.length = 16) : ∀ h p, h ≤ 3 → p * 2 ^ h + 2 ^ h ≤ 8 → leN (nodeL sd h p) = nodeN (leN sd) h p
  | 0, p, _, hp => leaf_num sd p hs (by simp at hp; omega)
  | h + 1, p, hh, hp => by
    rw [Nat.pow_succ] at hp
    have h2 : 2 * p * 2 ^ h + 2 ^ h ≤ 8 := by
      have : p * (2 ^ h * 2) = 2 * p * 2 ^ h := by rw [Nat.mul_comm (2 ^ h) 2, ← Nat.mul_assoc, Nat.mul_comm p 2]
      omega
    have h3 : (2 * p + 1) * 2 ^ h + 2 ^ h ≤ 8 := by
      have : p * (2 ^ h * 2) = 2 * p * 2 ^ h := by rw [Nat.mul_comm (2 ^ h) 2, ← Nat.mul_assoc, Nat.mul_comm p 2]
      rw [Nat.add_mul]
      omega
    rw [nodeL, nodeN, up_num h _ _ (by omega) (nodeL_length _ _ _) (nodeL_length _ _ _), node_num sd hs h _ (by omega) h2, node_num sd hs h _ (by omega) h3]
end Go.Proofs.Ytoednighmdoooaa
