/-
  Keys of package wrap, arrays of sixteen bytes: loads and stores of them whole; a passphrase stretched, a mask, a wrapped key, as plain lists of bytes.
-/
import Derived.Test.YtmlmgnifgcbehaaWrapA
import Derived.Laws.Cover3
namespace Go.Proofs.Ytmlmgnifgcbehaa
open Go.RowKit Go.Shelf
set_option maxRecDepth 100000

/-- Sixteen noughts. -/
def zs : List UInt8 := List.replicate 16 0
theorem zs_length : zs.length = 16 := rfl
theorem zeroA (w : World) : (zeroValue 41).run Try.prog w = .ok (.agg (ar zs)) w := by kernel_rfl
theorem infoA : (Try.prog.info? 41).map (·.size) = some 16 := by kernel_rfl
theorem arrayAtA (a : Option Addr) (c : Nat) (w : World) : (Instr.arrayAt 41 (.slice a 16 c)).run Try.prog w = .ok (.pointer a) w :=
  run_arrayAt w 41 5 16 a 16 c Try.underlying41 (Nat.le_refl _)
theorem sliceAtA (g : Nat) (w : World) : (Instr.sliceAt 41 (.pointer (some ⟨g, 0, none⟩)) none none none).run Try.prog w = .ok (.slice (some ⟨g, 0, none⟩) 16 16) w := by kernel_rfl

section
variable {P : Program} {ops : Array Oper} {Q : Exit → Act → World → Prop} {a : Act} {w : World} {rest : List Oper}
/-- The next operation is a load; a store. -/
theorem at_load {d : Option Tmp} {t ty : TypeId} {x : Operand} {pos : String} {af : Array Edge} (h : wpList P ops Q (⟨d, .load t x, ty, pos, af, none⟩ :: rest) a w) : wpList P ops Q (⟨d, .load t x, ty, pos, af, none⟩ :: rest) a w := h
theorem at_store {d : Option Tmp} {t ty : TypeId} {x y : Operand} {pos : String} {af : Array Edge} (h : wpList P ops Q (⟨d, .store t x y, ty, pos, af, none⟩ :: rest) a w) : wpList P ops Q (⟨d, .store t x y, ty, pos, af, none⟩ :: rest) a w := h
end
section
variable {ops : Array Oper} {Q : Exit → Act → World → Prop} {a : Act} {w : World} {rest : List Oper} {o : Oper}
theorem wpList_load_bsl (hgd : o.guard = none) (x : Operand) (ho : o.op = .load 41 x) (g off cap B : Nat) (s : List UInt8) (hx : a.eval x = .pointer (some ⟨g, off, none⟩)) (hb : Bsl w B (some ⟨g, off, none⟩) 16 cap s)
    (h : wpList Try.prog ops Q rest (a.put o.dst (.agg (ar s))) w) : wpList Try.prog ops Q (o :: rest) a w :=
  wpList_load_mid hgd 41 x ho g off hx (vals s) _ (hb.range (by omega)) Try.underlying41 rfl (by rw [infoA]; simp [vals, hb.1]) h
theorem wpList_load_ar (hgd : o.guard = none) (x : Operand) (ho : o.op = .load 41 x) (g : Nat) (s : List UInt8) (hx : a.eval x = .pointer (some ⟨g, 0, none⟩)) (hb : Blk w g 41 (ar s)) (hs : s.length = 16)
    (h : wpList Try.prog ops Q rest (a.put o.dst (.agg (ar s))) w) : wpList Try.prog ops Q (o :: rest) a w :=
  wpList_load_row hgd 41 x ho g hx 41 (ar s) (0, 0) _ hb Try.underlying41 rfl (by rw [infoA, ar_size, hs]) h
theorem wpList_store_ar (hgd : o.guard = none) (x y : Operand) (ho : o.op = .store 41 x y) (g : Nat) (s old : List UInt8) (hx : a.eval x = .pointer (some ⟨g, 0, none⟩)) (hy : a.eval y = .agg (ar s)) (hs : s.length = 16) (hb : Blk w g 41 (ar old)) (hold : old.length = 16)
    (h : ∀ w', Blk w' g 41 (ar s) → w.grownBy w' (some g) → wpList Try.prog ops Q rest (a.put o.dst undef) w') : wpList Try.prog ops Q (o :: rest) a w :=
  wpList_store_row hgd 41 x y ho g (ar s) hx hy 41 (ar old) hb (by rw [infoA, ar_size, hs]) (by rw [ar_size, ar_size, hs, hold]) (ar_one s)
    (h _ hb.setRow ⟨rfl, rfl, rfl, by simp, fun k _ hk => setRow_other w g k _ (fun e => hk (by rw [e]))⟩)
end
theorem resultA {fn : Func} {p : Tmp} (h : fn.results = #[.cell p 41]) (tmps : Array Value) (w : World) (g : Nat) (s : List UInt8) (hp : tmps.getD p undef = .pointer (some ⟨g, 0, none⟩)) (hb : Blk w g 41 (ar s)) (hs : s.length = 16) :
    (results fn tmps).run Try.prog w = .ok (.agg (ar s)) w :=
  results_cell_row h tmps w g 41 (ar s) (0, 0) _ hp hb Try.underlying41 rfl (by rw [infoA, ar_size, hs])
theorem wrapU8 (k : Nat) (h : k < 256) : IntKind.u8.wrap (k : Int) = k := by simp [IntKind.wrap, IntKind.bits, IntKind.signed]; omega

/-- The key of bytes; a passphrase stretched, n rounds behind the first; the mask; exclusive or, byte by byte. -/
def keyL (s : List UInt8) : List UInt8 := bytesW (fourW s) 4
theorem keyL_length (s : List UInt8) : (keyL s).length = 16 := bytesW_length _ _
def stretchN (p s : List UInt8) : Nat → List UInt8
  | 0 => keyL (p ++ s)
  | n + 1 => keyL (stretchN p s n ++ ([UInt8.ofNat n] ++ p))
theorem stretchN_length (p s : List UInt8) : ∀ n, (stretchN p s n).length = 16
  | 0 => keyL_length _
  | _ + 1 => keyL_length _
def maskL (st : List UInt8) : List UInt8 := keyL (st ++ [1])
theorem maskL_length (st : List UInt8) : (maskL st).length = 16 := keyL_length _
def xorL (k m : List UInt8) : List UInt8 := List.zipWith (· ^^^ ·) k m
theorem xorL_length (k m : List UInt8) (hk : k.length = 16) (hm : m.length = 16) : (xorL k m).length = 16 := by simp [xorL, hk, hm]
theorem xorL_xorL : ∀ (k m : List UInt8), k.length = m.length → xorL (xorL k m) m = k
  | [], [], _ => rfl
  | x :: k, y :: m, h => by
    have ih := xorL_xorL k m (by simpa using h)
    simp only [xorL, List.zipWith_cons_cons] at ih ⊢
    rw [ih, UInt8.xor_assoc, UInt8.xor_self, UInt8.xor_zero]
theorem xorL_inj {k l m : List UInt8} (hk : k.length = m.length) (hl : l.length = m.length) (h : xorL k m = xorL l m) : k = l := by rw [← xorL_xorL k m hk, h, xorL_xorL l m hl]
/-- What stands ahead of the tag; a wrapped key; the key in it. -/
def aheadL (st key salt : List UInt8) : List UInt8 := salt ++ xorL key (maskL st)
def tagL (st ahead : List UInt8) : List UInt8 := leB 4 (tagW st ahead).toNat
theorem tagL_length (st ahead : List UInt8) : (tagL st ahead).length = 4 := leB_length _ _
def wrapL (p key salt : List UInt8) : List UInt8 := aheadL (stretchN p salt 32) key salt ++ tagL (stretchN p salt 32) (aheadL (stretchN p salt 32) key salt)
def stOf (p w : List UInt8) : List UInt8 := stretchN p (w.take 4) 32
def keyOf (p w : List UInt8) : List UInt8 := xorL ((w.drop 4).take 16) (maskL (stOf p w))
/-- Its tag is right. -/
def Right (p w : List UInt8) : Prop := w.drop 20 = tagL (stOf p w) (w.take 20)
theorem aheadL_length (st key salt : List UInt8) (hk : key.length = 16) (hs : salt.length = 4) : (aheadL st key salt).length = 20 := by
  unfold aheadL
  rw [List.length_append, xorL_length _ _ hk (maskL_length _), hs]
theorem wrapL_length (p key salt : List UInt8) (hk : key.length = 16) (hs : salt.length = 4) : (wrapL p key salt).length = 24 := by
  unfold wrapL
  rw [List.length_append, aheadL_length _ _ _ hk hs, tagL_length]
/-- What is wrapped is unwrapped. -/
theorem wrapL_take4 (p key salt : List UInt8) (hs : salt.length = 4) : (wrapL p key salt).take 4 = salt := by
  unfold wrapL aheadL
  rw [List.append_assoc, List.take_append_of_le_length (by omega), List.take_of_length_le (by omega)]
theorem wrapL_take20 (p key salt : List UInt8) (hk : key.length = 16) (hs : salt.length = 4) : (wrapL p key salt).take 20 = aheadL (stretchN p salt 32) key salt := by
  have := aheadL_length (stretchN p salt 32) key salt hk hs
  unfold wrapL
  rw [List.take_append_of_le_length (by omega), List.take_of_length_le (by omega)]
theorem wrapL_right (p key salt : List UInt8) (hk : key.length = 16) (hs : salt.length = 4) : Right p (wrapL p key salt) := by
  have hl := aheadL_length (stretchN p salt 32) key salt hk hs
  unfold Right stOf
  rw [wrapL_take4 p key salt hs, wrapL_take20 p key salt hk hs]
  unfold wrapL
  rw [← hl, List.drop_left]
theorem keyOf_wrapL (p key salt : List UInt8) (hk : key.length = 16) (hs : salt.length = 4) : keyOf p (wrapL p key salt) = key := by
  unfold keyOf stOf
  rw [wrapL_take4 p key salt hs]
  have h16 := xorL_length key (maskL (stretchN p salt 32)) hk (maskL_length _)
  have : ((wrapL p key salt).drop 4).take 16 = xorL key (maskL (stretchN p salt 32)) := by
    unfold wrapL
    have : (aheadL (stretchN p salt 32) key salt ++ tagL (stretchN p salt 32) (aheadL (stretchN p salt 32) key salt)).drop 4 = xorL key (maskL (stretchN p salt 32)) ++ tagL (stretchN p salt 32) (aheadL (stretchN p salt 32) key salt) := by
      conv => lhs; rw [show aheadL (stretchN p salt 32) key salt = salt ++ xorL key (maskL (stretchN p salt 32)) from rfl]
      rw [List.append_assoc, ← hs, List.drop_left]
      rfl
    rw [this, List.take_append_of_le_length (by omega), List.take_of_length_le (by omega)]
  rw [this, xorL_xorL _ _ (by rw [hk, maskL_length])]
/-- What is unwrapped is wrapped as just these bytes. -/
theorem wrapL_keyOf (p w : List UInt8) (hw : w.length = 24) (h : Right p w) : wrapL p (keyOf p w) (w.take 4) = w := by
  have hm : ((w.drop 4).take 16).length = (maskL (stOf p w)).length := by rw [maskL_length]; simp; omega
  have ha : aheadL (stretchN p (w.take 4) 32) (keyOf p w) (w.take 4) = w.take 20 := by
    unfold aheadL keyOf
    rw [show stretchN p (w.take 4) 32 = stOf p w from rfl, xorL_xorL _ _ hm]
    rw [show (20 : Nat) = 4 + 16 from rfl, List.take_add]
  unfold wrapL
  rw [ha]
  have h' : w.drop 20 = tagL (stretchN p (w.take 4) 32) (w.take 20) := h
  rw [← h', List.take_append_drop]
theorem keyOf_length (p w : List UInt8) (hw : w.length = 24) : (keyOf p w).length = 16 := xorL_length _ _ (by simp; omega) (maskL_length _)
end Go.Proofs.Ytmlmgnifgcbehaa
