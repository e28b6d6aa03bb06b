/-
  Values of package chain, arrays of sixteen bytes: loads and stores of them whole; digits of numbers, values of places, public keys, as plain lists.
-/
import Derived.Test.YtoednighmdoooaaNums
import Derived.Laws.Cover3
import Derived.Deep.MidRow
namespace Go.Proofs.Ytoednighmdoooaa
open Go.RowKit Go.Shelf
set_option maxRecDepth 100000

theorem ar_one (s : List UInt8) : (ar s).all (·.oneCell') = true := by
  refine Array.all_eq_true_iff_forall_mem.2 fun v hv => ?_
  simp only [ar, vals, List.mem_toArray, List.mem_map] at hv
  obtain ⟨x, _, rfl⟩ := hv
  rfl
theorem Blk.bsl {w : World} {g t n : Nat} {s : List UInt8} (h : Blk w g t (ar s)) (hs : s.length = n) (hn : n ≤ 1000) : Bsl w w.heap.size (some ⟨g, 0, none⟩) n n s :=
  bsl_of_holds hs (Nat.le_refl _) (by unfold maxLen; omega) h.lt fun i hi => by rw [h.cell i, ar_get s i hi]
theorem Bsl.range {w : World} {B g off len cap : Nat} {s : List UInt8} (h : Bsl w B (some ⟨g, off, none⟩) len cap s) (h0 : 0 < len) : w.rangeAt g off (vals s) := fun j v hv => by
  obtain ⟨hj, rfl⟩ := vals_get hv
  obtain ⟨b, o, e, _, hc⟩ := h.2.2.2.2 h0
  cases e
  exact hc j hj
theorem Blk.setRow {w : World} {g t : Nat} {old cs : Array Value} (h : Blk w g t old) : Blk (w.setRow g cs) g t cs := setRow_heap w g old cs t (0, 0) h

/-- Sixteen noughts. -/
def zs : List UInt8 := List.replicate 16 0
theorem zs_length : zs.length = 16 := rfl
theorem zeroV (w : World) : (zeroValue 72).run Try.prog w = .ok (.agg (ar zs)) w := by kernel_rfl
theorem infoV : (Try.prog.info? 72).map (·.size) = some 16 := by kernel_rfl
theorem arrayAtV (a : Option Addr) (c : Nat) (w : World) : (Instr.arrayAt 72 (.slice a 16 c)).run Try.prog w = .ok (.pointer a) w :=
  run_arrayAt w 72 5 16 a 16 c Try.underlying72 (Nat.le_refl _)
theorem sliceAtV (g : Nat) (w : World) : (Instr.sliceAt 72 (.pointer (some ⟨g, 0, none⟩)) none none none).run Try.prog w = .ok (.slice (some ⟨g, 0, none⟩) 16 16) w := by kernel_rfl
section
variable {P : Program} {ops : Array Oper} {Q : Exit → Act → World → Prop} {a : Act} {w : World} {rest : List Oper}
/-- The next operation is a load; a store. -/
theorem at_load {d : Option Tmp} {t ty : TypeId} {x : Operand} {pos : String} {af : Array Edge} (h : wpList P ops Q (⟨d, .load t x, ty, pos, af, none⟩ :: rest) a w) : wpList P ops Q (⟨d, .load t x, ty, pos, af, none⟩ :: rest) a w := h
theorem at_store {d : Option Tmp} {t ty : TypeId} {x y : Operand} {pos : String} {af : Array Edge} (h : wpList P ops Q (⟨d, .store t x y, ty, pos, af, none⟩ :: rest) a w) : wpList P ops Q (⟨d, .store t x y, ty, pos, af, none⟩ :: rest) a w := h
end
section
variable {ops : Array Oper} {Q : Exit → Act → World → Prop} {a : Act} {w : World} {rest : List Oper} {o : Oper}
theorem wpList_load_bsl (hgd : o.guard = none) (x : Operand) (ho : o.op = .load 72 x) (g off cap B : Nat) (s : List UInt8) (hx : a.eval x = .pointer (some ⟨g, off, none⟩)) (hb : Bsl w B (some ⟨g, off, none⟩) 16 cap s)
    (h : wpList Try.prog ops Q rest (a.put o.dst (.agg (ar s))) w) : wpList Try.prog ops Q (o :: rest) a w :=
  wpList_load_mid hgd 72 x ho g off hx (vals s) _ (hb.range (by omega)) Try.underlying72 rfl (by rw [infoV]; simp [vals, hb.1]) h
theorem wpList_load_ar (hgd : o.guard = none) (x : Operand) (ho : o.op = .load 72 x) (g : Nat) (s : List UInt8) (hx : a.eval x = .pointer (some ⟨g, 0, none⟩)) (hb : Blk w g 72 (ar s)) (hs : s.length = 16)
    (h : wpList Try.prog ops Q rest (a.put o.dst (.agg (ar s))) w) : wpList Try.prog ops Q (o :: rest) a w :=
  wpList_load_row hgd 72 x ho g hx 72 (ar s) (0, 0) _ hb Try.underlying72 rfl (by rw [infoV, ar_size, hs]) h
theorem wpList_store_ar (hgd : o.guard = none) (x y : Operand) (ho : o.op = .store 72 x y) (g : Nat) (s old : List UInt8) (hx : a.eval x = .pointer (some ⟨g, 0, none⟩)) (hy : a.eval y = .agg (ar s)) (hs : s.length = 16) (hb : Blk w g 72 (ar old)) (hold : old.length = 16)
    (h : ∀ w', Blk w' g 72 (ar s) → w.grownBy w' (some g) → wpList Try.prog ops Q rest (a.put o.dst undef) w') : wpList Try.prog ops Q (o :: rest) a w :=
  wpList_store_row hgd 72 x y ho g (ar s) hx hy 72 (ar old) hb (by rw [infoV, ar_size, hs]) (by rw [ar_size, ar_size, hs, hold]) (ar_one s)
    (h _ hb.setRow ⟨rfl, rfl, rfl, by simp, fun k _ hk => setRow_other w g k _ (fun e => hk (by rw [e]))⟩)
end
theorem resultV {fn : Func} {p : Tmp} (h : fn.results = #[.cell p 72]) (tmps : Array Value) (w : World) (g : Nat) (s : List UInt8) (hp : tmps.getD p undef = .pointer (some ⟨g, 0, none⟩)) (hb : Blk w g 72 (ar s)) (hs : s.length = 16) :
    (results fn tmps).run Try.prog w = .ok (.agg (ar s)) w :=
  results_cell_row h tmps w g 72 (ar s) (0, 0) _ hp hb Try.underlying72 rfl (by rw [infoV, ar_size, hs])

theorem wrapU8 (k : Nat) (h : k < 256) : IntKind.u8.wrap (k : Int) = k := by simp [IntKind.wrap, IntKind.bits, IntKind.signed]; omega
/-- Numbers as bytes. -/
def u8s (ns : List Nat) : List UInt8 := ns.map UInt8.ofNat
theorem u8s_take (ns : List Nat) (k : Nat) (h : k < ns.length) : u8s (ns.take (k + 1)) = u8s (ns.take k) ++ [UInt8.ofNat (ns.getD k 0)] := by
  rw [List.take_succ_eq_append_getElem h, u8s, u8s, List.map_append, List.getD_eq_getElem?_getD, List.getElem?_eq_getElem h]
  rfl

/-- The key of bytes. -/
def keyL (s : List UInt8) : List UInt8 := bytesW (fourW s) 4
theorem keyL_length (s : List UInt8) : (keyL s).length = 16 := bytesW_length _ _
/-- The n lowest digits to 16, the lowest first. -/
def lowD (x : Nat) : Nat → List Nat
  | 0 => []
  | n + 1 => lowD x n ++ [x / 16 ^ n % 16]
theorem lowD_length (x : Nat) : ∀ n, (lowD x n).length = n
  | 0 => rfl
  | n + 1 => by rw [lowD, List.length_append, lowD_length x n]; rfl
theorem lowD_get (x : Nat) : ∀ n i, i < n → (lowD x n).getD i 0 = x / 16 ^ i % 16
  | n + 1, i, h => by
    have hl := lowD_length x n
    rcases Nat.lt_or_ge i n with hi | hi
    · rw [lowD, List.getD_eq_getElem?_getD, List.getElem?_append_left (by omega), ← List.getD_eq_getElem?_getD, lowD_get x n i hi]
    · obtain rfl : i = n := by omega
      rw [lowD, List.getD_eq_getElem?_getD, List.getElem?_append_right (by omega), hl]
      simp
/-- What the first n digits lack of 15 each; their sum. -/
def lackN (l : List Nat) : Nat → Nat
  | 0 => 0
  | n + 1 => lackN l n + (15 - l.getD n 0)
theorem lackN_le (l : List Nat) : ∀ n, lackN l n ≤ 15 * n
  | 0 => Nat.le_refl _
  | n + 1 => by have := lackN_le l n; rw [lackN]; omega
/-- The digits of a sum. -/
def digL (x : Nat) : List Nat := lowD x 8 ++ lowD (lackN (lowD x 8) 8) 2
theorem digL_length (x : Nat) : (digL x).length = 10 := by rw [digL, List.length_append, lowD_length, lowD_length]
theorem digL_lo (x i : Nat) (h : i < 8) : (digL x).getD i 0 = x / 16 ^ i % 16 := by
  rw [digL, List.getD_eq_getElem?_getD, List.getElem?_append_left (by rw [lowD_length]; exact h), ← List.getD_eq_getElem?_getD, lowD_get _ _ _ h]
theorem digL_hi (x i : Nat) (h : i < 2) : (digL x).getD (8 + i) 0 = lackN (lowD x 8) 8 / 16 ^ i % 16 := by
  rw [digL, List.getD_eq_getElem?_getD, List.getElem?_append_right (by rw [lowD_length]; omega), lowD_length, Nat.add_sub_cancel_left, ← List.getD_eq_getElem?_getD, lowD_get _ _ _ h]
theorem digL_le (x i : Nat) (h : i < 10) : (digL x).getD i 0 ≤ 15 := by
  rcases Nat.lt_or_ge i 8 with hi | hi
  · rw [digL_lo x i hi]; omega
  · obtain ⟨j, rfl⟩ := Nat.exists_eq_add_of_le hi
    rw [digL_hi x j (by omega)]; omega

/-- So many steps on from v, which is the value n of a leaf's place. -/
def onL (l p n : Nat) (v : List UInt8) : Nat → List UInt8
  | 0 => v
  | k + 1 => keyL (onL l p n v k ++ [UInt8.ofNat l, UInt8.ofNat p, UInt8.ofNat (n + k)])
theorem onL_length (l p n : Nat) (v : List UInt8) (hv : v.length = 16) : ∀ k, (onL l p n v k).length = 16
  | 0 => hv
  | _ + 1 => keyL_length _
theorem onL_on (l p n : Nat) (v : List UInt8) (j : Nat) : ∀ k, onL l p (n + j) (onL l p n v j) k = onL l p n v (j + k)
  | 0 => rfl
  | k + 1 => by
    rw [onL, onL_on l p n v j k, Nat.add_assoc n j k]
    rfl
/-- The value n of a leaf's place; the values that numbers tell, place by place; the public key of last values; what comes of a signature's values, each taken on. -/
def valL (sd : List UInt8) (l p n : Nat) : List UInt8 := onL l p 0 (keyL (sd ++ [UInt8.ofNat l, UInt8.ofNat p])) n
theorem valL_length (sd : List UInt8) (l p n : Nat) : (valL sd l p n).length = 16 := onL_length _ _ _ _ (keyL_length _) _
def valsL (sd : List UInt8) (l : Nat) (ds : List Nat) : Nat → List UInt8
  | 0 => []
  | k + 1 => valsL sd l ds k ++ valL sd l k (ds.getD k 0)
theorem valsL_length (sd : List UInt8) (l : Nat) (ds : List Nat) : ∀ k, (valsL sd l ds k).length = 16 * k
  | 0 => rfl
  | k + 1 => by rw [valsL, List.length_append, valsL_length sd l ds k, valL_length]; omega
def pubL (l : Nat) (last : List UInt8) : List UInt8 := keyL (last ++ [UInt8.ofNat l])
theorem pubL_length (l : Nat) (last : List UInt8) : (pubL l last).length = 16 := keyL_length _
def takenL (l : Nat) (ds : List Nat) (sig : List UInt8) : Nat → List UInt8
  | 0 => []
  | k + 1 => takenL l ds sig k ++ onL l k (ds.getD k 0) ((sig.drop (16 * k)).take 16) (15 - ds.getD k 0)
theorem takenL_length (l : Nat) (ds : List Nat) (sig : List UInt8) : ∀ k, 16 * k ≤ sig.length → (takenL l ds sig k).length = 16 * k
  | 0, _ => rfl
  | k + 1, h => by
    rw [takenL, List.length_append, takenL_length l ds sig k (by omega), onL_length _ _ _ _ (by simp; omega)]
    omega
/-- The numbers of all last values. -/
def lasts : List Nat := List.replicate 10 15
theorem lasts_get (k : Nat) (h : k < 10) : lasts.getD k 0 = 15 := by
  rw [lasts, List.getD_eq_getElem?_getD, List.getElem?_replicate, if_pos h]
  rfl
/-- What is signed, of which the values are taken on, are the last values. -/
theorem valsL_win (sd : List UInt8) (l : Nat) (ds : List Nat) (k : Nat) : ∀ m, k < m → ((valsL sd l ds m).drop (16 * k)).take 16 = valL sd l k (ds.getD k 0)
  | m + 1, h => by
    have hl := valsL_length sd l ds m
    have hv := valL_length sd l k (ds.getD k 0)
    rcases Nat.lt_or_ge k m with hk | hk
    · rw [valsL, List.drop_append_of_le_length (by omega), List.take_append_of_le_length (by simp; omega), valsL_win sd l ds k m hk]
    · obtain rfl : k = m := by omega
      rw [valsL, ← hl, List.drop_left, List.take_of_length_le (by omega)]
theorem takenL_valsL (sd : List UInt8) (l : Nat) (ds : List Nat) (hd : ∀ k, k < 10 → ds.getD k 0 ≤ 15) : ∀ k, k ≤ 10 → takenL l ds (valsL sd l ds 10) k = valsL sd l lasts k
  | 0, _ => rfl
  | k + 1, h => by
    have hk := hd k (by omega)
    have e : onL l k (ds.getD k 0) (valL sd l k (ds.getD k 0)) (15 - ds.getD k 0) = valL sd l k 15 := by
      have := onL_on l k 0 (keyL (sd ++ [UInt8.ofNat l, UInt8.ofNat k])) (ds.getD k 0) (15 - ds.getD k 0)
      rw [Nat.zero_add, show ds.getD k 0 + (15 - ds.getD k 0) = 15 by omega] at this
      exact this
    rw [takenL, takenL_valsL sd l ds hd k (by omega), valsL_win sd l ds k 10 (by omega), e, valsL, lasts_get k (by omega)]
/-- What is recovered of what was signed is the public key. -/
theorem rec_sign (sd : List UInt8) (l x : Nat) : pubL l (takenL l (digL x) (valsL sd l (digL x) 10) 10) = pubL l (valsL sd l lasts 10) := by
  rw [takenL_valsL sd l (digL x) (fun k h => digL_le x k h) 10 (Nat.le_refl _)]
theorem lasts_le (k : Nat) (h : k < 10) : lasts.getD k 0 ≤ 15 := Nat.le_of_eq (lasts_get k h)
/-- What Public, Sign and Recover answer: a list, and an error's number. -/
def pubO (sd : List UInt8) (l : Int) : List UInt8 × Int := if sd.length = 16 ∧ 0 ≤ l ∧ l ≤ 7 then (pubL l.toNat (valsL sd l.toNat lasts 10), 0) else ([], 2)
def signO (sd : List UInt8) (l : Int) (x : Nat) : List UInt8 × Int := if sd.length = 16 ∧ 0 ≤ l ∧ l ≤ 7 then (valsL sd l.toNat (digL x) 10, 0) else ([], 2)
def recO (l : Int) (x : Nat) (sig : List UInt8) : List UInt8 × Int := if 0 ≤ l ∧ l ≤ 7 then (if sig.length = 160 then (pubL l.toNat (takenL l.toNat (digL x) sig 10), 0) else ([], 8)) else ([], 2)
theorem pubO_ok (sd : List UInt8) (l : Nat) (hl : l < 8) (hs : sd.length = 16) : pubO sd l = (pubL l (valsL sd l lasts 10), 0) := by
  rw [pubO, if_pos ⟨hs, by omega, by omega⟩]; rfl
theorem signO_ok (sd : List UInt8) (l : Nat) (x : Nat) (hl : l < 8) (hs : sd.length = 16) : signO sd l x = (valsL sd l (digL x) 10, 0) := by
  rw [signO, if_pos ⟨hs, by omega, by omega⟩]; rfl
theorem recO_ok (l : Nat) (x : Nat) (sig : List UInt8) (hl : l < 8) (hs : sig.length = 160) : recO l x sig = (pubL l (takenL l (digL x) sig 10), 0) := by
  rw [recO, if_pos ⟨by omega, by omega⟩, if_pos hs]; rfl
theorem pubO_no (sd : List UInt8) (l : Int) (h : ¬ (sd.length = 16 ∧ 0 ≤ l ∧ l ≤ 7)) : pubO sd l = ([], 2) := if_neg h
theorem signO_no (sd : List UInt8) (l : Int) (x : Nat) (h : ¬ (sd.length = 16 ∧ 0 ≤ l ∧ l ≤ 7)) : signO sd l x = ([], 2) := if_neg h
/-- Such an answer: as bytes that may be read; as a list of the call's own. -/
def ToldB (o : List UInt8 × Int) (w : World) (en : Ending) (w' : World) : Prop :=
  ∃ a cap, en = .returned (.tuple #[.slice a o.1.length cap, .int .i64 o.2]) ∧ Bsl w' w'.heap.size a o.1.length cap o.1 ∧ Below w.heap.size w w'
def ToldO (o : List UInt8 × Int) (w : World) (en : Ending) (w' : World) : Prop :=
  ∃ a cap, en = .returned (.tuple #[.slice a o.1.length cap, .int .i64 o.2]) ∧ w'.ownsRow w.heap.size 5 1 (.slice a o.1.length cap) o.1.length (vals o.1) ∧ Below w.heap.size w w'
theorem toldB_none (w w' : World) (e : Int) (hb : Below w.heap.size w w') : ToldB ([], e) w (.returned (.tuple #[.slice none 0 0, .int .i64 e])) w' := ⟨none, 0, rfl, bsl_nil _, hb⟩
theorem toldO_none (w w' : World) (e : Int) (hb : Below w.heap.size w w') : ToldO ([], e) w (.returned (.tuple #[.slice none 0 0, .int .i64 e])) w' := ⟨none, 0, rfl, own_nil _ _, hb⟩
theorem own_slice {w : World} {B n : Nat} {v : Value} {xs : List Value} (h : w.ownsRow B 5 1 v n xs) : ∃ a cap, v = .slice a n cap := by
  rcases h.2 with ⟨rfl, h0⟩ | ⟨g, cap, cur, rfl, _⟩
  · exact ⟨none, 0, by rw [h0]⟩
  · exact ⟨_, _, rfl⟩
theorem own_bsl {w : World} {B n cap : Nat} {a : Option Addr} {s : List UInt8} (h : w.ownsRow B 5 1 (.slice a n cap) n (vals s)) : Bsl w w.heap.size a n cap s := by
  have hl : s.length = n := by have := h.1; simpa [vals] using this
  obtain ⟨h1, ⟨h2, h3⟩ | ⟨g, cap', cur, h2, hb, hh, hnc, hcm, hsz, ht⟩⟩ := h
  · cases h2
    exact ⟨hl, Nat.le_refl _, Nat.zero_le _, fun _ => rfl, fun h => absurd h (by omega)⟩
  · cases h2
    refine ⟨hl, hnc, hcm, fun e => (by cases e), fun _ => ⟨g, 0, rfl, (Array.getElem?_eq_some_iff.1 hh).1, fun i hi => ?_⟩⟩
    rw [Nat.zero_add, cell_of_row w g i cur 5 (0, 0) hh]
    have : (vals s)[i]? = some (.int .u8 ((s[i]).toNat : Int)) := by simp [vals, hi]
    rw [← ht, List.getElem?_take_of_lt (by omega)] at this
    rw [← this, Array.getElem?_toList]
theorem ToldO.toB {o : List UInt8 × Int} {w w' : World} {en : Ending} (h : ToldO o w en w') : ToldB o w en w' := by
  obtain ⟨a, cap, he, ho, hb⟩ := h
  exact ⟨a, cap, he, own_bsl ho, hb⟩
end Go.Proofs.Ytoednighmdoooaa
