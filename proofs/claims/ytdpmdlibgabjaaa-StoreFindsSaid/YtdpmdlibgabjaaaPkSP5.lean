/-
  Texts of one seat, one behind the other.
-/
import Derived.Test.YtdpmdlibgabjaaaPkSP4
/-
  In a region that draws its order: an append to a slice of one's own, at its own place in the order.
-/
namespace Go.Proofs.Ytdpmdlibgabjaaa
open Go.RowKit Go.Shelf
set_option maxRecDepth 100000

theorem add_mid (b off j : Nat) : (⟨b, off, none⟩ : Addr).add j = ⟨b, off + j, none⟩ := by unfold Addr.add; split <;> simp_all
section
variable {ops : List Oper} {Q : Exit → Act → World → Prop} {md : Region.Mode} {i : Nat} {σ : List Nat} {o : Oper} {listed : Array Bool} {a : Act} {w : World}
/-- An append to a slice of one's own, at its own place in the order. -/
theorem wpS_append (hi : nthOp ops i = some o) (hr : Region.ready md ops.toArray listed = [i]) (hl : lastB md ops.toArray i = true) (hgd : o.guard = none) (x y : Operand)
    (ho : o.op = .call { callee := .builtin .append, args := #[x, y], argTypes := #[23, 23] })
    (base : Nat) (v : Value) (n : Nat) (xs : List UInt8) (hx : a.eval x = v) (hown : w.ownsRow base 5 1 v n (vals xs)) (B : Nat) (A : Option Addr) (m c : Nat) (news : List UInt8) (hy : a.eval y = .slice A m c) (hb : Bsl w B A m c news) (hm : 0 < m)
    (hnm : n + m ≤ 100000) (hbase : base ≤ w.heap.size)
    (h : ∀ v' w', w'.ownsRow base 5 1 v' (n + m) (vals (xs ++ news)) → w.grownBy w' v.ownBlock → wpS Try.prog md ops Q σ (listed.setIfInBounds i true) (a.put o.dst v') w') : wpS Try.prog md ops Q (i :: σ) listed a w :=
  wpS_last hi hr hl fun K hK => by
    rw [if_pos (by simp [Region.wanted, hgd])]
    obtain ⟨i0, hi0, hz0, hz1, hz2⟩ := info_parts infoU8
    obtain ⟨h1, h2, h3, h4, h5⟩ := hb
    obtain ⟨b, off, rfl, _, hc⟩ := h5 hm
    refine wp_append_own w x y 23 ho base 5 i0 (.int .u8 0) 1 1 Try.underlying23 hi0 hz0 hz1 hz2 rfl (by decide) v n (vals xs) hx hown ⟨b, off, none⟩ m c (vals news) hy (by simp [vals, h1]) (fun j u hu => ?_) (fun u hu => ?_) (by unfold maxLen; omega) (by omega) hbase fun v' w' h6 h7 _ => hK _ _ (h v' w' (by rw [← vals_append]; exact h6) h7)
    · obtain ⟨hj, rfl⟩ := vals_get hu
      rw [add_mid]
      exact hc j hj
    · obtain ⟨y, _, rfl⟩ := List.mem_map.1 hu
      rfl
end
end Go.Proofs.Ytdpmdlibgabjaaa
/-
  What the document's own Room, Number and Bytes answer: powers of 256, the number of at most four bytes, the bytes of a number.
-/
namespace Go.Proofs.Ytdpmdlibgabjaaa
open Go.RowKit Go.Shelf
set_option maxRecDepth 100000

theorem leN_snoc : ∀ (l : List UInt8) (x : UInt8), leN (l ++ [x]) = leN l + x.toNat * 256 ^ l.length
  | [], x => by simp [leN]
  | y :: r, x => by
    simp only [List.cons_append, leN, leN_snoc r x, List.length_cons, Nat.pow_succ, Nat.mul_add]
    rw [Nat.mul_comm (256 ^ r.length) 256, Nat.mul_left_comm]
    omega
/-- What the loop of Bytes keeps: the row g, its first j bytes written. -/
def BytesI (g n k j : Nat) (w wr : World) : Prop :=
  (∀ t, t < k → wr.cell? ⟨g, t, none⟩ = some (.int .u8 ((if t < j then byteAt n t else 0 : UInt8).toNat : Int)) ∧ wr.frozen? ⟨g, t, none⟩ = false) ∧ Below g w wr ∧ g < wr.heap.size ∧ ∃ cur, Blk wr g 5 cur ∧ cur.size = k
theorem bytesI_step {g n k j : Nat} {w wr : World} {x : Int} (h : BytesI g n k j w wr) (hj : j < k) (hx : x = ((byteAt n j).toNat : Nat)) : BytesI g n k (j + 1) w (wr.setCell ⟨g, j, none⟩ (.int .u8 x)) := by
  obtain ⟨hc, hb, hs, cur, hcur, hsz⟩ := h
  subst hx
  refine ⟨fun t ht => ⟨?_, (World.frozen?_setCell _ _ _ _).trans (hc t ht).2⟩, hb.setCell (p := ⟨g, j, none⟩) (Nat.le_refl _) _, by simpa using hs, _, hcur.set_ j _, by simpa using hsz⟩
  by_cases e : t = j
  · subst e
    rw [if_pos (by omega)]
    exact World.cell?_setCell_same' wr _ _ (by rw [(hc t ht).1]; rfl)
  · have e1 : (t < j + 1) ↔ t < j := by omega
    simp only [e1]
    exact (World.cell?_setCell_other wr _ _ _ (by simp; first | done | exact fun h => e h.symm)).trans (hc t ht).1

end Go.Proofs.Ytdpmdlibgabjaaa
/-
  What the document's own Bytes, Stream, Turned and Turn of layer 5 answer: the stream, the bytes turned by it, the errors.
-/
namespace Go.Proofs.Ytdpmdlibgabjaaa
open Go.RowKit Go.Shelf
set_option maxRecDepth 100000

/-- A list that reads as s. -/
def Lst (n : Nat) (s : List UInt8) (w : World) (e : Ending) (w' : World) : Prop :=
  ∃ a cap, e = .returned (.slice a n cap) ∧ Bsl w' w'.heap.size a n cap s ∧ Below w.heap.size w w'

/-- A list that reads as s, and an error's number. -/
def Out' (c : Int) (n : Nat) (s : List UInt8) (w : World) (e : Ending) (w' : World) : Prop :=
  ∃ a cap, e = .returned (.tuple #[.slice a n cap, .int .i64 c]) ∧ Bsl w' w'.heap.size a n cap s ∧ Below w.heap.size w w'
theorem out'_err (c : Int) (w : World) : Out' c 0 [] w (.returned (.tuple #[.slice none 0 0, .int .i64 c])) w := ⟨none, 0, rfl, bsl_nil w, Below.refl _ _⟩
theorem Out.out' {c : Int} {n : Nat} {s : List UInt8} {w w' : World} {e : Ending} (h : Out c n s w e w') : Out' c n s w e w' :=
  let ⟨a, cap, he, ho, hb⟩ := h; ⟨a, cap, he, own_bsl ho, hb⟩

end Go.Proofs.Ytdpmdlibgabjaaa
/-
  What the document's own Tag answers is what mac.Tag answers.
-/
namespace Go.Proofs.Ytdpmdlibgabjaaa
open Go.RowKit Go.Shelf
set_option maxRecDepth 100000

end Go.Proofs.Ytdpmdlibgabjaaa
/-
  What the document's own Seal and Open answer: the bytes sealed and their tag, the bytes opened, the errors.
-/
namespace Go.Proofs.Ytdpmdlibgabjaaa
open Go.RowKit Go.Shelf
set_option maxRecDepth 100000

/-- A list that reads as s, a number of 32 bits, and an error's number. -/
def OutT' (c : Int) (t : BitVec 32) (n : Nat) (s : List UInt8) (w : World) (e : Ending) (w' : World) : Prop :=
  ∃ a cap, e = .returned (.tuple #[.slice a n cap, .int .u32 (t.toNat : Int), .int .i64 c]) ∧ Bsl w' w'.heap.size a n cap s ∧ Below w.heap.size w w'
theorem OutT.outT' {c : Int} {t : BitVec 32} {n : Nat} {s : List UInt8} {w w' : World} {e : Ending} (h : OutT c t n s w e w') : OutT' c t n s w e w' :=
  let ⟨a, cap, he, ho, hb⟩ := h; ⟨a, cap, he, own_bsl ho, hb⟩

end Go.Proofs.Ytdpmdlibgabjaaa
/-
  The document's own Raw, Lay, Sealed and Seal of layer 13.
-/
namespace Go.Proofs.Ytdpmdlibgabjaaa
open Go.RowKit Go.Shelf
set_option maxRecDepth 100000

theorem outSP_no (L c : Nat) {w w' : World} (hb : Below w.heap.size w w') : OutSP L (st0, p0, c) w (.returned (.tuple #[.agg #[.slice none 0 0, .slice none 0 0, .slice none 0 0, .int .u32 0, .int .u32 0], .agg #[.int .i64 0, .int .u32 0, .int .u32 0, .int .u32 0, .int .u32 0], .int .i64 c])) w' := ⟨at0, rfl, st0_lasts L w', hb⟩
end Go.Proofs.Ytdpmdlibgabjaaa
/-
  The document's own Lay, Sealed and Seal of layer 13.
-/
namespace Go.Proofs.Ytdpmdlibgabjaaa
open Go.RowKit Go.Shelf
set_option maxRecDepth 100000

end Go.Proofs.Ytdpmdlibgabjaaa
/-
  ptr.put: the bytes of a pointer whose numbers have room, in a row of the call's own.
-/
namespace Go.Proofs.Ytdpmdlibgabjaaa
open Go.RowKit Go.Shelf
set_option maxRecDepth 100000

/-- make([]byte, 0, 16). -/
theorem make_room (n : Nat) (hn : n ≤ 1000000) (W : World) : (Instr.makeSlice 23 (.int .i64 0) (.int .i64 (n : Int))).run Try.prog W = .ok (.slice (some ⟨W.heap.size, 0, none⟩) 0 n) (W.alloc (.cells (Array.replicate n (.int .u8 0)) 5)) := by
  obtain ⟨i0, hi, hz0, hz1, hz2⟩ := info_parts infoU8
  have hr := run_make (P := Try.prog) W 23 5 i0 (.int .u8 0) Try.underlying23 hi hz0 .i64 .i64 0 n (by omega) (by omega) (by rw [hz2]; omega) (by omega)
  rw [hz1] at hr
  simp only [Int.toNat_natCast] at hr
  have e : madeCells (Value.int .u8 0).cells (n * 1) = Array.replicate n (Value.int .u8 0) := by
    apply Array.ext
    · simp [size_madeCells]
    · intro i h1 h2
      simp [madeCells, Value.cells, Nat.mod_one]
  rw [e] at hr
  exact hr
theorem own_room0 (w : World) (n : Nat) (hn : n ≤ 1000000) : (w.alloc (.cells (Array.replicate n (.int .u8 0)) 5)).ownsRow w.heap.size 5 1 (.slice (some ⟨w.heap.size, 0, none⟩) 0 n) 0 (vals []) :=
  ⟨rfl, .inr ⟨w.heap.size, n, _, rfl, Nat.le_refl _, heap_alloc_new w _, Nat.zero_le _, by unfold maxLen; omega, by simp, rfl⟩⟩
/-- The bytes of the first numbers. -/
def putTo (p : Pt) : Nat → List UInt8
  | 0 => []
  | 1 => leB 1 p.1.toNat
  | 2 => leB 1 p.1.toNat ++ leB 3 p.2.1
  | 3 => leB 1 p.1.toNat ++ leB 3 p.2.1 ++ leB 4 p.2.2.1
  | 4 => leB 1 p.1.toNat ++ leB 3 p.2.1 ++ leB 4 p.2.2.1 ++ leB 4 p.2.2.2.1
  | _ => bytesP p
/-- How many bytes the first numbers have. -/
def stP : Nat → Nat
  | 0 => 0
  | 1 => 1
  | 2 => 4
  | 3 => 8
  | 4 => 12
  | _ => 16
end Go.Proofs.Ytdpmdlibgabjaaa
/-
  ptr.get: the pointer whose sixteen bytes these are.
-/
namespace Go.Proofs.Ytdpmdlibgabjaaa
open Go.RowKit Go.Shelf
set_option maxRecDepth 100000

/-- The numbers that are there yet. -/
def numTo (n0 n1 n2 n3 n4 : Nat) : Nat → Array Value
  | 0 => #[.int .i64 0, .int .i64 0, .int .i64 0, .int .i64 0, .int .i64 0]
  | 1 => #[.int .i64 (n0 : Int), .int .i64 0, .int .i64 0, .int .i64 0, .int .i64 0]
  | 2 => #[.int .i64 (n0 : Int), .int .i64 (n1 : Int), .int .i64 0, .int .i64 0, .int .i64 0]
  | 3 => #[.int .i64 (n0 : Int), .int .i64 (n1 : Int), .int .i64 (n2 : Int), .int .i64 0, .int .i64 0]
  | 4 => #[.int .i64 (n0 : Int), .int .i64 (n1 : Int), .int .i64 (n2 : Int), .int .i64 (n3 : Int), .int .i64 0]
  | _ => #[.int .i64 (n0 : Int), .int .i64 (n1 : Int), .int .i64 (n2 : Int), .int .i64 (n3 : Int), .int .i64 (n4 : Int)]
/-- Where the next one stands. -/
def atP : Nat → Nat
  | 0 => 0
  | 1 => 1
  | 2 => 4
  | 3 => 8
  | 4 => 12
  | _ => 16
end Go.Proofs.Ytdpmdlibgabjaaa
/-
  ptr.Check, ptr.Write and ptr.Read, whatever they are handed; nothing that was there is written.
-/
namespace Go.Proofs.Ytdpmdlibgabjaaa
open Go.RowKit Go.Shelf
set_option maxRecDepth 100000

/-- A list of the call's own, and an error's number. -/
def OutB (S : List UInt8) (c : Int) (w : World) (e : Ending) (w' : World) : Prop := ∃ v, e = .returned (.tuple #[v, .int .i64 c]) ∧ w'.ownsRow w.heap.size 5 1 v S.length (vals S) ∧ Below w.heap.size w w'
theorem outB_no {w w' : World} {c : Int} {e : Ending} (he : e = .returned (.tuple #[.slice none 0 0, .int .i64 c])) (hb : Below w.heap.size w w') : OutB [] c w e w' := ⟨_, he, own_nil _ _, hb⟩
/-- A pointer, and an error's number. -/
def OutP (p : Pt) (c : Int) (w : World) (e : Ending) (w' : World) : Prop := e = .returned (.tuple #[ptV p, .int .i64 c]) ∧ Below w.heap.size w w'
/-- What Write answers. -/
def pwriteO (p : Pt) : List UInt8 × Int := if MayP p then (bytesP p, 0) else ([], 8)
/-- What Read answers. -/
def preadO (s : List UInt8) : Pt × Int := if s.length = 16 then (if MayP (getP s) then (getP s, 0) else (p0, 8)) else (p0, 3)

end Go.Proofs.Ytdpmdlibgabjaaa
/-
  The document's own May, Check, Number and Get of pointers; nothing that was there is written.
-/
namespace Go.Proofs.Ytdpmdlibgabjaaa
open Go.RowKit Go.Shelf
set_option maxRecDepth 100000

theorem leN_drop_cons (s : List UInt8) (i : Nat) (hi : i < s.length) : leN (s.drop i) = s[i].toNat + 256 * leN (s.drop (i + 1)) := by
  rw [List.drop_eq_getElem_cons hi, leN]
end Go.Proofs.Ytdpmdlibgabjaaa
/-
  The document's own Seen, Look, Opened and Open of layer 13.
-/
namespace Go.Proofs.Ytdpmdlibgabjaaa
open Go.RowKit Go.Shelf
set_option maxRecDepth 100000

/-- The cells of a pointer. -/
abbrev ptA (p : Pt) : Array Value := #[.int .i64 p.1, .int .u32 (p.2.1 : Int), .int .u32 (p.2.2.1 : Int), .int .u32 (p.2.2.2.1 : Int), .int .u32 (p.2.2.2.2 : Int)]
theorem outBE_no (c : Nat) {w w' : World} (hb : Below w.heap.size w w') : OutBE ([], c) w (.returned (.tuple #[.slice none 0 0, .int .i64 c])) w' := ⟨_, rfl, World.ownsRow_nil _ _ _ _, hb⟩
/-- Bytes that are read, and an error's number. -/
def OutBE' (o : List UInt8 × Nat) (w : World) (e : Ending) (w' : World) : Prop := ∃ a c, e = .returned (.tuple #[.slice a o.1.length c, .int .i64 o.2]) ∧ Bsl w' w'.heap.size a o.1.length c o.1 ∧ Below w.heap.size w w'
theorem outBE'_no (c : Nat) {w w' : World} (hb : Below w.heap.size w w') : OutBE' ([], c) w (.returned (.tuple #[.slice none 0 0, .int .i64 c])) w' := ⟨none, 0, rfl, bsl_nil w', hb⟩
theorem seenO_len {S : StL} {p : Pt} (hm : MayS S) (hp : MayP p) {B : List UInt8} (h : seenO S p = (B, 0)) : B.length = 256 := by
  unfold seenO at h
  split at h
  · cases h
  · rename_i hp0
    obtain ⟨k, h1, _, h2⟩ := mayP_at hp hp0
    split at h
    · cases h
      rw [show p.1.toNat = k by omega]
      exact leftD_length hm.1 _ h2
    · cases h
end Go.Proofs.Ytdpmdlibgabjaaa
/-
  Store's own: wrong, wrongToSeal, wrongPtr, with; nothing that was there is written.
-/
namespace Go.Proofs.Ytdpmdlibgabjaaa
open Go.RowKit Go.Shelf
set_option maxRecDepth 100000

/-- What is wrong with a store, a birth and a text's length. -/
noncomputable def wrongO (S : StL) (birth n : Nat) : Nat := open Classical in if MayS S then if 1 ≤ birth ∧ birth ≤ 16777215 then if n = 256 then 0 else 3 else 2 else 8
/-- What is wrong with a key's length, or a store's count. -/
def wrongKO (S : StL) (n : Nat) : Nat := if n = 16 then if S.2.2.2 = 65535 then 132 else 0 else 3
/-- What is wrong with a store or a pointer. -/
noncomputable def wrongPO (S : StL) (p : Pt) : Nat := open Classical in if MayS S ∧ MayP p then if p = p0 then 6 else 0 else 8
set_option maxHeartbeats 1000000 in
theorem stWrong_any (L : Nat) (x : SAt) (S : StL) (birth : Nat) (a : Option Addr) (n c : Nat) (w : World) (h : StP L w x S) (z : Nat) (hz : wrongO S birth n = z) : Calls Try.prog 19 #[stV x S, .int .u32 (birth : Int), .slice a n c] w fun e w' => e = .returned (.int .i64 (z : Int)) ∧ Below w.heap.size w w' := by
  obtain ⟨xb, b0⟩ := st_box w x S
  obtain ⟨w0, hw0⟩ : ∃ w0, w.alloc (.cells (stC x S) 30) = w0 := ⟨_, rfl⟩
  rw [hw0] at xb b0
  have c0 := stC0 xb
  have c1 := stC1 xb
  have c2 := stC2 xb
  have c3 := stC3 xb
  have c4 := stC4 xb
  have HB := Lib.hid b0
  have HMY := fun R hR => stMayBe_any L x S w0 (h.bel b0) R hR
  simp only [stC] at hw0
  clear h xb b0
  unfold wrongO at hz
  by_cases hm : MayS S
  · rw [if_pos hm] at hz
    have HM := Lib.hid (HMY true ⟨fun _ => hm, fun _ => rfl⟩)
    clear HMY hm
    by_cases hb : 1 ≤ birth ∧ birth ≤ 16777215
    · rw [if_pos hb] at hz
      have HU := Lib.hid (fun W => stUpTo_any birth 16777215 true ⟨fun _ => ⟨hb.1, by omega⟩, fun _ => rfl⟩ W)
      clear hb
      by_cases hn : n = 256
      · rw [if_pos hn] at hz
        have e1 : ((n : Int) != 256) = false := by simp; omega
        subst hz
        clear hn
        go_enter Try.func19, Try.ntmps19
        go_wp2_with fail
        refine HM.out.mono ?_
        rintro e w1 ⟨rfl, b1⟩
        have HB1 := Lib.hid (HB.out.trans (b1.mono HB.out.size))
        clear b1 c0 c1 c2 c3 c4
        go_wp2_with fail
        refine (HU.out w1).mono ?_
        rintro e w2 ⟨rfl, rfl⟩
        go_wp2_with fail
        go_ret
        exact ⟨rfl, HB1.out⟩
      · rw [if_neg hn] at hz
        have e1 : ((n : Int) != 256) = true := by simp; omega
        subst hz
        clear hn
        go_enter Try.func19, Try.ntmps19
        go_wp2_with fail
        refine HM.out.mono ?_
        rintro e w1 ⟨rfl, b1⟩
        have HB1 := Lib.hid (HB.out.trans (b1.mono HB.out.size))
        clear b1 c0 c1 c2 c3 c4
        go_wp2_with fail
        refine (HU.out w1).mono ?_
        rintro e w2 ⟨rfl, rfl⟩
        go_wp2_with fail
        go_ret
        exact ⟨rfl, HB1.out⟩
    · rw [if_neg hb] at hz
      have HU := Lib.hid (fun W => stUpTo_any birth 16777215 false ⟨fun h => (by cases h), fun h => absurd (show 1 ≤ birth ∧ birth ≤ 16777215 by omega) hb⟩ W)
      subst hz
      clear hb
      go_enter Try.func19, Try.ntmps19
      go_wp2_with fail
      refine HM.out.mono ?_
      rintro e w1 ⟨rfl, b1⟩
      have HB1 := Lib.hid (HB.out.trans (b1.mono HB.out.size))
      clear b1 c0 c1 c2 c3 c4
      go_wp2_with fail
      refine (HU.out w1).mono ?_
      rintro e w2 ⟨rfl, rfl⟩
      go_wp2_with fail
      go_ret
      exact ⟨rfl, HB1.out⟩
  · rw [if_neg hm] at hz
    have HM := Lib.hid (HMY false ⟨fun h => (by cases h), fun h => absurd h hm⟩)
    subst hz
    clear HMY hm
    go_enter Try.func19, Try.ntmps19
    go_wp2_with fail
    refine HM.out.mono ?_
    rintro e w1 ⟨rfl, b1⟩
    have HB1 := Lib.hid (HB.out.trans (b1.mono HB.out.size))
    clear b1 c0 c1 c2 c3 c4
    go_wp2_with fail
    go_ret
    exact ⟨rfl, HB1.out⟩
theorem stWrongKey_any (x : SAt) (S : StL) (ka : Option Addr) (n kc : Nat) (w : World) (z : Nat) (hz : wrongKO S n = z) : Calls Try.prog 25 #[stV x S, .slice ka n kc] w fun e w' => e = .returned (.int .i64 (z : Int)) ∧ Below w.heap.size w w' := by
  obtain ⟨xb, b0⟩ := st_box w x S
  obtain ⟨w0, hw0⟩ : ∃ w0, w.alloc (.cells (stC x S) 30) = w0 := ⟨_, rfl⟩
  rw [hw0] at xb b0
  have c0 := stC0 xb
  have c1 := stC1 xb
  have c2 := stC2 xb
  have c3 := stC3 xb
  have c4 := stC4 xb
  have HB := Lib.hid b0
  have HK' := fun W => stIsKey_any ka n kc W
  simp only [stC] at hw0
  clear xb b0
  unfold wrongKO at hz
  by_cases hn : n = 16
  · rw [if_pos hn] at hz
    rw [decide_eq_true hn] at HK'
    have HK := Lib.hid HK'
    clear HK' hn
    by_cases hs : S.2.2.2 = 65535
    · rw [if_pos hs] at hz
      have e1 : ((S.2.2.2 : Int) == 65535) = true := by simp; omega
      subst hz
      clear hs
      go_enter Try.func25, Try.ntmps25
      go_wp2_with fail
      refine (HK.out w0).mono ?_
      rintro e w1 ⟨rfl, rfl⟩
      go_wp2_with fail
      go_ret
      exact ⟨rfl, HB.out⟩
    · rw [if_neg hs] at hz
      have e1 : ((S.2.2.2 : Int) == 65535) = false := by simp; omega
      subst hz
      clear hs
      go_enter Try.func25, Try.ntmps25
      go_wp2_with fail
      refine (HK.out w0).mono ?_
      rintro e w1 ⟨rfl, rfl⟩
      go_wp2_with fail
      go_ret
      exact ⟨rfl, HB.out⟩
  · rw [if_neg hn] at hz
    rw [decide_eq_false hn] at HK'
    have HK := Lib.hid HK'
    subst hz
    clear HK' hn
    go_enter Try.func25, Try.ntmps25
    go_wp2_with fail
    refine (HK.out w0).mono ?_
    rintro e w1 ⟨rfl, rfl⟩
    go_wp2_with fail
    go_ret
    exact ⟨rfl, HB.out⟩
set_option maxHeartbeats 1000000 in
theorem stWrongPtr_any (L : Nat) (x : SAt) (S : StL) (p : Pt) (w : World) (h : StP L w x S) (z : Nat) (hz : wrongPO S p = z) : Calls Try.prog 23 #[stV x S, ptV p] w fun e w' => e = .returned (.int .i64 (z : Int)) ∧ Below w.heap.size w w' := by
  obtain ⟨w0, hw0, b0, z0, x0, q0⟩ := two_al w (stC x S) (ptA p) 30 32
  have h0 := h.bel b0
  have c0 := stC0 x0
  have c1 := stC1 x0
  have c2 := stC2 x0
  have c3 := stC3 x0
  have c4 := stC4 x0
  have d0 := bx0 q0
  have d1 := bx1 q0
  have d2 := bx2 q0
  have d3 := bx3 q0
  have d4 := bx4 q0
  have HQ := Lib.hid q0
  have HB := Lib.hid b0
  have HMY := fun R hR => stMayBe_any L x S w0 h0 R hR
  have hpm := fun W => Check_any p W
  simp only [stC, ptA] at hw0
  clear h h0 x0 q0 b0 z0
  unfold wrongPO at hz
  by_cases hms : MayS S
  · have HM := Lib.hid (HMY true ⟨fun _ => hms, fun _ => rfl⟩)
    clear HMY
    by_cases hmp : MayP p
    · rw [if_pos ⟨hms, hmp⟩] at hz
      rw [show pcheckO p = 0 by unfold pcheckO; rw [if_pos hmp]] at hpm
      have HC := Lib.hid hpm
      clear hpm hms hmp
      by_cases hp : p = p0
      · rw [if_pos hp] at hz
        have he : eqP p p0 = true := (eqP_iff p p0).2 hp
        subst hz
        clear hp
        obtain ⟨pa, pb, pc, pd, pe⟩ := p
        have heq := eqPt_zero pa pb pc pd pe
        rw [he] at heq
        clear he
        go_enter Try.func23, Try.ntmps23
        go_wp2_with fail
        refine HM.out.mono ?_
        rintro e w1 ⟨rfl, b1⟩
        replace HQ := Lib.hid (HQ.out.below b1 HQ.out.lt)
        replace HB := Lib.hid (HB.out.trans (b1.mono HB.out.size))
        clear b1 c0 c1 c2 c3 c4 d0 d1 d2 d3 d4
        have d0 := bx0 HQ.out
        have d1 := bx1 HQ.out
        have d2 := bx2 HQ.out
        have d3 := bx3 HQ.out
        have d4 := bx4 HQ.out
        go_wp2_with fail
        refine (HC.out w1).mono ?_
        rintro e w2 ⟨rfl, b2⟩
        replace HQ := Lib.hid (HQ.out.below b2 HQ.out.lt)
        replace HB := Lib.hid (HB.out.trans (b2.mono HB.out.size))
        clear b2 d0 d1 d2 d3 d4
        have d0 := bx0 HQ.out
        have d1 := bx1 HQ.out
        have d2 := bx2 HQ.out
        have d3 := bx3 HQ.out
        have d4 := bx4 HQ.out
        go_wp2_with fail
        go_ret
        exact ⟨rfl, HB.out⟩
      · rw [if_neg hp] at hz
        have he : eqP p p0 = false := by
          cases hq : eqP p p0 with
          | false => rfl
          | true => exact absurd ((eqP_iff p p0).1 hq) hp
        subst hz
        clear hp
        obtain ⟨pa, pb, pc, pd, pe⟩ := p
        have heq := eqPt_zero pa pb pc pd pe
        rw [he] at heq
        clear he
        go_enter Try.func23, Try.ntmps23
        go_wp2_with fail
        refine HM.out.mono ?_
        rintro e w1 ⟨rfl, b1⟩
        replace HQ := Lib.hid (HQ.out.below b1 HQ.out.lt)
        replace HB := Lib.hid (HB.out.trans (b1.mono HB.out.size))
        clear b1 c0 c1 c2 c3 c4 d0 d1 d2 d3 d4
        have d0 := bx0 HQ.out
        have d1 := bx1 HQ.out
        have d2 := bx2 HQ.out
        have d3 := bx3 HQ.out
        have d4 := bx4 HQ.out
        go_wp2_with fail
        refine (HC.out w1).mono ?_
        rintro e w2 ⟨rfl, b2⟩
        replace HQ := Lib.hid (HQ.out.below b2 HQ.out.lt)
        replace HB := Lib.hid (HB.out.trans (b2.mono HB.out.size))
        clear b2 d0 d1 d2 d3 d4
        have d0 := bx0 HQ.out
        have d1 := bx1 HQ.out
        have d2 := bx2 HQ.out
        have d3 := bx3 HQ.out
        have d4 := bx4 HQ.out
        go_wp2_with fail
        go_ret
        exact ⟨rfl, HB.out⟩
    · rw [if_neg (fun hh => hmp hh.2)] at hz
      rw [show pcheckO p = 8 by unfold pcheckO; rw [if_neg hmp]] at hpm
      have HC := Lib.hid hpm
      subst hz
      clear hpm hms hmp
      go_enter Try.func23, Try.ntmps23
      go_wp2_with fail
      refine HM.out.mono ?_
      rintro e w1 ⟨rfl, b1⟩
      replace HQ := Lib.hid (HQ.out.below b1 HQ.out.lt)
      replace HB := Lib.hid (HB.out.trans (b1.mono HB.out.size))
      clear b1 c0 c1 c2 c3 c4 d0 d1 d2 d3 d4
      have d0 := bx0 HQ.out
      have d1 := bx1 HQ.out
      have d2 := bx2 HQ.out
      have d3 := bx3 HQ.out
      have d4 := bx4 HQ.out
      go_wp2_with fail
      refine (HC.out w1).mono ?_
      rintro e w2 ⟨rfl, b2⟩
      replace HQ := Lib.hid (HQ.out.below b2 HQ.out.lt)
      replace HB := Lib.hid (HB.out.trans (b2.mono HB.out.size))
      clear b2 d0 d1 d2 d3 d4
      have d0 := bx0 HQ.out
      have d1 := bx1 HQ.out
      have d2 := bx2 HQ.out
      have d3 := bx3 HQ.out
      have d4 := bx4 HQ.out
      go_wp2_with fail
      go_ret
      exact ⟨rfl, HB.out⟩
  · rw [if_neg (fun hh => hms hh.1)] at hz
    have HM := Lib.hid (HMY false ⟨fun h => (by cases h), fun h => absurd h hms⟩)
    subst hz
    clear HMY hpm hms
    go_enter Try.func23, Try.ntmps23
    go_wp2_with fail
    refine HM.out.mono ?_
    rintro e w1 ⟨rfl, b1⟩
    replace HQ := Lib.hid (HQ.out.below b1 HQ.out.lt)
    replace HB := Lib.hid (HB.out.trans (b1.mono HB.out.size))
    clear b1 c0 c1 c2 c3 c4 d0 d1 d2 d3 d4
    have d0 := bx0 HQ.out
    have d1 := bx1 HQ.out
    have d2 := bx2 HQ.out
    have d3 := bx3 HQ.out
    have d4 := bx4 HQ.out
    go_wp2_with fail
    go_ret
    exact ⟨rfl, HB.out⟩
set_option maxHeartbeats 1000000 in
theorem stWith_any (x : SAt) (S : StL) (y : DAt) (D : DkL) (a : Option Addr) (n c : Nat) (w : World) : Calls Try.prog 42 #[stV x S, dval y D, .slice a n c] w fun e w' => e = .returned (.agg #[.slice y.ba D.1.length y.bc, .slice y.wa D.2.length y.wc, .slice a n c, .int .u32 (S.2.2.1 : Int), .int .u32 (S.2.2.2 : Int)]) ∧ Below w.heap.size w w' := by
  obtain ⟨w0, hw0, b0, z0, x0, y0, q0⟩ := three_al w (stC x S) #[.slice y.ba D.1.length y.bc, .slice y.wa D.2.length y.wc] stZ 30 27 30
  obtain ⟨g, hg⟩ : ∃ g, w.heap.size = g := ⟨_, rfl⟩
  obtain ⟨g1, hg1⟩ : ∃ g1, g + 1 = g1 := ⟨_, rfl⟩
  obtain ⟨g2, hg2⟩ : ∃ g2, g1 + 1 = g2 := ⟨_, rfl⟩
  rw [hg] at x0 y0 q0 b0
  rw [show g + 2 = g1 + 1 by omega] at q0
  rw [hg1] at y0
  rw [hg2] at q0
  have HG := Lib.hid hg
  have HB := Lib.hid b0
  have e0 : w0.cell? ⟨g1, 0, none⟩ = some (.slice y.ba D.1.length y.bc) := y0.cell 0
  have e1 : w0.cell? ⟨g1, 1, none⟩ = some (.slice y.wa D.2.length y.wc) := y0.cell 1
  have c0 := stC0 x0
  have c1 := stC1 x0
  have c2 := stC2 x0
  have c3 := stC3 x0
  have c4 := stC4 x0
  have hfx := fun i => x0.frozen i
  have HX := Lib.hid x0
  have HQ := Lib.hid q0
  have HNE := Lib.hid (show g2 ≠ g by omega)
  have HGE := Lib.hid (show g ≤ g2 by omega)
  obtain ⟨x2, k2, b2⟩ := box_two x0 (by decide) (Nat.zero_le _) b0 (Nat.le_refl _) (.slice y.ba D.1.length y.bc) (.slice y.wa D.2.length y.wc)
  have q2 := (q0.far (p := ⟨g, 0, none⟩) HNE.out (.slice y.ba D.1.length y.bc)).far (p := ⟨g, 1, none⟩) HNE.out (.slice y.wa D.2.length y.wc)
  obtain ⟨w2, hw2⟩ : ∃ w2, (w0.setCell ⟨g, 0, none⟩ (.slice y.ba D.1.length y.bc)).setCell ⟨g, 1, none⟩ (.slice y.wa D.2.length y.wc) = w2 := ⟨_, rfl⟩
  rw [hw2] at x2 k2 b2 q2
  have cc := bx2 x2
  have hf2 := fun i => x2.frozen i
  have q3 := q2.far (p := ⟨g, 2, none⟩) HNE.out (.slice a n c)
  obtain ⟨x3, k3, b3⟩ := box_at x2 (by decide) (Nat.zero_le _) b2 (Nat.le_refl _) 2 (.slice a n c)
  obtain ⟨w3, hw3⟩ : ∃ w3, w2.setCell ⟨g, 2, none⟩ (.slice a n c) = w3 := ⟨_, rfl⟩
  rw [hw3] at x3 k3 b3 q3
  replace x3 : Blk w3 g 30 #[.slice y.ba D.1.length y.bc, .slice y.wa D.2.length y.wc, .slice a n c, .int .u32 (S.2.2.1 : Int), .int .u32 (S.2.2.2 : Int)] := x3
  have p0 := bx0 x3
  have p1 := bx1 x3
  have p2 := bx2 x3
  have p3 := bx3 x3
  have p4 := bx4 x3
  have r0 := stZ0 q3
  have r1 := stZ1 q3
  have r2 := stZ2 q3
  have r3 := stZ3 q3
  have r4 := stZ4 q3
  have hfy := fun i => q3.frozen i
  have H2 := Lib.hid (box_five q3 (by decide) (Nat.zero_le _) b3 HGE.out (.slice y.ba D.1.length y.bc) (.slice y.wa D.2.length y.wc) (.slice a n c) (.int .u32 (S.2.2.1 : Int)) (.int .u32 (S.2.2.2 : Int)))
  simp only [stC, stZ] at hw0
  simp only [dval]
  clear x0 y0 q0 b0 z0 x2 k2 b2 q2 x3 k3 b3 q3 HX HQ
  go_enter Try.func42, Try.ntmps42
  go_wp2_with fail
  clear p0 p1 p2 p3 p4 r0 r1 r2 r3 r4 hfy hfx c0 c1 c2 c3 c4 e0 e1 hw2 hw3 cc hf2
  obtain ⟨xf, _, bf⟩ := H2.out
  obtain ⟨wf, hwf⟩ : ∃ wf, set5 w3 g2 (.slice y.ba D.1.length y.bc) (.slice y.wa D.2.length y.wc) (.slice a n c) (.int .u32 (S.2.2.1 : Int)) (.int .u32 (S.2.2.2 : Int)) = wf := ⟨_, rfl⟩
  rw [hwf] at xf bf
  simp only [set5] at hwf
  rw [hwf]
  have e0 := bx0 xf
  have e1 := bx1 xf
  have e2 := bx2 xf
  have e3 := bx3 xf
  have e4 := bx4 xf
  refine bodyPost_ret (v := .agg #[.slice y.ba D.1.length y.bc, .slice y.wa D.2.length y.wc, .slice a n c, .int .u32 (S.2.2.1 : Int), .int .u32 (S.2.2.2 : Int)]) (by simp [results, Try.f42, go_sem, e0, e1, e2, e3, e4]) rfl ?_
  exact ⟨rfl, by rw [HG.out]; exact bf⟩
end Go.Proofs.Ytdpmdlibgabjaaa
