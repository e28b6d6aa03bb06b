/-
  MixPieceSaid: for any bytes (beyond 10,000, and of none, the law itself answers true), place and eight other bytes: two texts of one length, all of whose pieces of eight bytes but one are the same, have the same four words just where they are the same. No condition.
-/
import Derived.Test.YthndfdnfaeioeaaRows
import Derived.Test.YthndfdnfaeioeaaHeld
namespace Go.Proofs.Ythndfdnfaeioeaa
open Go.RowKit Go.Shelf
set_option maxRecDepth 100000

/-- The text s, so many bytes from f on laid anew. -/
def rep (s : List UInt8) (o : Nat → UInt8) (f : Nat) : Nat → List UInt8
  | 0 => s
  | k + 1 => (rep s o f k).set (f + k) (o k)
theorem rep_length (s : List UInt8) (o : Nat → UInt8) (f : Nat) : ∀ k, (rep s o f k).length = s.length
  | 0 => rfl
  | k + 1 => by rw [rep, List.length_set, rep_length s o f k]
theorem rep_get (s : List UInt8) (o : Nat → UInt8) (f : Nat) : ∀ k j (h1 : j < (rep s o f k).length) (h2 : j < s.length), (j < f ∨ f + k ≤ j) → (rep s o f k)[j] = s[j]
  | 0, _, _, _, _ => rfl
  | k + 1, j, h1, h2, h => by
    simp only [rep]
    rw [List.getElem_set_ne (by omega)]
    exact rep_get s o f k j _ h2 (by omega)

theorem heldB {w W W1 : World} (h : Below w.heap.size w W) (b : Below W.heap.size W W1) : Below w.heap.size w W1 := h.trans (b.mono h.size)
theorem heldC {w W W1 : World} (h : Below w.heap.size w W) (b : Below W.heap.size W W1) : Below w.heap.size w W1 := h.trans (b.mono h.size)
/-- A row of the call's own that holds a text. -/
def RowI (W : World) (g len cap : Nat) (t : List UInt8) : Prop := ∃ cur : Array Value, Blk W g 5 cur ∧ cur.size = cap ∧ t.length = len ∧ len ≤ cap ∧ cur.toList.take len = vals t
theorem RowI.get {W : World} {g len cap : Nat} {t : List UInt8} (h : RowI W g len cap t) {j : Nat} (hj : j < len) : ∃ u, W.cell? ⟨g, j, none⟩ = some u := by
  obtain ⟨cur, hb, hs, _, hl, _⟩ := h
  rw [hb.cell j]
  exact ⟨_, Array.getElem?_eq_getElem (by omega)⟩
theorem RowI.holds {W : World} {g len cap : Nat} {t : List UInt8} (h : RowI W g len cap t) : Holds W g t := by
  obtain ⟨cur, hb, hs, ht, hl, hc⟩ := h
  intro i hi
  rw [hb.cell i]
  have : (vals t)[i]? = some (.int .u8 ((t[i]).toNat : Int)) := by simp [vals, hi]
  rw [← hc, List.getElem?_take_of_lt (by omega)] at this
  rw [← this, Array.getElem?_toList]
theorem RowI.set_ {W : World} {g len cap : Nat} {t : List UInt8} (h : RowI W g len cap t) {j : Nat} (_hj : j < len) (y : UInt8) : RowI (W.setCell ⟨g, j, none⟩ (.int .u8 (y.toNat : Int))) g len cap (t.set j y) := by
  obtain ⟨cur, hb, hs, ht, hl, hc⟩ := h
  refine ⟨_, hb.set_ j _, by simpa using hs, by rw [List.length_set]; exact ht, hl, ?_⟩
  rw [Array.toList_setIfInBounds, List.take_set, hc, vals, vals, List.map_set]
theorem RowI.below {W W1 : World} {g len cap B : Nat} {t : List UInt8} (h : RowI W g len cap t) (hb : Below B W W1) (hg : g < B) : RowI W1 g len cap t := by
  obtain ⟨cur, h1, h2⟩ := h
  exact ⟨cur, h1.below hb hg, h2⟩
theorem rowI_of_own {w : World} {base n : Nat} {v : Value} {s : List UInt8} (h : w.ownsRow base 5 1 v n (vals s)) (hn : 0 < n) :
    ∃ g cap, v = .slice (some ⟨g, 0, none⟩) n cap ∧ base ≤ g ∧ g < w.heap.size ∧ cap ≤ maxLen ∧ RowI w g n cap s := by
  have hl : s.length = n := by have := h.1; simpa [vals] using this
  obtain ⟨h1, h2 | ⟨g, cap, cur, rfl, hb, hh, hnc, hcm, hsz, ht⟩⟩ := h
  · omega
  · exact ⟨g, cap, rfl, hb, (Array.getElem?_eq_some_iff.1 hh).1, hcm, cur, hh, by omega, hl, hnc, by simpa using ht⟩

theorem piece_none (a : Option Addr) (cap : Nat) (m : Int) (xs : Array Value) (w : World) : Calls Try.prog 6 #[.slice a 0 cap, .int .u16 m, .agg xs] w fun e w' => e = .returned (.bool true) ∧ Below w.heap.size w w' := by
  go_enter Try.func6, Try.ntmps6
  go_wp2_with fail
  refine (alive_mix _).mono ?_
  rintro e w1 ⟨rfl, b1⟩
  have HB := Lib.hid ((((Below.refl _ w).alloc (Nat.le_refl _) _)).trans (b1.mono (by simp))); clear b1
  go_wp2_with fail
  go_ret
  exact ⟨rfl, HB.out⟩
theorem piece_far (a : Option Addr) (len cap : Nat) (m : Int) (xs : Array Value) (w : World) (hl : (10000 : Int) < len) (_hm : (len : Int) ≤ 9223372036854775807) : Calls Try.prog 6 #[.slice a len cap, .int .u16 m, .agg xs] w fun e w' => e = .returned (.bool true) ∧ Below w.heap.size w w' := by
  have h0 : ((len : Int) == 0) = false := by simp; omega
  go_enter Try.func6, Try.ntmps6
  go_wp2_with fail
  refine (alive_mix _).mono ?_
  rintro e w1 ⟨rfl, b1⟩
  have HB := Lib.hid ((((Below.refl _ w).alloc (Nat.le_refl _) _)).trans (b1.mono (by simp))); clear b1
  go_wp2_with fail
  go_ret
  exact ⟨rfl, HB.out⟩

set_option maxHeartbeats 4000000 in
theorem piece_near (a : Option Addr) (len cap : Nat) (s : List UInt8) (m : Int) (o : Nat → UInt8) (xs : Array Value) (w : World) (hA : Bsl w w.heap.size a len cap s) (hl0 : 0 < len) (hl : (len : Int) ≤ 10000) (m0 : 0 ≤ m) (m1 : m ≤ 65535) (_hx8 : xs.size = 8) (hx : ∀ i, i < 8 → xs[i]? = some (.int .u8 ((o i).toNat : Int))) :
    Calls Try.prog 6 #[.slice a len cap, .int .u16 m, .agg xs] w fun e w' => e = .returned (.bool true) ∧ Below w.heap.size w w' := by
  have i0 : (0 : Int) < len := by omega
  have i1 : ((len : Int) == 0) = false := by simp; omega
  obtain ⟨q, hq⟩ : ∃ q : Nat, m % (len : Int) = q := ⟨(m % (len : Int)).toNat, by have := Int.emod_nonneg m (show (len : Int) ≠ 0 by omega); omega⟩
  have hql : (q : Int) < len := by rw [← hq]; exact Int.emod_lt_of_pos m i0
  obtain ⟨p, hp⟩ : ∃ p : Nat, (q : Int) / 8 = p := ⟨q / 8, by omega⟩
  obtain ⟨f, hf⟩ : ∃ f : Nat, (p : Int) * 8 = f := ⟨p * 8, by omega⟩
  have q0 : (0 : Int) ≤ q := by omega
  have p0 : (0 : Int) ≤ p := by omega
  have p1 : (p : Int) ≤ 1250 := by omega
  have hfl : f < len := by omega
  have hf8 : f = 8 * p := by omega
  have HF := Lib.hid hf8; clear hf8
  have f0 : (0 : Int) ≤ f := by omega
  have f1 : (f : Int) < len := by omega
  have HA := Lib.hid hA; clear hA
  have HXS := Lib.hid hx; clear hx
  obtain ⟨g0, hg0⟩ : ∃ g0, w.heap.size = g0 := ⟨_, rfl⟩
  have hbx : Blk (w.alloc (.cells xs 34)) w.heap.size 34 xs := Blk.new w _ _
  have hB0 : Below w.heap.size w (w.alloc (.cells xs 34)) := (Below.refl _ w).alloc (Nat.le_refl _) _
  rw [hg0] at hbx
  have HBX := Lib.hid hbx; clear hbx
  have HB0 := Lib.hid hB0; clear hB0
  go_enter Try.func6, Try.ntmps6
  go_wp2_with fail
  refine (alive_mix _).mono ?_
  rintro e w1 ⟨rfl, b1⟩
  have HBX1 := Lib.hid (HBX.out.below b1 (by simp; omega))
  have HB1 := Lib.hid (HB0.out.trans (b1.mono HB0.out.size)); clear b1
  go_wp2_with (at_builtin; refine wpList_append_bsl rfl (.tmp 32) (.tmp 33) rfl w1.heap.size (.slice none 0 0) 0 [] rfl (World.ownsRow_nil _ _ _ _) w1.heap.size a len cap s rfl ((HA.out.below HB1.out).more HB1.out.size) (by omega) (Nat.le_refl _) ?_; intro v1 w2 hown1 hgr1)
  simp only [Nat.zero_add, List.nil_append] at hown1
  have b2 : Below w1.heap.size w1 w2 := (Below.refl _ _).grown hgr1 (Nat.le_refl _) (fun k e => by simp [Value.ownBlock] at e)
  obtain ⟨gc, cap', rfl, hgb, hgl, hcm, hrow⟩ := rowI_of_own hown1 hl0
  have HBX2 := Lib.hid (HBX1.out.below b2 HBX1.out.lt)
  have HB2 := Lib.hid (HB1.out.trans (b2.mono HB1.out.size))
  have hgcw : w.heap.size ≤ gc := Nat.le_trans HB1.out.size hgb
  have hg0c : g0 < gc := Nat.lt_of_lt_of_le HBX1.out.lt hgb
  have HROW := Lib.hid hrow; clear hrow hown1 hgr1 b2
  go_wp2_with fail
  have HG0 := Lib.hid hg0; clear hg0
  clear hq hp hf i1
  go_loopw [10] (fun i wr => ∃ k : Nat, k ≤ 8 ∧ i = .int .i64 k ∧ RowI wr gc len cap' (rep s o f k) ∧ Blk wr g0 34 xs ∧ Below w.heap.size w wr ∧ gc < wr.heap.size) (fun i _ => 8 - (intOf i).toNat)
  case atStart => exact ⟨0, by omega, rfl, HROW.out, HBX2.out, HB2.out, hgl⟩
  case round =>
    obtain ⟨k, hk, rfl, hr, hbx, hbe, hgs⟩ := hrel
    by_cases hc : k < 8 ∧ f + k < len
    · obtain ⟨hc1, hc2⟩ := hc
      obtain ⟨u, hu⟩ := hr.get hc2
      have hfz : wr.frozen? ⟨gc, f + k, none⟩ = false := by obtain ⟨cur, h1, _⟩ := hr; exact h1.frozen _
      have ho := hbx.cell k
      rw [HXS.out k hc1] at ho
      have HR := Lib.hid hr; clear hr
      have HBX3 := Lib.hid hbx; clear hbx
      have HBE := Lib.hid hbe; clear hbe
      have c1 : (k : Int) < 8 := by omega
      have c2 : (f : Int) + k < len := by omega
      have c3 : (0 : Int) ≤ (f : Int) + k := by omega
      have c4 : (0 : Int) ≤ k := by omega
      have c5 : ((f : Int) + k).toNat = f + k := by omega
      go_wp2
      go_roundw
      case rel => exact ⟨k + 1, by omega, by go_num, HR.out.set_ hc2 (o k), HBX3.out.far (by simp; omega) _, HBE.out.setCell (p := ⟨gc, f + k, none⟩) hgcw _, by simpa using hgs⟩
      case measure => simp [intOf]; omega
    · obtain ⟨t, ht⟩ : ∃ t, rep s o f k = t := ⟨_, rfl⟩
      have hsl : s.length = len := HA.out.1
      have htl : t.length = s.length := by rw [← ht]; exact rep_length s o f k
      have hinj : fourW s = fourW t ↔ s = t := fourW_inj htl.symm p (by rw [hsl, ← HF.out]; exact hfl) (fun j h1 h2 h => by
        have := rep_get s o f k j (by rw [ht]; exact h2) h1 (by rw [HF.out]; omega)
        simp only [ht] at this
        exact this.symm)
      rw [ht] at hr
      have HT := Lib.hid ht; clear ht
      obtain ⟨x, hx⟩ : ∃ x, fourW s = x := ⟨_, rfl⟩
      obtain ⟨y, hy⟩ : ∃ y, fourW t = y := ⟨_, rfl⟩
      rw [hx, hy] at hinj
      obtain ⟨bl, hbl⟩ : ∃ bl : Bool, (s == t) = bl := ⟨_, rfl⟩
      have hbl2 : eqW x y = bl := by
        rw [← hbl, Bool.eq_iff_iff, eqW_iff, hinj, beq_iff_eq]
      have F1 : ∀ W, Below wr.heap.size wr W → Calls Try.prog 9 #[.slice a len cap] W fun e W' => e = .returned (ag x) ∧ Below W.heap.size W W' := fun W hW => by
        have h1 := hbe.trans (hW.mono hbe.size)
        have := four_any a len cap s W ((HA.out.below h1).more h1.size) (by omega)
        rwa [hx] at this
      have F2 : ∀ W, Below wr.heap.size wr W → Calls Try.prog 9 #[.slice (some ⟨gc, 0, none⟩) len cap'] W fun e W' => e = .returned (ag y) ∧ Below W.heap.size W W' := fun W hW => by
        have hh := (hr.below hW hgs).holds
        have hlc := hr
        obtain ⟨_, _, _, _, hlc, _⟩ := hlc
        have := four_any (some ⟨gc, 0, none⟩) len cap' t W ⟨by rw [htl, hsl], hlc, hcm, fun e => (by cases e), fun _ => ⟨gc, 0, rfl, Nat.lt_of_lt_of_le hgs hW.size, fun i hi => by rw [Nat.zero_add]; exact hh i hi⟩⟩ (by omega)
        rwa [hy] at this
      have V1 : ∀ W, Below wr.heap.size wr W → (convert 25 9 (.slice a len cap)).run Try.prog W = .ok (.string (strOf s)) W := fun W hW => (HA.out.below (hbe.trans (hW.mono hbe.size))).conv
      have V2 : ∀ W, Below wr.heap.size wr W → (convert 25 9 (.slice (some ⟨gc, 0, none⟩) len cap')).run Try.prog W = .ok (.string (strOf t)) W := fun W hW => (hr.below hW hgs).holds.conv (by rw [htl, hsl])
      have QE := fun W => eql4 x y W
      have s1 := strOf_toList s
      have s2 := strOf_toList t
      have HF1 := Lib.hid F1; clear F1
      have HF2 := Lib.hid F2; clear F2
      have HBE := Lib.hid hbe; clear hbe
      clear hr hbx hinj htl hsl
      have HX := Lib.hid hx; clear hx
      have HY := Lib.hid hy; clear hy
      have h0 : Below wr.heap.size wr wr.drew := (Below.refl _ _).drew
      by_cases hk8 : k < 8
      · have c1 : (k : Int) < 8 := by omega
        have c2 : ¬ (f : Int) + k < len := by omega
        have c3 : (f : Int) + k ≤ 20000 := by omega
        have c4 : (0 : Int) ≤ (f : Int) + k := by omega
        clear hc
        go_wp2_with fail
        go_region_held3 (fun W => Below wr.heap.size wr W) (assumption)
          (first | (go_at_call_of 9 (Value.slice a len cap); refine (HF1.out _ ?_).mono ?_; assumption; rintro e w9 ⟨rfl, b9⟩; have hk := heldB (w := wr) (by assumption) b9; clear b9) | (go_at_call 9; refine (HF2.out _ ?_).mono ?_; assumption; rintro e w9 ⟨rfl, b9⟩; have hk := heldB (w := wr) (by assumption) b9; clear b9))
        all_goals
          go_wp2
          go_ret
          exact ⟨rfl, heldC HBE.out (by assumption)⟩
      · have c1 : ¬ (k : Int) < 8 := by omega
        clear hc
        go_wp2_with fail
        go_region_held3 (fun W => Below wr.heap.size wr W) (assumption)
          (first | (go_at_call_of 9 (Value.slice a len cap); refine (HF1.out _ ?_).mono ?_; assumption; rintro e w9 ⟨rfl, b9⟩; have hk := heldB (w := wr) (by assumption) b9; clear b9) | (go_at_call 9; refine (HF2.out _ ?_).mono ?_; assumption; rintro e w9 ⟨rfl, b9⟩; have hk := heldB (w := wr) (by assumption) b9; clear b9))
        all_goals
          go_wp2
          go_ret
          exact ⟨rfl, heldC HBE.out (by assumption)⟩

theorem mixPiece_walk (a0 : Option Addr) (len0 cap0 : Nat) (s0 : List UInt8) (a1 : Int) (z2 : List Int) (w : World) (h0 : Bsl w w.heap.size a0 len0 cap0 s0) (w1 : (Lit.int .u16 a1).wf = true) (l2 : z2.length = 8) (w2 : ∀ x ∈ z2, (Lit.int .u8 x).wf = true) :
    Calls Try.prog 6 #[.slice a0 len0 cap0, .int .u16 a1, .agg (z2.map (Value.int .u8)).toArray] w fun e w' => e = .returned (.bool true) ∧ Below w.heap.size w w' := by
  obtain ⟨m0, m1⟩ := u16_of_wf w1
  rcases Nat.eq_zero_or_pos len0 with h00 | h00
  · subst h00
    exact piece_none a0 cap0 a1 _ w
  · by_cases hl : (10000 : Int) < len0
    · refine piece_far a0 len0 cap0 a1 _ w hl ?_
      have h1 := h0.2.1
      have h2 := h0.2.2.1
      unfold maxLen at h2
      omega
    · refine piece_near a0 len0 cap0 s0 a1 (fun i => UInt8.ofNat (z2.getD i 0).toNat) _ w h0 h00 (by omega) m0 m1 (by simpa using l2) (fun i hi => ?_)
      have hi2 : i < z2.length := by omega
      have hz := u8_of_wf (w2 z2[i] (List.getElem_mem hi2))
      have e : (UInt8.ofNat (z2.getD i 0).toNat).toNat = z2[i].toNat := by
        rw [List.getD_eq_getElem?_getD, List.getElem?_eq_getElem hi2, Option.getD_some]
        simp
        omega
      rw [e]
      simp [hi2]
      omega
end Go.Proofs.Ythndfdnfaeioeaa

namespace Go.Proofs.Ythndfdnfaeioeaa.mixPiece
open Go.ChangeShapes Go.WideShapes Go.ChangeAt Go.RowKit
set_option linter.unusedVariables false

theorem own : ownKnob Try.prog.godebug = none := by kernel_rfl
theorem laidOut : laidOutB Try.prog = true := by kernel_rfl

set_option maxRecDepth 100000 in
theorem lifted (os : Os) (started : os.Started) (H : Type) (enc : TypeId × Value → H) :
    ReturnsInHanded {} Try.checked os 6 .any (Rows.mixPieceSpec.pre6 enc Try.prog Try.f6 Rows.mixPieceRow.domain false) (Rows.mixPieceSpec.post enc Try.prog Try.f6 false true false false) := by
  refine returnsInHanded_of_change (C := Try.checked) own started (by kernel_rfl) Try.func6
    (ChangeSpec.witness6 (enc := enc) (C := Try.checked) false ⟨#[], #[.slice none 0 0, .int .u16 0, .agg #[.int .u8 0, .int .u8 0, .int .u8 0, .int .u8 0, .int .u8 0, .int .u8 0, .int .u8 0, .int .u8 0]], []⟩ 8 (by kernel_rfl) (by kernel_rfl) (by kernel_rfl) (by kernel_rfl)) ?_
  intro W base args ds gs before hval0 hW hcnd _
  have hval : ∀ (j : Nat) t v, Try.f6.params[j]? = some t → args[j]? = some v → Value.okWide Try.prog W .any base t v := hval0
  have hW' := hW
  obtain ⟨p, q, hA0, hV, rfl, hfz, hnd⟩ := hW
  have hA : DataW.TrodAll enc Try.prog W 0 (fun _ => true) true Try.f6.params.toList args.toList ds p := hA0
  rw [Try.params6] at hA hval
  obtain ⟨v0, vs0, d0, ds0, p0, q0, hargs, rfl, rfl, h0, r0⟩ := trodAll_cons hA
  obtain ⟨v1, vs1, d1, ds1, p1, q1, rfl, rfl, rfl, h1, r1⟩ := trodAll_cons r0
  obtain ⟨v2, vs2, d2, ds2, p2, q2, rfl, rfl, rfl, h2, r2⟩ := trodAll_cons r1
  obtain ⟨rfl, rfl, rfl⟩ := trodAll_nil r2
  obtain rfl : args = #[v0, v1, v2] := by cases args; simp_all
  obtain ⟨rfl, rfl⟩ := trodVars_none hV
  obtain ⟨a0, len0, cap0, rfl⟩ := okWide_slice Try.underlying25 (hval 0 25 v0 rfl rfl)
  have k0 := h0
  have lt0 : ∀ x ∈ p0, x.block < W.heap.size := by obtain ⟨m, hm⟩ := k0; exact DataW.trod_lt m _ _ _ hm
  obtain ⟨z0, w0⟩ : ∃ zs, IsRow .u8 W a0 len0 cap0 zs := by
    obtain ⟨fuel, hf⟩ := h0
    rcases open_ints Try.underlying25 Try.underlying5 (by kernel_rfl) hf with ⟨hcs, _⟩ | ⟨x, l, c, zs, hcs, _, hl, hm, hz, _, hcell, hwz⟩
    · simp [Value.cells] at hcs
      obtain ⟨rfl, rfl, rfl⟩ := hcs
      exact ⟨[], .inl ⟨rfl, rfl, rfl, rfl⟩⟩
    · simp [Value.cells] at hcs
      obtain ⟨rfl, rfl, rfl⟩ := hcs
      exact ⟨zs, .inr ⟨_, rfl, hl, hm, by simpa using hz, hcell, hwz⟩⟩
  obtain ⟨a1, rfl, rfl, rfl, w1⟩ := open_int Try.underlying33 (hval 1 33 v1 rfl rfl) h1
  have k2 := h2
  have lt2 : ∀ x ∈ p2, x.block < W.heap.size := by obtain ⟨m, hm⟩ := k2; exact DataW.trod_lt m _ _ _ hm
  obtain ⟨z2, rfl, l2, w2⟩ := open_ints_arr Try.underlying34 Try.underlying5 (by kernel_rfl) (by kernel_rfl) (hval 2 34 v2 rfl rfl) h2
  clear hA0 hval0
  refine (mixPiece_walk a0 len0 cap0 _ a1 z2 W (bsl_of_row w0) w1 l2 w2).mono fun e W' ⟨he, bel⟩ => ?_
  subst he
  exact ⟨_, rfl, _, _, _, [], _, [], hW', trodAll_mk1 (shut_bool Try.underlying4 _), (trodAll_cons_mk (Below.trod laidOut (by kernel_rfl) (of_decide_eq_true (by kernel_rfl)) k0 bel lt0) (trodAll_cons_mk (shut_int Try.underlying33 w1) (trodAll_cons_mk (Below.trod laidOut (by kernel_rfl) (of_decide_eq_true (by kernel_rfl)) k2 bel lt2) trodAll_mk0))), rfl, bel.frame _, fun h => by cases h⟩

theorem over : Rows.mixPieceRow.holds Try.pinned (OpenSpec.ofChange Rows.mixPieceSpec) :=
  OpenClaim.holds_of_wide 6 Try.f6 rfl rfl rfl rfl rfl rfl rfl ⟨rfl, rfl, rfl, rfl, rfl⟩ rfl rfl rfl rfl rfl (by kernel_rfl) Try.func6 (by kernel_rfl)
    (of_decide_eq_true (by kernel_rfl)) (by unfold Func.isWrapper; first | (rw [if_pos (by decide +kernel)]; kernel_rfl) | (rw [if_neg (by decide +kernel)]; exact ⟨rfl, rfl⟩))
    (fun os started H enc _ => lifted os started H enc)

/-- The statement. -/
theorem proved : Rows.MixPieceSaid := over
end Go.Proofs.Ythndfdnfaeioeaa.mixPiece
