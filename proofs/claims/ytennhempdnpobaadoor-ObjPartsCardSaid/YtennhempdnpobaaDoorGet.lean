/-
  code.Get, of a slice that has the bytes, returns the number whose bytes they are, and OK; else 0 and the error of the chapter; nothing that was there is written.
-/
import Derived.Test.YtennhempdnpobaaDoorIter
import Derived.Test.YtennhempdnpobaaDoorRound
import Derived.Lib.SlBytesRow
import Derived.Lib.QuoteBits
namespace Go.Proofs.YtennhempdnpobaaDoor
open Go.RowKit Go.Shelf
set_option maxRecDepth 100000
attribute [local go_sem] Oper.semAt_some

theorem get_size (a : Option Addr) (len cap : Nat) (i s : Int) (h : s < 1 ∨ 4 < s) (w : World) : Calls Tryd.prog 36 #[.slice a len cap, .int .i64 i, .int .i64 s] w fun e w' => e = .returned (.tuple #[.int .i64 0, .int .i64 2]) ∧ w = w' := by
  go_enter Tryd.func36, Tryd.ntmps36
  go_wp2_with (go_at_call 49; refine (isSize_no _ h _).mono ?_; rintro e w' ⟨rfl, rfl⟩)
  go_ret2
  exact ⟨rfl, rfl⟩
theorem get_neg (a : Option Addr) (len cap : Nat) (i s : Int) (h1 : 1 ≤ s) (h2 : s ≤ 4) (hi : i < 0) (w : World) : Calls Tryd.prog 36 #[.slice a len cap, .int .i64 i, .int .i64 s] w fun e w' => e = .returned (.tuple #[.int .i64 0, .int .i64 2]) ∧ w = w' := by
  go_enter Tryd.func36, Tryd.ntmps36
  go_wp2_with (go_at_call 49; refine (isSize_yes _ h1 h2 _).mono ?_; rintro e w' ⟨rfl, rfl⟩)
  go_ret2
  exact ⟨rfl, rfl⟩
theorem get_far (a : Option Addr) (len cap : Nat) (i s : Int) (h1 : 1 ≤ s) (h2 : s ≤ 4) (hi : len < i) (w : World) : Calls Tryd.prog 36 #[.slice a len cap, .int .i64 i, .int .i64 s] w fun e w' => e = .returned (.tuple #[.int .i64 0, .int .i64 2]) ∧ w = w' := by
  have h0 : 0 ≤ i := by omega
  go_enter Tryd.func36, Tryd.ntmps36
  go_wp2_with (go_at_call 49; refine (isSize_yes _ h1 h2 _).mono ?_; rintro e w' ⟨rfl, rfl⟩)
  go_ret2
  exact ⟨rfl, rfl⟩
theorem get_short (a : Option Addr) (len cap : Nat) (_hl : len ≤ 9223372036854775807) (i s : Int) (h1 : 1 ≤ s) (h2 : s ≤ 4) (h0 : 0 ≤ i) (hi : i ≤ len) (hs : len - i < s) (w : World) : Calls Tryd.prog 36 #[.slice a len cap, .int .i64 i, .int .i64 s] w fun e w' => e = .returned (.tuple #[.int .i64 0, .int .i64 8]) ∧ w = w' := by
  go_enter Tryd.func36, Tryd.ntmps36
  go_wp2_with (go_at_call 49; refine (isSize_yes _ h1 h2 _).mono ?_; rintro e w' ⟨rfl, rfl⟩)
  go_ret2
  exact ⟨rfl, rfl⟩

/-- The number whose bytes these are, the lowest first. -/
def leN : List UInt8 → Nat
  | [] => 0
  | x :: r => x.toNat + 256 * leN r

/-- What the loop of Get has in its box when these have come. -/
def accN {k : Nat} (pre : List (Fin k × UInt8)) : Nat := pre.foldl (fun a x => a * 256 + x.2.toNat) 0
theorem accN_snoc {k : Nat} (pre : List (Fin k × UInt8)) (x : Fin k × UInt8) : accN (pre ++ [x]) = accN pre * 256 + x.2.toNat := by simp [accN]
theorem accN_eq {k : Nat} (pre : List (Fin k × UInt8)) : accN pre = leN (pre.map (·.2)).reverse := by
  have h : ∀ l : List UInt8, leN l.reverse = l.foldl (fun a x => a * 256 + x.toNat) 0 := by
    intro l
    have : ∀ l : List UInt8, l.foldr (fun x a => a * 256 + x.toNat) 0 = leN l := by
      intro l
      induction l with
      | nil => rfl
      | cons x r ih => simp only [List.foldr_cons, leN, ih]; omega
    rw [← this, List.foldr_reverse]
  rw [h, List.foldl_map]
  rfl
theorem leN_lt : ∀ l, leN l < 256 ^ l.length
  | [] => by simp [leN]
  | x :: r => by
    have h1 := leN_lt r
    have h2 := x.toNat_lt
    simp only [leN, List.length_cons, Nat.pow_succ]; omega
theorem accN_lt {k : Nat} (pre : List (Fin k × UInt8)) : accN pre < 256 ^ pre.length := by
  rw [accN_eq]
  have := leN_lt (pre.map (·.2)).reverse
  simpa using this
theorem accN_all {k i : Nat} {s : List UInt8} {ys : List (Fin k × UInt8)} (hC : Came k (fun j v => s[i + j]? = some v) ys) (hl : ys.length = k) (hk : i + k ≤ s.length) : accN ys = leN ((s.drop i).take k) := by
  rw [accN_eq]
  congr 1
  apply List.ext_getElem
  · simp; omega
  · intro j h1 h2
    have hj : j < k := by simp at h1; omega
    have hm : k - 1 - j < ys.length := by omega
    obtain ⟨e1, e2⟩ := hC.2 (k - 1 - j) hm
    have e3 : (ys[k - 1 - j]).1.val = j := by omega
    rw [e3] at e2
    have hx : i + j < s.length := by omega
    rw [List.getElem?_eq_getElem hx] at e2
    simp only [List.getElem_reverse, List.getElem_map, List.getElem_take, List.getElem_drop, List.length_map]
    have e4 : ys.length - 1 - j = k - 1 - j := by omega
    simp only [e4]
    exact (Option.some.inj e2).symm
theorem or_byte (a b : Nat) (ha : a ≤ 16777215) (hb : b < 256) : bits .or .i64 ((a : Int) * 256) (b : Int) = ((a * 256 + b : Nat) : Int) := by
  have e : (a : Int) * 256 = ((a * 256 : Nat) : Int) := by omega
  rw [e]
  show IntKind.i64.wrap ((BitVec.ofInt 64 ((a * 256 : Nat) : Int) ||| BitVec.ofInt 64 (b : Int)).toNat : Int) = _
  have h := Nat.two_pow_add_eq_or_of_lt (i := 8) (b := b) (by omega) a
  rw [BitVec.toNat_or, ofInt_u64 _ (by omega), ofInt_u64 _ (by omega), show a * 256 = 2 ^ 8 * a by omega, ← h, show 2 ^ 8 * a + b = 256 * a + b by omega]
  exact Lib.wrap_i64_small _ (by omega)
def GetI (g k : Nat) (w : World) (pre : List (Fin k × UInt8)) (W : World) : Prop :=
  (W.cell? ⟨g, 0, none⟩ = some (.int .i64 (accN pre : Nat)) ∧ W.frozen? ⟨g, 0, none⟩ = false) ∧ Below g w W

set_option maxHeartbeats 2000000 in
theorem get_in (m : Nat) (hn : 3 ≤ m) (b off len cap at_ k : Nat) (s : List UInt8) (hs : s.length = len) (hlc : len ≤ cap) (hcm : cap ≤ 9223372036854775807) (h1 : 1 ≤ k) (h2 : k ≤ 4) (hk : at_ + k ≤ len) (w : World) (hb : b < w.heap.size)
    (hc : ∀ i (h : i < s.length), w.cell? ⟨b, off + i, none⟩ = some (.int .u8 ((s[i]).toNat : Int))) :
    CallsIn Fence.wide m Tryd.prog 36 #[.slice (some ⟨b, off, none⟩) len cap, .int .i64 at_, .int .i64 k] w fun e W' => e = .returned (.tuple #[.int .i64 (leN ((s.drop at_).take k) : Nat), .int .i64 0]) ∧ Below w.heap.size w W' := by
  have hro : Fence.wide.round = none := rfl
  have hd : 1 ≤ m := by omega
  have hk1 : (1:Int) ≤ k := by omega
  have hk2 : (k:Int) ≤ 4 := by omega
  have a0 : (0:Int) ≤ at_ := by omega
  have a1 : (at_:Int) ≤ len := by omega
  have a2 : (k:Int) ≤ len - at_ := by omega
  have hlm : (len:Int) ≤ 9223372036854775807 := by omega
  have ea : (at_ : Int) + k = ((at_ + k : Nat) : Int) := by omega
  have HS := Lib.hid hs; clear hs
  have HC := Lib.hid hc; clear hc
  have hsl := fun W => Lib.run_slice_window (P := Tryd.prog) W 28 5 Tryd.underlying28 (fun _ => by kernel_rfl) b off len cap at_ (at_ + k) (by omega) (by omega)
  simp only [← ea] at hsl
  have HE := Lib.hid ea; clear ea
  refine callsIn_of_wp_marks Tryd.func36 rfl trivial ?_ hro
  simp only [Tryd.ntmps36, List.size_toArray, List.length_cons, List.length_nil, Nat.reduceAdd, Nat.reduceSub, Array.replicate_succ, Array.replicate_zero, List.push_toArray, List.append_toArray, List.nil_append, List.cons_append]
  gi_wp2_with (refine ⟨trivial, ?_⟩; first | (gi_at_call 49; refine (callsIn_wide.2 (isSize_yes _ (by omega) (by omega) _)).mono ?_; rintro e w' ⟨rfl, rfl⟩) | (gi_at_call 50; refine (back_in Fence.wide (m - 1) trivial hro _ _ _ _).mono ?_; rintro e w' ⟨rfl, rfl⟩))
  obtain ⟨g, hg⟩ : ∃ g, w.heap.size = g := ⟨_, rfl⟩
  obtain ⟨W0, hW0⟩ : ∃ W0, ((w.alloc (Obj.cells #[Value.int IntKind.i64 0] 3)).alloc (Obj.cells #[Value.slice (some { block := b, off := off + at_ }) k (cap - at_)] 28)) = W0 := ⟨_, rfl⟩
  have hsz : W0.heap.size = g + 2 := by rw [← hW0]; simp [hg]
  have hB0 : Below g w W0 := by rw [← hW0, ← hg]; exact ((Below.refl _ w).alloc (Nat.le_refl _) _).alloc (by simp) _
  have c0 : W0.cell? ⟨g, 0, none⟩ = some (.int .i64 0) ∧ W0.frozen? ⟨g, 0, none⟩ = false := by rw [← hW0, ← hg]; exact ⟨((Boxed.new w 3 _).alloc _).cell, ((Boxed.new w 3 _).alloc _).frozen⟩
  have c1 : W0.cell? ⟨g + 1, 0, none⟩ = some (.slice (some ⟨b, off + at_, none⟩) k (cap - at_)) := by
    rw [← hW0, ← hg]
    have := Boxed.new (w.alloc (Obj.cells #[Value.int IntKind.i64 0] 3)) 28 (Value.slice (some { block := b, off := off + at_ }) k (cap - at_))
    rw [World.size_alloc] at this
    exact this.cell
  rw [hW0, hg]
  have hR : Reach (g + 1) b (off + at_) k (cap - at_) (fun j v => s[at_ + j]? = some v) W0 := ⟨c1, fun j hj => by
    have hl : at_ + j < s.length := by have := HS.out; omega
    exact ⟨s[at_ + j], (hB0.cell (p := ⟨b, off + at_ + j, none⟩) (by simp <;> omega)).trans (by rw [Nat.add_assoc]; exact HC.out _ hl), List.getElem?_eq_getElem hl⟩⟩
  refine wpIn_rangeFunc_ownG hro hd (gf := 56) (lb := #[.pointer (some ⟨g + 1, 0, none⟩)]) rfl trivial (enters_of Tryd.func56 (by kernel_rfl) rfl)
    (stops Fence.wide (m - 1) trivial hro (by omega) (g + 1) b (off + at_) k (cap - at_) (fun j v => s[at_ + j]? = some v) (by omega) W0 (by omega) (by omega) hR) (fun h k r => k (h r)) (fun W l o o' _ h ho _ => reach_putObj l o o' h ho) (Below.refl _ _) (fun _ => rfl)
    (GetI g k w) (fun _ _ _ => False) ?hI (fun _ _ _ _ _ hs _ _ => hs) ⟨c0, hB0⟩
    (fun x => { tmps := #[Value.slice (some { block := b, off := off }) len cap, Value.int IntKind.i64 ↑at_, Value.int IntKind.i64 ↑k,
          undef, undef, undef, Value.int IntKind.i64 0, Value.int IntKind.i64 0,
          Value.pointer (some { block := g, off := 0 }), undef, .int .u8 (x.2.toNat : Int), Value.int IntKind.i64 ↑k,
          Value.bool true, Value.bool false, Value.bool false, Value.int IntKind.i64 ↑at_,
          Value.bool (decide ((at_ : Int) < 0)), Value.bool (decide ((at_ : Int) < 0)), Value.bool (decide ((at_ : Int) < 0)),
          Value.int IntKind.i64 ↑at_, Value.slice (some { block := b, off := off }) len cap, Value.int IntKind.i64 ↑len,
          Value.bool false, Value.bool (decide ((at_ : Int) < 0)), Value.slice (some { block := b, off := off }) len cap,
          Value.int IntKind.i64 ↑len, Value.int IntKind.i64 ↑at_, Value.int IntKind.i64 (↑len - ↑at_),
          Value.int IntKind.i64 ↑k, Value.bool (decide ((len : Int) - at_ < k)),
          Value.slice (some { block := b, off := off }) len cap, Value.int IntKind.i64 ↑at_, Value.int IntKind.i64 ↑at_,
          Value.int IntKind.i64 ↑k, Value.int IntKind.i64 (↑at_ + ↑k),
          Value.slice (some { block := b, off := off + at_ }) k (cap - at_),
          Value.func (Fn.func 56) #[] #[Value.pointer (some { block := g + 1, off := 0 })], .int .i64 (x.1.val : Int), .int .u8 (x.2.toNat : Int),
          undef, undef, undef, undef, undef, undef], defers := [] }) ?assign ?body ?done ?stop
  case hI => exact OwnFrom.and (Own.from (fun s A B row hs hg hr => ⟨cell_kept hs.1 hg hr, (frozen_kept hs.1 hg hr).trans hs.2⟩) _) (ownFrom_below (by omega) (by omega))
  case assign =>
    intro l x W K hK
    gi_wp2
    exact hK
  case body =>
    rintro l pre ⟨⟨i, hi⟩, v⟩ W ⟨⟨hcn, hfn⟩, hB⟩ hlt
    have hv0 : (0 : Int) ≤ v.toNat := by omega
    have hv1 : (v.toNat : Int) ≤ 255 := by have := v.toNat_lt; omega
    have hA0 : (0 : Int) ≤ accN pre := by omega
    have hA1 : (accN pre : Int) ≤ 16777215 := by
      have h3 : pre.length ≤ 3 := by omega
      have h4 := accN_lt pre
      have h5 : 256 ^ pre.length ≤ 256 ^ 3 := Nat.pow_le_pow_right (by omega) h3
      omega
    have hor := or_byte (accN pre) v.toNat (by omega) (by omega)
    have HO := Lib.hid hor; clear hor
    dsimp only
    gi_wp2
    rw [HO.out]
    refine ⟨(KeepsOthers.setCell _ _ _).from _, fun hR => ⟨(World.cell?_setCell_other W _ _ _ (by simp)).trans hR.1, fun j hj => ?_⟩, ⟨⟨?_, (World.frozen?_setCell _ _ _ _).trans hfn⟩, hB.setCell (p := ⟨g, 0, none⟩) (Nat.le_refl _) _⟩⟩
    · obtain ⟨v', hv', hV⟩ := hR.2 j hj
      exact ⟨v', (World.cell?_setCell_other W _ _ _ (by simp <;> omega)).trans hv', hV⟩
    · rw [accN_snoc]; exact World.cell?_setCell_same' W _ _ (by rw [hcn]; rfl)
  case done =>
    rintro D ys W hD ⟨hC, hl⟩ ⟨⟨h0, _⟩, hB⟩ hK
    have hD' : g + 2 ≤ D := by omega
    have hfin := accN_all hC hl (by have := HS.out; omega)
    have HF := Lib.hid hfin; clear hfin
    have HCm := Lib.hid hC; clear hC
    have HL := Lib.hid hl; clear hl
    gi_wp2
    refine ⟨by simp, .inl ⟨_, _, rfl, run_takeDeferred hK, ?_⟩⟩
    subst hg
    exact ⟨.tuple #[.int .i64 (accN ys : Nat), .int .i64 0], by simp [results, Tryd.f36, go_sem], by rw [HF.out], hB.trans (belowK_b (w := w) (by omega) W D _ _ (by omega) hK rfl rfl)⟩
  case stop =>
    rintro D c pre W _ _ h _
    exact h.elim
end Go.Proofs.YtennhempdnpobaaDoor
