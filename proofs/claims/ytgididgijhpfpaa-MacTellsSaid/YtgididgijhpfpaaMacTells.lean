/-
  MacTellsSaid: for any key and bytes (beyond 10,000 of either the law itself answers true), the tag, or the error, is the document's own; both stay. No condition.
-/
import Derived.Test.YtgididgijhpfpaaRows
import Derived.Test.YtgididgijhpfpaaIn
import Derived.Test.YtgididgijhpfpaaMacRef
namespace Go.Proofs.Ytgididgijhpfpaa
open Go.RowKit Go.Shelf
set_option maxRecDepth 100000

theorem macTells_far (a : Option Addr) (len cap : Nat) (b : Option Addr) (lenb capb : Nat) (w : World) (h : (10000 : Int) < len ∨ ((len : Int) ≤ 10000 ∧ (10000 : Int) < lenb)) (_hm : (len : Int) ≤ 9223372036854775807) (_hm2 : (lenb : Int) ≤ 9223372036854775807) :
    Calls Try.prog 4 #[.slice a len cap, .slice b lenb capb] w fun e w' => e = .returned (.bool true) ∧ Below w.heap.size w w' := by
  rcases h with h | ⟨h, h2⟩
  all_goals
    go_enter Try.func4, Try.ntmps4
    go_wp2_with fail
    go_ret
    exact ⟨rfl, Below.refl _ _⟩

set_option maxHeartbeats 2000000 in
theorem macTells_near (a : Option Addr) (len cap : Nat) (k : List UInt8) (b : Option Addr) (lenb capb : Nat) (s : List UInt8) (w : World) (hA : Bsl w w.heap.size a len cap k) (hB : Bsl w w.heap.size b lenb capb s) (hl : (len : Int) ≤ 10000) (hl2 : (lenb : Int) ≤ 10000)
    (R : BitVec 32) (E : Int) (h1 : ∀ W, Below w.heap.size w W → Calls Try.prog 8 #[.slice a len cap, .slice b lenb capb] W fun e w' => e = .returned (.tuple #[.int .u32 (R.toNat : Int), .int .i64 E]) ∧ Below W.heap.size W w')
    (h2 : ∀ W, Below w.heap.size w W → Calls Try.prog 9 #[.slice a len cap, .slice b lenb capb] W fun e w' => e = .returned (.tuple #[.int .u32 (R.toNat : Int), .int .i64 E]) ∧ Below W.heap.size W w') :
    Calls Try.prog 4 #[.slice a len cap, .slice b lenb capb] w fun e w' => e = .returned (.bool true) ∧ Below w.heap.size w w' := by
  have i0 : (0 : Int) ≤ len := by omega
  have i1 : (0 : Int) ≤ lenb := by omega
  have v1 := hA.conv
  have v2 := hB.conv
  have s1 := strOf_toList k
  have s2 := strOf_toList s
  have V1 := Lib.hid (fun W (hW : Below w.heap.size w W) => (hA.below hW).conv)
  have V2 := Lib.hid (fun W (hW : Below w.heap.size w W) => (hB.below hW).conv)
  have H1 := Lib.hid h1; clear h1
  have H2 := Lib.hid h2; clear h2
  clear hA hB
  go_enter Try.func4, Try.ntmps4
  go_wp2_with fail
  refine (H1.out _ (Below.refl _ _)).mono ?_
  rintro e w1 ⟨rfl, b1⟩
  have HB1 := Lib.hid b1; clear b1
  go_wp2_with fail
  refine (H2.out _ HB1.out).mono ?_
  rintro e w2 ⟨rfl, b2⟩
  have HB2 := Lib.hid (HB1.out.trans (b2.mono HB1.out.size)); clear b2
  have v3 := V1.out _ HB2.out
  have v4 := V2.out _ HB2.out
  clear v1 v2
  go_wp2_with fail
  go_ret
  exact ⟨rfl, HB2.out⟩

theorem macTells_walk (a0 : Option Addr) (len0 cap0 : Nat) (s0 : List UInt8) (a1 : Option Addr) (len1 cap1 : Nat) (s1 : List UInt8) (w : World) (h0 : Bsl w w.heap.size a0 len0 cap0 s0) (h1 : Bsl w w.heap.size a1 len1 cap1 s1) :
    Calls Try.prog 4 #[.slice a0 len0 cap0, .slice a1 len1 cap1] w fun e w' => e = .returned (.bool true) ∧ Below w.heap.size w w' := by
  by_cases hl : (10000 : Int) < len0 ∨ ((len0 : Int) ≤ 10000 ∧ (10000 : Int) < len1)
  · have e1 := h0.2.1
    have e2 := h0.2.2.1
    have e3 := h1.2.1
    have e4 := h1.2.2.1
    unfold maxLen at e2 e4
    exact macTells_far a0 len0 cap0 a1 len1 cap1 w hl (by omega) (by omega)
  · by_cases h16 : len0 = 16
    · subst h16
      exact macTells_near a0 16 cap0 s0 a1 len1 cap1 s1 w h0 h1 (by omega) (by omega) (tagW s0 s1) 0
        (fun W hW => tag_any a0 cap0 s0 a1 len1 cap1 s1 W ((h0.below hW).more hW.size) ((h1.below hW).more hW.size) (by omega))
        (fun W hW => rtag_any a0 cap0 s0 a1 len1 cap1 s1 W ((h0.below hW).more hW.size) ((h1.below hW).more hW.size) (by omega))
    · exact macTells_near a0 len0 cap0 s0 a1 len1 cap1 s1 w h0 h1 (by omega) (by omega) 0 2
        (fun W hW => (tag_bad a0 len0 cap0 _ W h16).mono fun e w' ⟨h1, h2⟩ => ⟨h1, by rw [← h2]; exact Below.refl _ _⟩)
        (fun W hW => (rtag_bad a0 len0 cap0 _ W h16).mono fun e w' ⟨h1, h2⟩ => ⟨h1, by rw [← h2]; exact Below.refl _ _⟩)
end Go.Proofs.Ytgididgijhpfpaa

namespace Go.Proofs.Ytgididgijhpfpaa.macTells
open Go.ChangeShapes Go.WideShapes Go.ChangeAt Go.RowKit
set_option linter.unusedVariables false

theorem own : ownKnob Try.prog.godebug = none := by kernel_rfl
theorem laidOut : laidOutB Try.prog = true := by kernel_rfl

set_option maxRecDepth 100000 in
theorem lifted (os : Os) (started : os.Started) (H : Type) (enc : TypeId × Value → H) :
    ReturnsInHanded {} Try.checked os 4 .any (Rows.macTellsSpec.pre6 enc Try.prog Try.f4 Rows.macTellsRow.domain false) (Rows.macTellsSpec.post enc Try.prog Try.f4 false true false false) := by
  refine returnsInHanded_of_change (C := Try.checked) own started (by kernel_rfl) Try.func4
    (ChangeSpec.witness6 (enc := enc) (C := Try.checked) false ⟨#[], #[.slice none 0 0, .slice none 0 0], []⟩ 8 (by kernel_rfl) (by kernel_rfl) (by kernel_rfl) (by kernel_rfl)) ?_
  intro W base args ds gs before hval0 hW hcnd _
  have hval : ∀ (j : Nat) t v, Try.f4.params[j]? = some t → args[j]? = some v → Value.okWide Try.prog W .any base t v := hval0
  have hW' := hW
  obtain ⟨p, q, hA0, hV, rfl, hfz, hnd⟩ := hW
  have hA : DataW.TrodAll enc Try.prog W 0 (fun _ => true) true Try.f4.params.toList args.toList ds p := hA0
  rw [Try.params4] at hA hval
  obtain ⟨v0, vs0, d0, ds0, p0, q0, hargs, rfl, rfl, h0, r0⟩ := trodAll_cons hA
  obtain ⟨v1, vs1, d1, ds1, p1, q1, rfl, rfl, rfl, h1, r1⟩ := trodAll_cons r0
  obtain ⟨rfl, rfl, rfl⟩ := trodAll_nil r1
  obtain rfl : args = #[v0, v1] := by cases args; simp_all
  obtain ⟨rfl, rfl⟩ := trodVars_none hV
  obtain ⟨a0, len0, cap0, rfl⟩ := okWide_slice Try.underlying23 (hval 0 23 v0 rfl rfl)
  have k0 := h0
  have lt0 : ∀ x ∈ p0, x.block < W.heap.size := by obtain ⟨m, hm⟩ := k0; exact DataW.trod_lt m _ _ _ hm
  obtain ⟨z0, w0⟩ : ∃ zs, IsRow .u8 W a0 len0 cap0 zs := by
    obtain ⟨fuel, hf⟩ := h0
    rcases open_ints Try.underlying23 Try.underlying5 (by kernel_rfl) hf with ⟨hcs, _⟩ | ⟨x, l, c, zs, hcs, _, hl, hm, hz, _, hcell, hwz⟩
    · simp [Value.cells] at hcs
      obtain ⟨rfl, rfl, rfl⟩ := hcs
      exact ⟨[], .inl ⟨rfl, rfl, rfl, rfl⟩⟩
    · simp [Value.cells] at hcs
      obtain ⟨rfl, rfl, rfl⟩ := hcs
      exact ⟨zs, .inr ⟨_, rfl, hl, hm, by simpa using hz, hcell, hwz⟩⟩
  obtain ⟨a1, len1, cap1, rfl⟩ := okWide_slice Try.underlying23 (hval 1 23 v1 rfl rfl)
  have k1 := h1
  have lt1 : ∀ x ∈ p1, x.block < W.heap.size := by obtain ⟨m, hm⟩ := k1; exact DataW.trod_lt m _ _ _ hm
  obtain ⟨z1, w1⟩ : ∃ zs, IsRow .u8 W a1 len1 cap1 zs := by
    obtain ⟨fuel, hf⟩ := h1
    rcases open_ints Try.underlying23 Try.underlying5 (by kernel_rfl) hf with ⟨hcs, _⟩ | ⟨x, l, c, zs, hcs, _, hl, hm, hz, _, hcell, hwz⟩
    · simp [Value.cells] at hcs
      obtain ⟨rfl, rfl, rfl⟩ := hcs
      exact ⟨[], .inl ⟨rfl, rfl, rfl, rfl⟩⟩
    · simp [Value.cells] at hcs
      obtain ⟨rfl, rfl, rfl⟩ := hcs
      exact ⟨zs, .inr ⟨_, rfl, hl, hm, by simpa using hz, hcell, hwz⟩⟩
  clear hA0 hval0
  refine (macTells_walk a0 len0 cap0 _ a1 len1 cap1 _ W (bsl_of_row w0) (bsl_of_row w1)).mono fun e W' ⟨he, bel⟩ => ?_
  subst he
  exact ⟨_, rfl, _, _, _, [], _, [], hW', trodAll_mk1 (shut_bool Try.underlying4 _), (trodAll_cons_mk (Below.trod laidOut (by kernel_rfl) (of_decide_eq_true (by kernel_rfl)) k0 bel lt0) (trodAll_cons_mk (Below.trod laidOut (by kernel_rfl) (of_decide_eq_true (by kernel_rfl)) k1 bel lt1) trodAll_mk0)), rfl, bel.frame _, fun h => by cases h⟩

theorem over : Rows.macTellsRow.holds Try.pinned (OpenSpec.ofChange Rows.macTellsSpec) :=
  OpenClaim.holds_of_wide 4 Try.f4 rfl rfl rfl rfl rfl rfl rfl ⟨rfl, rfl, rfl, rfl, rfl⟩ rfl rfl rfl rfl rfl (by kernel_rfl) Try.func4 (by kernel_rfl)
    (of_decide_eq_true (by kernel_rfl)) (by unfold Func.isWrapper; first | (rw [if_pos (by decide +kernel)]; kernel_rfl) | (rw [if_neg (by decide +kernel)]; exact ⟨rfl, rfl⟩))
    (fun os started H enc _ => lifted os started H enc)

/-- The statement. -/
theorem proved : Rows.MacTellsSaid := over
end Go.Proofs.Ytgididgijhpfpaa.macTells
