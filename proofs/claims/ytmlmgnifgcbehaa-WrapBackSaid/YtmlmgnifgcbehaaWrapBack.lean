/-
  WrapBackSaid: for any passphrase, key, salt and bytes (beyond 10,000 bytes the law itself answers what its example answers) what is wrapped is unwrapped by the same passphrase, in twenty-four bytes; what is unwrapped is wrapped as just these bytes; what is not, tells nothing. No condition.
-/
import Derived.Test.YtmlmgnifgcbehaaRows
import Derived.Test.YtmlmgnifgcbehaaWrapAll
import Derived.Test.YtmlmgnifgcbehaaArr
import Derived.ChangeMaps5
import Derived.BigQuiet
namespace Go.Proofs.Ytmlmgnifgcbehaa
open Go.RowKit Go.Shelf
set_option maxRecDepth 100000

theorem wrapBack_far (p : ByteArray) (a : Option Addr) (la ca : Nat) (b : Option Addr) (lb cb : Nat) (v : Value) (w : World) (hp : (p.size : Int) ≤ 9223372036854775807) (ha : (la : Int) ≤ 9223372036854775807) (hb : (lb : Int) ≤ 9223372036854775807)
    (h : (10000 : Int) < p.size ∨ ((p.size : Int) ≤ 10000 ∧ (10000 : Int) < la) ∨ ((p.size : Int) ≤ 10000 ∧ (la : Int) ≤ 10000 ∧ (10000 : Int) < lb)) :
    Calls Try.prog 5 #[.string p, .slice a la ca, v, .slice b lb cb] w fun e w' => e = .returned (.bool true) ∧ Below w.heap.size w w' := by
  have i0 : (0 : Int) ≤ p.size := by omega
  have i1 : (0 : Int) ≤ la := by omega
  have i2 : (0 : Int) ≤ lb := by omega
  rcases h with h | ⟨h1, h⟩ | ⟨h1, h2, h⟩
  all_goals
    go_enter Try.func5, Try.ntmps5
    go_wp2_with fail
    refine (alive_wrap _).mono ?_
    rintro e w1 ⟨rfl, b1⟩
    have HB1 := Lib.hid b1; clear b1
    go_wp2_with fail
    go_ret
    exact ⟨rfl, HB1.out⟩

/-- A byte laid behind k bits. -/
theorem or_shl (x z k : Nat) (hx : x < 2 ^ k) (hz : z * 2 ^ k < 4294967296) (hk : 2 ^ k ≤ 4294967296) : bits .or .u32 (x : Int) ((z : Int) * ((2 ^ k : Nat) : Int)) = ((x + 2 ^ k * z : Nat) : Int) := by
  rw [← Int.natCast_mul, u32_or_nat _ _ (by omega) hz]
  congr 1
  have := Nat.two_pow_add_eq_or_of_lt hx z
  rw [Nat.or_comm, Nat.mul_comm z, ← this, Nat.add_comm]
/-- The first four bytes of a list are those of their number. -/
theorem four_of (s : List UInt8) (h : s.length = 24) : leB 4 ((s.getD 0 0).toNat + 2 ^ 8 * (s.getD 1 0).toNat + 2 ^ 16 * (s.getD 2 0).toNat + 2 ^ 24 * (s.getD 3 0).toNat) = s.take 4 := by
  match s, h with
  | a :: b :: c :: d :: r, _ =>
    have := leB_leN [a, b, c, d]
    have e : leN [a, b, c, d] = a.toNat + 2 ^ 8 * b.toNat + 2 ^ 16 * c.toNat + 2 ^ 24 * d.toNat := by simp only [leN]; omega
    rw [e] at this
    exact this

set_option maxHeartbeats 8000000 in
theorem wrapBack_near (p : ByteArray) (a : Option Addr) (la ca : Nat) (s : List UInt8) (n : Nat) (hn : n < 4294967296) (b : Option Addr) (lb cb : Nat) (t : List UInt8) (w : World) (hp : (p.size : Int) ≤ 10000) (hla : (la : Int) ≤ 10000) (hlb : (lb : Int) ≤ 10000) (hA : Bsl w w.heap.size a la ca s) (hB : Bsl w w.heap.size b lb cb t) :
    Calls Try.prog 5 #[.string p, .slice a la ca, .int .u32 n, .slice b lb cb] w fun e w' => e = .returned (.bool true) ∧ Below w.heap.size w w' := by
  have i0 : (0 : Int) ≤ p.size := by omega
  have i1 : (0 : Int) ≤ la := by omega
  have i2 : (0 : Int) ≤ lb := by omega
  have n0 : (0 : Int) ≤ n := by omega
  have n1 : (n : Int) ≤ 4294967295 := by omega
  have HA := Lib.hid hA; clear hA
  have HB := Lib.hid hB; clear hB
  go_enter Try.func5, Try.ntmps5
  go_wp2_with fail
  refine (alive_wrap _).mono ?_
  rintro e w1 ⟨rfl, b1⟩
  have HA1 := Lib.hid (HA.out.step b1)
  have HB1 := Lib.hid (HB.out.step b1)
  have HE1 := Lib.hid b1; clear b1 HA HB
  go_wp2_with fail
  refine (wrap_all p (by omega) a la ca s n hn w1 HA1.out).mono ?_
  rintro e w2 (⟨_, hc, rfl, b2⟩ | ⟨⟨hp64, hla16⟩, hc, g2, c2, rfl, _, h2, b2⟩)
  · have hc' : (wrapC p.size la == 0) = false := by simpa using hc
    generalize wrapC p.size la = c at *
    have HB4 := Lib.hid (HB1.out.step b2)
    have HE4 := Lib.hid (HE1.out.trans (b2.mono HE1.out.size)); clear b2 HA1 HB1 HE1
    go_wp2_with fail
    refine (unwrap_all p (by omega) b lb cb t _ HB4.out).mono ?_
    rintro e w5 (⟨_, hd, rfl, b5⟩ | ⟨⟨hpx, hlb24, hr⟩, hd, g5, c5, rfl, _, h5, b5⟩)
    · have hd' : (unwrapC p lb t == 0) = false := by simpa using hd
      generalize unwrapC p lb t = d at *
      have HE5 := Lib.hid (HE4.out.trans (b5.mono HE4.out.size)); clear b5
      go_wp2_with fail
      go_ret
      exact ⟨rfl, HE5.out⟩
    · subst hlb24
      clear hd
      have HE5 := Lib.hid (HE4.out.trans (b5.mono HE4.out.size))
      have hB5 := HB4.out.step b5
      obtain ⟨bb, off, rfl, _, _⟩ := hB5.2.2.2.2 (by omega)
      have x0 := hB5.cellD 0 (by omega)
      rw [Nat.add_zero] at x0
      have x1 := hB5.cellD 1 (by omega)
      have x2 := hB5.cellD 2 (by omega)
      have x3 := hB5.cellD 3 (by omega)
      have hm := four_of t hB5.1
      have l0 := (t.getD 0 0).toNat_lt
      have l1 := (t.getD 1 0).toNat_lt
      have l2 := (t.getD 2 0).toNat_lt
      have l3 := (t.getD 3 0).toNat_lt
      generalize (t.getD 0 0).toNat = y0 at *
      generalize (t.getD 1 0).toNat = y1 at *
      generalize (t.getD 2 0).toNat = y2 at *
      generalize (t.getD 3 0).toNat = y3 at *
      have r1 : bits .or .u32 (y0 : Int) ((y1 : Int) * 256) = ((y0 + 2 ^ 8 * y1 : Nat) : Int) := or_shl y0 y1 8 (by omega) (by omega) (by omega)
      have r2 : bits .or .u32 ((y0 + 2 ^ 8 * y1 : Nat) : Int) ((y2 : Int) * 65536) = ((y0 + 2 ^ 8 * y1 + 2 ^ 16 * y2 : Nat) : Int) := or_shl (y0 + 2 ^ 8 * y1) y2 16 (by omega) (by omega) (by omega)
      have r3 : bits .or .u32 ((y0 + 2 ^ 8 * y1 + 2 ^ 16 * y2 : Nat) : Int) ((y3 : Int) * 16777216) = ((y0 + 2 ^ 8 * y1 + 2 ^ 16 * y2 + 2 ^ 24 * y3 : Nat) : Int) := or_shl (y0 + 2 ^ 8 * y1 + 2 ^ 16 * y2) y3 24 (by omega) (by omega) (by omega)
      have hlt : y0 + 2 ^ 8 * y1 + 2 ^ 16 * y2 + 2 ^ 24 * y3 < 4294967296 := by omega
      generalize y0 + 2 ^ 8 * y1 + 2 ^ 16 * y2 + 2 ^ 24 * y3 = m3 at *
      generalize y0 + 2 ^ 8 * y1 + 2 ^ 16 * y2 = m2 at *
      generalize y0 + 2 ^ 8 * y1 = m1 at *
      have u : ∀ y : Nat, y < 256 → IntKind.u32.wrap (y : Int) = y := fun y hy => by simp [IntKind.wrap, IntKind.bits, IntKind.signed]; omega
      have u0 := u y0 l0
      have u1 := u y1 l1
      have u2 := u y2 l2
      have u3 := u y3 l3
      have j0 : (0 : Int) ≤ y0 := by omega
      have j1 : (0 : Int) ≤ y1 := by omega
      have j2 : (0 : Int) ≤ y2 := by omega
      have j3 : (0 : Int) ≤ y3 := by omega
      have k0 : (y0 : Int) ≤ 255 := by omega
      have k1 : (y1 : Int) ≤ 255 := by omega
      have k2 : (y2 : Int) ≤ 255 := by omega
      have k3 : (y3 : Int) ≤ 255 := by omega
      have cw := fun W (hW : Below w5.heap.size w5 W) => wWrap_ok p (by omega) (some ⟨g5, 0, none⟩) c5 (keyOf (strB p) t) m3 hlt W (h5.step hW)
      rw [hm, wrapL_keyOf (strB p) t hB5.1 hr] at cw
      have HCW := Lib.hid cw; clear cw hm
      have HB5 := Lib.hid hB5; clear hB5
      have HR := Lib.hid hr; clear hr hpx
      have HL := Lib.hid hlt; clear hlt l0 l1 l2 l3 u b5 h5
      go_wp2_with fail
      go_quiet (fail)
      go_wp2_with fail
      refine (HCW.out _ (below_drewN (Below.refl _ w5) nq)).mono ?_
      rintro e w6 ⟨g6, c6, rfl, _, h6, b6⟩
      have b56 := (below_drewN (Below.refl w5.heap.size w5) nq).trans b6
      have v3 := h6.conv
      have v4 := (HB5.out.step b56).conv
      have HE6 := Lib.hid (HE5.out.trans (b56.mono HE5.out.size))
      clear b56 b6 h6 x0 x1 x2 x3
      go_wp2_with fail
      go_ret
      exact ⟨rfl, HE6.out⟩
  · subst hla16
    clear hc
    have HP := Lib.hid hp64; clear hp64
    have HA2 := Lib.hid (HA1.out.step b2)
    have HB2 := Lib.hid (HB1.out.step b2)
    have HE2 := Lib.hid (HE1.out.trans (b2.mono HE1.out.size)); clear b2
    have HX2 := Lib.hid h2; clear h2 HA1 HB1 HE1
    have cu := wUnwrap_ok p (by have := HP.out; omega) _ _ _ (wrapL_right (strB p) s (leB 4 n) HA2.out.1 (leB_length _ _)) w2 HX2.out
    rw [keyOf_wrapL _ _ _ HA2.out.1 (leB_length _ _)] at cu
    have HCU := Lib.hid cu; clear cu
    go_wp2_with fail
    refine HCU.out.mono ?_
    rintro e w4 ⟨g4, c4, rfl, _, h4, b4⟩
    have HB4 := Lib.hid (HB2.out.step b4)
    have HE4 := Lib.hid (HE2.out.trans (b4.mono HE2.out.size))
    have v1 := h4.conv
    have v2 := (HA2.out.step b4).conv
    clear b4 h4 HB2 HE2 HX2 HCU HA2
    go_wp2_with fail
    clear v1 v2
    refine (unwrap_all p (by omega) b lb cb t _ HB4.out).mono ?_
    rintro e w5 (⟨_, hd, rfl, b5⟩ | ⟨⟨hpx, hlb24, hr⟩, hd, g5, c5, rfl, _, h5, b5⟩)
    · have hd' : (unwrapC p lb t == 0) = false := by simpa using hd
      generalize unwrapC p lb t = d at *
      have HE5 := Lib.hid (HE4.out.trans (b5.mono HE4.out.size)); clear b5
      go_wp2_with fail
      go_ret
      exact ⟨rfl, HE5.out⟩
    · subst hlb24
      clear hd
      have HE5 := Lib.hid (HE4.out.trans (b5.mono HE4.out.size))
      have hB5 := HB4.out.step b5
      obtain ⟨bb, off, rfl, _, _⟩ := hB5.2.2.2.2 (by omega)
      have x0 := hB5.cellD 0 (by omega)
      rw [Nat.add_zero] at x0
      have x1 := hB5.cellD 1 (by omega)
      have x2 := hB5.cellD 2 (by omega)
      have x3 := hB5.cellD 3 (by omega)
      have hm := four_of t hB5.1
      have l0 := (t.getD 0 0).toNat_lt
      have l1 := (t.getD 1 0).toNat_lt
      have l2 := (t.getD 2 0).toNat_lt
      have l3 := (t.getD 3 0).toNat_lt
      generalize (t.getD 0 0).toNat = y0 at *
      generalize (t.getD 1 0).toNat = y1 at *
      generalize (t.getD 2 0).toNat = y2 at *
      generalize (t.getD 3 0).toNat = y3 at *
      have r1 : bits .or .u32 (y0 : Int) ((y1 : Int) * 256) = ((y0 + 2 ^ 8 * y1 : Nat) : Int) := or_shl y0 y1 8 (by omega) (by omega) (by omega)
      have r2 : bits .or .u32 ((y0 + 2 ^ 8 * y1 : Nat) : Int) ((y2 : Int) * 65536) = ((y0 + 2 ^ 8 * y1 + 2 ^ 16 * y2 : Nat) : Int) := or_shl (y0 + 2 ^ 8 * y1) y2 16 (by omega) (by omega) (by omega)
      have r3 : bits .or .u32 ((y0 + 2 ^ 8 * y1 + 2 ^ 16 * y2 : Nat) : Int) ((y3 : Int) * 16777216) = ((y0 + 2 ^ 8 * y1 + 2 ^ 16 * y2 + 2 ^ 24 * y3 : Nat) : Int) := or_shl (y0 + 2 ^ 8 * y1 + 2 ^ 16 * y2) y3 24 (by omega) (by omega) (by omega)
      have hlt : y0 + 2 ^ 8 * y1 + 2 ^ 16 * y2 + 2 ^ 24 * y3 < 4294967296 := by omega
      generalize y0 + 2 ^ 8 * y1 + 2 ^ 16 * y2 + 2 ^ 24 * y3 = m3 at *
      generalize y0 + 2 ^ 8 * y1 + 2 ^ 16 * y2 = m2 at *
      generalize y0 + 2 ^ 8 * y1 = m1 at *
      have u : ∀ y : Nat, y < 256 → IntKind.u32.wrap (y : Int) = y := fun y hy => by simp [IntKind.wrap, IntKind.bits, IntKind.signed]; omega
      have u0 := u y0 l0
      have u1 := u y1 l1
      have u2 := u y2 l2
      have u3 := u y3 l3
      have j0 : (0 : Int) ≤ y0 := by omega
      have j1 : (0 : Int) ≤ y1 := by omega
      have j2 : (0 : Int) ≤ y2 := by omega
      have j3 : (0 : Int) ≤ y3 := by omega
      have k0 : (y0 : Int) ≤ 255 := by omega
      have k1 : (y1 : Int) ≤ 255 := by omega
      have k2 : (y2 : Int) ≤ 255 := by omega
      have k3 : (y3 : Int) ≤ 255 := by omega
      have cw := fun W (hW : Below w5.heap.size w5 W) => wWrap_ok p (by omega) (some ⟨g5, 0, none⟩) c5 (keyOf (strB p) t) m3 hlt W (h5.step hW)
      rw [hm, wrapL_keyOf (strB p) t hB5.1 hr] at cw
      have HCW := Lib.hid cw; clear cw hm
      have HB5 := Lib.hid hB5; clear hB5
      have HR := Lib.hid hr; clear hr hpx
      have HL := Lib.hid hlt; clear hlt l0 l1 l2 l3 u b5 h5
      go_wp2_with fail
      go_quiet (fail)
      go_wp2_with fail
      refine (HCW.out _ (below_drewN (Below.refl _ w5) nq)).mono ?_
      rintro e w6 ⟨g6, c6, rfl, _, h6, b6⟩
      have b56 := (below_drewN (Below.refl w5.heap.size w5) nq).trans b6
      have v3 := h6.conv
      have v4 := (HB5.out.step b56).conv
      have HE6 := Lib.hid (HE5.out.trans (b56.mono HE5.out.size))
      clear b56 b6 h6 x0 x1 x2 x3
      go_wp2_with fail
      go_ret
      exact ⟨rfl, HE6.out⟩
theorem wrapBack_walk (p : ByteArray) (a : Option Addr) (la ca : Nat) (s : List UInt8) (z : Int) (b : Option Addr) (lb cb : Nat) (t : List UInt8) (w : World) (hp : p.size ≤ maxLen) (hA : Bsl w w.heap.size a la ca s) (hz : (Lit.int .u32 z).wf = true) (hB : Bsl w w.heap.size b lb cb t) :
    Calls Try.prog 5 #[.string p, .slice a la ca, .int .u32 z, .slice b lb cb] w fun e w' => e = .returned (.bool true) ∧ Below w.heap.size w w' := by
  obtain ⟨h1, h2⟩ := u32_of_wf hz
  obtain ⟨n, rfl⟩ := Int.eq_ofNat_of_zero_le h1
  have hm : (p.size : Int) ≤ 9223372036854775807 := by unfold maxLen at hp; omega
  have ha : (la : Int) ≤ 9223372036854775807 := by have h3 := hA.2.1; have h4 := hA.2.2.1; unfold maxLen at h4; omega
  have hb : (lb : Int) ≤ 9223372036854775807 := by have h3 := hB.2.1; have h4 := hB.2.2.1; unfold maxLen at h4; omega
  by_cases k : (p.size : Int) ≤ 10000 ∧ (la : Int) ≤ 10000 ∧ (lb : Int) ≤ 10000
  · exact wrapBack_near p a la ca s n (by omega) b lb cb t w k.1 k.2.1 k.2.2 hA hB
  · exact wrapBack_far p a la ca b lb cb _ w hm ha hb (by omega)
end Go.Proofs.Ytmlmgnifgcbehaa

namespace Go.Proofs.Ytmlmgnifgcbehaa.wrapBack
open Go.ChangeShapes Go.WideShapes Go.ChangeAt Go.RowKit
open Go.ChangeMaps (open_string shut_string)
set_option linter.unusedVariables false

theorem own : ownKnob Try.prog.godebug = none := by kernel_rfl
theorem laidOut : laidOutB Try.prog = true := by kernel_rfl

set_option maxRecDepth 100000 in
theorem lifted (os : Os) (started : os.Started) (H : Type) (enc : TypeId × Value → H) :
    ReturnsInHanded {} Try.checked os 5 .any (Rows.wrapBackSpec.pre6 enc Try.prog Try.f5 Rows.wrapBackRow.domain false) (Rows.wrapBackSpec.post enc Try.prog Try.f5 false true false false) := by
  refine returnsInHanded_of_change (C := Try.checked) own started (by kernel_rfl) Try.func5
    (ChangeSpec.witness6 (enc := enc) (C := Try.checked) false ⟨#[], #[.string ⟨#[]⟩, .slice none 0 0, .int .u32 0, .slice none 0 0], []⟩ 8 (by kernel_rfl) (by kernel_rfl) (by kernel_rfl) (by kernel_rfl)) ?_
  intro W base args ds gs before hval0 hW hcnd _
  have hval : ∀ (j : Nat) t v, Try.f5.params[j]? = some t → args[j]? = some v → Value.okWide Try.prog W .any base t v := hval0
  have hW' := hW
  obtain ⟨p, q, hA0, hV, rfl, hfz, hnd⟩ := hW
  have hA : DataW.TrodAll enc Try.prog W 0 (fun _ => true) true Try.f5.params.toList args.toList ds p := hA0
  rw [Try.params5] at hA hval
  obtain ⟨v0, vs0, d0, ds0, p0, q0, hargs, rfl, rfl, h0, r0⟩ := trodAll_cons hA
  obtain ⟨v1, vs1, d1, ds1, p1, q1, rfl, rfl, rfl, h1, r1⟩ := trodAll_cons r0
  obtain ⟨v2, vs2, d2, ds2, p2, q2, rfl, rfl, rfl, h2, r2⟩ := trodAll_cons r1
  obtain ⟨v3, vs3, d3, ds3, p3, q3, rfl, rfl, rfl, h3, r3⟩ := trodAll_cons r2
  obtain ⟨rfl, rfl, rfl⟩ := trodAll_nil r3
  obtain rfl : args = #[v0, v1, v2, v3] := by cases args; simp_all
  obtain ⟨rfl, rfl⟩ := trodVars_none hV
  obtain ⟨s0, rfl, rfl, rfl, w0⟩ := open_string Try.underlying9 (hval 0 9 v0 rfl rfl) h0
  obtain ⟨a1, len1, cap1, rfl⟩ := okWide_slice Try.underlying22 (hval 1 22 v1 rfl rfl)
  have k1 := h1
  have lt1 : ∀ x ∈ p1, x.block < W.heap.size := by obtain ⟨m, hm⟩ := k1; exact DataW.trod_lt m _ _ _ hm
  obtain ⟨z1, w1⟩ : ∃ zs, IsRow .u8 W a1 len1 cap1 zs := by
    obtain ⟨fuel, hf⟩ := h1
    rcases open_ints Try.underlying22 Try.underlying5 (by kernel_rfl) hf with ⟨hcs, _⟩ | ⟨x, l, c, zs, hcs, _, hl, hm, hz, _, hcell, hwz⟩
    · simp [Value.cells] at hcs
      obtain ⟨rfl, rfl, rfl⟩ := hcs
      exact ⟨[], .inl ⟨rfl, rfl, rfl, rfl⟩⟩
    · simp [Value.cells] at hcs
      obtain ⟨rfl, rfl, rfl⟩ := hcs
      exact ⟨zs, .inr ⟨_, rfl, hl, hm, by simpa using hz, hcell, hwz⟩⟩
  obtain ⟨a2, rfl, rfl, rfl, w2⟩ := open_int Try.underlying26 (hval 2 26 v2 rfl rfl) h2
  obtain ⟨a3, len3, cap3, rfl⟩ := okWide_slice Try.underlying22 (hval 3 22 v3 rfl rfl)
  have k3 := h3
  have lt3 : ∀ x ∈ p3, x.block < W.heap.size := by obtain ⟨m, hm⟩ := k3; exact DataW.trod_lt m _ _ _ hm
  obtain ⟨z3, w3⟩ : ∃ zs, IsRow .u8 W a3 len3 cap3 zs := by
    obtain ⟨fuel, hf⟩ := h3
    rcases open_ints Try.underlying22 Try.underlying5 (by kernel_rfl) hf with ⟨hcs, _⟩ | ⟨x, l, c, zs, hcs, _, hl, hm, hz, _, hcell, hwz⟩
    · simp [Value.cells] at hcs
      obtain ⟨rfl, rfl, rfl⟩ := hcs
      exact ⟨[], .inl ⟨rfl, rfl, rfl, rfl⟩⟩
    · simp [Value.cells] at hcs
      obtain ⟨rfl, rfl, rfl⟩ := hcs
      exact ⟨zs, .inr ⟨_, rfl, hl, hm, by simpa using hz, hcell, hwz⟩⟩
  clear hA0 hval0
  refine (wrapBack_walk s0 a1 len1 cap1 _ a2 a3 len3 cap3 _ W w0 (bsl_of_row w1) w2 (bsl_of_row w3)).mono fun e W' ⟨he, bel⟩ => ?_
  subst he
  exact ⟨_, rfl, _, _, _, [], _, [], hW', trodAll_mk1 (shut_bool Try.underlying4 _), (trodAll_cons_mk (shut_string Try.underlying9 w0) (trodAll_cons_mk (Below.trod laidOut (by kernel_rfl) (of_decide_eq_true (by kernel_rfl)) k1 bel lt1) (trodAll_cons_mk (shut_int Try.underlying26 w2) (trodAll_cons_mk (Below.trod laidOut (by kernel_rfl) (of_decide_eq_true (by kernel_rfl)) k3 bel lt3) trodAll_mk0)))), rfl, bel.frame _, fun h => by cases h⟩

theorem over : Rows.wrapBackRow.holds Try.pinned (OpenSpec.ofChange Rows.wrapBackSpec) :=
  OpenClaim.holds_of_wide 5 Try.f5 rfl rfl rfl rfl rfl rfl rfl ⟨rfl, rfl, rfl, rfl, rfl⟩ rfl rfl rfl rfl rfl (by kernel_rfl) Try.func5 (by kernel_rfl)
    (of_decide_eq_true (by kernel_rfl)) (by unfold Func.isWrapper; first | (rw [if_pos (by decide +kernel)]; kernel_rfl) | (rw [if_neg (by decide +kernel)]; exact ⟨rfl, rfl⟩))
    (fun os started H enc _ => lifted os started H enc)

/-- The statement. -/
theorem proved : Rows.WrapBackSaid := over
end Go.Proofs.Ytmlmgnifgcbehaa.wrapBack
