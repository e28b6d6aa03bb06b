/-
  CipherTellsSaid: for any key, number, length and bytes (beyond 10,000 bytes the law itself answers true) what Stream and Turn answer, and their errors, are the document's own; the bytes stay, though what Turn answered is written to. No condition.
-/
import Derived.Test.YtdgonikcjjnocaaRows
import Derived.Test.YtdgonikcjjnocaaCipherRef
import Derived.Test.YtdgonikcjjnocaaArr
namespace Go.Proofs.Ytdgonikcjjnocaa
open Go.RowKit Go.Shelf
set_option maxRecDepth 100000

theorem tells_stream (a : Option Addr) (len cap : Nat) (k : List UInt8) (iv : Nat) (hiv : iv < 4294967296) (n : Int) : ∃ c N s, ∀ W, Bsl W W.heap.size a len cap k →
    Calls Try.prog 7 #[.slice a len cap, .int .u32 iv, .int .i64 n] W (Out' c N s W) ∧ Calls Try.prog 10 #[.slice a len cap, .int .u32 iv, .int .i64 n] W (Out' c N s W) := by
  by_cases h : len = 16
  · subst h
    by_cases h1 : n < 0
    · exact ⟨2, 0, [], fun W _ => ⟨(Stream_neg a cap _ n h1 W).mono fun _ _ => Out.out', rStream_neg a cap _ n h1 W⟩⟩
    · by_cases h2 : 4096 < n
      · exact ⟨2, 0, [], fun W _ => ⟨(Stream_far a cap _ n h2 W).mono fun _ _ => Out.out', rStream_far a cap _ n h2 W⟩⟩
      · obtain ⟨N, rfl⟩ := Int.eq_ofNat_of_zero_le (show 0 ≤ n by omega)
        exact ⟨0, N, _, fun W hA => ⟨(Stream_ok a cap k iv N hiv (by omega) W hA).mono fun _ _ => Out.out', rStream_ok a cap k iv N hiv (by omega) W hA⟩⟩
  · exact ⟨2, 0, [], fun W _ => ⟨(Stream_key a len cap h _ n W).mono fun _ _ => Out.out', rStream_key a len cap h _ n W⟩⟩
theorem tells_turn (a : Option Addr) (len cap : Nat) (k : List UInt8) (iv : Nat) (hiv : iv < 4294967296) (b : Option Addr) (lb cb : Nat) (s : List UInt8) : ∃ c N t, ∀ W, Bsl W W.heap.size a len cap k → Bsl W W.heap.size b lb cb s →
    Calls Try.prog 8 #[.slice a len cap, .int .u32 iv, .slice b lb cb] W (Out c N t W) ∧ Calls Try.prog 11 #[.slice a len cap, .int .u32 iv, .slice b lb cb] W (Out' c N t W) := by
  by_cases h : len = 16
  · subst h
    by_cases h1 : 4096 < lb
    · exact ⟨3, 0, [], fun W _ _ => ⟨Turn_far a cap _ b lb cb h1 W, rTurn_far a cap _ b lb cb h1 W⟩⟩
    · exact ⟨0, lb, _, fun W hA hS => ⟨Turn_ok a cap k iv hiv b lb cb s (by omega) W hA hS, rTurn_ok a cap k iv hiv b lb cb s (by omega) W hA hS⟩⟩
  · exact ⟨2, 0, [], fun W _ _ => ⟨Turn_key a len cap h _ _ W, rTurn_key a len cap h _ _ W⟩⟩

theorem cipherTells_far (a : Option Addr) (la ca : Nat) (u v : Value) (b : Option Addr) (lb cb : Nat) (w : World) (_ha : (la : Int) ≤ 9223372036854775807) (_hb : (lb : Int) ≤ 9223372036854775807) (h : (10000 : Int) < la ∨ ((la : Int) ≤ 10000 ∧ (10000 : Int) < lb)) :
    Calls Try.prog 4 #[.slice a la ca, u, v, .slice b lb cb] w fun e w' => e = .returned (.bool true) ∧ Below w.heap.size w w' := by
  have i1 : (0 : Int) ≤ la := by omega
  have i2 : (0 : Int) ≤ lb := by omega
  rcases h with h | ⟨h1, h⟩
  all_goals
    go_enter Try.func4, Try.ntmps4
    go_wp2_with fail
    go_ret
    exact ⟨rfl, Below.refl _ _⟩

set_option maxHeartbeats 8000000 in
theorem cipherTells_near (a : Option Addr) (la ca : Nat) (k : List UInt8) (iv : Nat) (hiv : iv < 4294967296) (n : Int) (b : Option Addr) (lb cb : Nat) (s : List UInt8) (w : World) (hla : (la : Int) ≤ 10000) (hlb : (lb : Int) ≤ 10000) (hA : Bsl w w.heap.size a la ca k) (hB : Bsl w w.heap.size b lb cb s) :
    Calls Try.prog 4 #[.slice a la ca, .int .u32 iv, .int .i64 n, .slice b lb cb] w fun e w' => e = .returned (.bool true) ∧ Below w.heap.size w w' := by
  have i1 : (0 : Int) ≤ la := by omega
  have i2 : (0 : Int) ≤ lb := by omega
  obtain ⟨c1, N1, S1, t1⟩ := tells_stream a la ca k iv hiv n
  obtain ⟨c2, N2, S2, t2⟩ := tells_turn a la ca k iv hiv b lb cb s
  have v1 := hB.conv
  have T1 := Lib.hid t1; clear t1
  have T2 := Lib.hid t2; clear t2
  have HA := Lib.hid hA; clear hA
  have HB := Lib.hid hB; clear hB
  go_enter Try.func4, Try.ntmps4
  go_wp2_with fail
  clear v1
  refine (T1.out w HA.out).1.mono ?_
  rintro e w1 ⟨a1, k1, rfl, h1, b1⟩
  have HA1 := Lib.hid (HA.out.step b1)
  have HB1 := Lib.hid (HB.out.step b1)
  have HX1 := Lib.hid h1; clear h1
  have HE1 := Lib.hid b1; clear b1 HA
  go_wp2_with fail
  refine (T1.out w1 HA1.out).2.mono ?_
  rintro e w2 ⟨a2, k2, rfl, h2, b2⟩
  have HA2 := Lib.hid (HA1.out.step b2)
  have HB2 := Lib.hid (HB1.out.step b2)
  have HX2 := Lib.hid (HX1.out.step b2)
  have HY2 := Lib.hid h2; clear h2
  have HE2 := Lib.hid (HE1.out.trans (b2.mono HE1.out.size)); clear b2 HA1 HB1 HX1 HE1
  go_wp2_with fail
  refine (T2.out w2 HA2.out HB2.out).1.mono ?_
  rintro e w3 ⟨a3, k3, rfl, h3, b3⟩
  have HA3 := Lib.hid (HA2.out.step b3)
  have HB3 := Lib.hid (HB2.out.step b3)
  have HX3 := Lib.hid (HX2.out.step b3)
  have HY3 := Lib.hid (HY2.out.step b3)
  have HV3 := Lib.hid (own_base h3 HE2.out.size); clear h3
  have HE3 := Lib.hid (HE2.out.trans (b3.mono HE2.out.size)); clear b3 HA2 HB2 HX2 HY2 HE2
  go_wp2_with fail
  refine (T2.out w3 HA3.out HB3.out).2.mono ?_
  rintro e w4 ⟨a4, k4, rfl, h4, b4⟩
  have q3 := (HX3.out.step b4).conv
  have q4 := (HY3.out.step b4).conv
  have hv4 := own_below HV3.out b4
  have q5 := (own_bsl hv4).conv
  have q6 := h4.conv
  have HV4 := Lib.hid hv4
  have HE4 := Lib.hid (HE3.out.trans (b4.mono HE3.out.size)); clear b4 hv4 h4 HA3 HB3 HX3 HY3 HE3 HV3
  go_wp2_with fail
  clear q3 q4 q5 q6
  have hn0 : (0 : Int) ≤ N2 := by omega
  have hn1 : (N2 : Int) ≤ 9223372036854775807 := by have := (own_bsl HV4.out).2; have h5 := this.2.1; unfold maxLen at h5; omega
  have hst : ∀ g, a3 = some ⟨g, 0, none⟩ → ∃ t, RowI w4 g N2 k3 t := by
    rintro g rfl
    exact ⟨_, (rowI_of HV4.out).1⟩
  go_loopw [19] (fun i wr => ∃ j : Nat, j ≤ N2 ∧ i = .int .i64 j ∧ Hid (∀ g, a3 = some ⟨g, 0, none⟩ → ∃ t, RowI wr g N2 k3 t) ∧ Hid (Below w.heap.size w wr)) (fun i _ => N2 - (intOf i).toNat)
  case atStart => exact ⟨0, Nat.zero_le _, rfl, Lib.hid hst, HE4⟩
  case round =>
    obtain ⟨j, hj, rfl, HRr, HBr⟩ := hrel
    by_cases hlt : j < N2
    · have j0 : (0 : Int) ≤ j := by omega
      have j1 : (j : Int) < N2 := by omega
      obtain ⟨g, rfl, hgb⟩ : ∃ g, a3 = some ⟨g, 0, none⟩ ∧ w.heap.size ≤ g := by
        obtain ⟨_, ⟨h, h'⟩ | ⟨g, c, _, h, h', _⟩⟩ := HV4.out
        · omega
        · cases h; exact ⟨g, rfl, h'⟩
      obtain ⟨t, hr⟩ := HRr.out g rfl
      have htl : t.length = N2 := by obtain ⟨_, _, _, h, _⟩ := hr; exact h
      have hjt : j < t.length := by omega
      have ct := hr.holds j hjt
      have ft : wr.frozen? ⟨g, j, none⟩ = false := by obtain ⟨cur, hc, _⟩ := hr; exact hc.frozen j
      obtain ⟨x, hx⟩ : ∃ x, t[j] = x := ⟨_, rfl⟩
      rw [hx] at ct
      have hx1 : (((x + 1 : UInt8).toNat : Nat) : Int) = ((x.toNat : Int) + 1) % 256 := by rw [UInt8.toNat_add]; simp
      have hs := hr.set_ hlt (x + 1)
      rw [hx1] at hs
      have HS := Lib.hid hs; clear hs hr hx1 hx hjt htl
      have x0 : (0 : Int) ≤ x.toNat := by omega
      have x1 : (x.toNat : Int) ≤ 255 := by have := x.toNat_lt; omega
      go_wp2_with fail
      go_roundw
      case rel => exact ⟨j + 1, by omega, by go_num, Lib.hid (fun _ e => by cases e; exact ⟨_, HS.out⟩), Lib.hid (HBr.out.setCell (p := ⟨g, j, none⟩) hgb _)⟩
      case measure => simp [intOf]; omega
    · obtain rfl : j = N2 := by omega
      have v9 := (HB.out.below HBr.out).conv
      clear hst
      go_wp2_with fail
      go_ret
      exact ⟨rfl, HBr.out⟩
theorem cipherTells_walk (a0 : Option Addr) (len0 cap0 : Nat) (s0 : List UInt8) (a1 : Int) (a2 : Int) (a3 : Option Addr) (len3 cap3 : Nat) (s3 : List UInt8) (w : World) (h0 : Bsl w w.heap.size a0 len0 cap0 s0) (w1 : (Lit.int .u32 a1).wf = true) (_w2 : (Lit.int .i64 a2).wf = true) (h3 : Bsl w w.heap.size a3 len3 cap3 s3) :
    Calls Try.prog 4 #[.slice a0 len0 cap0, .int .u32 a1, .int .i64 a2, .slice a3 len3 cap3] w fun e w' => e = .returned (.bool true) ∧ Below w.heap.size w w' := by
  obtain ⟨h1, h2⟩ := u32_of_wf w1
  obtain ⟨n, rfl⟩ := Int.eq_ofNat_of_zero_le h1
  have ha : (len0 : Int) ≤ 9223372036854775807 := by have h3 := h0.2.1; have h4 := h0.2.2.1; unfold maxLen at h4; omega
  have hb : (len3 : Int) ≤ 9223372036854775807 := by have h5 := h3.2.1; have h4 := h3.2.2.1; unfold maxLen at h4; omega
  by_cases k : (len0 : Int) ≤ 10000 ∧ (len3 : Int) ≤ 10000
  · exact cipherTells_near a0 len0 cap0 s0 n (by omega) a2 a3 len3 cap3 s3 w k.1 k.2 h0 h3
  · exact cipherTells_far a0 len0 cap0 _ _ a3 len3 cap3 w ha hb (by omega)
end Go.Proofs.Ytdgonikcjjnocaa

namespace Go.Proofs.Ytdgonikcjjnocaa.cipherTells
open Go.ChangeShapes Go.WideShapes Go.ChangeAt Go.RowKit
set_option linter.unusedVariables false

theorem own : ownKnob Try.prog.godebug = none := by kernel_rfl
theorem laidOut : laidOutB Try.prog = true := by kernel_rfl

set_option maxRecDepth 100000 in
theorem lifted (os : Os) (started : os.Started) (H : Type) (enc : TypeId × Value → H) :
    ReturnsInHanded {} Try.checked os 4 .any (Rows.cipherTellsSpec.pre6 enc Try.prog Try.f4 Rows.cipherTellsRow.domain false) (Rows.cipherTellsSpec.post enc Try.prog Try.f4 false true false false) := by
  refine returnsInHanded_of_change (C := Try.checked) own started (by kernel_rfl) Try.func4
    (ChangeSpec.witness6 (enc := enc) (C := Try.checked) false ⟨#[], #[.slice none 0 0, .int .u32 0, .int .i64 0, .slice none 0 0], []⟩ 8 (by kernel_rfl) (by kernel_rfl) (by kernel_rfl) (by kernel_rfl)) ?_
  intro W base args ds gs before hval0 hW hcnd _
  have hval : ∀ (j : Nat) t v, Try.f4.params[j]? = some t → args[j]? = some v → Value.okWide Try.prog W .any base t v := hval0
  have hW' := hW
  obtain ⟨p, q, hA0, hV, rfl, hfz, hnd⟩ := hW
  have hA : DataW.TrodAll enc Try.prog W 0 (fun _ => true) true Try.f4.params.toList args.toList ds p := hA0
  rw [Try.params4] at hA hval
  obtain ⟨v0, vs0, d0, ds0, p0, q0, hargs, rfl, rfl, h0, r0⟩ := trodAll_cons hA
  obtain ⟨v1, vs1, d1, ds1, p1, q1, rfl, rfl, rfl, h1, r1⟩ := trodAll_cons r0
  obtain ⟨v2, vs2, d2, ds2, p2, q2, rfl, rfl, rfl, h2, r2⟩ := trodAll_cons r1
  obtain ⟨v3, vs3, d3, ds3, p3, q3, rfl, rfl, rfl, h3, r3⟩ := trodAll_cons r2
  obtain ⟨rfl, rfl, rfl⟩ := trodAll_nil r3
  obtain rfl : args = #[v0, v1, v2, v3] := by cases args; simp_all
  obtain ⟨rfl, rfl⟩ := trodVars_none hV
  obtain ⟨a0, len0, cap0, rfl⟩ := okWide_slice Try.underlying22 (hval 0 22 v0 rfl rfl)
  have k0 := h0
  have lt0 : ∀ x ∈ p0, x.block < W.heap.size := by obtain ⟨m, hm⟩ := k0; exact DataW.trod_lt m _ _ _ hm
  obtain ⟨z0, w0⟩ : ∃ zs, IsRow .u8 W a0 len0 cap0 zs := by
    obtain ⟨fuel, hf⟩ := h0
    rcases open_ints Try.underlying22 Try.underlying5 (by kernel_rfl) hf with ⟨hcs, _⟩ | ⟨x, l, c, zs, hcs, _, hl, hm, hz, _, hcell, hwz⟩
    · simp [Value.cells] at hcs
      obtain ⟨rfl, rfl, rfl⟩ := hcs
      exact ⟨[], .inl ⟨rfl, rfl, rfl, rfl⟩⟩
    · simp [Value.cells] at hcs
      obtain ⟨rfl, rfl, rfl⟩ := hcs
      exact ⟨zs, .inr ⟨_, rfl, hl, hm, by simpa using hz, hcell, hwz⟩⟩
  obtain ⟨a1, rfl, rfl, rfl, w1⟩ := open_int Try.underlying26 (hval 1 26 v1 rfl rfl) h1
  obtain ⟨a2, rfl, rfl, rfl, w2⟩ := open_int Try.underlying3 (hval 2 3 v2 rfl rfl) h2
  obtain ⟨a3, len3, cap3, rfl⟩ := okWide_slice Try.underlying22 (hval 3 22 v3 rfl rfl)
  have k3 := h3
  have lt3 : ∀ x ∈ p3, x.block < W.heap.size := by obtain ⟨m, hm⟩ := k3; exact DataW.trod_lt m _ _ _ hm
  obtain ⟨z3, w3⟩ : ∃ zs, IsRow .u8 W a3 len3 cap3 zs := by
    obtain ⟨fuel, hf⟩ := h3
    rcases open_ints Try.underlying22 Try.underlying5 (by kernel_rfl) hf with ⟨hcs, _⟩ | ⟨x, l, c, zs, hcs, _, hl, hm, hz, _, hcell, hwz⟩
    · simp [Value.cells] at hcs
      obtain ⟨rfl, rfl, rfl⟩ := hcs
      exact ⟨[], .inl ⟨rfl, rfl, rfl, rfl⟩⟩
    · simp [Value.cells] at hcs
      obtain ⟨rfl, rfl, rfl⟩ := hcs
      exact ⟨zs, .inr ⟨_, rfl, hl, hm, by simpa using hz, hcell, hwz⟩⟩
  clear hA0 hval0
  refine (cipherTells_walk a0 len0 cap0 _ a1 a2 a3 len3 cap3 _ W (bsl_of_row w0) w1 w2 (bsl_of_row w3)).mono fun e W' ⟨he, bel⟩ => ?_
  subst he
  exact ⟨_, rfl, _, _, _, [], _, [], hW', trodAll_mk1 (shut_bool Try.underlying4 _), (trodAll_cons_mk (Below.trod laidOut (by kernel_rfl) (of_decide_eq_true (by kernel_rfl)) k0 bel lt0) (trodAll_cons_mk (shut_int Try.underlying26 w1) (trodAll_cons_mk (shut_int Try.underlying3 w2) (trodAll_cons_mk (Below.trod laidOut (by kernel_rfl) (of_decide_eq_true (by kernel_rfl)) k3 bel lt3) trodAll_mk0)))), rfl, bel.frame _, fun h => by cases h⟩

theorem over : Rows.cipherTellsRow.holds Try.pinned (OpenSpec.ofChange Rows.cipherTellsSpec) :=
  OpenClaim.holds_of_wide 4 Try.f4 rfl rfl rfl rfl rfl rfl rfl ⟨rfl, rfl, rfl, rfl, rfl⟩ rfl rfl rfl rfl rfl (by kernel_rfl) Try.func4 (by kernel_rfl)
    (of_decide_eq_true (by kernel_rfl)) (by unfold Func.isWrapper; first | (rw [if_pos (by decide +kernel)]; kernel_rfl) | (rw [if_neg (by decide +kernel)]; exact ⟨rfl, rfl⟩))
    (fun os started H enc _ => lifted os started H enc)

/-- The statement. -/
theorem proved : Rows.CipherTellsSaid := over
end Go.Proofs.Ytdgonikcjjnocaa.cipherTells
