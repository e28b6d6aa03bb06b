/-
  ChainLessSaid: for any two texts (where one has more than 10,000 bytes the law itself answers what its example answers): their digits are ten numbers from 0 to 15 each; of two texts with unlike sums each has a digit that is less than the other one's there, of two texts with one sum neither has. No condition.
-/
import Derived.Test.YtmegnjmnkhpppaaRows
import Derived.Test.YtmegnjmnkhpppaaChainAll
import Derived.Test.YtmegnjmnkhpppaaArr
namespace Go.Proofs.Ytmegnjmnkhpppaa
open Go.RowKit Go.Shelf
set_option maxRecDepth 100000

/-- A number is told by its digits. -/
theorem dig_inj : ∀ (n x y : Nat), x < 16 ^ n → y < 16 ^ n → (∀ i, i < n → x / 16 ^ i % 16 = y / 16 ^ i % 16) → x = y
  | 0, x, y, hx, hy, _ => by simp at hx hy; omega
  | n + 1, x, y, hx, hy, h => by
    have h0 := h 0 (by omega)
    rw [Nat.pow_zero, Nat.div_one, Nat.div_one] at h0
    rw [Nat.pow_succ] at hx hy
    have ih := dig_inj n (x / 16) (y / 16) (by omega) (by omega) fun i hi => by
      have := h (i + 1) (by omega)
      rw [Nat.pow_succ, Nat.mul_comm, ← Nat.div_div_eq_div_mul, ← Nat.div_div_eq_div_mul] at this
      exact this
    omega
/-- Who has digits that are nowhere less lacks no more; as much only if they are the same. -/
theorem lack_mono (l m : List Nat) : ∀ n, (∀ i, i < n → l.getD i 0 ≤ m.getD i 0 ∧ m.getD i 0 ≤ 15) → lackN m n ≤ lackN l n ∧ (lackN m n = lackN l n → ∀ i, i < n → l.getD i 0 = m.getD i 0)
  | 0, _ => ⟨Nat.le_refl _, fun _ i h => absurd h (by omega)⟩
  | n + 1, h => by
    obtain ⟨i1, i2⟩ := lack_mono l m n fun i hi => h i (by omega)
    obtain ⟨h1, h2⟩ := h n (by omega)
    refine ⟨by rw [lackN, lackN]; omega, fun e i hi => ?_⟩
    rw [lackN, lackN] at e
    rcases Nat.lt_or_ge i n with hin | hin
    · exact i2 (by omega) i hin
    · obtain rfl : i = n := by omega
      omega
theorem dig_less (x y : Nat) (hx : x < 4294967296) (hy : y < 4294967296) (h : x ≠ y) : ∃ i, i < 10 ∧ (digL x).getD i 0 < (digL y).getD i 0 := by
  refine Classical.byContradiction fun hn => ?_
  have hle : ∀ i, i < 10 → (digL y).getD i 0 ≤ (digL x).getD i 0 := fun i hi => by
    rcases Nat.lt_or_ge ((digL x).getD i 0) ((digL y).getD i 0) with h1 | h1
    · exact absurd ⟨i, hi, h1⟩ hn
    · exact h1
  have hlo : ∀ i, i < 8 → (lowD y 8).getD i 0 ≤ (lowD x 8).getD i 0 ∧ (lowD x 8).getD i 0 ≤ 15 := fun i hi => by
    have := hle i (by omega)
    rw [digL_lo _ _ hi, digL_lo _ _ hi] at this
    rw [lowD_get _ _ _ hi, lowD_get _ _ _ hi]
    omega
  obtain ⟨m1, m2⟩ := lack_mono _ _ 8 hlo
  have h8 := hle (8 + 0) (by omega)
  have h9 := hle (8 + 1) (by omega)
  rw [digL_hi _ _ (by omega), digL_hi _ _ (by omega)] at h8 h9
  rw [Nat.pow_zero, Nat.div_one, Nat.div_one] at h8
  rw [Nat.pow_one] at h9
  have l1 := lackN_le (lowD x 8) 8
  have l2 := lackN_le (lowD y 8) 8
  have he : lackN (lowD x 8) 8 = lackN (lowD y 8) 8 := by omega
  refine h (dig_inj 8 x y hx hy fun i hi => ?_)
  have := m2 he i hi
  rw [lowD_get _ _ _ hi, lowD_get _ _ _ hi] at this
  exact this.symm
/-- Whether one of the first k numbers is less than the other one's there. -/
def lessB (X Y : List Nat) : Nat → Bool
  | 0 => false
  | k + 1 => lessB X Y k || decide ((X.getD k 0 : Int) < (Y.getD k 0 : Int))
theorem lessB_of (X Y : List Nat) (i : Nat) (h : X.getD i 0 < Y.getD i 0) : ∀ k, i < k → lessB X Y k = true
  | k + 1, hk => by
    rw [lessB]
    rcases Nat.lt_or_ge i k with hik | hik
    · rw [lessB_of X Y i h k hik]; rfl
    · obtain rfl : i = k := by omega
      rw [show decide ((X.getD i 0 : Int) < (Y.getD i 0 : Int)) = true from decide_eq_true (by omega), Bool.or_true]
theorem lessB_self (X : List Nat) : ∀ k, lessB X X k = false
  | 0 => rfl
  | k + 1 => by rw [lessB, lessB_self X k, decide_eq_false (by omega)]; rfl
theorem less_unlike (x y : Nat) (hx : x < 4294967296) (hy : y < 4294967296) : lessB (digL x) (digL y) 10 = ((x : Int) != (y : Int)) := by
  by_cases h : x = y
  · subst h
    rw [lessB_self]
    simp
  · obtain ⟨i, hi, hl⟩ := dig_less x y hx hy h
    rw [lessB_of _ _ i hl 10 hi]
    exact (bne_iff_ne.2 (by omega)).symm
theorem more_unlike (x y : Nat) (hx : x < 4294967296) (hy : y < 4294967296) : lessB (digL y) (digL x) 10 = ((x : Int) != (y : Int)) := by
  rw [less_unlike y x hy hx]
  by_cases h : x = y
  · subst h; rfl
  · rw [bne_iff_ne.2 (show (y : Int) ≠ x by omega), bne_iff_ne.2 (show (x : Int) ≠ y by omega)]

theorem chainLess_far (k : Option Addr) (lk ck : Nat) (b : Option Addr) (lb cb : Nat) (w : World) (_hk : (lk : Int) ≤ 9223372036854775807) (_hb : (lb : Int) ≤ 9223372036854775807)
    (h : (10000 : Int) < lk ∨ ((lk : Int) ≤ 10000 ∧ (10000 : Int) < lb)) :
    Calls Try.prog 6 #[.slice k lk ck, .slice b lb cb] w fun e w' => e = .returned (.bool true) ∧ Below w.heap.size w w' := by
  have i0 : (0 : Int) ≤ lk := by omega
  have i1 : (0 : Int) ≤ lb := by omega
  rcases h with h | ⟨h1, h⟩
  all_goals
    go_enter Try.func6, Try.ntmps6
    go_wp2_with fail
    refine (alive_chain _).mono ?_
    rintro e w1 ⟨rfl, b1⟩
    have HB1 := Lib.hid b1; clear b1
    go_wp2_with fail
    go_ret
    exact ⟨rfl, HB1.out⟩
set_option maxHeartbeats 8000000 in
theorem chainLess_near (a : Option Addr) (la ca : Nat) (s : List UInt8) (b : Option Addr) (lb cb : Nat) (t : List UInt8) (w : World)
    (hla : (la : Int) ≤ 10000) (hlb : (lb : Int) ≤ 10000) (hA : Bsl w w.heap.size a la ca s) (hB : Bsl w w.heap.size b lb cb t) :
    Calls Try.prog 6 #[.slice a la ca, .slice b lb cb] w fun e w' => e = .returned (.bool true) ∧ Below w.heap.size w w' := by
  have i0 : (0 : Int) ≤ la := by omega
  have i1 : (0 : Int) ≤ lb := by omega
  obtain ⟨x, hx⟩ : ∃ x, (fourW s).a.toNat = x := ⟨_, rfl⟩
  obtain ⟨y, hy⟩ : ∃ y, (fourW t).a.toNat = y := ⟨_, rfl⟩
  have hlx := less_unlike x y (by rw [← hx]; exact (fourW s).a.isLt) (by rw [← hy]; exact (fourW t).a.isLt)
  have hmx := more_unlike x y (by rw [← hx]; exact (fourW s).a.isLt) (by rw [← hy]; exact (fourW t).a.isLt)
  obtain ⟨X, hX⟩ : ∃ X, digL x = X := ⟨_, rfl⟩
  obtain ⟨Y, hY⟩ : ∃ Y, digL y = Y := ⟨_, rfl⟩
  have hX15 : ∀ k, k < 10 → X.getD k 0 ≤ 15 := fun k h => by rw [← hX]; exact digL_le x k h
  rw [hX, hY] at hlx hmx
  have HLX := Lib.hid hlx; clear hlx
  have HMX := Lib.hid hmx; clear hmx
  have HX15 := Lib.hid hX15; clear hX15
  have HXE := Lib.hid hx; clear hx
  have HYE := Lib.hid hy; clear hy
  have HXD := Lib.hid hX; clear hX
  have HYD := Lib.hid hY; clear hY
  have HA := Lib.hid hA; clear hA
  have HB := Lib.hid hB; clear hB
  go_enter Try.func6, Try.ntmps6
  go_wp2_with fail
  refine (alive_chain _).mono ?_
  rintro e w1 ⟨rfl, b1⟩
  have HA1 := Lib.hid (HA.out.step b1)
  have HB1 := Lib.hid (HB.out.step b1)
  have HE1 := Lib.hid b1; clear b1 HA HB
  have h2 := digits_any a la ca s w1 HA1.out (by omega)
  rw [HXE.out, HXD.out] at h2
  have HD2 := Lib.hid h2; clear h2
  go_wp2_with fail
  refine HD2.out.mono ?_
  rintro e w2 ⟨v2, rfl, h2, b2⟩
  obtain ⟨g2, k2, rfl, _, _, hn2⟩ := nsl_of_own h2 (by omega)
  have HN2 := Lib.hid hn2
  have HA2 := Lib.hid (HA1.out.step b2)
  have HB2 := Lib.hid (HB1.out.step b2)
  have HE2 := Lib.hid (HE1.out.trans (b2.mono HE1.out.size)); clear b2 h2 hn2 HA1 HB1 HE1 HD2
  have h3 := digits_any b lb cb t w2 HB2.out (by omega)
  rw [HYE.out, HYD.out] at h3
  have HD3 := Lib.hid h3; clear h3
  go_wp2_with fail
  refine HD3.out.mono ?_
  rintro e w3 ⟨v3, rfl, h3, b3⟩
  obtain ⟨g3, k3, rfl, _, _, hn3⟩ := nsl_of_own h3 (by omega)
  have HM3 := Lib.hid hn3
  have HN3 := Lib.hid (HN2.out.step b3)
  have HA3 := Lib.hid (HA2.out.step b3)
  have HB3 := Lib.hid (HB2.out.step b3)
  have HE3 := Lib.hid (HE2.out.trans (b3.mono HE2.out.size)); clear b3 h3 hn3 HA2 HB2 HE2 HD3 HN2
  go_wp2_with fail
  go_loopw [8, 9, 10] (fun p q i wr => ∃ k : Nat, k ≤ 10 ∧ i = .int .i64 k ∧ p = .bool (lessB X Y k) ∧ q = .bool (lessB Y X k) ∧ Below w3.heap.size w3 wr) (fun _ _ i _ => 10 - (intOf i).toNat)
  case atStart => exact ⟨0, by omega, rfl, rfl, rfl, Below.refl _ _⟩
  case round =>
    obtain ⟨k, hk, rfl, rfl, rfl, hb⟩ := hrel
    have k0 : (0 : Int) ≤ k := by omega
    by_cases hlt : k < 10
    · have k2' : (k : Int) < 10 := by omega
      have cx := (HN3.out.below hb).cell0 k hlt
      have cy := (HM3.out.below hb).cell0 k hlt
      have hd15 := HX15.out k hlt
      have hs1 : lessB X Y (k + 1) = (lessB X Y k || decide ((X.getD k 0 : Int) < (Y.getD k 0 : Int))) := rfl
      have hs2 : lessB Y X (k + 1) = (lessB Y X k || decide ((Y.getD k 0 : Int) < (X.getD k 0 : Int))) := rfl
      obtain ⟨d, hd⟩ : ∃ d, X.getD k 0 = d := ⟨_, rfl⟩
      obtain ⟨e, he⟩ : ∃ e, Y.getD k 0 = e := ⟨_, rfl⟩
      rw [hd, he] at hs1 hs2
      rw [hd] at cx hd15
      rw [he] at cy
      clear hd he
      have d0 : (0 : Int) ≤ d := by omega
      have d1 : (d : Int) ≤ 15 := by omega
      have HS1 := Lib.hid hs1; clear hs1
      have HS2 := Lib.hid hs2; clear hs2
      have HBr := Lib.hid hb; clear hb
      obtain ⟨p, hp⟩ : ∃ p, lessB X Y k = p := ⟨_, rfl⟩
      obtain ⟨q, hq⟩ : ∃ q, lessB Y X k = q := ⟨_, rfl⟩
      rw [hp, hq]
      have HP := Lib.hid hp; clear hp
      have HQ := Lib.hid hq; clear hq
      cases p <;> cases q
      all_goals
        go_wp2_with fail
        go_quiet (fail)
        have HB4 := Lib.hid (below_drewN HBr.out nq)
        obtain ⟨w4, hw4⟩ : ∃ w4, wr.drewN nq = w4 := ⟨_, rfl⟩
        have cx4 : w4.cell? ⟨g2, k, none⟩ = some (.int .i64 d) := by rw [← hw4]; exact cx
        have cy4 : w4.cell? ⟨g3, k, none⟩ = some (.int .i64 e) := by rw [← hw4]; exact cy
        rw [hw4] at HB4 ⊢
        clear cx cy hw4 nq
        go_wp2_with fail
        go_quiet (fail)
        have HB5 := Lib.hid (below_drewN HB4.out nq)
        go_wp2_with fail
        go_roundw
        case rel => exact ⟨k + 1, by omega, by go_num, by rw [HS1.out, HP.out]; first | rfl | simp, by rw [HS2.out, HQ.out]; first | rfl | simp, HB5.out⟩
        case measure => simp [intOf]; omega
    · obtain rfl : k = 10 := by omega
      have HA4 := Lib.hid (HA3.out.step hb)
      have HB4 := Lib.hid (HB3.out.step hb)
      have HE4 := Lib.hid (HE3.out.trans (hb.mono HE3.out.size)); clear hb HN3 HM3 HA3 HB3 HE3
      have h5 := sum_any a la ca s wr HA4.out (by omega)
      rw [HXE.out] at h5
      have HS5 := Lib.hid h5; clear h5
      rw [HLX.out, HMX.out]
      obtain ⟨u, hu⟩ : ∃ u : Bool, ((x : Int) != (y : Int)) = u := ⟨_, rfl⟩
      rw [hu]
      go_wp2_with fail
      refine HS5.out.mono ?_
      rintro e w5 ⟨rfl, b5⟩
      have HB5 := Lib.hid (HB4.out.step b5)
      have HE5 := Lib.hid (HE4.out.trans (b5.mono HE4.out.size)); clear b5 HA4 HB4 HE4 HS5
      have h6 := sum_any b lb cb t w5 HB5.out (by omega)
      rw [HYE.out] at h6
      have HS6 := Lib.hid h6; clear h6
      go_wp2_with fail
      refine HS6.out.mono ?_
      rintro e w6 ⟨rfl, b6⟩
      have HE6 := Lib.hid (HE5.out.trans (b6.mono HE5.out.size)); clear b6 HB5 HE5 HS6
      cases u
      all_goals
        go_wp2_with fail
        go_ret
        exact ⟨rfl, HE6.out⟩
theorem chainLess_walk (a0 : Option Addr) (len0 cap0 : Nat) (s0 : List UInt8) (a1 : Option Addr) (len1 cap1 : Nat) (s1 : List UInt8) (w : World) (h0 : Bsl w w.heap.size a0 len0 cap0 s0) (h1 : Bsl w w.heap.size a1 len1 cap1 s1) :
    Calls Try.prog 6 #[.slice a0 len0 cap0, .slice a1 len1 cap1] w fun e w' => e = .returned (.bool true) ∧ Below w.heap.size w w' := by
  have hk : (len0 : Int) ≤ 9223372036854775807 := by have h5 := h0.2.1; have h4 := h0.2.2.1; unfold maxLen at h4; omega
  have hb : (len1 : Int) ≤ 9223372036854775807 := by have h5 := h1.2.1; have h4 := h1.2.2.1; unfold maxLen at h4; omega
  by_cases k : (len0 : Int) ≤ 10000 ∧ (len1 : Int) ≤ 10000
  · exact chainLess_near a0 len0 cap0 s0 a1 len1 cap1 s1 w k.1 k.2 h0 h1
  · exact chainLess_far a0 len0 cap0 a1 len1 cap1 w hk hb (by omega)
end Go.Proofs.Ytmegnjmnkhpppaa

namespace Go.Proofs.Ytmegnjmnkhpppaa.chainLess
open Go.ChangeShapes Go.WideShapes Go.ChangeAt Go.RowKit
set_option linter.unusedVariables false

theorem own : ownKnob Try.prog.godebug = none := by kernel_rfl
theorem laidOut : laidOutB Try.prog = true := by kernel_rfl

set_option maxRecDepth 100000 in
theorem lifted (os : Os) (started : os.Started) (H : Type) (enc : TypeId × Value → H) :
    ReturnsInHanded {} Try.checked os 6 .any (Rows.chainLessSpec.pre6 enc Try.prog Try.f6 Rows.chainLessRow.domain false) (Rows.chainLessSpec.post enc Try.prog Try.f6 false true false false) := by
  refine returnsInHanded_of_change (C := Try.checked) own started (by kernel_rfl) Try.func6
    (ChangeSpec.witness6 (enc := enc) (C := Try.checked) false ⟨#[], #[.slice none 0 0, .slice none 0 0], []⟩ 8 (by kernel_rfl) (by kernel_rfl) (by kernel_rfl) (by kernel_rfl)) ?_
  intro W base args ds gs before hval0 hW hcnd _
  have hval : ∀ (j : Nat) t v, Try.f6.params[j]? = some t → args[j]? = some v → Value.okWide Try.prog W .any base t v := hval0
  have hW' := hW
  obtain ⟨p, q, hA0, hV, rfl, hfz, hnd⟩ := hW
  have hA : DataW.TrodAll enc Try.prog W 0 (fun _ => true) true Try.f6.params.toList args.toList ds p := hA0
  rw [Try.params6] at hA hval
  obtain ⟨v0, vs0, d0, ds0, p0, q0, hargs, rfl, rfl, h0, r0⟩ := trodAll_cons hA
  obtain ⟨v1, vs1, d1, ds1, p1, q1, rfl, rfl, rfl, h1, r1⟩ := trodAll_cons r0
  obtain ⟨rfl, rfl, rfl⟩ := trodAll_nil r1
  obtain rfl : args = #[v0, v1] := by cases args; simp_all
  obtain ⟨rfl, rfl⟩ := trodVars_none hV
  obtain ⟨a0, len0, cap0, rfl⟩ := okWide_slice Try.underlying22 (hval 0 22 v0 rfl rfl)
  have k0 := h0
  have lt0 : ∀ x ∈ p0, x.block < W.heap.size := by obtain ⟨m, hm⟩ := k0; exact DataW.trod_lt m _ _ _ hm
  obtain ⟨z0, w0⟩ : ∃ zs, IsRow .u8 W a0 len0 cap0 zs := by
    obtain ⟨fuel, hf⟩ := h0
    rcases open_ints Try.underlying22 Try.underlying5 (by kernel_rfl) hf with ⟨hcs, _⟩ | ⟨x, l, c, zs, hcs, _, hl, hm, hz, _, hcell, hwz⟩
    · simp [Value.cells] at hcs
      obtain ⟨rfl, rfl, rfl⟩ := hcs
      exact ⟨[], .inl ⟨rfl, rfl, rfl, rfl⟩⟩
    · simp [Value.cells] at hcs
      obtain ⟨rfl, rfl, rfl⟩ := hcs
      exact ⟨zs, .inr ⟨_, rfl, hl, hm, by simpa using hz, hcell, hwz⟩⟩
  obtain ⟨a1, len1, cap1, rfl⟩ := okWide_slice Try.underlying22 (hval 1 22 v1 rfl rfl)
  have k1 := h1
  have lt1 : ∀ x ∈ p1, x.block < W.heap.size := by obtain ⟨m, hm⟩ := k1; exact DataW.trod_lt m _ _ _ hm
  obtain ⟨z1, w1⟩ : ∃ zs, IsRow .u8 W a1 len1 cap1 zs := by
    obtain ⟨fuel, hf⟩ := h1
    rcases open_ints Try.underlying22 Try.underlying5 (by kernel_rfl) hf with ⟨hcs, _⟩ | ⟨x, l, c, zs, hcs, _, hl, hm, hz, _, hcell, hwz⟩
    · simp [Value.cells] at hcs
      obtain ⟨rfl, rfl, rfl⟩ := hcs
      exact ⟨[], .inl ⟨rfl, rfl, rfl, rfl⟩⟩
    · simp [Value.cells] at hcs
      obtain ⟨rfl, rfl, rfl⟩ := hcs
      exact ⟨zs, .inr ⟨_, rfl, hl, hm, by simpa using hz, hcell, hwz⟩⟩
  clear hA0 hval0
  refine (chainLess_walk a0 len0 cap0 _ a1 len1 cap1 _ W (bsl_of_row w0) (bsl_of_row w1)).mono fun e W' ⟨he, bel⟩ => ?_
  subst he
  exact ⟨_, rfl, _, _, _, [], _, [], hW', trodAll_mk1 (shut_bool Try.underlying4 _), (trodAll_cons_mk (Below.trod laidOut (by kernel_rfl) (of_decide_eq_true (by kernel_rfl)) k0 bel lt0) (trodAll_cons_mk (Below.trod laidOut (by kernel_rfl) (of_decide_eq_true (by kernel_rfl)) k1 bel lt1) trodAll_mk0)), rfl, bel.frame _, fun h => by cases h⟩

theorem over : Rows.chainLessRow.holds Try.pinned (OpenSpec.ofChange Rows.chainLessSpec) :=
  OpenClaim.holds_of_wide 6 Try.f6 rfl rfl rfl rfl rfl rfl rfl ⟨rfl, rfl, rfl, rfl, rfl⟩ rfl rfl rfl rfl rfl (by kernel_rfl) Try.func6 (by kernel_rfl)
    (of_decide_eq_true (by kernel_rfl)) (by unfold Func.isWrapper; first | (rw [if_pos (by decide +kernel)]; kernel_rfl) | (rw [if_neg (by decide +kernel)]; exact ⟨rfl, rfl⟩))
    (fun os started H enc _ => lifted os started H enc)

/-- The statement. -/
theorem proved : Rows.ChainLessSaid := over
end Go.Proofs.Ytmegnjmnkhpppaa.chainLess
