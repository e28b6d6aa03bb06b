/-
  dead's own: which pointers a list may have, whether their blocks rise, whether a list may be, Check.
-/
import Derived.Test.YtadffkfalclpjaaDd
import Derived.Test.YtadffkfalclpjaaPtChk
import Derived.Test.YtadffkfalclpjaaPtHi
namespace Go.Proofs.Ytadffkfalclpjaa
open Go.RowKit Go.Shelf
set_option maxRecDepth 100000

theorem ddThere_any (p : Pt) (w : World) (R : Bool) (hR : R = true ↔ p ≠ p0) : Calls Try.prog 40 #[ptV p] w fun e w' => e = .returned (.bool R) ∧ Below w.heap.size w w' := by
  have hRe : R = !(eqP p p0) := by
    cases R with
    | true => rw [show eqP p p0 = false from decide_eq_false (hR.1 rfl)]; rfl
    | false => rw [show eqP p p0 = true from decide_eq_true (by rcases Decidable.em (p = p0) with h | h; exact h; exact absurd (hR.2 h) (by decide))]; rfl
  rw [hRe]
  clear hRe hR
  obtain ⟨a, b, c, d, e⟩ := p
  have heq := eqPt_zero a b c d e
  go_enter Try.func40, Try.ntmps40
  go_wp2_with fail
  go_ret
  exact ⟨rfl, (Below.refl _ w).alloc (Nat.le_refl _) _⟩
theorem ddWrong_any (p : Pt) (w : World) (R : Bool) (hR : R = true ↔ ¬ OneP p) : Calls Try.prog 34 #[ptV p] w fun e w' => e = .returned (.bool R) ∧ Below w.heap.size w w' := by
  have hb1 : Below w.heap.size w (w.alloc (.cells (ptC p).toArray 25)) := (Below.refl _ w).alloc (Nat.le_refl _) _
  have HB := Lib.hid hb1; clear hb1
  have HK := Lib.hid (show Blk (w.alloc (.cells (ptC p).toArray 25)) w.heap.size 25 (ptC p).toArray from Blk.new w _ _)
  have hc := fun W => Check_any p W
  simp only [pcheckO] at hc
  by_cases h0 : p = p0
  · obtain rfl : R = true := hR.2 fun h => h.2 h0
    have HT := Lib.hid (fun W => ddThere_any p W false ⟨fun x => (by cases x), fun x => absurd h0 x⟩)
    clear hc hR h0
    obtain ⟨a, b, c, d, e⟩ := p
    go_enter Try.func34, Try.ntmps34
    go_wp2_with (go_at_call 40; refine (HT.out _).mono ?_; rintro ev w1 ⟨rfl, b1⟩; have HB1 := Lib.hid (HB.out.trans (b1.mono (by simp))); clear b1)
    go_ret
    exact ⟨rfl, HB1.out⟩
  · have HT := Lib.hid (fun W => ddThere_any p W true ⟨fun _ => h0, fun _ => rfl⟩)
    by_cases h : MayP p
    · simp only [if_pos h] at hc
      obtain rfl : R = false := by cases R with | false => rfl | true => exact absurd (And.intro h h0) (hR.1 rfl)
      have HM := Lib.hid hc
      clear hc hR h0 h
      obtain ⟨a, b, c, d, e⟩ := p
      go_enter Try.func34, Try.ntmps34
      go_wp2_with fail
      refine (HT.out _).mono ?_
      rintro ev w1 ⟨rfl, b1⟩
      obtain ⟨c0, c1, c2, c3, c4⟩ := (HK.out.below b1 HK.out.lt).five
      have HB1 := Lib.hid (HB.out.trans (b1.mono (by simp))); clear b1
      go_wp2_with fail
      clear c0 c1 c2 c3 c4
      refine (HM.out _).mono ?_
      rintro ev w2 ⟨rfl, b2⟩
      have HB2 := Lib.hid (HB1.out.trans (b2.mono HB1.out.size)); clear b2
      go_wp2_with fail
      go_ret
      exact ⟨rfl, HB2.out⟩
    · simp only [if_neg h] at hc
      obtain rfl : R = true := hR.2 fun x => h x.1
      have HM := Lib.hid hc
      clear hc hR h0 h
      obtain ⟨a, b, c, d, e⟩ := p
      go_enter Try.func34, Try.ntmps34
      go_wp2_with fail
      refine (HT.out _).mono ?_
      rintro ev w1 ⟨rfl, b1⟩
      obtain ⟨c0, c1, c2, c3, c4⟩ := (HK.out.below b1 HK.out.lt).five
      have HB1 := Lib.hid (HB.out.trans (b1.mono (by simp))); clear b1
      go_wp2_with fail
      clear c0 c1 c2 c3 c4
      refine (HM.out _).mono ?_
      rintro ev w2 ⟨rfl, b2⟩
      have HB2 := Lib.hid (HB1.out.trans (b2.mono HB1.out.size)); clear b2
      go_wp2_with fail
      go_ret
      exact ⟨rfl, HB2.out⟩
/-- The index that is found: none, or some. -/
def IxD (R : Bool) (z : Int) : Prop := (R = true → z = -1) ∧ (R = false → 0 ≤ z)
set_option maxHeartbeats 2000000 in
theorem ddIndexW_any (a : Option Addr) (n c : Nat) (L : List Pt) (w : World) (hL : Pts w w.heap.size a n c L) (R : Bool) (hR : R = true ↔ ∀ p ∈ L, OneP p) : Calls Try.prog 39 #[.slice a n c, .func (.func 34) #[] #[]] w fun e w' => ∃ z : Int, e = .returned (.int .i64 z) ∧ IxD R z ∧ Below w.heap.size w w' := by
  have n0 : (0 : Int) ≤ n := by omega
  have n1 : (n : Int) ≤ 9223372036854775807 := by have h1 := hL.2.1; have h2 := hL.2.2.1; unfold maxLen at h2; omega
  have HN := Lib.hid hL.1
  have HP := Lib.hid hL
  have HR := Lib.hid hR
  clear hL hR
  go_enter Try.func39, Try.ntmps39
  go_wp2_with fail
  go_loopw [8] (fun i wr => ∃ j : Nat, j ≤ n ∧ i = .int .i64 j ∧ (∀ t, t < j → OneP (L.getD t p0)) ∧ Below w.heap.size w wr) (fun i _ => n - (intOf i).toNat)
  case atStart => exact ⟨0, Nat.zero_le _, rfl, fun j hj => absurd hj (Nat.not_lt_zero _), Below.refl _ _⟩
  case round =>
    obtain ⟨j, hj, rfl, hmay, hb⟩ := hrel
    have j0 : (0 : Int) ≤ j := by omega
    have HBR := Lib.hid hb
    have HM := Lib.hid hmay
    clear hb hmay
    by_cases hlt : j < n
    · have j1 : (j : Int) < n := by omega
      obtain ⟨bp, op_, ea, hblt, hwf, p0_, p1_, p2_, p3_, p4_⟩ := (HP.out.below HBR.out).cells j hlt
      obtain ⟨P, hP⟩ : ∃ P, L.getD j p0 = P := ⟨_, rfl⟩
      rw [hP] at hwf p0_ p1_ p2_ p3_ p4_
      subst ea
      have HPE := Lib.hid hP
      clear hP hblt hwf
      by_cases h : OneP P
      · have HW := Lib.hid (ddWrong_any P wr false ⟨fun x => (by cases x), fun x => absurd h x⟩)
        have HH1 := Lib.hid h
        obtain ⟨a', b', c', d', e'⟩ := P
        clear h
        go_wp2_with fail
        refine HW.out.mono ?_
        rintro ev w1 ⟨rfl, b1⟩
        have HB1 := Lib.hid (HBR.out.trans (b1.mono HBR.out.size))
        clear b1
        go_wp2_with fail
        go_roundw
        case rel =>
          refine ⟨j + 1, by omega, by go_num, fun t ht => ?_, HB1.out⟩
          by_cases e : t = j
          · subst e
            rw [HPE.out]
            exact HH1.out
          · exact HM.out t (by omega)
        case measure => simp [intOf]; omega
      · have HW := Lib.hid (ddWrong_any P wr true ⟨fun _ => h, fun _ => rfl⟩)
        obtain rfl : R = false := by
          cases R with
          | false => rfl
          | true =>
            have hi : j < L.length := by rw [HN.out]; exact hlt
            have hg : L[j] = P := by
              rw [← HPE.out, List.getD_eq_getElem?_getD, List.getElem?_eq_getElem hi]
              rfl
            exact absurd (hg ▸ HR.out.1 rfl L[j] (List.getElem_mem hi)) h
        obtain ⟨a', b', c', d', e'⟩ := P
        clear h
        go_wp2_with fail
        refine HW.out.mono ?_
        rintro ev w1 ⟨rfl, b1⟩
        have HB1 := Lib.hid (HBR.out.trans (b1.mono HBR.out.size))
        clear b1
        go_wp2_with fail
        go_ret
        exact ⟨_, rfl, ⟨fun x => (by cases x), fun _ => by omega⟩, HB1.out⟩
    · obtain rfl : j = n := by omega
      have hall : ∀ p ∈ L, OneP p := fun p hp => by
        obtain ⟨i, hi, rfl⟩ := List.getElem_of_mem hp
        have := HM.out i (by rw [HN.out] at hi; omega)
        rwa [List.getD_eq_getElem?_getD, List.getElem?_eq_getElem hi] at this
      obtain rfl : R = true := HR.out.2 hall
      clear hlt hj hall
      go_wp2_with fail
      go_ret
      exact ⟨_, rfl, ⟨fun _ => rfl, fun x => (by cases x)⟩, HBR.out⟩
theorem ddContainsW_any (a : Option Addr) (n c : Nat) (L : List Pt) (w : World) (hL : Pts w w.heap.size a n c L) (R : Bool) (hR : R = true ↔ ∀ p ∈ L, OneP p) : Calls Try.prog 33 #[.slice a n c, .func (.func 34) #[] #[]] w fun e w' => e = .returned (.bool (!R)) ∧ Below w.heap.size w w' := by
  have HX := Lib.hid (ddIndexW_any a n c L w hL R hR)
  clear hL hR
  cases R with
  | true =>
    go_enter Try.func33, Try.ntmps33
    go_wp2_with fail
    refine HX.out.mono ?_
    rintro e w1 ⟨z, rfl, hz, b1⟩
    obtain rfl : z = -1 := hz.1 rfl
    have HB1 := Lib.hid b1
    clear b1 hz
    go_wp2_with fail
    go_ret
    exact ⟨rfl, HB1.out⟩
  | false =>
    go_enter Try.func33, Try.ntmps33
    go_wp2_with fail
    refine HX.out.mono ?_
    rintro e w1 ⟨z, rfl, hz, b1⟩
    have hz0 : 0 ≤ z := hz.2 rfl
    have HB1 := Lib.hid b1
    clear b1 hz
    go_wp2_with fail
    go_ret
    exact ⟨rfl, HB1.out⟩
set_option maxHeartbeats 2000000 in
theorem ddIndexT_any (a : Option Addr) (n c : Nat) (L : List Pt) (w : World) (hL : Pts w w.heap.size a n c L) (R : Bool) (hR : R = true ↔ ∀ p ∈ L, p = p0) : Calls Try.prog 39 #[.slice a n c, .func (.func 40) #[] #[]] w fun e w' => ∃ z : Int, e = .returned (.int .i64 z) ∧ IxD R z ∧ Below w.heap.size w w' := by
  have n0 : (0 : Int) ≤ n := by omega
  have n1 : (n : Int) ≤ 9223372036854775807 := by have h1 := hL.2.1; have h2 := hL.2.2.1; unfold maxLen at h2; omega
  have HN := Lib.hid hL.1
  have HP := Lib.hid hL
  have HR := Lib.hid hR
  clear hL hR
  go_enter Try.func39, Try.ntmps39
  go_wp2_with fail
  go_loopw [8] (fun i wr => ∃ j : Nat, j ≤ n ∧ i = .int .i64 j ∧ (∀ t, t < j → (L.getD t p0) = p0) ∧ Below w.heap.size w wr) (fun i _ => n - (intOf i).toNat)
  case atStart => exact ⟨0, Nat.zero_le _, rfl, fun j hj => absurd hj (Nat.not_lt_zero _), Below.refl _ _⟩
  case round =>
    obtain ⟨j, hj, rfl, hmay, hb⟩ := hrel
    have j0 : (0 : Int) ≤ j := by omega
    have HBR := Lib.hid hb
    have HM := Lib.hid hmay
    clear hb hmay
    by_cases hlt : j < n
    · have j1 : (j : Int) < n := by omega
      obtain ⟨bp, op_, ea, hblt, hwf, p0_, p1_, p2_, p3_, p4_⟩ := (HP.out.below HBR.out).cells j hlt
      obtain ⟨P, hP⟩ : ∃ P, L.getD j p0 = P := ⟨_, rfl⟩
      rw [hP] at hwf p0_ p1_ p2_ p3_ p4_
      subst ea
      have HPE := Lib.hid hP
      clear hP hblt hwf
      by_cases h : P = p0
      · have HW := Lib.hid (ddThere_any P wr false ⟨fun x => (by cases x), fun x => absurd h x⟩)
        have HH1 := Lib.hid h
        obtain ⟨a', b', c', d', e'⟩ := P
        clear h
        go_wp2_with fail
        refine HW.out.mono ?_
        rintro ev w1 ⟨rfl, b1⟩
        have HB1 := Lib.hid (HBR.out.trans (b1.mono HBR.out.size))
        clear b1
        go_wp2_with fail
        go_roundw
        case rel =>
          refine ⟨j + 1, by omega, by go_num, fun t ht => ?_, HB1.out⟩
          by_cases e : t = j
          · subst e
            rw [HPE.out]
            exact HH1.out
          · exact HM.out t (by omega)
        case measure => simp [intOf]; omega
      · have HW := Lib.hid (ddThere_any P wr true ⟨fun _ => h, fun _ => rfl⟩)
        obtain rfl : R = false := by
          cases R with
          | false => rfl
          | true =>
            have hi : j < L.length := by rw [HN.out]; exact hlt
            have hg : L[j] = P := by
              rw [← HPE.out, List.getD_eq_getElem?_getD, List.getElem?_eq_getElem hi]
              rfl
            exact absurd (hg ▸ HR.out.1 rfl L[j] (List.getElem_mem hi)) h
        obtain ⟨a', b', c', d', e'⟩ := P
        clear h
        go_wp2_with fail
        refine HW.out.mono ?_
        rintro ev w1 ⟨rfl, b1⟩
        have HB1 := Lib.hid (HBR.out.trans (b1.mono HBR.out.size))
        clear b1
        go_wp2_with fail
        go_ret
        exact ⟨_, rfl, ⟨fun x => (by cases x), fun _ => by omega⟩, HB1.out⟩
    · obtain rfl : j = n := by omega
      have hall : ∀ p ∈ L, p = p0 := fun p hp => by
        obtain ⟨i, hi, rfl⟩ := List.getElem_of_mem hp
        have := HM.out i (by rw [HN.out] at hi; omega)
        rwa [List.getD_eq_getElem?_getD, List.getElem?_eq_getElem hi] at this
      obtain rfl : R = true := HR.out.2 hall
      clear hlt hj hall
      go_wp2_with fail
      go_ret
      exact ⟨_, rfl, ⟨fun _ => rfl, fun x => (by cases x)⟩, HBR.out⟩
theorem ddContainsT_any (a : Option Addr) (n c : Nat) (L : List Pt) (w : World) (hL : Pts w w.heap.size a n c L) (R : Bool) (hR : R = true ↔ ∀ p ∈ L, p = p0) : Calls Try.prog 33 #[.slice a n c, .func (.func 40) #[] #[]] w fun e w' => e = .returned (.bool (!R)) ∧ Below w.heap.size w w' := by
  have HX := Lib.hid (ddIndexT_any a n c L w hL R hR)
  clear hL hR
  cases R with
  | true =>
    go_enter Try.func33, Try.ntmps33
    go_wp2_with fail
    refine HX.out.mono ?_
    rintro e w1 ⟨z, rfl, hz, b1⟩
    obtain rfl : z = -1 := hz.1 rfl
    have HB1 := Lib.hid b1
    clear b1 hz
    go_wp2_with fail
    go_ret
    exact ⟨rfl, HB1.out⟩
  | false =>
    go_enter Try.func33, Try.ntmps33
    go_wp2_with fail
    refine HX.out.mono ?_
    rintro e w1 ⟨z, rfl, hz, b1⟩
    have hz0 : 0 ≤ z := hz.2 rfl
    have HB1 := Lib.hid b1
    clear b1 hz
    go_wp2_with fail
    go_ret
    exact ⟨rfl, HB1.out⟩
theorem rise_of_steps {l : List Pt} : Rise l ↔ ∀ i, 0 < i → i < l.length → (l.getD (i - 1) p0).1 < (l.getD i p0).1 :=
  ⟨fun h i h0 hi => by
    rw [ddGetD hi, ddGetD (by omega)]
    exact (List.pairwise_iff_getElem.1 h) (i - 1) i (by omega) hi (by omega), rise_step⟩
set_option maxHeartbeats 2000000 in
theorem ddRises_any (a : Option Addr) (n c : Nat) (L : List Pt) (w : World) (hL : Pts w w.heap.size a n c L) (R : Bool) (hR : R = true ↔ Rise L) : Calls Try.prog 29 #[.slice a n c] w fun e w' => e = .returned (.bool R) ∧ Below w.heap.size w w' := by
  have hmx : Try.prog.follows Departure.mixedOrders = true := by kernel_rfl
  have n0 : (0 : Int) ≤ n := by omega
  have n1 : (n : Int) ≤ 9223372036854775807 := by have h1 := hL.2.1; have h2 := hL.2.2.1; unfold maxLen at h2; omega
  have HN := Lib.hid hL.1
  have HP := Lib.hid hL
  have HR := Lib.hid (hR.trans rise_of_steps)
  clear hL hR
  go_enter Try.func29, Try.ntmps29
  go_wp2_with fail
  go_loopw [3] (fun i wr => ∃ j : Nat, 1 ≤ j ∧ i = .int .i64 j ∧ (∀ t, 0 < t → t < j → t < n → (L.getD (t - 1) p0).1 < (L.getD t p0).1) ∧ Below w.heap.size w wr) (fun i _ => n + 1 - (intOf i).toNat)
  case atStart => exact ⟨1, Nat.le_refl _, rfl, fun j hj h1 => absurd h1 (by omega), Below.refl _ _⟩
  case round =>
    obtain ⟨j, hj, rfl, hmay, hb⟩ := hrel
    have j0 : (0 : Int) ≤ j := by omega
    have HBR := Lib.hid hb
    have HM := Lib.hid hmay
    clear hb hmay
    by_cases hlt : j < n
    · have j1 : (j : Int) < n := by omega
      obtain ⟨i, hi⟩ : ∃ i, i = j - 1 := ⟨_, rfl⟩
      have hii : i < n := by omega
      have e1 : (j : Int) - 1 = (i : Int) := by omega
      have j9 : (j : Int) - 1 ≤ 9223372036854775807 := by omega
      obtain ⟨b1, o1, ea, hb1, _, p0_, p1_, p2_, p3_, p4_⟩ := (HP.out.below HBR.out).cells j hlt
      obtain ⟨b2, o2, eb, hb2, _, q0_, q1_, q2_, q3_, q4_⟩ := (HP.out.below HBR.out).cells i hii
      rw [ea] at eb
      cases eb
      obtain ⟨P, hP⟩ : ∃ P, L.getD j p0 = P := ⟨_, rfl⟩
      obtain ⟨Q, hQ⟩ : ∃ Q, L.getD i p0 = Q := ⟨_, rfl⟩
      rw [hP] at p0_
      rw [hQ] at q0_
      subst ea
      have HPE := Lib.hid hP
      have HQE := Lib.hid hQ
      have HI := Lib.hid hi
      have HII := Lib.hid hii
      obtain ⟨px, hpx⟩ : ∃ z : Int, P.1 = z := ⟨_, rfl⟩
      obtain ⟨qx, hqx⟩ : ∃ z : Int, Q.1 = z := ⟨_, rfl⟩
      rw [hpx] at p0_
      rw [hqx] at q0_
      have HPX := Lib.hid hpx
      have HQX := Lib.hid hqx
      clear hP hQ hb1 hb2 p1_ p2_ p3_ p4_ q1_ q2_ q3_ q4_ hi hpx hqx
      have i0 : (0 : Int) ≤ (i : Int) := by omega
      have i1 : (i : Int) < n := by omega
      by_cases h : qx < px
      · have d1 : decide (qx ≥ px) = false := decide_eq_false (by omega)
        have d2 : decide (px ≤ qx) = false := decide_eq_false (by omega)
        have HH := Lib.hid h
        clear h
        go_wp2_with fail
        go_quiet (fail)
        go_wp2_with fail
        go_roundw
        case rel =>
          refine ⟨j + 1, by omega, by go_num, fun t h0 ht hn => ?_, below_drewN HBR.out _⟩
          by_cases e : t = j
          · subst e
            rw [← HI.out, HPE.out, HQE.out, HPX.out, HQX.out]
            exact HH.out
          · exact HM.out t h0 (by omega) hn
        case measure => simp [intOf]; omega
      · have d1 : decide (qx ≥ px) = true := decide_eq_true (by omega)
        have d2 : decide (px ≤ qx) = true := decide_eq_true (by omega)
        obtain rfl : R = false := by
          cases R with
          | false => rfl
          | true =>
            have := HR.out.1 rfl j (by omega) (by rw [HN.out]; exact hlt)
            rw [← HI.out, HPE.out, HQE.out, HPX.out, HQX.out] at this
            exact absurd this h
        clear h
        go_wp2_with fail
        go_quiet (fail)
        go_wp2_with fail
        go_ret
        exact ⟨rfl, below_drewN HBR.out _⟩
    · have hall : ∀ i, 0 < i → i < L.length → (L.getD (i - 1) p0).1 < (L.getD i p0).1 := fun i h0 hi => HM.out i h0 (by rw [HN.out] at hi; omega) (by rw [HN.out] at hi; exact hi)
      obtain rfl : R = true := HR.out.2 hall
      have j2 : ¬ (j : Int) < n := by omega
      clear hlt hj hall
      go_wp2_with fail
      go_ret
      exact ⟨rfl, HBR.out⟩
set_option maxHeartbeats 2000000 in
theorem ddMay_any (a : Option Addr) (n c : Nat) (L : List Pt) (w : World) (hL : Pts w w.heap.size a n c L) (R : Bool) (hR : R = true ↔ MayDL L) : Calls Try.prog 23 #[.slice a n c] w fun e w' => e = .returned (.bool R) ∧ Below w.heap.size w w' := by
  have n0 : (0 : Int) ≤ n := by omega
  have n1 : (n : Int) ≤ 9223372036854775807 := by have h1 := hL.2.1; have h2 := hL.2.2.1; unfold maxLen at h2; omega
  have HN := Lib.hid hL.1
  have HP := Lib.hid hL
  clear hL
  by_cases hl : n ≤ 240
  · by_cases ho : ∀ p ∈ L, OneP p
    · by_cases hr : Rise L
      · have l1 : decide ((n : Int) ≤ 240) = true := decide_eq_true (by omega)
        obtain rfl : R = true := hR.2 ⟨by rw [HN.out]; exact hl, ho, hr⟩
        have HC := Lib.hid (ddContainsW_any a n c L w HP.out true ⟨fun _ => ho, fun _ => rfl⟩)
        have HS := Lib.hid (fun W hW => ddRises_any a n c L W hW true ⟨fun _ => hr, fun _ => rfl⟩)
        clear hR ho hl hr
        go_enter Try.func23, Try.ntmps23
        go_wp2_with fail
        refine HC.out.mono ?_
        rintro ev w1 ⟨rfl, b1⟩
        replace HP := Lib.hid (HP.out.step b1)
        have HB1 := Lib.hid b1
        clear b1 HC
        go_wp2_with fail
        refine (HS.out w1 HP.out).mono ?_
        rintro ev w2 ⟨rfl, b2⟩
        have HB2 := Lib.hid (HB1.out.trans (b2.mono HB1.out.size))
        clear b2
        go_wp2_with fail
        go_ret
        exact ⟨rfl, HB2.out⟩
      · have l1 : decide ((n : Int) ≤ 240) = true := decide_eq_true (by omega)
        obtain rfl : R = false := by cases R with | false => rfl | true => exact absurd (hR.1 rfl).2.2 hr
        have HC := Lib.hid (ddContainsW_any a n c L w HP.out true ⟨fun _ => ho, fun _ => rfl⟩)
        have HS := Lib.hid (fun W hW => ddRises_any a n c L W hW false ⟨fun x => (by cases x), fun x => absurd x hr⟩)
        clear hR ho hl hr
        go_enter Try.func23, Try.ntmps23
        go_wp2_with fail
        refine HC.out.mono ?_
        rintro ev w1 ⟨rfl, b1⟩
        replace HP := Lib.hid (HP.out.step b1)
        have HB1 := Lib.hid b1
        clear b1 HC
        go_wp2_with fail
        refine (HS.out w1 HP.out).mono ?_
        rintro ev w2 ⟨rfl, b2⟩
        have HB2 := Lib.hid (HB1.out.trans (b2.mono HB1.out.size))
        clear b2
        go_wp2_with fail
        go_ret
        exact ⟨rfl, HB2.out⟩
    · have l1 : decide ((n : Int) ≤ 240) = true := decide_eq_true (by omega)
      obtain rfl : R = false := by cases R with | false => rfl | true => exact absurd (hR.1 rfl).2.1 ho
      have HC := Lib.hid (ddContainsW_any a n c L w HP.out false ⟨fun x => (by cases x), fun x => absurd x ho⟩)
      clear hR ho hl
      go_enter Try.func23, Try.ntmps23
      go_wp2_with fail
      refine HC.out.mono ?_
      rintro ev w1 ⟨rfl, b1⟩
      replace HP := Lib.hid (HP.out.step b1)
      have HB1 := Lib.hid b1
      clear b1 HC
      go_wp2_with fail
      go_ret
      exact ⟨rfl, HB1.out⟩
  · have l1 : decide ((n : Int) ≤ 240) = false := decide_eq_false (by omega)
    obtain rfl : R = false := by cases R with | false => rfl | true => exact absurd (hR.1 rfl).1 (by rw [HN.out]; exact hl)
    clear hR hl
    go_enter Try.func23, Try.ntmps23
    go_wp2_with fail
    go_ret
    exact ⟨rfl, Below.refl _ _⟩
/-- What Check answers. -/
def checkDO (l : List Pt) : Nat := if MayDL l then 0 else 8
theorem ddCheck_any (a : Option Addr) (n c : Nat) (L : List Pt) (w : World) (hL : Pts w w.heap.size a n c L) : Calls Try.prog 14 #[.slice a n c] w fun e w' => e = .returned (.int .i64 (checkDO L : Nat)) ∧ Below w.heap.size w w' := by
  unfold checkDO
  by_cases h : MayDL L
  · rw [if_pos h]
    have HM := Lib.hid (ddMay_any a n c L w hL true ⟨fun _ => h, fun _ => rfl⟩)
    clear h hL
    go_enter Try.func14, Try.ntmps14
    go_wp2_with (go_at_call 23; refine HM.out.mono ?_; rintro ev w1 ⟨rfl, b1⟩; have HB1 := Lib.hid b1; clear b1)
    go_ret
    exact ⟨rfl, HB1.out⟩
  · rw [if_neg h]
    have HM := Lib.hid (ddMay_any a n c L w hL false ⟨fun x => (by cases x), fun x => absurd x h⟩)
    clear h hL
    go_enter Try.func14, Try.ntmps14
    go_wp2_with (go_at_call 23; refine HM.out.mono ?_; rintro ev w1 ⟨rfl, b1⟩; have HB1 := Lib.hid b1; clear b1)
    go_ret
    exact ⟨rfl, HB1.out⟩
end Go.Proofs.Ytadffkfalclpjaa
