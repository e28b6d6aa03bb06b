/-
  The document's own Sign for layer 8 answers what sign.Sign answers.
-/
import Derived.Test.YtoednighmdoooaaSignRef
import Derived.Test.YtoednighmdoooaaSignTop
namespace Go.Proofs.Ytoednighmdoooaa
open Go.RowKit Go.Shelf
set_option maxRecDepth 100000

/-- What Sign answers: the signer's seed, how many leaves are spent, the signature, the error's number. -/
def sgnO (sd : List UInt8) (n : Int) (x : Nat) : (List UInt8 × Int) × (List UInt8 × Int) :=
  if sd.length = 16 ∧ 0 ≤ n ∧ n ≤ 8 then (if n = 8 then (([], 0), ([], 80)) else ((sd, n + 1), (sigL sd n.toNat x, 0))) else (([], 0), ([], 8))
/-- Such an answer, lists of the call's own. -/
def ToldG (o : (List UInt8 × Int) × (List UInt8 × Int)) (w : World) (en : Ending) (w' : World) : Prop :=
  ∃ av cv bv dv, en = .returned (.tuple #[.agg #[.slice av o.1.1.length cv, .int .i64 o.1.2], .slice bv o.2.1.length dv, .int .i64 o.2.2]) ∧
    w'.ownsRow w.heap.size 5 1 (.slice av o.1.1.length cv) o.1.1.length (vals o.1.1) ∧ w'.ownsRow w.heap.size 5 1 (.slice bv o.2.1.length dv) o.2.1.length (vals o.2.1) ∧ Below w.heap.size w w'
theorem toldG_no {e : Int} {w : World} {en : Ending} {w' : World} (h : ToldN e w en w') : ToldG (([], 0), ([], e)) w en w' := ⟨none, 0, none, 0, h.1, own_nil _ _, own_nil _ _, h.2⟩
theorem toldG_ok {sd : List UInt8} {n x : Nat} {w : World} {en : Ending} {w' : World} (hs : sd.length = 16) (h : ToldS sd n x w en w') : ToldG ((sd, (n : Int) + 1), (sigL sd n x, 0)) w en w' := by
  obtain ⟨av, cv, bv, dv, he, h1, h2, h3⟩ := h
  refine ⟨av, cv, bv, dv, ?_, ?_, ?_, h3⟩
  · rw [he]
    simp only [hs, sigL_length]
    rfl
  · show w'.ownsRow w.heap.size 5 1 (.slice av sd.length cv) sd.length (vals sd)
    rw [hs]
    exact h1
  · show w'.ownsRow w.heap.size 5 1 (.slice bv (sigL sd n x).length dv) (sigL sd n x).length (vals (sigL sd n x))
    rw [sigL_length]
    exact h2
theorem sgnO_may {sd : List UInt8} {n : Int} {x : Nat} (h : ¬ (sd.length = 16 ∧ 0 ≤ n ∧ n ≤ 8)) : sgnO sd n x = (([], 0), ([], 8)) := if_neg h
theorem sgnO_spent {sd : List UInt8} {x : Nat} (h : sd.length = 16) : sgnO sd 8 x = (([], 0), ([], 80)) := by
  rw [sgnO, if_pos ⟨h, by omega, by omega⟩, if_pos rfl]
theorem sgnO_ok {sd : List UInt8} {n x : Nat} (h : sd.length = 16) (hn : n < 8) : sgnO sd n x = ((sd, (n : Int) + 1), (sigL sd n x, 0)) := by
  rw [sgnO, if_pos ⟨h, by omega, by omega⟩, if_neg (by omega)]
  rfl
theorem sSign_any (a : Option Addr) (len cap : Nat) (sd : List UInt8) (n : Int) (b : Option Addr) (lenb capb : Nat) (s : List UInt8) (w : World) (hA : Bsl w w.heap.size a len cap sd) (hB : Bsl w w.heap.size b lenb capb s) (hlen : lenb ≤ 4294967295) :
    Calls Try.prog 8 #[.agg #[.slice a len cap, .int .i64 n], .slice b lenb capb] w (ToldG (sgnO sd n (fourW s).a.toNat) w) := by
  by_cases h : len = 16 ∧ 0 ≤ n ∧ n ≤ 8
  · obtain ⟨rfl, h1, h2⟩ := h
    by_cases h3 : n = 8
    · subst h3
      rw [sgnO_spent hA.1]
      exact (sSign_spent a cap _ w).mono fun e w' h => toldG_no h
    · obtain ⟨k, rfl⟩ := Int.eq_ofNat_of_zero_le h1
      rw [sgnO_ok hA.1 (by omega)]
      exact (sSign_ok a cap sd k (by omega) b lenb capb s w hA hB hlen).mono fun e w' h => toldG_ok hA.1 h
  · rw [sgnO_may (by rw [hA.1]; exact h)]
    exact (sSign_may a len cap n _ h w).mono fun e w' k => toldG_no k

theorem rmay_key (a : Option Addr) (len cap : Nat) (hl : len ≠ 16) (n : Int) (w : World) : Calls Try.prog 25 #[.agg #[.slice a len cap, .int .i64 n]] w fun e w' => e = .returned (.bool false) ∧ w' = w.alloc (.cells #[.slice a len cap, .int .i64 n] 24) := by
  have h1 : ((len : Int) == 16) = false := by simp; omega
  go_enter Try.func25, Try.ntmps25
  go_wp2_with fail
  go_ret
  exact ⟨rfl, rfl⟩
theorem rmay_num (a : Option Addr) (cap : Nat) (n : Int) (w : World) : Calls Try.prog 25 #[.agg #[.slice a 16 cap, .int .i64 n]] w fun e w' => e = .returned (.bool (decide (0 ≤ n ∧ n ≤ 8))) ∧ w' = w.alloc (.cells #[.slice a 16 cap, .int .i64 n] 24) := by
  by_cases h2 : 0 ≤ n
  · by_cases h3 : n ≤ 8
    · have hd : decide (0 ≤ n ∧ n ≤ 8) = true := by simp; omega
      rw [hd]
      clear hd
      go_enter Try.func25, Try.ntmps25
      go_wp2_with fail
      go_ret
      exact ⟨by simp; try omega, rfl⟩
    · have hd : decide (0 ≤ n ∧ n ≤ 8) = false := by simp; omega
      rw [hd]
      clear hd
      have h4 : 8 < n := by omega
      go_enter Try.func25, Try.ntmps25
      go_wp2_with fail
      go_ret
      exact ⟨by simp; try omega, rfl⟩
  · have hd : decide (0 ≤ n ∧ n ≤ 8) = false := by simp; omega
    rw [hd]
    clear hd
    go_enter Try.func25, Try.ntmps25
    go_wp2_with fail
    go_ret
    exact ⟨by simp; try omega, rfl⟩
theorem rmay_any (a : Option Addr) (len cap : Nat) (n : Int) (w : World) : Calls Try.prog 25 #[.agg #[.slice a len cap, .int .i64 n]] w fun e w' => e = .returned (.bool (decide (len = 16 ∧ 0 ≤ n ∧ n ≤ 8))) ∧ w' = w.alloc (.cells #[.slice a len cap, .int .i64 n] 24) := by
  by_cases h : len = 16
  · subst h
    have := rmay_num a cap n w
    simpa using this
  · have hd : decide (len = 16 ∧ 0 ≤ n ∧ n ≤ 8) = false := by simp; omega
    rw [hd]
    exact rmay_key a len cap h n w
set_option maxHeartbeats 1000000 in
theorem rsSign_may (a : Option Addr) (len cap : Nat) (n : Int) (u : Value) (h : ¬ (len = 16 ∧ 0 ≤ n ∧ n ≤ 8)) (w : World) : Calls Try.prog 13 #[.agg #[.slice a len cap, .int .i64 n], u] w (ToldN 8 w) := by
  have hm := rmay_any a len cap n
  simp only [decide_eq_false h] at hm
  have HM := Lib.hid hm; clear hm h
  go_enter Try.func13, Try.ntmps13
  go_wp2_with fail
  refine (HM.out _).mono ?_
  rintro e w1 ⟨rfl, rfl⟩
  go_wp2_with fail
  have hb := (Blk.new (w.alloc (.cells #[.slice a len cap, .int .i64 n] 24)) 24 #[.slice none 0 0, .int .i64 0]).alloc (.cells #[.slice a len cap, .int .i64 n] 24)
  rw [World.size_alloc] at hb
  have c0 := hb.cell 0
  have c1 := hb.cell 1
  have hbl := below_alloc3' w (.cells #[.slice a len cap, .int .i64 n] 24) (.cells #[.slice none 0 0, .int .i64 0] 24) (.cells #[.slice a len cap, .int .i64 n] 24)
  refine bodyPost_ret (v := .tuple #[.agg #[.slice none 0 0, .int .i64 0], .slice none 0 0, .int .i64 8]) (by simp [results, Try.f13, go_sem, c0, c1]) rfl ?_
  exact ⟨rfl, hbl⟩
set_option maxHeartbeats 1000000 in
theorem rsSign_spent (a : Option Addr) (cap : Nat) (u : Value) (w : World) : Calls Try.prog 13 #[.agg #[.slice a 16 cap, .int .i64 8], u] w (ToldN 80 w) := by
  have hm := rmay_num a cap 8
  have hd : decide ((0 : Int) ≤ 8 ∧ (8 : Int) ≤ 8) = true := by decide
  simp only [hd] at hm
  have HM := Lib.hid hm; clear hm hd
  go_enter Try.func13, Try.ntmps13
  go_wp2_with fail
  refine (HM.out _).mono ?_
  rintro e w1 ⟨rfl, rfl⟩
  go_wp2_with fail
  have hb := (Blk.new (w.alloc (.cells #[.slice a 16 cap, .int .i64 8] 24)) 24 #[.slice none 0 0, .int .i64 0]).alloc (.cells #[.slice a 16 cap, .int .i64 8] 24)
  rw [World.size_alloc] at hb
  have c0 := hb.cell 0
  have c1 := hb.cell 1
  have hbl := below_alloc3' w (.cells #[.slice a 16 cap, .int .i64 8] 24) (.cells #[.slice none 0 0, .int .i64 0] 24) (.cells #[.slice a 16 cap, .int .i64 8] 24)
  refine bodyPost_ret (v := .tuple #[.agg #[.slice none 0 0, .int .i64 0], .slice none 0 0, .int .i64 80]) (by simp [results, Try.f13, go_sem, c0, c1]) rfl ?_
  exact ⟨rfl, hbl⟩
set_option maxHeartbeats 8000000 in
theorem rsSign_ok (a : Option Addr) (cap : Nat) (sd : List UInt8) (n : Nat) (hn : n < 8) (b : Option Addr) (lenb capb : Nat) (s : List UInt8) (w : World) (hA : Bsl w w.heap.size a 16 cap sd) (hB : Bsl w w.heap.size b lenb capb s) (hlen : lenb ≤ 100000) :
    Calls Try.prog 13 #[.agg #[.slice a 16 cap, .int .i64 n], .slice b lenb capb] w (ToldS sd n (fourW s).a.toNat w) := by
  have hm := rmay_num a cap n
  have hd : decide ((0 : Int) ≤ n ∧ (n : Int) ≤ 8) = true := by simp; omega
  simp only [hd] at hm
  have HM := Lib.hid hm; clear hm hd
  have n0 : (0 : Int) ≤ n := by omega
  have n1 : (n : Int) < 8 := by omega
  have e2 : IntKind.u8.wrap (n : Int) = (((UInt8.ofNat n).toNat : Nat) : Int) := by
    rw [wrapU8 n (by omega)]
    simp
    omega
  have hcs := fun w0 h1 h2 => rSign_ok a cap sd n hn b lenb capb s w0 h1 h2 hlen
  obtain ⟨x, hx⟩ : ∃ x, (fourW s).a.toNat = x := ⟨_, rfl⟩
  rw [hx] at hcs ⊢
  have hs0 : [UInt8.ofNat n] ++ valsL sd n (digL x) 10 = sigK sd n x 0 := rfl
  have hu : (UInt8.ofNat n).toNat < 256 := UInt8.toNat_lt _
  obtain ⟨u, hu'⟩ : ∃ u, UInt8.ofNat n = u := ⟨_, rfl⟩
  rw [hu'] at e2 hs0 hu
  have HS0 := Lib.hid hs0
  have HA := Lib.hid hA; clear hA
  have HB := Lib.hid hB; clear hB hu' hs0 hx
  have HCX := Lib.hid hcs; clear hcs
  go_enter Try.func13, Try.ntmps13
  go_wp2_with fail
  refine (HM.out _).mono ?_
  rintro e w1 ⟨rfl, rfl⟩
  obtain ⟨g, hg⟩ : ∃ g, w.heap.size = g := ⟨_, rfl⟩
  obtain ⟨w0, hw0⟩ : ∃ w0, (((w.alloc (.cells #[.slice a 16 cap, .int .i64 n] 24)).alloc (.cells #[.slice none 0 0, .int .i64 0] 24)).alloc (.cells #[.slice a 16 cap, .int .i64 n] 24)) = w0 := ⟨_, rfl⟩
  have x0 : Blk w0 g 24 #[.slice a 16 cap, .int .i64 n] := by rw [← hw0, ← hg]; exact ((Blk.new w _ _).alloc _).alloc _
  have x1 : Blk w0 (g + 1) 24 #[.slice none 0 0, .int .i64 0] := by
    have := (Blk.new (w.alloc (.cells #[.slice a 16 cap, .int .i64 n] 24)) 24 #[.slice none 0 0, .int .i64 0]).alloc (.cells #[.slice a 16 cap, .int .i64 n] 24)
    rw [World.size_alloc, hg] at this
    rw [← hw0]
    exact this
  have b0 : Below g w w0 := by rw [← hw0, ← hg]; exact below_alloc3' w _ _ _
  rw [hw0, hg]
  have c0 := x0.cell 0
  have c1 := x0.cell 1
  have hbw := fun (X : World) (h : Below g w X) => (show Below w.heap.size w X by rw [hg]; exact h)
  have HCS := Lib.hid (HCX.out w0 (HA.out.step (hbw _ b0)) (HB.out.step (hbw _ b0)))
  have HX0 := Lib.hid x0
  have HX1 := Lib.hid x1
  have HB0 := Lib.hid b0
  have HG := Lib.hid hg
  clear hg hw0 x0 x1 b0 hbw HCX
  go_wp2_with fail
  refine HCS.out.mono ?_
  rintro e w3 ⟨v3, rfl, o3, b3⟩
  obtain ⟨av, cv, rfl⟩ := own_slice o3
  have hz0 : g + 2 ≤ w0.heap.size := HX1.out.lt
  have x03 := HX0.out.below b3 (by omega)
  have x13 := HX1.out.below b3 (by omega)
  have bb3 := HB0.out.trans (b3.mono (by omega))
  have hz3 : g + 2 ≤ w3.heap.size := Nat.le_trans hz0 b3.size
  obtain ⟨B, hBs⟩ : ∃ B, w3.heap.size = B := ⟨_, rfl⟩
  have bx : Below B w3 (w3.alloc (.cells #[.int .u8 (u.toNat : Int)] 5)) := by rw [← hBs]; exact (Below.refl _ w3).alloc (Nat.le_refl _) _
  have ho0 := own_new1 w3 B (by omega) u
  have HQ3 := Lib.hid ((own_bsl o3).step (w' := w3.alloc (.cells #[.int .u8 (u.toNat : Int)] 5)) (by rw [hBs]; exact bx))
  obtain ⟨m, hm'⟩ : ∃ m : Nat, u.toNat = m := ⟨_, rfl⟩
  rw [hm'] at e2 hu bx ho0 HQ3
  rw [hBs] at ho0
  have HO0 := Lib.hid ho0
  have HBX := Lib.hid bx
  have HA3 := Lib.hid (HA.out.step (w' := w3) (by rw [HG.out]; exact bb3))
  have HX03 := Lib.hid x03
  have HX13 := Lib.hid x13
  have HB3 := Lib.hid bb3
  have HM' := Lib.hid hm'
  have d0 : (w3.alloc (.cells #[.int .u8 (m : Int)] 5)).cell? ⟨g, 0, none⟩ = _ := (x03.alloc (.cells #[.int .u8 (m : Int)] 5)).cell 0
  have d1 : (w3.alloc (.cells #[.int .u8 (m : Int)] 5)).cell? ⟨g, 1, none⟩ = _ := (x03.alloc (.cells #[.int .u8 (m : Int)] 5)).cell 1
  have y0 := x03.cell 0
  have y1 := x03.cell 1
  have hBl : B ≤ (w3.alloc (.cells #[.int .u8 (m : Int)] 5)).heap.size := by rw [World.size_alloc]; omega
  have HBL := Lib.hid hBl
  have HBS := Lib.hid hBs
  clear o3 b3 x03 x13 bb3 bx ho0 hm' hBl c0 c1 HCS HA HB HX0 HX1 HB0
  go_wp2_with (at_builtin
               refine wpList_append_bsl rfl (.tmp 34) (.tmp 35) rfl B (.slice (some ⟨B, 0, none⟩) 1 1) 1 [u] rfl HO0.out _ av 160 cv _ rfl HQ3.out (by omega) HBL.out ?_
               intro v5 w5 o5 g5
               have HB5 := Lib.hid (app_below HBX.out HO0.out g5 HBL.out)
               rw [HS0.out] at o5
               have HO5 := Lib.hid o5
               have z0 := (HX03.out.below HB5.out (by omega)).cell 0
               have z1 := (HX03.out.below HB5.out (by omega)).cell 1
               clear o5 g5)
  go_loopw [9, 10, 11] (fun v ta i wr => ∃ k : Nat, k ≤ 3 ∧ i = .int .i64 k ∧ ta = .int .i64 ((n / 2 ^ k : Nat) : Int) ∧ wr.ownsRow B 5 1 v (161 + 16 * k) (vals (sigK sd n x k)) ∧ Below B w3 wr) (fun _ _ i _ => 3 - (intOf i).toNat)
  case atStart => exact ⟨0, by omega, rfl, by simp, HO5.out, HB5.out⟩
  case round =>
    obtain ⟨k, hk, rfl, rfl, ho, hb⟩ := hrel
    have k0 : (0 : Int) ≤ k := by omega
    have hbz : B ≤ wr.heap.size := by have := hb.size; omega
    have r0 := (HX03.out.below hb (by omega)).cell 0
    have r1 := (HX03.out.below hb (by omega)).cell 1
    by_cases hlt : k < 3
    · have k2 : (k : Int) < 3 := by omega
      obtain ⟨q, hq, e1, e2'⟩ := half_row k hlt
      obtain ⟨h1, h2, h3⟩ := half_at n k hn hlt q e1
      have hsk : sigK sd n x (k + 1) = sigK sd n x k ++ nodeL sd k (sib (n / 2 ^ k)) := rfl
      have hpl : ∀ t, t < 2 * q → t * 2 ^ k + 2 ^ k ≤ 8 := fun t ht => by
        have : k = 0 ∨ k = 1 ∨ k = 2 := by omega
        rcases this with rfl | rfl | rfl <;> simp at e1 ⊢ <;> omega
      obtain ⟨t, ht⟩ : ∃ t, n / 2 ^ k = t := ⟨_, rfl⟩
      rw [ht] at h1 h2 h3 hsk ⊢
      have hsl := sib_lt t q h1
      have hnd := rnode_any a cap sd k (by omega) (sib t) (hpl _ hsl) wr ((HA3.out.below (B := w3.heap.size) (by rw [HBS.out]; exact hb)).more (by rw [HBS.out]; exact hbz))
      obtain ⟨V, hV⟩ : ∃ V, nodeL sd k (sib t) = V := ⟨_, rfl⟩
      rw [hV] at hnd hsk
      obtain ⟨M, hM⟩ : ∃ M, 161 + 16 * k = M := ⟨_, rfl⟩
      have et : Int.tdiv (t : Int) 2 = ((t / 2 : Nat) : Int) := by rw [Int.tdiv_eq_ediv_of_nonneg (by omega)]; omega
      obtain ⟨t2, ht2⟩ : ∃ t2, t / 2 = t2 := ⟨_, rfl⟩
      rw [ht2] at et h3
      have et2 : (t : Int) / 2 = (t2 : Int) := by omega
      rw [hM] at ho
      have hM9 : M ≤ 1000 := by omega
      have HM1 := Lib.hid hM
      have HO := Lib.hid ho
      have HBr := Lib.hid hb
      have HSK := Lib.hid hsk
      have H3 := Lib.hid h3
      have t0 : (0 : Int) ≤ t := by omega
      by_cases hp : t % 2 = 1
      · have em : Int.tmod (t : Int) 2 = 1 := by rw [Int.tmod_eq_emod_of_nonneg (by omega)]; omega
        have em2 : (t : Int) % 2 = 1 := by omega
        have es : sib t = t - 1 := if_pos hp
        have es2 : ((sib t : Nat) : Int) = (t : Int) - 1 := by rw [es]; omega
        rw [es2] at hnd
        have HND := Lib.hid hnd
        clear ho hb hsk hV hM e1 e2' ht ht2 h3 hnd es es2 hsl hpl hp z0 z1 d0 d1 y0 y1
        go_wp2_with fail
        refine HND.out.mono ?_
        rintro e w6 ⟨v6, rfl, o6, b6⟩
        obtain ⟨a6, c6, rfl, hq6⟩ := own_to o6
        have HQ6 := Lib.hid hq6
        have HO6 := Lib.hid (own_below HO.out b6)
        have HB6 := Lib.hid (HBr.out.trans (b6.mono hbz))
        have HZ6 := Lib.hid (Nat.le_trans hbz b6.size)
        clear o6 hq6 b6 HND
        go_wp2_with (at_builtin
                     refine wpList_append_bsl rfl (.tmp 50) (.tmp 55) rfl B _ M _ rfl HO6.out _ a6 16 c6 V rfl HQ6.out (by omega) HZ6.out ?_
                     intro v7 w7 ho7 hg7
                     have HB7 := Lib.hid (app_below HB6.out HO6.out hg7 HZ6.out)
                     have HO7 := Lib.hid ho7
                     clear hg7 ho7)
        go_roundw
        case rel =>
          have em3 : M + 16 = 161 + 16 * (k + 1) := by have := HM1.out; omega
          exact ⟨k + 1, by omega, by go_num, by rw [H3.out], by rw [HSK.out, ← em3]; exact HO7.out, HB7.out⟩
        case measure => simp [intOf]; omega
      · have em : Int.tmod (t : Int) 2 = 0 := by rw [Int.tmod_eq_emod_of_nonneg (by omega)]; omega
        have em2 : (t : Int) % 2 = 0 := by omega
        have es : sib t = t + 1 := if_neg hp
        have es2 : ((sib t : Nat) : Int) = (t : Int) + 1 := by rw [es]; omega
        rw [es2] at hnd
        have HND := Lib.hid hnd
        clear ho hb hsk hV hM e1 e2' ht ht2 h3 hnd es es2 hsl hpl hp z0 z1 d0 d1 y0 y1
        go_wp2_with fail
        refine HND.out.mono ?_
        rintro e w6 ⟨v6, rfl, o6, b6⟩
        obtain ⟨a6, c6, rfl, hq6⟩ := own_to o6
        have HQ6 := Lib.hid hq6
        have HO6 := Lib.hid (own_below HO.out b6)
        have HB6 := Lib.hid (HBr.out.trans (b6.mono hbz))
        have HZ6 := Lib.hid (Nat.le_trans hbz b6.size)
        clear o6 hq6 b6 HND
        go_wp2_with (at_builtin
                     refine wpList_append_bsl rfl (.tmp 50) (.tmp 55) rfl B _ M _ rfl HO6.out _ a6 16 c6 V rfl HQ6.out (by omega) HZ6.out ?_
                     intro v7 w7 ho7 hg7
                     have HB7 := Lib.hid (app_below HB6.out HO6.out hg7 HZ6.out)
                     have HO7 := Lib.hid ho7
                     clear hg7 ho7)
        go_roundw
        case rel =>
          have em3 : M + 16 = 161 + 16 * (k + 1) := by have := HM1.out; omega
          exact ⟨k + 1, by omega, by go_num, by rw [H3.out], by rw [HSK.out, ← em3]; exact HO7.out, HB7.out⟩
        case measure => simp [intOf]; omega
    · obtain rfl : k = 3 := by omega
      obtain ⟨bv, dv, rfl⟩ := own_slice ho
      have HOS := Lib.hid (show wr.ownsRow B 5 1 (.slice bv 209 dv) 209 (vals (sigK sd n x 3)) from ho)
      have HBr := Lib.hid hb
      have HAr := Lib.hid ((HA3.out.below (B := w3.heap.size) (w' := wr) (by rw [HBS.out]; exact hb)).more (by rw [HBS.out]; exact hbz))
      have HX0r := Lib.hid (HX03.out.below hb (by omega))
      have HX1r := Lib.hid (HX13.out.below hb (by omega))
      have HON := Lib.hid (own_nil wr B)
      have hone := HA3.out.1
      clear ho hb z0 z1 d0 d1 y0 y1
      go_wp2_with (at_builtin
                   refine wpList_append_bsl rfl (.tmp 59) (.tmp 61) rfl B (.slice none 0 0) 0 [] rfl HON.out _ a 16 cap sd rfl HAr.out (by omega) hbz ?_
                   intro v7 w7 ho7 hg7
                   rw [Nat.zero_add, List.nil_append] at ho7
                   obtain ⟨a7, c7, rfl⟩ := own_slice ho7
                   have HOS7 := Lib.hid (HOS.out.kept hg7 (by
                     cases bv with
                     | none => exact .inl rfl
                     | some ad => exact .inr (by simp [Value.ownBlock])))
                   have HB7 := Lib.hid (app_below HBr.out HON.out hg7 hbz)
                   have HO7 := Lib.hid ho7
                   have HX17 := Lib.hid (HX1r.out.grown hg7 (by simp [Value.ownBlock]))
                   have q0 := (HX0r.out.grown hg7 (by simp [Value.ownBlock])).cell 0
                   have q1 := (HX0r.out.grown hg7 (by simp [Value.ownBlock])).cell 1
                   have s0 := HX17.out.cell 0
                   have s1 := HX17.out.cell 1
                   have sf := fun i => HX17.out.frozen i
                   clear ho7 hg7)
      obtain ⟨w8, hw8⟩ : ∃ w8, ((w7.setCell { block := g + 1, off := 0 } (.slice a7 16 c7)).setCell { block := g + 1, off := 1 } (.int .i64 ((n : Int) + 1))) = w8 := ⟨_, rfl⟩
      have gs8 : w7.grownBy w8 (some (g + 1)) := by rw [← hw8]; exact only_two w7 (g + 1) _ _
      have x18 : Blk w8 (g + 1) 24 #[.slice a7 16 c7, .int .i64 ((n : Int) + 1)] := by rw [← hw8]; exact (HX17.out.set_ 0 _).set_ 1 _
      rw [hw8]
      clear hw8 q0 q1 s0 s1 sf
      have hgl := HG.out
      have z7 := HB7.out.size
      have b8 : Below g w w8 := (HB3.out.trans (HB7.out.mono (by omega))).grown gs8 (by omega) (fun k e => by injection e with e; omega)
      have o7 := own_other HO7.out gs8 (fun k e => by have := HO7.out.lt k e; omega)
      have o8 := own_other HOS7.out gs8 (fun k e => by have := HOS7.out.lt k e; omega)
      have c0 := x18.cell 0
      have c1 := x18.cell 1
      rw [sigK_sigL] at o8
      refine bodyPost_ret (v := .tuple #[.agg #[.slice a7 16 c7, .int .i64 ((n : Int) + 1)], .slice bv 209 dv, .int .i64 0]) (by simp [results, Try.f13, go_sem, c0, c1]) rfl ?_
      exact ⟨a7, c7, bv, dv, rfl, own_mono o7 (by omega), own_mono o8 (by omega), by rw [hgl]; exact b8⟩
theorem rsSign_any (a : Option Addr) (len cap : Nat) (sd : List UInt8) (n : Int) (b : Option Addr) (lenb capb : Nat) (s : List UInt8) (w : World) (hA : Bsl w w.heap.size a len cap sd) (hB : Bsl w w.heap.size b lenb capb s) (hlen : lenb ≤ 100000) :
    Calls Try.prog 13 #[.agg #[.slice a len cap, .int .i64 n], .slice b lenb capb] w (ToldG (sgnO sd n (fourW s).a.toNat) w) := by
  by_cases h : len = 16 ∧ 0 ≤ n ∧ n ≤ 8
  · obtain ⟨rfl, h1, h2⟩ := h
    by_cases h3 : n = 8
    · subst h3
      rw [sgnO_spent hA.1]
      exact (rsSign_spent a cap _ w).mono fun e w' h => toldG_no h
    · obtain ⟨k, rfl⟩ := Int.eq_ofNat_of_zero_le h1
      rw [sgnO_ok hA.1 (by omega)]
      exact (rsSign_ok a cap sd k (by omega) b lenb capb s w hA hB hlen).mono fun e w' h => toldG_ok hA.1 h
  · rw [sgnO_may (by rw [hA.1]; exact h)]
    exact (rsSign_may a len cap n _ h w).mono fun e w' k => toldG_no k
end Go.Proofs.Ytoednighmdoooaa
