/-
  PtrUnlikeCardSaid: for any two pointers (of which one may not be, the law itself answers what its example answers) they have the same bytes just where they are the same, and each number has its own bytes. No condition but the tied one: ptr.sizes reads as its own initialiser lays it.
-/
import Derived.Test.YtlogglmdfnakkaaDoorLawPtrA
import Derived.Test.YtlogglmdfnakkaaDoorCopy
import Derived.Deep.QuietTactic
import Derived.BigQuiet
namespace Go.Proofs.YtlogglmdfnakkaaDoor
open Go.RowKit Go.Shelf
set_option maxRecDepth 100000

theorem str_beq (s t : List UInt8) : ((strOf s).toList == (strOf t).toList) = decide (s = t) := by
  rw [strOf_toList, strOf_toList]
  by_cases h : s = t
  · subst h; simp
  · simp [h]
theorem le_beq (k m n : Nat) (hm : m < 256 ^ k) (hn : n < 256 ^ k) : ((strOf (leB k m)).toList == (strOf (leB k n)).toList) = ((m : Int) == (n : Int)) := by
  rw [str_beq]
  by_cases h : m = n
  · subst h; simp
  · have h1 : ¬ leB k m = leB k n := fun e => h (by rw [← leN_leB k m hm, ← leN_leB k n hn, e])
    have h2 : ((m : Int) == (n : Int)) = false := by simp; omega
    rw [decide_eq_false h1, h2]
theorem bytes_beq {p q : Pt} (hp : MayP p) (hq : MayP q) (wp : WfP p) (wq : WfP q) : ((strOf (bytesP p)).toList == (strOf (bytesP q)).toList) = eqP p q := by
  rw [str_beq]
  show decide _ = decide _
  rw [decide_eq_decide]
  exact ⟨fun e => by rw [← getP_bytesP hp wp, ← getP_bytesP hq wq, e], fun e => by rw [e]⟩
/-- The parts of a pointer's bytes. -/
theorem bytes_win (p : Pt) : ((bytesP p).drop 0).take 1 = leB 1 p.1.toNat ∧ ((bytesP p).drop 1).take 3 = leB 3 p.2.1 ∧ ((bytesP p).drop 4).take 4 = leB 4 p.2.2.1 ∧ ((bytesP p).drop 8).take 4 = leB 4 p.2.2.2.1 ∧ ((bytesP p).drop 12).take 4 = leB 4 p.2.2.2.2 := by
  obtain ⟨a, b, c, d, e⟩ := p
  have cut : ∀ (A B C : List UInt8) (i k : Nat), A.length = i → B.length = k → ((A ++ (B ++ C)).drop i).take k = B := fun A B C i k h1 h2 => by
    subst h1; subst h2; simp
  refine ⟨by simp [bytesP, leB_length], ?_, ?_, ?_, ?_⟩
  · have := cut (leB 1 a.toNat) (leB 3 b) (leB 4 c ++ leB 4 d ++ leB 4 e) 1 3 (leB_length _ _) (leB_length _ _)
    simpa [bytesP] using this
  · have := cut (leB 1 a.toNat ++ leB 3 b) (leB 4 c) (leB 4 d ++ leB 4 e) 4 4 (by simp [leB_length]) (leB_length _ _)
    simpa [bytesP] using this
  · have := cut (leB 1 a.toNat ++ leB 3 b ++ leB 4 c) (leB 4 d) (leB 4 e) 8 4 (by simp [leB_length]) (leB_length _ _)
    simpa [bytesP] using this
  · have := cut (leB 1 a.toNat ++ leB 3 b ++ leB 4 c ++ leB 4 d) (leB 4 e) [] 12 4 (by simp [leB_length]) (leB_length _ _)
    simpa [bytesP] using this
/-- A pointer's bytes in memory: the first one, and the strings of its parts. -/
theorem five_strs {w : World} {g cap : Nat} {p : Pt} (h : Bsl w w.heap.size (some ⟨g, 0, none⟩) 16 cap (bytesP p)) (hp : (0 ≤ p.1 ∧ p.1 < 256)) (X : World) (hX : Below w.heap.size w X) :
    X.cell? ⟨g, 0, none⟩ = some (.int .u8 p.1) ∧ (convert 22 9 (.slice (some ⟨g, 0, none⟩) 16 cap)).run Tryd.prog X = .ok (.string (strOf (bytesP p))) X ∧
    (convert 22 9 (.slice (some ⟨g, 1, none⟩) 3 (cap - 1))).run Tryd.prog X = .ok (.string (strOf (leB 3 p.2.1))) X ∧
    (convert 22 9 (.slice (some ⟨g, 4, none⟩) 4 (cap - 4))).run Tryd.prog X = .ok (.string (strOf (leB 4 p.2.2.1))) X ∧
    (convert 22 9 (.slice (some ⟨g, 8, none⟩) 4 (cap - 8))).run Tryd.prog X = .ok (.string (strOf (leB 4 p.2.2.2.1))) X ∧
    (convert 22 9 (.slice (some ⟨g, 12, none⟩) 4 (cap - 12))).run Tryd.prog X = .ok (.string (strOf (leB 4 p.2.2.2.2))) X := by
  have hx := h.below hX
  obtain ⟨e0, e1, e2, e3, e4⟩ := bytes_win p
  have w1 := hx.win 1 3 (by omega)
  have w2 := hx.win 4 4 (by omega)
  have w3 := hx.win 8 4 (by omega)
  have w4 := hx.win 12 4 (by omega)
  rw [e1, Nat.zero_add] at w1
  rw [e2, Nat.zero_add] at w2
  rw [e3, Nat.zero_add] at w3
  rw [e4, Nat.zero_add] at w4
  refine ⟨?_, hx.conv, w1.conv, w2.conv, w3.conv, w4.conv⟩
  have hc := hx.cellD 0 (by omega)
  rw [hc]
  have : (((bytesP p).getD 0 0).toNat : Int) = p.1 := by
    have hb : (bytesP p).getD 0 0 = byteAt p.1.toNat 0 := by simp [bytesP, leB]
    rw [hb, byteAt_0]
    omega
  rw [this]
/-- The parts of a slice of sixteen bytes. -/
theorem five_cuts (g cap : Nat) (hc : 16 ≤ cap) :
    (∀ X : World, (Instr.slice 22 (.slice (some ⟨g, 0, none⟩) 16 cap) (some (.int .i64 1)) (some (.int .i64 4)) none).run Tryd.prog X = .ok (.slice (some ⟨g, 1, none⟩) 3 (cap - 1)) X) ∧
    (∀ X : World, (Instr.slice 22 (.slice (some ⟨g, 0, none⟩) 16 cap) (some (.int .i64 4)) (some (.int .i64 8)) none).run Tryd.prog X = .ok (.slice (some ⟨g, 4, none⟩) 4 (cap - 4)) X) ∧
    (∀ X : World, (Instr.slice 22 (.slice (some ⟨g, 0, none⟩) 16 cap) (some (.int .i64 8)) (some (.int .i64 12)) none).run Tryd.prog X = .ok (.slice (some ⟨g, 8, none⟩) 4 (cap - 8)) X) ∧
    (∀ X : World, (Instr.slice 22 (.slice (some ⟨g, 0, none⟩) 16 cap) (some (.int .i64 12)) none none).run Tryd.prog X = .ok (.slice (some ⟨g, 12, none⟩) 4 (cap - 12)) X) := by
  refine ⟨fun X => ?_, fun X => ?_, fun X => ?_, fun X => ?_⟩
  · have := slice_lh X g 0 16 cap 1 3 (by omega) (by omega)
    simpa using this
  · have := slice_lh X g 0 16 cap 4 4 (by omega) (by omega)
    simpa using this
  · have := slice_lh X g 0 16 cap 8 4 (by omega) (by omega)
    simpa using this
  · have := slice_from_l X g 0 16 cap 12 (by omega) (by omega)
    simpa using this
set_option maxHeartbeats 4000000 in
theorem ptrUnlike_walk (p q : Pt) (w : World) (hz : Szs w) (hp : WfP p) (hq : WfP q) : Calls Tryd.prog 7 #[ptV p, ptV q] w fun e w' => e = .returned (.bool true) ∧ Below w.heap.size w w' := by
  have hmx : Tryd.prog.follows Departure.mixedOrders = true := by kernel_rfl
  have HAL := Lib.hid (fun W hz => alive_any W hz)
  have hwp := fun W hz => Write_any p hp W hz
  have hwq := fun W hz => Write_any q hq W hz
  obtain ⟨a, b, c, d, e⟩ := p
  obtain ⟨a', b', c', d', e'⟩ := q
  obtain ⟨w2, hw2⟩ : ∃ w2, (w.alloc (.cells #[.int .i64 (a : Int), .int .u32 (b : Int), .int .u32 (c : Int), .int .u32 (d : Int), .int .u32 (e : Int)] 28)).alloc (.cells #[.int .i64 (a' : Int), .int .u32 (b' : Int), .int .u32 (c' : Int), .int .u32 (d' : Int), .int .u32 (e' : Int)] 28) = w2 := ⟨_, rfl⟩
  have hb2 : Below w.heap.size w w2 := by rw [← hw2]; exact ((Below.refl _ w).alloc (Nat.le_refl _) _).alloc (by simp) _
  have hk0 : Blk w2 w.heap.size 28 #[.int .i64 (a : Int), .int .u32 (b : Int), .int .u32 (c : Int), .int .u32 (d : Int), .int .u32 (e : Int)] := by rw [← hw2]; exact (Blk.new w _ _).alloc _
  have hk1 : Blk w2 (w.heap.size + 1) 28 #[.int .i64 (a' : Int), .int .u32 (b' : Int), .int .u32 (c' : Int), .int .u32 (d' : Int), .int .u32 (e' : Int)] := by
    have := Blk.new (w.alloc (.cells #[.int .i64 (a : Int), .int .u32 (b : Int), .int .u32 (c : Int), .int .u32 (d : Int), .int .u32 (e : Int)] 28)) 28 #[.int .i64 (a' : Int), .int .u32 (b' : Int), .int .u32 (c' : Int), .int .u32 (d' : Int), .int .u32 (e' : Int)]
    rw [hw2, World.size_alloc] at this
    exact this
  have HW2 := Lib.hid hw2
  have HB2 := Lib.hid hb2
  have HK0 := Lib.hid hk0
  have HK1 := Lib.hid hk1
  have HZ := Lib.hid hz
  have HP := Lib.hid hp
  have HQ := Lib.hid hq
  have tok1 : True := trivial
  have tok2 : True := trivial
  clear hw2 hb2 hk0 hk1 hz hp hq
  rw [writeO] at hwp hwq
  by_cases h1 : MayP (a, b, c, d, e)
  · by_cases h2 : MayP (a', b', c', d', e')
    · rw [if_pos h1] at hwp
      rw [if_pos h2] at hwq
      have HWP := Lib.hid hwp
      have HWQ := Lib.hid hwq
      have H1 := Lib.hid h1
      have H2 := Lib.hid h2
      clear hwp hwq h1 h2
      go_enter Tryd.func7, Tryd.ntmps7
      go_wp2_with (first
      | (go_at_call 13
         rw [HW2.out]
         refine (HAL.out w2 (HZ.out.step HB2.out)).mono ?_
         rintro ev w3 ⟨rfl, b3⟩
         have HB3 := Lib.hid (HB2.out.trans (b3.mono HB2.out.size))
         have HK03 := Lib.hid (HK0.out.below b3 HK0.out.lt)
         have HK13 := Lib.hid (HK1.out.below b3 HK1.out.lt)
         obtain ⟨c0, c1, c2, c3, c4⟩ := HK03.out.five
         have hcp := HWP.out w3 (HZ.out.step HB3.out)
         have HCP := Lib.hid hcp
         clear b3 hcp)
      | (go_at_call 9
         have _t := tok1
         clear _t tok1
         refine HCP.out.mono ?_
         rintro ev w4 ⟨v4, rfl, o4, b4⟩
         have HB4 := Lib.hid (HB3.out.trans (b4.mono HB3.out.size))
         have HK04 := Lib.hid (HK03.out.below b4 HK03.out.lt)
         have HK14 := Lib.hid (HK13.out.below b4 HK13.out.lt)
         have HO4 := Lib.hid o4
         clear c0 c1 c2 c3 c4
         obtain ⟨c0, c1, c2, c3, c4⟩ := HK14.out.five
         have hcq := HWQ.out w4 (HZ.out.step HB4.out)
         have HCQ := Lib.hid hcq
         clear b4 hcq o4)
      | (go_at_call 9
         have _t := tok2
         clear _t tok2
         refine HCQ.out.mono ?_
         rintro ev w5 ⟨v5, rfl, o5, b5⟩
         have HB5 := Lib.hid (HB4.out.trans (b5.mono HB4.out.size))
         have HK05 := Lib.hid (HK04.out.below b5 HK04.out.lt)
         have HK15 := Lib.hid (HK14.out.below b5 HK14.out.lt)
         have HO45 := Lib.hid (own_below HO4.out b5)
         have HO5 := Lib.hid o5
         clear c0 c1 c2 c3 c4 o5 b5))
      obtain ⟨gp, cp, rfl, _, gp2, gp3, gp4, gp5, gp6⟩ := bsl_of_own (by have := HO45.out; rw [bytesP_length] at this; exact this) (by omega)
      obtain ⟨gq, cq, rfl, _, gq2, gq3, gq4, gq5, gq6⟩ := bsl_of_own (by have := HO5.out; rw [bytesP_length] at this; exact this) (by omega)
      have hsp := bsl_of_holds gp5 gp3 gp4 gp2 gp6
      have hsq := bsl_of_holds gq5 gq3 gq4 gq2 gq6
      have hfp := five_strs hsp H1.out.room.1
      have hfq := five_strs hsq H2.out.room.1
      obtain ⟨l1, l2, l3, l4⟩ := five_cuts gp cp gp3
      obtain ⟨m1, m2, m3, m4⟩ := five_cuts gq cq gq3
      have hall := bytes_beq H1.out H2.out HP.out HQ.out
      have hlit := eqPt_lit a b c d e a' b' c' d' e'
      have k3 := le_beq 3 b b' H1.out.room.2 H2.out.room.2
      have k4 := le_beq 4 c c' HP.out.2.2.1 HQ.out.2.2.1
      have k8 := le_beq 4 d d' HP.out.2.2.2.1 HQ.out.2.2.2.1
      have k12 := le_beq 4 e e' HP.out.2.2.2.2 HQ.out.2.2.2.2
      dsimp only at hfp hfq
      obtain ⟨s0, hs0⟩ : ∃ s, strOf (bytesP (a, b, c, d, e)) = s := ⟨_, rfl⟩
      obtain ⟨t0, ht0⟩ : ∃ s, strOf (bytesP (a', b', c', d', e')) = s := ⟨_, rfl⟩
      rw [hs0] at hfp hall
      rw [ht0] at hfq hall
      obtain ⟨r, hr⟩ : ∃ r, eqP (a, b, c, d, e) (a', b', c', d', e') = r := ⟨_, rfl⟩
      rw [hr] at hall hlit
      obtain ⟨r0, hr0⟩ : ∃ r, (a == a') = r := ⟨_, rfl⟩
      obtain ⟨s1, hs1⟩ : ∃ s, strOf (leB 3 b) = s := ⟨_, rfl⟩
      obtain ⟨t1, ht1⟩ : ∃ s, strOf (leB 3 b') = s := ⟨_, rfl⟩
      rw [hs1] at hfp k3
      rw [ht1] at hfq k3
      obtain ⟨r1, hr1⟩ : ∃ r, ((b : Int) == (b' : Int)) = r := ⟨_, rfl⟩
      rw [hr1] at k3
      obtain ⟨s2, hs2⟩ : ∃ s, strOf (leB 4 c) = s := ⟨_, rfl⟩
      obtain ⟨t2, ht2⟩ : ∃ s, strOf (leB 4 c') = s := ⟨_, rfl⟩
      rw [hs2] at hfp k4
      rw [ht2] at hfq k4
      obtain ⟨r2, hr2⟩ : ∃ r, ((c : Int) == (c' : Int)) = r := ⟨_, rfl⟩
      rw [hr2] at k4
      obtain ⟨s3, hs3⟩ : ∃ s, strOf (leB 4 d) = s := ⟨_, rfl⟩
      obtain ⟨t3, ht3⟩ : ∃ s, strOf (leB 4 d') = s := ⟨_, rfl⟩
      rw [hs3] at hfp k8
      rw [ht3] at hfq k8
      obtain ⟨r3, hr3⟩ : ∃ r, ((d : Int) == (d' : Int)) = r := ⟨_, rfl⟩
      rw [hr3] at k8
      obtain ⟨s4, hs4⟩ : ∃ s, strOf (leB 4 e) = s := ⟨_, rfl⟩
      obtain ⟨t4, ht4⟩ : ∃ s, strOf (leB 4 e') = s := ⟨_, rfl⟩
      rw [hs4] at hfp k12
      rw [ht4] at hfq k12
      obtain ⟨r4, hr4⟩ : ∃ r, ((e : Int) == (e' : Int)) = r := ⟨_, rfl⟩
      rw [hr4] at k12
      clear hs0 ht0 hs1 ht1 hs2 ht2 hs3 ht3 hs4 ht4 hr hsp hsq gp2 gp4 gp5 gp6 gq2 gq4 gq5 gq6
      have HFP := Lib.hid hfp
      have HFQ := Lib.hid hfq
      clear hfp hfq
      have bn : ∀ x : Bool, (x == x) = true := fun x => by simp
      have bm : ∀ x : Bool, (x != x) = false := fun x => by simp
      obtain ⟨wx0, hwx0⟩ : ∃ wx, w5 = wx := ⟨_, rfl⟩
      have HBX0 := Lib.hid (show Below w5.heap.size w5 wx0 by rw [← hwx0]; exact Below.refl _ _)
      rw [hwx0]
      clear hwx0
      have Fp := fun q => HFP.out (wx0.drewN q) (below_drewN HBX0.out q)
      have Fq := fun q => HFQ.out (wx0.drewN q) (below_drewN HBX0.out q)
      have x0 := fun q => (Fp q).1
      have x1 := fun q => (Fp q).2.1
      have x2 := fun q => (Fp q).2.2.1
      have x3 := fun q => (Fp q).2.2.2.1
      have x4 := fun q => (Fp q).2.2.2.2.1
      have x5 := fun q => (Fp q).2.2.2.2.2
      have y0 := fun q => (Fq q).1
      have y1 := fun q => (Fq q).2.1
      have y2 := fun q => (Fq q).2.2.1
      have y3 := fun q => (Fq q).2.2.2.1
      have y4 := fun q => (Fq q).2.2.2.2.1
      have y5 := fun q => (Fq q).2.2.2.2.2
      have KP := fun q => ((HK05.out.below (HBX0.out) HK05.out.lt).drewN q).five
      have KQ := fun q => ((HK15.out.below (HBX0.out) HK15.out.lt).drewN q).five
      have u0 := fun q => (KP q).1
      have u1 := fun q => (KP q).2.1
      have u2 := fun q => (KP q).2.2.1
      have u3 := fun q => (KP q).2.2.2.1
      have u4 := fun q => (KP q).2.2.2.2
      have v0 := fun q => (KQ q).1
      have v1 := fun q => (KQ q).2.1
      have v2 := fun q => (KQ q).2.2.1
      have v3 := fun q => (KQ q).2.2.2.1
      have v4 := fun q => (KQ q).2.2.2.2
      clear Fp Fq KP KQ
      go_quiet (fail)
      clear x0 y0 x1 y1 x2 y2 x3 y3 x4 y4 x5 y5 u0 v0 u1 v1 u2 v2 u3 v3 u4 v4
      go_wp2_with fail
      obtain ⟨wx1, hwx1⟩ : ∃ wx, wx0.drewN nq = wx := ⟨_, rfl⟩
      have HBX1 := Lib.hid (show Below w5.heap.size w5 wx1 by rw [← hwx1]; exact below_drewN HBX0.out _)
      rw [hwx1]
      clear hwx1
      have Fp := fun q => HFP.out (wx1.drewN q) (below_drewN HBX1.out q)
      have Fq := fun q => HFQ.out (wx1.drewN q) (below_drewN HBX1.out q)
      have x0 := fun q => (Fp q).1
      have x1 := fun q => (Fp q).2.1
      have x2 := fun q => (Fp q).2.2.1
      have x3 := fun q => (Fp q).2.2.2.1
      have x4 := fun q => (Fp q).2.2.2.2.1
      have x5 := fun q => (Fp q).2.2.2.2.2
      have y0 := fun q => (Fq q).1
      have y1 := fun q => (Fq q).2.1
      have y2 := fun q => (Fq q).2.2.1
      have y3 := fun q => (Fq q).2.2.2.1
      have y4 := fun q => (Fq q).2.2.2.2.1
      have y5 := fun q => (Fq q).2.2.2.2.2
      have KP := fun q => ((HK05.out.below (HBX1.out) HK05.out.lt).drewN q).five
      have KQ := fun q => ((HK15.out.below (HBX1.out) HK15.out.lt).drewN q).five
      have u0 := fun q => (KP q).1
      have u1 := fun q => (KP q).2.1
      have u2 := fun q => (KP q).2.2.1
      have u3 := fun q => (KP q).2.2.2.1
      have u4 := fun q => (KP q).2.2.2.2
      have v0 := fun q => (KQ q).1
      have v1 := fun q => (KQ q).2.1
      have v2 := fun q => (KQ q).2.2.1
      have v3 := fun q => (KQ q).2.2.2.1
      have v4 := fun q => (KQ q).2.2.2.2
      clear Fp Fq KP KQ
      go_quiet (fail)
      clear x0 y0 x1 y1 x2 y2 x3 y3 x4 y4 x5 y5 u0 v0 u1 v1 u2 v2 u3 v3 u4 v4
      go_wp2_with fail
      obtain ⟨wx2, hwx2⟩ : ∃ wx, wx1.drewN nq = wx := ⟨_, rfl⟩
      have HBX2 := Lib.hid (show Below w5.heap.size w5 wx2 by rw [← hwx2]; exact below_drewN HBX1.out _)
      rw [hwx2]
      clear hwx2
      have Fp := fun q => HFP.out (wx2.drewN q) (below_drewN HBX2.out q)
      have Fq := fun q => HFQ.out (wx2.drewN q) (below_drewN HBX2.out q)
      have x0 := fun q => (Fp q).1
      have x1 := fun q => (Fp q).2.1
      have x2 := fun q => (Fp q).2.2.1
      have x3 := fun q => (Fp q).2.2.2.1
      have x4 := fun q => (Fp q).2.2.2.2.1
      have x5 := fun q => (Fp q).2.2.2.2.2
      have y0 := fun q => (Fq q).1
      have y1 := fun q => (Fq q).2.1
      have y2 := fun q => (Fq q).2.2.1
      have y3 := fun q => (Fq q).2.2.2.1
      have y4 := fun q => (Fq q).2.2.2.2.1
      have y5 := fun q => (Fq q).2.2.2.2.2
      have KP := fun q => ((HK05.out.below (HBX2.out) HK05.out.lt).drewN q).five
      have KQ := fun q => ((HK15.out.below (HBX2.out) HK15.out.lt).drewN q).five
      have u0 := fun q => (KP q).1
      have u1 := fun q => (KP q).2.1
      have u2 := fun q => (KP q).2.2.1
      have u3 := fun q => (KP q).2.2.2.1
      have u4 := fun q => (KP q).2.2.2.2
      have v0 := fun q => (KQ q).1
      have v1 := fun q => (KQ q).2.1
      have v2 := fun q => (KQ q).2.2.1
      have v3 := fun q => (KQ q).2.2.2.1
      have v4 := fun q => (KQ q).2.2.2.2
      clear Fp Fq KP KQ
      go_quiet (fail)
      clear x0 y0 x1 y1 x2 y2 x3 y3 x4 y4 x5 y5 u0 v0 u1 v1 u2 v2 u3 v3 u4 v4
      go_wp2_with fail
      go_ret
      exact ⟨rfl, HB5.out.trans ((below_drewN HBX2.out _).mono HB5.out.size)⟩
    · rw [if_neg h2] at hwq
      rw [if_pos h1] at hwp
      have HWP := Lib.hid hwp
      have HWQ := Lib.hid hwq
      clear hwp hwq h1 h2
      go_enter Tryd.func7, Tryd.ntmps7
      go_wp2_with (first
      | (go_at_call 13
         rw [HW2.out]
         refine (HAL.out w2 (HZ.out.step HB2.out)).mono ?_
         rintro ev w3 ⟨rfl, b3⟩
         have HB3 := Lib.hid (HB2.out.trans (b3.mono HB2.out.size))
         have HK03 := Lib.hid (HK0.out.below b3 HK0.out.lt)
         have HK13 := Lib.hid (HK1.out.below b3 HK1.out.lt)
         obtain ⟨c0, c1, c2, c3, c4⟩ := HK03.out.five
         have hcp := HWP.out w3 (HZ.out.step HB3.out)
         have HCP := Lib.hid hcp
         clear b3 hcp)
      | (go_at_call 9
         have _t := tok1
         clear _t tok1
         refine HCP.out.mono ?_
         rintro ev w4 ⟨v4, rfl, o4, b4⟩
         have HB4 := Lib.hid (HB3.out.trans (b4.mono HB3.out.size))
         have HK04 := Lib.hid (HK03.out.below b4 HK03.out.lt)
         have HK14 := Lib.hid (HK13.out.below b4 HK13.out.lt)
         have HO4 := Lib.hid o4
         clear c0 c1 c2 c3 c4
         obtain ⟨c0, c1, c2, c3, c4⟩ := HK14.out.five
         have hcq := HWQ.out w4 (HZ.out.step HB4.out)
         have HCQ := Lib.hid hcq
         clear b4 hcq o4)
      | (go_at_call 9
         have _t := tok2
         clear _t tok2
         refine HCQ.out.mono ?_
         rintro ev w5 ⟨v5, rfl, o5, b5⟩
         have HB5 := Lib.hid (HB4.out.trans (b5.mono HB4.out.size))
         have HK05 := Lib.hid (HK04.out.below b5 HK04.out.lt)
         have HK15 := Lib.hid (HK14.out.below b5 HK14.out.lt)
         have HO45 := Lib.hid (own_below HO4.out b5)
         have HO5 := Lib.hid o5
         clear c0 c1 c2 c3 c4 o5 b5))
      go_ret
      exact ⟨rfl, HB5.out⟩
  · by_cases h2 : MayP (a', b', c', d', e')
    · rw [if_pos h2] at hwq
      rw [if_neg h1] at hwp
      have HWP := Lib.hid hwp
      have HWQ := Lib.hid hwq
      clear hwp hwq h1 h2
      go_enter Tryd.func7, Tryd.ntmps7
      go_wp2_with (first
      | (go_at_call 13
         rw [HW2.out]
         refine (HAL.out w2 (HZ.out.step HB2.out)).mono ?_
         rintro ev w3 ⟨rfl, b3⟩
         have HB3 := Lib.hid (HB2.out.trans (b3.mono HB2.out.size))
         have HK03 := Lib.hid (HK0.out.below b3 HK0.out.lt)
         have HK13 := Lib.hid (HK1.out.below b3 HK1.out.lt)
         obtain ⟨c0, c1, c2, c3, c4⟩ := HK03.out.five
         have hcp := HWP.out w3 (HZ.out.step HB3.out)
         have HCP := Lib.hid hcp
         clear b3 hcp)
      | (go_at_call 9
         have _t := tok1
         clear _t tok1
         refine HCP.out.mono ?_
         rintro ev w4 ⟨v4, rfl, o4, b4⟩
         have HB4 := Lib.hid (HB3.out.trans (b4.mono HB3.out.size))
         have HK04 := Lib.hid (HK03.out.below b4 HK03.out.lt)
         have HK14 := Lib.hid (HK13.out.below b4 HK13.out.lt)
         have HO4 := Lib.hid o4
         clear c0 c1 c2 c3 c4
         obtain ⟨c0, c1, c2, c3, c4⟩ := HK14.out.five
         have hcq := HWQ.out w4 (HZ.out.step HB4.out)
         have HCQ := Lib.hid hcq
         clear b4 hcq o4)
      | (go_at_call 9
         have _t := tok2
         clear _t tok2
         refine HCQ.out.mono ?_
         rintro ev w5 ⟨v5, rfl, o5, b5⟩
         have HB5 := Lib.hid (HB4.out.trans (b5.mono HB4.out.size))
         have HK05 := Lib.hid (HK04.out.below b5 HK04.out.lt)
         have HK15 := Lib.hid (HK14.out.below b5 HK14.out.lt)
         have HO45 := Lib.hid (own_below HO4.out b5)
         have HO5 := Lib.hid o5
         clear c0 c1 c2 c3 c4 o5 b5))
      go_ret
      exact ⟨rfl, HB5.out⟩
    · rw [if_neg h2] at hwq
      rw [if_neg h1] at hwp
      have HWP := Lib.hid hwp
      have HWQ := Lib.hid hwq
      clear hwp hwq h1 h2
      go_enter Tryd.func7, Tryd.ntmps7
      go_wp2_with (first
      | (go_at_call 13
         rw [HW2.out]
         refine (HAL.out w2 (HZ.out.step HB2.out)).mono ?_
         rintro ev w3 ⟨rfl, b3⟩
         have HB3 := Lib.hid (HB2.out.trans (b3.mono HB2.out.size))
         have HK03 := Lib.hid (HK0.out.below b3 HK0.out.lt)
         have HK13 := Lib.hid (HK1.out.below b3 HK1.out.lt)
         obtain ⟨c0, c1, c2, c3, c4⟩ := HK03.out.five
         have hcp := HWP.out w3 (HZ.out.step HB3.out)
         have HCP := Lib.hid hcp
         clear b3 hcp)
      | (go_at_call 9
         have _t := tok1
         clear _t tok1
         refine HCP.out.mono ?_
         rintro ev w4 ⟨v4, rfl, o4, b4⟩
         have HB4 := Lib.hid (HB3.out.trans (b4.mono HB3.out.size))
         have HK04 := Lib.hid (HK03.out.below b4 HK03.out.lt)
         have HK14 := Lib.hid (HK13.out.below b4 HK13.out.lt)
         have HO4 := Lib.hid o4
         clear c0 c1 c2 c3 c4
         obtain ⟨c0, c1, c2, c3, c4⟩ := HK14.out.five
         have hcq := HWQ.out w4 (HZ.out.step HB4.out)
         have HCQ := Lib.hid hcq
         clear b4 hcq o4)
      | (go_at_call 9
         have _t := tok2
         clear _t tok2
         refine HCQ.out.mono ?_
         rintro ev w5 ⟨v5, rfl, o5, b5⟩
         have HB5 := Lib.hid (HB4.out.trans (b5.mono HB4.out.size))
         have HK05 := Lib.hid (HK04.out.below b5 HK04.out.lt)
         have HK15 := Lib.hid (HK14.out.below b5 HK14.out.lt)
         have HO45 := Lib.hid (own_below HO4.out b5)
         have HO5 := Lib.hid o5
         clear c0 c1 c2 c3 c4 o5 b5))
      go_ret
      exact ⟨rfl, HB5.out⟩
end Go.Proofs.YtlogglmdfnakkaaDoor
namespace Go.Proofs.YtlogglmdfnakkaaDoor.ptrUnlike
open Go.ChangeShapes Go.WideShapes Go.ChangeAt Go.RowKit
set_option linter.unusedVariables false

theorem own : ownKnob Tryd.prog.godebug = none := by kernel_rfl
theorem laidOut : laidOutB Tryd.prog = true := by kernel_rfl

set_option maxRecDepth 100000 in
theorem lifted (os : Os) (started : os.Started) (H : Type) (enc : TypeId × Value → H) :
    ReturnsInHanded {} Tryd.checked os 7 .any (fun w args => (Rows.ptrUnlikeSpec.pre enc Tryd.prog Tryd.f7 [] false w args ∧ laidMetH Tryd.prog [("charterhouse/ptr.sizes", Rows.laid_charterhouse_ptr_sizes)] w) ∧ sizedMet enc Tryd.prog Tryd.f7 (OpenSpec.ofChange Rows.ptrUnlikeSpec) false w args)
      (Rows.ptrUnlikeSpec.post enc Tryd.prog Tryd.f7 false true false false) := by
  refine returnsInHanded_of_change_and (C := Tryd.checked) (X := fun w _ => laidMetH Tryd.prog [("charterhouse/ptr.sizes", Rows.laid_charterhouse_ptr_sizes)] w) (fun _ _ _ hh h => h.of_heap hh) own started (by kernel_rfl) Tryd.func7
    (ChangeSpec.witness_shaped (enc := enc) (C := Tryd.checked) (os := os) (X := fun w _ => laidMetH Tryd.prog [("charterhouse/ptr.sizes", Rows.laid_charterhouse_ptr_sizes)] w) false (World.doorLaid Tryd.prog 400 os) #[.agg #[.int .i64 0, .int .u32 0, .int .u32 0, .int .u32 0, .int .u32 0], .agg #[.int .i64 0, .int .u32 0, .int .u32 0, .int .u32 0, .int .u32 0]] 8 rfl (World.shaped_of_RefB (by kernel_rfl) (by kernel_rfl)) (by kernel_rfl) (by kernel_rfl) (by kernel_rfl) (door_met os _)) ?_
  intro W base args ds gs before hval0 hW _ _ hL _
  have hval : ∀ (j : Nat) t v, Tryd.f7.params[j]? = some t → args[j]? = some v → Value.okWide Tryd.prog W .any base t v := hval0
  have hW' := hW
  obtain ⟨p, q, hA0, hV, rfl, hfz, hnd⟩ := hW
  have hA : DataW.TrodAll enc Tryd.prog W 0 (fun _ => true) true Tryd.f7.params.toList args.toList ds p := hA0
  rw [Tryd.params7] at hA hval
  obtain ⟨v0, vs0, d0, ds0, p0, q0, hargs, rfl, rfl, h0, r0⟩ := trodAll_cons hA
  obtain ⟨v1, vs1, d1, ds1, p1, q1, rfl, rfl, rfl, h1, r1⟩ := trodAll_cons r0
  obtain ⟨rfl, rfl, rfl⟩ := trodAll_nil r1
  obtain rfl : args = #[v0, v1] := by cases args; simp_all
  obtain ⟨rfl, rfl⟩ := trodVars_none hV
  have k0 := h0
  have lt0 : ∀ x ∈ p0, x.block < W.heap.size := by obtain ⟨m, hm⟩ := k0; exact DataW.trod_lt m _ _ _ hm
  obtain ⟨z0, rfl, w0⟩ := open_ptr (hval 0 28 v0 rfl rfl) h0
  have k1 := h1
  have lt1 : ∀ x ∈ p1, x.block < W.heap.size := by obtain ⟨m, hm⟩ := k1; exact DataW.trod_lt m _ _ _ hm
  obtain ⟨z1, rfl, w1⟩ := open_ptr (hval 1 28 v1 rfl rfl) h1
  clear hA0 hval0
  refine (ptrUnlike_walk z0 z1 W (szs_of_laid hL) w0 w1).mono fun e W' ⟨he, bel⟩ => ?_
  subst he
  exact ⟨_, rfl, _, _, _, [], _, [], hW', trodAll_mk1 (shut_bool Tryd.underlying4 _), (trodAll_cons_mk (Below.trod laidOut (by kernel_rfl) (of_decide_eq_true (by kernel_rfl)) k0 bel lt0) (trodAll_cons_mk (Below.trod laidOut (by kernel_rfl) (of_decide_eq_true (by kernel_rfl)) k1 bel lt1) trodAll_mk0)), rfl, bel.frame _, fun h => by cases h⟩

theorem over : Rows.PtrUnlikeSaid :=
  OpenClaim.holds_of_wide 7 Tryd.f7 rfl rfl rfl rfl rfl rfl rfl ⟨rfl, rfl, rfl, rfl, rfl⟩ rfl rfl rfl rfl rfl (by kernel_rfl) Tryd.func7 (by kernel_rfl)
    (of_decide_eq_true (by kernel_rfl)) (by unfold Func.isWrapper; first | (rw [if_pos (by decide +kernel)]; kernel_rfl) | (rw [if_neg (by decide +kernel)]; exact ⟨rfl, rfl⟩))
    (fun os started H enc _ => lifted os started H enc)

/-- The statement. -/
theorem proved : Rows.PtrUnlikeCardSaid :=
  Claim7.holds_tied_plain_at .later [] [.data] true _ false
    over (fun _ h => by cases h) (by kernel_rfl) (fun _ h => by cases h) ptrUnlike_row_tie rfl ⟨rfl, rfl⟩ (by kernel_rfl) rfl
    (fun f fn hf hfn => by
      obtain rfl : f = 7 := Option.some.inj ((show Tryd.prog.funcNamed "charterhouse/charterhouselaw10.PtrUnlike" = some 7 by kernel_rfl).symm.trans hf) |>.symm
      obtain rfl : fn = Tryd.f7 := (Option.some.inj (Tryd.func7.symm.trans hfn)).symm
      exact ⟨by kernel_rfl, fun j t ht => by
        rw [Tryd.params7] at ht
        have hm : t ∈ [28, 28] := by simpa using Array.mem_of_getElem? ht
        have hall : ([28, 28].all fun u => !Tryd.prog.wantsStandIn u) = true := by kernel_rfl
        exact (show Tryd.prog.wantsStandIn t = false by simpa using List.all_eq_true.1 hall t hm)⟩)
    (by kernel_rfl)
end Go.Proofs.YtlogglmdfnakkaaDoor.ptrUnlike
