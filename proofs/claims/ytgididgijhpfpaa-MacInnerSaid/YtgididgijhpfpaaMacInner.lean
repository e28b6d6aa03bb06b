/-
  MacInnerSaid: for any key, text, place and eight other bytes (a key that is none, no text, and one beyond 10,000 bytes the law itself lets be): of two texts of one length, of which just one piece of eight bytes (of the key, 1 and the text together) is another one, the inner keys are the same just where the texts are. No condition.
-/
import Derived.Test.YtgididgijhpfpaaRows
import Derived.Test.YtgididgijhpfpaaArr
import Derived.Test.YtgididgijhpfpaaRowI
import Derived.Test.YtgididgijhpfpaaMov
import Derived.Test.YtgididgijhpfpaaMacRow
namespace Go.Proofs.Ytgididgijhpfpaa
open Go.RowKit Go.Shelf
set_option maxRecDepth 100000

theorem leB4_inj {m n : BitVec 32} (h : leB 4 m.toNat = leB 4 n.toNat) : m = n := by
  have e := congrArg leN h
  rw [leN_leB 4 _ (by have := m.isLt; omega), leN_leB 4 _ (by have := n.isLt; omega)] at e
  exact BitVec.eq_of_toNat_eq e
/-- Unlike words have unlike bytes. -/
theorem bytesW_inj {x y : W4} (h : bytesW x 4 = bytesW y 4) : x = y := by
  have l := fun k : Nat => (bytesW_length x k).trans (bytesW_length y k).symm
  obtain ⟨h3, e3⟩ := List.append_inj h (l 3)
  obtain ⟨h2, e2⟩ := List.append_inj h3 (l 2)
  obtain ⟨h1, e1⟩ := List.append_inj h2 (l 1)
  obtain ⟨_, e0⟩ := List.append_inj h1 (l 0)
  obtain ⟨a, b, c, d⟩ := x
  obtain ⟨a', b', c', d'⟩ := y
  have q0 : a = a' := leB4_inj e0
  have q1 : b = b' := leB4_inj e1
  have q2 : c = c' := leB4_inj e2
  have q3 : d = d' := leB4_inj e3
  rw [q0, q1, q2, q3]

/-- The text s, so many bytes from f on laid anew, but those ahead of c. -/
def repC (s : List UInt8) (o : Nat → UInt8) (f c : Nat) : Nat → List UInt8
  | 0 => s
  | k + 1 => if c ≤ f + k then (repC s o f c k).set (f + k) (o k) else repC s o f c k
theorem repC_length (s : List UInt8) (o : Nat → UInt8) (f c : Nat) : ∀ k, (repC s o f c k).length = s.length
  | 0 => rfl
  | k + 1 => by
    rw [repC]
    split
    · rw [List.length_set, repC_length s o f c k]
    · exact repC_length s o f c k
theorem repC_get (s : List UInt8) (o : Nat → UInt8) (f c : Nat) : ∀ k j (h1 : j < (repC s o f c k).length) (h2 : j < s.length), (j < f ∨ f + k ≤ j) → (repC s o f c k)[j] = s[j]
  | 0, _, _, _, _ => rfl
  | k + 1, j, h1, h2, h => by
    have ih := repC_get s o f c k j (by rw [repC_length]; exact h2) h2 (by omega)
    by_cases hc : c ≤ f + k
    · have e : repC s o f c (k + 1) = (repC s o f c k).set (f + k) (o k) := by rw [repC, if_pos hc]
      simp only [e]
      rw [List.getElem_set_ne (by omega)]
      exact ih
    · have e : repC s o f c (k + 1) = repC s o f c k := by rw [repC, if_neg hc]
      simp only [e]
      exact ih
theorem repC_on (s : List UInt8) (o : Nat → UInt8) (f c k : Nat) (h : c ≤ f + k) : repC s o f c (k + 1) = (repC s o f c k).set (f + k) (o k) := by rw [repC, if_pos h]
theorem repC_off (s : List UInt8) (o : Nat → UInt8) (f c k : Nat) (h : ¬ c ≤ f + k) : repC s o f c (k + 1) = repC s o f c k := by rw [repC, if_neg h]

theorem macInner_far (a0 : Option Addr) (len0 cap0 : Nat) (a1 : Option Addr) (len1 cap1 : Nat) (m : Int) (xs : Array Value) (w : World) (h : len0 ≠ 16 ∨ (len0 = 16 ∧ len1 = 0) ∨ (len0 = 16 ∧ len1 ≠ 0 ∧ (10000 : Int) < len1)) (_hm : (len1 : Int) ≤ 9223372036854775807) :
    Calls Try.prog 6 #[.slice a0 len0 cap0, .slice a1 len1 cap1, .int .u16 m, .agg xs] w fun e w' => e = .returned (.bool true) ∧ Below w.heap.size w w' := by
  rcases h with h | ⟨rfl, rfl⟩ | ⟨rfl, h1, h2⟩
  · have e : ((len0 : Int) == 16) = false := by simp; omega
    go_enter Try.func6, Try.ntmps6
    go_wp2_with fail
    refine (alive_mac _).mono ?_
    rintro e w1 ⟨rfl, b1⟩
    have HB := Lib.hid ((((Below.refl _ w).alloc (Nat.le_refl _) _)).trans (b1.mono (by simp))); clear b1
    go_wp2_with fail
    go_ret
    exact ⟨rfl, HB.out⟩
  · go_enter Try.func6, Try.ntmps6
    go_wp2_with fail
    refine (alive_mac _).mono ?_
    rintro e w1 ⟨rfl, b1⟩
    have HB := Lib.hid ((((Below.refl _ w).alloc (Nat.le_refl _) _)).trans (b1.mono (by simp))); clear b1
    go_wp2_with fail
    go_ret
    exact ⟨rfl, HB.out⟩
  · have e : ((len1 : Int) == 0) = false := by simp; omega
    go_enter Try.func6, Try.ntmps6
    go_wp2_with fail
    refine (alive_mac _).mono ?_
    rintro e w1 ⟨rfl, b1⟩
    have HB := Lib.hid ((((Below.refl _ w).alloc (Nat.le_refl _) _)).trans (b1.mono (by simp))); clear b1
    go_wp2_with fail
    go_ret
    exact ⟨rfl, HB.out⟩

theorem heldB {w W W1 : World} (h : Below w.heap.size w W) (b : Below W.heap.size W W1) : Below w.heap.size w W1 := h.trans (b.mono h.size)
set_option linter.unusedSimpArgs false in
set_option maxHeartbeats 8000000 in
theorem macInner_near (a0 : Option Addr) (cap0 : Nat) (k : List UInt8) (a1 : Option Addr) (len1 cap1 : Nat) (s : List UInt8) (m : Int) (o : Nat → UInt8) (xs : Array Value) (w : World) (hA : Bsl w w.heap.size a0 16 cap0 k) (hS : Bsl w w.heap.size a1 len1 cap1 s) (hl0 : 0 < len1) (hl1 : (len1 : Int) ≤ 10000)
    (m0 : 0 ≤ m) (m1 : m ≤ 65535) (_hx8 : xs.size = 8) (hx : ∀ i, i < 8 → xs[i]? = some (.int .u8 ((o i).toNat : Int))) :
    Calls Try.prog 6 #[.slice a0 16 cap0, .slice a1 len1 cap1, .int .u16 m, .agg xs] w fun e w' => e = .returned (.bool true) ∧ Below w.heap.size w w' := by
  have hmx : Try.prog.follows Departure.mixedOrders = true := by kernel_rfl
  have i0 : (0 : Int) < len1 := by omega
  have i1 : ((len1 : Int) == 0) = false := by simp; omega
  obtain ⟨q, hq⟩ : ∃ q : Nat, m % (len1 : Int) = q := ⟨(m % (len1 : Int)).toNat, by have := Int.emod_nonneg m (show (len1 : Int) ≠ 0 by omega); omega⟩
  have hql : (q : Int) < len1 := by rw [← hq]; exact Int.emod_lt_of_pos m i0
  obtain ⟨p, hp⟩ : ∃ p : Nat, ((17 : Int) + q) / 8 = p := ⟨(17 + q) / 8, by omega⟩
  obtain ⟨f, hf⟩ : ∃ f : Nat, (p : Int) * 8 = f := ⟨p * 8, by omega⟩
  have q0 : (0 : Int) ≤ q := by omega
  have q1 : (q : Int) ≤ 10000 := by omega
  have p0 : (0 : Int) ≤ p := by omega
  have p1 : (p : Int) ≤ 1260 := by omega
  have hfl : f < 16 + 1 + len1 := by omega
  have hf8 : f = 8 * p := by omega
  have HF := Lib.hid hf8; clear hf8
  have f0 : (0 : Int) ≤ f := by omega
  have f1 : (f : Int) ≤ 11000 := by omega
  have HFL := Lib.hid hfl; clear hfl
  have HA := Lib.hid hA; clear hA
  have HS := Lib.hid hS; clear hS
  have HXS := Lib.hid hx; clear hx
  obtain ⟨g0, hg0⟩ : ∃ g0, w.heap.size = g0 := ⟨_, rfl⟩
  have hbx : Blk (w.alloc (.cells xs 35)) w.heap.size 35 xs := Blk.new w _ _
  have hB0 : Below w.heap.size w (w.alloc (.cells xs 35)) := (Below.refl _ w).alloc (Nat.le_refl _) _
  rw [hg0] at hbx
  have HBX := Lib.hid hbx; clear hbx
  have HB0 := Lib.hid hB0; clear hB0
  go_enter Try.func6, Try.ntmps6
  go_wp2_with fail
  refine (alive_mac _).mono ?_
  rintro e w1 ⟨rfl, b1⟩
  have HBX1 := Lib.hid (HBX.out.below b1 (by simp; omega))
  have HE1 := Lib.hid (HB0.out.trans (b1.mono HB0.out.size)); clear b1
  have HA1 := Lib.hid ((HA.out.below HE1.out).more HE1.out.size)
  have HS1 := Lib.hid ((HS.out.below HE1.out).more HE1.out.size)
  have tok4 : True := trivial
  have HZp := Lib.hid (Below.alloc (Below.refl w1.heap.size w1) (Nat.le_refl _) (.cells #[] 5))
  have HOp0 := Lib.hid (own_empty w1)
  have HAp0 := Lib.hid (HA1.out.step HZp.out)
  have tokp1 : True := trivial
  have tokp2 : True := trivial
  have tokp3 : True := trivial
  go_wp2_with (first
    | (at_builtin
       have _t := tokp1
       clear _t tokp1
       refine wpList_append_bsl rfl (.tmp 33) (.tmp 34) rfl w1.heap.size (.slice (some ⟨w1.heap.size, 0, none⟩) 0 0) 0 [] rfl HOp0.out _ a0 16 cap0 k rfl HAp0.out (by omega) HZp.out.size ?_
       intro vp1 wp1 hown1 hgr1
       simp only [Nat.zero_add, List.nil_append] at hown1
       have HBp1 := Lib.hid (app_below HZp.out HOp0.out hgr1 HZp.out.size); clear hgr1
       have HOp1 := Lib.hid (hown1.alloc (.cells #[.int .u8 ((1 : UInt8).toNat : Int)] 5)); clear hown1
       have HEp1 := Lib.hid (one_bsl wp1 1)
       have HBp2 := Lib.hid (HBp1.out.alloc HBp1.out.size (.cells #[.int .u8 ((1 : UInt8).toNat : Int)] 5)))
    | (at_builtin
       have _t := tokp2
       clear _t tokp2
       refine wpList_append_bsl rfl (.tmp 35) (.tmp 36) rfl w1.heap.size vp1 16 _ rfl HOp1.out _ (some ⟨wp1.heap.size, 0, none⟩) 1 1 [1] rfl HEp1.out (by omega) HBp2.out.size ?_
       intro vp2 wp2 hown2 hgr2
       have HBp3 := Lib.hid (app_below HBp2.out HOp1.out hgr2 HBp2.out.size); clear hgr2
       have HOp2 := Lib.hid hown2; clear hown2
       have HCp := Lib.hid (HS1.out.step HBp3.out))
    | (at_builtin
       have _t := tokp3
       clear _t tokp3
       refine wpList_append_bsl rfl (.tmp 37) (.tmp 38) rfl w1.heap.size vp2 (16 + 1) _ rfl HOp2.out _ a1 len1 cap1 s rfl HCp.out (by omega) HBp3.out.size ?_
       intro vp3 wp3 hown3 hgr3
       have HBp := Lib.hid (app_below HBp3.out HOp2.out hgr3 HBp3.out.size); clear hgr3
       obtain ⟨L, hL⟩ : ∃ L, 16 + 1 + len1 = L := ⟨_, rfl⟩
       rw [hL] at hown3
       obtain ⟨gp, capp, rfl, hgbp, hglp, hgcp, hgmp, hgsp, hghp⟩ := bsl_of_own hown3 (by omega)
       clear hown3
       have HHp := Lib.hid hghp; clear hghp
       have HSp := Lib.hid hgsp; clear hgsp)
    | (at_builtin
       have _t := tok4
       clear _t tok4
       have hz := Below.alloc (Below.refl wp3.heap.size wp3) (Nat.le_refl _) (.cells #[] 5)
       have hoe := own_empty wp3
       have hxt : Bsl wp3 wp3.heap.size (some ⟨gp, 0, none⟩) L capp (k ++ [1] ++ s) := ⟨HSp.out, hgcp, hgmp, fun e => (by cases e), fun _ => ⟨gp, 0, rfl, hglp, fun i hi => by rw [Nat.zero_add]; exact HHp.out i hi⟩⟩
       have hxz := hxt.step hz
       have HZ := Lib.hid hz; clear hz
       have HOE := Lib.hid hoe; clear hoe
       have HXT := Lib.hid hxt; clear hxt
       have HXZ := Lib.hid hxz; clear hxz
       refine wpList_append_bsl rfl (.tmp 40) (.tmp 41) rfl wp3.heap.size (.slice (some ⟨wp3.heap.size, 0, none⟩) 0 0) 0 [] rfl HOE.out _ (some ⟨gp, 0, none⟩) L capp (k ++ [1] ++ s) rfl HXZ.out (by omega) HZ.out.size ?_
       intro vy wy hown4 hgr4
       simp only [Nat.zero_add, List.nil_append] at hown4
       have HBY := Lib.hid (app_below HZ.out HOE.out hgr4 HZ.out.size); clear hgr4
       obtain ⟨gy, capy, rfl, hgby, hgly, hgmy, hrow⟩ := rowI_of_own hown4 (by omega)
       clear hown4
       have HROW := Lib.hid hrow; clear hrow))
  clear HOE HXZ HZ HOp0 HAp0 HZp HBp1 HOp1 HEp1 HBp2 HBp3 HOp2 HCp
  have hxy := HXT.out.below HBY.out
  have hxy2 := hxy.more HBY.out.size
  have HXY := Lib.hid hxy2; clear hxy hxy2
  have HBX2 := Lib.hid ((HBX1.out.below HBp.out HBX1.out.lt).below HBY.out (Nat.lt_of_lt_of_le HBX1.out.lt HBp.out.size))
  have HE2 := Lib.hid (HE1.out.trans ((HBp.out.trans (HBY.out.mono HBp.out.size)).mono HE1.out.size))
  have hgyw : w.heap.size ≤ gy := Nat.le_trans HE1.out.size (Nat.le_trans HBp.out.size hgby)
  have hg0y : g0 < gy := Nat.lt_of_lt_of_le HBX1.out.lt (Nat.le_trans HBp.out.size hgby)
  obtain ⟨TX, hTX⟩ : ∃ TX, k ++ [1] ++ s = TX := ⟨_, rfl⟩
  have hTL : TX.length = L := by rw [← hTX]; exact HSp.out
  rw [hTX] at HXY HROW
  have HTL := Lib.hid hTL; clear hTL hTX
  have hgpy : gp < gy := Nat.lt_of_lt_of_le hglp hgby
  have hLL : (L : Int) ≤ 11000 := by omega
  have hfL : f < L := by have := HFL.out; omega
  have HFL2 := Lib.hid hfL; clear hfL
  have l0 : (0 : Int) ≤ L := by omega
  clear HXT HBY HBp HHp HSp HBX1 HE1 HA1 HS1 HA HS HBX HB0 hgbp hglp hgby hgcp
  have HG0 := Lib.hid hg0; clear hg0
  have HGL := Lib.hid hgly; clear hgly
  clear hq hp hf i1 hL HFL
  go_loopw [13] (fun i wr => ∃ j : Nat, j ≤ 8 ∧ i = .int .i64 ((f + j : Nat) : Int) ∧ RowI wr gy L capy (repC TX o f 17 j) ∧ Blk wr g0 35 xs ∧ Bsl wr wy.heap.size (some ⟨gp, 0, none⟩) L capp TX ∧ Below w.heap.size w wr ∧ gy < wr.heap.size) (fun i _ => f + 8 - (intOf i).toNat)
  case atStart => exact ⟨0, by omega, rfl, HROW.out, HBX2.out, HXY.out, HE2.out, HGL.out⟩
  case round =>
    obtain ⟨j, hj, rfl, hr, hbx, hxt, hbe, hgs⟩ := hrel
    obtain ⟨n, hn⟩ : ∃ n, f + j = n := ⟨_, rfl⟩
    rw [hn]
    have n0 : (0 : Int) ≤ n := by omega
    have n9 : (n : Int) ≤ 12000 := by omega
    by_cases hc : j < 8 ∧ n < L
    · obtain ⟨hc1, hc2⟩ := hc
      have c1 : (n : Int) < (f : Int) + 8 := by omega
      have c2 : (n : Int) < L := by omega
      by_cases h17 : 17 ≤ n
      · obtain ⟨u, hu⟩ := hr.get hc2
        have hfz : wr.frozen? ⟨gy, n, none⟩ = false := by obtain ⟨cur, h1, _⟩ := hr; exact h1.frozen _
        have ho := hbx.cell j
        rw [HXS.out j hc1] at ho
        have hset := hr.set_ hc2 (o j)
        have hrc := repC_on TX o f 17 j (by omega)
        rw [hn] at hrc
        rw [← hrc] at hset
        have hxt' : Bsl (wr.setCell ⟨gy, n, none⟩ (.int .u8 ((o j).toNat : Int))) wy.heap.size (some ⟨gp, 0, none⟩) L capp TX := by
          obtain ⟨x1, x2, x3, x4, x5⟩ := hxt
          refine ⟨x1, x2, x3, x4, fun h => ?_⟩
          obtain ⟨b', off', e, hb', hcc⟩ := x5 h
          cases e
          exact ⟨gp, 0, rfl, hb', fun i hi => (World.cell?_setCell_other wr _ _ _ (by intro e; injection e; omega)).trans (hcc i hi)⟩
        have HR := Lib.hid hset; clear hset hr hrc
        have HX3 := Lib.hid hxt'; clear hxt' hxt
        have HBX3 := Lib.hid hbx; clear hbx
        have HBE := Lib.hid hbe; clear hbe
        have c3 : (17 : Int) ≤ n := by omega
        have c4 : (n : Int) - f = j := by omega
        have c5 : (j : Int) < 8 := by omega
        have c6 : (0 : Int) ≤ j := by omega
        have HN := Lib.hid hn; clear hn
        go_wp2
        go_roundw
        case rel => exact ⟨j + 1, by omega, by have := HN.out; congr 1; omega, HR.out, HBX3.out.far (by simp; omega) _, HX3.out, HBE.out.setCell (p := ⟨gy, n, none⟩) hgyw _, by simpa using hgs⟩
        case measure => simp [intOf]; omega
      · have hrc := repC_off TX o f 17 j (by omega)
        rw [← hrc] at hr
        have HR := Lib.hid hr; clear hr hrc
        have HX3 := Lib.hid hxt; clear hxt
        have HBX3 := Lib.hid hbx; clear hbx
        have HBE := Lib.hid hbe; clear hbe
        have c3 : ¬ (17 : Int) ≤ n := by omega
        have HN := Lib.hid hn; clear hn
        go_wp2
        go_roundw
        case rel => exact ⟨j + 1, by omega, by have := HN.out; congr 1; omega, HR.out, HBX3.out, HX3.out, HBE.out, hgs⟩
        case measure => simp [intOf]; omega
    · obtain ⟨TY, hTY⟩ : ∃ t, repC TX o f 17 j = t := ⟨_, rfl⟩
      have hYL : TY.length = TX.length := by rw [← hTY]; exact repC_length TX o f 17 j
      have hinj : fourW TX = fourW TY ↔ TX = TY := fourW_inj hYL.symm p (by rw [HTL.out, ← HF.out]; exact HFL2.out) (fun i h1 h2 h => by
        have := repC_get TX o f 17 j i (by rw [hTY]; exact h2) h1 (by rw [HF.out]; omega)
        simp only [hTY] at this
        exact this.symm)
      rw [hTY] at hr
      have hxb : Bsl wr wr.heap.size (some ⟨gp, 0, none⟩) L capp TX := by
        obtain ⟨x1, x2, x3, x4, x5⟩ := hxt
        refine ⟨x1, x2, x3, x4, fun h => ?_⟩
        obtain ⟨b', off', e, hb', hcc⟩ := x5 h
        cases e
        exact ⟨gp, 0, rfl, by omega, hcc⟩
      have hlc := hr
      obtain ⟨_, _, _, _, hlc, _⟩ := hlc
      have hh := hr.holds
      have hyb : Bsl wr wr.heap.size (some ⟨gy, 0, none⟩) L capy TY := ⟨hYL.trans HTL.out, hlc, hgmy, fun e => (by cases e), fun _ => ⟨gy, 0, rfl, hgs, fun i hi => by rw [Nat.zero_add]; exact hh i hi⟩⟩
      have hdx : Bsl wr.drew wr.drew.heap.size (some ⟨gp, 0, none⟩) L capp TX := hxb.step (Below.refl _ _).drew
      have hdy : Bsl wr.drew wr.drew.heap.size (some ⟨gy, 0, none⟩) L capy TY := hyb.step (Below.refl _ _).drew
      have bx0 : Below w.heap.size w wr.drew := hbe.drew
      obtain ⟨X, hX⟩ : ∃ X, fourW TX = X := ⟨_, rfl⟩
      obtain ⟨Y, hY⟩ : ∃ Y, fourW TY = Y := ⟨_, rfl⟩
      rw [hX, hY] at hinj
      obtain ⟨P, hP⟩ : ∃ P, bytesW X 4 = P := ⟨_, rfl⟩
      obtain ⟨Q, hQ⟩ : ∃ Q, bytesW Y 4 = Q := ⟨_, rfl⟩
      have hPQ : (P == Q) = (TX == TY) := by
        rw [Bool.eq_iff_iff, beq_iff_eq, beq_iff_eq, ← hinj, ← hP, ← hQ]
        exact ⟨bytesW_inj, fun h => by rw [h]⟩
      obtain ⟨bl, hbl⟩ : ∃ bl : Bool, (TX == TY) = bl := ⟨_, rfl⟩
      rw [hbl] at hPQ
      obtain ⟨w0, hw0⟩ : ∃ w0, wr.drew = w0 := ⟨_, rfl⟩
      rw [hw0] at hdx hdy bx0
      have L9 : L ≤ 4294967295 := by omega
      have K1 := Lib.hid (fun W (hW : Below w0.heap.size w0 W) => by have := key_any (some ⟨gp, 0, none⟩) L capp TX W ((hdx.below hW).more hW.size) L9; rw [hX] at this; exact this)
      have K2 := Lib.hid (fun W (hW : Below w0.heap.size w0 W) => by have := key_any (some ⟨gy, 0, none⟩) L capy TY W ((hdy.below hW).more hW.size) L9; rw [hY] at this; exact this)
      have VX := fun W (hW : Below w0.heap.size w0 W) => (hdx.below hW).conv
      have VY := fun W (hW : Below w0.heap.size w0 W) => (hdy.below hW).conv
      have bw : Below w0.heap.size w0 w0 := Below.refl _ _
      have bx := bx0
      have s1 := strOf_toList TX
      have s2 := strOf_toList TY
      have s3 := strOf_toList P
      have s4 := strOf_toList Q
      have HP := Lib.hid hP; clear hP
      have HQ := Lib.hid hQ; clear hQ
      have hex : ¬ ((n : Int) < (f : Int) + 8) ∨ ((n : Int) < (f : Int) + 8 ∧ ¬ ((n : Int) < L)) := by omega
      clear hinj hX hY hTY hr hbx hxt hxb hyb hdx hdy hbe hh hYL bx0 hc hlc
      have HW0 := Lib.hid hw0; clear hw0
      have HN := Lib.hid hn; clear hn
      rcases hex with c1 | ⟨c1, c2⟩
      all_goals
        go_wp2_with fail
        refine wpS_start [0, 3, 7, 8, 9, 10, 11, 1, 2, 4, 5, 6, 12, 13] hmx rfl HW0.out ?_
        refine wpS_read (v := ?_) rfl (by kernel_rfl) (by kernel_rfl) (by kernel_rfl) (fun _ _ _ h => h) (.inl ⟨by rfl, ?_⟩) ?_
        rotate_left
        · intro W hW
          have hWa := hW _ bw
          go_simp
          with_reducible rfl
        try simp only [Act.put, List.setIfInBounds_toArray, List.set_cons_zero, List.set_cons_succ]
        refine wpS_read (v := ?_) rfl (by kernel_rfl) (by kernel_rfl) (by kernel_rfl) (fun _ _ _ h => h) (.inl ⟨by rfl, ?_⟩) ?_
        rotate_left
        · intro W hW
          have hWa := hW _ bw
          go_simp
          with_reducible rfl
        try simp only [Act.put, List.setIfInBounds_toArray, List.set_cons_zero, List.set_cons_succ]
        refine wpS_read (v := ?_) rfl (by kernel_rfl) (by kernel_rfl) (by kernel_rfl) (fun _ _ _ h => h) (.inl ⟨by rfl, ?_⟩) ?_
        rotate_left
        · intro W hW
          have hWa := hW _ bw
          go_simp
          with_reducible rfl
        try simp only [Act.put, List.setIfInBounds_toArray, List.set_cons_zero, List.set_cons_succ]
        refine wpS_read (v := ?_) rfl (by kernel_rfl) (by kernel_rfl) (by kernel_rfl) (fun _ _ _ h => h) (.inl ⟨by rfl, ?_⟩) ?_
        rotate_left
        · intro W hW
          have hWa := hW _ bw
          go_simp
          with_reducible rfl
        try simp only [Act.put, List.setIfInBounds_toArray, List.set_cons_zero, List.set_cons_succ]
        refine wpS_read (v := ?_) rfl (by kernel_rfl) (by kernel_rfl) (by kernel_rfl) (fun _ _ _ h => h) (.inl ⟨by rfl, ?_⟩) ?_
        rotate_left
        · intro W hW
          have hWa := hW _ bw
          go_simp
          with_reducible rfl
        try simp only [Act.put, List.setIfInBounds_toArray, List.set_cons_zero, List.set_cons_succ]
        refine wpS_read (v := ?_) rfl (by kernel_rfl) (by kernel_rfl) (by kernel_rfl) (fun _ _ _ h => h) (.inl ⟨by rfl, ?_⟩) ?_
        rotate_left
        · intro W hW
          have hWa := hW _ bw
          go_simp
          with_reducible rfl
        try simp only [Act.put, List.setIfInBounds_toArray, List.set_cons_zero, List.set_cons_succ]
        refine wpS_read (v := ?_) rfl (by kernel_rfl) (by kernel_rfl) (by kernel_rfl) (fun _ _ _ h => h) (.inl ⟨by rfl, ?_⟩) ?_
        rotate_left
        · intro W hW
          have hWa := hW _ bw
          go_simp
          with_reducible rfl
        try simp only [Act.put, List.setIfInBounds_toArray, List.set_cons_zero, List.set_cons_succ]
        refine wpS_lone rfl (by kernel_rfl) (fun K hK => ?_)
        go_simp
        refine (K1.out _ bw).mono ?_
        rintro e wk ⟨gk, ck, rfl, k1, k2, k3, k4, k5, b9⟩
        rw [HP.out] at k5
        have hl16 : P.length = 16 := by rw [← HP.out]; exact bytesW_length _ _
        have VK : ∀ W, Below wk.heap.size wk W → (convert 23 9 (.slice (some ⟨gk, 0, none⟩) 16 ck)).run Try.prog W = .ok (.string (strOf P)) W := fun W hW => (k5.below hW k2).conv (len := 16) (cap := ck) hl16
        have bk : Below wk.heap.size wk wk := Below.refl _ _
        have bw := heldB bw b9
        have bx := heldB bx b9
        refine hK _ _ (Stays.of_below b9) ?_
        clear hK K b9 k5 hl16
        try simp only [Act.put, List.setIfInBounds_toArray, List.set_cons_zero, List.set_cons_succ]
        refine wpS_read (v := ?_) rfl (by kernel_rfl) (by kernel_rfl) (by kernel_rfl) (fun _ _ _ h => h) (.inl ⟨by rfl, ?_⟩) ?_
        rotate_left
        · intro W hW
          have hWa := hW _ bw
          have hWk := hW _ bk
          go_simp
          with_reducible rfl
        try simp only [Act.put, List.setIfInBounds_toArray, List.set_cons_zero, List.set_cons_succ]
        refine wpS_lone rfl (by kernel_rfl) (fun K hK => ?_)
        go_simp
        refine (K2.out _ bw).mono ?_
        rintro e wl ⟨gl, cl9, rfl, k1, k2, k3, k4, k5, b9⟩
        rw [HQ.out] at k5
        have hl16 : Q.length = 16 := by rw [← HQ.out]; exact bytesW_length _ _
        have VL : ∀ W, Below wl.heap.size wl W → (convert 23 9 (.slice (some ⟨gl, 0, none⟩) 16 cl9)).run Try.prog W = .ok (.string (strOf Q)) W := fun W hW => (k5.below hW k2).conv (len := 16) (cap := cl9) hl16
        have bl9 : Below wl.heap.size wl wl := Below.refl _ _
        have bw := heldB bw b9
        have bx := heldB bx b9
        have bk := heldB bk b9
        refine hK _ _ (Stays.of_below b9) ?_
        clear hK K b9 k5 hl16
        try simp only [Act.put, List.setIfInBounds_toArray, List.set_cons_zero, List.set_cons_succ]
        refine wpS_read (v := ?_) rfl (by kernel_rfl) (by kernel_rfl) (by kernel_rfl) (fun _ _ _ h => h) (.inl ⟨by rfl, ?_⟩) ?_
        rotate_left
        · intro W hW
          have hWa := hW _ bw
          have hWl := hW _ bl9
          go_simp
          with_reducible rfl
        try simp only [Act.put, List.setIfInBounds_toArray, List.set_cons_zero, List.set_cons_succ]
        refine wpS_read (v := ?_) rfl (by kernel_rfl) (by kernel_rfl) (by kernel_rfl) (fun _ _ _ h => h) (.inl ⟨by rfl, ?_⟩) ?_
        rotate_left
        · intro W hW
          have hWa := hW _ bw
          go_simp
          with_reducible rfl
        try simp only [Act.put, List.setIfInBounds_toArray, List.set_cons_zero, List.set_cons_succ]
        refine wpS_read (v := ?_) rfl (by kernel_rfl) (by kernel_rfl) (by kernel_rfl) (fun _ _ _ h => h) (.inl ⟨by rfl, ?_⟩) ?_
        rotate_left
        · intro W hW
          have hWa := hW _ bw
          go_simp
          with_reducible rfl
        try simp only [Act.put, List.setIfInBounds_toArray, List.set_cons_zero, List.set_cons_succ]
        refine wpS_read (v := ?_) rfl (by kernel_rfl) (by kernel_rfl) (by kernel_rfl) (fun _ _ _ h => h) (.inl ⟨by rfl, ?_⟩) ?_
        rotate_left
        · intro W hW
          have hWa := hW _ bw
          go_simp
          with_reducible rfl
        try simp only [Act.put, List.setIfInBounds_toArray, List.set_cons_zero, List.set_cons_succ]
        refine wpS_done (by kernel_rfl) ?_
        go_wp2
        go_ret
        exact ⟨rfl, bx⟩

theorem macInner_walk (a0 : Option Addr) (len0 cap0 : Nat) (s0 : List UInt8) (a1 : Option Addr) (len1 cap1 : Nat) (s1 : List UInt8) (a2 : Int) (z3 : List Int) (w : World) (h0 : Bsl w w.heap.size a0 len0 cap0 s0) (h1 : Bsl w w.heap.size a1 len1 cap1 s1) (w2 : (Lit.int .u16 a2).wf = true) (l3 : z3.length = 8) (w3 : ∀ x ∈ z3, (Lit.int .u8 x).wf = true) :
    Calls Try.prog 6 #[.slice a0 len0 cap0, .slice a1 len1 cap1, .int .u16 a2, .agg (z3.map (Value.int .u8)).toArray] w fun e w' => e = .returned (.bool true) ∧ Below w.heap.size w w' := by
  obtain ⟨m0, m1⟩ := u16_of_wf w2
  by_cases hl : len0 ≠ 16 ∨ (len0 = 16 ∧ len1 = 0) ∨ (len0 = 16 ∧ len1 ≠ 0 ∧ (10000 : Int) < len1)
  · have e1 := h1.2.1
    have e2 := h1.2.2.1
    unfold maxLen at e2
    exact macInner_far a0 len0 cap0 a1 len1 cap1 a2 _ w hl (by omega)
  · obtain rfl : len0 = 16 := by omega
    refine macInner_near a0 cap0 s0 a1 len1 cap1 s1 a2 (fun i => UInt8.ofNat (z3.getD i 0).toNat) _ w h0 h1 (by omega) (by omega) m0 m1 (by simpa using l3) (fun i hi => ?_)
    have hi2 : i < z3.length := by omega
    have hz := u8_of_wf (w3 z3[i] (List.getElem_mem hi2))
    have e : (UInt8.ofNat (z3.getD i 0).toNat).toNat = z3[i].toNat := by
      rw [List.getD_eq_getElem?_getD, List.getElem?_eq_getElem hi2, Option.getD_some]
      simp
      omega
    rw [e]
    simp [hi2]
    omega
end Go.Proofs.Ytgididgijhpfpaa

namespace Go.Proofs.Ytgididgijhpfpaa.macInner
open Go.ChangeShapes Go.WideShapes Go.ChangeAt Go.RowKit
set_option linter.unusedVariables false

theorem own : ownKnob Try.prog.godebug = none := by kernel_rfl
theorem laidOut : laidOutB Try.prog = true := by kernel_rfl

set_option maxRecDepth 100000 in
theorem lifted (os : Os) (started : os.Started) (H : Type) (enc : TypeId × Value → H) :
    ReturnsInHanded {} Try.checked os 6 .any (Rows.macInnerSpec.pre6 enc Try.prog Try.f6 Rows.macInnerRow.domain false) (Rows.macInnerSpec.post enc Try.prog Try.f6 false true false false) := by
  refine returnsInHanded_of_change (C := Try.checked) own started (by kernel_rfl) Try.func6
    (ChangeSpec.witness6 (enc := enc) (C := Try.checked) false ⟨#[], #[.slice none 0 0, .slice none 0 0, .int .u16 0, .agg #[.int .u8 0, .int .u8 0, .int .u8 0, .int .u8 0, .int .u8 0, .int .u8 0, .int .u8 0, .int .u8 0]], []⟩ 8 (by kernel_rfl) (by kernel_rfl) (by kernel_rfl) (by kernel_rfl)) ?_
  intro W base args ds gs before hval0 hW hcnd _
  have hval : ∀ (j : Nat) t v, Try.f6.params[j]? = some t → args[j]? = some v → Value.okWide Try.prog W .any base t v := hval0
  have hW' := hW
  obtain ⟨p, q, hA0, hV, rfl, hfz, hnd⟩ := hW
  have hA : DataW.TrodAll enc Try.prog W 0 (fun _ => true) true Try.f6.params.toList args.toList ds p := hA0
  rw [Try.params6] at hA hval
  obtain ⟨v0, vs0, d0, ds0, p0, q0, hargs, rfl, rfl, h0, r0⟩ := trodAll_cons hA
  obtain ⟨v1, vs1, d1, ds1, p1, q1, rfl, rfl, rfl, h1, r1⟩ := trodAll_cons r0
  obtain ⟨v2, vs2, d2, ds2, p2, q2, rfl, rfl, rfl, h2, r2⟩ := trodAll_cons r1
  obtain ⟨v3, vs3, d3, ds3, p3, q3, rfl, rfl, rfl, h3, r3⟩ := trodAll_cons r2
  obtain ⟨rfl, rfl, rfl⟩ := trodAll_nil r3
  obtain rfl : args = #[v0, v1, v2, v3] := by cases args; simp_all
  obtain ⟨rfl, rfl⟩ := trodVars_none hV
  obtain ⟨a0, len0, cap0, rfl⟩ := okWide_slice Try.underlying23 (hval 0 23 v0 rfl rfl)
  have k0 := h0
  have lt0 : ∀ x ∈ p0, x.block < W.heap.size := by obtain ⟨m, hm⟩ := k0; exact DataW.trod_lt m _ _ _ hm
  obtain ⟨z0, w0⟩ : ∃ zs, IsRow .u8 W a0 len0 cap0 zs := by
    obtain ⟨fuel, hf⟩ := h0
    rcases open_ints Try.underlying23 Try.underlying5 (by kernel_rfl) hf with ⟨hcs, _⟩ | ⟨x, l, c, zs, hcs, _, hl, hm, hz, _, hcell, hwz⟩
    · simp [Value.cells] at hcs
      obtain ⟨rfl, rfl, rfl⟩ := hcs
      exact ⟨[], .inl ⟨rfl, rfl, rfl, rfl⟩⟩
    · simp [Value.cells] at hcs
      obtain ⟨rfl, rfl, rfl⟩ := hcs
      exact ⟨zs, .inr ⟨_, rfl, hl, hm, by simpa using hz, hcell, hwz⟩⟩
  obtain ⟨a1, len1, cap1, rfl⟩ := okWide_slice Try.underlying23 (hval 1 23 v1 rfl rfl)
  have k1 := h1
  have lt1 : ∀ x ∈ p1, x.block < W.heap.size := by obtain ⟨m, hm⟩ := k1; exact DataW.trod_lt m _ _ _ hm
  obtain ⟨z1, w1⟩ : ∃ zs, IsRow .u8 W a1 len1 cap1 zs := by
    obtain ⟨fuel, hf⟩ := h1
    rcases open_ints Try.underlying23 Try.underlying5 (by kernel_rfl) hf with ⟨hcs, _⟩ | ⟨x, l, c, zs, hcs, _, hl, hm, hz, _, hcell, hwz⟩
    · simp [Value.cells] at hcs
      obtain ⟨rfl, rfl, rfl⟩ := hcs
      exact ⟨[], .inl ⟨rfl, rfl, rfl, rfl⟩⟩
    · simp [Value.cells] at hcs
      obtain ⟨rfl, rfl, rfl⟩ := hcs
      exact ⟨zs, .inr ⟨_, rfl, hl, hm, by simpa using hz, hcell, hwz⟩⟩
  obtain ⟨a2, rfl, rfl, rfl, w2⟩ := open_int Try.underlying34 (hval 2 34 v2 rfl rfl) h2
  have k3 := h3
  have lt3 : ∀ x ∈ p3, x.block < W.heap.size := by obtain ⟨m, hm⟩ := k3; exact DataW.trod_lt m _ _ _ hm
  obtain ⟨z3, rfl, l3, w3⟩ := open_ints_arr Try.underlying35 Try.underlying5 (by kernel_rfl) (by kernel_rfl) (hval 3 35 v3 rfl rfl) h3
  clear hA0 hval0
  refine (macInner_walk a0 len0 cap0 _ a1 len1 cap1 _ a2 z3 W (bsl_of_row w0) (bsl_of_row w1) w2 l3 w3).mono fun e W' ⟨he, bel⟩ => ?_
  subst he
  exact ⟨_, rfl, _, _, _, [], _, [], hW', trodAll_mk1 (shut_bool Try.underlying4 _), (trodAll_cons_mk (Below.trod laidOut (by kernel_rfl) (of_decide_eq_true (by kernel_rfl)) k0 bel lt0) (trodAll_cons_mk (Below.trod laidOut (by kernel_rfl) (of_decide_eq_true (by kernel_rfl)) k1 bel lt1) (trodAll_cons_mk (shut_int Try.underlying34 w2) (trodAll_cons_mk (Below.trod laidOut (by kernel_rfl) (of_decide_eq_true (by kernel_rfl)) k3 bel lt3) trodAll_mk0)))), rfl, bel.frame _, fun h => by cases h⟩

theorem over : Rows.macInnerRow.holds Try.pinned (OpenSpec.ofChange Rows.macInnerSpec) :=
  OpenClaim.holds_of_wide 6 Try.f6 rfl rfl rfl rfl rfl rfl rfl ⟨rfl, rfl, rfl, rfl, rfl⟩ rfl rfl rfl rfl rfl (by kernel_rfl) Try.func6 (by kernel_rfl)
    (of_decide_eq_true (by kernel_rfl)) (by unfold Func.isWrapper; first | (rw [if_pos (by decide +kernel)]; kernel_rfl) | (rw [if_neg (by decide +kernel)]; exact ⟨rfl, rfl⟩))
    (fun os started H enc _ => lifted os started H enc)

/-- The statement. -/
theorem proved : Rows.MacInnerSaid := over
end Go.Proofs.Ytgididgijhpfpaa.macInner
