/-
  sign.signature, of a seed of sixteen bytes and a leaf from 0 to 7, answers the leaf, the text signed with it, and the nodes beside its way up; a row of the call's own; nothing that was there is written.
-/
import Derived.Test.YtoednighmdoooaaSignPub
namespace Go.Proofs.Ytoednighmdoooaa
open Go.RowKit Go.Shelf
set_option maxRecDepth 100000

/-- Two lists in a row that has just been made: what comes of them is the call's own. -/
theorem concat2_own (w : World) (a : Option Addr) (la ca : Nat) (s : List UInt8) (b : Option Addr) (lb cb : Nat) (t : List UInt8) (hA : Bsl w w.heap.size a la ca s) (hB : Bsl w w.heap.size b lb cb t) (h0 : 0 < la + lb) (hm : la + lb ≤ 100000) :
    Calls Try.prog 30 #[.slice (some ⟨w.heap.size, 0, none⟩) 2 2] (w.alloc (.cells #[.slice a la ca, .slice b lb cb] 22)) fun e w' => ∃ v, e = .returned v ∧ w'.ownsRow w.heap.size 5 1 v (la + lb) (vals (s ++ t)) ∧ Below w.heap.size w w' := by
  have hx := Blk.new w 22 #[.slice a la ca, .slice b lb cb]
  have hb1 : Below w.heap.size w (w.alloc (.cells #[.slice a la ca, .slice b lb cb] 22)) := (Below.refl _ w).alloc (Nat.le_refl _) _
  obtain ⟨w1, hw1⟩ : ∃ w1, w.alloc (.cells #[.slice a la ca, .slice b lb cb] 22) = w1 := ⟨_, rfl⟩
  rw [hw1] at hx hb1 ⊢
  have e1 := hA.1; have e2 := hB.1
  have hk := concat_own w.heap.size 2 [⟨a, la, ca, s⟩, ⟨b, lb, cb, t⟩] w1 hx.lt (by simp) (by simp)
    (fun i h => by
      have : i = 0 ∨ i = 1 := by simp at h; omega
      rcases this with rfl | rfl
      · exact hx.cell 0
      · exact hx.cell 1)
    (fun i h => by
      have : i = 0 ∨ i = 1 := by simp at h; omega
      rcases this with rfl | rfl
      · exact hA.step hb1
      · exact hB.step hb1)
    (by rw [flat2]; simp; omega) (by rw [flat2]; simp; omega)
  rw [flat2] at hk
  refine Calls.mono hk fun e w2 h => ?_
  obtain ⟨v, he, h2, h3⟩ := h
  have hl : (s ++ t).length = la + lb := by simp; omega
  exact ⟨v, he, by rw [← hl]; exact own_mono h2 hb1.size, hb1.trans (h3.mono hb1.size)⟩

/-- A signature, up to the nodes of height k. -/
def sigK (sd : List UInt8) (l x : Nat) : Nat → List UInt8
  | 0 => [UInt8.ofNat l] ++ valsL sd l (digL x) 10
  | k + 1 => sigK sd l x k ++ nodeL sd k (sib (l / 2 ^ k))
theorem sigK_sigL (sd : List UInt8) (l x : Nat) : sigK sd l x 3 = sigL sd l x := by
  simp [sigK, sigL, List.append_assoc]
theorem half_at (l k : Nat) (hl : l < 8) (h : k < 3) (q : Nat) (e : 2 ^ (3 - k) = 2 * q) : l / 2 ^ k < 2 * q ∧ l / 2 ^ k < 8 ∧ l / 2 ^ k / 2 = l / 2 ^ (k + 1) := by
  refine ⟨?_, Nat.lt_of_le_of_lt (Nat.div_le_self _ _) hl, by rw [Nat.div_div_eq_div_mul, ← Nat.pow_succ]⟩
  have : k = 0 ∨ k = 1 ∨ k = 2 := by omega
  rcases this with rfl | rfl | rfl <;> simp at e ⊢ <;> omega
set_option maxHeartbeats 8000000 in
theorem signature_ok (a : Option Addr) (cap : Nat) (sd : List UInt8) (l : Nat) (hl : l < 8) (b : Option Addr) (lenb capb : Nat) (s : List UInt8) (w : World) (hA : Bsl w w.heap.size a 16 cap sd) (hB : Bsl w w.heap.size b lenb capb s) (hlen : lenb ≤ 4294967295) :
    Calls Try.prog 18 #[.slice a 16 cap, .int .i64 l, .slice b lenb capb] w fun en w' => ∃ v, en = .returned v ∧ w'.ownsRow w.heap.size 5 1 v 209 (vals (sigL sd l (fourW s).a.toNat)) ∧ Below w.heap.size w w' := by
  have l0 : (0 : Int) ≤ l := by omega
  have l1 : (l : Int) < 8 := by omega
  have e2 : IntKind.u8.wrap (l : Int) = (((UInt8.ofNat l).toNat : Nat) : Int) := by
    rw [wrapU8 l (by omega)]
    simp
    omega
  have hsg := Sign_ok a cap sd l hl b lenb capb s w hA hB hlen
  obtain ⟨x, hx⟩ : ∃ x, (fourW s).a.toNat = x := ⟨_, rfl⟩
  rw [hx] at hsg ⊢
  rw [← sigK_sigL]
  have hs0 : [UInt8.ofNat l] ++ valsL sd l (digL x) 10 = sigK sd l x 0 := rfl
  have hu : (UInt8.ofNat l).toNat < 256 := UInt8.toNat_lt _
  obtain ⟨u, hu'⟩ : ∃ u, UInt8.ofNat l = u := ⟨_, rfl⟩
  rw [hu'] at e2 hs0 hu
  have HS0 := Lib.hid hs0
  have HSG := Lib.hid hsg
  have HA := Lib.hid hA
  clear hu' hs0 hsg hA hB hx
  go_enter Try.func18, Try.ntmps18
  go_wp2_with fail
  refine HSG.out.mono ?_
  rintro e w1 ⟨v1, rfl, ho1, b1⟩
  obtain ⟨a1, c1, rfl⟩ := own_slice ho1
  have hq1 := own_bsl ho1
  obtain ⟨w2, hw2⟩ : ∃ w2, w1.alloc (.cells #[.int .u8 (u.toNat : Int)] 5) = w2 := ⟨_, rfl⟩
  have bx : Below w1.heap.size w1 w2 := by rw [← hw2]; exact (Below.refl _ w1).alloc (Nat.le_refl _) _
  have h1 := one_bsl w1 u
  rw [hw2] at h1
  have hcc := concat2_own w2 _ _ _ _ _ _ _ _ h1 (hq1.step bx) (by omega) (by omega)
  rw [HS0.out] at hcc
  have HCC := Lib.hid hcc
  have HB2 := Lib.hid (b1.trans (bx.mono b1.size))
  have HA2 := Lib.hid ((HA.out.step b1).step bx)
  obtain ⟨n, hn⟩ : ∃ n : Nat, u.toNat = n := ⟨_, rfl⟩
  rw [hn] at e2 hu hw2
  clear ho1 b1 hq1 bx h1 hcc hn HA HSG
  go_wp2_with fail
  clear hw2
  refine HCC.out.mono ?_
  rintro e w3 ⟨v3, rfl, ho3, b3⟩
  obtain ⟨gv, cv, rfl, _, hgv, _⟩ := bsl_of_own ho3 (by omega)
  have HB3 := Lib.hid (HB2.out.trans (b3.mono HB2.out.size))
  have HO3 := Lib.hid (own_mono ho3 HB2.out.size)
  have HLV := Lib.hid (leaves_any a cap sd w3 (HA2.out.step b3))
  clear ho3 b3 HCC HB2 HA2 HS0
  go_wp2_with fail
  refine HLV.out.mono ?_
  rintro e w4 ⟨g4, vs4, rfl, ho4, hn4, b4⟩
  have HB4 := Lib.hid (HB3.out.trans (b4.mono HB3.out.size))
  have HO4 := Lib.hid (own_below HO3.out b4)
  have HR4 := Lib.hid ho4
  have HN4 := Lib.hid hn4
  have HZ := Lib.hid HB3.out.size
  have HZ4 := Lib.hid b4.size
  clear ho4 hn4 b4 HB3 HO3 HLV
  go_wp2_with fail
  go_loopw [9, 10, 11, 29] (fun v ta nd i wr => ∃ k : Nat, k ≤ 3 ∧ i = .int .i64 k ∧ ta = .int .i64 ((l / 2 ^ k : Nat) : Int) ∧ ∃ gv cv g vs lo, v = .slice (some ⟨gv, 0, none⟩) (161 + 16 * k) cv ∧ wr.ownsRow w.heap.size 5 1 (.slice (some ⟨gv, 0, none⟩) (161 + 16 * k) cv) (161 + 16 * k) (vals (sigK sd l x k)) ∧ gv < lo ∧ lo ≤ wr.heap.size ∧ w.heap.size ≤ lo ∧
      nd = .slice (some ⟨g, 0, none⟩) (2 ^ (3 - k)) (2 ^ (3 - k)) ∧ wr.ownsRow lo 22 1 (.slice (some ⟨g, 0, none⟩) (2 ^ (3 - k)) (2 ^ (3 - k))) (2 ^ (3 - k)) vs ∧ Nodes wr lo vs (2 ^ (3 - k)) (nodeL sd k) ∧ Below w.heap.size w wr) (fun _ _ _ i _ => 3 - (intOf i).toNat)
  case atStart => exact ⟨0, by omega, rfl, by simp, gv, cv, g4, vs4, w3.heap.size, rfl, HO4.out, hgv, HZ4.out, HZ.out, rfl, HR4.out, HN4.out, HB4.out⟩
  case round =>
    obtain ⟨k, hk, rfl, rfl, gv, cv, g, vs, lo, rfl, ho, hgl, hlo, hwl, rfl, hr, hn, hb⟩ := hrel
    have k0 : (0 : Int) ≤ k := by omega
    by_cases hlt : k < 3
    · have k2 : (k : Int) < 3 := by omega
      obtain ⟨q, hq, e1, e2⟩ := half_row k hlt
      obtain ⟨h1, h2, h3⟩ := half_at l k hl hlt q e1
      have hsk : sigK sd l x (k + 1) = sigK sd l x k ++ nodeL sd k (sib (l / 2 ^ k)) := rfl
      rw [e1] at hr hn ⊢
      obtain ⟨t, ht⟩ : ∃ t, l / 2 ^ k = t := ⟨_, rfl⟩
      rw [ht] at h1 h2 h3 hsk ⊢
      have hsl := sib_lt t q h1
      obtain ⟨nb, nc, hv, hnb, hnB⟩ := hn.2 (sib t) hsl
      have hc := own_cell hr (sib t) hsl
      rw [hv] at hc
      have HBS := Lib.hid (beside_any g q (2 * q) t h2 h1 _ wr hc)
      obtain ⟨V, hV⟩ : ∃ V, nodeL sd k (sib t) = V := ⟨_, rfl⟩
      rw [hV] at hnB hsk
      obtain ⟨L, hL⟩ : ∃ L, 2 * q = L := ⟨_, rfl⟩
      obtain ⟨M, hM⟩ : ∃ M, 161 + 16 * k = M := ⟨_, rfl⟩
      have et : Int.tdiv (t : Int) 2 = ((t / 2 : Nat) : Int) := by rw [Int.tdiv_eq_ediv_of_nonneg (by omega)]; omega
      obtain ⟨t2, ht2⟩ : ∃ t2, t / 2 = t2 := ⟨_, rfl⟩
      rw [ht2] at et h3
      have et2 : (t : Int) / 2 = (t2 : Int) := by omega
      rw [hL] at HBS hr hn ⊢
      rw [hM] at ho ⊢
      have hM9 : M ≤ 1000 := by omega
      have HL := Lib.hid hL
      have HM := Lib.hid hM
      have HO := Lib.hid ho
      have HR := Lib.hid hr
      have HN := Lib.hid hn
      have HBr := Lib.hid hb
      have HNB := Lib.hid hnB
      have HSK := Lib.hid hsk
      have HE1 := Lib.hid e1
      have HE2 := Lib.hid e2
      have H3 := Lib.hid h3
      have t0 : (0 : Int) ≤ t := by omega
      clear ho hr hn hb hnB hsk hV hv hc hL hM e1 e2 ht ht2 h3
      go_wp2_with fail
      refine HBS.out.mono ?_
      rintro e w5 ⟨rfl, rfl⟩
      go_wp2_with (at_builtin
                   refine wpList_append_bsl rfl (.tmp 32) (.tmp 35) rfl w.heap.size (.slice (some ⟨gv, 0, none⟩) M cv) M _ rfl HO.out _ (some ⟨nb, 0, none⟩) 16 nc V rfl HNB.out (by omega) HBr.out.size ?_
                   intro v7 w7 ho7 hg7
                   have hg7 : wr.grownBy w7 (some gv) := hg7
                   obtain ⟨gw, cw, rfl, _, hgw, _⟩ := bsl_of_own ho7 (by omega)
                   have hr7 := own_other HR.out hg7 (fun k e => by have := (own_lt HR.out).1; simp [Value.ownBlock] at e; omega)
                   have hn7 := HN.out.beside hg7 hgl
                   have HB7 := Lib.hid (app_below HBr.out HO.out hg7 HBr.out.size)
                   have HO7 := Lib.hid ho7
                   have hab := above_any k hlt q hq g (2 * q) vs (nodeL sd k) w7 (own_mono (by rw [HL.out]; exact hr7) (Nat.zero_le _)) ((show Nodes w7 lo vs (2 * q) _ by rw [HL.out]; exact hn7).lower (Nat.zero_le _))
                   rw [HL.out] at hab
                   have HAB := Lib.hid hab
                   have HZ7 := Lib.hid (Nat.le_trans (Nat.le_trans hwl hlo) hg7.size)
                   clear hg7 ho7 hr7 hn7 hab)
      refine HAB.out.mono ?_
      rintro e w8 ⟨g8, vs8, rfl, ho8, hn8, b8⟩
      have HO8 := Lib.hid (own_below HO7.out b8)
      have HB8 := Lib.hid (HB7.out.trans (b8.mono HB7.out.size))
      have HR8 := Lib.hid ho8
      have HN8 := Lib.hid hn8
      have HZ8 := Lib.hid b8.size
      clear ho8 hn8 b8 HAB
      go_wp2_with fail
      go_roundw
      case rel =>
        have em : M + 16 = 161 + 16 * (k + 1) := by have := HM.out; omega
        refine ⟨k + 1, by omega, by go_num, by rw [H3.out], gw, cw, g8, vs8, w7.heap.size, by rw [← em], ?_, hgw, HZ8.out, HZ7.out, by rw [HE2.out], by rw [HE2.out]; exact HR8.out, by rw [HE2.out]; exact HN8.out, HB8.out⟩
        rw [HSK.out, ← em]
        exact HO8.out
      case measure => simp [intOf]; omega
    · obtain rfl : k = 3 := by omega
      have HO := Lib.hid ho
      have HB := Lib.hid hb
      clear ho hb hr hn
      go_wp2_with fail
      go_ret
      exact ⟨_, rfl, HO.out, HB.out⟩
end Go.Proofs.Ytoednighmdoooaa
