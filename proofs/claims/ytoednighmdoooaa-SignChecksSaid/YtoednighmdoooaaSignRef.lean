/-
  The document's own node above two, node of a height and place, Public for layer 8 answer what sign's answer.
-/
import Derived.Test.YtoednighmdoooaaChainRefB
import Derived.Test.YtoednighmdoooaaSignMath
import Derived.Test.YtoednighmdoooaaSignPub
namespace Go.Proofs.Ytoednighmdoooaa
open Go.RowKit Go.Shelf
set_option maxRecDepth 100000

theorem own_new1 (w : World) (B : Nat) (hB : B ≤ w.heap.size) (u : UInt8) : (w.alloc (.cells #[.int .u8 (u.toNat : Int)] 5)).ownsRow B 5 1 (.slice (some ⟨w.heap.size, 0, none⟩) 1 1) 1 (vals [u]) :=
  World.ownsRow_lit w #[.int .u8 (u.toNat : Int)] 1 hB (by unfold maxLen; omega) rfl
set_option maxHeartbeats 2000000 in
theorem rup_any (h : Nat) (hh : h < 3) (a : Option Addr) (ca : Nat) (x : List UInt8) (b : Option Addr) (cb : Nat) (y : List UInt8) (w : World) (hA : Bsl w w.heap.size a 16 ca x) (hB : Bsl w w.heap.size b 16 cb y) :
    Calls Try.prog 28 #[.int .i64 h, .slice a 16 ca, .slice b 16 cb] w (OwnV 16 (upL h x y) w) := by
  have e1 : ((128 : Int) + (h : Int)) = ((128 + h : Nat) : Int) := by omega
  have e2 : IntKind.u8.wrap ((128 : Int) + (h : Int)) = (((UInt8.ofNat (128 + h)).toNat : Nat) : Int) := by
    rw [e1, wrapU8 (128 + h) (by omega)]
    simp
    omega
  have e3 : IntKind.i64.wrap ((128 : Int) + (h : Int)) = (128 : Int) + (h : Int) := by
    rw [e1]; unfold IntKind.wrap; simp [IntKind.bits, IntKind.signed]; omega
  have hup : upL h x y = keyL ([UInt8.ofNat (128 + h)] ++ x ++ y) := rfl
  have hu : (UInt8.ofNat (128 + h)).toNat < 256 := UInt8.toNat_lt _
  obtain ⟨u, hu'⟩ : ∃ u, UInt8.ofNat (128 + h) = u := ⟨_, rfl⟩
  rw [hu'] at e2 hup hu
  rw [hup]
  clear hu' hup e1
  have ho0 := own_new1 w w.heap.size (Nat.le_refl _) u
  have bx : Below w.heap.size w (w.alloc (.cells #[.int .u8 (u.toNat : Int)] 5)) := (Below.refl _ w).alloc (Nat.le_refl _) _
  have HA := Lib.hid (hA.step bx)
  have HB := Lib.hid hB
  have HO0 := Lib.hid ho0
  have HB0 := Lib.hid bx
  have h0 : (0 : Int) ≤ h := by omega
  have h3 : (h : Int) < 3 := by omega
  obtain ⟨n, hn⟩ : ∃ n : Nat, u.toNat = n := ⟨_, rfl⟩
  rw [hn] at e2 hu HA HO0 HB0
  have HN := Lib.hid hn
  clear hn hA hB ho0 bx
  go_enter Try.func28, Try.ntmps28
  go_wp2_with (first
    | (at_builtin
       refine wpList_append_bsl rfl (.tmp 12) (.tmp 13) rfl w.heap.size _ 1 _ rfl HO0.out _ a 16 ca x rfl HA.out (by omega) HB0.out.size ?_
       intro v1 W1 hown1 hg1
       have HB1 := Lib.hid (app_below HB0.out HO0.out hg1 HB0.out.size)
       have HY1 := Lib.hid (HB.out.step HB1.out)
       have HO1 := Lib.hid hown1; clear hown1 hg1)
    | (at_builtin
       refine wpList_append_bsl rfl (.tmp 15) (.tmp 16) rfl w.heap.size _ 17 _ rfl HO1.out _ b 16 cb y rfl HY1.out (by omega) HB1.out.size ?_
       intro v2 W2 hown2 hg2
       have HB2 := Lib.hid (app_below HB1.out HO1.out hg2 HB1.out.size); clear hg2
       have HO2 := Lib.hid hown2; clear hown2
       obtain ⟨a3, c3, ev, hb3⟩ := own_to HO2.out
       subst ev
       have HT2 := Lib.hid hb3; clear hb3))
  have hk := rkey_own _ _ _ _ W2 HT2.out (by omega)
  have HK := Lib.hid hk; clear hk
  refine HK.out.mono ?_
  rintro e w3 ⟨v3, rfl, ho3, b3⟩
  have HB3 := Lib.hid (HB2.out.trans (b3.mono HB2.out.size))
  have HO3 := Lib.hid (own_mono ho3 HB2.out.size); clear ho3 b3 HK
  go_wp2_with fail
  go_ret
  exact ⟨_, rfl, HO3.out, HB3.out⟩
set_option maxHeartbeats 2000000 in
theorem rnode_any (a : Option Addr) (cap : Nat) (sd : List UInt8) : ∀ (h : Nat), h ≤ 3 → ∀ (p : Nat), p * 2 ^ h + 2 ^ h ≤ 8 → ∀ w : World, Bsl w w.heap.size a 16 cap sd →
    Calls Try.prog 24 #[.slice a 16 cap, .int .i64 h, .int .i64 p] w (OwnV 16 (nodeL sd h p) w)
  | 0, _, p, hp, w, hA => by
    have hp8 : p < 8 := by simp at hp; omega
    have HP := Lib.hid (rPublic_ok a cap sd p hp8 w hA)
    go_enter Try.func24, Try.ntmps24
    go_wp2_with fail
    refine HP.out.mono ?_
    rintro e w1 ⟨v1, rfl, ho1, b1⟩
    have HO1 := Lib.hid ho1
    have HB1 := Lib.hid b1
    clear ho1 b1 HP
    go_wp2_with fail
    go_ret
    exact ⟨_, rfl, HO1.out, HB1.out⟩
  | h + 1, hh, p, hp, w, hA => by
    rw [Nat.pow_succ] at hp
    have hmul : p * (2 ^ h * 2) = 2 * p * 2 ^ h := by rw [Nat.mul_comm (2 ^ h) 2, ← Nat.mul_assoc, Nat.mul_comm p 2]
    have hp1 : 2 * p * 2 ^ h + 2 ^ h ≤ 8 := by omega
    have hp2 : (2 * p + 1) * 2 ^ h + 2 ^ h ≤ 8 := by rw [Nat.add_mul]; omega
    have hpos : 0 < 2 ^ h := Nat.two_pow_pos h
    have hp8 : p < 8 := by
      have : p ≤ p * (2 ^ h * 2) := Nat.le_mul_of_pos_right p (by omega)
      omega
    have ih1 := rnode_any a cap sd h (by omega) (2 * p) hp1 w hA
    have ih2 := rnode_any a cap sd h (by omega) (2 * p + 1) hp2
    have hnode : nodeL sd (h + 1) p = upL h (nodeL sd h (2 * p)) (nodeL sd h (2 * p + 1)) := rfl
    rw [hnode]
    obtain ⟨X, hX⟩ : ∃ X, nodeL sd h (2 * p) = X := ⟨_, rfl⟩
    obtain ⟨Y, hY⟩ : ∃ Y, nodeL sd h (2 * p + 1) = Y := ⟨_, rfl⟩
    rw [hX] at ih1 ⊢
    rw [hY] at ih2 ⊢
    have hup := fun a ca b cb w hA hB => rup_any h (by omega) a ca X b cb Y w hA hB
    obtain ⟨m, hm⟩ : ∃ m : Int, ((h + 1 : Nat) : Int) = m := ⟨_, rfl⟩
    have hmk : m - 1 = (h : Int) := by omega
    have e1 : ((2 * p : Nat) : Int) = 2 * (p : Int) := by omega
    have e2 : ((2 * p + 1 : Nat) : Int) = 2 * (p : Int) + 1 := by omega
    rw [← hmk, e1] at ih1
    simp only [← hmk, e2] at ih2
    simp only [← hmk] at hup
    rw [hm]
    have hm1 : 1 ≤ m := by omega
    have hm3 : m ≤ 3 := by omega
    have h2 : (m == 0) = false := by simp; omega
    have p0 : (0 : Int) ≤ p := by omega
    have p7 : (p : Int) < 8 := by omega
    have HI1 := Lib.hid ih1
    have HI2 := Lib.hid ih2
    have HUP := Lib.hid hup
    have HA := Lib.hid hA
    clear ih1 ih2 hup hA hmk hm hX hY hnode e1 e2 hmul hp1 hp2 hpos hp
    go_enter Try.func24, Try.ntmps24
    go_wp2_with fail
    refine HI1.out.mono ?_
    rintro e w1 ⟨v1, rfl, ho1, b1⟩
    obtain ⟨a1, c1, rfl, hb1⟩ := own_to ho1
    have HQ1 := Lib.hid hb1
    have HB1 := Lib.hid b1
    have HJ := Lib.hid (HI2.out w1 (HA.out.step b1))
    clear ho1 hb1 b1 HI1 HI2
    go_wp2_with fail
    refine HJ.out.mono ?_
    rintro e w2 ⟨v2, rfl, ho2, b2⟩
    obtain ⟨a2, c2, rfl, hb2⟩ := own_to ho2
    have HU := Lib.hid (HUP.out _ _ _ _ w2 (HQ1.out.step b2) hb2)
    have HB2 := Lib.hid (HB1.out.trans (b2.mono HB1.out.size))
    clear ho2 hb2 b2 HJ HUP HQ1 HB1
    go_wp2_with fail
    refine HU.out.mono ?_
    rintro e w3 ⟨v3, rfl, ho3, b3⟩
    have HB3 := Lib.hid (HB2.out.trans (b3.mono HB2.out.size))
    have HO3 := Lib.hid (own_mono ho3 HB2.out.size)
    clear ho3 b3 HU
    go_wp2_with fail
    go_ret
    exact ⟨_, rfl, HO3.out, HB3.out⟩
theorem rsPublic_any (a : Option Addr) (len cap : Nat) (sd : List UInt8) (w : World) (hA : Bsl w w.heap.size a len cap sd) : Calls Try.prog 12 #[.slice a len cap] w (ToldB (spubO sd) w) := by
  unfold spubO
  by_cases h : len = 16
  · subst h
    rw [if_pos hA.1]
    have HN := Lib.hid (rnode_any a cap sd 3 (Nat.le_refl _) 0 (by decide) w hA)
    clear hA
    go_enter Try.func12, Try.ntmps12
    go_wp2_with fail
    refine HN.out.mono ?_
    rintro e w1 ⟨v1, rfl, ho1, b1⟩
    obtain ⟨a1, c1, rfl, hb1⟩ := own_to ho1
    have HQ := Lib.hid hb1
    have HB := Lib.hid b1
    clear ho1 hb1 b1 HN
    go_wp2_with fail
    go_ret2
    exact toldB_of (nodeL_length _ _ _) HQ.out HB.out
  · rw [if_neg (by rw [hA.1]; exact h)]
    have h5 : ((len : Int) != 16) = true := by simp; omega
    clear hA
    go_enter Try.func12, Try.ntmps12
    go_wp2_with fail
    go_ret2
    exact toldB_none _ _ _ (Below.refl _ _)
end Go.Proofs.Ytoednighmdoooaa
