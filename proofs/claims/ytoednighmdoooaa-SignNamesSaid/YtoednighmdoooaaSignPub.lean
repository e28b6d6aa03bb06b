/-
  sign.Public, whatever it is handed, answers the public key of a seed of sixteen bytes, or the error that is due; new memory; nothing that was there is written.
-/
import Derived.Test.YtoednighmdoooaaAbove
namespace Go.Proofs.Ytoednighmdoooaa
open Go.RowKit Go.Shelf
set_option maxRecDepth 100000

theorem half_row (k : Nat) (h : k < 3) : ∃ q, q ≤ 4 ∧ 2 ^ (3 - k) = 2 * q ∧ 2 ^ (3 - (k + 1)) = q := by
  have : k = 0 ∨ k = 1 ∨ k = 2 := by omega
  rcases this with rfl | rfl | rfl
  · exact ⟨4, by omega, rfl, rfl⟩
  · exact ⟨2, by omega, rfl, rfl⟩
  · exact ⟨1, by omega, rfl, rfl⟩
/-- What Public answers. -/
def spubO (sd : List UInt8) : List UInt8 × Int := if sd.length = 16 then (nodeL sd 3 0, 0) else ([], 2)
theorem sPublic_bad (a : Option Addr) (len cap : Nat) (hl : len ≠ 16) (w : World) : Calls Try.prog 11 #[.slice a len cap] w (ToldB ([], 2) w) := by
  have h1 : ((len : Int) == 16) = false := by simp; omega
  have hk := isKey_any a len cap w
  rw [h1] at hk
  have HK := Lib.hid hk; clear hk h1
  go_enter Try.func11, Try.ntmps11
  go_wp2_with fail
  refine HK.out.mono ?_
  rintro e w1 ⟨rfl, rfl⟩
  go_wp2_with fail
  go_ret2
  exact toldB_none _ _ _ (Below.refl _ _)
set_option maxHeartbeats 4000000 in
theorem sPublic_ok (a : Option Addr) (cap : Nat) (sd : List UInt8) (w : World) (hA : Bsl w w.heap.size a 16 cap sd) :
    Calls Try.prog 11 #[.slice a 16 cap] w fun en w' => ∃ g c, en = .returned (.tuple #[.slice (some ⟨g, 0, none⟩) 16 c, .int .i64 0]) ∧ w.heap.size ≤ g ∧ Bsl w' w'.heap.size (some ⟨g, 0, none⟩) 16 c (nodeL sd 3 0) ∧ Below w.heap.size w w' := by
  have hk := isKey_any a 16 cap w
  have h1 : (((16 : Nat) : Int) == 16) = true := by decide
  rw [h1] at hk
  have HK := Lib.hid hk; clear hk h1
  have HLV := Lib.hid (leaves_any a cap sd w hA)
  go_enter Try.func11, Try.ntmps11
  go_wp2_with fail
  refine HK.out.mono ?_
  rintro e w1 ⟨rfl, rfl⟩
  go_wp2_with fail
  refine HLV.out.mono ?_
  rintro e w2 ⟨g2, vs2, rfl, ho2, hn2, hb2⟩
  have HO2 := Lib.hid ho2
  have HN2 := Lib.hid hn2
  have HB2 := Lib.hid hb2
  clear ho2 hn2 hb2 HLV HK hA
  go_wp2_with fail
  go_loopw [4, 11] (fun v i wr => ∃ k : Nat, k ≤ 3 ∧ i = .int .i64 k ∧ ∃ g vs, v = .slice (some ⟨g, 0, none⟩) (2 ^ (3 - k)) (2 ^ (3 - k)) ∧ wr.ownsRow w.heap.size 22 1 (.slice (some ⟨g, 0, none⟩) (2 ^ (3 - k)) (2 ^ (3 - k))) (2 ^ (3 - k)) vs ∧ Nodes wr w.heap.size vs (2 ^ (3 - k)) (nodeL sd k) ∧ Below w.heap.size w wr) (fun _ i _ => 3 - (intOf i).toNat)
  case atStart => exact ⟨0, by omega, rfl, _, _, rfl, HO2.out, HN2.out, HB2.out⟩
  case round =>
    obtain ⟨k, hk, rfl, g, vs, rfl, ho, hn, hb⟩ := hrel
    have k0 : (0 : Int) ≤ k := by omega
    by_cases hlt : k < 3
    · have k2 : (k : Int) < 3 := by omega
      obtain ⟨q, hq, e1, e2⟩ := half_row k hlt
      rw [e1] at ho hn ⊢
      have HAB := Lib.hid (above_any k hlt q hq g (2 * q) vs (nodeL sd k) wr (own_mono ho (Nat.zero_le _)) (hn.lower (Nat.zero_le _)))
      have HBr := Lib.hid hb
      have HE2 := Lib.hid e2
      obtain ⟨L, hL⟩ : ∃ L, 2 * q = L := ⟨_, rfl⟩
      rw [hL] at HAB ⊢
      clear hb ho hn e1 e2 hL
      go_wp2_with fail
      refine HAB.out.mono ?_
      rintro e w3 ⟨g3, vs3, rfl, ho3, hn3, hb3⟩
      have hz := HBr.out.size
      have HO3 := Lib.hid (own_mono ho3 hz)
      have HN3 := Lib.hid (hn3.lower hz)
      have HB3 := Lib.hid (HBr.out.trans (hb3.mono hz))
      clear ho3 hn3 hb3 HAB hz
      go_wp2_with fail
      go_roundw
      case rel => exact ⟨k + 1, by omega, by go_num, g3, vs3, by rw [HE2.out], by rw [HE2.out]; exact HO3.out, by rw [HE2.out]; exact HN3.out, HB3.out⟩
      case measure => simp [intOf]; omega
    · obtain rfl : k = 3 := by omega
      obtain ⟨b, c, hv, hbl, hB⟩ := hn.2 0 (by decide)
      have hc := own_cell ho 0 (by decide)
      rw [hv] at hc
      have HQ := Lib.hid hB
      have HB := Lib.hid hb
      have HL := Lib.hid hbl
      clear hB hb hbl hv ho hn
      go_wp2_with fail
      go_ret2
      exact ⟨b, c, rfl, HL.out, HQ.out, HB.out⟩
theorem sPublic_any (a : Option Addr) (len cap : Nat) (sd : List UInt8) (w : World) (hA : Bsl w w.heap.size a len cap sd) : Calls Try.prog 11 #[.slice a len cap] w (ToldB (spubO sd) w) := by
  by_cases h : len = 16
  · subst h
    rw [spubO, if_pos hA.1]
    refine (sPublic_ok a cap sd w hA).mono ?_
    rintro e w' ⟨g, c, rfl, _, h, hb⟩
    exact toldB_of (nodeL_length _ _ _) h hb
  · rw [spubO, if_neg (by rw [hA.1]; exact h)]
    exact sPublic_bad a len cap h w
end Go.Proofs.Ytoednighmdoooaa
