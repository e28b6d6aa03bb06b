/-
  sign.recovered, of a signature of 209 bytes whose leaf is from 0 to 7, answers the public key that comes of it; sign.Check answers whether that is the public key, or the error that is due; nothing that was there is written.
-/
import Derived.Test.YtoednighmdoooaaSignPub
namespace Go.Proofs.Ytoednighmdoooaa
open Go.RowKit Go.Shelf
set_option maxRecDepth 100000

/-- The nodes that stand in a signature; the public key that comes of one. -/
def sgB (sg : List UInt8) (h : Nat) : List UInt8 := (sg.drop (161 + 16 * h)).take 16
theorem sgB_length (sg : List UInt8) (hs : sg.length = 209) (h : Nat) (hh : h < 3) : (sgB sg h).length = 16 := by rw [sgB]; exact win_length (by omega)
def comeL (sg : List UInt8) (l x : Nat) : List UInt8 := pubL l (takenL l (digL x) ((sg.drop 1).take 160) 10)
def rcvL (sg : List UInt8) (x : Nat) (k : Nat) : List UInt8 := climbL (sg.getD 0 0).toNat (sgB sg) (comeL sg (sg.getD 0 0).toNat x) k
theorem rcvL_length (sg : List UInt8) (x k : Nat) : (rcvL sg x k).length = 16 := climbL_length _ _ _ (pubL_length _ _) _
theorem rcvL_even (sg : List UInt8) (x k : Nat) (h : (sg.getD 0 0).toNat / 2 ^ k % 2 = 0) : rcvL sg x (k + 1) = upL k (rcvL sg x k) (sgB sg k) := if_pos h
theorem rcvL_odd (sg : List UInt8) (x k : Nat) (h : ¬ (sg.getD 0 0).toNat / 2 ^ k % 2 = 0) : rcvL sg x (k + 1) = upL k (sgB sg k) (rcvL sg x k) := if_neg h
theorem half_step (l k : Nat) (hl : l < 8) : l / 2 ^ k < 8 ∧ l / 2 ^ k / 2 = l / 2 ^ (k + 1) :=
  ⟨Nat.lt_of_le_of_lt (Nat.div_le_self _ _) hl, by rw [Nat.div_div_eq_div_mul, ← Nat.pow_succ]⟩
set_option maxHeartbeats 8000000 in
theorem recovered_ok (b : Option Addr) (lenb capb : Nat) (s : List UInt8) (gs off capc : Nat) (sg : List UInt8) (hl : (sg.getD 0 0).toNat < 8) (w : World) (hB : Bsl w w.heap.size b lenb capb s) (hlen : lenb ≤ 4294967295) (hC : Bsl w w.heap.size (some ⟨gs, off, none⟩) 209 capc sg) :
    Calls Try.prog 21 #[.slice b lenb capb, .slice (some ⟨gs, off, none⟩) 209 capc] w fun en w' => ∃ a c, en = .returned (.slice a 16 c) ∧ Bsl w' w'.heap.size a 16 c (rcvL sg (fourW s).a.toNat 3) ∧ Below w.heap.size w w' := by
  have hcap : 209 ≤ capc := hC.2.1
  have hsl : sg.length = 209 := hC.1
  have hce := hC.cellD 0 (by omega)
  rw [Nat.add_zero] at hce
  have s1 : ∀ W : World, (Instr.slice 22 (.slice (some ⟨gs, off, none⟩) 209 capc) (some (.int .i64 161)) none none).run Try.prog W = .ok (.slice (some ⟨gs, off + 161, none⟩) 48 (capc - 161)) W := by
    obtain ⟨A', h1, h2⟩ := slice_from (some ⟨gs, off, none⟩) 209 capc 161 (by omega) hcap
    rw [h2 (by omega) _ _ rfl] at h1
    exact h1
  have s2 : ∀ W : World, (Instr.slice 22 (.slice (some ⟨gs, off, none⟩) 209 capc) (some (.int .i64 1)) (some (.int .i64 161)) none).run Try.prog W = .ok (.slice (some ⟨gs, off + 1, none⟩) 160 (capc - 1)) W := fun W => slice_lh W gs off 209 capc 1 160 (by omega) (by omega)
  obtain ⟨l, hle⟩ : ∃ l, (sg.getD 0 0).toNat = l := ⟨_, rfl⟩
  obtain ⟨w1, hw1⟩ : ∃ w1, w.drew = w1 := ⟨_, rfl⟩
  have d1 : Below w.heap.size w w1 := hw1 ▸ (Below.refl _ w).drew
  have hrec := Recover_ok l (by omega) b lenb capb s gs (off + 1) (capc - 1) ((sg.drop 1).take 160) w1 (hB.step d1) hlen ((hC.step d1).win 1 160 (by omega))
  rw [hle] at hl hce
  obtain ⟨x, hx⟩ : ∃ x, (fourW s).a.toNat = x := ⟨_, rfl⟩
  rw [hx] at hrec ⊢
  have hc0 : comeL sg l x = rcvL sg x 0 := by rw [← hle]; rfl
  have hr0 : pubL l (takenL l (digL x) ((sg.drop 1).take 160) 10) = rcvL sg x 0 := hc0
  rw [hr0] at hrec
  have l0 : (0 : Int) ≤ l := by omega
  have l1 : (l : Int) < 8 := by omega
  have e64 : IntKind.i64.wrap (l : Int) = l := by unfold IntKind.wrap; simp [IntKind.bits, IntKind.signed]; omega
  have hmx : Try.prog.follows Departure.mixedOrders = true := by kernel_rfl
  have c1 : w1.cell? ⟨gs, off, none⟩ = some (.int .u8 (l : Int)) := (d1.cell (World.block_lt_of_cell? w _ hce)).trans hce
  have C1 := fun X (hX : Below w1.heap.size w1 X) => (hX.cell (World.block_lt_of_cell? w1 _ c1)).trans c1
  have bw : Below w1.heap.size w1 w1 := Below.refl _ _
  have HREC := Lib.hid hrec
  have HC := Lib.hid (hC.step d1)
  have HD := Lib.hid d1
  have HW := Lib.hid hw1
  have HLE := Lib.hid hle
  have HSL := Lib.hid hsl
  clear hrec hC hB d1 hw1 hle hsl hc0 hr0 hx hce c1
  go_enter Try.func21, Try.ntmps21
  go_wp2_with fail
  refine wpS_start [0, 1, 2, 3, 4, 5, 6, 7] hmx rfl HW.out ?_
  iterate 8 (
    refine wpS_read (v := ?_) rfl (by kernel_rfl) (by kernel_rfl) (by kernel_rfl) (fun _ _ _ h => h) (.inl ⟨by rfl, ?_⟩) ?_
    rotate_left
    · intro X hX
      have hXa := C1 X (hX _ bw)
      go_simp
      with_reducible rfl
    try simp only [Act.put, List.setIfInBounds_toArray, List.set_cons_zero, List.set_cons_succ])
  refine wpS_done (by kernel_rfl) ?_
  clear C1 bw
  go_wp2_with fail
  refine HREC.out.mono ?_
  rintro e w2 ⟨g2, c2, rfl, _, h2, b2⟩
  have HQ2 := Lib.hid h2
  have HC2 := Lib.hid (HC.out.step b2)
  have HB2 := Lib.hid (HD.out.trans (b2.mono HD.out.size))
  clear h2 b2 HREC HC HD HW
  go_wp2_with fail
  go_loopw [5, 7, 25] (fun ta v i wr => ∃ k : Nat, k ≤ 3 ∧ i = .int .i64 k ∧ ta = .int .i64 ((l / 2 ^ k : Nat) : Int) ∧ ∃ an cn, v = .slice an 16 cn ∧ Bsl wr wr.heap.size an 16 cn (rcvL sg x k) ∧ Bsl wr wr.heap.size (some ⟨gs, off, none⟩) 209 capc sg ∧ Below w.heap.size w wr) (fun _ _ i _ => 3 - (intOf i).toNat)
  case atStart => exact ⟨0, by omega, rfl, by simp, _, _, rfl, HQ2.out, HC2.out, HB2.out⟩
  case round =>
    obtain ⟨k, hk, rfl, rfl, an, cn, rfl, hv, hc, hb⟩ := hrel
    have k0 : (0 : Int) ≤ k := by omega
    by_cases hlt : k < 3
    · have k2 : (k : Int) < 3 := by omega
      have s3 : ∀ W : World, (Instr.slice 22 (.slice (some ⟨gs, off + 161, none⟩) 48 (capc - 161)) (some (.int .i64 ((k : Int) * 16))) none none).run Try.prog W = .ok (.slice (some ⟨gs, off + 161 + 16 * k, none⟩) (48 - 16 * k) (capc - 161 - 16 * k)) W := by
        obtain ⟨A', h1, h2⟩ := slice_from (some ⟨gs, off + 161, none⟩) 48 (capc - 161) (16 * k) (by omega) (by omega)
        rw [h2 (by omega) _ _ rfl] at h1
        have e : ((16 * k : Nat) : Int) = (k : Int) * 16 := by omega
        rw [e] at h1
        exact h1
      have s4 : ∀ W : World, (Instr.slice 22 (.slice (some ⟨gs, off + 161 + 16 * k, none⟩) (48 - 16 * k) (capc - 161 - 16 * k)) none (some (.int .i64 16)) none).run Try.prog W = .ok (.slice (some ⟨gs, off + 161 + 16 * k, none⟩) 16 (capc - 161 - 16 * k)) W := fun W => slice_to W _ _ _ 16 (by omega)
      have hw := hc.win (161 + 16 * k) 16 (by omega)
      rw [← Nat.add_assoc] at hw
      have hw : Bsl wr wr.heap.size (some ⟨gs, off + 161 + 16 * k, none⟩) 16 (capc - 161 - 16 * k) (sgB sg k) := by
        have e : capc - (161 + 16 * k) = capc - 161 - 16 * k := by omega
        rw [e] at hw
        exact hw
      obtain ⟨h8, h3⟩ := half_step l k hl
      have hev := rcvL_even sg x k
      have hod := rcvL_odd sg x k
      rw [HLE.out] at hev hod
      obtain ⟨t, ht⟩ : ∃ t, l / 2 ^ k = t := ⟨_, rfl⟩
      rw [ht] at h8 h3 hev hod ⊢
      have hri := isRight_any t h8 wr
      have et : Int.tdiv (t : Int) 2 = ((t / 2 : Nat) : Int) := by rw [Int.tdiv_eq_ediv_of_nonneg (by omega)]; omega
      obtain ⟨t2, ht2⟩ : ∃ t2, t / 2 = t2 := ⟨_, rfl⟩
      rw [ht2] at et h3
      have et2 : (t : Int) / 2 = (t2 : Int) := by omega
      have t0 : (0 : Int) ≤ t := by omega
      obtain ⟨V, hV⟩ : ∃ V, rcvL sg x (k + 1) = V := ⟨_, rfl⟩
      rw [hV] at hev hod
      have HV := Lib.hid hV
      have HT2 := Lib.hid h3
      have HBr := Lib.hid hb
      have HCr := Lib.hid hc
      by_cases hp : t % 2 = 0
      · have ho : (((t % 2 : Nat) : Int) == 1) = false := by simp; omega
        rw [ho] at hri
        have hj := join_any k hlt an cn _ (some ⟨gs, off + 161 + 16 * k, none⟩) (capc - 161 - 16 * k) _ wr hv hw
        rw [← hev hp] at hj
        have HRI := Lib.hid hri
        have HJ := Lib.hid hj
        clear hv hw hc hb hri hj ho hp hev hod hV ht ht2 h3
        go_wp2_with fail
        refine HRI.out.mono ?_
        rintro e w5 ⟨rfl, rfl⟩
        go_wp2_with fail
        refine HJ.out.mono ?_
        rintro e w6 ⟨g6, c6, rfl, _, h6, b6⟩
        have HQ6 := Lib.hid h6
        have HC6 := Lib.hid (HCr.out.step b6)
        have HB6 := Lib.hid (HBr.out.trans (b6.mono HBr.out.size))
        clear h6 b6 HJ HRI
        go_wp2_with fail
        go_roundw
        case rel => exact ⟨k + 1, by omega, by go_num, by rw [HT2.out], _, _, rfl, by rw [HV.out]; exact HQ6.out, HC6.out, HB6.out⟩
        case measure => simp [intOf]; omega
      · have ho : (((t % 2 : Nat) : Int) == 1) = true := by simp; omega
        rw [ho] at hri
        have hj := join_any k hlt (some ⟨gs, off + 161 + 16 * k, none⟩) (capc - 161 - 16 * k) _ an cn _ wr hw hv
        rw [← hod hp] at hj
        have HRI := Lib.hid hri
        have HJ := Lib.hid hj
        clear hv hw hc hb hri hj ho hp hev hod hV ht ht2 h3
        go_wp2_with fail
        refine HRI.out.mono ?_
        rintro e w5 ⟨rfl, rfl⟩
        go_wp2_with fail
        refine HJ.out.mono ?_
        rintro e w6 ⟨g6, c6, rfl, _, h6, b6⟩
        have HQ6 := Lib.hid h6
        have HC6 := Lib.hid (HCr.out.step b6)
        have HB6 := Lib.hid (HBr.out.trans (b6.mono HBr.out.size))
        clear h6 b6 HJ HRI
        go_wp2_with fail
        go_roundw
        case rel => exact ⟨k + 1, by omega, by go_num, by rw [HT2.out], _, _, rfl, by rw [HV.out]; exact HQ6.out, HC6.out, HB6.out⟩
        case measure => simp [intOf]; omega
    · obtain rfl : k = 3 := by omega
      have HQ := Lib.hid hv
      have HB := Lib.hid hb
      clear hv hb hc
      go_wp2_with fail
      go_ret
      exact ⟨_, _, rfl, HQ.out, HB.out⟩
/-- What Check answers. -/
def schkO (pk : List UInt8) (x : Nat) (sg : List UInt8) : Bool × Int := if pk.length = 16 then (if sg.length = 209 ∧ (sg.getD 0 0).toNat < 8 then (decide (rcvL sg x 3 = pk), 0) else (false, 8)) else (false, 2)
def ToldC (o : Bool × Int) (w : World) (en : Ending) (w' : World) : Prop := en = .returned (.tuple #[.bool o.1, .int .i64 o.2]) ∧ Below w.heap.size w w'
theorem check_key (a : Option Addr) (len cap : Nat) (hl : len ≠ 16) (u v : Value) (w : World) : Calls Try.prog 9 #[.slice a len cap, u, v] w (ToldC (false, 2) w) := by
  have h1 : ((len : Int) == 16) = false := by simp; omega
  have hk := isKey_any a len cap w
  rw [h1] at hk
  have HK := Lib.hid hk; clear hk h1
  go_enter Try.func9, Try.ntmps9
  go_wp2_with fail
  refine HK.out.mono ?_
  rintro e w1 ⟨rfl, rfl⟩
  go_wp2_with fail
  go_ret2
  exact ⟨rfl, Below.refl _ _⟩
theorem check_size (a : Option Addr) (cap : Nat) (u : Value) (c : Option Addr) (len capc : Nat) (hl : len ≠ 209) (w : World) : Calls Try.prog 9 #[.slice a 16 cap, u, .slice c len capc] w (ToldC (false, 8) w) := by
  have h1 : (((16 : Nat) : Int) == 16) = true := by decide
  have hk := isKey_any a 16 cap w
  rw [h1] at hk
  have HK := Lib.hid hk; clear hk h1
  have h2 : ((len : Int) != 209) = true := by simp; omega
  go_enter Try.func9, Try.ntmps9
  go_wp2_with fail
  refine HK.out.mono ?_
  rintro e w1 ⟨rfl, rfl⟩
  go_wp2_with fail
  go_ret2
  exact ⟨rfl, Below.refl _ _⟩
theorem check_leaf (a : Option Addr) (cap : Nat) (u : Value) (gs off capc : Nat) (sg : List UInt8) (w : World) (hC : Bsl w w.heap.size (some ⟨gs, off, none⟩) 209 capc sg) (hl : ¬ (sg.getD 0 0).toNat < 8) : Calls Try.prog 9 #[.slice a 16 cap, u, .slice (some ⟨gs, off, none⟩) 209 capc] w (ToldC (false, 8) w) := by
  have h1 : (((16 : Nat) : Int) == 16) = true := by decide
  have hk := isKey_any a 16 cap w
  rw [h1] at hk
  have HK := Lib.hid hk; clear hk h1
  have hce := hC.cellD 0 (by omega)
  rw [Nat.add_zero] at hce
  obtain ⟨l, hle⟩ : ∃ l, (sg.getD 0 0).toNat = l := ⟨_, rfl⟩
  rw [hle] at hce hl
  have h2 : (8 : Int) ≤ l := by omega
  clear hC hle
  go_enter Try.func9, Try.ntmps9
  go_wp2_with fail
  refine HK.out.mono ?_
  rintro e w1 ⟨rfl, rfl⟩
  go_wp2_with fail
  go_ret2
  exact ⟨rfl, Below.refl _ _⟩
set_option maxHeartbeats 1000000 in
theorem check_ok (a : Option Addr) (cap : Nat) (pk : List UInt8) (b : Option Addr) (lenb capb : Nat) (s : List UInt8) (gs off capc : Nat) (sg : List UInt8) (w : World) (hA : Bsl w w.heap.size a 16 cap pk) (hB : Bsl w w.heap.size b lenb capb s) (hlen : lenb ≤ 4294967295) (hC : Bsl w w.heap.size (some ⟨gs, off, none⟩) 209 capc sg) (hl : (sg.getD 0 0).toNat < 8) :
    Calls Try.prog 9 #[.slice a 16 cap, .slice b lenb capb, .slice (some ⟨gs, off, none⟩) 209 capc] w (ToldC (decide (rcvL sg (fourW s).a.toNat 3 = pk), 0) w) := by
  have h1 : (((16 : Nat) : Int) == 16) = true := by decide
  have hk := isKey_any a 16 cap w
  rw [h1] at hk
  have HK := Lib.hid hk; clear hk h1
  have hrec := recovered_ok b lenb capb s gs off capc sg hl w hB hlen hC
  obtain ⟨V, hV⟩ : ∃ V, rcvL sg (fourW s).a.toNat 3 = V := ⟨_, rfl⟩
  rw [hV] at hrec ⊢
  have HREC := Lib.hid hrec
  have HA := Lib.hid hA
  have hce := hC.cellD 0 (by omega)
  rw [Nat.add_zero] at hce
  obtain ⟨l, hle⟩ : ∃ l, (sg.getD 0 0).toNat = l := ⟨_, rfl⟩
  rw [hle] at hce hl
  have h2 : (l : Int) < 8 := by omega
  clear hC hle hA hB hrec hV
  go_enter Try.func9, Try.ntmps9
  go_wp2_with fail
  refine HK.out.mono ?_
  rintro e w1 ⟨rfl, rfl⟩
  go_wp2_with fail
  refine HREC.out.mono ?_
  rintro e w2 ⟨a2, c2, rfl, h2, b2⟩
  have HEQ := Lib.hid (equal_any _ _ _ _ _ _ _ _ w2 h2 (HA.out.step b2))
  have HB2 := Lib.hid b2
  clear h2 b2 HREC
  go_wp2_with fail
  refine HEQ.out.mono ?_
  rintro e w3 ⟨rfl, rfl⟩
  go_wp2_with fail
  go_ret2
  exact ⟨rfl, HB2.out⟩
theorem Check_any (a : Option Addr) (len cap : Nat) (pk : List UInt8) (b : Option Addr) (lenb capb : Nat) (s : List UInt8) (c : Option Addr) (lenc capc : Nat) (sg : List UInt8) (w : World) (hA : Bsl w w.heap.size a len cap pk) (hB : Bsl w w.heap.size b lenb capb s) (hlen : lenb ≤ 4294967295) (hC : Bsl w w.heap.size c lenc capc sg) :
    Calls Try.prog 9 #[.slice a len cap, .slice b lenb capb, .slice c lenc capc] w (ToldC (schkO pk (fourW s).a.toNat sg) w) := by
  unfold schkO
  by_cases h1 : len = 16
  · subst h1
    rw [if_pos hA.1]
    by_cases h2 : lenc = 209
    · subst h2
      obtain ⟨gs, off, rfl, _, _⟩ := hC.2.2.2.2 (by omega)
      by_cases h3 : (sg.getD 0 0).toNat < 8
      · rw [if_pos ⟨hC.1, h3⟩]
        exact check_ok a cap pk b lenb capb s gs off capc sg w hA hB hlen hC h3
      · rw [if_neg (fun h => h3 h.2)]
        exact check_leaf a cap _ gs off capc sg w hC h3
    · rw [if_neg (fun h => h2 (by rw [← hC.1]; exact h.1))]
      exact check_size a cap _ c lenc capc h2 w
  · rw [if_neg (by rw [hA.1]; exact h1)]
    exact check_key a len cap h1 _ _ w
end Go.Proofs.Ytoednighmdoooaa
