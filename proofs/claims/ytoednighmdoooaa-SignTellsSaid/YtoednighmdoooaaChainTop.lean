/-
  chain's Public, Sign, Recover, whatever they are handed.
-/
import Derived.Test.YtoednighmdoooaaChain
namespace Go.Proofs.Ytoednighmdoooaa
open Go.RowKit Go.Shelf
set_option maxRecDepth 100000

theorem toldB_of {s : List UInt8} {n : Nat} {e : Int} {a : Option Addr} {cap : Nat} {w w' : World} (hs : s.length = n) (h : Bsl w' w'.heap.size a n cap s) (hb : Below w.heap.size w w') : ToldB (s, e) w (.returned (.tuple #[.slice a n cap, .int .i64 e])) w' := by
  subst hs
  exact ⟨a, cap, rfl, h, hb⟩
theorem toldO_of {s : List UInt8} {n : Nat} {e : Int} {v : Value} {w w' : World} (hs : s.length = n) (h : w'.ownsRow w.heap.size 5 1 v n (vals s)) (hb : Below w.heap.size w w') : ToldO (s, e) w (.returned (.tuple #[v, .int .i64 e])) w' := by
  subst hs
  obtain ⟨a, cap, rfl⟩ := own_slice h
  exact ⟨a, cap, rfl, h, hb⟩

set_option maxHeartbeats 1000000 in
theorem Public_seed (a : Option Addr) (len cap : Nat) (h : len ≠ 16) (l : Int) (w : World) : Calls Try.prog 35 #[.slice a len cap, .int .i64 l] w (ToldB ([], 2) w) := by
  go_enter Try.func35, Try.ntmps35
  go_wp2_with (go_at_call 43; refine (isSeed_no a len cap h _).mono ?_; rintro e w' ⟨rfl, rfl⟩)
  go_ret2
  exact toldB_none _ _ _ (Below.refl _ _)
set_option maxHeartbeats 1000000 in
theorem Public_leaf (a : Option Addr) (cap : Nat) (l : Int) (h : l < 0 ∨ 7 < l) (w : World) : Calls Try.prog 35 #[.slice a 16 cap, .int .i64 l] w (ToldB ([], 2) w) := by
  go_enter Try.func35, Try.ntmps35
  go_wp2_with (first
    | (go_at_call 43; refine (isSeed_yes a cap _).mono ?_; rintro e w' ⟨rfl, rfl⟩)
    | (go_at_call 44; refine (isLeaf_no l h _).mono ?_; rintro e w' ⟨rfl, rfl⟩))
  go_ret2
  exact toldB_none _ _ _ (Below.refl _ _)
set_option maxHeartbeats 2000000 in
theorem Public_ok (a : Option Addr) (cap : Nat) (sd : List UInt8) (l : Nat) (hl : l < 8) (w : World) (hA : Bsl w w.heap.size a 16 cap sd) :
    Calls Try.prog 35 #[.slice a 16 cap, .int .i64 l] w fun en w' => ∃ g c, en = .returned (.tuple #[.slice (some ⟨g, 0, none⟩) 16 c, .int .i64 0]) ∧ w.heap.size ≤ g ∧ Bsl w' w'.heap.size (some ⟨g, 0, none⟩) 16 c (pubL l (valsL sd l lasts 10)) ∧ Below w.heap.size w w' := by
  have l0 : (0 : Int) ≤ l := by omega
  have l1 : (l : Int) < 8 := by omega
  have o1 := one_nsl w 15
  obtain ⟨w1, hw1⟩ : ∃ w1, w.alloc (.cells #[.int .i64 15] 3) = w1 := ⟨_, rfl⟩
  have b1 : Below w.heap.size w w1 := by rw [← hw1]; exact (Below.refl _ w).alloc (Nat.le_refl _) _
  have o1' : Nsl w1 w1.heap.size (some ⟨w.heap.size, 0, none⟩) 1 1 [15] := by rw [← hw1]; exact o1
  have HA1 := Lib.hid (hA.step b1); clear hA
  have HR := Lib.hid (repeat_any w.heap.size w1 o1'); clear o1 o1'
  have HB1 := Lib.hid b1; clear b1
  go_enter Try.func35, Try.ntmps35
  go_wp2_with (first
    | (go_at_call 43; refine (isSeed_yes a cap _).mono ?_; rintro e w' ⟨rfl, rfl⟩)
    | (go_at_call 44; refine (isLeaf_yes l hl _).mono ?_; rintro e w' ⟨rfl, rfl⟩))
  clear hw1
  refine HR.out.mono ?_
  rintro e w2 ⟨v2, rfl, ho2, b2⟩
  have HA2 := Lib.hid (HA1.out.step b2)
  have HB2 := Lib.hid (HB1.out.trans (b2.mono HB1.out.size)); clear b2 HR HA1 HB1
  obtain ⟨g2, c2, rfl, _, _, hn2⟩ := nsl_of_own ho2 (by omega)
  clear ho2
  have HV := Lib.hid (values_any a cap sd l hl g2 0 c2 lasts lasts_le w2 HA2.out hn2); clear hn2 HA2
  go_wp2_with fail
  refine HV.out.mono ?_
  rintro e w3 ⟨v3, rfl, ho3, b3⟩
  have HB3 := Lib.hid (HB2.out.trans (b3.mono HB2.out.size)); clear b3 HV HB2
  obtain ⟨g3, c3, rfl, _, hgl, hgc, hgm, hgs, hgh⟩ := bsl_of_own ho3 (by omega)
  have HP := Lib.hid (public_any l hl _ 160 c3 _ (by omega) w3 (bsl_of_holds hgs hgc hgm hgl hgh)); clear ho3 hgl hgc hgm hgs hgh
  go_wp2_with fail
  refine HP.out.mono ?_
  rintro e w4 ⟨g4, c4, rfl, hge, h4, b4⟩
  have HB4 := Lib.hid (HB3.out.trans (b4.mono HB3.out.size))
  have HQ4 := Lib.hid h4; clear h4 b4 HP
  have hg4 : w.heap.size ≤ g4 := Nat.le_trans HB3.out.size hge
  go_wp2_with fail
  go_ret2
  exact ⟨_, _, rfl, hg4, HQ4.out, HB4.out⟩
theorem Public_any (a : Option Addr) (len cap : Nat) (sd : List UInt8) (l : Int) (w : World) (hA : Bsl w w.heap.size a len cap sd) :
    Calls Try.prog 35 #[.slice a len cap, .int .i64 l] w (ToldB (pubO sd l) w) := by
  by_cases h16 : len = 16
  · subst h16
    by_cases hl : l < 0 ∨ 7 < l
    · rw [pubO_no sd l (by omega)]
      exact Public_leaf a cap l hl w
    · obtain ⟨k, rfl⟩ := Int.eq_ofNat_of_zero_le (show 0 ≤ l by omega)
      rw [pubO_ok sd k (by omega) hA.1]
      refine (Public_ok a cap sd k (by omega) w hA).mono ?_
      rintro e w' ⟨g, c, rfl, _, h, hb⟩
      exact toldB_of (pubL_length _ _) h hb
  · rw [pubO_no sd l (by rw [hA.1]; exact fun h => h16 h.1)]
    exact Public_seed a len cap h16 l w

set_option maxHeartbeats 1000000 in
theorem Sign_seed (a : Option Addr) (len cap : Nat) (h : len ≠ 16) (l : Int) (u : Value) (w : World) : Calls Try.prog 29 #[.slice a len cap, .int .i64 l, u] w (ToldO ([], 2) w) := by
  go_enter Try.func29, Try.ntmps29
  go_wp2_with (go_at_call 43; refine (isSeed_no a len cap h _).mono ?_; rintro e w' ⟨rfl, rfl⟩)
  go_ret2
  exact toldO_none _ _ _ (Below.refl _ _)
set_option maxHeartbeats 1000000 in
theorem Sign_leaf (a : Option Addr) (cap : Nat) (l : Int) (h : l < 0 ∨ 7 < l) (u : Value) (w : World) : Calls Try.prog 29 #[.slice a 16 cap, .int .i64 l, u] w (ToldO ([], 2) w) := by
  go_enter Try.func29, Try.ntmps29
  go_wp2_with (first
    | (go_at_call 43; refine (isSeed_yes a cap _).mono ?_; rintro e w' ⟨rfl, rfl⟩)
    | (go_at_call 44; refine (isLeaf_no l h _).mono ?_; rintro e w' ⟨rfl, rfl⟩))
  go_ret2
  exact toldO_none _ _ _ (Below.refl _ _)
set_option maxHeartbeats 2000000 in
theorem Sign_ok (a : Option Addr) (cap : Nat) (sd : List UInt8) (l : Nat) (hl : l < 8) (b : Option Addr) (len capb : Nat) (s : List UInt8) (w : World) (hA : Bsl w w.heap.size a 16 cap sd) (hB : Bsl w w.heap.size b len capb s) (hlen : len ≤ 4294967295) :
    Calls Try.prog 29 #[.slice a 16 cap, .int .i64 l, .slice b len capb] w fun en w' => ∃ v, en = .returned (.tuple #[v, .int .i64 0]) ∧ w'.ownsRow w.heap.size 5 1 v 160 (vals (valsL sd l (digL (fourW s).a.toNat) 10)) ∧ Below w.heap.size w w' := by
  have l0 : (0 : Int) ≤ l := by omega
  have l1 : (l : Int) < 8 := by omega
  obtain ⟨x, hx⟩ : ∃ x, (fourW s).a.toNat = x := ⟨_, rfl⟩
  have hd := digits_any b len capb s w hB hlen
  rw [hx] at hd ⊢
  clear hx
  have HD := Lib.hid hd; clear hd hB
  have HA := Lib.hid hA; clear hA
  go_enter Try.func29, Try.ntmps29
  go_wp2_with (first
    | (go_at_call 43; refine (isSeed_yes a cap _).mono ?_; rintro e w' ⟨rfl, rfl⟩)
    | (go_at_call 44; refine (isLeaf_yes l hl _).mono ?_; rintro e w' ⟨rfl, rfl⟩))
  refine HD.out.mono ?_
  rintro e w2 ⟨v2, rfl, ho2, b2⟩
  have HA2 := Lib.hid (HA.out.step b2)
  have HB2 := Lib.hid b2; clear b2 HD HA
  obtain ⟨g2, c2, rfl, _, _, hn2⟩ := nsl_of_own ho2 (by omega)
  clear ho2
  have HV := Lib.hid (values_any a cap sd l hl g2 0 c2 (digL x) (fun k h => digL_le x k h) w2 HA2.out hn2); clear hn2 HA2
  go_wp2_with fail
  refine HV.out.mono ?_
  rintro e w3 ⟨v3, rfl, ho3, b3⟩
  have HB3 := Lib.hid (HB2.out.trans (b3.mono HB2.out.size))
  have HO3 := Lib.hid (own_mono ho3 HB2.out.size); clear b3 HV HB2 ho3
  go_wp2_with fail
  go_ret2
  exact ⟨_, rfl, HO3.out, HB3.out⟩
theorem Sign_any (a : Option Addr) (len cap : Nat) (sd : List UInt8) (l : Int) (b : Option Addr) (lenb capb : Nat) (s : List UInt8) (w : World) (hA : Bsl w w.heap.size a len cap sd) (hB : Bsl w w.heap.size b lenb capb s) (hlen : lenb ≤ 4294967295) :
    Calls Try.prog 29 #[.slice a len cap, .int .i64 l, .slice b lenb capb] w (ToldO (signO sd l (fourW s).a.toNat) w) := by
  by_cases h16 : len = 16
  · subst h16
    by_cases hl : l < 0 ∨ 7 < l
    · rw [signO_no sd l _ (by omega)]
      exact Sign_leaf a cap l hl _ w
    · obtain ⟨k, rfl⟩ := Int.eq_ofNat_of_zero_le (show 0 ≤ l by omega)
      rw [signO_ok sd k _ (by omega) hA.1]
      refine (Sign_ok a cap sd k (by omega) b lenb capb s w hA hB hlen).mono ?_
      rintro e w' ⟨v, rfl, h, hb⟩
      exact toldO_of (valsL_length _ _ _ _) h hb
  · rw [signO_no sd l _ (by rw [hA.1]; exact fun h => h16 h.1)]
    exact Sign_seed a len cap h16 l _ w

set_option maxHeartbeats 1000000 in
theorem Recover_leaf (l : Int) (h : l < 0 ∨ 7 < l) (u v : Value) (w : World) : Calls Try.prog 32 #[.int .i64 l, u, v] w (ToldB ([], 2) w) := by
  go_enter Try.func32, Try.ntmps32
  go_wp2_with (go_at_call 44; refine (isLeaf_no l h _).mono ?_; rintro e w' ⟨rfl, rfl⟩)
  go_ret2
  exact toldB_none _ _ _ (Below.refl _ _)
set_option maxHeartbeats 1000000 in
theorem Recover_size (l : Nat) (h : l < 8) (u : Value) (c : Option Addr) (len cap : Nat) (hn : len ≠ 160) (w : World) : Calls Try.prog 32 #[.int .i64 l, u, .slice c len cap] w (ToldB ([], 8) w) := by
  have h1 : ((len : Int) != 160) = true := by simp; omega
  go_enter Try.func32, Try.ntmps32
  go_wp2_with (go_at_call 44; refine (isLeaf_yes l h _).mono ?_; rintro e w' ⟨rfl, rfl⟩)
  go_ret2
  exact toldB_none _ _ _ (Below.refl _ _)
/-- An append to a list of the call's own that has room. -/
theorem wpList_append_in {w : World} {ops : Array Oper} {rest : List Oper} {o : Oper} {a : Act} {Q : Exit → Act → World → Prop} (hgd : o.guard = none) (s x : Operand)
    (ho : o.op = .call { callee := .builtin .append, args := #[s, x], argTypes := #[22, 22] })
    (base g n cap : Nat) (xs : List UInt8) (hs : a.eval s = .slice (some ⟨g, 0, none⟩) n cap) (hown : w.ownsRow base 5 1 (.slice (some ⟨g, 0, none⟩) n cap) n (vals xs))
    (B b off m c : Nat) (news : List UInt8) (hx : a.eval x = .slice (some ⟨b, off, none⟩) m c) (hr : Bsl w B (some ⟨b, off, none⟩) m c news) (hm : 0 < m) (hcap : n + m ≤ cap)
    (h : ∀ w', w'.ownsRow base 5 1 (.slice (some ⟨g, 0, none⟩) (n + m) cap) (n + m) (vals (xs ++ news)) → w.grownBy w' (some g) → wpList Try.prog ops Q rest (a.put o.dst (.slice (some ⟨g, 0, none⟩) (n + m) cap)) w') : wpList Try.prog ops Q (o :: rest) a w := by
  obtain ⟨i0, hi, hz0, hz1, hz2⟩ := info_parts infoU8
  obtain ⟨h1, h2, h3, h4, h5⟩ := hr
  refine wpList_append_fits w hgd s x 22 ho base 5 i0 1 Try.underlying22 hi hz1 g n cap (vals xs) hs hown ⟨b, off, none⟩ m c (vals news) hx (by simp [vals, h1]) (fun j u hu => ?_) (fun u hu => ?_) hcap fun w' h6 h7 => h w' (by rw [← vals_append]; exact h6) h7
  · obtain ⟨hj, rfl⟩ := vals_get hu
    obtain ⟨b', off', e, _, hc⟩ := h5 hm
    cases e
    rw [← hc j hj]
    congr 1
    unfold Addr.add
    split <;> simp_all
  · obtain ⟨y, _, rfl⟩ := List.mem_map.1 hu
    rfl
/-- Numbers beside a block that is written to. -/
theorem Nsl.beside {w w' : World} {b off len cap g : Nat} {s : List Nat} (h : Nsl w w.heap.size (some ⟨b, off, none⟩) len cap s) (hg : w.grownBy w' (some g)) (hne : b ≠ g) : Nsl w' w'.heap.size (some ⟨b, off, none⟩) len cap s := by
  obtain ⟨h1, h2, h3, h4, h5⟩ := h
  refine ⟨h1, h2, h3, h4, fun hl => ?_⟩
  obtain ⟨b', off', e, hlt, hc⟩ := h5 hl
  cases e
  refine ⟨b, off, rfl, Nat.lt_of_lt_of_le hlt hg.size, fun i hi => ?_⟩
  rw [← hc i hi]
  exact World.cell?_of_block (a := ⟨b, off + i, none⟩) (hg.block b hlt (fun e => hne (Option.some.inj e)))

set_option maxHeartbeats 8000000 in
theorem Recover_ok (l : Nat) (hl : l < 8) (b : Option Addr) (len capb : Nat) (s : List UInt8) (gs off capc : Nat) (sg : List UInt8) (w : World) (hB : Bsl w w.heap.size b len capb s) (hlen : len ≤ 4294967295) (hC : Bsl w w.heap.size (some ⟨gs, off, none⟩) 160 capc sg) :
    Calls Try.prog 32 #[.int .i64 l, .slice b len capb, .slice (some ⟨gs, off, none⟩) 160 capc] w fun en w' => ∃ g c, en = .returned (.tuple #[.slice (some ⟨g, 0, none⟩) 16 c, .int .i64 0]) ∧ w.heap.size ≤ g ∧ Bsl w' w'.heap.size (some ⟨g, 0, none⟩) 16 c (pubL l (takenL l (digL (fourW s).a.toNat) sg 10)) ∧ Below w.heap.size w w' := by
  have l0 : (0 : Int) ≤ l := by omega
  have l1 : (l : Int) < 8 := by omega
  have hz := zeroV
  have sl := sliceAtV
  have ap := arrayAtV
  have hmk : ∀ W : World, (Instr.makeSlice 22 (.int .i64 0) (.int .i64 160)).run Try.prog W = .ok (.slice (some ⟨W.heap.size, 0, none⟩) 0 160) (W.alloc (.cells (Array.replicate 160 (.int .u8 0)) 5)) := fun W => by kernel_rfl
  have hown : (w.alloc (.cells (Array.replicate 160 (.int .u8 0)) 5)).ownsRow w.heap.size 5 1 (.slice (some ⟨w.heap.size, 0, none⟩) 0 160) 0 (vals []) :=
    ⟨rfl, .inr ⟨w.heap.size, 160, _, rfl, Nat.le_refl _, heap_alloc_new w _, Nat.zero_le _, by unfold maxLen; omega, by kernel_rfl, rfl⟩⟩
  obtain ⟨Z, hZ⟩ : ∃ Z : Array Value, Array.replicate 160 (.int .u8 0) = Z := ⟨_, rfl⟩
  rw [hZ] at hown
  simp only [hZ] at hmk
  clear hZ
  obtain ⟨w1, hw1⟩ : ∃ w1, w.alloc (.cells Z 5) = w1 := ⟨_, rfl⟩
  have b1 : Below w.heap.size w w1 := by rw [← hw1]; exact (Below.refl _ w).alloc (Nat.le_refl _) _
  rw [hw1] at hown
  have hsz1 : w.heap.size < w1.heap.size := by rw [← hw1, World.size_alloc]; omega
  obtain ⟨x, hx⟩ : ∃ x, (fourW s).a.toNat = x := ⟨_, rfl⟩
  have hd := digits_any b len capb s w1 (hB.step b1) hlen
  rw [hx] at hd ⊢
  clear hx hB
  have hsg := hC.1
  have HD := Lib.hid hd; clear hd
  have HO1 := Lib.hid hown; clear hown
  have HB1 := Lib.hid b1; clear b1
  have HC := Lib.hid hC; clear hC
  have HSG := Lib.hid hsg; clear hsg
  have hcap : 160 ≤ capc := HC.out.2.1
  go_enter Try.func32, Try.ntmps32
  go_wp2_with (go_at_call 44; refine (isLeaf_yes l hl _).mono ?_; rintro e w' ⟨rfl, rfl⟩)
  try rw [hw1]
  clear hw1
  refine HD.out.mono ?_
  rintro e w2 ⟨v2, rfl, ho2, b2⟩
  have HB2 := Lib.hid (HB1.out.trans (b2.mono HB1.out.size))
  have HO2 := Lib.hid (own_below HO1.out b2); clear b2 HD HO1 HB1
  obtain ⟨g2, c2, rfl, hge2, _, hn2⟩ := nsl_of_own ho2 (by omega)
  have HNE2 := Lib.hid (show g2 ≠ w.heap.size by omega); clear hge2
  have HN2 := Lib.hid hn2; clear ho2 hn2
  go_wp2_with fail
  go_loopw [8, 23] (fun v i wr => ∃ k : Nat, k ≤ 10 ∧ i = .int .i64 k ∧ v = .slice (some ⟨w.heap.size, 0, none⟩) (16 * k) 160 ∧ wr.ownsRow w.heap.size 5 1 (.slice (some ⟨w.heap.size, 0, none⟩) (16 * k) 160) (16 * k) (vals (takenL l (digL x) sg k)) ∧ Below w.heap.size w wr ∧ Nsl wr wr.heap.size (some ⟨g2, 0, none⟩) 10 c2 (digL x)) (fun _ i _ => 10 - (intOf i).toNat)
  case atStart => exact ⟨0, by omega, rfl, rfl, HO2.out, HB2.out, HN2.out⟩
  case round =>
    obtain ⟨k, hk, rfl, rfl, ho, hb, hn⟩ := hrel
    have HNr := Lib.hid hn; clear hn
    have k0 : (0 : Int) ≤ k := by omega
    by_cases hlt : k < 10
    · have k2 : (k : Int) < 10 := by omega
      have hc := HNr.out.cell0 k hlt
      have h15 := digL_le x k hlt
      have hs : takenL l (digL x) sg (k + 1) = takenL l (digL x) sg k ++ onL l k ((digL x).getD k 0) ((sg.drop (16 * k)).take 16) (15 - (digL x).getD k 0) := rfl
      obtain ⟨d, hdd⟩ : ∃ d, (digL x).getD k 0 = d := ⟨_, rfl⟩
      rw [hdd] at hc h15 hs
      clear hdd
      have HS := Lib.hid hs; clear hs
      have d0 : (0 : Int) ≤ d := by omega
      have d1 : (d : Int) ≤ 15 := by omega
      have s1 : ∀ W : World, (Instr.slice 22 (.slice (some ⟨gs, off, none⟩) 160 capc) (some (.int .i64 ((k : Int) * 16))) none none).run Try.prog W = .ok (.slice (some ⟨gs, off + 16 * k, none⟩) (160 - 16 * k) (capc - 16 * k)) W := by
        obtain ⟨A', h1, h2⟩ := slice_from (some ⟨gs, off, none⟩) 160 capc (16 * k) (by omega) hcap
        rw [h2 (by omega) _ _ rfl] at h1
        have e : ((16 * k : Nat) : Int) = (k : Int) * 16 := by omega
        rw [e] at h1
        exact h1
      have s2 : ∀ W : World, (Instr.slice 22 (.slice (some ⟨gs, off + 16 * k, none⟩) (160 - 16 * k) (capc - 16 * k)) none (some (.int .i64 16)) none).run Try.prog W = .ok (.slice (some ⟨gs, off + 16 * k, none⟩) 16 (capc - 16 * k)) W := fun W => slice_to W _ _ _ 16 (by omega)
      have hw := ((HC.out.below hb).more hb.size).win (16 * k) 16 (by omega)
      have HW := Lib.hid hw; clear hw
      obtain ⟨V0, hV0⟩ : ∃ V0, (sg.drop (16 * k)).take 16 = V0 := ⟨_, rfl⟩
      have HL0 := Lib.hid (show V0.length = 16 by rw [← hV0]; exact win_length (by rw [HSG.out]; omega))
      rw [hV0] at HS HW
      clear hV0
      have hx3 := Blk.new wr 72 (ar zs)
      have HX3 := Lib.hid hx3; clear hx3
      have HO3 := Lib.hid (ho.alloc (.cells (ar zs) 72))
      have HNE := Lib.hid (fun k e => Nat.ne_of_lt (ho.lt k e).2); clear ho
      have HB3 := Lib.hid (hb.alloc hb.size (.cells (ar zs) 72))
      have HN3 := Lib.hid (HNr.out.step ((Below.refl _ wr).alloc (Nat.le_refl _) (.cells (ar zs) 72)))
      have hz1 := hb.size
      have hgr : g2 < wr.heap.size := by obtain ⟨b', o', e, hlt', _⟩ := HNr.out.2.2.2.2 (by omega); cases e; exact hlt'
      clear hb HNr
      go_wp2_with (first
        | (with_reducible refine at_load ?_
           refine wpList_load_bsl rfl (.tmp 33) rfl gs (off + 16 * k) (capc - 16 * k) _ V0 rfl HW.out ?_)
        | (with_reducible refine at_load ?_
           refine wpList_load_ar rfl (.tmp 11) rfl wr.heap.size V0 rfl HX4.out HL0.out ?_)
        | (with_reducible refine at_store ?_
           refine wpList_store_ar rfl (.tmp 11) (.tmp 34) rfl wr.heap.size _ zs rfl rfl HL0.out HX3.out zs_length ?_
           intro w4 hx4 hg4
           have HX4 := Lib.hid hx4; clear hx4
           have HO4 := Lib.hid (own_other HO3.out hg4 HNE.out)
           have HB4 := Lib.hid (HB3.out.grown hg4 HB3.out.size (fun k e => by injection e with e; omega))
           have HN4 := Lib.hid (HN3.out.beside hg4 (by omega)); clear hg4))
      have hon := on_any l k d (15 - d) hl hlt (by omega) V0 HL0.out w4
      have e15 : ((15 - d : Nat) : Int) = 15 - (d : Int) := by omega
      rw [e15] at hon
      have HON := Lib.hid hon; clear hon e15
      refine HON.out.mono ?_
      rintro e w5 ⟨rfl, b5⟩
      have HO5' := Lib.hid (own_below HO4.out b5)
      have hb5 := (HB4.out.trans (b5.mono HB4.out.size))
      have HN5' := Lib.hid (HN4.out.step b5); clear b5 HON
      have HNE5 := Lib.hid (fun k e => Nat.ne_of_lt (HO5'.out.lt k e).2)
      have HO5 := Lib.hid (HO5'.out.alloc (.cells (ar zs) 72)); clear HO5'
      have HB5 := Lib.hid (hb5.alloc hb5.size (.cells (ar zs) 72))
      have HN5 := Lib.hid (HN5'.out.step ((Below.refl _ w5).alloc (Nat.le_refl _) (.cells (ar zs) 72)))
      have HX5 := Lib.hid (Blk.new w5 72 (ar zs))
      have hz3 := hb5.size
      have hgr5 : g2 < w5.heap.size := by obtain ⟨b', o', e, hlt', _⟩ := HN5'.out.2.2.2.2 (by omega); cases e; exact hlt'
      clear hb5 HN5' HB4 HN4 HO4 HX4
      have HL := Lib.hid (onL_length l k d V0 HL0.out (15 - d))
      obtain ⟨V, hV⟩ : ∃ V, onL l k d V0 (15 - d) = V := ⟨_, rfl⟩
      rw [hV] at HL HS ⊢
      clear hV
      go_wp2_with (first
        | (with_reducible refine at_store ?_
           refine wpList_store_ar rfl (.tmp 12) (.tmp 41) rfl w5.heap.size _ zs rfl rfl HL.out HX5.out zs_length ?_
           intro w6 hx6 hg6
           have HO6 := Lib.hid (own_other HO5.out hg6 HNE5.out)
           have HB6 := Lib.hid (HB5.out.grown hg6 HB5.out.size (fun k e => by injection e with e; omega))
           have HN6 := Lib.hid (HN5.out.beside hg6 (by omega)); clear hg6
           have HQ6 := Lib.hid (hx6.bsl HL.out (by omega)); clear hx6)
        | (at_builtin
           refine wpList_append_in rfl (.tmp 42) (.tmp 43) rfl w.heap.size w.heap.size (16 * k) 160 _ rfl HO6.out _ w5.heap.size 0 16 16 V rfl HQ6.out (by omega) (by omega) ?_
           intro w7 hown7 hg7
           have HB7 := Lib.hid (app_below HB6.out HO6.out hg7 HB6.out.size)
           have HN7 := Lib.hid (HN6.out.beside hg7 HNE2.out); clear hg7
           have HO7 := Lib.hid hown7; clear hown7))
      go_roundw
      case rel => exact ⟨k + 1, by omega, by go_num, by go_num, by rw [HS.out]; exact HO7.out, HB7.out, HN7.out⟩
      case measure => simp [intOf]; omega
    · obtain rfl : k = 10 := by omega
      obtain ⟨g3, c3, ev, _, hgl, hgc, hgm, hgs, hgh⟩ := bsl_of_own ho (by omega)
      cases ev
      have HP := Lib.hid (public_any l hl _ 160 160 _ (by omega) wr (bsl_of_holds hgs hgc hgm hgl hgh)); clear ho hgl hgc hgm hgs hgh
      have HBr := Lib.hid hb; clear hb
      go_wp2_with fail
      refine HP.out.mono ?_
      rintro e w4 ⟨g4, c4, rfl, hge, h4, b4⟩
      have HB4 := Lib.hid (HBr.out.trans (b4.mono HBr.out.size))
      have HQ4 := Lib.hid h4; clear h4 b4 HP
      have hg4 : w.heap.size ≤ g4 := Nat.le_trans HBr.out.size hge
      go_wp2_with fail
      go_ret2
      exact ⟨_, _, rfl, hg4, HQ4.out, HB4.out⟩
theorem Recover_any (l : Int) (b : Option Addr) (len capb : Nat) (s : List UInt8) (c : Option Addr) (lenc capc : Nat) (sg : List UInt8) (w : World) (hB : Bsl w w.heap.size b len capb s) (hlen : len ≤ 4294967295) (hC : Bsl w w.heap.size c lenc capc sg) :
    Calls Try.prog 32 #[.int .i64 l, .slice b len capb, .slice c lenc capc] w (ToldB (recO l (fourW s).a.toNat sg) w) := by
  by_cases hl : l < 0 ∨ 7 < l
  · rw [recO, if_neg (by omega)]
    exact Recover_leaf l hl _ _ w
  · obtain ⟨k, rfl⟩ := Int.eq_ofNat_of_zero_le (show 0 ≤ l by omega)
    by_cases hs : lenc = 160
    · subst hs
      obtain ⟨gs, off, rfl, _, _⟩ := hC.2.2.2.2 (by omega)
      rw [recO_ok k _ sg (by omega) hC.1]
      refine (Recover_ok k (by omega) b len capb s gs off capc sg w hB hlen hC).mono ?_
      rintro e w' ⟨g, c, rfl, _, h, hb⟩
      exact toldB_of (pubL_length _ _) h hb
    · rw [recO, if_pos (by omega), if_neg (by rw [hC.1]; exact hs)]
      exact Recover_size k (by omega) _ c lenc capc hs w
end Go.Proofs.Ytoednighmdoooaa
