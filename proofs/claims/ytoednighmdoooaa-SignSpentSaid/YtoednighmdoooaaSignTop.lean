/-
  sign.Sign, whatever signer and text it is handed, answers the signer with one leaf more spent and the signature, or the error that is due; what it answers is the call's own; nothing that was there is written.
-/
import Derived.Test.YtoednighmdoooaaSignSig
namespace Go.Proofs.Ytoednighmdoooaa
open Go.RowKit Go.Shelf
set_option maxRecDepth 100000

theorem mayBe_key (a : Option Addr) (len cap : Nat) (hl : len ≠ 16) (n : Int) (w : World) : Calls Try.prog 16 #[.agg #[.slice a len cap, .int .i64 n]] w fun e w' => e = .returned (.bool false) ∧ w' = w.alloc (.cells #[.slice a len cap, .int .i64 n] 24) := by
  have h1 : ((len : Int) == 16) = false := by simp; omega
  have hk := isKey_any a len cap
  simp only [h1] at hk
  have HK := Lib.hid hk; clear hk h1
  go_enter Try.func16, Try.ntmps16
  go_wp2_with fail
  refine (HK.out _).mono ?_
  rintro e w1 ⟨rfl, rfl⟩
  go_wp2_with fail
  go_ret
  exact ⟨rfl, rfl⟩
theorem mayBe_num (a : Option Addr) (cap : Nat) (n : Int) (w : World) : Calls Try.prog 16 #[.agg #[.slice a 16 cap, .int .i64 n]] w fun e w' => e = .returned (.bool (decide (0 ≤ n ∧ n ≤ 8))) ∧ w' = w.alloc (.cells #[.slice a 16 cap, .int .i64 n] 24) := by
  have h1 : (((16 : Nat) : Int) == 16) = true := by decide
  have hk := isKey_any a 16 cap
  simp only [h1] at hk
  have HK := Lib.hid hk; clear hk h1
  by_cases h2 : 0 ≤ n
  · by_cases h3 : n ≤ 8
    · have hd : decide (0 ≤ n ∧ n ≤ 8) = true := by simp; omega
      rw [hd]
      clear hd
      go_enter Try.func16, Try.ntmps16
      go_wp2_with fail
      refine (HK.out _).mono ?_
      rintro e w1 ⟨rfl, rfl⟩
      go_wp2_with fail
      go_ret
      exact ⟨rfl, rfl⟩
    · have hd : decide (0 ≤ n ∧ n ≤ 8) = false := by simp; omega
      rw [hd]
      clear hd
      have h4 : 8 < n := by omega
      go_enter Try.func16, Try.ntmps16
      go_wp2_with fail
      refine (HK.out _).mono ?_
      rintro e w1 ⟨rfl, rfl⟩
      go_wp2_with fail
      go_ret
      exact ⟨by simp; omega, rfl⟩
  · have hd : decide (0 ≤ n ∧ n ≤ 8) = false := by simp; omega
    rw [hd]
    clear hd
    go_enter Try.func16, Try.ntmps16
    go_wp2_with fail
    refine (HK.out _).mono ?_
    rintro e w1 ⟨rfl, rfl⟩
    go_wp2_with fail
    go_ret
    exact ⟨rfl, rfl⟩
theorem mayBe_any (a : Option Addr) (len cap : Nat) (n : Int) (w : World) : Calls Try.prog 16 #[.agg #[.slice a len cap, .int .i64 n]] w fun e w' => e = .returned (.bool (decide (len = 16 ∧ 0 ≤ n ∧ n ≤ 8))) ∧ w' = w.alloc (.cells #[.slice a len cap, .int .i64 n] 24) := by
  by_cases h : len = 16
  · subst h
    have := mayBe_num a cap n w
    simpa using this
  · have hd : decide (len = 16 ∧ 0 ≤ n ∧ n ≤ 8) = false := by simp; omega
    rw [hd]
    exact mayBe_key a len cap h n w
theorem only_two (w : World) (g : Nat) (u v : Value) : w.grownBy ((w.setCell ⟨g, 0, none⟩ u).setCell ⟨g, 1, none⟩ v) (some g) :=
  only_setCell (p := ⟨g, 1, none⟩) (only_setCell (p := ⟨g, 0, none⟩) (World.grownBy.refl w (some g)) (.inl rfl) u) (.inl rfl) v
theorem below_alloc3' (w : World) (o1 o2 o3 : Obj) : Below w.heap.size w (((w.alloc o1).alloc o2).alloc o3) := (((Below.refl _ w).alloc (Nat.le_refl _) _).alloc (by simp) _).alloc (by simp; omega) _
/-- What Sign answers where it refuses. -/
def ToldN (e : Int) (w : World) (en : Ending) (w' : World) : Prop := en = .returned (.tuple #[.agg #[.slice none 0 0, .int .i64 0], .slice none 0 0, .int .i64 e]) ∧ Below w.heap.size w w'
set_option maxHeartbeats 1000000 in
theorem sSign_may (a : Option Addr) (len cap : Nat) (n : Int) (u : Value) (h : ¬ (len = 16 ∧ 0 ≤ n ∧ n ≤ 8)) (w : World) : Calls Try.prog 8 #[.agg #[.slice a len cap, .int .i64 n], u] w (ToldN 8 w) := by
  have hm := mayBe_any a len cap n
  simp only [decide_eq_false h] at hm
  have HM := Lib.hid hm; clear hm h
  go_enter Try.func8, Try.ntmps8
  go_wp2_with fail
  refine (HM.out _).mono ?_
  rintro e w1 ⟨rfl, rfl⟩
  go_wp2_with fail
  have hb := (Blk.new (w.alloc (.cells #[.slice a len cap, .int .i64 n] 24)) 24 #[.slice none 0 0, .int .i64 0]).alloc (.cells #[.slice a len cap, .int .i64 n] 24)
  rw [World.size_alloc] at hb
  have c0 := hb.cell 0
  have c1 := hb.cell 1
  have hbl := below_alloc3' w (.cells #[.slice a len cap, .int .i64 n] 24) (.cells #[.slice none 0 0, .int .i64 0] 24) (.cells #[.slice a len cap, .int .i64 n] 24)
  refine bodyPost_ret (v := .tuple #[.agg #[.slice none 0 0, .int .i64 0], .slice none 0 0, .int .i64 8]) (by simp [results, Try.f8, go_sem, c0, c1]) rfl ?_
  exact ⟨rfl, hbl⟩
set_option maxHeartbeats 1000000 in
theorem sSign_spent (a : Option Addr) (cap : Nat) (u : Value) (w : World) : Calls Try.prog 8 #[.agg #[.slice a 16 cap, .int .i64 8], u] w (ToldN 80 w) := by
  have hm := mayBe_num a cap 8
  have hd : decide ((0 : Int) ≤ 8 ∧ (8 : Int) ≤ 8) = true := by decide
  simp only [hd] at hm
  have HM := Lib.hid hm; clear hm hd
  go_enter Try.func8, Try.ntmps8
  go_wp2_with fail
  refine (HM.out _).mono ?_
  rintro e w1 ⟨rfl, rfl⟩
  go_wp2_with fail
  have hb := (Blk.new (w.alloc (.cells #[.slice a 16 cap, .int .i64 8] 24)) 24 #[.slice none 0 0, .int .i64 0]).alloc (.cells #[.slice a 16 cap, .int .i64 8] 24)
  rw [World.size_alloc] at hb
  have c0 := hb.cell 0
  have c1 := hb.cell 1
  have hbl := below_alloc3' w (.cells #[.slice a 16 cap, .int .i64 8] 24) (.cells #[.slice none 0 0, .int .i64 0] 24) (.cells #[.slice a 16 cap, .int .i64 8] 24)
  refine bodyPost_ret (v := .tuple #[.agg #[.slice none 0 0, .int .i64 0], .slice none 0 0, .int .i64 80]) (by simp [results, Try.f8, go_sem, c0, c1]) rfl ?_
  exact ⟨rfl, hbl⟩
/-- What Sign answers where it signs. -/
def ToldS (sd : List UInt8) (n x : Nat) (w : World) (en : Ending) (w' : World) : Prop :=
  ∃ av cv bv dv, en = .returned (.tuple #[.agg #[.slice av 16 cv, .int .i64 ((n + 1 : Nat) : Int)], .slice bv 209 dv, .int .i64 0]) ∧ w'.ownsRow w.heap.size 5 1 (.slice av 16 cv) 16 (vals sd) ∧ w'.ownsRow w.heap.size 5 1 (.slice bv 209 dv) 209 (vals (sigL sd n x)) ∧ Below w.heap.size w w'
set_option maxHeartbeats 8000000 in
theorem sSign_ok (a : Option Addr) (cap : Nat) (sd : List UInt8) (n : Nat) (hn : n < 8) (b : Option Addr) (lenb capb : Nat) (s : List UInt8) (w : World) (hA : Bsl w w.heap.size a 16 cap sd) (hB : Bsl w w.heap.size b lenb capb s) (hlen : lenb ≤ 4294967295) :
    Calls Try.prog 8 #[.agg #[.slice a 16 cap, .int .i64 n], .slice b lenb capb] w (ToldS sd n (fourW s).a.toNat w) := by
  have hm := mayBe_num a cap n
  have hd : decide ((0 : Int) ≤ n ∧ (n : Int) ≤ 8) = true := by simp; omega
  simp only [hd] at hm
  have HM := Lib.hid hm; clear hm hd
  have hmx : Try.prog.follows Departure.mixedOrders = true := by kernel_rfl
  have n0 : (0 : Int) ≤ n := by omega
  have n1 : (n : Int) < 8 := by omega
  have HA := Lib.hid hA; clear hA
  have HB := Lib.hid hB; clear hB
  go_enter Try.func8, Try.ntmps8
  go_wp2_with fail
  refine (HM.out _).mono ?_
  rintro e w1 ⟨rfl, rfl⟩
  go_wp2_with fail
  obtain ⟨g, hg⟩ : ∃ g, w.heap.size = g := ⟨_, rfl⟩
  obtain ⟨w0, hw0⟩ : ∃ w0, (((w.alloc (.cells #[.slice a 16 cap, .int .i64 n] 24)).alloc (.cells #[.slice none 0 0, .int .i64 0] 24)).alloc (.cells #[.slice a 16 cap, .int .i64 n] 24)) = w0 := ⟨_, rfl⟩
  have x0 : Blk w0 g 24 #[.slice a 16 cap, .int .i64 n] := by rw [← hw0, ← hg]; exact ((Blk.new w _ _).alloc _).alloc _
  have x1 : Blk w0 (g + 1) 24 #[.slice none 0 0, .int .i64 0] := by
    have := (Blk.new (w.alloc (.cells #[.slice a 16 cap, .int .i64 n] 24)) 24 #[.slice none 0 0, .int .i64 0]).alloc (.cells #[.slice a 16 cap, .int .i64 n] 24)
    rw [World.size_alloc, hg] at this
    rw [← hw0]
    exact this
  have b0 : Below g w w0 := by rw [← hw0, ← hg]; exact below_alloc3' w _ _ _
  rw [hw0, hg]
  obtain ⟨w2, hw2⟩ : ∃ w2, w0.drew = w2 := ⟨_, rfl⟩
  have d2 : Below w0.heap.size w0 w2 := hw2 ▸ (Below.refl _ w0).drew
  have x02 := x0.below d2 x0.lt
  have x12 := x1.below d2 x1.lt
  have b2 := b0.trans (d2.mono (by rw [← hg]; exact b0.size))
  have c0 := x02.cell 0
  have c1 := x02.cell 1
  have C0 := fun X (hX : Below w2.heap.size w2 X) => (hX.cell (World.block_lt_of_cell? w2 _ c0)).trans c0
  have C1 := fun X (hX : Below w2.heap.size w2 X) => (hX.cell (World.block_lt_of_cell? w2 _ c1)).trans c1
  have bw : Below w2.heap.size w2 w2 := Below.refl _ _
  have ew : IntKind.i64.wrap ((n : Int) + 1) = (n : Int) + 1 := by unfold IntKind.wrap; simp [IntKind.bits, IntKind.signed]; omega
  have HC2 := Lib.hid (clone_any a 16 cap sd w2 (HA.out.step (w' := w2) (by rw [hg]; exact b2)) (by omega))
  have hzg : g + 2 ≤ w2.heap.size := x12.lt
  have HX0 := Lib.hid x02
  have HX1 := Lib.hid x12
  have HB2 := Lib.hid b2
  have HW2 := Lib.hid hw2
  have HG := Lib.hid hg
  clear x0 x1 b0 hw0 hg hw2 d2 x02 x12 b2 c0 c1
  refine wpS_start [0, 1, 3, 4, 5, 2, 6, 7] hmx rfl HW2.out ?_
  iterate 5 (
    refine wpS_read (v := ?_) rfl (by kernel_rfl) (by kernel_rfl) (by kernel_rfl) (fun _ _ _ h => h) (.inl ⟨by rfl, ?_⟩) ?_
    rotate_left
    · intro X hX
      have hXa := C0 X (hX _ bw)
      have hXb := C1 X (hX _ bw)
      go_simp
      with_reducible rfl
    try simp only [Act.put, List.setIfInBounds_toArray, List.set_cons_zero, List.set_cons_succ])
  clear C0 C1 bw
  refine wpS_lone rfl (by kernel_rfl) (fun K hK => ?_)
  go_simp
  refine HC2.out.mono ?_
  rintro e w3 ⟨v3, rfl, o3, b3⟩
  refine hK _ _ (Stays.of_below b3) ?_
  clear hK K
  obtain ⟨av, cv, rfl⟩ := own_slice o3
  have x03 := HX0.out.below b3 (by omega)
  have x13 := HX1.out.below b3 (by omega)
  have f3 := fun i => x13.frozen i
  have c30 := x13.cell 0
  have c31 := x13.cell 1
  have HO3 := Lib.hid o3
  have HX03 := Lib.hid x03
  have HX13 := Lib.hid x13
  have HB3 := Lib.hid (HB2.out.trans (b3.mono (by omega)))
  have HZ3 := Lib.hid b3.size
  clear o3 x03 x13 b3 HC2 HX0 HX1 HB2 HW2
  try simp only [Act.put, List.setIfInBounds_toArray, List.set_cons_zero, List.set_cons_succ]
  refine wpS_read (v := ?_) rfl (by kernel_rfl) (by kernel_rfl) (by kernel_rfl) (fun _ _ _ h => h) (.inl ⟨by rfl, ?_⟩) ?_
  rotate_left
  · intro X hX
    go_simp
    with_reducible rfl
  try simp only [Act.put, List.setIfInBounds_toArray, List.set_cons_zero, List.set_cons_succ]
  refine wpS_last rfl (by kernel_rfl) (by kernel_rfl) (fun K hK => ?_)
  go_simp
  refine hK _ _ ?_
  clear hK K
  try simp only [Act.put, List.setIfInBounds_toArray, List.set_cons_zero, List.set_cons_succ]
  refine wpS_done (by kernel_rfl) ?_
  go_wp2_with fail
  obtain ⟨w4, hw4⟩ : ∃ w4, ((w3.setCell { block := g + 1, off := 0 } (.slice av 16 cv)).setCell { block := g + 1, off := 1 } (.int .i64 ((n : Int) + 1))) = w4 := ⟨_, rfl⟩
  have x04 : Blk w4 g 24 #[.slice a 16 cap, .int .i64 n] := by rw [← hw4]; exact (HX03.out.far (by simp) _).far (by simp) _
  have x14 : Blk w4 (g + 1) 24 #[.slice av 16 cv, .int .i64 ((n : Int) + 1)] := by rw [← hw4]; exact (HX13.out.set_ 0 _).set_ 1 _
  have gs4 : w3.grownBy w4 (some (g + 1)) := by rw [← hw4]; exact only_two w3 (g + 1) _ _
  have b4 : Below g w w4 := HB3.out.grown gs4 (by have := HZ3.out; omega) (fun k e => by injection e with e; omega)
  have o4 := own_other HO3.out gs4 (fun k e => by have := HO3.out.lt k e; omega)
  rw [hw4]
  clear hw4 f3 c30 c31
  obtain ⟨w5, hw5⟩ : ∃ w5, w4.drew = w5 := ⟨_, rfl⟩
  have d5 : Below w4.heap.size w4 w5 := hw5 ▸ (Below.refl _ w4).drew
  have hz4 := gs4.size
  have x05 := x04.below d5 x04.lt
  have x15 := x14.below d5 x14.lt
  have b5 := b4.trans (d5.mono (by have := HZ3.out; omega))
  have o5 := own_below o4 d5
  have c0 := x05.cell 0
  have c1 := x05.cell 1
  have c2 := x15.cell 0
  have c3 := x15.cell 1
  have C0 := fun X (hX : Below w5.heap.size w5 X) => (hX.cell (World.block_lt_of_cell? w5 _ c0)).trans c0
  have C1 := fun X (hX : Below w5.heap.size w5 X) => (hX.cell (World.block_lt_of_cell? w5 _ c1)).trans c1
  have C2 := fun X (hX : Below w5.heap.size w5 X) => (hX.cell (World.block_lt_of_cell? w5 _ c2)).trans c2
  have C3 := fun X (hX : Below w5.heap.size w5 X) => (hX.cell (World.block_lt_of_cell? w5 _ c3)).trans c3
  have bw : Below w5.heap.size w5 w5 := Below.refl _ _
  have hbw := fun (X : World) (h : Below g w X) => (show Below w.heap.size w X by rw [HG.out]; exact h)
  have HS := Lib.hid (signature_ok a cap sd n hn b lenb capb s w5 (HA.out.step (hbw _ b5)) (HB.out.step (hbw _ b5)) hlen)
  have HX1 := Lib.hid x15
  have HB5 := Lib.hid b5
  have HO5 := Lib.hid o5
  have HW5 := Lib.hid hw5
  have HZ5 := Lib.hid (show w2.heap.size ≤ w5.heap.size from Nat.le_trans HZ3.out (Nat.le_trans hz4 d5.size))
  clear x04 x14 gs4 b4 o4 hw5 d5 hz4 x05 x15 b5 o5 c0 c1 c2 c3 hbw HX03 HX13 HB3 HO3 HZ3
  refine wpS_start [0, 1, 2, 3, 4, 5, 6, 7, 8, 9] hmx rfl HW5.out ?_
  iterate 6 (
    refine wpS_read (v := ?_) rfl (by kernel_rfl) (by kernel_rfl) (by kernel_rfl) (fun _ _ _ h => h) (.inl ⟨by rfl, ?_⟩) ?_
    rotate_left
    · intro X hX
      have hXa := C0 X (hX _ bw)
      have hXb := C1 X (hX _ bw)
      have hXc := C2 X (hX _ bw)
      have hXd := C3 X (hX _ bw)
      go_simp
      with_reducible rfl
    try simp only [Act.put, List.setIfInBounds_toArray, List.set_cons_zero, List.set_cons_succ])
  clear C0 C1 C2 C3 bw
  refine wpS_lone rfl (by kernel_rfl) (fun K hK => ?_)
  go_simp
  refine HS.out.mono ?_
  rintro e w6 ⟨v6, rfl, o6, b6⟩
  refine hK _ _ (Stays.of_below b6) ?_
  clear hK K
  obtain ⟨bv, dv, rfl⟩ := own_slice o6
  have x16 := HX1.out.below b6 HX1.out.lt
  have f6 := fun i => x16.frozen i
  have c60 := x16.cell 0
  have c61 := x16.cell 1
  have HO6 := Lib.hid o6
  have HO56 := Lib.hid (own_below HO5.out b6)
  have HX16 := Lib.hid x16
  have HZ6 := Lib.hid b6.size
  have HB6 := Lib.hid (HB5.out.trans (b6.mono (by have := HZ5.out; omega)))
  clear o6 x16 b6 HS HX1 HB5 HO5 HW5
  try simp only [Act.put, List.setIfInBounds_toArray, List.set_cons_zero, List.set_cons_succ]
  refine wpS_last rfl (by kernel_rfl) (by kernel_rfl) (fun K hK => ?_)
  go_simp
  refine hK _ _ ?_
  clear hK K
  try simp only [Act.put, List.setIfInBounds_toArray, List.set_cons_zero, List.set_cons_succ]
  iterate 2 (
    refine wpS_read (v := ?_) rfl (by kernel_rfl) (by kernel_rfl) (by kernel_rfl) (fun _ _ _ h => h) (.inl ⟨by rfl, ?_⟩) ?_
    rotate_left
    · intro X hX
      go_simp
      with_reducible rfl
    try simp only [Act.put, List.setIfInBounds_toArray, List.set_cons_zero, List.set_cons_succ])
  refine wpS_done (by kernel_rfl) ?_
  go_wp2_with fail
  obtain ⟨w7, hw7⟩ : ∃ w7, ((w6.setCell { block := g + 1, off := 0 } (.slice av 16 cv)).setCell { block := g + 1, off := 1 } (.int .i64 ((n : Int) + 1))) = w7 := ⟨_, rfl⟩
  have gs7 : w6.grownBy w7 (some (g + 1)) := by rw [← hw7]; exact only_two w6 (g + 1) _ _
  have x17 : Blk w7 (g + 1) 24 #[.slice av 16 cv, .int .i64 ((n : Int) + 1)] := by rw [← hw7]; exact (HX16.out.set_ 0 _).set_ 1 _
  rw [hw7]
  clear hw7 f6 c60 c61
  have hz7 := HZ6.out
  have hz5 := HZ5.out
  have hgl := HG.out
  have b7 : Below g w w7 := HB6.out.grown gs7 (by omega) (fun k e => by injection e with e; omega)
  have o7 := own_other HO56.out gs7 (fun k e => by have := HO56.out.lt k e; omega)
  have o8 := own_other HO6.out gs7 (fun k e => by have := HO6.out.lt k e; omega)
  have c0 := x17.cell 0
  have c1 := x17.cell 1
  refine bodyPost_ret (v := .tuple #[.agg #[.slice av 16 cv, .int .i64 ((n : Int) + 1)], .slice bv 209 dv, .int .i64 0]) (by simp [results, Try.f8, go_sem, c0, c1]) rfl ?_
  exact ⟨av, cv, bv, dv, rfl, own_mono o7 (by omega), own_mono o8 (by omega), by rw [hgl]; exact b7⟩
theorem Sign_any' (a : Option Addr) (len cap : Nat) (sd : List UInt8) (n : Int) (b : Option Addr) (lenb capb : Nat) (s : List UInt8) (w : World) (hA : Bsl w w.heap.size a len cap sd) (hB : Bsl w w.heap.size b lenb capb s) (hlen : lenb ≤ 4294967295) :
    Calls Try.prog 8 #[.agg #[.slice a len cap, .int .i64 n], .slice b lenb capb] w fun en w' => (len = 16 ∧ 0 ≤ n ∧ n < 8 ∧ ToldS sd n.toNat (fourW s).a.toNat w en w') ∨ (len = 16 ∧ n = 8 ∧ ToldN 80 w en w') ∨ (¬ (len = 16 ∧ 0 ≤ n ∧ n ≤ 8) ∧ ToldN 8 w en w') := by
  by_cases h : len = 16 ∧ 0 ≤ n ∧ n ≤ 8
  · obtain ⟨rfl, h1, h2⟩ := h
    by_cases h3 : n = 8
    · subst h3
      exact (sSign_spent a cap _ w).mono fun e w' h => .inr (.inl ⟨rfl, rfl, h⟩)
    · obtain ⟨k, rfl⟩ := Int.eq_ofNat_of_zero_le h1
      exact (sSign_ok a cap sd k (by omega) b lenb capb s w hA hB hlen).mono fun e w' h => .inl ⟨rfl, h1, by omega, h⟩
  · exact (sSign_may a len cap n _ h w).mono fun e w' k => .inr (.inr ⟨h, k⟩)
end Go.Proofs.Ytoednighmdoooaa
