/-
  What the document's own Four, Sum and Key answer is what mix.Four, Sum and Key answer.
-/
import Derived.Test.YtoednighmdoooaaMixRef
namespace Go.Proofs.Ytoednighmdoooaa
open Go.RowKit Go.Shelf
set_option maxRecDepth 100000

set_option maxHeartbeats 4000000 in
theorem rfour_any (a : Option Addr) (len cap : Nat) (s : List UInt8) (w : World) (hA : Bsl w w.heap.size a len cap s) (hl : len ≤ 100000) :
    Calls Try.prog 54 #[.slice a len cap] w fun e w' => e = .returned (ag (fourW s)) ∧ Below w.heap.size w w' := by
  have hmx : Try.prog.follows Departure.mixedOrders = true := by kernel_rfl
  have r2 := xor32
  have l0 : (0 : Int) ≤ len := by omega
  have l1 : (len : Int) ≤ 100000 := by omega
  obtain ⟨g, hg⟩ : ∃ g, w.heap.size = g := ⟨_, rfl⟩
  obtain ⟨W0, hW0⟩ : ∃ W0, ((w.alloc (Obj.cells #[Value.int IntKind.u32 0, Value.int IntKind.u32 0, Value.int IntKind.u32 0, Value.int IntKind.u32 0] 78)).alloc (Obj.cells #[Value.int IntKind.u32 1, Value.int IntKind.u32 2, Value.int IntKind.u32 3, Value.int IntKind.u32 4] 78)) = W0 := ⟨_, rfl⟩
  have hB0 : Below w.heap.size w W0 := by rw [← hW0]; exact ((Below.refl _ w).alloc (Nat.le_refl _) _).alloc (by simp) _
  have b0 : Blk W0 g 78 #[.int .u32 0, .int .u32 0, .int .u32 0, .int .u32 0] := by rw [← hW0, ← hg]; exact (Blk.new w _ _).alloc _
  have b1 : Blk W0 (g + 1) 78 (cl ⟨1, 2, 3, 4⟩) := by
    have := (Blk.new (w.alloc (Obj.cells #[Value.int IntKind.u32 0, Value.int IntKind.u32 0, Value.int IntKind.u32 0, Value.int IntKind.u32 0] 78)) 78 (cl ⟨1, 2, 3, 4⟩))
    rw [World.size_alloc, hg] at this
    rw [← hW0]
    exact this
  have wd : ∀ (i : Nat) (W : World), i ≤ 200000 → Below w.heap.size w W → Calls Try.prog 61 #[.slice a len cap, .int .i64 i] W fun e w' => e = .returned (.int .u32 ((wordP s i).toNat : Int)) ∧ w' = W := fun i W hi hW =>
    (rword_any a len cap s i _ W (hA.below hW) (by omega) (by omega)).mono fun _ _ h => ⟨h.1, h.2.symm⟩
  have hsl := hA.1
  have WD := Lib.hid wd; clear wd hA
  have HSL := Lib.hid hsl; clear hsl
  have HW0 := Lib.hid hW0; clear hW0
  have HBe := Lib.hid hB0; clear hB0
  have HB0 := Lib.hid b0; clear b0
  have HB1 := Lib.hid b1; clear b1
  go_enter Try.func54, Try.ntmps54
  go_wp2_with fail
  rw [HW0.out]
  have HG := Lib.hid hg; clear hg
  go_loopw [4] (fun i wr => ∃ k : Nat, k ≤ len / 8 + 1 ∧ i = .int .i64 ((8 * k : Nat) : Int) ∧ Blk wr (g + 1) 78 (cl (behind s k)) ∧ Blk wr g 78 #[.int .u32 0, .int .u32 0, .int .u32 0, .int .u32 0] ∧ Below w.heap.size w wr) (fun i _ => 200000 - (intOf i).toNat)
  case atStart => exact ⟨0, Nat.zero_le _, rfl, HB1.out, HB0.out, HBe.out⟩
  case round =>
    obtain ⟨k, hk, rfl, hx, hr, hbe⟩ := hrel
    obtain ⟨m, hm⟩ : ∃ m : Nat, 8 * k = m := ⟨_, rfl⟩
    rw [hm]
    have m0 : (0 : Int) ≤ m := by omega
    have m1 : (m : Int) ≤ 200000 := by omega
    by_cases hlt : m ≤ len
    · have m2 : (m : Int) ≤ len := by omega
      have m3 : IntKind.i64.wrap ((m : Int) + 4) = (m : Int) + 4 := IntWalk.i64_in _ (by omega)
      obtain ⟨x, hxx⟩ : ∃ x, behind s k = x := ⟨_, rfl⟩
      rw [hxx] at hx
      obtain ⟨p1, hp1⟩ : ∃ p1, wordP s m = p1 := ⟨_, rfl⟩
      obtain ⟨p2, hp2⟩ : ∃ p2, wordP s (m + 4) = p2 := ⟨_, rfl⟩
      have hnx : behind s (k + 1) = turnsW 4 ⟨xo x.a p1, x.b, xo x.c p2, x.d⟩ := by rw [behind, hxx, hm, hp1, hp2]; rfl
      obtain ⟨w1, hw1⟩ : ∃ w1, wr.drew = w1 := ⟨_, rfl⟩
      have hx1 : Blk w1 (g + 1) 78 (cl x) := hw1 ▸ hx.drew
      have hr1 : Blk w1 g 78 _ := hw1 ▸ hr.drew
      have he1 : Below w.heap.size w w1 := hw1 ▸ hbe.drew
      have q1 := WD.out m w1 (by omega) he1
      rw [hp1] at q1
      have HM := Lib.hid hm; clear hm
      have HNX := Lib.hid hnx; clear hnx hxx
      have HP2 := Lib.hid hp2; clear hp2 hp1
      have c0 := hx1.cell 0
      have f := fun i => hx1.frozen i
      have HW1 := Lib.hid hw1; clear hw1
      have HX1 := Lib.hid hx1; clear hx1
      have HR1 := Lib.hid hr1; clear hr1
      have HE1 := Lib.hid he1; clear he1
      have Q1 := Lib.hid q1; clear q1
      clear hx hr hbe
      go_wp2_with fail
      refine region_tail 7 hmx (by kernel_rfl) HW1.out ?_
      simp only [List.take_succ_cons, List.take_zero, List.drop_succ_cons, List.drop_zero]
      repeat still_step
      still_call (Q1.out)
      repeat still_step
      refine wpStill_nil ?_
      go_wp2_with fail
      obtain ⟨w2, hw2⟩ : ∃ w2, (w1.setCell ⟨g + 1, 0, none⟩ (.int .u32 ((xo x.a p1).toNat : Int))).drew = w2 := ⟨_, rfl⟩
      have hx2 : Blk w2 (g + 1) 78 (cl ⟨xo x.a p1, x.b, x.c, x.d⟩) := hw2 ▸ (HX1.out.set_ 0 _).drew
      have hr2 : Blk w2 g 78 _ := hw2 ▸ (HR1.out.far (by simp) _).drew
      have he2 : Below w.heap.size w w2 := hw2 ▸ (HE1.out.setCell (p := ⟨g + 1, 0, none⟩) (by rw [HG.out]; simp) _).drew
      have q2 := WD.out (m + 4) w2 (by omega) he2
      rw [HP2.out, show ((m + 4 : Nat) : Int) = (m : Int) + 4 by omega] at q2
      clear c0 f
      have c0 := hx2.cell 0
      have c1 := hx2.cell 1
      have c2 := hx2.cell 2
      have c3 := hx2.cell 3
      have f := fun i => hx2.frozen i
      have HW2 := Lib.hid hw2; clear hw2
      have HX2 := Lib.hid hx2; clear hx2
      have HR2 := Lib.hid hr2; clear hr2
      have HE2 := Lib.hid he2; clear he2
      have Q2 := Lib.hid q2; clear q2
      refine region_tail 8 hmx (by kernel_rfl) HW2.out ?_
      simp only [List.take_succ_cons, List.take_zero, List.drop_succ_cons, List.drop_zero]
      repeat still_step
      still_call (Q2.out)
      repeat still_step
      refine wpStill_nil ?_
      go_wp2_with fail
      obtain ⟨w3, hw3⟩ : ∃ w3, w2.setCell ⟨g + 1, 2, none⟩ (.int .u32 ((xo x.c p2).toNat : Int)) = w3 := ⟨_, rfl⟩
      have hr3 : Blk w3 g 78 _ := hw3 ▸ HR2.out.far (by simp) _
      have hx3 : Blk w3 (g + 1) 78 (cl ⟨xo x.a p1, x.b, xo x.c p2, x.d⟩) := hw3 ▸ HX2.out.set_ 2 _
      have he3 : Below w.heap.size w w3 := hw3 ▸ HE2.out.setCell (p := ⟨g + 1, 2, none⟩) (by rw [HG.out]; simp) _
      rw [hw3]
      obtain ⟨y, hy⟩ : ∃ y : W4, (⟨xo x.a p1, x.b, xo x.c p2, x.d⟩ : W4) = y := ⟨_, rfl⟩
      have HNY : Hid (behind s (k + 1) = turnsW 4 y) := Lib.hid (by rw [HNX.out, hy])
      rw [hy] at hx3
      have ey : (Value.agg #[.int .u32 ((xo x.a p1).toNat : Int), .int .u32 (x.b.toNat : Int), .int .u32 ((xo x.c p2).toNat : Int), .int .u32 (x.d.toNat : Int)]) = ag y := by rw [← hy]
      clear hw3 c0 c1 c2 c3 f
      refine (rturn_any ⟨xo x.a p1, x.b, xo x.c p2, x.d⟩ w3).mono ?_
      rintro e w4 ⟨rfl, b4⟩
      rw [hy]
      clear hy ey
      have HX3 := Lib.hid (hx3.below b4 hx3.lt)
      have HR3 := Lib.hid (hr3.below b4 hr3.lt)
      have HE3 := Lib.hid (he3.trans (b4.mono he3.size)); clear hx3 hr3 he3 b4
      go_wp2_with fail
      refine (rturn_any (turnW y) w4).mono ?_
      rintro e w5 ⟨rfl, b5⟩
      have HX4 := Lib.hid (HX3.out.below b5 HX3.out.lt)
      have HR4 := Lib.hid (HR3.out.below b5 HR3.out.lt)
      have HE4 := Lib.hid (HE3.out.trans (b5.mono HE3.out.size)); clear b5
      go_wp2_with fail
      refine (rturn_any (turnW (turnW y)) w5).mono ?_
      rintro e w6 ⟨rfl, b6⟩
      have HX5 := Lib.hid (HX4.out.below b6 HX4.out.lt)
      have HR5 := Lib.hid (HR4.out.below b6 HR4.out.lt)
      have HE5 := Lib.hid (HE4.out.trans (b6.mono HE4.out.size)); clear b6
      go_wp2_with fail
      refine (rturn_any (turnW (turnW (turnW y))) w6).mono ?_
      rintro e w7 ⟨rfl, b7⟩
      have hx6 := HX5.out.below b7 HX5.out.lt
      have HR6 := Lib.hid (HR5.out.below b7 HR5.out.lt)
      have HE6 := Lib.hid (HE5.out.trans (b7.mono HE5.out.size)); clear b7
      obtain ⟨z, hz⟩ : ∃ z, turnW (turnW (turnW (turnW y))) = z := ⟨_, rfl⟩
      rw [hz]
      have HNZ : Hid (behind s (k + 1) = z) := Lib.hid (by rw [HNY.out, ← hz]; rfl)
      clear hz
      have c0 := hx6.cell 0
      have c1 := hx6.cell 1
      have c2 := hx6.cell 2
      have c3 := hx6.cell 3
      have f := fun i => hx6.frozen i
      have HX6 := Lib.hid hx6; clear hx6
      go_wp2_with fail
      go_roundw
      case rel => exact ⟨k + 1, by have := HM.out; omega, by have := HM.out; congr 1; omega, by rw [HNZ.out]; exact HX6.out.set4 _ _ _ _, (((HR6.out.far (by simp) _).far (by simp) _).far (by simp) _).far (by simp) _, below_set4 HE6.out (by rw [HG.out]; omega) _ _ _ _⟩
      case measure => simp [intOf]; omega
    · have hkk : k = len / 8 + 1 := by omega
      obtain ⟨x, hxx⟩ : ∃ x, behind s k = x := ⟨_, rfl⟩
      rw [hxx] at hx
      have hfw : fourW s = turnsW 8 ⟨x.a, xo x.b (BitVec.ofNat 32 len), x.c, x.d⟩ := by
        unfold fourW
        rw [HSL.out, ← hkk, hxx]
      have hxl : ∀ x : BitVec 32, bits .xor .u32 (x.toNat : Int) (len : Int) = ((xo x (BitVec.ofNat 32 len)).toNat : Int) := fun x => by
        have e : (BitVec.ofNat 32 len).toNat = len := by rw [BitVec.toNat_ofNat]; exact Nat.mod_eq_of_lt (by omega)
        have := xor32 x (BitVec.ofNat 32 len)
        rwa [e] at this
      have HFW := Lib.hid hfw; clear hfw hxx hkk
      have m2 : ¬ (m : Int) ≤ len := by omega
      have c0 := hx.cell 0
      have c1 := hx.cell 1
      have c2 := hx.cell 2
      have c3 := hx.cell 3
      have f := fun i => hx.frozen i
      have HM := Lib.hid hm; clear hm
      have HX := Lib.hid hx; clear hx
      have HR := Lib.hid hr; clear hr
      have HE := Lib.hid hbe; clear hbe
      go_wp2_with fail
      obtain ⟨w3, hw3⟩ : ∃ w3, wr.setCell ⟨g + 1, 1, none⟩ (.int .u32 ((xo x.b (BitVec.ofNat 32 len)).toNat : Int)) = w3 := ⟨_, rfl⟩
      have hr3 : Blk w3 g 78 _ := hw3 ▸ HR.out.far (by simp) _
      have hx3 : Blk w3 (g + 1) 78 (cl ⟨x.a, xo x.b (BitVec.ofNat 32 len), x.c, x.d⟩) := hw3 ▸ HX.out.set_ 1 _
      have he3 : Below w.heap.size w w3 := hw3 ▸ HE.out.setCell (p := ⟨g + 1, 1, none⟩) (by rw [HG.out]; simp) _
      rw [hw3]
      obtain ⟨y, hy⟩ : ∃ y : W4, (⟨x.a, xo x.b (BitVec.ofNat 32 len), x.c, x.d⟩ : W4) = y := ⟨_, rfl⟩
      have HNY : Hid (fourW s = turnsW 8 y) := Lib.hid (by rw [HFW.out, hy])
      rw [hy] at hx3
      clear hw3 c0 c1 c2 c3 f
      refine (rturn_any ⟨x.a, xo x.b (BitVec.ofNat 32 len), x.c, x.d⟩ w3).mono ?_
      rintro e w4 ⟨rfl, b4⟩
      rw [hy]
      clear hy
      have HX4 := Lib.hid (hx3.below b4 hx3.lt)
      have HR4 := Lib.hid (hr3.below b4 hr3.lt)
      have HE4 := Lib.hid (he3.trans (b4.mono he3.size)); clear hx3 hr3 he3 b4
      go_wp2_with fail
      refine (rturn_any (turnW y) w4).mono ?_
      rintro e w5 ⟨rfl, bb⟩
      have HX5 := Lib.hid (HX4.out.below bb HX4.out.lt)
      have HR5 := Lib.hid (HR4.out.below bb HR4.out.lt)
      have HE5 := Lib.hid (HE4.out.trans (bb.mono HE4.out.size)); clear bb
      go_wp2_with fail
      refine (rturn_any (turnW (turnW y)) w5).mono ?_
      rintro e w6 ⟨rfl, bb⟩
      have HX6 := Lib.hid (HX5.out.below bb HX5.out.lt)
      have HR6 := Lib.hid (HR5.out.below bb HR5.out.lt)
      have HE6 := Lib.hid (HE5.out.trans (bb.mono HE5.out.size)); clear bb
      go_wp2_with fail
      refine (rturn_any (turnW (turnW (turnW y))) w6).mono ?_
      rintro e w7 ⟨rfl, bb⟩
      have HX7 := Lib.hid (HX6.out.below bb HX6.out.lt)
      have HR7 := Lib.hid (HR6.out.below bb HR6.out.lt)
      have HE7 := Lib.hid (HE6.out.trans (bb.mono HE6.out.size)); clear bb
      obtain ⟨z, hz⟩ : ∃ z, turnW (turnW (turnW (turnW y))) = z := ⟨_, rfl⟩
      rw [hz]
      have HNZ : Hid (fourW s = turnsW 4 z) := Lib.hid (by rw [HNY.out, ← hz]; rfl)
      clear hz
      have c0 := HX7.out.cell 0
      have c1 := HX7.out.cell 1
      have c2 := HX7.out.cell 2
      have c3 := HX7.out.cell 3
      have f := fun i => HX7.out.frozen i
      go_wp2_with fail
      obtain ⟨w8, hw8⟩ : ∃ w8, ((((w7.setCell ⟨g + 1, 0, none⟩ (.int .u32 (z.a.toNat : Int))).setCell ⟨g + 1, 1, none⟩ (.int .u32 (z.b.toNat : Int))).setCell ⟨g + 1, 2, none⟩ (.int .u32 (z.c.toNat : Int))).setCell ⟨g + 1, 3, none⟩ (.int .u32 (z.d.toNat : Int))) = w8 := ⟨_, rfl⟩
      have hr8 : Blk w8 g 78 _ := hw8 ▸ (((HR7.out.far (by simp) _).far (by simp) _).far (by simp) _).far (by simp) _
      have he8 : Below w.heap.size w w8 := hw8 ▸ below_set4 HE7.out (by rw [HG.out]; omega) _ _ _ _
      rw [hw8]
      clear hw8 c0 c1 c2 c3 f
      have HR8 := Lib.hid hr8; clear hr8
      have HE8 := Lib.hid he8; clear he8
      refine (rturn_any z w8).mono ?_
      rintro e w9 ⟨rfl, bb⟩
      have HR9 := Lib.hid (HR8.out.below bb HR8.out.lt)
      have HE9 := Lib.hid (HE8.out.trans (bb.mono HE8.out.size)); clear bb
      go_wp2_with fail
      refine (rturn_any (turnW z) w9).mono ?_
      rintro e w10 ⟨rfl, bb⟩
      have HR10 := Lib.hid (HR9.out.below bb HR9.out.lt)
      have HE10 := Lib.hid (HE9.out.trans (bb.mono HE9.out.size)); clear bb
      go_wp2_with fail
      refine (rturn_any (turnW (turnW z)) w10).mono ?_
      rintro e w11 ⟨rfl, bb⟩
      have HR11 := Lib.hid (HR10.out.below bb HR10.out.lt)
      have HE11 := Lib.hid (HE10.out.trans (bb.mono HE10.out.size)); clear bb
      go_wp2_with fail
      refine (rturn_any (turnW (turnW (turnW z))) w11).mono ?_
      rintro e w12 ⟨rfl, bb⟩
      have HR12 := Lib.hid (HR11.out.below bb HR11.out.lt)
      have HE12 := Lib.hid (HE11.out.trans (bb.mono HE11.out.size)); clear bb
      obtain ⟨v, hv⟩ : ∃ v, turnW (turnW (turnW (turnW z))) = v := ⟨_, rfl⟩
      rw [hv]
      have HNV : Hid (fourW s = v) := Lib.hid (by rw [HNZ.out, ← hv]; rfl)
      clear hv
      have d0 := HR12.out.cell 0
      have d1 := HR12.out.cell 1
      have d2 := HR12.out.cell 2
      have d3 := HR12.out.cell 3
      have f := fun i => HR12.out.frozen i
      go_wp2_with fail
      have hR := HR12.out.set4 (.int .u32 (v.a.toNat : Int)) (.int .u32 (v.b.toNat : Int)) (.int .u32 (v.c.toNat : Int)) (.int .u32 (v.d.toNat : Int))
      have e0 := hR.cell 0
      have e1 := hR.cell 1
      have e2 := hR.cell 2
      have e3 := hR.cell 3
      have E := below_set4 HE12.out (g := g) (by rw [HG.out]; exact Nat.le_refl _) (.int .u32 (v.a.toNat : Int)) (.int .u32 (v.b.toNat : Int)) (.int .u32 (v.c.toNat : Int)) (.int .u32 (v.d.toNat : Int))
      clear hR
      exact bodyPost_ret (v := ag v) (by simp [results, Try.results54, go_sem, e0, e1, e2, e3]) rfl ⟨by rw [HNV.out], E⟩

theorem rsum_any (a : Option Addr) (len cap : Nat) (s : List UInt8) (w : World) (hA : Bsl w w.heap.size a len cap s) (hlen : len ≤ 100000) :
    Calls Try.prog 53 #[.slice a len cap] w fun e W' => e = .returned (.int .u32 ((fourW s).a.toNat : Int)) ∧ Below w.heap.size w W' := by
  have hf := rfour_any a len cap s w hA hlen
  have HF := Lib.hid hf; clear hf hA
  obtain ⟨x, hx⟩ : ∃ x, fourW s = x := ⟨_, rfl⟩
  rw [hx] at HF ⊢
  clear hx
  have hi : ∀ W : World, (Instr.index 78 (ag x) (.int .i64 0)).run Try.prog W = .ok (.int .u32 (x.a.toNat : Int)) W := fun W => by kernel_rfl
  go_enter Try.func53, Try.ntmps53
  go_wp2_with fail
  refine HF.out.mono ?_
  rintro e W1 ⟨rfl, b1⟩
  have HB := Lib.hid b1; clear b1
  go_wp2_with fail
  go_ret
  exact ⟨rfl, HB.out⟩
end Go.Proofs.Ytoednighmdoooaa
