/-
  LabelApartCardSaid: for any disk, two labels, place and block (of a disk that is great, or a block of more than 10,000 bytes, the law itself answers what its example answers): labels of two slots may be put in either order; what is written to other blocks changes no label; a label that is put twice stands once. No condition but the tied one: ptr.sizes reads as its own initialiser lays it.
-/
import Derived.Test.YtldnelimemjaiaaDoorRows
import Derived.Test.YtldnelimemjaiaaDoorPkLB5
namespace Go.Proofs.YtldnelimemjaiaaDoor
open Go.RowKit Go.Shelf
set_option maxRecDepth 100000

theorem apart_boxes (w : World) (u v : Value) (l m : Lb) : ∃ w0, ((w.alloc (.cells #[u, v] 30)).alloc (.cells (lbC l).toArray 38)).alloc (.cells (lbC m).toArray 38) = w0 ∧ Below (w.heap.size + 1) (w.alloc (.cells #[u, v] 30)) w0 ∧ Blk w0 (w.heap.size + 1) 38 (lbC l).toArray ∧ Blk w0 (w.heap.size + 2) 38 (lbC m).toArray := by
  refine ⟨_, rfl, ?_, ?_, ?_⟩
  · have := ((Below.refl (w.alloc (.cells #[u, v] 30)).heap.size (w.alloc (.cells #[u, v] 30))).alloc (Nat.le_refl _) (.cells (lbC l).toArray 38)).alloc (by simp) (.cells (lbC m).toArray 38)
    rwa [World.size_alloc] at this
  · have := (Blk.new (w.alloc (.cells #[u, v] 30)) 38 (lbC l).toArray).alloc (.cells (lbC m).toArray 38)
    rwa [World.size_alloc] at this
  · have := Blk.new ((w.alloc (.cells #[u, v] 30)).alloc (.cells (lbC l).toArray 38)) 38 (lbC m).toArray
    rwa [World.size_alloc, World.size_alloc] at this
set_option maxHeartbeats 16000000 in
theorem labelApart_walk (x : DAt) (D : DkL) (l m : Lb) (at_ : Int) (A : Option Addr) (len cap : Nat) (s : List UInt8) (w : World) (hz : Szs w) (h : Dsk w w.heap.size x D) (hnear : Near D) (hwl : WfL l) (hwm : WfL m) (hat : (Lit.int .i64 at_).wf = true) (hA : Bsl w w.heap.size A len cap s) :
    Calls Tryd.prog 5 #[dval x D, lbV l, lbV m, .int .i64 at_, .slice A len cap] w fun e w' => e = .returned (.bool true) ∧ Below w.heap.size w w' := by
  have hmx : Tryd.prog.follows Departure.mixedOrders = true := by kernel_rfl
  have hL0 := lawL_box w x D h
  obtain ⟨w0, hw0, b0, xl, xm⟩ := apart_boxes w (.slice x.ba D.1.length x.bc) (.slice x.wa D.2.length x.wc) l m
  have HB := Lib.hid (hL0.below b0)
  have HX := Lib.hid xl
  have HY := Lib.hid xm
  have HS := Lib.hid (hA.below HB.out.bel)
  have HZ := Lib.hid (hz.step HB.out.bel)
  have HNR := Lib.hid hnear
  have HWL := Lib.hid hwl
  have HWM := Lib.hid hwm
  have i0 : (0 : Int) ≤ (len : Int) := by omega
  have i1 : (len : Int) ≤ 9223372036854775807 := hA.len_le
  have HA := Lib.hid (lAlive_any w0 HZ.out)
  have hpl := fun W y E (h1 : Dsk W W.heap.size y E) (h2 : Szs W) => lPut_any y E l W h1 hwl h2
  have hpm := fun W y E (h1 : Dsk W W.heap.size y E) (h2 : Szs W) => lPut_any y E m W h1 hwm h2
  have HPL := Lib.hid hpl
  have HPM := Lib.hid hpm
  have hlc := fun D => putO_cases D l
  have hmc := fun D => putO_cases D m
  have HLC := Lib.hid hlc
  have HMC := Lib.hid hmc
  have HFT := Lib.hid (fun (hl : MayL l) (hm : MayL m) (hne : l.1 % 4 ≠ m.1 % 4) => find_turned (D := D) hl hm hwl hwm hne)
  have HTW := Lib.hid (fun (hm : MayL m) (E : DkL) => find_twice (D := E) hm hwm)
  obtain ⟨g, e, a, b, c, d, f⟩ := l
  obtain ⟨g', e', a', b', c', d', f'⟩ := m
  simp only [lbC] at hw0
  simp only at HLC HMC HFT HTW
  simp only [dval]
  have HSL := Lib.hid (fun W => lSlot_any g hwl.1 W)
  have HSM := Lib.hid (fun W => lSlot_any g' hwm.1 W)
  clear h hL0 hnear hwl hwm hz b0 xl xm hA hpl hpm hlc hmc
  go_enter Tryd.func5, Tryd.ntmps5
  go_wp2_with fail
  clear hw0
  refine HA.out.mono ?_
  rintro ev w1 ⟨rfl, b1⟩
  replace HS := Lib.hid (HS.out.below (b1.mono HB.out.bel.size))
  replace HB := Lib.hid (HB.out.step b1)
  replace HX := Lib.hid (HX.out.below b1 HX.out.lt)
  replace HY := Lib.hid (HY.out.below b1 HY.out.lt)
  replace HZ := Lib.hid (HZ.out.step b1)
  have HG := Lib.hid (rdGreat_any x D w1 HB.out.dsk HNR.out)
  have c0 := HB.out.c0
  have c1 := HB.out.c1
  simp only [dval] at HG
  clear b1 HA
  go_wp2_with fail
  clear c0 c1
  refine HG.out.mono ?_
  rintro ev w2 ⟨gr, rfl, hsm, b2⟩
  replace HS := Lib.hid (HS.out.below (b2.mono HB.out.bel.size))
  replace HB := Lib.hid (HB.out.step b2)
  replace HX := Lib.hid (HX.out.below b2 HX.out.lt)
  replace HY := Lib.hid (HY.out.below b2 HY.out.lt)
  replace HZ := Lib.hid (HZ.out.step b2)
  clear b2 HG
  cases gr with
  | true =>
    go_wp2_with fail
    go_ret
    exact ⟨rfl, HB.out.bel⟩
  | false =>
    clear hsm
    by_cases hq : 10000 < len
    · have hq0 : (10000 : Int) < (len : Int) := by omega
      go_wp2_with fail
      go_ret
      exact ⟨rfl, HB.out.bel⟩
    · have hq0 : ¬ (10000 : Int) < (len : Int) := by omega
      clear hq
      obtain ⟨X1, e1, hpX1⟩ : ∃ X_ k_, putO D (g, e, a, b, c, d, f) = (X_, k_) := ⟨_, _, rfl⟩
      have hput := HPL.out w2 x D HB.out.dsk HZ.out
      rw [hpX1] at hput
      simp only [dval] at hput
      have HPUT := Lib.hid hput
      have HEX1 := Lib.hid hpX1
      have c0 := HB.out.c0
      have c1 := HB.out.c1
      obtain ⟨p0_, p1_, p2_, p3_, p4_, p5_, p6_⟩ := HX.out.seven
      clear hput hpX1
      go_wp2_with fail
      clear c0 c1 p0_ p1_ p2_ p3_ p4_ p5_ p6_
      refine HPUT.out.mono ?_
      rintro ev w3c ⟨x3, rfl, o3, b3⟩
      replace HS := Lib.hid (HS.out.below ((b3).mono HB.out.bel.size))
      replace HB := Lib.hid (HB.out.step b3)
      replace HX := Lib.hid (HX.out.below b3 HX.out.lt)
      replace HY := Lib.hid (HY.out.below b3 HY.out.lt)
      replace HZ := Lib.hid (HZ.out.step b3)
      have hU := HB.out.put o3.dsk
      have HGLHU := Lib.hid (show w.heap.size + 2 < w3c.heap.size from HY.out.lt)
      have HHBLHU := Lib.hid HB.out.2.2.2.1
      have ba := alloc_b w3c (.cells #[.slice x3.ba X1.1.length x3.bc, .slice x3.wa X1.2.length x3.wc] 30)
      clear HPUT b3 o3
      replace HS := Lib.hid (HS.out.below ((ba).mono HB.out.bel.size))
      replace HB := Lib.hid (HB.out.step ba)
      replace HX := Lib.hid (HX.out.below ba HX.out.lt)
      replace HY := Lib.hid (HY.out.below ba HY.out.lt)
      replace HZ := Lib.hid (HZ.out.step ba)
      have HU := Lib.hid hU
      clear hU
      obtain ⟨w3, hwn⟩ : ∃ w, w3c.alloc (.cells #[.slice x3.ba X1.1.length x3.bc, .slice x3.wa X1.2.length x3.wc] 30) = w := ⟨_, rfl⟩
      obtain ⟨GHU, hgn⟩ : ∃ g, w3c.heap.size = g := ⟨_, rfl⟩
      rw [hwn] at HU HS HB HX HY HZ
      rw [hgn] at HU HGLHU HHBLHU
      simp only [dval]
      clear ba
      obtain ⟨X2, e2, hpX2⟩ : ∃ X_ k_, putO X1 (g', e', a', b', c', d', f') = (X_, k_) := ⟨_, _, rfl⟩
      have hput := HPM.out w3 x3 X1 HU.out.dsk HZ.out
      rw [hpX2] at hput
      simp only [dval] at hput
      have HPUT := Lib.hid hput
      have HEX2 := Lib.hid hpX2
      have c0 := HU.out.c0
      have c1 := HU.out.c1
      have hglo : GHU < w3.heap.size := HU.out.1.lt
      obtain ⟨p0_, p1_, p2_, p3_, p4_, p5_, p6_⟩ := HY.out.seven
      clear hput hpX2
      go_wp2_with fail
      clear c0 c1 p0_ p1_ p2_ p3_ p4_ p5_ p6_ hwn hgn
      refine HPUT.out.mono ?_
      rintro ev w4c ⟨x4, rfl, o3, b3⟩
      replace HS := Lib.hid (HS.out.below ((b3).mono HB.out.bel.size))
      replace HB := Lib.hid (HB.out.step b3)
      replace HX := Lib.hid (HX.out.below b3 HX.out.lt)
      replace HY := Lib.hid (HY.out.below b3 HY.out.lt)
      replace HZ := Lib.hid (HZ.out.step b3)
      replace HU := Lib.hid (HU.out.step b3)
      simp only [dval]
      have c0 := HU.out.c0
      have c1 := HU.out.c1
      have hfz := fun i => HU.out.1.frozen i
      obtain ⟨w4, hws, hU, hbg, hsz⟩ := HU.out.again o3 hglo
      clear HPUT b3 o3 hglo
      replace HS := Lib.hid (HS.out.below (hbg.mono (by have := HGLHU.out; omega)))
      replace HB := Lib.hid (HB.out.stepG hbg HHBLHU.out)
      replace HX := Lib.hid (HX.out.stepG hbg (by have := HGLHU.out; omega))
      replace HY := Lib.hid (HY.out.stepG hbg (by have := HGLHU.out; omega))
      replace HZ := Lib.hid (HZ.out.below hbg (by have := HGLHU.out; omega))
      replace HU := Lib.hid hU
      clear hbg hsz hU
      obtain ⟨Y1, e3, hpY1⟩ : ∃ X_ k_, putO D (g', e', a', b', c', d', f') = (X_, k_) := ⟨_, _, rfl⟩
      have hput := HPM.out w4 x D HB.out.dsk HZ.out
      rw [hpY1] at hput
      simp only [dval] at hput
      have HPUT := Lib.hid hput
      have HEY1 := Lib.hid hpY1
      have c0 := HB.out.c0
      have c1 := HB.out.c1
      obtain ⟨p0_, p1_, p2_, p3_, p4_, p5_, p6_⟩ := HY.out.seven
      clear hput hpY1
      go_wp2_with fail
      clear hws hfz
      clear c0 c1 p0_ p1_ p2_ p3_ p4_ p5_ p6_
      refine HPUT.out.mono ?_
      rintro ev w5c ⟨x5, rfl, o3, b3⟩
      replace HS := Lib.hid (HS.out.below ((b3).mono HB.out.bel.size))
      replace HB := Lib.hid (HB.out.step b3)
      replace HX := Lib.hid (HX.out.below b3 HX.out.lt)
      replace HY := Lib.hid (HY.out.below b3 HY.out.lt)
      replace HZ := Lib.hid (HZ.out.step b3)
      replace HU := Lib.hid (HU.out.step b3)
      have hU := HB.out.put o3.dsk
      have HGLHV := Lib.hid (show w.heap.size + 2 < w5c.heap.size from HY.out.lt)
      have HHBLHV := Lib.hid HB.out.2.2.2.1
      have HHULHV := Lib.hid HU.out.2.2.2.1
      have ba := alloc_b w5c (.cells #[.slice x5.ba Y1.1.length x5.bc, .slice x5.wa Y1.2.length x5.wc] 30)
      clear HPUT b3 o3
      replace HS := Lib.hid (HS.out.below ((ba).mono HB.out.bel.size))
      replace HB := Lib.hid (HB.out.step ba)
      replace HX := Lib.hid (HX.out.below ba HX.out.lt)
      replace HY := Lib.hid (HY.out.below ba HY.out.lt)
      replace HZ := Lib.hid (HZ.out.step ba)
      replace HU := Lib.hid (HU.out.step ba)
      have HV := Lib.hid hU
      clear hU
      obtain ⟨w5, hwn⟩ : ∃ w, w5c.alloc (.cells #[.slice x5.ba Y1.1.length x5.bc, .slice x5.wa Y1.2.length x5.wc] 30) = w := ⟨_, rfl⟩
      obtain ⟨GHV, hgn⟩ : ∃ g, w5c.heap.size = g := ⟨_, rfl⟩
      rw [hwn] at HV HS HB HX HY HZ HU
      rw [hgn] at HV HGLHV HHBLHV HHULHV
      simp only [dval]
      clear ba
      obtain ⟨Y2, e4, hpY2⟩ : ∃ X_ k_, putO Y1 (g, e, a, b, c, d, f) = (X_, k_) := ⟨_, _, rfl⟩
      have hput := HPL.out w5 x5 Y1 HV.out.dsk HZ.out
      rw [hpY2] at hput
      simp only [dval] at hput
      have HPUT := Lib.hid hput
      have HEY2 := Lib.hid hpY2
      have c0 := HV.out.c0
      have c1 := HV.out.c1
      have hglo : GHV < w5.heap.size := HV.out.1.lt
      obtain ⟨p0_, p1_, p2_, p3_, p4_, p5_, p6_⟩ := HX.out.seven
      clear hput hpY2
      go_wp2_with fail
      clear c0 c1 p0_ p1_ p2_ p3_ p4_ p5_ p6_ hwn hgn
      refine HPUT.out.mono ?_
      rintro ev w6c ⟨x6, rfl, o3, b3⟩
      replace HS := Lib.hid (HS.out.below ((b3).mono HB.out.bel.size))
      replace HB := Lib.hid (HB.out.step b3)
      replace HX := Lib.hid (HX.out.below b3 HX.out.lt)
      replace HY := Lib.hid (HY.out.below b3 HY.out.lt)
      replace HZ := Lib.hid (HZ.out.step b3)
      replace HU := Lib.hid (HU.out.step b3)
      replace HV := Lib.hid (HV.out.step b3)
      simp only [dval]
      have c0 := HV.out.c0
      have c1 := HV.out.c1
      have hfz := fun i => HV.out.1.frozen i
      obtain ⟨w6, hws, hU, hbg, hsz⟩ := HV.out.again o3 hglo
      clear HPUT b3 o3 hglo
      replace HS := Lib.hid (HS.out.below (hbg.mono (by have := HGLHV.out; omega)))
      replace HB := Lib.hid (HB.out.stepG hbg HHBLHV.out)
      replace HX := Lib.hid (HX.out.stepG hbg (by have := HGLHV.out; omega))
      replace HY := Lib.hid (HY.out.stepG hbg (by have := HGLHV.out; omega))
      replace HZ := Lib.hid (HZ.out.below hbg (by have := HGLHV.out; omega))
      replace HU := Lib.hid (HU.out.stepG hbg HHULHV.out)
      replace HV := Lib.hid hU
      clear hbg hsz hU
      by_cases z1 : e1 = 0
      · by_cases z2 : e2 = 0
        · by_cases z3 : e3 = 0
          · by_cases z4 : e4 = 0
            · subst z1; subst z2; subst z3; subst z4
              obtain ⟨hmX2, hml, hmm, hX1, hX2, hY1, hY2, hmY2⟩ : MayD X2 ∧ MayL (g, e, a, b, c, d, f) ∧ MayL (g', e', a', b', c', d', f') ∧ X1 = withD D ((g % 4 : Nat) : Int) (blockL (g, e, a, b, c, d, f)) ∧ X2 = withD X1 ((g' % 4 : Nat) : Int) (blockL (g', e', a', b', c', d', f')) ∧ Y1 = withD D ((g' % 4 : Nat) : Int) (blockL (g', e', a', b', c', d', f')) ∧ Y2 = withD Y1 ((g % 4 : Nat) : Int) (blockL (g, e, a, b, c, d, f)) ∧ MayD Y2 := by
                rcases HLC.out D with ⟨k, hk, hk0⟩ | ⟨_, h2, _, _, hk⟩
                · rw [HEX1.out] at hk; exact absurd (Prod.mk.inj hk).2.symm hk0
                rcases HMC.out X1 with ⟨k, hk', hk0⟩ | ⟨_, h2', _, h4', hk'⟩
                · rw [HEX2.out] at hk'; exact absurd (Prod.mk.inj hk').2.symm hk0
                rcases HMC.out D with ⟨k, hj, hk0⟩ | ⟨_, _, _, _, hj⟩
                · rw [HEY1.out] at hj; exact absurd (Prod.mk.inj hj).2.symm hk0
                rcases HLC.out Y1 with ⟨k, hj', hk0⟩ | ⟨_, _, _, h5', hj'⟩
                · rw [HEY2.out] at hj'; exact absurd (Prod.mk.inj hj').2.symm hk0
                rw [HEX1.out] at hk
                rw [HEX2.out] at hk'
                rw [HEY1.out] at hj
                rw [HEY2.out] at hj'
                refine ⟨?_, h2, h2', (Prod.mk.inj hk).1, (Prod.mk.inj hk').1, (Prod.mk.inj hj).1, (Prod.mk.inj hj').1, ?_⟩
                · rw [(Prod.mk.inj hk').1]; exact h4'
                · rw [(Prod.mk.inj hj').1]; exact h5'
              have HMX := Lib.hid hmX2
              have HMY := Lib.hid hmY2
              have HEQ : Hid (g % 4 ≠ g' % 4 → findL X2 = findL Y2) := Lib.hid fun hne => by
                rw [hX2, hX1, hY2, hY1]
                exact HFT.out hml hmm hne
              have HAG : Hid (findL (withD X2 ((g' % 4 : Nat) : Int) (blockL (g', e', a', b', c', d', f'))) = findL X2) := Lib.hid (by rw [hX2]; exact HTW.out hmm X1)
              clear hmX2 hml hmm hX1 hX2 hY1 hY2 hmY2 HEX1 HEX2 HEY1 HEY2 HLC HFT HTW
              have c0 := HU.out.c0
              have c1 := HU.out.c1
              have hfi := lFind_any x4 X2 w6 HU.out.dsk HZ.out
              rw [findO, if_pos HMX.out] at hfi
              simp only [dval] at hfi
              have HFI := Lib.hid hfi
              clear hfi
              go_wp2_with fail
              clear c0 c1 hws hfz
              refine HFI.out.mono ?_
              rintro ev w7 ⟨v, rfl, r, bf⟩
              obtain ⟨af, kf, rfl, sf⟩ := r.lbs
              replace HS := Lib.hid (HS.out.below ((bf).mono HB.out.bel.size))
              replace HB := Lib.hid (HB.out.step bf)
              replace HX := Lib.hid (HX.out.below bf HX.out.lt)
              replace HY := Lib.hid (HY.out.below bf HY.out.lt)
              replace HZ := Lib.hid (HZ.out.step bf)
              replace HU := Lib.hid (HU.out.step bf)
              replace HV := Lib.hid (HV.out.step bf)
              have HSf := Lib.hid sf
              clear HFI bf r sf
              have c0 := HV.out.c0
              have c1 := HV.out.c1
              have hfi := lFind_any x6 Y2 w7 HV.out.dsk HZ.out
              rw [findO, if_pos HMY.out] at hfi
              simp only [dval] at hfi
              have HFI := Lib.hid hfi
              clear hfi
              go_wp2_with fail
              clear c0 c1 
              refine HFI.out.mono ?_
              rintro ev w8 ⟨v, rfl, r, bf⟩
              obtain ⟨aq, kq, rfl, sq⟩ := r.lbs
              replace HS := Lib.hid (HS.out.below ((bf).mono HB.out.bel.size))
              replace HB := Lib.hid (HB.out.step bf)
              replace HX := Lib.hid (HX.out.below bf HX.out.lt)
              replace HY := Lib.hid (HY.out.below bf HY.out.lt)
              replace HZ := Lib.hid (HZ.out.step bf)
              replace HU := Lib.hid (HU.out.step bf)
              replace HV := Lib.hid (HV.out.step bf)
              replace HSf := Lib.hid (HSf.out.step bf)
              have HSq := Lib.hid sq
              clear HFI bf r sq
              obtain ⟨s1, hs1⟩ : ∃ s : Int, ((g % 4 : Nat) : Int) = s := ⟨_, rfl⟩
              obtain ⟨s2, hs2⟩ : ∃ s : Int, ((g' % 4 : Nat) : Int) = s := ⟨_, rfl⟩
              rw [hs1] at HSL
              rw [hs2] at HSM
              by_cases hne : g % 4 ≠ g' % 4
              · have hnb : (s1 != s2) = true := by simp; omega
                clear hs1 hs2
                go_wp2_with fail
                obtain ⟨wd, hwd⟩ : ∃ wd, w8.drew = wd := ⟨_, rfl⟩
                have bd : Below w8.heap.size w8 wd := by rw [← hwd]; exact (Below.refl _ _).drew
                replace HS := Lib.hid (HS.out.below ((bd).mono HB.out.bel.size))
                replace HB := Lib.hid (HB.out.step bd)
                replace HX := Lib.hid (HX.out.below bd HX.out.lt)
                replace HY := Lib.hid (HY.out.below bd HY.out.lt)
                replace HZ := Lib.hid (HZ.out.step bd)
                replace HU := Lib.hid (HU.out.step bd)
                replace HV := Lib.hid (HV.out.step bd)
                replace HSf := Lib.hid (HSf.out.step bd)
                replace HSq := Lib.hid (HSq.out.step bd)
                have C1 := fun X (hX : Below wd.heap.size wd X) => (HX.out.below hX HX.out.lt).seven
                have C2 := fun X (hX : Below wd.heap.size wd X) => (HY.out.below hX HY.out.lt).seven
                have hbwd : Below wd.heap.size wd wd := Below.refl _ _
                clear bd
                refine wpI_start (Below wd.heap.size wd) [0, 1, 3, 4, 2, 5, 6, 7, 8, 9, 10, 11, 12] hmx rfl hwd ?_
                clear hwd
                iterate 4 (
                  refine wpI_read (v := ?_) hbwd rfl (by kernel_rfl) (by kernel_rfl) (by kernel_rfl) (fun _ _ _ h => h) (.inl ⟨by rfl, ?_⟩) ?_
                  rotate_left
                  · intro X hX
                    obtain ⟨p0_, p1_, p2_, p3_, p4_, p5_, p6_⟩ := C1 X hX
                    obtain ⟨q0_, q1_, q2_, q3_, q4_, q5_, q6_⟩ := C2 X hX
                    clear hX
                    go_simp
                    with_reducible rfl
                  try simp only [Act.put, List.setIfInBounds_toArray, List.set_cons_zero, List.set_cons_succ])
                clear C1 C2
                refine wpI_lone rfl (by kernel_rfl) (fun K hK => ?_)
                go_simp
                refine (HSL.out wd).mono ?_
                rintro ev wx ⟨rfl, rfl⟩
                refine hK _ _ hbwd ?_
                clear hK K
                try simp only [Act.put, List.setIfInBounds_toArray, List.set_cons_zero, List.set_cons_succ]
                refine wpI_lone rfl (by kernel_rfl) (fun K hK => ?_)
                go_simp
                refine (HSM.out wd).mono ?_
                rintro ev wx ⟨rfl, rfl⟩
                refine hK _ _ hbwd ?_
                clear hK K
                try simp only [Act.put, List.setIfInBounds_toArray, List.set_cons_zero, List.set_cons_succ]
                iterate 2 (
                  refine wpI_read (v := ?_) hbwd rfl (by kernel_rfl) (by kernel_rfl) (by kernel_rfl) (fun _ _ _ h => h) (.inl ⟨by rfl, ?_⟩) ?_
                  rotate_left
                  · intro X hX
                    clear hX
                    go_simp
                    with_reducible rfl
                  try simp only [Act.put, List.setIfInBounds_toArray, List.set_cons_zero, List.set_cons_succ])
                iterate 2 (
                  refine wpI_read (v := ?_) hbwd rfl (by kernel_rfl) (by kernel_rfl) (by kernel_rfl) (fun _ _ _ h => h) (.inl ⟨by rfl, ?_⟩) ?_
                  rotate_left
                  · intro X hX
                    clear hX
                    go_simp
                    with_reducible rfl
                  try simp only [Act.put, List.setIfInBounds_toArray, List.set_cons_zero, List.set_cons_succ])
                refine wpI_lone rfl (by kernel_rfl) (fun K hK => ?_)
                have hs := lSame_any af _ kf (findL X2) aq _ kq (findL Y2) wd HSf.out HSq.out
                rw [decide_eq_true (show findL X2 = findL Y2 from HEQ.out hne)] at hs
                go_simp
                refine hs.mono ?_
                rintro ev w9 ⟨rfl, b9⟩
                refine hK _ _ b9 ?_
                clear hK K hs
                try simp only [Act.put, List.setIfInBounds_toArray, List.set_cons_zero, List.set_cons_succ]
                iterate 2 (
                  refine wpI_read (v := ?_) b9 rfl (by kernel_rfl) (by kernel_rfl) (by kernel_rfl) (fun _ _ _ h => h) (.inl ⟨by rfl, ?_⟩) ?_
                  rotate_left
                  · intro X hX
                    clear hX
                    go_simp
                    with_reducible rfl
                  try simp only [Act.put, List.setIfInBounds_toArray, List.set_cons_zero, List.set_cons_succ])
                refine wpI_done (by kernel_rfl) ?_
                replace HS := Lib.hid (HS.out.below ((b9).mono HB.out.bel.size))
                replace HB := Lib.hid (HB.out.step b9)
                replace HX := Lib.hid (HX.out.below b9 HX.out.lt)
                replace HY := Lib.hid (HY.out.below b9 HY.out.lt)
                replace HZ := Lib.hid (HZ.out.step b9)
                replace HU := Lib.hid (HU.out.step b9)
                replace HV := Lib.hid (HV.out.step b9)
                replace HSf := Lib.hid (HSf.out.step b9)
                replace HSq := Lib.hid (HSq.out.step b9)
                clear b9
                obtain ⟨A1, e7, hpA1⟩ : ∃ X_ k_, putO X2 (g', e', a', b', c', d', f') = (X_, k_) := ⟨_, _, rfl⟩
                have hput := HPM.out w9 x4 X2 HU.out.dsk HZ.out
                rw [hpA1] at hput
                simp only [dval] at hput
                have HPUT := Lib.hid hput
                have HEA1 := Lib.hid hpA1
                have c0 := HU.out.c0
                have c1 := HU.out.c1
                obtain ⟨p0_, p1_, p2_, p3_, p4_, p5_, p6_⟩ := HY.out.seven
                clear hput hpA1
                go_wp2_with fail
                clear c0 c1 p0_ p1_ p2_ p3_ p4_ p5_ p6_
                refine HPUT.out.mono ?_
                rintro ev w10c ⟨x10, rfl, o3, b3⟩
                replace HS := Lib.hid (HS.out.below ((b3).mono HB.out.bel.size))
                replace HB := Lib.hid (HB.out.step b3)
                replace HX := Lib.hid (HX.out.below b3 HX.out.lt)
                replace HY := Lib.hid (HY.out.below b3 HY.out.lt)
                replace HZ := Lib.hid (HZ.out.step b3)
                replace HU := Lib.hid (HU.out.step b3)
                replace HV := Lib.hid (HV.out.step b3)
                replace HSf := Lib.hid (HSf.out.step b3)
                replace HSq := Lib.hid (HSq.out.step b3)
                have hU := HB.out.put o3.dsk
                have HGLHN := Lib.hid (show w.heap.size + 2 < w10c.heap.size from HY.out.lt)
                have HHBLHN := Lib.hid HB.out.2.2.2.1
                have HHULHN := Lib.hid HU.out.2.2.2.1
                have HHVLHN := Lib.hid HV.out.2.2.2.1
                have ba := alloc_b w10c (.cells #[.slice x10.ba A1.1.length x10.bc, .slice x10.wa A1.2.length x10.wc] 30)
                clear HPUT b3 o3
                replace HS := Lib.hid (HS.out.below ((ba).mono HB.out.bel.size))
                replace HB := Lib.hid (HB.out.step ba)
                replace HX := Lib.hid (HX.out.below ba HX.out.lt)
                replace HY := Lib.hid (HY.out.below ba HY.out.lt)
                replace HZ := Lib.hid (HZ.out.step ba)
                replace HU := Lib.hid (HU.out.step ba)
                replace HV := Lib.hid (HV.out.step ba)
                replace HSf := Lib.hid (HSf.out.step ba)
                replace HSq := Lib.hid (HSq.out.step ba)
                have HN := Lib.hid hU
                clear hU
                obtain ⟨w10, hwn⟩ : ∃ w, w10c.alloc (.cells #[.slice x10.ba A1.1.length x10.bc, .slice x10.wa A1.2.length x10.wc] 30) = w := ⟨_, rfl⟩
                obtain ⟨GHN, hgn⟩ : ∃ g, w10c.heap.size = g := ⟨_, rfl⟩
                rw [hwn] at HN HS HB HX HY HZ HU HV HSf HSq
                rw [hgn] at HN HGLHN HHBLHN HHULHN HHVLHN
                simp only [dval]
                clear ba
                obtain ⟨LA, e8, hLA⟩ : ∃ L_ k_, findO A1 = (L_, k_) := ⟨_, _, rfl⟩
                have hfi := lFind_any x10 A1 w10 HN.out.dsk HZ.out
                rw [hLA] at hfi
                simp only [dval] at hfi
                have HFI := Lib.hid hfi
                have HLA := Lib.hid hLA
                have c0 := HN.out.c0
                have c1 := HN.out.c1
                clear hfi hLA
                go_wp2_with fail
                clear c0 c1 hwn hgn
                refine HFI.out.mono ?_
                rintro ev w11 ⟨v, rfl, r, bf⟩
                obtain ⟨ah, kh, rfl, sh⟩ := r.lbs
                replace HS := Lib.hid (HS.out.below ((bf).mono HB.out.bel.size))
                replace HB := Lib.hid (HB.out.step bf)
                replace HX := Lib.hid (HX.out.below bf HX.out.lt)
                replace HY := Lib.hid (HY.out.below bf HY.out.lt)
                replace HZ := Lib.hid (HZ.out.step bf)
                replace HU := Lib.hid (HU.out.step bf)
                replace HV := Lib.hid (HV.out.step bf)
                replace HSf := Lib.hid (HSf.out.step bf)
                replace HSq := Lib.hid (HSq.out.step bf)
                replace HN := Lib.hid (HN.out.step bf)
                have HSh := Lib.hid sh
                clear HFI bf r sh
                by_cases z7 : e7 = 0
                · subst z7
                  obtain ⟨hA1, hmA⟩ : A1 = withD X2 ((g' % 4 : Nat) : Int) (blockL (g', e', a', b', c', d', f')) ∧ MayD A1 := by
                    rcases HMC.out X2 with ⟨k, hk, hk0⟩ | ⟨_, _, _, h4, hk⟩
                    · rw [HEA1.out] at hk; exact absurd (Prod.mk.inj hk).2.symm hk0
                    rw [HEA1.out] at hk
                    refine ⟨(Prod.mk.inj hk).1, ?_⟩
                    rw [(Prod.mk.inj hk).1]
                    exact h4
                  obtain ⟨hLA1, rfl⟩ : LA = findL A1 ∧ e8 = 0 := by
                    have := HLA.out
                    rw [findO, if_pos hmA] at this
                    exact ⟨(Prod.mk.inj this).1.symm, (Prod.mk.inj this).2.symm⟩
                  have HEL := Lib.hid (show LA = findL X2 by rw [hLA1, hA1]; exact HAG.out)
                  clear hA1 hmA hLA1 HLA HEA1
                  have hs := lSame_any ah _ kh (LA) af _ kf (findL X2) w11 HSh.out HSf.out
                  rw [decide_eq_true (show LA = findL X2 from HEL.out)] at hs
                  have HSM_ := Lib.hid hs
                  clear hs
                  go_wp2_with fail
                  refine HSM_.out.mono ?_
                  rintro ev w12 ⟨rfl, bz⟩
                  replace HS := Lib.hid (HS.out.below ((bz).mono HB.out.bel.size))
                  replace HB := Lib.hid (HB.out.step bz)
                  replace HX := Lib.hid (HX.out.below bz HX.out.lt)
                  replace HY := Lib.hid (HY.out.below bz HY.out.lt)
                  replace HZ := Lib.hid (HZ.out.step bz)
                  replace HU := Lib.hid (HU.out.step bz)
                  replace HV := Lib.hid (HV.out.step bz)
                  replace HSf := Lib.hid (HSf.out.step bz)
                  replace HSq := Lib.hid (HSq.out.step bz)
                  replace HN := Lib.hid (HN.out.step bz)
                  replace HSh := Lib.hid (HSh.out.step bz)
                  clear HSM_ bz
                  obtain ⟨W1, e9, hpW1⟩ : ∃ X_ k_, writeO X2 at_ s = (X_, k_) := ⟨_, _, rfl⟩
                  have hput := dWrite_any x4 X2 at_ A len cap s w12 HU.out.dsk (HS.out.more HB.out.bel.size)
                  rw [hpW1] at hput
                  simp only [dval] at hput
                  have HPUT := Lib.hid hput
                  have c0 := HU.out.c0
                  have c1 := HU.out.c1
                  clear hput
                  go_wp2_with fail
                  clear c0 c1
                  refine HPUT.out.mono ?_
                  rintro ev w13c ⟨x13, rfl, o3, b3⟩
                  replace HS := Lib.hid (HS.out.below ((b3).mono HB.out.bel.size))
                  replace HB := Lib.hid (HB.out.step b3)
                  replace HX := Lib.hid (HX.out.below b3 HX.out.lt)
                  replace HY := Lib.hid (HY.out.below b3 HY.out.lt)
                  replace HZ := Lib.hid (HZ.out.step b3)
                  replace HU := Lib.hid (HU.out.step b3)
                  replace HV := Lib.hid (HV.out.step b3)
                  replace HSf := Lib.hid (HSf.out.step b3)
                  replace HSq := Lib.hid (HSq.out.step b3)
                  replace HN := Lib.hid (HN.out.step b3)
                  replace HSh := Lib.hid (HSh.out.step b3)
                  have hU := HB.out.put o3.dsk
                  have HGLHWd := Lib.hid (show w.heap.size + 2 < w13c.heap.size from HY.out.lt)
                  have HHBLHWd := Lib.hid HB.out.2.2.2.1
                  have HHULHWd := Lib.hid HU.out.2.2.2.1
                  have HHVLHWd := Lib.hid HV.out.2.2.2.1
                  have HHNLHWd := Lib.hid HN.out.2.2.2.1
                  have ba := alloc_b w13c (.cells #[.slice x13.ba W1.1.length x13.bc, .slice x13.wa W1.2.length x13.wc] 30)
                  clear HPUT b3 o3
                  replace HS := Lib.hid (HS.out.below ((ba).mono HB.out.bel.size))
                  replace HB := Lib.hid (HB.out.step ba)
                  replace HX := Lib.hid (HX.out.below ba HX.out.lt)
                  replace HY := Lib.hid (HY.out.below ba HY.out.lt)
                  replace HZ := Lib.hid (HZ.out.step ba)
                  replace HU := Lib.hid (HU.out.step ba)
                  replace HV := Lib.hid (HV.out.step ba)
                  replace HSf := Lib.hid (HSf.out.step ba)
                  replace HSq := Lib.hid (HSq.out.step ba)
                  replace HN := Lib.hid (HN.out.step ba)
                  replace HSh := Lib.hid (HSh.out.step ba)
                  have HWd := Lib.hid hU
                  clear hU
                  obtain ⟨w13, hwn⟩ : ∃ w, w13c.alloc (.cells #[.slice x13.ba W1.1.length x13.bc, .slice x13.wa W1.2.length x13.wc] 30) = w := ⟨_, rfl⟩
                  obtain ⟨GHWd, hgn⟩ : ∃ g, w13c.heap.size = g := ⟨_, rfl⟩
                  rw [hwn] at HWd HS HB HX HY HZ HU HV HSf HSq HN HSh
                  rw [hgn] at HWd HGLHWd HHBLHWd HHULHWd HHVLHWd HHNLHWd
                  simp only [dval]
                  clear ba
                  rcases writeO_cases X2 at_ s with ⟨k, hk, hk0⟩ | ⟨q, hq, hq6, hmw, hk⟩
                  · obtain ⟨-, rfl⟩ := Prod.mk.inj (hpW1.symm.trans hk)
                    have zb : (e9 == 0) = false := by simpa using hk0
                    clear hpW1 hk
                    go_wp2_with fail
                    go_ret
                    exact ⟨rfl, HB.out.bel⟩
                  · obtain ⟨hW1, rfl⟩ := Prod.mk.inj (hpW1.symm.trans hk)
                    subst hq
                    have HMW := Lib.hid (show MayD W1 by rw [hW1]; exact hmw)
                    have HFW := Lib.hid (fun (h4 : 4 ≤ q) => (show findL W1 = findL X2 by rw [hW1]; exact find_far h4))
                    clear hpW1 hk hmw hW1 hq6
                    by_cases hq4 : q < 4
                    · have zi : (q : Int) < 4 := by omega
                      go_wp2_with fail
                      go_ret
                      exact ⟨rfl, HB.out.bel⟩
                    · have zi : ¬ (q : Int) < 4 := by omega
                      have hfw := HFW.out (by omega)
                      have HF4 := Lib.hid hfw
                      clear hfw hq4 HFW
                      have c0 := HWd.out.c0
                      have c1 := HWd.out.c1
                      have hfi := lFind_any x13 W1 w13 HWd.out.dsk HZ.out
                      rw [findO, if_pos HMW.out] at hfi
                      simp only [dval] at hfi
                      have HFI := Lib.hid hfi
                      clear hfi
                      go_wp2_with fail
                      clear c0 c1 hwn hgn
                      refine HFI.out.mono ?_
                      rintro ev w14 ⟨v, rfl, r, bf⟩
                      obtain ⟨ak, kk, rfl, sk⟩ := r.lbs
                      replace HS := Lib.hid (HS.out.below ((bf).mono HB.out.bel.size))
                      replace HB := Lib.hid (HB.out.step bf)
                      replace HX := Lib.hid (HX.out.below bf HX.out.lt)
                      replace HY := Lib.hid (HY.out.below bf HY.out.lt)
                      replace HZ := Lib.hid (HZ.out.step bf)
                      replace HU := Lib.hid (HU.out.step bf)
                      replace HV := Lib.hid (HV.out.step bf)
                      replace HSf := Lib.hid (HSf.out.step bf)
                      replace HSq := Lib.hid (HSq.out.step bf)
                      replace HN := Lib.hid (HN.out.step bf)
                      replace HSh := Lib.hid (HSh.out.step bf)
                      replace HWd := Lib.hid (HWd.out.step bf)
                      have HSk := Lib.hid sk
                      clear HFI bf r sk
                      have hs := lSame_any ak _ kk (findL W1) af _ kf (findL X2) w14 HSk.out HSf.out
                      rw [decide_eq_true (show findL W1 = findL X2 from HF4.out)] at hs
                      have HSM_ := Lib.hid hs
                      clear hs
                      go_wp2_with fail
                      refine HSM_.out.mono ?_
                      rintro ev w15 ⟨rfl, bz⟩
                      replace HS := Lib.hid (HS.out.below ((bz).mono HB.out.bel.size))
                      replace HB := Lib.hid (HB.out.step bz)
                      replace HX := Lib.hid (HX.out.below bz HX.out.lt)
                      replace HY := Lib.hid (HY.out.below bz HY.out.lt)
                      replace HZ := Lib.hid (HZ.out.step bz)
                      replace HU := Lib.hid (HU.out.step bz)
                      replace HV := Lib.hid (HV.out.step bz)
                      replace HSf := Lib.hid (HSf.out.step bz)
                      replace HSq := Lib.hid (HSq.out.step bz)
                      replace HN := Lib.hid (HN.out.step bz)
                      replace HSh := Lib.hid (HSh.out.step bz)
                      replace HWd := Lib.hid (HWd.out.step bz)
                      replace HSk := Lib.hid (HSk.out.step bz)
                      clear HSM_ bz
                      go_wp2_with fail
                      go_ret
                      exact ⟨rfl, HB.out.bel⟩
                · have zb : (e7 == 0) = false := by simpa using z7
                  clear HLA HEA1
                  obtain ⟨W1, e9, hpW1⟩ : ∃ X_ k_, writeO X2 at_ s = (X_, k_) := ⟨_, _, rfl⟩
                  have hput := dWrite_any x4 X2 at_ A len cap s w11 HU.out.dsk (HS.out.more HB.out.bel.size)
                  rw [hpW1] at hput
                  simp only [dval] at hput
                  have HPUT := Lib.hid hput
                  have c0 := HU.out.c0
                  have c1 := HU.out.c1
                  clear hput
                  go_wp2_with fail
                  clear c0 c1
                  refine HPUT.out.mono ?_
                  rintro ev w13c ⟨x13, rfl, o3, b3⟩
                  replace HS := Lib.hid (HS.out.below ((b3).mono HB.out.bel.size))
                  replace HB := Lib.hid (HB.out.step b3)
                  replace HX := Lib.hid (HX.out.below b3 HX.out.lt)
                  replace HY := Lib.hid (HY.out.below b3 HY.out.lt)
                  replace HZ := Lib.hid (HZ.out.step b3)
                  replace HU := Lib.hid (HU.out.step b3)
                  replace HV := Lib.hid (HV.out.step b3)
                  replace HSf := Lib.hid (HSf.out.step b3)
                  replace HSq := Lib.hid (HSq.out.step b3)
                  replace HN := Lib.hid (HN.out.step b3)
                  replace HSh := Lib.hid (HSh.out.step b3)
                  have hU := HB.out.put o3.dsk
                  have HGLHWd := Lib.hid (show w.heap.size + 2 < w13c.heap.size from HY.out.lt)
                  have HHBLHWd := Lib.hid HB.out.2.2.2.1
                  have HHULHWd := Lib.hid HU.out.2.2.2.1
                  have HHVLHWd := Lib.hid HV.out.2.2.2.1
                  have HHNLHWd := Lib.hid HN.out.2.2.2.1
                  have ba := alloc_b w13c (.cells #[.slice x13.ba W1.1.length x13.bc, .slice x13.wa W1.2.length x13.wc] 30)
                  clear HPUT b3 o3
                  replace HS := Lib.hid (HS.out.below ((ba).mono HB.out.bel.size))
                  replace HB := Lib.hid (HB.out.step ba)
                  replace HX := Lib.hid (HX.out.below ba HX.out.lt)
                  replace HY := Lib.hid (HY.out.below ba HY.out.lt)
                  replace HZ := Lib.hid (HZ.out.step ba)
                  replace HU := Lib.hid (HU.out.step ba)
                  replace HV := Lib.hid (HV.out.step ba)
                  replace HSf := Lib.hid (HSf.out.step ba)
                  replace HSq := Lib.hid (HSq.out.step ba)
                  replace HN := Lib.hid (HN.out.step ba)
                  replace HSh := Lib.hid (HSh.out.step ba)
                  have HWd := Lib.hid hU
                  clear hU
                  obtain ⟨w13, hwn⟩ : ∃ w, w13c.alloc (.cells #[.slice x13.ba W1.1.length x13.bc, .slice x13.wa W1.2.length x13.wc] 30) = w := ⟨_, rfl⟩
                  obtain ⟨GHWd, hgn⟩ : ∃ g, w13c.heap.size = g := ⟨_, rfl⟩
                  rw [hwn] at HWd HS HB HX HY HZ HU HV HSf HSq HN HSh
                  rw [hgn] at HWd HGLHWd HHBLHWd HHULHWd HHVLHWd HHNLHWd
                  simp only [dval]
                  clear ba
                  rcases writeO_cases X2 at_ s with ⟨k, hk, hk0⟩ | ⟨q, hq, hq6, hmw, hk⟩
                  · obtain ⟨-, rfl⟩ := Prod.mk.inj (hpW1.symm.trans hk)
                    have zb : (e9 == 0) = false := by simpa using hk0
                    clear hpW1 hk
                    go_wp2_with fail
                    go_ret
                    exact ⟨rfl, HB.out.bel⟩
                  · obtain ⟨hW1, rfl⟩ := Prod.mk.inj (hpW1.symm.trans hk)
                    subst hq
                    have HMW := Lib.hid (show MayD W1 by rw [hW1]; exact hmw)
                    have HFW := Lib.hid (fun (h4 : 4 ≤ q) => (show findL W1 = findL X2 by rw [hW1]; exact find_far h4))
                    clear hpW1 hk hmw hW1 hq6
                    by_cases hq4 : q < 4
                    · have zi : (q : Int) < 4 := by omega
                      go_wp2_with fail
                      go_ret
                      exact ⟨rfl, HB.out.bel⟩
                    · have zi : ¬ (q : Int) < 4 := by omega
                      have hfw := HFW.out (by omega)
                      have HF4 := Lib.hid hfw
                      clear hfw hq4 HFW
                      have c0 := HWd.out.c0
                      have c1 := HWd.out.c1
                      have hfi := lFind_any x13 W1 w13 HWd.out.dsk HZ.out
                      rw [findO, if_pos HMW.out] at hfi
                      simp only [dval] at hfi
                      have HFI := Lib.hid hfi
                      clear hfi
                      go_wp2_with fail
                      clear c0 c1 hwn hgn
                      refine HFI.out.mono ?_
                      rintro ev w14 ⟨v, rfl, r, bf⟩
                      obtain ⟨ak, kk, rfl, sk⟩ := r.lbs
                      replace HS := Lib.hid (HS.out.below ((bf).mono HB.out.bel.size))
                      replace HB := Lib.hid (HB.out.step bf)
                      replace HX := Lib.hid (HX.out.below bf HX.out.lt)
                      replace HY := Lib.hid (HY.out.below bf HY.out.lt)
                      replace HZ := Lib.hid (HZ.out.step bf)
                      replace HU := Lib.hid (HU.out.step bf)
                      replace HV := Lib.hid (HV.out.step bf)
                      replace HSf := Lib.hid (HSf.out.step bf)
                      replace HSq := Lib.hid (HSq.out.step bf)
                      replace HN := Lib.hid (HN.out.step bf)
                      replace HSh := Lib.hid (HSh.out.step bf)
                      replace HWd := Lib.hid (HWd.out.step bf)
                      have HSk := Lib.hid sk
                      clear HFI bf r sk
                      have hs := lSame_any ak _ kk (findL W1) af _ kf (findL X2) w14 HSk.out HSf.out
                      rw [decide_eq_true (show findL W1 = findL X2 from HF4.out)] at hs
                      have HSM_ := Lib.hid hs
                      clear hs
                      go_wp2_with fail
                      refine HSM_.out.mono ?_
                      rintro ev w15 ⟨rfl, bz⟩
                      replace HS := Lib.hid (HS.out.below ((bz).mono HB.out.bel.size))
                      replace HB := Lib.hid (HB.out.step bz)
                      replace HX := Lib.hid (HX.out.below bz HX.out.lt)
                      replace HY := Lib.hid (HY.out.below bz HY.out.lt)
                      replace HZ := Lib.hid (HZ.out.step bz)
                      replace HU := Lib.hid (HU.out.step bz)
                      replace HV := Lib.hid (HV.out.step bz)
                      replace HSf := Lib.hid (HSf.out.step bz)
                      replace HSq := Lib.hid (HSq.out.step bz)
                      replace HN := Lib.hid (HN.out.step bz)
                      replace HSh := Lib.hid (HSh.out.step bz)
                      replace HWd := Lib.hid (HWd.out.step bz)
                      replace HSk := Lib.hid (HSk.out.step bz)
                      clear HSM_ bz
                      go_wp2_with fail
                      go_ret
                      exact ⟨rfl, HB.out.bel⟩
              · have hnb : (s1 != s2) = false := by simp; omega
                clear hs1 hs2
                go_wp2_with fail
                obtain ⟨wd, hwd⟩ : ∃ wd, w8.drew = wd := ⟨_, rfl⟩
                have bd : Below w8.heap.size w8 wd := by rw [← hwd]; exact (Below.refl _ _).drew
                replace HS := Lib.hid (HS.out.below ((bd).mono HB.out.bel.size))
                replace HB := Lib.hid (HB.out.step bd)
                replace HX := Lib.hid (HX.out.below bd HX.out.lt)
                replace HY := Lib.hid (HY.out.below bd HY.out.lt)
                replace HZ := Lib.hid (HZ.out.step bd)
                replace HU := Lib.hid (HU.out.step bd)
                replace HV := Lib.hid (HV.out.step bd)
                replace HSf := Lib.hid (HSf.out.step bd)
                replace HSq := Lib.hid (HSq.out.step bd)
                have C1 := fun X (hX : Below wd.heap.size wd X) => (HX.out.below hX HX.out.lt).seven
                have C2 := fun X (hX : Below wd.heap.size wd X) => (HY.out.below hX HY.out.lt).seven
                have hbwd : Below wd.heap.size wd wd := Below.refl _ _
                clear bd
                refine wpI_start (Below wd.heap.size wd) [0, 1, 3, 4, 2, 5, 6, 7, 8, 9, 10, 11, 12] hmx rfl hwd ?_
                clear hwd
                iterate 4 (
                  refine wpI_read (v := ?_) hbwd rfl (by kernel_rfl) (by kernel_rfl) (by kernel_rfl) (fun _ _ _ h => h) (.inl ⟨by rfl, ?_⟩) ?_
                  rotate_left
                  · intro X hX
                    obtain ⟨p0_, p1_, p2_, p3_, p4_, p5_, p6_⟩ := C1 X hX
                    obtain ⟨q0_, q1_, q2_, q3_, q4_, q5_, q6_⟩ := C2 X hX
                    clear hX
                    go_simp
                    with_reducible rfl
                  try simp only [Act.put, List.setIfInBounds_toArray, List.set_cons_zero, List.set_cons_succ])
                clear C1 C2
                refine wpI_lone rfl (by kernel_rfl) (fun K hK => ?_)
                go_simp
                refine (HSL.out wd).mono ?_
                rintro ev wx ⟨rfl, rfl⟩
                refine hK _ _ hbwd ?_
                clear hK K
                try simp only [Act.put, List.setIfInBounds_toArray, List.set_cons_zero, List.set_cons_succ]
                refine wpI_lone rfl (by kernel_rfl) (fun K hK => ?_)
                go_simp
                refine (HSM.out wd).mono ?_
                rintro ev wx ⟨rfl, rfl⟩
                refine hK _ _ hbwd ?_
                clear hK K
                try simp only [Act.put, List.setIfInBounds_toArray, List.set_cons_zero, List.set_cons_succ]
                iterate 2 (
                  refine wpI_read (v := ?_) hbwd rfl (by kernel_rfl) (by kernel_rfl) (by kernel_rfl) (fun _ _ _ h => h) (.inl ⟨by rfl, ?_⟩) ?_
                  rotate_left
                  · intro X hX
                    clear hX
                    go_simp
                    with_reducible rfl
                  try simp only [Act.put, List.setIfInBounds_toArray, List.set_cons_zero, List.set_cons_succ])
                iterate 4 (
                  refine wpI_read (v := undef) hbwd rfl (by kernel_rfl) (by kernel_rfl) (by kernel_rfl) (fun _ _ _ h => h) (.inr ⟨by rfl, rfl⟩) ?_
                  try simp only [Act.put, List.setIfInBounds_toArray, List.set_cons_zero, List.set_cons_succ])
                iterate 1 (
                  refine wpI_read (v := ?_) hbwd rfl (by kernel_rfl) (by kernel_rfl) (by kernel_rfl) (fun _ _ _ h => h) (.inl ⟨by rfl, ?_⟩) ?_
                  rotate_left
                  · intro X hX
                    clear hX
                    go_simp
                    with_reducible rfl
                  try simp only [Act.put, List.setIfInBounds_toArray, List.set_cons_zero, List.set_cons_succ])
                refine wpI_done (by kernel_rfl) ?_
                clear hbwd
                obtain ⟨A1, e7, hpA1⟩ : ∃ X_ k_, putO X2 (g', e', a', b', c', d', f') = (X_, k_) := ⟨_, _, rfl⟩
                have hput := HPM.out wd x4 X2 HU.out.dsk HZ.out
                rw [hpA1] at hput
                simp only [dval] at hput
                have HPUT := Lib.hid hput
                have HEA1 := Lib.hid hpA1
                have c0 := HU.out.c0
                have c1 := HU.out.c1
                obtain ⟨p0_, p1_, p2_, p3_, p4_, p5_, p6_⟩ := HY.out.seven
                clear hput hpA1
                go_wp2_with fail
                clear c0 c1 p0_ p1_ p2_ p3_ p4_ p5_ p6_
                refine HPUT.out.mono ?_
                rintro ev w10c ⟨x10, rfl, o3, b3⟩
                replace HS := Lib.hid (HS.out.below ((b3).mono HB.out.bel.size))
                replace HB := Lib.hid (HB.out.step b3)
                replace HX := Lib.hid (HX.out.below b3 HX.out.lt)
                replace HY := Lib.hid (HY.out.below b3 HY.out.lt)
                replace HZ := Lib.hid (HZ.out.step b3)
                replace HU := Lib.hid (HU.out.step b3)
                replace HV := Lib.hid (HV.out.step b3)
                replace HSf := Lib.hid (HSf.out.step b3)
                replace HSq := Lib.hid (HSq.out.step b3)
                have hU := HB.out.put o3.dsk
                have HGLHN := Lib.hid (show w.heap.size + 2 < w10c.heap.size from HY.out.lt)
                have HHBLHN := Lib.hid HB.out.2.2.2.1
                have HHULHN := Lib.hid HU.out.2.2.2.1
                have HHVLHN := Lib.hid HV.out.2.2.2.1
                have ba := alloc_b w10c (.cells #[.slice x10.ba A1.1.length x10.bc, .slice x10.wa A1.2.length x10.wc] 30)
                clear HPUT b3 o3
                replace HS := Lib.hid (HS.out.below ((ba).mono HB.out.bel.size))
                replace HB := Lib.hid (HB.out.step ba)
                replace HX := Lib.hid (HX.out.below ba HX.out.lt)
                replace HY := Lib.hid (HY.out.below ba HY.out.lt)
                replace HZ := Lib.hid (HZ.out.step ba)
                replace HU := Lib.hid (HU.out.step ba)
                replace HV := Lib.hid (HV.out.step ba)
                replace HSf := Lib.hid (HSf.out.step ba)
                replace HSq := Lib.hid (HSq.out.step ba)
                have HN := Lib.hid hU
                clear hU
                obtain ⟨w10, hwn⟩ : ∃ w, w10c.alloc (.cells #[.slice x10.ba A1.1.length x10.bc, .slice x10.wa A1.2.length x10.wc] 30) = w := ⟨_, rfl⟩
                obtain ⟨GHN, hgn⟩ : ∃ g, w10c.heap.size = g := ⟨_, rfl⟩
                rw [hwn] at HN HS HB HX HY HZ HU HV HSf HSq
                rw [hgn] at HN HGLHN HHBLHN HHULHN HHVLHN
                simp only [dval]
                clear ba
                obtain ⟨LA, e8, hLA⟩ : ∃ L_ k_, findO A1 = (L_, k_) := ⟨_, _, rfl⟩
                have hfi := lFind_any x10 A1 w10 HN.out.dsk HZ.out
                rw [hLA] at hfi
                simp only [dval] at hfi
                have HFI := Lib.hid hfi
                have HLA := Lib.hid hLA
                have c0 := HN.out.c0
                have c1 := HN.out.c1
                clear hfi hLA
                go_wp2_with fail
                clear c0 c1 hwn hgn
                refine HFI.out.mono ?_
                rintro ev w11 ⟨v, rfl, r, bf⟩
                obtain ⟨ah, kh, rfl, sh⟩ := r.lbs
                replace HS := Lib.hid (HS.out.below ((bf).mono HB.out.bel.size))
                replace HB := Lib.hid (HB.out.step bf)
                replace HX := Lib.hid (HX.out.below bf HX.out.lt)
                replace HY := Lib.hid (HY.out.below bf HY.out.lt)
                replace HZ := Lib.hid (HZ.out.step bf)
                replace HU := Lib.hid (HU.out.step bf)
                replace HV := Lib.hid (HV.out.step bf)
                replace HSf := Lib.hid (HSf.out.step bf)
                replace HSq := Lib.hid (HSq.out.step bf)
                replace HN := Lib.hid (HN.out.step bf)
                have HSh := Lib.hid sh
                clear HFI bf r sh
                by_cases z7 : e7 = 0
                · subst z7
                  obtain ⟨hA1, hmA⟩ : A1 = withD X2 ((g' % 4 : Nat) : Int) (blockL (g', e', a', b', c', d', f')) ∧ MayD A1 := by
                    rcases HMC.out X2 with ⟨k, hk, hk0⟩ | ⟨_, _, _, h4, hk⟩
                    · rw [HEA1.out] at hk; exact absurd (Prod.mk.inj hk).2.symm hk0
                    rw [HEA1.out] at hk
                    refine ⟨(Prod.mk.inj hk).1, ?_⟩
                    rw [(Prod.mk.inj hk).1]
                    exact h4
                  obtain ⟨hLA1, rfl⟩ : LA = findL A1 ∧ e8 = 0 := by
                    have := HLA.out
                    rw [findO, if_pos hmA] at this
                    exact ⟨(Prod.mk.inj this).1.symm, (Prod.mk.inj this).2.symm⟩
                  have HEL := Lib.hid (show LA = findL X2 by rw [hLA1, hA1]; exact HAG.out)
                  clear hA1 hmA hLA1 HLA HEA1
                  have hs := lSame_any ah _ kh (LA) af _ kf (findL X2) w11 HSh.out HSf.out
                  rw [decide_eq_true (show LA = findL X2 from HEL.out)] at hs
                  have HSM_ := Lib.hid hs
                  clear hs
                  go_wp2_with fail
                  refine HSM_.out.mono ?_
                  rintro ev w12 ⟨rfl, bz⟩
                  replace HS := Lib.hid (HS.out.below ((bz).mono HB.out.bel.size))
                  replace HB := Lib.hid (HB.out.step bz)
                  replace HX := Lib.hid (HX.out.below bz HX.out.lt)
                  replace HY := Lib.hid (HY.out.below bz HY.out.lt)
                  replace HZ := Lib.hid (HZ.out.step bz)
                  replace HU := Lib.hid (HU.out.step bz)
                  replace HV := Lib.hid (HV.out.step bz)
                  replace HSf := Lib.hid (HSf.out.step bz)
                  replace HSq := Lib.hid (HSq.out.step bz)
                  replace HN := Lib.hid (HN.out.step bz)
                  replace HSh := Lib.hid (HSh.out.step bz)
                  clear HSM_ bz
                  obtain ⟨W1, e9, hpW1⟩ : ∃ X_ k_, writeO X2 at_ s = (X_, k_) := ⟨_, _, rfl⟩
                  have hput := dWrite_any x4 X2 at_ A len cap s w12 HU.out.dsk (HS.out.more HB.out.bel.size)
                  rw [hpW1] at hput
                  simp only [dval] at hput
                  have HPUT := Lib.hid hput
                  have c0 := HU.out.c0
                  have c1 := HU.out.c1
                  clear hput
                  go_wp2_with fail
                  clear c0 c1
                  refine HPUT.out.mono ?_
                  rintro ev w13c ⟨x13, rfl, o3, b3⟩
                  replace HS := Lib.hid (HS.out.below ((b3).mono HB.out.bel.size))
                  replace HB := Lib.hid (HB.out.step b3)
                  replace HX := Lib.hid (HX.out.below b3 HX.out.lt)
                  replace HY := Lib.hid (HY.out.below b3 HY.out.lt)
                  replace HZ := Lib.hid (HZ.out.step b3)
                  replace HU := Lib.hid (HU.out.step b3)
                  replace HV := Lib.hid (HV.out.step b3)
                  replace HSf := Lib.hid (HSf.out.step b3)
                  replace HSq := Lib.hid (HSq.out.step b3)
                  replace HN := Lib.hid (HN.out.step b3)
                  replace HSh := Lib.hid (HSh.out.step b3)
                  have hU := HB.out.put o3.dsk
                  have HGLHWd := Lib.hid (show w.heap.size + 2 < w13c.heap.size from HY.out.lt)
                  have HHBLHWd := Lib.hid HB.out.2.2.2.1
                  have HHULHWd := Lib.hid HU.out.2.2.2.1
                  have HHVLHWd := Lib.hid HV.out.2.2.2.1
                  have HHNLHWd := Lib.hid HN.out.2.2.2.1
                  have ba := alloc_b w13c (.cells #[.slice x13.ba W1.1.length x13.bc, .slice x13.wa W1.2.length x13.wc] 30)
                  clear HPUT b3 o3
                  replace HS := Lib.hid (HS.out.below ((ba).mono HB.out.bel.size))
                  replace HB := Lib.hid (HB.out.step ba)
                  replace HX := Lib.hid (HX.out.below ba HX.out.lt)
                  replace HY := Lib.hid (HY.out.below ba HY.out.lt)
                  replace HZ := Lib.hid (HZ.out.step ba)
                  replace HU := Lib.hid (HU.out.step ba)
                  replace HV := Lib.hid (HV.out.step ba)
                  replace HSf := Lib.hid (HSf.out.step ba)
                  replace HSq := Lib.hid (HSq.out.step ba)
                  replace HN := Lib.hid (HN.out.step ba)
                  replace HSh := Lib.hid (HSh.out.step ba)
                  have HWd := Lib.hid hU
                  clear hU
                  obtain ⟨w13, hwn⟩ : ∃ w, w13c.alloc (.cells #[.slice x13.ba W1.1.length x13.bc, .slice x13.wa W1.2.length x13.wc] 30) = w := ⟨_, rfl⟩
                  obtain ⟨GHWd, hgn⟩ : ∃ g, w13c.heap.size = g := ⟨_, rfl⟩
                  rw [hwn] at HWd HS HB HX HY HZ HU HV HSf HSq HN HSh
                  rw [hgn] at HWd HGLHWd HHBLHWd HHULHWd HHVLHWd HHNLHWd
                  simp only [dval]
                  clear ba
                  rcases writeO_cases X2 at_ s with ⟨k, hk, hk0⟩ | ⟨q, hq, hq6, hmw, hk⟩
                  · obtain ⟨-, rfl⟩ := Prod.mk.inj (hpW1.symm.trans hk)
                    have zb : (e9 == 0) = false := by simpa using hk0
                    clear hpW1 hk
                    go_wp2_with fail
                    go_ret
                    exact ⟨rfl, HB.out.bel⟩
                  · obtain ⟨hW1, rfl⟩ := Prod.mk.inj (hpW1.symm.trans hk)
                    subst hq
                    have HMW := Lib.hid (show MayD W1 by rw [hW1]; exact hmw)
                    have HFW := Lib.hid (fun (h4 : 4 ≤ q) => (show findL W1 = findL X2 by rw [hW1]; exact find_far h4))
                    clear hpW1 hk hmw hW1 hq6
                    by_cases hq4 : q < 4
                    · have zi : (q : Int) < 4 := by omega
                      go_wp2_with fail
                      go_ret
                      exact ⟨rfl, HB.out.bel⟩
                    · have zi : ¬ (q : Int) < 4 := by omega
                      have hfw := HFW.out (by omega)
                      have HF4 := Lib.hid hfw
                      clear hfw hq4 HFW
                      have c0 := HWd.out.c0
                      have c1 := HWd.out.c1
                      have hfi := lFind_any x13 W1 w13 HWd.out.dsk HZ.out
                      rw [findO, if_pos HMW.out] at hfi
                      simp only [dval] at hfi
                      have HFI := Lib.hid hfi
                      clear hfi
                      go_wp2_with fail
                      clear c0 c1 hwn hgn
                      refine HFI.out.mono ?_
                      rintro ev w14 ⟨v, rfl, r, bf⟩
                      obtain ⟨ak, kk, rfl, sk⟩ := r.lbs
                      replace HS := Lib.hid (HS.out.below ((bf).mono HB.out.bel.size))
                      replace HB := Lib.hid (HB.out.step bf)
                      replace HX := Lib.hid (HX.out.below bf HX.out.lt)
                      replace HY := Lib.hid (HY.out.below bf HY.out.lt)
                      replace HZ := Lib.hid (HZ.out.step bf)
                      replace HU := Lib.hid (HU.out.step bf)
                      replace HV := Lib.hid (HV.out.step bf)
                      replace HSf := Lib.hid (HSf.out.step bf)
                      replace HSq := Lib.hid (HSq.out.step bf)
                      replace HN := Lib.hid (HN.out.step bf)
                      replace HSh := Lib.hid (HSh.out.step bf)
                      replace HWd := Lib.hid (HWd.out.step bf)
                      have HSk := Lib.hid sk
                      clear HFI bf r sk
                      have hs := lSame_any ak _ kk (findL W1) af _ kf (findL X2) w14 HSk.out HSf.out
                      rw [decide_eq_true (show findL W1 = findL X2 from HF4.out)] at hs
                      have HSM_ := Lib.hid hs
                      clear hs
                      go_wp2_with fail
                      refine HSM_.out.mono ?_
                      rintro ev w15 ⟨rfl, bz⟩
                      replace HS := Lib.hid (HS.out.below ((bz).mono HB.out.bel.size))
                      replace HB := Lib.hid (HB.out.step bz)
                      replace HX := Lib.hid (HX.out.below bz HX.out.lt)
                      replace HY := Lib.hid (HY.out.below bz HY.out.lt)
                      replace HZ := Lib.hid (HZ.out.step bz)
                      replace HU := Lib.hid (HU.out.step bz)
                      replace HV := Lib.hid (HV.out.step bz)
                      replace HSf := Lib.hid (HSf.out.step bz)
                      replace HSq := Lib.hid (HSq.out.step bz)
                      replace HN := Lib.hid (HN.out.step bz)
                      replace HSh := Lib.hid (HSh.out.step bz)
                      replace HWd := Lib.hid (HWd.out.step bz)
                      replace HSk := Lib.hid (HSk.out.step bz)
                      clear HSM_ bz
                      go_wp2_with fail
                      go_ret
                      exact ⟨rfl, HB.out.bel⟩
                · have zb : (e7 == 0) = false := by simpa using z7
                  clear HLA HEA1
                  obtain ⟨W1, e9, hpW1⟩ : ∃ X_ k_, writeO X2 at_ s = (X_, k_) := ⟨_, _, rfl⟩
                  have hput := dWrite_any x4 X2 at_ A len cap s w11 HU.out.dsk (HS.out.more HB.out.bel.size)
                  rw [hpW1] at hput
                  simp only [dval] at hput
                  have HPUT := Lib.hid hput
                  have c0 := HU.out.c0
                  have c1 := HU.out.c1
                  clear hput
                  go_wp2_with fail
                  clear c0 c1
                  refine HPUT.out.mono ?_
                  rintro ev w13c ⟨x13, rfl, o3, b3⟩
                  replace HS := Lib.hid (HS.out.below ((b3).mono HB.out.bel.size))
                  replace HB := Lib.hid (HB.out.step b3)
                  replace HX := Lib.hid (HX.out.below b3 HX.out.lt)
                  replace HY := Lib.hid (HY.out.below b3 HY.out.lt)
                  replace HZ := Lib.hid (HZ.out.step b3)
                  replace HU := Lib.hid (HU.out.step b3)
                  replace HV := Lib.hid (HV.out.step b3)
                  replace HSf := Lib.hid (HSf.out.step b3)
                  replace HSq := Lib.hid (HSq.out.step b3)
                  replace HN := Lib.hid (HN.out.step b3)
                  replace HSh := Lib.hid (HSh.out.step b3)
                  have hU := HB.out.put o3.dsk
                  have HGLHWd := Lib.hid (show w.heap.size + 2 < w13c.heap.size from HY.out.lt)
                  have HHBLHWd := Lib.hid HB.out.2.2.2.1
                  have HHULHWd := Lib.hid HU.out.2.2.2.1
                  have HHVLHWd := Lib.hid HV.out.2.2.2.1
                  have HHNLHWd := Lib.hid HN.out.2.2.2.1
                  have ba := alloc_b w13c (.cells #[.slice x13.ba W1.1.length x13.bc, .slice x13.wa W1.2.length x13.wc] 30)
                  clear HPUT b3 o3
                  replace HS := Lib.hid (HS.out.below ((ba).mono HB.out.bel.size))
                  replace HB := Lib.hid (HB.out.step ba)
                  replace HX := Lib.hid (HX.out.below ba HX.out.lt)
                  replace HY := Lib.hid (HY.out.below ba HY.out.lt)
                  replace HZ := Lib.hid (HZ.out.step ba)
                  replace HU := Lib.hid (HU.out.step ba)
                  replace HV := Lib.hid (HV.out.step ba)
                  replace HSf := Lib.hid (HSf.out.step ba)
                  replace HSq := Lib.hid (HSq.out.step ba)
                  replace HN := Lib.hid (HN.out.step ba)
                  replace HSh := Lib.hid (HSh.out.step ba)
                  have HWd := Lib.hid hU
                  clear hU
                  obtain ⟨w13, hwn⟩ : ∃ w, w13c.alloc (.cells #[.slice x13.ba W1.1.length x13.bc, .slice x13.wa W1.2.length x13.wc] 30) = w := ⟨_, rfl⟩
                  obtain ⟨GHWd, hgn⟩ : ∃ g, w13c.heap.size = g := ⟨_, rfl⟩
                  rw [hwn] at HWd HS HB HX HY HZ HU HV HSf HSq HN HSh
                  rw [hgn] at HWd HGLHWd HHBLHWd HHULHWd HHVLHWd HHNLHWd
                  simp only [dval]
                  clear ba
                  rcases writeO_cases X2 at_ s with ⟨k, hk, hk0⟩ | ⟨q, hq, hq6, hmw, hk⟩
                  · obtain ⟨-, rfl⟩ := Prod.mk.inj (hpW1.symm.trans hk)
                    have zb : (e9 == 0) = false := by simpa using hk0
                    clear hpW1 hk
                    go_wp2_with fail
                    go_ret
                    exact ⟨rfl, HB.out.bel⟩
                  · obtain ⟨hW1, rfl⟩ := Prod.mk.inj (hpW1.symm.trans hk)
                    subst hq
                    have HMW := Lib.hid (show MayD W1 by rw [hW1]; exact hmw)
                    have HFW := Lib.hid (fun (h4 : 4 ≤ q) => (show findL W1 = findL X2 by rw [hW1]; exact find_far h4))
                    clear hpW1 hk hmw hW1 hq6
                    by_cases hq4 : q < 4
                    · have zi : (q : Int) < 4 := by omega
                      go_wp2_with fail
                      go_ret
                      exact ⟨rfl, HB.out.bel⟩
                    · have zi : ¬ (q : Int) < 4 := by omega
                      have hfw := HFW.out (by omega)
                      have HF4 := Lib.hid hfw
                      clear hfw hq4 HFW
                      have c0 := HWd.out.c0
                      have c1 := HWd.out.c1
                      have hfi := lFind_any x13 W1 w13 HWd.out.dsk HZ.out
                      rw [findO, if_pos HMW.out] at hfi
                      simp only [dval] at hfi
                      have HFI := Lib.hid hfi
                      clear hfi
                      go_wp2_with fail
                      clear c0 c1 hwn hgn
                      refine HFI.out.mono ?_
                      rintro ev w14 ⟨v, rfl, r, bf⟩
                      obtain ⟨ak, kk, rfl, sk⟩ := r.lbs
                      replace HS := Lib.hid (HS.out.below ((bf).mono HB.out.bel.size))
                      replace HB := Lib.hid (HB.out.step bf)
                      replace HX := Lib.hid (HX.out.below bf HX.out.lt)
                      replace HY := Lib.hid (HY.out.below bf HY.out.lt)
                      replace HZ := Lib.hid (HZ.out.step bf)
                      replace HU := Lib.hid (HU.out.step bf)
                      replace HV := Lib.hid (HV.out.step bf)
                      replace HSf := Lib.hid (HSf.out.step bf)
                      replace HSq := Lib.hid (HSq.out.step bf)
                      replace HN := Lib.hid (HN.out.step bf)
                      replace HSh := Lib.hid (HSh.out.step bf)
                      replace HWd := Lib.hid (HWd.out.step bf)
                      have HSk := Lib.hid sk
                      clear HFI bf r sk
                      have hs := lSame_any ak _ kk (findL W1) af _ kf (findL X2) w14 HSk.out HSf.out
                      rw [decide_eq_true (show findL W1 = findL X2 from HF4.out)] at hs
                      have HSM_ := Lib.hid hs
                      clear hs
                      go_wp2_with fail
                      refine HSM_.out.mono ?_
                      rintro ev w15 ⟨rfl, bz⟩
                      replace HS := Lib.hid (HS.out.below ((bz).mono HB.out.bel.size))
                      replace HB := Lib.hid (HB.out.step bz)
                      replace HX := Lib.hid (HX.out.below bz HX.out.lt)
                      replace HY := Lib.hid (HY.out.below bz HY.out.lt)
                      replace HZ := Lib.hid (HZ.out.step bz)
                      replace HU := Lib.hid (HU.out.step bz)
                      replace HV := Lib.hid (HV.out.step bz)
                      replace HSf := Lib.hid (HSf.out.step bz)
                      replace HSq := Lib.hid (HSq.out.step bz)
                      replace HN := Lib.hid (HN.out.step bz)
                      replace HSh := Lib.hid (HSh.out.step bz)
                      replace HWd := Lib.hid (HWd.out.step bz)
                      replace HSk := Lib.hid (HSk.out.step bz)
                      clear HSM_ bz
                      go_wp2_with fail
                      go_ret
                      exact ⟨rfl, HB.out.bel⟩
            · have zb : (e4 == 0) = false := by simpa using z4
              subst z1; subst z2; subst z3
              go_wp2_with fail
              go_ret
              exact ⟨rfl, HB.out.bel⟩
          · have zb : (e3 == 0) = false := by simpa using z3
            subst z1; subst z2
            go_wp2_with fail
            go_ret
            exact ⟨rfl, HB.out.bel⟩
        · have zb : (e2 == 0) = false := by simpa using z2
          subst z1
          go_wp2_with fail
          go_ret
          exact ⟨rfl, HB.out.bel⟩
      · have zb : (e1 == 0) = false := by simpa using z1
        go_wp2_with fail
        go_ret
        exact ⟨rfl, HB.out.bel⟩
end Go.Proofs.YtldnelimemjaiaaDoor
namespace Go.Proofs.YtldnelimemjaiaaDoor.labelApart
open Go.ChangeShapes Go.WideShapes Go.ChangeAt Go.RowKit
set_option linter.unusedVariables false

theorem own : ownKnob Tryd.prog.godebug = none := by kernel_rfl
theorem laidOut : laidOutB Tryd.prog = true := by kernel_rfl

set_option maxRecDepth 100000 in
theorem lifted (os : Os) (started : os.Started) (H : Type) (enc : TypeId × Value → H) :
    ReturnsInHanded {} Tryd.checked os 5 .any (fun w args => (Rows.labelApartSpec.pre enc Tryd.prog Tryd.f5 [] false w args ∧ laidMetH Tryd.prog [("charterhouse/ptr.sizes", Rows.laid_charterhouse_ptr_sizes)] w) ∧ sizedMet enc Tryd.prog Tryd.f5 (OpenSpec.ofChange Rows.labelApartSpec) false w args)
      (Rows.labelApartSpec.post enc Tryd.prog Tryd.f5 false true false false) := by
  refine returnsInHanded_of_change_and (C := Tryd.checked) (X := fun w _ => laidMetH Tryd.prog [("charterhouse/ptr.sizes", Rows.laid_charterhouse_ptr_sizes)] w) (fun _ _ _ hh h => h.of_heap hh) own started (by kernel_rfl) Tryd.func5
    (ChangeSpec.witness_shaped (enc := enc) (C := Tryd.checked) (os := os) (X := fun w _ => laidMetH Tryd.prog [("charterhouse/ptr.sizes", Rows.laid_charterhouse_ptr_sizes)] w) false (World.doorLaid Tryd.prog 400 os) #[.agg #[.slice none 0 0, .slice none 0 0], .agg #[.int .u32 0, .int .u32 0, .int .i64 0, .int .u32 0, .int .u32 0, .int .u32 0, .int .u32 0], .agg #[.int .u32 0, .int .u32 0, .int .i64 0, .int .u32 0, .int .u32 0, .int .u32 0, .int .u32 0], .int .i64 0, .slice none 0 0] 8 rfl (World.shaped_of_RefB (by kernel_rfl) (by kernel_rfl)) (by kernel_rfl) (by kernel_rfl) (by kernel_rfl) (door_met os _)) ?_
  intro W base args ds gs before hval0 hW _ hsz hL _
  have hval : ∀ (j : Nat) t v, Tryd.f5.params[j]? = some t → args[j]? = some v → Value.okWide Tryd.prog W .any base t v := hval0
  have hW' := hW
  obtain ⟨p, q, hA0, hV, rfl, hfz, hnd⟩ := hW
  have hA : DataW.TrodAll enc Tryd.prog W 0 (fun _ => true) true Tryd.f5.params.toList args.toList ds p := hA0
  rw [Tryd.params5] at hA hval
  obtain ⟨v0, vs0, d0, ds0, p0, q0, hargs, rfl, rfl, h0, r0⟩ := trodAll_cons hA
  obtain ⟨v1, vs1, d1, ds1, p1, q1, rfl, rfl, rfl, h1, r1⟩ := trodAll_cons r0
  obtain ⟨v2, vs2, d2, ds2, p2, q2, rfl, rfl, rfl, h2, r2⟩ := trodAll_cons r1
  obtain ⟨v3, vs3, d3, ds3, p3, q3, rfl, rfl, rfl, h3, r3⟩ := trodAll_cons r2
  obtain ⟨v4, vs4, d4, ds4, p4, q4, rfl, rfl, rfl, h4, r4⟩ := trodAll_cons r3
  obtain ⟨rfl, rfl, rfl⟩ := trodAll_nil r4
  obtain rfl : args = #[v0, v1, v2, v3, v4] := by cases args; simp_all
  obtain ⟨rfl, rfl⟩ := trodVars_none hV
  have k0 := h0
  have lt0 : ∀ x ∈ p0, x.block < W.heap.size := by obtain ⟨m, hm⟩ := k0; exact DataW.trod_lt m _ _ _ hm
  obtain ⟨x0, D0, rfl, w0, m0⟩ := open_disk (hval 0 30 v0 rfl rfl) h0 (fun n hn => by
    have := List.all_eq_true.1 hsz n (DataW.weights_mem_each (j := 0) (t := 30) (by kernel_rfl) rfl n hn)
    simpa using this)
  have k1 := h1
  have lt1 : ∀ x ∈ p1, x.block < W.heap.size := by obtain ⟨m, hm⟩ := k1; exact DataW.trod_lt m _ _ _ hm
  obtain ⟨z1, rfl, w1⟩ := open_label (hval 1 38 v1 rfl rfl) h1
  have k2 := h2
  have lt2 : ∀ x ∈ p2, x.block < W.heap.size := by obtain ⟨m, hm⟩ := k2; exact DataW.trod_lt m _ _ _ hm
  obtain ⟨z2, rfl, w2⟩ := open_label (hval 2 38 v2 rfl rfl) h2
  obtain ⟨a3, rfl, rfl, rfl, w3⟩ := open_int Tryd.underlying3 (hval 3 3 v3 rfl rfl) h3
  obtain ⟨a4, len4, cap4, rfl⟩ := okWide_slice Tryd.underlying44 (hval 4 44 v4 rfl rfl)
  have k4 := h4
  have lt4 : ∀ x ∈ p4, x.block < W.heap.size := by obtain ⟨m, hm⟩ := k4; exact DataW.trod_lt m _ _ _ hm
  obtain ⟨z4, w4⟩ : ∃ zs, IsRow .u8 W a4 len4 cap4 zs := by
    obtain ⟨fuel, hf⟩ := h4
    rcases open_ints Tryd.underlying44 Tryd.underlying5 (by kernel_rfl) hf with ⟨hcs, _⟩ | ⟨x, l, c, zs, hcs, _, hl, hm, hz, _, hcell, hwz⟩
    · simp [Value.cells] at hcs
      obtain ⟨rfl, rfl, rfl⟩ := hcs
      exact ⟨[], .inl ⟨rfl, rfl, rfl, rfl⟩⟩
    · simp [Value.cells] at hcs
      obtain ⟨rfl, rfl, rfl⟩ := hcs
      exact ⟨zs, .inr ⟨_, rfl, hl, hm, by simpa using hz, hcell, hwz⟩⟩
  clear hA0 hval0
  refine (labelApart_walk x0 D0 z1 z2 a3 a4 len4 cap4 _ W (szs_of_laid hL) w0 m0 w1 w2 w3 (bsl_of_row w4)).mono fun e W' ⟨he, bel⟩ => ?_
  subst he
  exact ⟨_, rfl, _, _, _, [], _, [], hW', trodAll_mk1 (shut_bool Tryd.underlying4 _), (trodAll_cons_mk (Below.trod laidOut (by kernel_rfl) (of_decide_eq_true (by kernel_rfl)) k0 bel lt0) (trodAll_cons_mk (Below.trod laidOut (by kernel_rfl) (of_decide_eq_true (by kernel_rfl)) k1 bel lt1) (trodAll_cons_mk (Below.trod laidOut (by kernel_rfl) (of_decide_eq_true (by kernel_rfl)) k2 bel lt2) (trodAll_cons_mk (shut_int Tryd.underlying3 w3) (trodAll_cons_mk (Below.trod laidOut (by kernel_rfl) (of_decide_eq_true (by kernel_rfl)) k4 bel lt4) trodAll_mk0))))), rfl, bel.frame _, fun h => by cases h⟩

theorem over : Rows.LabelApartSaid :=
  OpenClaim.holds_of_wide 5 Tryd.f5 rfl rfl rfl rfl rfl rfl rfl ⟨rfl, rfl, rfl, rfl, rfl⟩ rfl rfl rfl rfl rfl (by kernel_rfl) Tryd.func5 (by kernel_rfl)
    (of_decide_eq_true (by kernel_rfl)) (by unfold Func.isWrapper; first | (rw [if_pos (by decide +kernel)]; kernel_rfl) | (rw [if_neg (by decide +kernel)]; exact ⟨rfl, rfl⟩))
    (fun os started H enc _ => lifted os started H enc)

/-- The statement. -/
theorem proved : Rows.LabelApartCardSaid :=
  Claim7.holds_tied_plain_at .later [] [.data] true _ false
    over (fun _ h => by cases h) (by kernel_rfl) (fun _ h => by cases h) labelApart_row_tie rfl ⟨rfl, rfl⟩ (by kernel_rfl) rfl
    (fun f fn hf hfn => by
      obtain rfl : f = 5 := Option.some.inj ((show Tryd.prog.funcNamed "charterhouse/charterhouselaw11.LabelApart" = some 5 by kernel_rfl).symm.trans hf) |>.symm
      obtain rfl : fn = Tryd.f5 := (Option.some.inj (Tryd.func5.symm.trans hfn)).symm
      exact ⟨by kernel_rfl, fun j t ht => by
        rw [Tryd.params5] at ht
        have hm : t ∈ [30, 38, 38, 3, 44] := by simpa using Array.mem_of_getElem? ht
        have hall : ([30, 38, 38, 3, 44].all fun u => !Tryd.prog.wantsStandIn u) = true := by kernel_rfl
        exact (show Tryd.prog.wantsStandIn t = false by simpa using List.all_eq_true.1 hall t hm)⟩)
    (by kernel_rfl)
end Go.Proofs.YtldnelimemjaiaaDoor.labelApart
