/-
  DevBlocksSaid: for any disk, place and bytes (of a disk that is great, or more than 10,000 bytes, nothing is asked) a block is seen, and a write put behind those that wait, as the document's own answer says; which disks may be; the disk shares no memory with what is answered. No condition.
-/
import Derived.Test.YtgpojnhhcobcbaaRows
import Derived.Test.YtgpojnhhcobcbaaDiskOpen
import Derived.Test.YtgpojnhhcobcbaaDevLawC
namespace Go.Proofs.Ytgpojnhhcobcbaa
open Go.RowKit Go.Shelf
set_option maxRecDepth 100000

set_option maxHeartbeats 8000000 in
theorem devBlocks_walk (x : DAt) (D : DkL) (p : Int) (a : Option Addr) (n c : Nat) (s : List UInt8) (w : World) (h : Dsk w w.heap.size x D) (hnear : Near D) (_hp : (Lit.int .i64 p).wf = true) (hs : Bsl w w.heap.size a n c s) :
    Calls Try.prog 4 #[dval x D, .int .i64 p, .slice a n c] w fun e w' => e = .returned (.bool true) ∧ Below w.heap.size w w' := by
  have hmx : Try.prog.follows Departure.mixedOrders = true := by kernel_rfl
  have n0 : (0 : Int) ≤ n := by omega
  have n1 : (n : Int) ≤ 9223372036854775807 := by have h1 := hs.2.1; have h2 := hs.2.2.1; unfold maxLen at h2; omega
  have hL0 := lawL_box w x D h
  have hs0 := hs.step (alloc_b w (.cells #[.slice x.ba D.1.length x.bc, .slice x.wa D.2.length x.wc] 25))
  obtain ⟨w0, hw0⟩ : ∃ w0, w.alloc (.cells #[.slice x.ba D.1.length x.bc, .slice x.wa D.2.length x.wc] 25) = w0 := ⟨_, rfl⟩
  rw [hw0] at hL0 hs0
  obtain ⟨B, hB⟩ : ∃ B, w.heap.size = B := ⟨_, rfl⟩
  rw [hB] at hL0 ⊢
  have c0 := hL0.c0
  have c1 := hL0.c1
  have HL := Lib.hid hL0
  have HS := Lib.hid hs0
  have HBB := Lib.hid hB
  have HG := Lib.hid (rdGreat_any x D w0 hL0.dsk hnear)
  simp only [dval] at HG ⊢
  clear h hs hL0 hs0 hnear
  go_enter Try.func4, Try.ntmps4
  go_wp2_with fail
  clear hw0 hB c0 c1
  refine HG.out.mono ?_
  rintro e w1 ⟨b, rfl, hsm, b1⟩
  have HL1 := Lib.hid (HL.out.step b1)
  have HS1 := Lib.hid (HS.out.step b1)
  clear b1 HL HS HG
  cases b with
  | true =>
    go_wp2_with fail
    go_ret
    exact ⟨rfl, by rw [← HBB.out]; exact HL1.out.bel⟩
  | false =>
    have hsml := hsm rfl
    clear hsm
    by_cases hk5 : (10000 : Int) < n
    · go_wp2_with fail
      go_ret
      exact ⟨rfl, by rw [← HBB.out]; exact HL1.out.bel⟩
    · have c0 := HL1.out.c0
      have c1 := HL1.out.c1
      have HT := Lib.hid (rdTwin_any x D w1 HL1.out.dsk (small_fits hsml))
      have HSM := Lib.hid hsml
      simp only [dval] at HT
      clear hsml
      go_wp2_with fail
      clear c0 c1
      refine HT.out.mono ?_
      rintro e w2 ⟨y, rfl, hty, b2⟩
      have hL2 := HL1.out.step b2
      have hs2 := HS1.out.step b2
      have hy2 := hL2.put hty.dsk
      have ba2 := alloc_b w2 (.cells #[.slice y.ba D.1.length y.bc, .slice y.wa D.2.length y.wc] 25)
      have hL3 := hL2.step ba2
      have hs3 := hs2.step ba2
      obtain ⟨w3, hw3⟩ : ∃ w3, w2.alloc (.cells #[.slice y.ba D.1.length y.bc, .slice y.wa D.2.length y.wc] 25) = w3 := ⟨_, rfl⟩
      obtain ⟨g, hg⟩ : ∃ g, w2.heap.size = g := ⟨_, rfl⟩
      rw [hw3, hg] at hy2
      rw [hw3] at hL3 hs3
      have HD3 := Lib.hid (show LawL w (g + 1) B x D w3 from ⟨hL3.1, hL3.2.1, by have := hL3.2.2.1; have := hL2.2.2.2.1; omega, hy2.2.2.2.1, hL3.2.2.2.2.1.moreL (by have := hL2.2.2.2.1; omega), hL3.2.2.2.2.2⟩)
      have HO3 := Lib.hid hy2
      have HS3 := Lib.hid hs3
      have c0 := hy2.c0
      have c1 := hy2.c1
      have d0 := hL3.c0
      have d1 := hL3.c1
      have HR := Lib.hid (dRead_any y D p w3 hy2.dsk)
      simp only [dval] at HR ⊢
      clear b2 hty hL2 hs2 hy2 ba2 hL3 hs3 HL1 HS1 HT
      obtain ⟨rs, re, hro⟩ : ∃ rs re, readO D p = (rs, re) := ⟨_, _, rfl⟩
      obtain ⟨K, ke, hwo⟩ : ∃ K ke, writeO D p s = (K, ke) := ⟨_, _, rfl⟩
      rw [hro] at HR
      go_wp2_with fail
      clear hw3 hg c0 c1 d0 d1
      refine HR.out.mono ?_
      rintro e w4 ⟨xv, rfl, hxo, b4⟩
      obtain ⟨XA, xc, rfl⟩ := own_slice hxo
      have hL4 := HD3.out.step b4
      have HO4 := Lib.hid (HO3.out.step b4)
      have HS4 := Lib.hid (HS3.out.step b4)
      have HX4 := Lib.hid (own_mono hxo (show g + 1 ≤ w3.heap.size from HD3.out.2.2.2.1))
      have HR2 := Lib.hid (rdRead_any x D p w4 hL4.dsk)
      have HD4 := Lib.hid hL4
      have d0 := hL4.c0
      have d1 := hL4.c1
      simp only [dval] at HR2
      rw [hro] at HR2
      clear b4 hL4 hxo HD3 HO3 HS3 HR
      go_wp2_with fail
      clear d0 d1
      refine HR2.out.mono ?_
      rintro e w5 ⟨yv, rfl, hyo, b5⟩
      obtain ⟨YA, yc, rfl⟩ := own_slice hyo
      have HD5 := Lib.hid (HD4.out.step b5)
      have hO5 := HO4.out.step b5
      have hS5 := HS4.out.step b5
      have HX5 := Lib.hid (own_below HX4.out b5)
      have HY5 := Lib.hid (own_bsl hyo)
      have HW := Lib.hid (dWrite_any y D p a n c s w5 hO5.dsk hS5)
      have HO5 := Lib.hid hO5
      have HS5 := Lib.hid hS5
      have c0 := hO5.c0
      have c1 := hO5.c1
      simp only [dval] at HW
      rw [hwo] at HW
      clear b5 hO5 hS5 hyo HD4 HO4 HS4 HX4 HR2
      go_wp2_with fail
      clear c0 c1
      refine HW.out.mono ?_
      rintro e w6 ⟨z, rfl, hzo, b6⟩
      have hlo6 : w5.heap.size ≤ w6.heap.size := b6.size
      have hD6 := HD5.out.step b6
      have hO6 := HO5.out.step b6
      have hS6 := HS5.out.step b6
      have hX6 := own_below HX5.out b6
      have hY6 := HY5.out.step b6
      have hZ6 := mineL_put hzo hlo6
      have ba6 := alloc_b w6 (.cells #[.slice z.ba K.1.length z.bc, .slice z.wa K.2.length z.wc] 25)
      obtain ⟨lo, hlo⟩ : ∃ lo, w5.heap.size = lo := ⟨_, rfl⟩
      have hllo : g + 1 ≤ lo := by rw [← hlo]; exact HD5.out.2.2.2.1
      have hxb : ∀ b, (Value.slice XA rs.length xc).ownBlock = some b → b < lo := fun b hb => by rw [← hlo]; exact (HX5.out.lt b hb).2
      have hD7 := hD6.step ba6
      have hO7 := hO6.step ba6
      have hS7 := hS6.step ba6
      have hX7 := own_below hX6 ba6
      have hY7 := hY6.step ba6
      obtain ⟨w7, hw7⟩ : ∃ w7, w6.alloc (.cells #[.slice z.ba K.1.length z.bc, .slice z.wa K.2.length z.wc] 25) = w7 := ⟨_, rfl⟩
      obtain ⟨gz, hgz⟩ : ∃ g, w6.heap.size = g := ⟨_, rfl⟩
      rw [hw7] at hD7 hO7 hS7 hX7 hY7 hZ6
      rw [hlo, hgz] at hZ6
      have HW2 := Lib.hid (rdWrite_any x D p a n c s w7 hD7.dsk hS7)
      have HD7 := Lib.hid hD7
      have HO7 := Lib.hid hO7
      have HX7 := Lib.hid hX7
      have HY7 := Lib.hid hY7
      have HZ7 := Lib.hid hZ6
      have HXB := Lib.hid hxb
      have HLO := Lib.hid hllo
      have d0 := hD7.c0
      have d1 := hD7.c1
      simp only [dval] at HW2 ⊢
      rw [hwo] at HW2
      clear b6 hzo hlo6 hD6 hO6 hS6 hX6 hY6 hZ6 ba6 hD7 hO7 hS7 hX7 hY7 hxb hllo hlo HD5 HO5 HS5 HX5 HY5 HW
      go_wp2_with fail
      clear hw7 hgz d0 d1
      refine HW2.out.mono ?_
      rintro e w8 ⟨u, rfl, hu, b8⟩
      have hP8 := (HD7.out.step b8).put hu
      have ba8 := alloc_b w8 (.cells #[.slice u.ba K.1.length u.bc, .slice u.wa K.2.length u.wc] 25)
      obtain ⟨w9, hw9⟩ : ∃ w9, w8.alloc (.cells #[.slice u.ba K.1.length u.bc, .slice u.wa K.2.length u.wc] 25) = w9 := ⟨_, rfl⟩
      obtain ⟨gu, hgu⟩ : ∃ g, w8.heap.size = g := ⟨_, rfl⟩
      obtain ⟨wd, hwd⟩ : ∃ wd, w9.drew = wd := ⟨_, rfl⟩
      have b9 : Below w7.heap.size w7 wd := by
        rw [hw9] at ba8
        rw [← hwd]
        exact (b8.trans (ba8.mono b8.size)).drew
      have bd9 : Below w9.heap.size w9 wd := by rw [← hwd]; exact (Below.refl _ w9).drew
      rw [hw9, hgu] at hP8
      have hP9 := hP8.step bd9
      have hD9 := HD7.out.step b9
      have hX9 := own_below HX7.out b9
      have HD9 := Lib.hid hD9
      have HO9 := Lib.hid (HO7.out.step b9)
      have HX9 := Lib.hid hX9
      have HZ9 := Lib.hid (HZ7.out.step b9)
      have HP9 := Lib.hid hP9
      have hxs := own_bsl hX9
      have hys := HY7.out.step b9
      have V0 := fun X (hX : Below wd.heap.size wd X) => (hxs.below hX).conv
      have V1 := fun X (hX : Below wd.heap.size wd X) => (hys.below hX).conv
      have hz9 := HZ9.out
      have s0 := hz9.c0
      have s1 := hz9.c1
      have s2 := hP9.c0
      have s3 := hP9.c1
      have s4 := hD9.c0
      have s5 := hD9.c1
      have C0 := fun X (hX : Below wd.heap.size wd X) => (hX.cell (p := ⟨gz, 0, none⟩) (World.block_lt_of_cell? wd _ s0)).trans s0
      have C1 := fun X (hX : Below wd.heap.size wd X) => (hX.cell (p := ⟨gz, 1, none⟩) (World.block_lt_of_cell? wd _ s1)).trans s1
      have C2 := fun X (hX : Below wd.heap.size wd X) => (hX.cell (p := ⟨gu, 0, none⟩) (World.block_lt_of_cell? wd _ s2)).trans s2
      have C3 := fun X (hX : Below wd.heap.size wd X) => (hX.cell (p := ⟨gu, 1, none⟩) (World.block_lt_of_cell? wd _ s3)).trans s3
      have C4 := fun X (hX : Below wd.heap.size wd X) => (hX.cell (p := ⟨B, 0, none⟩) (World.block_lt_of_cell? wd _ s4)).trans s4
      have C5 := fun X (hX : Below wd.heap.size wd X) => (hX.cell (p := ⟨B, 1, none⟩) (World.block_lt_of_cell? wd _ s5)).trans s5
      have hS : Below wd.heap.size wd wd := Below.refl _ _
      clear b8 hu hP8 ba8 b9 bd9 hP9 hD9 hX9 hxs hys hz9 s0 s1 s2 s3 s4 s5 HD7 HO7 HX7 HY7 HZ7 HW2
      simp only [dval]
      go_wp2_with fail
      clear hw9 hgu
      have hKl : K.1.length ≤ 1000000 ∧ K.2.length ≤ 1000000 := by
        have h1 := HSM.out.1
        have h2 := HSM.out.2.2.1
        have hk : K = (writeO D p s).1 := by rw [hwo]
        rw [hk]
        unfold writeO
        split
        · split
          · split
            · split
              · exact ⟨Nat.zero_le _, Nat.zero_le _⟩
              · exact ⟨by show D.1.length ≤ _; omega, by show (D.2 ++ [(p, s)]).length ≤ _; rw [List.length_append]; simp; omega⟩
            · exact ⟨Nat.zero_le _, Nat.zero_le _⟩
          · exact ⟨Nat.zero_le _, Nat.zero_le _⟩
        · exact ⟨Nat.zero_le _, Nat.zero_le _⟩
      have HSA := Lib.hid (rdSame_any z K u K wd HZ9.out.2.2.dsk HP9.out.dsk hKl true ⟨fun _ => rfl, fun _ => rfl⟩)
      have HDK := Lib.hid (fun (X : World) (hX : Below wd.heap.size wd X) => HD9.out.step hX)
      simp only [dval] at HSA
      clear hKl
      refine wpS_start [0, 1, 2, 3, 4, 5, 6, 7, 8, 9, 10, 11, 12, 13, 14, 15, 16, 17, 18, 19, 20, 21, 22, 24, 23, 25, 26, 27] hmx rfl hwd ?_
      clear hwd
      iterate 18 (
        refine wpS_read (v := ?_) rfl (by kernel_rfl) (by kernel_rfl) (by kernel_rfl) (fun _ _ _ h => h) (.inl ⟨by rfl, ?_⟩) ?_
        rotate_left
        · intro X hX
          have hX0 := C0 X (hX _ hS)
          have hX1 := C1 X (hX _ hS)
          have hX2 := C2 X (hX _ hS)
          have hX3 := C3 X (hX _ hS)
          have hXa := V0 X (hX _ hS)
          have hXb := V1 X (hX _ hS)
          clear hX
          go_simp
          with_reducible rfl
        try simp only [Act.put, List.setIfInBounds_toArray, List.set_cons_zero, List.set_cons_succ])
      clear C0 C1 C2 C3 V0 V1
      refine wpS_lone rfl (by kernel_rfl) (fun K' hK => ?_)
      go_simp
      refine HSA.out.mono ?_
      rintro e wa ⟨rfl, ba⟩
      refine hK _ _ (Stays.of_below ba) ?_
      clear hK K'
      try simp only [Act.put, List.setIfInBounds_toArray, List.set_cons_zero, List.set_cons_succ]
      iterate 5 (
        refine wpS_read (v := ?_) rfl (by kernel_rfl) (by kernel_rfl) (by kernel_rfl) (fun _ _ _ h => h) (.inl ⟨by rfl, ?_⟩) ?_
        rotate_left
        · intro X hX
          have hX4 := C4 X ((Stays.of_below ba).trans hX _ hS)
          have hX5 := C5 X ((Stays.of_below ba).trans hX _ hS)
          clear hX
          go_simp
          with_reducible rfl
        try simp only [Act.put, List.setIfInBounds_toArray, List.set_cons_zero, List.set_cons_succ])
      clear C4 C5
      have HC1 := Lib.hid (dCheck_any x D wa (HDK.out wa ba).dsk)
      simp only [dval] at HC1
      refine wpS_lone rfl (by kernel_rfl) (fun K' hK => ?_)
      go_simp
      refine HC1.out.mono ?_
      rintro e wb ⟨rfl, bb⟩
      refine hK _ _ (Stays.of_below bb) ?_
      clear hK K'
      have bab := ba.trans (bb.mono ba.size)
      try simp only [Act.put, List.setIfInBounds_toArray, List.set_cons_zero, List.set_cons_succ]
      have HC2 := Lib.hid (rdCheck_any x D wb (HDK.out wb bab).dsk)
      simp only [dval] at HC2
      refine wpS_lone rfl (by kernel_rfl) (fun K' hK => ?_)
      go_simp
      refine HC2.out.mono ?_
      rintro e wc ⟨rfl, bc⟩
      refine hK _ _ (Stays.of_below bc) ?_
      clear hK K'
      have bac := bab.trans (bc.mono bab.size)
      try simp only [Act.put, List.setIfInBounds_toArray, List.set_cons_zero, List.set_cons_succ]
      iterate 2 (
        refine wpS_read (v := ?_) rfl (by kernel_rfl) (by kernel_rfl) (by kernel_rfl) (fun _ _ _ h => h) (.inl ⟨by rfl, ?_⟩) ?_
        rotate_left
        · intro X hX
          clear hX
          go_simp
          with_reducible rfl
        try simp only [Act.put, List.setIfInBounds_toArray, List.set_cons_zero, List.set_cons_succ])
      refine wpS_done (by kernel_rfl) ?_
      have HDc := Lib.hid (HD9.out.step bac)
      have HOc := Lib.hid (HO9.out.step bac)
      have HXc := Lib.hid (own_below HX9.out bac)
      have HZc := Lib.hid (HZ9.out.step bac)
      clear ba bb bc bab bac HD9 HO9 HX9 HZ9 HP9 HSA HDK HC1 HC2 hS
      have r0 : (0 : Int) ≤ rs.length := by omega
      have r1 : (rs.length : Int) ≤ 9223372036854775807 := by
        obtain ⟨_, h⟩ := HXc.out
        rcases h with ⟨_, h0⟩ | ⟨g', cap, cur, e, _, _, h4, h5, _⟩
        · omega
        · unfold maxLen at h5; omega
      go_wp2_with fail
      go_loopw [16] (fun i wr => ∃ (k : Nat) (t : List UInt8), k ≤ rs.length ∧ i = .int .i64 k ∧ t.length = rs.length ∧ Hid (wr.ownsRow (g + 1) 5 1 (.slice XA rs.length xc) rs.length (vals t)) ∧ Hid (LawL w (g + 1) B x D wr) ∧ Hid (LawL w (g + 1) g y D wr) ∧ Hid (MineL lo gz z K wr)) (fun i _ => rs.length - (intOf i).toNat)
      case atStart => exact ⟨0, rs, Nat.zero_le _, rfl, rfl, HXc, HDc, HOc, HZc⟩
      case round =>
        obtain ⟨k, t, hk, rfl, ht, HXr, HDr, HOr, HZr⟩ := hrel
        clear HXc HDc HOc HZc
        have k0 : (0 : Int) ≤ k := by omega
        by_cases hlt : k < rs.length
        · have k1 : (k : Int) < rs.length := by omega
          obtain ⟨bx, c', e⟩ := own_pos HXr.out (by omega)
          cases e
          have hcell := own_cell HXr.out k hlt
          obtain ⟨cs, hbk⟩ := own_blk HXr.out
          have hfz := hbk.frozen k
          obtain ⟨v, hv⟩ : ∃ v, t.getD k 0 = v := ⟨_, rfl⟩
          have hcv : wr.cell? ⟨bx, k, none⟩ = some (.int .u8 (v.toNat : Int)) := by
            rw [hcell, ← hv]
            simp [vals, List.getD_eq_getElem?_getD, ht, hlt]
          have hxor := xor255 v
          have hbx : bx < lo := HXB.out bx rfl
          have hgx : g + 1 ≤ bx := (own_lt HXr.out).1
          have gs : wr.grownBy (wr.setCell ⟨bx, k, none⟩ (.int .u8 ((v ^^^ 255).toNat : Int))) (some bx) := only_setCell (World.grownBy.refl wr _) (.inl rfl) _
          have bs : Below (g + 1) wr (wr.setCell ⟨bx, k, none⟩ (.int .u8 ((v ^^^ 255).toNat : Int))) := (Below.refl _ wr).setCell (p := ⟨bx, k, none⟩) hgx _
          have HXs := Lib.hid (own_set (q := k) HXr.out (v ^^^ 255))
          have HDs := Lib.hid (HDr.out.below bs)
          have HOs := Lib.hid (HOr.out.below bs)
          have HZs := Lib.hid (HZr.out.beside gs hbx)
          obtain ⟨m, hm⟩ : ∃ m, (v ^^^ 255).toNat = m := ⟨_, rfl⟩
          rw [hm] at hxor HXs HDs HOs HZs
          clear hcell hbk hv hbx hgx gs bs hm
          go_wp2_with fail
          go_roundw
          case rel => exact ⟨k + 1, _, by omega, by go_num, by rw [List.length_set]; exact ht, HXs, HDs, HOs, HZs⟩
          case measure => simp [intOf]; omega
        · have hkn : ¬ (k : Int) < rs.length := by omega
          have hz := HZr.out
          have s0 := hz.c0
          have s1 := hz.c1
          have HWP := Lib.hid (wipe_any lo z K wr hz.2.2 (by have := hz.2.1; have := hz.1.lt; omega))
          simp only [dval] at HWP
          clear hz
          go_wp2_with fail
          clear s0 s1
          refine HWP.out.mono ?_
          rintro e wf ⟨rfl, bf⟩
          have bg : Below (g + 1) wr wf := bf.mono HLO.out
          have hDf := HDr.out.below bg
          have hOf := HOr.out.below bg
          have HSF := Lib.hid (rdSame_any y D x D wf hOf.dsk hDf.dsk ⟨by have := HSM.out.1; omega, by have := HSM.out.2.2.1; omega⟩ true ⟨fun _ => rfl, fun _ => rfl⟩)
          have s0 := hOf.c0
          have s1 := hOf.c1
          have s2 := hDf.c0
          have s3 := hDf.c1
          have HDf := Lib.hid hDf
          simp only [dval] at HSF
          clear bf bg hOf hDf
          go_wp2_with fail
          clear s0 s1 s2 s3
          refine HSF.out.mono ?_
          rintro e wg ⟨rfl, bg⟩
          have HDg := Lib.hid (HDf.out.step bg)
          clear bg
          go_wp2_with fail
          go_ret
          exact ⟨rfl, by rw [← HBB.out]; exact HDg.out.bel⟩
end Go.Proofs.Ytgpojnhhcobcbaa
namespace Go.Proofs.Ytgpojnhhcobcbaa.devBlocks
open Go.ChangeShapes Go.WideShapes Go.ChangeAt Go.RowKit
set_option linter.unusedVariables false

theorem own : ownKnob Try.prog.godebug = none := by kernel_rfl
theorem laidOut : laidOutB Try.prog = true := by kernel_rfl

set_option maxRecDepth 100000 in
theorem lifted (os : Os) (started : os.Started) (H : Type) (enc : TypeId × Value → H) :
    ReturnsInHanded {} Try.checked os 4 .any (Rows.devBlocksSpec.pre6 enc Try.prog Try.f4 Rows.devBlocksRow.domain false) (Rows.devBlocksSpec.post enc Try.prog Try.f4 false true false false) := by
  refine returnsInHanded_of_change_sized (C := Try.checked) own started (by kernel_rfl) Try.func4
    (ChangeSpec.witness6 (enc := enc) (C := Try.checked) false ⟨#[], #[.agg #[.slice none 0 0, .slice none 0 0], .int .i64 0, .slice none 0 0], []⟩ 8 (by kernel_rfl) (by kernel_rfl) (by kernel_rfl) (by kernel_rfl)) ?_
  intro W base args ds gs before hval0 hW hcnd hsz _
  have hval : ∀ (j : Nat) t v, Try.f4.params[j]? = some t → args[j]? = some v → Value.okWide Try.prog W .any base t v := hval0
  have hW' := hW
  obtain ⟨p, q, hA0, hV, rfl, hfz, hnd⟩ := hW
  have hA : DataW.TrodAll enc Try.prog W 0 (fun _ => true) true Try.f4.params.toList args.toList ds p := hA0
  rw [Try.params4] at hA hval
  obtain ⟨v0, vs0, d0, ds0, p0, q0, hargs, rfl, rfl, h0, r0⟩ := trodAll_cons hA
  obtain ⟨v1, vs1, d1, ds1, p1, q1, rfl, rfl, rfl, h1, r1⟩ := trodAll_cons r0
  obtain ⟨v2, vs2, d2, ds2, p2, q2, rfl, rfl, rfl, h2, r2⟩ := trodAll_cons r1
  obtain ⟨rfl, rfl, rfl⟩ := trodAll_nil r2
  obtain rfl : args = #[v0, v1, v2] := by cases args; simp_all
  obtain ⟨rfl, rfl⟩ := trodVars_none hV
  have k0 := h0
  have lt0 : ∀ x ∈ p0, x.block < W.heap.size := by obtain ⟨m, hm⟩ := k0; exact DataW.trod_lt m _ _ _ hm
  obtain ⟨x0, D0, rfl, w0, m0⟩ := open_disk (hval 0 25 v0 rfl rfl) h0 (fun n hn => by
    have := List.all_eq_true.1 hsz n (DataW.weights_mem_each (j := 0) (t := 25) (by kernel_rfl) rfl n hn)
    simpa using this)
  obtain ⟨a1, rfl, rfl, rfl, w1⟩ := open_int Try.underlying3 (hval 1 3 v1 rfl rfl) h1
  obtain ⟨a2, len2, cap2, rfl⟩ := okWide_slice Try.underlying30 (hval 2 30 v2 rfl rfl)
  have k2 := h2
  have lt2 : ∀ x ∈ p2, x.block < W.heap.size := by obtain ⟨m, hm⟩ := k2; exact DataW.trod_lt m _ _ _ hm
  obtain ⟨z2, w2⟩ : ∃ zs, IsRow .u8 W a2 len2 cap2 zs := by
    obtain ⟨fuel, hf⟩ := h2
    rcases open_ints Try.underlying30 Try.underlying5 (by kernel_rfl) hf with ⟨hcs, _⟩ | ⟨x, l, c, zs, hcs, _, hl, hm, hz, _, hcell, hwz⟩
    · simp [Value.cells] at hcs
      obtain ⟨rfl, rfl, rfl⟩ := hcs
      exact ⟨[], .inl ⟨rfl, rfl, rfl, rfl⟩⟩
    · simp [Value.cells] at hcs
      obtain ⟨rfl, rfl, rfl⟩ := hcs
      exact ⟨zs, .inr ⟨_, rfl, hl, hm, by simpa using hz, hcell, hwz⟩⟩
  clear hA0 hval0
  refine (devBlocks_walk x0 D0 a1 a2 len2 cap2 _ W w0 m0 w1 (bsl_of_row w2)).mono fun e W' ⟨he, bel⟩ => ?_
  subst he
  exact ⟨_, rfl, _, _, _, [], _, [], hW', trodAll_mk1 (shut_bool Try.underlying4 _), (trodAll_cons_mk (Below.trod laidOut (by kernel_rfl) (of_decide_eq_true (by kernel_rfl)) k0 bel lt0) (trodAll_cons_mk (shut_int Try.underlying3 w1) (trodAll_cons_mk (Below.trod laidOut (by kernel_rfl) (of_decide_eq_true (by kernel_rfl)) k2 bel lt2) trodAll_mk0))), rfl, bel.frame _, fun h => by cases h⟩

theorem over : Rows.devBlocksRow.holds Try.pinned (OpenSpec.ofChange Rows.devBlocksSpec) :=
  OpenClaim.holds_of_wide 4 Try.f4 rfl rfl rfl rfl rfl rfl rfl ⟨rfl, rfl, rfl, rfl, rfl⟩ rfl rfl rfl rfl rfl (by kernel_rfl) Try.func4 (by kernel_rfl)
    (of_decide_eq_true (by kernel_rfl)) (by unfold Func.isWrapper; first | (rw [if_pos (by decide +kernel)]; kernel_rfl) | (rw [if_neg (by decide +kernel)]; exact ⟨rfl, rfl⟩))
    (fun os started H enc _ => lifted os started H enc)

/-- The statement. -/
theorem proved : Rows.DevBlocksSaid := over
end Go.Proofs.Ytgpojnhhcobcbaa.devBlocks
