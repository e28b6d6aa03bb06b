/-
  SignSpentSaid: for any signer and texts (where the signer may not be, there are more than twelve texts or one of them has more than 1,000 bytes the law itself answers what its example answers) of several texts signed one behind the other each is signed with the next leaf, from what was spent on, until none is left; then each is refused. No condition.
-/
import Derived.Test.YtoednighmdoooaaRows
import Derived.Test.YtoednighmdoooaaSignAll
import Derived.Test.YtoednighmdoooaaSignOpen
import Derived.Test.YtoednighmdoooaaSignNext
import Derived.Test.YtoednighmdoooaaMovI
import Derived.Deep.CutRange
import Derived.Deep.DeepCutAuto
namespace Go.Proofs.Ytoednighmdoooaa
open Go.RowKit Go.Shelf
set_option maxRecDepth 100000

/-- A new list, or an empty one. -/
def NewB (w : World) (lo : Nat) (a : Option Addr) (n c : Nat) (s : List UInt8) : Prop := n = 0 ∨ ∃ b, a = some ⟨b, 0, none⟩ ∧ lo ≤ b ∧ Bsl w w.heap.size (some ⟨b, 0, none⟩) n c s
theorem NewB.step {w w' : World} {lo n c : Nat} {a : Option Addr} {s : List UInt8} (h : NewB w lo a n c s) (hb : Below w.heap.size w w') : NewB w' lo a n c s := by
  rcases h with h | ⟨b, h1, h2, h3⟩
  · exact .inl h
  · exact .inr ⟨b, h1, h2, h3.step hb⟩
theorem NewB.beside {w w' : World} {lo n c g : Nat} {a : Option Addr} {s : List UInt8} (h : NewB w lo a n c s) (hg : w.grownBy w' (some g)) (hl : g < lo) : NewB w' lo a n c s := by
  rcases h with h | ⟨b, h1, h2, h3⟩
  · exact .inl h
  · exact .inr ⟨b, h1, h2, h3.beside hg (by omega)⟩
theorem NewB.lower {w : World} {lo lo' n c : Nat} {a : Option Addr} {s : List UInt8} (h : NewB w lo a n c s) (hl : lo' ≤ lo) : NewB w lo' a n c s := by
  rcases h with h | ⟨b, h1, h2, h3⟩
  · exact .inl h
  · exact .inr ⟨b, h1, Nat.le_trans hl h2, h3⟩
/-- What Sign answers, be there a leaf left or none. -/
theorem sSign_both (av : Option Addr) (cv : Nat) (k : List UInt8) (sp : Nat) (hsp : sp ≤ 8) (b : Option Addr) (lb cb : Nat) (s : List UInt8) (hlb : lb ≤ 1000) : ∃ (LX MX : Nat) (m e : Int) (T : List UInt8), ((sp < 8 ∧ LX = 16 ∧ MX = 209 ∧ m = (sp : Int) + 1 ∧ e = 0 ∧ (T.getD 0 0).toNat = sp) ∨ (sp = 8 ∧ LX = 0 ∧ MX = 0 ∧ m = 0 ∧ e = 80)) ∧
    ∀ W, Bsl W W.heap.size av 16 cv k → Bsl W W.heap.size b lb cb s → Calls Try.prog 8 #[.agg #[.slice av 16 cv, .int .i64 sp], .slice b lb cb] W fun en w' => ∃ ax cx bx dx, en = .returned (.tuple #[.agg #[.slice ax LX cx, .int .i64 m], .slice bx MX dx, .int .i64 e]) ∧
      NewB w' W.heap.size ax LX cx k ∧ NewB w' W.heap.size bx MX dx T ∧ Below W.heap.size W w' := by
  by_cases h : sp < 8
  · refine ⟨16, 209, (sp : Int) + 1, 0, sigL k sp (fourW s).a.toNat, .inl ⟨h, rfl, rfl, rfl, rfl, sigL_head k sp _ h⟩, fun W h1 h2 => ?_⟩
    refine (sSign_next av cv k sp h b lb cb s W h1 h2 (by omega)).mono ?_
    rintro en w' ⟨a3, c3, g3, d3, rfl, ha, hg, q1, q2, q3⟩
    exact ⟨_, _, _, _, rfl, .inr ⟨a3, rfl, ha, q1⟩, .inr ⟨g3, rfl, hg, q2⟩, q3⟩
  · obtain rfl : sp = 8 := by omega
    refine ⟨0, 0, 0, 80, [], .inr ⟨rfl, rfl, rfl, rfl, rfl⟩, fun W h1 h2 => ?_⟩
    refine (sSign_spent av cv (.slice b lb cb) W).mono ?_
    rintro en w' ⟨rfl, q3⟩
    exact ⟨none, 0, none, 0, rfl, .inl rfl, .inl rfl, q3⟩
theorem signSpent_far (a : Option Addr) (la ca : Nat) (n : Int) (b : Option Addr) (lb cb : Nat) (w : World) (_ha : (la : Int) ≤ 9223372036854775807) (_hb : (lb : Int) ≤ 9223372036854775807) (h : la ≠ 16 ∨ (la = 16 ∧ n < 0) ∨ (la = 16 ∧ 0 ≤ n ∧ 8 < n) ∨ (la = 16 ∧ 0 ≤ n ∧ n ≤ 8 ∧ 12 < lb)) :
    Calls Try.prog 7 #[.agg #[.slice a la ca, .int .i64 n], .slice b lb cb] w fun e w' => e = .returned (.bool true) ∧ Below w.heap.size w w' := by
  have i1 : (0 : Int) ≤ la := by omega
  have i2 : (0 : Int) ≤ lb := by omega
  obtain ⟨w0, hw0⟩ : ∃ w0, w.alloc (.cells #[.slice a la ca, .int .i64 n] 24) = w0 := ⟨_, rfl⟩
  have b0 : Below w.heap.size w w0 := by rw [← hw0]; exact (Below.refl _ w).alloc (Nat.le_refl _) _
  have x0 : Blk w0 w.heap.size 24 #[.slice a la ca, .int .i64 n] := by rw [← hw0]; exact Blk.new w _ _
  have HB0 := Lib.hid b0
  have HX0 := Lib.hid x0
  have HAL := Lib.hid (alive_sign w0)
  clear b0 x0
  rcases h with h | ⟨rfl, h⟩ | ⟨rfl, h1, h⟩ | ⟨rfl, h1, h2, h⟩
  · have hq : ((la : Int) != 16) = true := by simp; omega
    go_enter Try.func7, Try.ntmps7
    go_wp2_with fail
    clear hw0
    refine HAL.out.mono ?_
    rintro e w1 ⟨rfl, b1⟩
    have x1 := HX0.out.below b1 HX0.out.lt
    have c0 := x1.cell 0
    have c1 := x1.cell 1
    have HB1 := Lib.hid (HB0.out.trans (b1.mono HB0.out.size))
    clear b1 x1
    go_wp2_with fail
    go_ret
    exact ⟨rfl, HB1.out⟩
  · go_enter Try.func7, Try.ntmps7
    go_wp2_with fail
    clear hw0
    refine HAL.out.mono ?_
    rintro e w1 ⟨rfl, b1⟩
    have x1 := HX0.out.below b1 HX0.out.lt
    have c0 := x1.cell 0
    have c1 := x1.cell 1
    have HB1 := Lib.hid (HB0.out.trans (b1.mono HB0.out.size))
    clear b1 x1
    go_wp2_with fail
    go_ret
    exact ⟨rfl, HB1.out⟩
  · go_enter Try.func7, Try.ntmps7
    go_wp2_with fail
    clear hw0
    refine HAL.out.mono ?_
    rintro e w1 ⟨rfl, b1⟩
    have x1 := HX0.out.below b1 HX0.out.lt
    have c0 := x1.cell 0
    have c1 := x1.cell 1
    have HB1 := Lib.hid (HB0.out.trans (b1.mono HB0.out.size))
    clear b1 x1
    go_wp2_with fail
    go_ret
    exact ⟨rfl, HB1.out⟩
  · have h3 : (12 : Int) < lb := by omega
    go_enter Try.func7, Try.ntmps7
    go_wp2_with fail
    clear hw0
    refine HAL.out.mono ?_
    rintro e w1 ⟨rfl, b1⟩
    have x1 := HX0.out.below b1 HX0.out.lt
    have c0 := x1.cell 0
    have c1 := x1.cell 1
    have HB1 := Lib.hid (HB0.out.trans (b1.mono HB0.out.size))
    clear b1 x1
    go_wp2_with fail
    go_ret
    exact ⟨rfl, HB1.out⟩
set_option maxHeartbeats 8000000 in
theorem signSpent_near (a : Option Addr) (ca : Nat) (k : List UInt8) (n : Nat) (hn : n ≤ 8) (b : Option Addr) (lb cb : Nat) (TA : Nat → Option Addr) (TL TC : Nat → Nat) (ts : Nat → List UInt8) (w : World) (hA : Bsl w w.heap.size a 16 ca k) (hT : Texts w b lb cb TA TL TC ts) (hlb : lb ≤ 12) :
    Calls Try.prog 7 #[.agg #[.slice a 16 ca, .int .i64 n], .slice b lb cb] w fun e w' => e = .returned (.bool true) ∧ Below w.heap.size w w' := by
  have hmx : Try.prog.follows Departure.mixedOrders = true := by kernel_rfl
  have i2 : (0 : Int) ≤ lb := by omega
  have i3 : (lb : Int) ≤ 12 := by omega
  have n0 : (0 : Int) ≤ n := by omega
  have n1 : (n : Int) ≤ 8 := by omega
  obtain ⟨w0, hw0⟩ : ∃ w0, w.alloc (.cells #[.slice a 16 ca, .int .i64 n] 24) = w0 := ⟨_, rfl⟩
  obtain ⟨g, hg⟩ : ∃ g, w.heap.size = g := ⟨_, rfl⟩
  have b0 : Below g w w0 := by rw [← hw0, ← hg]; exact (Below.refl _ w).alloc (Nat.le_refl _) _
  have x0 : Blk w0 g 24 #[.slice a 16 ca, .int .i64 n] := by rw [← hw0, ← hg]; exact Blk.new w _ _
  have HAw := Lib.hid hA
  have HT := Lib.hid hT
  have HB0 := Lib.hid b0
  have HX0 := Lib.hid x0
  have HAL := Lib.hid (alive_sign w0)
  have HG := Lib.hid hg
  have hz0 : g + 1 ≤ w0.heap.size := x0.lt
  rw [hg]
  clear b0 x0 hA hT
  go_enter Try.func7, Try.ntmps7
  go_wp2_with fail
  clear hw0 hg
  refine HAL.out.mono ?_
  rintro e w1 ⟨rfl, b1⟩
  have x1 := HX0.out.below b1 HX0.out.lt
  have c0 := x1.cell 0
  have c1 := x1.cell 1
  have HX1 := Lib.hid x1
  have HB1 := Lib.hid (HB0.out.trans (b1.mono (by omega)))
  have hz1 : g + 1 ≤ w1.heap.size := Nat.le_trans hz0 b1.size
  have HA1 := Lib.hid (HAw.out.step (w' := w1) (by rw [HG.out]; exact HB1.out))
  clear b1 x1 HX0 HB0 HAL hz0 HAw
  go_wp2_with fail
  clear c0 c1
  go_loopw [7] (fun v wr => ∃ j : Nat, j ≤ lb ∧ v = .int .i64 j ∧ ∃ av cv, Blk wr g 24 #[.slice av 16 cv, .int .i64 ((min (n + j) 8 : Nat) : Int)] ∧ Bsl wr wr.heap.size av 16 cv k ∧ Below g w wr ∧ g + 1 ≤ wr.heap.size) (fun v _ => lb - (intOf v).toNat)
  case atStart => exact ⟨0, Nat.zero_le _, rfl, a, ca, by rw [Nat.add_zero, Nat.min_eq_left hn]; exact HX1.out, HA1.out, HB1.out, hz1⟩
  case round =>
    obtain ⟨j, hj, rfl, av, cv, hx, hv, hb, hz⟩ := hrel
    have j0 : (0 : Int) ≤ j := by omega
    by_cases hlt : j < lb
    · have j1 : (j : Int) < lb := by omega
      obtain ⟨tb, toff, rfl, htb, htc⟩ := HT.out.2.2 (by omega)
      obtain ⟨hcell, htx⟩ := htc j hlt
      have hbw : Below w.heap.size w wr := by rw [HG.out]; exact hb
      have d0 := (hbw.cell (p := ⟨tb, toff + j, none⟩) htb).trans hcell
      have htx := htx.step hbw
      obtain ⟨A, hA'⟩ : ∃ A, TA j = A := ⟨_, rfl⟩
      obtain ⟨L, hL'⟩ : ∃ L, TL j = L := ⟨_, rfl⟩
      obtain ⟨C, hC'⟩ : ∃ C, TC j = C := ⟨_, rfl⟩
      obtain ⟨s, hs'⟩ : ∃ s, ts j = s := ⟨_, rfl⟩
      rw [hA', hL', hC'] at d0 htx
      rw [hs'] at htx
      have L0 : (0 : Int) ≤ L := by omega
      have L1 : (L : Int) ≤ 9223372036854775807 := by have h5 := htx.2.1; have h4 := htx.2.2.1; unfold maxLen at h4; omega
      clear hcell htc hA' hL' hC' hs'
      by_cases hlong : 1000 < L
      · have q1 : (1000 : Int) < L := by omega
        have HB := Lib.hid hb
        clear hx hv hb htx hbw
        go_wp2_with fail
        go_ret
        exact ⟨rfl, HB.out⟩
      · have q1 : (L : Int) ≤ 1000 := by omega
        obtain ⟨sp, hspe⟩ : ∃ sp, min (n + j) 8 = sp := ⟨_, rfl⟩
        rw [hspe] at hx
        have hsp8 : sp ≤ 8 := by omega
        obtain ⟨LX, MX, m, e, T, hcase, hsg⟩ := sSign_both av cv k sp hsp8 A L C s (by omega)
        have HSG := Lib.hid hsg
        have HCASE := Lib.hid hcase
        have HSPE := Lib.hid hspe
        have HX := Lib.hid hx
        have HV := Lib.hid hv
        have HB := Lib.hid hb
        have HTX := Lib.hid htx
        clear hv hb htx hbw hsg hcase hspe
        go_wp2_with fail
        go_cut [8, 9, 10] from 51 to 60 (fun u v x wx => ∃ gt ax cx bx dx, u = .pointer (some ⟨gt, 0, none⟩) ∧ v = .slice bx MX dx ∧ x = .int .i64 e ∧ wr.heap.size ≤ gt ∧ Blk wx gt 24 #[.slice ax LX cx, .int .i64 m] ∧ NewB wx wr.heap.size ax LX cx k ∧ NewB wx wr.heap.size bx MX dx T ∧ Below wr.heap.size wr wx)
        case first =>
          obtain ⟨wd, hwd⟩ : ∃ wd, wr.drew = wd := ⟨_, rfl⟩
          have bd : Below wr.heap.size wr wd := hwd ▸ (Below.refl _ wr).drew
          have zd : wr.heap.size = wd.heap.size := by rw [← hwd]; rfl
          have xd := hx.below bd hx.lt
          have c0 := xd.cell 0
          have c1 := xd.cell 1
          have dd := (bd.cell (p := ⟨tb, toff + j, none⟩) (World.block_lt_of_cell? wr _ d0)).trans d0
          have C0 := fun X (hX : Below wd.heap.size wd X) => (hX.cell (World.block_lt_of_cell? wd _ c0)).trans c0
          have C1 := fun X (hX : Below wd.heap.size wd X) => (hX.cell (World.block_lt_of_cell? wd _ c1)).trans c1
          have D0 := fun X (hX : Below wd.heap.size wd X) => (hX.cell (World.block_lt_of_cell? wd _ dd)).trans dd
          have bw : Below wd.heap.size wd wd := Below.refl _ _
          have HVd := Lib.hid (HV.out.step bd)
          have HTd := Lib.hid (HTX.out.step bd)
          have HBd := Lib.hid bd
          have HZd := Lib.hid zd
          clear xd c0 c1 dd bd zd d0 hx
          refine wpI_start (fun X => Below wd.heap.size wd X) [0, 1, 2, 3, 4, 5, 10, 6, 7, 8, 9, 11, 12, 13] hmx rfl hwd ?_
          clear hwd
          iterate 5 (
            refine wpI_read (v := ?_) (S := fun X => Below wd.heap.size wd X) bw rfl (by kernel_rfl) (by kernel_rfl) (by kernel_rfl) (fun _ _ _ h => h) (.inl ⟨by rfl, ?_⟩) ?_
            rotate_left
            · intro X hX
              have hXa := C0 X hX
              have hXb := C1 X hX
              have hXc := D0 X hX
              go_simp
              with_reducible rfl
            try simp only [Act.put, List.setIfInBounds_toArray, List.set_cons_zero, List.set_cons_succ])
          clear C0 C1 D0
          refine wpI_fork rfl rfl (by kernel_rfl) (fun K hK => ?_) (fun K hK => ?_)
          · go_simp
            refine (HSG.out wd HVd.out HTd.out).mono ?_
            rintro en w3 ⟨ax, cx, bx, dx, rfl, p1, p2, b3⟩
            refine hK _ _ b3 ?_
            clear hK K bw
            refine wpI_turn [6, 7, 8, 9, 10, 11, 12, 13] rfl ?_
            try simp only [Act.put, List.setIfInBounds_toArray, List.set_cons_zero, List.set_cons_succ]
            iterate 4 (
              refine wpI_read (v := ?_) (S := fun X => Below wd.heap.size wd X) b3 rfl (by kernel_rfl) (by kernel_rfl) (by kernel_rfl) (fun _ _ _ h => h) (.inl ⟨by rfl, ?_⟩) ?_
              rotate_left
              · intro X hX
                go_simp
                with_reducible rfl
              try simp only [Act.put, List.setIfInBounds_toArray, List.set_cons_zero, List.set_cons_succ])
            obtain ⟨w4, hw4⟩ : ∃ w4, w3.alloc (.cells #[.slice none 0 0, .int .i64 0] 24) = w4 := ⟨_, rfl⟩
            obtain ⟨gt, hgt⟩ : ∃ gt, w3.heap.size = gt := ⟨_, rfl⟩
            have b34 : Below w3.heap.size w3 w4 := by rw [← hw4]; exact (Below.refl _ w3).alloc (Nat.le_refl _) _
            have y4 : Blk w4 gt 24 #[.slice none 0 0, .int .i64 0] := by rw [← hw4, ← hgt]; exact Blk.new w3 _ _
            have f4 := fun i => y4.frozen i
            have e0 := y4.cell 0
            have e1 := y4.cell 1
            have hz3 := b3.size
            refine wpI_lone rfl (by kernel_rfl) (fun K hK => ?_)
            go_simp
            refine hK _ _ (b3.trans (b34.mono b3.size)) ?_
            clear hK K
            try simp only [Act.put, List.setIfInBounds_toArray, List.set_cons_zero, List.set_cons_succ]
            refine wpI_lone rfl (by kernel_rfl) (fun K hK => ?_)
            go_simp
            obtain ⟨w5, hw5⟩ : ∃ w5, ((w4.setCell { block := gt, off := 0 } (.slice ax LX cx)).setCell { block := gt, off := 1 } (.int .i64 m)) = w5 := ⟨_, rfl⟩
            have gs5 : w4.grownBy w5 (some gt) := by rw [← hw5]; exact only_two w4 gt _ _
            have y5 : Blk w5 gt 24 #[.slice ax LX cx, .int .i64 m] := by rw [← hw5]; exact (y4.set_ 0 _).set_ 1 _
            have b35 : Below w3.heap.size w3 w5 := b34.grown gs5 b34.size (fun k e => by injection e with e; omega)
            have bd5 := b3.trans (b35.mono b3.size)
            rw [hw5]
            refine hK _ _ bd5 ?_
            clear hK K hw5 gs5 f4 e0 e1 y4 hw4
            try simp only [Act.put, List.setIfInBounds_toArray, List.set_cons_zero, List.set_cons_succ]
            iterate 2 (
              refine wpI_read (v := ?_) (S := fun X => Below wd.heap.size wd X) bd5 rfl (by kernel_rfl) (by kernel_rfl) (by kernel_rfl) (fun _ _ _ h => h) (.inl ⟨by rfl, ?_⟩) ?_
              rotate_left
              · intro X hX
                go_simp
                with_reducible rfl
              try simp only [Act.put, List.setIfInBounds_toArray, List.set_cons_zero, List.set_cons_succ])
            refine wpI_done (by kernel_rfl) ?_
            have hzd := HZd.out
            have hbd := HBd.out
            have G1 := Lib.hid y5
            have G2 := Lib.hid ((p1.step b35).lower (show wr.heap.size ≤ wd.heap.size by omega))
            have G3 := Lib.hid ((p2.step b35).lower (show wr.heap.size ≤ wd.heap.size by omega))
            have G4 := Lib.hid (hbd.trans (bd5.mono (by omega)))
            have hgt2 : wr.heap.size ≤ gt := by omega
            clear y5 p1 p2 b3 b34 b35 bd5 hbd hzd
            go_wp2_with fail
            go_meet
            exact ⟨gt, ax, cx, bx, dx, rfl, rfl, rfl, hgt2, G1.out, G2.out, G3.out, G4.out⟩
          · obtain ⟨we, hwe⟩ : ∃ we, wd.alloc (.cells #[.slice none 0 0, .int .i64 0] 24) = we := ⟨_, rfl⟩
            obtain ⟨gt, hgt⟩ : ∃ gt, wd.heap.size = gt := ⟨_, rfl⟩
            have bde : Below wd.heap.size wd we := by rw [← hwe]; exact (Below.refl _ wd).alloc (Nat.le_refl _) _
            have ye : Blk we gt 24 #[.slice none 0 0, .int .i64 0] := by rw [← hwe, ← hgt]; exact Blk.new wd _ _
            have hze : we.heap.size = gt + 1 := by rw [← hwe, ← hgt]; exact World.size_alloc _ _
            have HSE := Lib.hid (HSG.out we (HVd.out.step bde) (HTd.out.step bde))
            go_simp
            refine hK _ _ bde ?_
            clear hK K bw hwe
            try simp only [Act.put, List.setIfInBounds_toArray, List.set_cons_zero, List.set_cons_succ]
            refine wpI_lone rfl (by kernel_rfl) (fun K hK => ?_)
            go_simp
            refine HSE.out.mono ?_
            rintro en w3 ⟨ax, cx, bx, dx, rfl, p1, p2, b3⟩
            have bd3 := bde.trans (b3.mono bde.size)
            refine hK _ _ bd3 ?_
            clear hK K
            have y3 := ye.below b3 ye.lt
            have f4 := fun i => y3.frozen i
            have e0 := y3.cell 0
            have e1 := y3.cell 1
            try simp only [Act.put, List.setIfInBounds_toArray, List.set_cons_zero, List.set_cons_succ]
            iterate 4 (
              refine wpI_read (v := ?_) (S := fun X => Below wd.heap.size wd X) bd3 rfl (by kernel_rfl) (by kernel_rfl) (by kernel_rfl) (fun _ _ _ h => h) (.inl ⟨by rfl, ?_⟩) ?_
              rotate_left
              · intro X hX
                go_simp
                with_reducible rfl
              try simp only [Act.put, List.setIfInBounds_toArray, List.set_cons_zero, List.set_cons_succ])
            refine wpI_lone rfl (by kernel_rfl) (fun K hK => ?_)
            go_simp
            obtain ⟨w5, hw5⟩ : ∃ w5, ((w3.setCell { block := gt, off := 0 } (.slice ax LX cx)).setCell { block := gt, off := 1 } (.int .i64 m)) = w5 := ⟨_, rfl⟩
            have gs5 : w3.grownBy w5 (some gt) := by rw [← hw5]; exact only_two w3 gt _ _
            have y5 : Blk w5 gt 24 #[.slice ax LX cx, .int .i64 m] := by rw [← hw5]; exact (y3.set_ 0 _).set_ 1 _
            have bd5 : Below wd.heap.size wd w5 := bd3.grown gs5 bd3.size (fun k e => by injection e with e; omega)
            rw [hw5]
            refine hK _ _ bd5 ?_
            clear hK K hw5 f4 e0 e1
            try simp only [Act.put, List.setIfInBounds_toArray, List.set_cons_zero, List.set_cons_succ]
            iterate 2 (
              refine wpI_read (v := ?_) (S := fun X => Below wd.heap.size wd X) bd5 rfl (by kernel_rfl) (by kernel_rfl) (by kernel_rfl) (fun _ _ _ h => h) (.inl ⟨by rfl, ?_⟩) ?_
              rotate_left
              · intro X hX
                go_simp
                with_reducible rfl
              try simp only [Act.put, List.setIfInBounds_toArray, List.set_cons_zero, List.set_cons_succ])
            refine wpI_done (by kernel_rfl) ?_
            have hzd := HZd.out
            have hbd := HBd.out
            have G1 := Lib.hid y5
            have G2 := Lib.hid ((p1.beside gs5 (by omega)).lower (show wr.heap.size ≤ we.heap.size by omega))
            have G3 := Lib.hid ((p2.beside gs5 (by omega)).lower (show wr.heap.size ≤ we.heap.size by omega))
            have G4 := Lib.hid (hbd.trans (bd5.mono (by omega)))
            have hgt2 : wr.heap.size ≤ gt := by omega
            clear y5 p1 p2 b3 bd3 bd5 hbd hzd gs5 ye y3 bde HSE
            go_wp2_with fail
            go_meet
            exact ⟨gt, ax, cx, bx, dx, rfl, rfl, rfl, hgt2, G1.out, G2.out, G3.out, G4.out⟩
        obtain ⟨gt, ax, cx, bx, dx, rfl, rfl, rfl, hgt, yt, p1, p2, bw⟩ := hcut
        have xc := HX.out.below bw HX.out.lt
        have hzc := bw.size
        have hbc := HB.out.trans (bw.mono (by omega))
        have hvc := HV.out.step bw
        have hsp := HSPE.out
        rcases HCASE.out with ⟨h8, rfl, rfl, rfl, rfl, hT⟩ | ⟨rfl, rfl, rfl, rfl, rfl⟩
        · have hnj : n + j = sp := by omega
          obtain rfl := hnj
          rcases p1 with p1 | ⟨a3, rfl, ha3, q3⟩
          · omega
          rcases p2 with p2 | ⟨g3, rfl, hg3, s3⟩
          · omega
          have e1 : ((n + j : Nat) : Int) = (n : Int) + (j : Int) := by omega
          have sc := s3.cellD 0 (by omega)
          rw [hT, Nat.add_zero, e1] at sc
          rw [e1] at xc yt
          have c0 := xc.cell 0
          have c1 := xc.cell 1
          have fc := fun i => xc.frozen i
          have t0 := yt.cell 0
          have t1 := yt.cell 1
          have k8 : ¬ (8 : Int) ≤ (n : Int) + (j : Int) := by omega
          have k9 : (n : Int) + (j : Int) < 8 := by omega
          have ew : IntKind.i64.wrap ((n : Int) + (j : Int)) = (n : Int) + (j : Int) := by unfold IntKind.wrap; simp [IntKind.bits, IntKind.signed]; omega
          have XC := Lib.hid xc
          have BC := Lib.hid hbc
          have Q3 := Lib.hid q3
          have hz7 : g + 1 ≤ wc.heap.size := by omega
          have h3g : g < a3 := by omega
          have hmn : ((min (n + (j + 1)) 8 : Nat) : Int) = (n : Int) + (j : Int) + 1 := by omega
          have HMN := Lib.hid hmn
          clear xc hbc hvc q3 s3 yt bw hsp hx HX HV HB HTX HSG HCASE HSPE e1 hT hmn d0
          go_wp2_with fail
          obtain ⟨w6, hw6⟩ : ∃ w6, ((wc.setCell { block := g, off := 0 } (.slice (some ⟨a3, 0, none⟩) 16 cx)).setCell { block := g, off := 1 } (.int .i64 ((n : Int) + (j : Int) + 1))) = w6 := ⟨_, rfl⟩
          have gs6 : wc.grownBy w6 (some g) := by rw [← hw6]; exact only_two wc g _ _
          have x6 : Blk w6 g 24 #[.slice (some ⟨a3, 0, none⟩) 16 cx, .int .i64 ((n : Int) + (j : Int) + 1)] := by rw [← hw6]; exact (XC.out.set_ 0 _).set_ 1 _
          have b6 : Below g w w6 := BC.out.grown gs6 (by omega) (fun k e => by injection e with e; omega)
          have q6 := Q3.out.beside gs6 (by omega)
          have hz6 : g + 1 ≤ w6.heap.size := Nat.le_trans hz7 gs6.size
          rw [hw6]
          have X6 := Lib.hid x6
          have B6 := Lib.hid b6
          have Q6 := Lib.hid q6
          clear hw6 c0 c1 fc t0 t1 sc gs6 x6 b6 q6 XC BC Q3
          go_wp2_with fail
          go_roundw
          case rel => exact ⟨j + 1, by omega, by go_num, _, _, by rw [HMN.out]; exact X6.out, Q6.out, B6.out, hz6⟩
          case measure => simp [intOf]; omega
        · have c0 := xc.cell 0
          have c1 := xc.cell 1
          have t0 := yt.cell 0
          have t1 := yt.cell 1
          have k8 : (8 : Int) ≤ (n : Int) + (j : Int) := by omega
          have XC := Lib.hid xc
          have BC := Lib.hid hbc
          have VC := Lib.hid hvc
          have hz7 : g + 1 ≤ wc.heap.size := by omega
          have hmn : ((min (n + (j + 1)) 8 : Nat) : Int) = ((8 : Nat) : Int) := by omega
          have HMN := Lib.hid hmn
          clear xc hbc hvc yt bw hsp hx HX HV HB HTX HSG HCASE HSPE hmn d0 p1 p2
          go_wp2_with fail
          go_roundw
          case rel => exact ⟨j + 1, by omega, by go_num, _, _, by rw [HMN.out]; exact XC.out, VC.out, BC.out, hz7⟩
          case measure => simp [intOf]; omega
    · obtain rfl : j = lb := by omega
      have HB := Lib.hid hb
      clear hx hv hb
      go_wp2_with fail
      go_ret
      exact ⟨rfl, HB.out⟩
theorem signSpent_walk (a0 : Option Addr) (len0 cap0 : Nat) (s0 : List UInt8) (n0 : Int) (a1 : Option Addr) (len1 cap1 : Nat) (A1 : Nat → Option Addr) (L1 C1 : Nat → Nat) (s1 : Nat → List UInt8) (w : World) (h0 : Bsl w w.heap.size a0 len0 cap0 s0) (_x0 : (Lit.int .i64 n0).wf = true) (h1 : Texts w a1 len1 cap1 A1 L1 C1 s1) :
    Calls Try.prog 7 #[.agg #[.slice a0 len0 cap0, .int .i64 n0], .slice a1 len1 cap1] w fun e w' => e = .returned (.bool true) ∧ Below w.heap.size w w' := by
  have hk : (len0 : Int) ≤ 9223372036854775807 := by have h5 := h0.2.1; have h4 := h0.2.2.1; unfold maxLen at h4; omega
  have hb : (len1 : Int) ≤ 9223372036854775807 := by have h5 := h1.1; have h4 := h1.2.1; unfold maxLen at h4; omega
  by_cases k : len0 = 16 ∧ 0 ≤ n0 ∧ n0 ≤ 8 ∧ len1 ≤ 12
  · obtain ⟨rfl, k1, k2, k3⟩ := k
    obtain ⟨j, rfl⟩ := Int.eq_ofNat_of_zero_le k1
    exact signSpent_near a0 cap0 s0 j (by omega) a1 len1 cap1 A1 L1 C1 s1 w h0 h1 k3
  · exact signSpent_far a0 len0 cap0 n0 a1 len1 cap1 w hk hb (by omega)
end Go.Proofs.Ytoednighmdoooaa

namespace Go.Proofs.Ytoednighmdoooaa.signSpent
open Go.ChangeShapes Go.WideShapes Go.ChangeAt Go.RowKit
set_option linter.unusedVariables false

theorem own : ownKnob Try.prog.godebug = none := by kernel_rfl
theorem laidOut : laidOutB Try.prog = true := by kernel_rfl

set_option maxRecDepth 100000 in
theorem lifted (os : Os) (started : os.Started) (H : Type) (enc : TypeId × Value → H) :
    ReturnsInHanded {} Try.checked os 7 .any (Rows.signSpentSpec.pre6 enc Try.prog Try.f7 Rows.signSpentRow.domain false) (Rows.signSpentSpec.post enc Try.prog Try.f7 false true false false) := by
  refine returnsInHanded_of_change (C := Try.checked) own started (by kernel_rfl) Try.func7
    (ChangeSpec.witness6 (enc := enc) (C := Try.checked) false ⟨#[], #[.agg #[.slice none 0 0, .int .i64 0], .slice none 0 0], []⟩ 8 (by kernel_rfl) (by kernel_rfl) (by kernel_rfl) (by kernel_rfl)) ?_
  intro W base args ds gs before hval0 hW hcnd _
  have hval : ∀ (j : Nat) t v, Try.f7.params[j]? = some t → args[j]? = some v → Value.okWide Try.prog W .any base t v := hval0
  have hW' := hW
  obtain ⟨p, q, hA0, hV, rfl, hfz, hnd⟩ := hW
  have hA : DataW.TrodAll enc Try.prog W 0 (fun _ => true) true Try.f7.params.toList args.toList ds p := hA0
  rw [Try.params7] at hA hval
  obtain ⟨v0, vs0, d0, ds0, p0, q0, hargs, rfl, rfl, h0, r0⟩ := trodAll_cons hA
  obtain ⟨v1, vs1, d1, ds1, p1, q1, rfl, rfl, rfl, h1, r1⟩ := trodAll_cons r0
  obtain ⟨rfl, rfl, rfl⟩ := trodAll_nil r1
  obtain rfl : args = #[v0, v1] := by cases args; simp_all
  obtain ⟨rfl, rfl⟩ := trodVars_none hV
  have k0 := h0
  have lt0 : ∀ x ∈ p0, x.block < W.heap.size := by obtain ⟨m, hm⟩ := k0; exact DataW.trod_lt m _ _ _ hm
  obtain ⟨a0, len0, cap0, z0, n0, rfl, w0, x0⟩ := open_signer (hval 0 24 v0 rfl rfl) h0
  obtain ⟨a1, len1, cap1, rfl⟩ := okWide_slice Try.underlying42 (hval 1 42 v1 rfl rfl)
  have k1 := h1
  have lt1 : ∀ x ∈ p1, x.block < W.heap.size := by obtain ⟨m, hm⟩ := k1; exact DataW.trod_lt m _ _ _ hm
  obtain ⟨A1, L1, C1, s1, w1⟩ := open_texts h1
  clear hA0 hval0
  refine (signSpent_walk a0 len0 cap0 _ n0 a1 len1 cap1 A1 L1 C1 s1 W (bsl_of_row w0) x0 w1).mono fun e W' ⟨he, bel⟩ => ?_
  subst he
  exact ⟨_, rfl, _, _, _, [], _, [], hW', trodAll_mk1 (shut_bool Try.underlying4 _), (trodAll_cons_mk (Below.trod laidOut (by kernel_rfl) (of_decide_eq_true (by kernel_rfl)) k0 bel lt0) (trodAll_cons_mk (Below.trod laidOut (by kernel_rfl) (of_decide_eq_true (by kernel_rfl)) k1 bel lt1) trodAll_mk0)), rfl, bel.frame _, fun h => by cases h⟩

theorem over : Rows.signSpentRow.holds Try.pinned (OpenSpec.ofChange Rows.signSpentSpec) :=
  OpenClaim.holds_of_wide 7 Try.f7 rfl rfl rfl rfl rfl rfl rfl ⟨rfl, rfl, rfl, rfl, rfl⟩ rfl rfl rfl rfl rfl (by kernel_rfl) Try.func7 (by kernel_rfl)
    (of_decide_eq_true (by kernel_rfl)) (by unfold Func.isWrapper; first | (rw [if_pos (by decide +kernel)]; kernel_rfl) | (rw [if_neg (by decide +kernel)]; exact ⟨rfl, rfl⟩))
    (fun os started H enc _ => lifted os started H enc)

/-- The statement. -/
theorem proved : Rows.SignSpentSaid := over
end Go.Proofs.Ytoednighmdoooaa.signSpent
