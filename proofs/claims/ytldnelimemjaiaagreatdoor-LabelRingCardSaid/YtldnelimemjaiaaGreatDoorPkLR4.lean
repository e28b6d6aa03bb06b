/-
  Texts of one seat, one behind the other.
-/
import Derived.Laws.CopyOwn
import Derived.IntWalk
import Derived.Deep.RegionLaw
import Derived.Laws.BitsAllLaws
import Derived.Test.YtldnelimemjaiaaGreatDoorPkLR3
/-
  label.labelOf, whatever block it is handed, answers the label whose block it is, or that it is none's; nothing that was there is written.
-/
namespace Go.Proofs.YtldnelimemjaiaaGreatDoor
open Go.RowKit Go.Shelf
set_option maxRecDepth 100000

theorem lEqual_any (a : Option Addr) (la ca : Nat) (s : List UInt8) (b : Option Addr) (lb cb : Nat) (t : List UInt8) (w : World) (hA : Bsl w w.heap.size a la ca s) (hB : Bsl w w.heap.size b lb cb t) :
    Calls Tryz.prog 48 #[.slice a la ca, .slice b lb cb] w fun e w' => e = .returned (.bool (decide (s = t))) ∧ w = w' := by
  have c1 := hA.conv
  have c2 := hB.conv
  have eq : ((strOf s).toList == (strOf t).toList) = decide (s = t) := by
    rw [strOf_toList, strOf_toList]
    by_cases h : s = t <;> simp [h]
  have HE := Lib.hid eq; clear eq hA hB
  go_enter Tryz.func48, Tryz.ntmps48
  go_wp2_with fail
  go_ret
  exact ⟨by rw [← HE.out]; rfl, rfl⟩
theorem labelO_eq (b : List UInt8) : labelO b = if MayP (readL b).2.2 then (if MayL (readL b) ∧ b = blockL (readL b) then some (readL b) else none) else none := rfl
/-- A label, and whether it is one. -/
def ofV : Option Lb → Lb × Bool
  | some l => (l, true)
  | none => (l0, false)
set_option maxHeartbeats 4000000 in
theorem lOf_any (A : Option Addr) (cap : Nat) (s : List UInt8) (w : World) (hB : Bsl w w.heap.size A 256 cap s) (hz : Szs w) : Calls Tryz.prog 21 #[.slice A 256 cap] w fun e w' => e = .returned (.tuple #[lbV (ofV (labelO s)).1, .bool (ofV (labelO s)).2]) ∧ Below w.heap.size w w' := by
  have hmx : Tryz.prog.follows Departure.mixedOrders = true := by kernel_rfl
  have hl := hB.1
  obtain ⟨b0, o0, rfl, hblt, hcell⟩ := hB.2.2.2.2 (by omega)
  obtain ⟨A, hA⟩ : ∃ A : Option Addr, some (⟨b0, o0, none⟩ : Addr) = A := ⟨_, rfl⟩
  have hcap := hB.2.1
  have hsl : ∀ X : World, (Instr.slice 45 (.slice (some ⟨b0, o0, none⟩) 256 cap) (some (.int .i64 9)) (some (.int .i64 25)) none).run Tryz.prog X = .ok (.slice (some ⟨b0, o0 + 9, none⟩) 16 (cap - 9)) X := fun X => slice_lh X b0 o0 256 cap 9 16 (by omega) (by omega)
  have hwin := hB.win 9 16 (by omega)
  rw [hA] at hsl hB
  have hk : Blk (w.alloc (.cells #[.int .u32 0, .int .u32 0, .int .i64 0, .int .u32 0, .int .u32 0, .int .u32 0, .int .u32 0] 30)) w.heap.size 30 #[.int .u32 0, .int .u32 0, .int .i64 0, .int .u32 0, .int .u32 0, .int .u32 0, .int .u32 0] := Blk.new w _ _
  have hb1 : Below w.heap.size w (w.alloc (.cells #[.int .u32 0, .int .u32 0, .int .i64 0, .int .u32 0, .int .u32 0, .int .u32 0, .int .u32 0] 30)) := (Below.refl _ w).alloc (Nat.le_refl _) _
  have hrd := Read_any _ _ _ _ _ (hwin.step hb1) (hz.step hb1)
  have hlw : ((s.drop 9).take 16).length = 16 := hwin.1
  have HO := Lib.hid (labelO_eq s)
  have hwf := wf_readL s
  obtain ⟨R, hR⟩ : ∃ R, labelO s = R := ⟨_, rfl⟩
  rw [hR] at HO ⊢
  clear hR
  obtain ⟨L, hL⟩ : ∃ L, readL s = L := ⟨_, rfl⟩
  have e1 : leN ((s.drop 1).take 4) = L.1 := by rw [← hL]; rfl
  have e2 : leN ((s.drop 5).take 4) = L.2.1 := by rw [← hL]; rfl
  have e3 : getP ((s.drop 9).take 16) = L.2.2 := by rw [← hL]; rfl
  rw [hL] at hwf HO
  rw [preadO, if_pos hlw, e3] at hrd
  obtain ⟨g, e, a, b, c, d, f⟩ := L
  simp only at e1 e2 e3 hrd HO
  have HG := Lib.hid e1
  have HE := Lib.hid e2
  have HWF := Lib.hid hwf
  have HK := Lib.hid hk
  have HB1 := Lib.hid hb1
  have HZ := Lib.hid hz
  rw [hA]
  clear hL e1 e2 e3 hlw hwin hwf hk hb1 hz hl hblt hcell hcap hA
  by_cases hmp : MayP (a, b, c, d, f)
  · rw [if_pos hmp] at hrd
    rw [if_pos hmp] at HO
    have HR := Lib.hid hrd
    clear hrd hmp
    go_enter Tryz.func21, Tryz.ntmps21
    go_wp2_with (go_at_call 46
                 refine HR.out.mono ?_
                 rintro ev w1 ⟨rfl, b1⟩
                 have HB2 := Lib.hid (HB1.out.trans (b1.mono (by simp)))
                 have HK2 := Lib.hid (HK.out.below b1 HK.out.lt)
                 have HB3 := Lib.hid (HB2.out.alloc HB2.out.size (.cells #[.int .i64 a, .int .u32 (b : Int), .int .u32 (c : Int), .int .u32 (d : Int), .int .u32 (f : Int)] 28))
                 have HK3 := Lib.hid (HK2.out.alloc (.cells #[.int .i64 a, .int .u32 (b : Int), .int .u32 (c : Int), .int .u32 (d : Int), .int .u32 (f : Int)] 28))
                 have HP3 := Lib.hid (Blk.new w1 28 #[.int .i64 a, .int .u32 (b : Int), .int .u32 (c : Int), .int .u32 (d : Int), .int .u32 (f : Int)])
                 obtain ⟨WC, hWC⟩ : ∃ x, w1.alloc (.cells #[.int .i64 a, .int .u32 (b : Int), .int .u32 (c : Int), .int .u32 (d : Int), .int .u32 (f : Int)] 28) = x := ⟨_, rfl⟩
                 obtain ⟨GP, hGP⟩ : ∃ x, w1.heap.size = x := ⟨_, rfl⟩
                 rw [hWC] at HB3 HK3 HP3
                 rw [hGP] at HP3
                 clear b1)
    clear hWC hGP
    have c0 : True := trivial
    have c1 : True := trivial
    have c2 : True := trivial
    have c3 : True := trivial
    have c4 : True := trivial
    go_cut [6] from 16 to 34 (fun v wx => ∃ ga, v = .pointer (some ⟨ga, 0, none⟩) ∧ w.heap.size < ga ∧ Blk wx ga 30 #[.int .u32 (g : Int), .int .u32 (e : Int), .int .i64 a, .int .u32 (b : Int), .int .u32 (c : Int), .int .u32 (d : Int), .int .u32 (f : Int)] ∧ Below w.heap.size w wx ∧ Blk wx w.heap.size 30 #[.int .u32 0, .int .u32 0, .int .i64 0, .int .u32 0, .int .u32 0, .int .u32 0, .int .u32 0])
    case first =>
      obtain ⟨wd, hwd⟩ : ∃ wd, WC.drew = wd := ⟨_, rfl⟩
      have HBd := Lib.hid (show Below w.heap.size w wd by rw [← hwd]; exact HB3.out.drew)
      have HKd := Lib.hid (show Blk wd w.heap.size 30 #[.int .u32 0, .int .u32 0, .int .i64 0, .int .u32 0, .int .u32 0, .int .u32 0, .int .u32 0] by rw [← hwd]; exact HK3.out.drew)
      have HGd := Lib.hid HKd.out.lt
      have xp : Blk wd GP 28 #[.int .i64 a, .int .u32 (b : Int), .int .u32 (c : Int), .int .u32 (d : Int), .int .u32 (f : Int)] := by rw [← hwd]; exact HP3.out.drew
      have HS := Lib.hid (hB.step HBd.out)
      have HN1 : Hid (∀ X, Below wd.heap.size wd X → Calls Tryz.prog 47 #[.slice A 256 cap, .int .i64 1] X fun e w' => e = .returned (.int .u32 (g : Int)) ∧ Below X.heap.size X w') := Lib.hid fun X hX => by
        have := lNum_any (HS.out.step hX) 1 (by omega)
        rwa [HG.out] at this
      have HN3 : Hid (∀ X, Below wd.heap.size wd X → Calls Tryz.prog 47 #[.slice A 256 cap, .int .i64 5] X fun e' w' => e' = .returned (.int .u32 (e : Int)) ∧ Below X.heap.size X w') := Lib.hid fun X hX => by
        have := lNum_any (HS.out.step hX) 5 (by omega)
        rwa [HE.out] at this
      obtain ⟨p0_, p1_, p2_, p3_, p4_⟩ := xp.five
      have P0 := fun X (hX : Below wd.heap.size wd X) => (hX.cell (p := ⟨GP, 0, none⟩) xp.lt).trans p0_
      have P1 := fun X (hX : Below wd.heap.size wd X) => (hX.cell (p := ⟨GP, 1, none⟩) xp.lt).trans p1_
      have P2 := fun X (hX : Below wd.heap.size wd X) => (hX.cell (p := ⟨GP, 2, none⟩) xp.lt).trans p2_
      have P3 := fun X (hX : Below wd.heap.size wd X) => (hX.cell (p := ⟨GP, 3, none⟩) xp.lt).trans p3_
      have P4 := fun X (hX : Below wd.heap.size wd X) => (hX.cell (p := ⟨GP, 4, none⟩) xp.lt).trans p4_
      have hbwd : Below wd.heap.size wd wd := Below.refl _ _
      clear p0_ p1_ p2_ p3_ p4_ xp c0 c1 c2 c3 c4
      refine wpI_start (Below wd.heap.size wd) [0, 2, 4, 1, 6, 3, 5, 7] hmx rfl hwd ?_
      clear hwd
      iterate 3 (
        refine wpI_read (v := ?_) hbwd rfl (by kernel_rfl) (by kernel_rfl) (by kernel_rfl) (fun _ _ _ h => h) (.inl ⟨by rfl, ?_⟩) ?_
        rotate_left
        · intro X hX
          have q0 := P0 X hX
          have q1 := P1 X hX
          have q2 := P2 X hX
          have q3 := P3 X hX
          have q4 := P4 X hX
          clear hX
          go_simp
          with_reducible rfl
        try simp only [Act.put, List.setIfInBounds_toArray, List.set_cons_zero, List.set_cons_succ])
      clear P0 P1 P2 P3 P4
      refine wpI_fork rfl rfl (by kernel_rfl) (fun K hK => ?_) (fun K hK => ?_)
      · go_simp
        refine (HN1.out wd hbwd).mono ?_
        rintro ev wx1 ⟨rfl, bn1⟩
        have hb1 := hbwd.trans (bn1.mono hbwd.size)
        refine hK _ _ hb1 ?_
        clear hK K
        try simp only [Act.put, List.setIfInBounds_toArray, List.set_cons_zero, List.set_cons_succ]
        refine wpI_turn [3, 6, 5, 7] rfl ?_
        refine wpI_fork rfl rfl (by kernel_rfl) (fun K hK => ?_) (fun K hK => ?_)
        · go_simp
          refine (HN3.out wx1 hb1).mono ?_
          rintro ev wx2 ⟨rfl, bn2⟩
          have hb2 := hb1.trans (bn2.mono hb1.size)
          refine hK _ _ hb2 ?_
          clear hK K
          try simp only [Act.put, List.setIfInBounds_toArray, List.set_cons_zero, List.set_cons_succ]
          refine wpI_turn [5, 6, 7] rfl ?_
          iterate 1 (
            refine wpI_read (v := ?_) hb2 rfl (by kernel_rfl) (by kernel_rfl) (by kernel_rfl) (fun _ _ _ h => h) (.inl ⟨by rfl, ?_⟩) ?_
            rotate_left
            · intro X hX
              clear hX
              go_simp
              with_reducible rfl
            try simp only [Act.put, List.setIfInBounds_toArray, List.set_cons_zero, List.set_cons_succ])
          refine wpI_lone rfl (by kernel_rfl) (fun K hK => ?_)
          go_simp
          have hb3 := hb2.alloc hb2.size (.cells #[.int .u32 0, .int .u32 0, .int .i64 0, .int .u32 0, .int .u32 0, .int .u32 0, .int .u32 0] 30)
          have xa3 := Blk.new wx2 30 #[.int .u32 0, .int .u32 0, .int .i64 0, .int .u32 0, .int .u32 0, .int .u32 0, .int .u32 0]
          obtain ⟨wx3, hwa⟩ : ∃ x, wx2.alloc (.cells #[.int .u32 0, .int .u32 0, .int .i64 0, .int .u32 0, .int .u32 0, .int .u32 0, .int .u32 0] 30) = x := ⟨_, rfl⟩
          obtain ⟨ga, hga⟩ : ∃ ga, wx2.heap.size = ga := ⟨_, rfl⟩
          have hgl : wd.heap.size ≤ ga := by rw [← hga]; exact hb2.size
          rw [hwa] at hb3 xa3 ⊢
          rw [hga] at xa3 ⊢
          refine hK _ _ hb3 ?_
          clear hK K hwa hga
          try simp only [Act.put, List.setIfInBounds_toArray, List.set_cons_zero, List.set_cons_succ]
          refine wpI_lone rfl (by kernel_rfl) (fun K hK => ?_)
          have d0 := xa3.cell 0
          have d1 := xa3.cell 1
          have d2 := xa3.cell 2
          have d3 := xa3.cell 3
          have d4 := xa3.cell 4
          have d5 := xa3.cell 5
          have d6 := xa3.cell 6
          have hfz := fun i => xa3.frozen i
          go_simp
          have hxs := xa3.set7 (.int .u32 (g : Int)) (.int .u32 (e : Int)) (.int .i64 a) (.int .u32 (b : Int)) (.int .u32 (c : Int)) (.int .u32 (d : Int)) (.int .u32 (f : Int))
          have hbs := below_set7 hb3 hgl (.int .u32 (g : Int)) (.int .u32 (e : Int)) (.int .i64 a) (.int .u32 (b : Int)) (.int .u32 (c : Int)) (.int .u32 (d : Int)) (.int .u32 (f : Int))
          obtain ⟨ws, hws⟩ : ∃ ws, set7 wx3 ga (.int .u32 (g : Int)) (.int .u32 (e : Int)) (.int .i64 a) (.int .u32 (b : Int)) (.int .u32 (c : Int)) (.int .u32 (d : Int)) (.int .u32 (f : Int)) = ws := ⟨_, rfl⟩
          rw [hws] at hxs hbs
          simp only [set7] at hws
          rw [hws]
          refine hK _ _ hbs ?_
          clear hK K d0 d1 d2 d3 d4 d5 d6 hfz hws
          try simp only [Act.put, List.setIfInBounds_toArray, List.set_cons_zero, List.set_cons_succ]
          refine wpI_done (by kernel_rfl) ?_
          go_wp2_with fail
          go_meet
          exact ⟨ga, rfl, Nat.lt_of_lt_of_le HGd.out hgl, hxs, HBd.out.trans (hbs.mono HBd.out.size), HKd.out.below hbs HKd.out.lt⟩
        · go_simp
          have hb4 := hb1.alloc hb1.size (.cells #[.int .u32 0, .int .u32 0, .int .i64 0, .int .u32 0, .int .u32 0, .int .u32 0, .int .u32 0] 30)
          have xa4 := Blk.new wx1 30 #[.int .u32 0, .int .u32 0, .int .i64 0, .int .u32 0, .int .u32 0, .int .u32 0, .int .u32 0]
          obtain ⟨wx4, hwa⟩ : ∃ x, wx1.alloc (.cells #[.int .u32 0, .int .u32 0, .int .i64 0, .int .u32 0, .int .u32 0, .int .u32 0, .int .u32 0] 30) = x := ⟨_, rfl⟩
          obtain ⟨ga, hga⟩ : ∃ ga, wx1.heap.size = ga := ⟨_, rfl⟩
          have hgl : wd.heap.size ≤ ga := by rw [← hga]; exact hb1.size
          rw [hwa] at hb4 xa4 ⊢
          rw [hga] at xa4 ⊢
          refine hK _ _ hb4 ?_
          clear hK K hwa hga
          try simp only [Act.put, List.setIfInBounds_toArray, List.set_cons_zero, List.set_cons_succ]
          refine wpI_lone rfl (by kernel_rfl) (fun K hK => ?_)
          go_simp
          refine (HN3.out wx4 hb4).mono ?_
          rintro ev wx5 ⟨rfl, bn5⟩
          have hb5 := hb4.trans (bn5.mono hb4.size)
          have xa5 := xa4.below bn5 xa4.lt
          refine hK _ _ hb5 ?_
          clear hK K
          try simp only [Act.put, List.setIfInBounds_toArray, List.set_cons_zero, List.set_cons_succ]
          iterate 1 (
            refine wpI_read (v := ?_) hb5 rfl (by kernel_rfl) (by kernel_rfl) (by kernel_rfl) (fun _ _ _ h => h) (.inl ⟨by rfl, ?_⟩) ?_
            rotate_left
            · intro X hX
              clear hX
              go_simp
              with_reducible rfl
            try simp only [Act.put, List.setIfInBounds_toArray, List.set_cons_zero, List.set_cons_succ])
          refine wpI_lone rfl (by kernel_rfl) (fun K hK => ?_)
          have d0 := xa5.cell 0
          have d1 := xa5.cell 1
          have d2 := xa5.cell 2
          have d3 := xa5.cell 3
          have d4 := xa5.cell 4
          have d5 := xa5.cell 5
          have d6 := xa5.cell 6
          have hfz := fun i => xa5.frozen i
          go_simp
          have hxs := xa5.set7 (.int .u32 (g : Int)) (.int .u32 (e : Int)) (.int .i64 a) (.int .u32 (b : Int)) (.int .u32 (c : Int)) (.int .u32 (d : Int)) (.int .u32 (f : Int))
          have hbs := below_set7 hb5 hgl (.int .u32 (g : Int)) (.int .u32 (e : Int)) (.int .i64 a) (.int .u32 (b : Int)) (.int .u32 (c : Int)) (.int .u32 (d : Int)) (.int .u32 (f : Int))
          obtain ⟨ws, hws⟩ : ∃ ws, set7 wx5 ga (.int .u32 (g : Int)) (.int .u32 (e : Int)) (.int .i64 a) (.int .u32 (b : Int)) (.int .u32 (c : Int)) (.int .u32 (d : Int)) (.int .u32 (f : Int)) = ws := ⟨_, rfl⟩
          rw [hws] at hxs hbs
          simp only [set7] at hws
          rw [hws]
          refine hK _ _ hbs ?_
          clear hK K d0 d1 d2 d3 d4 d5 d6 hfz hws
          try simp only [Act.put, List.setIfInBounds_toArray, List.set_cons_zero, List.set_cons_succ]
          refine wpI_done (by kernel_rfl) ?_
          go_wp2_with fail
          go_meet
          exact ⟨ga, rfl, Nat.lt_of_lt_of_le HGd.out hgl, hxs, HBd.out.trans (hbs.mono HBd.out.size), HKd.out.below hbs HKd.out.lt⟩
      · go_simp
        have hb6 := hbwd.alloc hbwd.size (.cells #[.int .u32 0, .int .u32 0, .int .i64 0, .int .u32 0, .int .u32 0, .int .u32 0, .int .u32 0] 30)
        have xa6 := Blk.new wd 30 #[.int .u32 0, .int .u32 0, .int .i64 0, .int .u32 0, .int .u32 0, .int .u32 0, .int .u32 0]
        obtain ⟨wx6, hwa⟩ : ∃ x, wd.alloc (.cells #[.int .u32 0, .int .u32 0, .int .i64 0, .int .u32 0, .int .u32 0, .int .u32 0, .int .u32 0] 30) = x := ⟨_, rfl⟩
        obtain ⟨ga, hga⟩ : ∃ ga, wd.heap.size = ga := ⟨_, rfl⟩
        have hgl : wd.heap.size ≤ ga := by rw [← hga]; exact hbwd.size
        rw [hwa] at hb6 xa6 ⊢
        rw [hga] at xa6 ⊢
        refine hK _ _ hb6 ?_
        clear hK K hwa hga
        try simp only [Act.put, List.setIfInBounds_toArray, List.set_cons_zero, List.set_cons_succ]
        refine wpI_lone rfl (by kernel_rfl) (fun K hK => ?_)
        go_simp
        refine (HN1.out wx6 hb6).mono ?_
        rintro ev wx7 ⟨rfl, bn7⟩
        have hb7 := hb6.trans (bn7.mono hb6.size)
        have xa7 := xa6.below bn7 xa6.lt
        refine hK _ _ hb7 ?_
        clear hK K
        try simp only [Act.put, List.setIfInBounds_toArray, List.set_cons_zero, List.set_cons_succ]
        refine wpI_lone rfl (by kernel_rfl) (fun K hK => ?_)
        go_simp
        refine (HN3.out wx7 hb7).mono ?_
        rintro ev wx8 ⟨rfl, bn8⟩
        have hb8 := hb7.trans (bn8.mono hb7.size)
        have xa8 := xa7.below bn8 xa7.lt
        refine hK _ _ hb8 ?_
        clear hK K
        try simp only [Act.put, List.setIfInBounds_toArray, List.set_cons_zero, List.set_cons_succ]
        iterate 1 (
          refine wpI_read (v := ?_) hb8 rfl (by kernel_rfl) (by kernel_rfl) (by kernel_rfl) (fun _ _ _ h => h) (.inl ⟨by rfl, ?_⟩) ?_
          rotate_left
          · intro X hX
            clear hX
            go_simp
            with_reducible rfl
          try simp only [Act.put, List.setIfInBounds_toArray, List.set_cons_zero, List.set_cons_succ])
        refine wpI_lone rfl (by kernel_rfl) (fun K hK => ?_)
        have d0 := xa8.cell 0
        have d1 := xa8.cell 1
        have d2 := xa8.cell 2
        have d3 := xa8.cell 3
        have d4 := xa8.cell 4
        have d5 := xa8.cell 5
        have d6 := xa8.cell 6
        have hfz := fun i => xa8.frozen i
        go_simp
        have hxs := xa8.set7 (.int .u32 (g : Int)) (.int .u32 (e : Int)) (.int .i64 a) (.int .u32 (b : Int)) (.int .u32 (c : Int)) (.int .u32 (d : Int)) (.int .u32 (f : Int))
        have hbs := below_set7 hb8 hgl (.int .u32 (g : Int)) (.int .u32 (e : Int)) (.int .i64 a) (.int .u32 (b : Int)) (.int .u32 (c : Int)) (.int .u32 (d : Int)) (.int .u32 (f : Int))
        obtain ⟨ws, hws⟩ : ∃ ws, set7 wx8 ga (.int .u32 (g : Int)) (.int .u32 (e : Int)) (.int .i64 a) (.int .u32 (b : Int)) (.int .u32 (c : Int)) (.int .u32 (d : Int)) (.int .u32 (f : Int)) = ws := ⟨_, rfl⟩
        rw [hws] at hxs hbs
        simp only [set7] at hws
        rw [hws]
        refine hK _ _ hbs ?_
        clear hK K d0 d1 d2 d3 d4 d5 d6 hfz hws
        try simp only [Act.put, List.setIfInBounds_toArray, List.set_cons_zero, List.set_cons_succ]
        refine wpI_done (by kernel_rfl) ?_
        go_wp2_with fail
        go_meet
        exact ⟨ga, rfl, Nat.lt_of_lt_of_le HGd.out hgl, hxs, HBd.out.trans (hbs.mono HBd.out.size), HKd.out.below hbs HKd.out.lt⟩
    case rest =>
      obtain ⟨ga, rfl, hgl, hxp, hbx, hkx⟩ := hcut
      obtain ⟨c0, c1, c2, c3, c4, c5, c6⟩ := hxp.seven
      have HBx := Lib.hid hbx
      have HKx := Lib.hid hkx
      have HPx := Lib.hid hxp
      have hml := lMay_any (g, e, a, b, c, d, f) wc
      have hbs := hB.step hbx
      clear hbx hkx hxp
      by_cases hmay : MayL (g, e, a, b, c, d, f)
      · rw [decide_eq_true hmay] at hml
        have hbk := fun W hz => lBlock_any (g, e, a, b, c, d, f) HWF.out hmay W hz
        obtain ⟨BK, hBK⟩ : ∃ BK, blockL (g, e, a, b, c, d, f) = BK := ⟨_, rfl⟩
        rw [hBK] at HO
        have HBE := Lib.hid hBK
        have HM := Lib.hid hml
        have HBK := Lib.hid hbk
        have HS := Lib.hid hbs
        clear hml hbk hbs hBK
        by_cases heq : s = BK
        · have hO : some (g, e, a, b, c, d, f) = R := by rw [HO.out, if_pos ⟨hmay, heq⟩]
          subst hO
          have ev : decide (s = BK) = true := decide_eq_true heq
          clear HO heq hmay
          go_wp2_with (first
            | (go_at_call 14
               refine HM.out.mono ?_
               rintro ev1 w2 ⟨rfl, b2⟩
               have HB4 := Lib.hid (HBx.out.trans (b2.mono HBx.out.size))
               have HK4 := Lib.hid (HKx.out.below b2 HKx.out.lt)
               have HP4 := Lib.hid (HPx.out.below b2 HPx.out.lt)
               have HS4 := Lib.hid (HS.out.step b2)
               obtain ⟨c0, c1, c2, c3, c4, c5, c6⟩ := HP4.out.seven
               clear b2)
            | (go_at_call 16
               refine (HBK.out w2 (HZ.out.step HB4.out)).mono ?_
               rintro ev2 w3 ⟨gb, rfl, zb, sb, b3⟩
               rw [HBE.out] at sb
               have HB5 := Lib.hid (HB4.out.trans (b3.mono HB4.out.size))
               have HK5 := Lib.hid (HK4.out.below b3 HK4.out.lt)
               have HP5 := Lib.hid (HP4.out.below b3 HP4.out.lt)
               have HQ := Lib.hid (lEqual_any A 256 cap s (some ⟨gb, 0, none⟩) 256 256 BK w3 (HS4.out.step b3) sb)
               clear b3 sb zb)
            | (go_at_call 48
               refine HQ.out.mono ?_
               rintro ev3 w4 ⟨rfl, rfl⟩
               rw [ev]
               obtain ⟨c0, c1, c2, c3, c4, c5, c6⟩ := HP5.out.seven
               have d0 : w3.cell? ⟨w.heap.size, 0, none⟩ = some (.int .u32 0) := HK5.out.cell 0
               have d1 : w3.cell? ⟨w.heap.size, 1, none⟩ = some (.int .u32 0) := HK5.out.cell 1
               have d2 : w3.cell? ⟨w.heap.size, 2, none⟩ = some (.int .i64 0) := HK5.out.cell 2
               have d3 : w3.cell? ⟨w.heap.size, 3, none⟩ = some (.int .u32 0) := HK5.out.cell 3
               have d4 : w3.cell? ⟨w.heap.size, 4, none⟩ = some (.int .u32 0) := HK5.out.cell 4
               have d5 : w3.cell? ⟨w.heap.size, 5, none⟩ = some (.int .u32 0) := HK5.out.cell 5
               have d6 : w3.cell? ⟨w.heap.size, 6, none⟩ = some (.int .u32 0) := HK5.out.cell 6
               have fr : ∀ i, w3.frozen? ⟨w.heap.size, i, none⟩ = false := fun i => HK5.out.frozen i
               clear ev))
          obtain ⟨wf, hwf⟩ : ∃ wf, set7 w3 w.heap.size (.int .u32 (g : Int)) (.int .u32 (e : Int)) (.int .i64 a) (.int .u32 (b : Int)) (.int .u32 (c : Int)) (.int .u32 (d : Int)) (.int .u32 (f : Int)) = wf := ⟨_, rfl⟩
          have hXF := HK5.out.set7 (.int .u32 (g : Int)) (.int .u32 (e : Int)) (.int .i64 a) (.int .u32 (b : Int)) (.int .u32 (c : Int)) (.int .u32 (d : Int)) (.int .u32 (f : Int))
          have hBF := below_set7 HB5.out (Nat.le_refl w.heap.size) (.int .u32 (g : Int)) (.int .u32 (e : Int)) (.int .i64 a) (.int .u32 (b : Int)) (.int .u32 (c : Int)) (.int .u32 (d : Int)) (.int .u32 (f : Int))
          rw [hwf] at hXF hBF
          simp only [set7] at hwf
          rw [hwf]
          clear hwf d0 d1 d2 d3 d4 d5 d6 fr
          have e0 := hXF.cell 0
          have e1 := hXF.cell 1
          have e2 := hXF.cell 2
          have e3 := hXF.cell 3
          have e4 := hXF.cell 4
          have e5 := hXF.cell 5
          have e6 := hXF.cell 6
          exact bodyPost_ret (v := .tuple #[lbV (g, e, a, b, c, d, f), .bool true]) (by simp [results, Tryz.f21, go_sem, e0, e1, e2, e3, e4, e5, e6]) rfl ⟨rfl, hBF⟩
        · have hO : none = R := by rw [HO.out, if_neg (fun h => heq h.2)]
          subst hO
          have ev : decide (s = BK) = false := decide_eq_false heq
          clear HO heq hmay
          go_wp2_with (first
            | (go_at_call 14
               refine HM.out.mono ?_
               rintro ev1 w2 ⟨rfl, b2⟩
               have HB4 := Lib.hid (HBx.out.trans (b2.mono HBx.out.size))
               have HK4 := Lib.hid (HKx.out.below b2 HKx.out.lt)
               have HP4 := Lib.hid (HPx.out.below b2 HPx.out.lt)
               have HS4 := Lib.hid (HS.out.step b2)
               obtain ⟨c0, c1, c2, c3, c4, c5, c6⟩ := HP4.out.seven
               clear b2)
            | (go_at_call 16
               refine (HBK.out w2 (HZ.out.step HB4.out)).mono ?_
               rintro ev2 w3 ⟨gb, rfl, zb, sb, b3⟩
               rw [HBE.out] at sb
               have HB5 := Lib.hid (HB4.out.trans (b3.mono HB4.out.size))
               have HK5 := Lib.hid (HK4.out.below b3 HK4.out.lt)
               have HP5 := Lib.hid (HP4.out.below b3 HP4.out.lt)
               have HQ := Lib.hid (lEqual_any A 256 cap s (some ⟨gb, 0, none⟩) 256 256 BK w3 (HS4.out.step b3) sb)
               clear b3 sb zb)
            | (go_at_call 48
               refine HQ.out.mono ?_
               rintro ev3 w4 ⟨rfl, rfl⟩
               rw [ev]
               obtain ⟨c0, c1, c2, c3, c4, c5, c6⟩ := HP5.out.seven
               have d0 : w3.cell? ⟨w.heap.size, 0, none⟩ = some (.int .u32 0) := HK5.out.cell 0
               have d1 : w3.cell? ⟨w.heap.size, 1, none⟩ = some (.int .u32 0) := HK5.out.cell 1
               have d2 : w3.cell? ⟨w.heap.size, 2, none⟩ = some (.int .i64 0) := HK5.out.cell 2
               have d3 : w3.cell? ⟨w.heap.size, 3, none⟩ = some (.int .u32 0) := HK5.out.cell 3
               have d4 : w3.cell? ⟨w.heap.size, 4, none⟩ = some (.int .u32 0) := HK5.out.cell 4
               have d5 : w3.cell? ⟨w.heap.size, 5, none⟩ = some (.int .u32 0) := HK5.out.cell 5
               have d6 : w3.cell? ⟨w.heap.size, 6, none⟩ = some (.int .u32 0) := HK5.out.cell 6
               have fr : ∀ i, w3.frozen? ⟨w.heap.size, i, none⟩ = false := fun i => HK5.out.frozen i
               clear ev))
          obtain ⟨wf, hwf⟩ : ∃ wf, set7 w3 w.heap.size (.int .u32 0) (.int .u32 0) (.int .i64 0) (.int .u32 0) (.int .u32 0) (.int .u32 0) (.int .u32 0) = wf := ⟨_, rfl⟩
          have hXF := HK5.out.set7 (.int .u32 0) (.int .u32 0) (.int .i64 0) (.int .u32 0) (.int .u32 0) (.int .u32 0) (.int .u32 0)
          have hBF := below_set7 HB5.out (Nat.le_refl w.heap.size) (.int .u32 0) (.int .u32 0) (.int .i64 0) (.int .u32 0) (.int .u32 0) (.int .u32 0) (.int .u32 0)
          rw [hwf] at hXF hBF
          simp only [set7] at hwf
          rw [hwf]
          clear hwf d0 d1 d2 d3 d4 d5 d6 fr
          have e0 := hXF.cell 0
          have e1 := hXF.cell 1
          have e2 := hXF.cell 2
          have e3 := hXF.cell 3
          have e4 := hXF.cell 4
          have e5 := hXF.cell 5
          have e6 := hXF.cell 6
          exact bodyPost_ret (v := .tuple #[lbV l0, .bool false]) (by simp [results, Tryz.f21, go_sem, e0, e1, e2, e3, e4, e5, e6]) rfl ⟨rfl, hBF⟩
      · have hO : none = R := by rw [HO.out, if_neg (fun h => hmay h.1)]
        subst hO
        rw [decide_eq_false hmay] at hml
        have HM := Lib.hid hml
        clear hml HO hmay hbs
        go_wp2_with (go_at_call 14
                     refine HM.out.mono ?_
                     rintro ev1 w2 ⟨rfl, b2⟩
                     have HB4 := Lib.hid (HBx.out.trans (b2.mono HBx.out.size))
                     have HK4 := Lib.hid (HKx.out.below b2 HKx.out.lt)
                     have d0 : w2.cell? ⟨w.heap.size, 0, none⟩ = some (.int .u32 0) := HK4.out.cell 0
                     have d1 : w2.cell? ⟨w.heap.size, 1, none⟩ = some (.int .u32 0) := HK4.out.cell 1
                     have d2 : w2.cell? ⟨w.heap.size, 2, none⟩ = some (.int .i64 0) := HK4.out.cell 2
                     have d3 : w2.cell? ⟨w.heap.size, 3, none⟩ = some (.int .u32 0) := HK4.out.cell 3
                     have d4 : w2.cell? ⟨w.heap.size, 4, none⟩ = some (.int .u32 0) := HK4.out.cell 4
                     have d5 : w2.cell? ⟨w.heap.size, 5, none⟩ = some (.int .u32 0) := HK4.out.cell 5
                     have d6 : w2.cell? ⟨w.heap.size, 6, none⟩ = some (.int .u32 0) := HK4.out.cell 6
                     have fr : ∀ i, w2.frozen? ⟨w.heap.size, i, none⟩ = false := fun i => HK4.out.frozen i
                     clear b2)
        obtain ⟨wf, hwf⟩ : ∃ wf, set7 w2 w.heap.size (.int .u32 0) (.int .u32 0) (.int .i64 0) (.int .u32 0) (.int .u32 0) (.int .u32 0) (.int .u32 0) = wf := ⟨_, rfl⟩
        have hXF := HK4.out.set7 (.int .u32 0) (.int .u32 0) (.int .i64 0) (.int .u32 0) (.int .u32 0) (.int .u32 0) (.int .u32 0)
        have hBF := below_set7 HB4.out (Nat.le_refl w.heap.size) (.int .u32 0) (.int .u32 0) (.int .i64 0) (.int .u32 0) (.int .u32 0) (.int .u32 0) (.int .u32 0)
        rw [hwf] at hXF hBF
        simp only [set7] at hwf
        rw [hwf]
        clear hwf d0 d1 d2 d3 d4 d5 d6 fr
        have e0 := hXF.cell 0
        have e1 := hXF.cell 1
        have e2 := hXF.cell 2
        have e3 := hXF.cell 3
        have e4 := hXF.cell 4
        have e5 := hXF.cell 5
        have e6 := hXF.cell 6
        exact bodyPost_ret (v := .tuple #[lbV l0, .bool false]) (by simp [results, Tryz.f21, go_sem, e0, e1, e2, e3, e4, e5, e6]) rfl ⟨rfl, hBF⟩
  · rw [if_neg hmp] at hrd
    rw [if_neg hmp] at HO
    obtain rfl := HO.out
    have HR := Lib.hid hrd
    clear hrd hmp
    go_enter Tryz.func21, Tryz.ntmps21
    go_wp2_with (go_at_call 46
                 refine HR.out.mono ?_
                 rintro ev w1 ⟨rfl, b1⟩
                 have HB2 := Lib.hid (HB1.out.trans (b1.mono (by simp)))
                 have HK2 := Lib.hid (HK.out.below b1 HK.out.lt)
                 have HB3 := Lib.hid (HB2.out.alloc HB2.out.size (.cells #[.int .i64 0, .int .u32 0, .int .u32 0, .int .u32 0, .int .u32 0] 28))
                 have HK3 := Lib.hid (HK2.out.alloc (.cells #[.int .i64 0, .int .u32 0, .int .u32 0, .int .u32 0, .int .u32 0] 28))
                 have d0 : (w1.alloc (.cells #[.int .i64 0, .int .u32 0, .int .u32 0, .int .u32 0, .int .u32 0] 28)).cell? ⟨w.heap.size, 0, none⟩ = some (.int .u32 0) := HK3.out.cell 0
                 have d1 : (w1.alloc (.cells #[.int .i64 0, .int .u32 0, .int .u32 0, .int .u32 0, .int .u32 0] 28)).cell? ⟨w.heap.size, 1, none⟩ = some (.int .u32 0) := HK3.out.cell 1
                 have d2 : (w1.alloc (.cells #[.int .i64 0, .int .u32 0, .int .u32 0, .int .u32 0, .int .u32 0] 28)).cell? ⟨w.heap.size, 2, none⟩ = some (.int .i64 0) := HK3.out.cell 2
                 have d3 : (w1.alloc (.cells #[.int .i64 0, .int .u32 0, .int .u32 0, .int .u32 0, .int .u32 0] 28)).cell? ⟨w.heap.size, 3, none⟩ = some (.int .u32 0) := HK3.out.cell 3
                 have d4 : (w1.alloc (.cells #[.int .i64 0, .int .u32 0, .int .u32 0, .int .u32 0, .int .u32 0] 28)).cell? ⟨w.heap.size, 4, none⟩ = some (.int .u32 0) := HK3.out.cell 4
                 have d5 : (w1.alloc (.cells #[.int .i64 0, .int .u32 0, .int .u32 0, .int .u32 0, .int .u32 0] 28)).cell? ⟨w.heap.size, 5, none⟩ = some (.int .u32 0) := HK3.out.cell 5
                 have d6 : (w1.alloc (.cells #[.int .i64 0, .int .u32 0, .int .u32 0, .int .u32 0, .int .u32 0] 28)).cell? ⟨w.heap.size, 6, none⟩ = some (.int .u32 0) := HK3.out.cell 6
                 have fr : ∀ i, (w1.alloc (.cells #[.int .i64 0, .int .u32 0, .int .u32 0, .int .u32 0, .int .u32 0] 28)).frozen? ⟨w.heap.size, i, none⟩ = false := fun i => HK3.out.frozen i
                 clear b1)
    obtain ⟨wf, hwf⟩ : ∃ wf, set7 (w1.alloc (.cells #[.int .i64 0, .int .u32 0, .int .u32 0, .int .u32 0, .int .u32 0] 28)) w.heap.size (.int .u32 0) (.int .u32 0) (.int .i64 0) (.int .u32 0) (.int .u32 0) (.int .u32 0) (.int .u32 0) = wf := ⟨_, rfl⟩
    have hXF := HK3.out.set7 (.int .u32 0) (.int .u32 0) (.int .i64 0) (.int .u32 0) (.int .u32 0) (.int .u32 0) (.int .u32 0)
    have hBF := below_set7 HB3.out (Nat.le_refl w.heap.size) (.int .u32 0) (.int .u32 0) (.int .i64 0) (.int .u32 0) (.int .u32 0) (.int .u32 0) (.int .u32 0)
    rw [hwf] at hXF hBF
    simp only [set7] at hwf
    rw [hwf]
    clear hwf d0 d1 d2 d3 d4 d5 d6 fr
    have e0 := hXF.cell 0
    have e1 := hXF.cell 1
    have e2 := hXF.cell 2
    have e3 := hXF.cell 3
    have e4 := hXF.cell 4
    have e5 := hXF.cell 5
    have e6 := hXF.cell 6
    exact bodyPost_ret (v := .tuple #[lbV l0, .bool false]) (by simp [results, Tryz.f21, go_sem, e0, e1, e2, e3, e4, e5, e6]) rfl ⟨rfl, hBF⟩
end Go.Proofs.YtldnelimemjaiaaGreatDoor
/-
  The document's own label of a block.
-/
namespace Go.Proofs.YtldnelimemjaiaaGreatDoor
open Go.RowKit Go.Shelf
set_option maxRecDepth 100000

theorem blk_far7 {w : World} {b g : Nat} {t : TypeId} {cs : Array Value} (h : Blk w b t cs) (hne : g < b) (v0 v1 v2 v3 v4 v5 v6 : Value) : Blk (set7 w g v0 v1 v2 v3 v4 v5 v6) b t cs := by
  have n : ∀ i, b ≠ (⟨g, i, none⟩ : Addr).block := fun i => by simp; omega
  exact ((((((h.far (p := ⟨g, 0, none⟩) (n 0) v0).far (p := ⟨g, 1, none⟩) (n 1) v1).far (p := ⟨g, 2, none⟩) (n 2) v2).far (p := ⟨g, 3, none⟩) (n 3) v3).far (p := ⟨g, 4, none⟩) (n 4) v4).far (p := ⟨g, 5, none⟩) (n 5) v5).far (p := ⟨g, 6, none⟩) (n 6) v6
theorem holds_far7 {w : World} {b g : Nat} {s : List UInt8} (h : Holds w b s) (hne : g < b) (v0 v1 v2 v3 v4 v5 v6 : Value) : Holds (set7 w g v0 v1 v2 v3 v4 v5 v6) b s := by
  have n : ∀ i, b ≠ (⟨g, i, none⟩ : Addr).block := fun i => by simp; omega
  have e : (set7 w g v0 v1 v2 v3 v4 v5 v6).heap[b]? = w.heap[b]? := (Below.heap_setCell _ ⟨g, 6, none⟩ v6 b (n 6)).trans <| (Below.heap_setCell _ ⟨g, 5, none⟩ v5 b (n 5)).trans <| (Below.heap_setCell _ ⟨g, 4, none⟩ v4 b (n 4)).trans <| (Below.heap_setCell _ ⟨g, 3, none⟩ v3 b (n 3)).trans <| (Below.heap_setCell _ ⟨g, 2, none⟩ v2 b (n 2)).trans <| (Below.heap_setCell _ ⟨g, 1, none⟩ v1 b (n 1)).trans <| Below.heap_setCell _ ⟨g, 0, none⟩ v0 b (n 0)
  intro i hi
  have := h i hi
  unfold World.cell? at this ⊢
  rw [e]
  exact this
set_option maxHeartbeats 4000000 in
theorem rlOf_any (A : Option Addr) (cap : Nat) (s : List UInt8) (w : World) (hB : Bsl w w.heap.size A 256 cap s) : Calls Tryz.prog 52 #[.slice A 256 cap] w fun e w' => ∃ l', e = .returned (.tuple #[lbV l', .bool (ofV (labelO s)).2]) ∧ (∀ l, labelO s = some l → l' = l) ∧ Below w.heap.size w w' := by
  have hmx : Tryz.prog.follows Departure.mixedOrders = true := by kernel_rfl
  have hl := hB.1
  obtain ⟨b0, o0, rfl, hblt, hcell⟩ := hB.2.2.2.2 (by omega)
  have hcap := hB.2.1
  have HB0 := Lib.hid hB
  have hsl : ∀ X : World, (Instr.slice 45 (.slice (some ⟨b0, o0, none⟩) 256 cap) (some (.int .i64 9)) (some (.int .i64 25)) none).run Tryz.prog X = .ok (.slice (some ⟨b0, o0 + 9, none⟩) 16 (cap - 9)) X := fun X => slice_lh X b0 o0 256 cap 9 16 (by omega) (by omega)
  have hsl1 : ∀ X : World, (Instr.slice 45 (.slice (some ⟨b0, o0, none⟩) 256 cap) (some (.int .i64 1)) (some (.int .i64 5)) none).run Tryz.prog X = .ok (.slice (some ⟨b0, o0 + 1, none⟩) 4 (cap - 1)) X := fun X => slice_lh X b0 o0 256 cap 1 4 (by omega) (by omega)
  have hsl5 : ∀ X : World, (Instr.slice 45 (.slice (some ⟨b0, o0, none⟩) 256 cap) (some (.int .i64 5)) (some (.int .i64 9)) none).run Tryz.prog X = .ok (.slice (some ⟨b0, o0 + 5, none⟩) 4 (cap - 5)) X := fun X => slice_lh X b0 o0 256 cap 5 4 (by omega) (by omega)
  have hwin := hB.win 9 16 (by omega)
  have hk : Blk (w.alloc (.cells #[.int .u32 0, .int .u32 0, .int .i64 0, .int .u32 0, .int .u32 0, .int .u32 0, .int .u32 0] 30)) w.heap.size 30 #[.int .u32 0, .int .u32 0, .int .i64 0, .int .u32 0, .int .u32 0, .int .u32 0, .int .u32 0] := Blk.new w _ _
  have hb1 : Below w.heap.size w (w.alloc (.cells #[.int .u32 0, .int .u32 0, .int .i64 0, .int .u32 0, .int .u32 0, .int .u32 0, .int .u32 0] 30)) := (Below.refl _ w).alloc (Nat.le_refl _) _
  have hrd := rpRead_any _ _ _ _ _ (hwin.step hb1)
  have hlw : ((s.drop 9).take 16).length = 16 := hwin.1
  have hwf := wf_readL s
  have hO := labelO_eq s
  have e1 : leN ((s.drop 1).take 4) = (readL s).1 := rfl
  have e2 : leN ((s.drop 5).take 4) = (readL s).2.1 := rfl
  have e3 : getP ((s.drop 9).take 16) = (readL s).2.2 := rfl
  rw [preadO, if_pos hlw, e3] at hrd
  obtain ⟨p, k, hpk⟩ : ∃ p k, (if MayP (readL s).2.2 then ((readL s).2.2, (0 : Int)) else (p0, 8)) = (p, k) := ⟨_, _, rfl⟩
  rw [hpk] at hrd
  obtain ⟨RR, hRR⟩ : ∃ R, labelO s = R := ⟨_, rfl⟩
  rw [hRR] at hO ⊢
  obtain ⟨g, hg⟩ : ∃ x, (readL s).1 = x := ⟨_, rfl⟩
  obtain ⟨e, he⟩ : ∃ x, (readL s).2.1 = x := ⟨_, rfl⟩
  rw [hg] at e1
  rw [he] at e2
  have hwg : g < 4294967296 := by rw [← hg]; exact hwf.1
  have hwe : e < 4294967296 := by rw [← he]; exact hwf.2.1
  have hcases : (k = 8 ∧ RR = none) ∨ (k = 0 ∧ (g, e, p) = readL s ∧ RR = if MayL (g, e, p) ∧ s = blockL (g, e, p) then some (g, e, p) else none) := by
    by_cases hm : MayP (readL s).2.2
    · rw [if_pos hm] at hpk hO
      obtain ⟨rfl, rfl⟩ := Prod.mk.inj hpk
      have : (g, e, (readL s).2.2) = readL s := by rw [← hg, ← he]
      refine .inr ⟨rfl, this, ?_⟩
      rw [this]
      exact hO
    · rw [if_neg hm] at hpk hO
      obtain ⟨rfl, rfl⟩ := Prod.mk.inj hpk
      exact .inl ⟨rfl, hO⟩
  have HWF : Hid ((g, e, p) = readL s → WfL (g, e, p)) := Lib.hid fun h => by rw [h]; exact hwf
  obtain ⟨a, b, c, d, f⟩ := p
  have HG := Lib.hid e1
  have HE := Lib.hid e2
  have HK := Lib.hid hk
  have HB1 := Lib.hid hb1
  have HR := Lib.hid hrd
  have HCS := Lib.hid hcases
  have HRR := Lib.hid hRR
  clear hpk hO hRR hg he e1 e2 e3 hlw hwin hwf hk hb1 hl hblt hcell hcap hrd hcases hwg hwe
  go_enter Tryz.func52, Tryz.ntmps52
  go_wp2_with (go_at_call 81
               refine HR.out.mono ?_
               rintro ev w1 ⟨rfl, b1⟩
               have HB2 := Lib.hid (HB1.out.trans (b1.mono (by simp)))
               have HK2 := Lib.hid (HK.out.below b1 HK.out.lt)
               have HB3 := Lib.hid (HB2.out.alloc HB2.out.size (.cells #[.int .i64 a, .int .u32 (b : Int), .int .u32 (c : Int), .int .u32 (d : Int), .int .u32 (f : Int)] 28))
               have HK3 := Lib.hid (HK2.out.alloc (.cells #[.int .i64 a, .int .u32 (b : Int), .int .u32 (c : Int), .int .u32 (d : Int), .int .u32 (f : Int)] 28))
               have HP3 := Lib.hid (Blk.new w1 28 #[.int .i64 a, .int .u32 (b : Int), .int .u32 (c : Int), .int .u32 (d : Int), .int .u32 (f : Int)])
               obtain ⟨WC, hWC⟩ : ∃ x, w1.alloc (.cells #[.int .i64 a, .int .u32 (b : Int), .int .u32 (c : Int), .int .u32 (d : Int), .int .u32 (f : Int)] 28) = x := ⟨_, rfl⟩
               obtain ⟨GP, hGP⟩ : ∃ x, w1.heap.size = x := ⟨_, rfl⟩
               rw [hWC] at HB3 HK3 HP3
               rw [hGP] at HP3
               clear b1)
  clear hWC hGP
  go_cut [6] from 13 to 36 (fun v wx => ∃ ga, v = .pointer (some ⟨ga, 0, none⟩) ∧ w.heap.size < ga ∧ Blk wx ga 30 #[.int .u32 (g : Int), .int .u32 (e : Int), .int .i64 a, .int .u32 (b : Int), .int .u32 (c : Int), .int .u32 (d : Int), .int .u32 (f : Int)] ∧ Below w.heap.size w wx ∧ Blk wx w.heap.size 30 #[.int .u32 0, .int .u32 0, .int .i64 0, .int .u32 0, .int .u32 0, .int .u32 0, .int .u32 0])
  case first =>
    obtain ⟨wd, hwd⟩ : ∃ wd, WC.drew = wd := ⟨_, rfl⟩
    have HBd := Lib.hid (show Below w.heap.size w wd by rw [← hwd]; exact HB3.out.drew)
    have HKd := Lib.hid (show Blk wd w.heap.size 30 #[.int .u32 0, .int .u32 0, .int .i64 0, .int .u32 0, .int .u32 0, .int .u32 0, .int .u32 0] by rw [← hwd]; exact HK3.out.drew)
    have HGd := Lib.hid HKd.out.lt
    have xp : Blk wd GP 28 #[.int .i64 a, .int .u32 (b : Int), .int .u32 (c : Int), .int .u32 (d : Int), .int .u32 (f : Int)] := by rw [← hwd]; exact HP3.out.drew
    have HS := Lib.hid (hB.step HBd.out)
    have HN2 : Hid (∀ X, Below wd.heap.size wd X → Calls Tryz.prog 82 #[.slice (some ⟨b0, o0 + 1, none⟩) 4 (cap - 1)] X fun e w' => e = .returned (.int .u32 (g : Int)) ∧ X = w') := Lib.hid fun X hX => by
      have := rpGet_any _ 4 _ _ X ((HS.out.step hX).win 1 4 (by omega)) (by omega)
      rwa [HG.out] at this
    have HN5 : Hid (∀ X, Below wd.heap.size wd X → Calls Tryz.prog 82 #[.slice (some ⟨b0, o0 + 5, none⟩) 4 (cap - 5)] X fun e' w' => e' = .returned (.int .u32 (e : Int)) ∧ X = w') := Lib.hid fun X hX => by
      have := rpGet_any _ 4 _ _ X ((HS.out.step hX).win 5 4 (by omega)) (by omega)
      rwa [HE.out] at this
    obtain ⟨p0_, p1_, p2_, p3_, p4_⟩ := xp.five
    have P0 := fun X (hX : Below wd.heap.size wd X) => (hX.cell (p := ⟨GP, 0, none⟩) xp.lt).trans p0_
    have P1 := fun X (hX : Below wd.heap.size wd X) => (hX.cell (p := ⟨GP, 1, none⟩) xp.lt).trans p1_
    have P2 := fun X (hX : Below wd.heap.size wd X) => (hX.cell (p := ⟨GP, 2, none⟩) xp.lt).trans p2_
    have P3 := fun X (hX : Below wd.heap.size wd X) => (hX.cell (p := ⟨GP, 3, none⟩) xp.lt).trans p3_
    have P4 := fun X (hX : Below wd.heap.size wd X) => (hX.cell (p := ⟨GP, 4, none⟩) xp.lt).trans p4_
    have hbwd : Below wd.heap.size wd wd := Below.refl _ _
    clear p0_ p1_ p2_ p3_ p4_ xp
    refine wpI_start (Below wd.heap.size wd) [0, 1, 3, 4, 6, 2, 8, 5, 7, 9] hmx rfl hwd ?_
    clear hwd
    iterate 5 (
      refine wpI_read (v := ?_) hbwd rfl (by kernel_rfl) (by kernel_rfl) (by kernel_rfl) (fun _ _ _ h => h) (.inl ⟨by rfl, ?_⟩) ?_
      rotate_left
      · intro X hX
        have q0 := P0 X hX
        have q1 := P1 X hX
        have q2 := P2 X hX
        have q3 := P3 X hX
        have q4 := P4 X hX
        clear hX
        go_simp
        with_reducible rfl
      try simp only [Act.put, List.setIfInBounds_toArray, List.set_cons_zero, List.set_cons_succ])
    clear P0 P1 P2 P3 P4
    refine wpI_fork rfl rfl (by kernel_rfl) (fun K hK => ?_) (fun K hK => ?_)
    · go_simp
      refine (HN2.out wd hbwd).mono ?_
      rintro ev wq ⟨rfl, rfl⟩
      refine hK _ _ hbwd ?_
      clear hK K
      try simp only [Act.put, List.setIfInBounds_toArray, List.set_cons_zero, List.set_cons_succ]
      refine wpI_turn [5, 8, 7, 9] rfl ?_
      refine wpI_fork rfl rfl (by kernel_rfl) (fun K hK => ?_) (fun K hK => ?_)
      · go_simp
        refine (HN5.out wd hbwd).mono ?_
        rintro ev wq ⟨rfl, rfl⟩
        refine hK _ _ hbwd ?_
        clear hK K
        try simp only [Act.put, List.setIfInBounds_toArray, List.set_cons_zero, List.set_cons_succ]
        refine wpI_turn [7, 8, 9] rfl ?_
        iterate 1 (
          refine wpI_read (v := ?_) hbwd rfl (by kernel_rfl) (by kernel_rfl) (by kernel_rfl) (fun _ _ _ h => h) (.inl ⟨by rfl, ?_⟩) ?_
          rotate_left
          · intro X hX
            clear hX
            go_simp
            with_reducible rfl
          try simp only [Act.put, List.setIfInBounds_toArray, List.set_cons_zero, List.set_cons_succ])
        refine wpI_lone rfl (by kernel_rfl) (fun K hK => ?_)
        go_simp
        have hb1 := hbwd.alloc hbwd.size (.cells #[.int .u32 0, .int .u32 0, .int .i64 0, .int .u32 0, .int .u32 0, .int .u32 0, .int .u32 0] 30)
        have xa1 := Blk.new wd 30 #[.int .u32 0, .int .u32 0, .int .i64 0, .int .u32 0, .int .u32 0, .int .u32 0, .int .u32 0]
        obtain ⟨wx1, hwa⟩ : ∃ x, wd.alloc (.cells #[.int .u32 0, .int .u32 0, .int .i64 0, .int .u32 0, .int .u32 0, .int .u32 0, .int .u32 0] 30) = x := ⟨_, rfl⟩
        obtain ⟨ga, hga⟩ : ∃ ga, wd.heap.size = ga := ⟨_, rfl⟩
        have hgl : wd.heap.size ≤ ga := by rw [← hga]; exact hbwd.size
        rw [hwa] at hb1 xa1 ⊢
        rw [hga] at xa1 ⊢
        refine hK _ _ hb1 ?_
        clear hK K hwa hga
        try simp only [Act.put, List.setIfInBounds_toArray, List.set_cons_zero, List.set_cons_succ]
        refine wpI_lone rfl (by kernel_rfl) (fun K hK => ?_)
        have d0 := xa1.cell 0
        have d1 := xa1.cell 1
        have d2 := xa1.cell 2
        have d3 := xa1.cell 3
        have d4 := xa1.cell 4
        have d5 := xa1.cell 5
        have d6 := xa1.cell 6
        have hfz := fun i => xa1.frozen i
        go_simp
        have hxs := xa1.set7 (.int .u32 (g : Int)) (.int .u32 (e : Int)) (.int .i64 a) (.int .u32 (b : Int)) (.int .u32 (c : Int)) (.int .u32 (d : Int)) (.int .u32 (f : Int))
        have hbs := below_set7 hb1 hgl (.int .u32 (g : Int)) (.int .u32 (e : Int)) (.int .i64 a) (.int .u32 (b : Int)) (.int .u32 (c : Int)) (.int .u32 (d : Int)) (.int .u32 (f : Int))
        obtain ⟨ws, hws⟩ : ∃ ws, set7 wx1 ga (.int .u32 (g : Int)) (.int .u32 (e : Int)) (.int .i64 a) (.int .u32 (b : Int)) (.int .u32 (c : Int)) (.int .u32 (d : Int)) (.int .u32 (f : Int)) = ws := ⟨_, rfl⟩
        rw [hws] at hxs hbs
        simp only [set7] at hws
        rw [hws]
        refine hK _ _ hbs ?_
        clear hK K d0 d1 d2 d3 d4 d5 d6 hfz hws
        try simp only [Act.put, List.setIfInBounds_toArray, List.set_cons_zero, List.set_cons_succ]
        refine wpI_done (by kernel_rfl) ?_
        go_wp2_with fail
        go_meet
        exact ⟨ga, rfl, Nat.lt_of_lt_of_le HGd.out hgl, hxs, HBd.out.trans (hbs.mono HBd.out.size), HKd.out.below hbs HKd.out.lt⟩
      · go_simp
        have hb2 := hbwd.alloc hbwd.size (.cells #[.int .u32 0, .int .u32 0, .int .i64 0, .int .u32 0, .int .u32 0, .int .u32 0, .int .u32 0] 30)
        have xa2 := Blk.new wd 30 #[.int .u32 0, .int .u32 0, .int .i64 0, .int .u32 0, .int .u32 0, .int .u32 0, .int .u32 0]
        obtain ⟨wx2, hwa⟩ : ∃ x, wd.alloc (.cells #[.int .u32 0, .int .u32 0, .int .i64 0, .int .u32 0, .int .u32 0, .int .u32 0, .int .u32 0] 30) = x := ⟨_, rfl⟩
        obtain ⟨ga, hga⟩ : ∃ ga, wd.heap.size = ga := ⟨_, rfl⟩
        have hgl : wd.heap.size ≤ ga := by rw [← hga]; exact hbwd.size
        rw [hwa] at hb2 xa2 ⊢
        rw [hga] at xa2 ⊢
        refine hK _ _ hb2 ?_
        clear hK K hwa hga
        try simp only [Act.put, List.setIfInBounds_toArray, List.set_cons_zero, List.set_cons_succ]
        refine wpI_lone rfl (by kernel_rfl) (fun K hK => ?_)
        go_simp
        refine (HN5.out wx2 hb2).mono ?_
        rintro ev wq ⟨rfl, rfl⟩
        refine hK _ _ hb2 ?_
        clear hK K
        try simp only [Act.put, List.setIfInBounds_toArray, List.set_cons_zero, List.set_cons_succ]
        iterate 1 (
          refine wpI_read (v := ?_) hb2 rfl (by kernel_rfl) (by kernel_rfl) (by kernel_rfl) (fun _ _ _ h => h) (.inl ⟨by rfl, ?_⟩) ?_
          rotate_left
          · intro X hX
            clear hX
            go_simp
            with_reducible rfl
          try simp only [Act.put, List.setIfInBounds_toArray, List.set_cons_zero, List.set_cons_succ])
        refine wpI_lone rfl (by kernel_rfl) (fun K hK => ?_)
        have d0 := xa2.cell 0
        have d1 := xa2.cell 1
        have d2 := xa2.cell 2
        have d3 := xa2.cell 3
        have d4 := xa2.cell 4
        have d5 := xa2.cell 5
        have d6 := xa2.cell 6
        have hfz := fun i => xa2.frozen i
        go_simp
        have hxs := xa2.set7 (.int .u32 (g : Int)) (.int .u32 (e : Int)) (.int .i64 a) (.int .u32 (b : Int)) (.int .u32 (c : Int)) (.int .u32 (d : Int)) (.int .u32 (f : Int))
        have hbs := below_set7 hb2 hgl (.int .u32 (g : Int)) (.int .u32 (e : Int)) (.int .i64 a) (.int .u32 (b : Int)) (.int .u32 (c : Int)) (.int .u32 (d : Int)) (.int .u32 (f : Int))
        obtain ⟨ws, hws⟩ : ∃ ws, set7 wx2 ga (.int .u32 (g : Int)) (.int .u32 (e : Int)) (.int .i64 a) (.int .u32 (b : Int)) (.int .u32 (c : Int)) (.int .u32 (d : Int)) (.int .u32 (f : Int)) = ws := ⟨_, rfl⟩
        rw [hws] at hxs hbs
        simp only [set7] at hws
        rw [hws]
        refine hK _ _ hbs ?_
        clear hK K d0 d1 d2 d3 d4 d5 d6 hfz hws
        try simp only [Act.put, List.setIfInBounds_toArray, List.set_cons_zero, List.set_cons_succ]
        refine wpI_done (by kernel_rfl) ?_
        go_wp2_with fail
        go_meet
        exact ⟨ga, rfl, Nat.lt_of_lt_of_le HGd.out hgl, hxs, HBd.out.trans (hbs.mono HBd.out.size), HKd.out.below hbs HKd.out.lt⟩
    · go_simp
      have hb3 := hbwd.alloc hbwd.size (.cells #[.int .u32 0, .int .u32 0, .int .i64 0, .int .u32 0, .int .u32 0, .int .u32 0, .int .u32 0] 30)
      have xa3 := Blk.new wd 30 #[.int .u32 0, .int .u32 0, .int .i64 0, .int .u32 0, .int .u32 0, .int .u32 0, .int .u32 0]
      obtain ⟨wx3, hwa⟩ : ∃ x, wd.alloc (.cells #[.int .u32 0, .int .u32 0, .int .i64 0, .int .u32 0, .int .u32 0, .int .u32 0, .int .u32 0] 30) = x := ⟨_, rfl⟩
      obtain ⟨ga, hga⟩ : ∃ ga, wd.heap.size = ga := ⟨_, rfl⟩
      have hgl : wd.heap.size ≤ ga := by rw [← hga]; exact hbwd.size
      rw [hwa] at hb3 xa3 ⊢
      rw [hga] at xa3 ⊢
      refine hK _ _ hb3 ?_
      clear hK K hwa hga
      try simp only [Act.put, List.setIfInBounds_toArray, List.set_cons_zero, List.set_cons_succ]
      refine wpI_lone rfl (by kernel_rfl) (fun K hK => ?_)
      go_simp
      refine (HN2.out wx3 hb3).mono ?_
      rintro ev wq ⟨rfl, rfl⟩
      refine hK _ _ hb3 ?_
      clear hK K
      try simp only [Act.put, List.setIfInBounds_toArray, List.set_cons_zero, List.set_cons_succ]
      refine wpI_lone rfl (by kernel_rfl) (fun K hK => ?_)
      go_simp
      refine (HN5.out wx3 hb3).mono ?_
      rintro ev wq ⟨rfl, rfl⟩
      refine hK _ _ hb3 ?_
      clear hK K
      try simp only [Act.put, List.setIfInBounds_toArray, List.set_cons_zero, List.set_cons_succ]
      iterate 1 (
        refine wpI_read (v := ?_) hb3 rfl (by kernel_rfl) (by kernel_rfl) (by kernel_rfl) (fun _ _ _ h => h) (.inl ⟨by rfl, ?_⟩) ?_
        rotate_left
        · intro X hX
          clear hX
          go_simp
          with_reducible rfl
        try simp only [Act.put, List.setIfInBounds_toArray, List.set_cons_zero, List.set_cons_succ])
      refine wpI_lone rfl (by kernel_rfl) (fun K hK => ?_)
      have d0 := xa3.cell 0
      have d1 := xa3.cell 1
      have d2 := xa3.cell 2
      have d3 := xa3.cell 3
      have d4 := xa3.cell 4
      have d5 := xa3.cell 5
      have d6 := xa3.cell 6
      have hfz := fun i => xa3.frozen i
      go_simp
      have hxs := xa3.set7 (.int .u32 (g : Int)) (.int .u32 (e : Int)) (.int .i64 a) (.int .u32 (b : Int)) (.int .u32 (c : Int)) (.int .u32 (d : Int)) (.int .u32 (f : Int))
      have hbs := below_set7 hb3 hgl (.int .u32 (g : Int)) (.int .u32 (e : Int)) (.int .i64 a) (.int .u32 (b : Int)) (.int .u32 (c : Int)) (.int .u32 (d : Int)) (.int .u32 (f : Int))
      obtain ⟨ws, hws⟩ : ∃ ws, set7 wx3 ga (.int .u32 (g : Int)) (.int .u32 (e : Int)) (.int .i64 a) (.int .u32 (b : Int)) (.int .u32 (c : Int)) (.int .u32 (d : Int)) (.int .u32 (f : Int)) = ws := ⟨_, rfl⟩
      rw [hws] at hxs hbs
      simp only [set7] at hws
      rw [hws]
      refine hK _ _ hbs ?_
      clear hK K d0 d1 d2 d3 d4 d5 d6 hfz hws
      try simp only [Act.put, List.setIfInBounds_toArray, List.set_cons_zero, List.set_cons_succ]
      refine wpI_done (by kernel_rfl) ?_
      go_wp2_with fail
      go_meet
      exact ⟨ga, rfl, Nat.lt_of_lt_of_le HGd.out hgl, hxs, HBd.out.trans (hbs.mono HBd.out.size), HKd.out.below hbs HKd.out.lt⟩
  case rest =>
    obtain ⟨ga, rfl, hgl, hxp, hbx, hkx⟩ := hcut
    clear hsl hsl1 hsl5
    rcases HCS.out with ⟨rfl, rfl⟩ | ⟨rfl, hrl, hrr⟩
    · have HLL : Hid (∀ l, (none : Option Lb) = some l → (g, e, a, b, c, d, f) = l) := Lib.hid fun l h => (by cases h)
      go_wp2_with fail
      obtain ⟨wd, hwd⟩ : ∃ wd, wc.drew = wd := ⟨_, rfl⟩
      have HBd := Lib.hid (show Below w.heap.size w wd by rw [← hwd]; exact hbx.drew)
      have hSd : Below w.heap.size wd wd ∧ Blk wd ga 30 #[.int .u32 (g : Int), .int .u32 (e : Int), .int .i64 a, .int .u32 (b : Int), .int .u32 (c : Int), .int .u32 (d : Int), .int .u32 (f : Int)] := ⟨Below.refl _ _, by rw [← hwd]; exact hxp.drew⟩
      have hkd : Blk wd w.heap.size 30 #[.int .u32 0, .int .u32 0, .int .i64 0, .int .u32 0, .int .u32 0, .int .u32 0, .int .u32 0] := by rw [← hwd]; exact hkx.drew
      have HKd := Lib.hid hkd
      clear hbx hxp hkx hkd
      refine wpI_start (fun X => Below w.heap.size wd X ∧ Blk X ga 30 #[.int .u32 (g : Int), .int .u32 (e : Int), .int .i64 a, .int .u32 (b : Int), .int .u32 (c : Int), .int .u32 (d : Int), .int .u32 (f : Int)]) [0, 1, 2, 3, 4, 5, 6, 7, 8, 11, 12, 9, 10, 13, 14, 15, 16] hmx rfl hwd ?_
      clear hwd
      iterate 4 (
        refine wpI_read (v := ?_) hSd rfl (by kernel_rfl) (by kernel_rfl) (by kernel_rfl) (fun _ _ _ h => h) (.inl ⟨by rfl, ?_⟩) ?_
        rotate_left
        · intro X hX
          obtain ⟨r0, r1, r2, r3, r4, r5, r6⟩ := hX.2.seven
          clear hX
          go_simp
          with_reducible rfl
        try simp only [Act.put, List.setIfInBounds_toArray, List.set_cons_zero, List.set_cons_succ])
      iterate 2 (
        refine wpI_read (v := undef) hSd rfl (by kernel_rfl) (by kernel_rfl) (by kernel_rfl) (fun _ _ _ h => h) (.inr ⟨by rfl, rfl⟩) ?_
        try simp only [Act.put, List.setIfInBounds_toArray, List.set_cons_zero, List.set_cons_succ])
      iterate 2 (
        refine wpI_read (v := ?_) hSd rfl (by kernel_rfl) (by kernel_rfl) (by kernel_rfl) (fun _ _ _ h => h) (.inl ⟨by rfl, ?_⟩) ?_
        rotate_left
        · intro X hX
          obtain ⟨r0, r1, r2, r3, r4, r5, r6⟩ := hX.2.seven
          clear hX
          go_simp
          with_reducible rfl
        try simp only [Act.put, List.setIfInBounds_toArray, List.set_cons_zero, List.set_cons_succ])
      iterate 6 (
        refine wpI_read (v := undef) hSd rfl (by kernel_rfl) (by kernel_rfl) (by kernel_rfl) (fun _ _ _ h => h) (.inr ⟨by rfl, rfl⟩) ?_
        try simp only [Act.put, List.setIfInBounds_toArray, List.set_cons_zero, List.set_cons_succ])
      iterate 1 (
        refine wpI_read (v := ?_) hSd rfl (by kernel_rfl) (by kernel_rfl) (by kernel_rfl) (fun _ _ _ h => h) (.inl ⟨by rfl, ?_⟩) ?_
        rotate_left
        · intro X hX
          obtain ⟨r0, r1, r2, r3, r4, r5, r6⟩ := hX.2.seven
          clear hX
          go_simp
          with_reducible rfl
        try simp only [Act.put, List.setIfInBounds_toArray, List.set_cons_zero, List.set_cons_succ])
      refine wpI_lone rfl (by kernel_rfl) (fun K hK => ?_)
      have d0 : wd.cell? ⟨w.heap.size, 0, none⟩ = some (.int .u32 0) := HKd.out.cell 0
      have d1 : wd.cell? ⟨w.heap.size, 1, none⟩ = some (.int .u32 0) := HKd.out.cell 1
      have d2 : wd.cell? ⟨w.heap.size, 2, none⟩ = some (.int .i64 0) := HKd.out.cell 2
      have d3 : wd.cell? ⟨w.heap.size, 3, none⟩ = some (.int .u32 0) := HKd.out.cell 3
      have d4 : wd.cell? ⟨w.heap.size, 4, none⟩ = some (.int .u32 0) := HKd.out.cell 4
      have d5 : wd.cell? ⟨w.heap.size, 5, none⟩ = some (.int .u32 0) := HKd.out.cell 5
      have d6 : wd.cell? ⟨w.heap.size, 6, none⟩ = some (.int .u32 0) := HKd.out.cell 6
      have fr : ∀ i, wd.frozen? ⟨w.heap.size, i, none⟩ = false := fun i => HKd.out.frozen i
      go_simp
      obtain ⟨wf, hwf⟩ : ∃ wf, set7 wd w.heap.size (.int .u32 (g : Int)) (.int .u32 (e : Int)) (.int .i64 a) (.int .u32 (b : Int)) (.int .u32 (c : Int)) (.int .u32 (d : Int)) (.int .u32 (f : Int)) = wf := ⟨_, rfl⟩
      have HXF := Lib.hid (HKd.out.set7 (.int .u32 (g : Int)) (.int .u32 (e : Int)) (.int .i64 a) (.int .u32 (b : Int)) (.int .u32 (c : Int)) (.int .u32 (d : Int)) (.int .u32 (f : Int)))
      have HBF := Lib.hid (below_set7 HBd.out (Nat.le_refl w.heap.size) (.int .u32 (g : Int)) (.int .u32 (e : Int)) (.int .i64 a) (.int .u32 (b : Int)) (.int .u32 (c : Int)) (.int .u32 (d : Int)) (.int .u32 (f : Int)))
      have hSF : Below w.heap.size wd wf ∧ Blk wf ga 30 #[.int .u32 (g : Int), .int .u32 (e : Int), .int .i64 a, .int .u32 (b : Int), .int .u32 (c : Int), .int .u32 (d : Int), .int .u32 (f : Int)] := by
        rw [← hwf]
        refine ⟨below_set7 hSd.1 (Nat.le_refl w.heap.size) (.int .u32 (g : Int)) (.int .u32 (e : Int)) (.int .i64 a) (.int .u32 (b : Int)) (.int .u32 (c : Int)) (.int .u32 (d : Int)) (.int .u32 (f : Int)), ?_⟩
        exact blk_far7 hSd.2 (by omega) (.int .u32 (g : Int)) (.int .u32 (e : Int)) (.int .i64 a) (.int .u32 (b : Int)) (.int .u32 (c : Int)) (.int .u32 (d : Int)) (.int .u32 (f : Int))
      rw [hwf] at HXF HBF
      simp only [set7] at hwf
      rw [hwf]
      refine hK _ _ hSF ?_
      clear hK K d0 d1 d2 d3 d4 d5 d6 fr hwf
      try simp only [Act.put, List.setIfInBounds_toArray, List.set_cons_zero, List.set_cons_succ]
      iterate 1 (
        refine wpI_read (v := ?_) hSF rfl (by kernel_rfl) (by kernel_rfl) (by kernel_rfl) (fun _ _ _ h => h) (.inl ⟨by rfl, ?_⟩) ?_
        rotate_left
        · intro X hX
          clear hX
          go_simp
          with_reducible rfl
        try simp only [Act.put, List.setIfInBounds_toArray, List.set_cons_zero, List.set_cons_succ])
      refine wpI_done (by kernel_rfl) ?_
      go_wp2_with fail
      have e0 := HXF.out.cell 0
      have e1 := HXF.out.cell 1
      have e2 := HXF.out.cell 2
      have e3 := HXF.out.cell 3
      have e4 := HXF.out.cell 4
      have e5 := HXF.out.cell 5
      have e6 := HXF.out.cell 6
      exact bodyPost_ret (v := .tuple #[lbV (g, e, a, b, c, d, f), .bool false]) (by simp [results, Tryz.f52, go_sem, e0, e1, e2, e3, e4, e5, e6]) rfl ⟨(g, e, a, b, c, d, f), rfl, HLL.out, HBF.out⟩
    · have hwl := HWF.out hrl
      have hml := fun W => rlMay_any (g, e, a, b, c, d, f) W
      clear hrl
      by_cases hmay : MayL (g, e, a, b, c, d, f)
      · rw [decide_eq_true hmay] at hml
        have hbk := fun W => rlBlock_any (g, e, a, b, c, d, f) hwl hmay W
        obtain ⟨BK, hBK⟩ : ∃ BK, blockL (g, e, a, b, c, d, f) = BK := ⟨_, rfl⟩
        rw [hBK] at hrr hbk
        have HMAY := Lib.hid hml
        have HBLK := Lib.hid hbk
        have heq : ((strOf BK).toList == (strOf s).toList) = decide (BK = s) := by
          rw [strOf_toList, strOf_toList]
          by_cases h : BK = s <;> simp [h]
        clear hml hbk hBK
        by_cases he : s = BK
        · rw [if_pos ⟨hmay, he⟩] at hrr
          subst hrr
          have HLL : Hid (∀ l, some (g, e, a, b, c, d, f) = some l → (g, e, a, b, c, d, f) = l) := Lib.hid fun l h => Option.some.inj h
          rw [decide_eq_true he.symm] at heq
          clear he hmay
          go_wp2_with fail
          obtain ⟨wd, hwd⟩ : ∃ wd, wc.drew = wd := ⟨_, rfl⟩
          have HBd := Lib.hid (show Below w.heap.size w wd by rw [← hwd]; exact hbx.drew)
          have hSd : Below w.heap.size wd wd ∧ Blk wd ga 30 #[.int .u32 (g : Int), .int .u32 (e : Int), .int .i64 a, .int .u32 (b : Int), .int .u32 (c : Int), .int .u32 (d : Int), .int .u32 (f : Int)] := ⟨Below.refl _ _, by rw [← hwd]; exact hxp.drew⟩
          have hkd : Blk wd w.heap.size 30 #[.int .u32 0, .int .u32 0, .int .i64 0, .int .u32 0, .int .u32 0, .int .u32 0, .int .u32 0] := by rw [← hwd]; exact hkx.drew
          have HKd := Lib.hid hkd
          clear hbx hxp hkx hkd
          refine wpI_start (fun X => Below w.heap.size wd X ∧ Blk X ga 30 #[.int .u32 (g : Int), .int .u32 (e : Int), .int .i64 a, .int .u32 (b : Int), .int .u32 (c : Int), .int .u32 (d : Int), .int .u32 (f : Int)]) [0, 1, 2, 3, 4, 5, 6, 7, 8, 11, 12, 9, 10, 13, 14, 15, 16] hmx rfl hwd ?_
          clear hwd
          iterate 5 (
            refine wpI_read (v := ?_) hSd rfl (by kernel_rfl) (by kernel_rfl) (by kernel_rfl) (fun _ _ _ h => h) (.inl ⟨by rfl, ?_⟩) ?_
            rotate_left
            · intro X hX
              obtain ⟨r0, r1, r2, r3, r4, r5, r6⟩ := hX.2.seven
              clear hX
              go_simp
              with_reducible rfl
            try simp only [Act.put, List.setIfInBounds_toArray, List.set_cons_zero, List.set_cons_succ])
          refine wpI_lone rfl (by kernel_rfl) (fun K hK => ?_)
          go_simp
          refine (HMAY.out wd).mono ?_
          rintro ev w2 ⟨rfl, b2⟩
          have hS2 : Below w.heap.size wd w2 ∧ Blk w2 ga 30 #[.int .u32 (g : Int), .int .u32 (e : Int), .int .i64 a, .int .u32 (b : Int), .int .u32 (c : Int), .int .u32 (d : Int), .int .u32 (f : Int)] := ⟨b2.mono HBd.out.size, hSd.2.below b2 hSd.2.lt⟩
          have HB2 := Lib.hid (HBd.out.trans (b2.mono HBd.out.size))
          have HK2 := Lib.hid (HKd.out.below b2 HKd.out.lt)
          refine hK _ _ hS2 ?_
          clear hK K b2
          try simp only [Act.put, List.setIfInBounds_toArray, List.set_cons_zero, List.set_cons_succ]
          have cvs := fun X (hX : Below w.heap.size wd X) => ((HB0.out.below (HBd.out.trans hX)).conv)
          iterate 4 (
            refine wpI_read (v := ?_) hS2 rfl (by kernel_rfl) (by kernel_rfl) (by kernel_rfl) (fun _ _ _ h => h) (.inl ⟨by rfl, ?_⟩) ?_
            rotate_left
            · intro X hX
              obtain ⟨r0, r1, r2, r3, r4, r5, r6⟩ := hX.2.seven
              clear hX
              go_simp
              with_reducible rfl
            try simp only [Act.put, List.setIfInBounds_toArray, List.set_cons_zero, List.set_cons_succ])
          iterate 1 (
            refine wpI_read (v := ?_) hS2 rfl (by kernel_rfl) (by kernel_rfl) (by kernel_rfl) (fun _ _ _ h => h) (.inl ⟨by rfl, ?_⟩) ?_
            rotate_left
            · intro X hX
              obtain ⟨r0, r1, r2, r3, r4, r5, r6⟩ := hX.2.seven
              have hc := cvs X hX.1
              clear hX
              go_simp
              with_reducible rfl
            try simp only [Act.put, List.setIfInBounds_toArray, List.set_cons_zero, List.set_cons_succ])
          refine wpI_lone rfl (by kernel_rfl) (fun K hK => ?_)
          go_simp
          refine (HBLK.out w2).mono ?_
          rintro ev w3 ⟨v3, rfl, o3, b3⟩
          obtain ⟨G3, C3, rfl, hG3, hGl3, hn3, hcm3, hl3, hh3⟩ := bsl_of_own o3 (by omega)
          have HH3 := Lib.hid hh3
          have HG3 := Lib.hid (show w.heap.size < G3 by have := HB2.out.size; have := HBd.out.size; have := HK2.out.lt; omega)
          have hS3 : Below w.heap.size wd w3 ∧ Blk w3 ga 30 #[.int .u32 (g : Int), .int .u32 (e : Int), .int .i64 a, .int .u32 (b : Int), .int .u32 (c : Int), .int .u32 (d : Int), .int .u32 (f : Int)] := ⟨hS2.1.trans (b3.mono (by have := hS2.1.size; have := HBd.out.size; omega)), hS2.2.below b3 hS2.2.lt⟩
          have HB3' := Lib.hid (HB2.out.trans (b3.mono HB2.out.size))
          have HK3' := Lib.hid (HK2.out.below b3 HK2.out.lt)
          refine hK _ _ hS3 ?_
          clear hK K b3 o3 hG3 hGl3 hn3 hcm3 hh3
          try simp only [Act.put, List.setIfInBounds_toArray, List.set_cons_zero, List.set_cons_succ]
          refine wpI_turn [10, 15, 13, 14, 16] rfl ?_
          refine wpI_fork rfl rfl (by kernel_rfl) (fun K hK => ?_) (fun K hK => ?_)
          · have hc3 := HH3.out.conv (cap := C3) hl3
            go_simp
            refine hK _ _ hS3 ?_
            clear hK K hc3
            try simp only [Act.put, List.setIfInBounds_toArray, List.set_cons_zero, List.set_cons_succ]
            refine wpI_turn [13, 14, 15, 16] rfl ?_
            iterate 2 (
              refine wpI_read (v := ?_) hS3 rfl (by kernel_rfl) (by kernel_rfl) (by kernel_rfl) (fun _ _ _ h => h) (.inl ⟨by rfl, ?_⟩) ?_
              rotate_left
              · intro X hX
                obtain ⟨r0, r1, r2, r3, r4, r5, r6⟩ := hX.2.seven
                clear hX
                go_simp
                with_reducible rfl
              try simp only [Act.put, List.setIfInBounds_toArray, List.set_cons_zero, List.set_cons_succ])
            refine wpI_lone rfl (by kernel_rfl) (fun K hK => ?_)
            have d0 : w3.cell? ⟨w.heap.size, 0, none⟩ = some (.int .u32 0) := HK3'.out.cell 0
            have d1 : w3.cell? ⟨w.heap.size, 1, none⟩ = some (.int .u32 0) := HK3'.out.cell 1
            have d2 : w3.cell? ⟨w.heap.size, 2, none⟩ = some (.int .i64 0) := HK3'.out.cell 2
            have d3 : w3.cell? ⟨w.heap.size, 3, none⟩ = some (.int .u32 0) := HK3'.out.cell 3
            have d4 : w3.cell? ⟨w.heap.size, 4, none⟩ = some (.int .u32 0) := HK3'.out.cell 4
            have d5 : w3.cell? ⟨w.heap.size, 5, none⟩ = some (.int .u32 0) := HK3'.out.cell 5
            have d6 : w3.cell? ⟨w.heap.size, 6, none⟩ = some (.int .u32 0) := HK3'.out.cell 6
            have fr : ∀ i, w3.frozen? ⟨w.heap.size, i, none⟩ = false := fun i => HK3'.out.frozen i
            go_simp
            obtain ⟨wf, hwf⟩ : ∃ wf, set7 w3 w.heap.size (.int .u32 (g : Int)) (.int .u32 (e : Int)) (.int .i64 a) (.int .u32 (b : Int)) (.int .u32 (c : Int)) (.int .u32 (d : Int)) (.int .u32 (f : Int)) = wf := ⟨_, rfl⟩
            have HXF := Lib.hid (HK3'.out.set7 (.int .u32 (g : Int)) (.int .u32 (e : Int)) (.int .i64 a) (.int .u32 (b : Int)) (.int .u32 (c : Int)) (.int .u32 (d : Int)) (.int .u32 (f : Int)))
            have HBF := Lib.hid (below_set7 HB3'.out (Nat.le_refl w.heap.size) (.int .u32 (g : Int)) (.int .u32 (e : Int)) (.int .i64 a) (.int .u32 (b : Int)) (.int .u32 (c : Int)) (.int .u32 (d : Int)) (.int .u32 (f : Int)))
            have hSF : Below w.heap.size wd wf ∧ Blk wf ga 30 #[.int .u32 (g : Int), .int .u32 (e : Int), .int .i64 a, .int .u32 (b : Int), .int .u32 (c : Int), .int .u32 (d : Int), .int .u32 (f : Int)] := by
              rw [← hwf]
              refine ⟨below_set7 hS3.1 (Nat.le_refl w.heap.size) (.int .u32 (g : Int)) (.int .u32 (e : Int)) (.int .i64 a) (.int .u32 (b : Int)) (.int .u32 (c : Int)) (.int .u32 (d : Int)) (.int .u32 (f : Int)), ?_⟩
              exact blk_far7 hS3.2 (by omega) (.int .u32 (g : Int)) (.int .u32 (e : Int)) (.int .i64 a) (.int .u32 (b : Int)) (.int .u32 (c : Int)) (.int .u32 (d : Int)) (.int .u32 (f : Int))
            rw [hwf] at HXF HBF
            simp only [set7] at hwf
            rw [hwf]
            refine hK _ _ hSF ?_
            clear hK K d0 d1 d2 d3 d4 d5 d6 fr hwf
            try simp only [Act.put, List.setIfInBounds_toArray, List.set_cons_zero, List.set_cons_succ]
            iterate 1 (
              refine wpI_read (v := ?_) hSF rfl (by kernel_rfl) (by kernel_rfl) (by kernel_rfl) (fun _ _ _ h => h) (.inl ⟨by rfl, ?_⟩) ?_
              rotate_left
              · intro X hX
                clear hX
                go_simp
                with_reducible rfl
              try simp only [Act.put, List.setIfInBounds_toArray, List.set_cons_zero, List.set_cons_succ])
            refine wpI_done (by kernel_rfl) ?_
            go_wp2_with fail
            have e0 := HXF.out.cell 0
            have e1 := HXF.out.cell 1
            have e2 := HXF.out.cell 2
            have e3 := HXF.out.cell 3
            have e4 := HXF.out.cell 4
            have e5 := HXF.out.cell 5
            have e6 := HXF.out.cell 6
            exact bodyPost_ret (v := .tuple #[lbV (g, e, a, b, c, d, f), .bool true]) (by simp [results, Tryz.f52, go_sem, e0, e1, e2, e3, e4, e5, e6]) rfl ⟨(g, e, a, b, c, d, f), rfl, HLL.out, HBF.out⟩
          · have d0 : w3.cell? ⟨w.heap.size, 0, none⟩ = some (.int .u32 0) := HK3'.out.cell 0
            have d1 : w3.cell? ⟨w.heap.size, 1, none⟩ = some (.int .u32 0) := HK3'.out.cell 1
            have d2 : w3.cell? ⟨w.heap.size, 2, none⟩ = some (.int .i64 0) := HK3'.out.cell 2
            have d3 : w3.cell? ⟨w.heap.size, 3, none⟩ = some (.int .u32 0) := HK3'.out.cell 3
            have d4 : w3.cell? ⟨w.heap.size, 4, none⟩ = some (.int .u32 0) := HK3'.out.cell 4
            have d5 : w3.cell? ⟨w.heap.size, 5, none⟩ = some (.int .u32 0) := HK3'.out.cell 5
            have d6 : w3.cell? ⟨w.heap.size, 6, none⟩ = some (.int .u32 0) := HK3'.out.cell 6
            have fr : ∀ i, w3.frozen? ⟨w.heap.size, i, none⟩ = false := fun i => HK3'.out.frozen i
            go_simp
            have hhf := holds_far7 HH3.out HG3.out (.int .u32 (g : Int)) (.int .u32 (e : Int)) (.int .i64 a) (.int .u32 (b : Int)) (.int .u32 (c : Int)) (.int .u32 (d : Int)) (.int .u32 (f : Int))
            obtain ⟨wf, hwf⟩ : ∃ wf, set7 w3 w.heap.size (.int .u32 (g : Int)) (.int .u32 (e : Int)) (.int .i64 a) (.int .u32 (b : Int)) (.int .u32 (c : Int)) (.int .u32 (d : Int)) (.int .u32 (f : Int)) = wf := ⟨_, rfl⟩
            have HXF := Lib.hid (HK3'.out.set7 (.int .u32 (g : Int)) (.int .u32 (e : Int)) (.int .i64 a) (.int .u32 (b : Int)) (.int .u32 (c : Int)) (.int .u32 (d : Int)) (.int .u32 (f : Int)))
            have HBF := Lib.hid (below_set7 HB3'.out (Nat.le_refl w.heap.size) (.int .u32 (g : Int)) (.int .u32 (e : Int)) (.int .i64 a) (.int .u32 (b : Int)) (.int .u32 (c : Int)) (.int .u32 (d : Int)) (.int .u32 (f : Int)))
            have hSF : Below w.heap.size wd wf ∧ Blk wf ga 30 #[.int .u32 (g : Int), .int .u32 (e : Int), .int .i64 a, .int .u32 (b : Int), .int .u32 (c : Int), .int .u32 (d : Int), .int .u32 (f : Int)] := by
              rw [← hwf]
              refine ⟨below_set7 hS3.1 (Nat.le_refl w.heap.size) (.int .u32 (g : Int)) (.int .u32 (e : Int)) (.int .i64 a) (.int .u32 (b : Int)) (.int .u32 (c : Int)) (.int .u32 (d : Int)) (.int .u32 (f : Int)), ?_⟩
              exact blk_far7 hS3.2 (by omega) (.int .u32 (g : Int)) (.int .u32 (e : Int)) (.int .i64 a) (.int .u32 (b : Int)) (.int .u32 (c : Int)) (.int .u32 (d : Int)) (.int .u32 (f : Int))
            rw [hwf] at HXF HBF hhf
            have HHF := Lib.hid hhf
            clear hhf
            simp only [set7] at hwf
            rw [hwf]
            refine hK _ _ hSF ?_
            clear hK K d0 d1 d2 d3 d4 d5 d6 fr hwf
            try simp only [Act.put, List.setIfInBounds_toArray, List.set_cons_zero, List.set_cons_succ]
            refine wpI_lone rfl (by kernel_rfl) (fun K hK => ?_)
            have hc3 := HHF.out.conv (cap := C3) hl3
            go_simp
            refine hK _ _ hSF ?_
            clear hK K hc3
            try simp only [Act.put, List.setIfInBounds_toArray, List.set_cons_zero, List.set_cons_succ]
            iterate 2 (
              refine wpI_read (v := ?_) hSF rfl (by kernel_rfl) (by kernel_rfl) (by kernel_rfl) (fun _ _ _ h => h) (.inl ⟨by rfl, ?_⟩) ?_
              rotate_left
              · intro X hX
                obtain ⟨r0, r1, r2, r3, r4, r5, r6⟩ := hX.2.seven
                clear hX
                go_simp
                with_reducible rfl
              try simp only [Act.put, List.setIfInBounds_toArray, List.set_cons_zero, List.set_cons_succ])
            iterate 1 (
              refine wpI_read (v := ?_) hSF rfl (by kernel_rfl) (by kernel_rfl) (by kernel_rfl) (fun _ _ _ h => h) (.inl ⟨by rfl, ?_⟩) ?_
              rotate_left
              · intro X hX
                clear hX
                go_simp
                with_reducible rfl
              try simp only [Act.put, List.setIfInBounds_toArray, List.set_cons_zero, List.set_cons_succ])
            refine wpI_done (by kernel_rfl) ?_
            go_wp2_with fail
            have e0 := HXF.out.cell 0
            have e1 := HXF.out.cell 1
            have e2 := HXF.out.cell 2
            have e3 := HXF.out.cell 3
            have e4 := HXF.out.cell 4
            have e5 := HXF.out.cell 5
            have e6 := HXF.out.cell 6
            exact bodyPost_ret (v := .tuple #[lbV (g, e, a, b, c, d, f), .bool true]) (by simp [results, Tryz.f52, go_sem, e0, e1, e2, e3, e4, e5, e6]) rfl ⟨(g, e, a, b, c, d, f), rfl, HLL.out, HBF.out⟩
        · rw [if_neg (fun h => he h.2)] at hrr
          subst hrr
          have HLL : Hid (∀ l, (none : Option Lb) = some l → (g, e, a, b, c, d, f) = l) := Lib.hid fun l h => (by cases h)
          rw [decide_eq_false (fun h => he h.symm)] at heq
          clear he hmay
          go_wp2_with fail
          obtain ⟨wd, hwd⟩ : ∃ wd, wc.drew = wd := ⟨_, rfl⟩
          have HBd := Lib.hid (show Below w.heap.size w wd by rw [← hwd]; exact hbx.drew)
          have hSd : Below w.heap.size wd wd ∧ Blk wd ga 30 #[.int .u32 (g : Int), .int .u32 (e : Int), .int .i64 a, .int .u32 (b : Int), .int .u32 (c : Int), .int .u32 (d : Int), .int .u32 (f : Int)] := ⟨Below.refl _ _, by rw [← hwd]; exact hxp.drew⟩
          have hkd : Blk wd w.heap.size 30 #[.int .u32 0, .int .u32 0, .int .i64 0, .int .u32 0, .int .u32 0, .int .u32 0, .int .u32 0] := by rw [← hwd]; exact hkx.drew
          have HKd := Lib.hid hkd
          clear hbx hxp hkx hkd
          refine wpI_start (fun X => Below w.heap.size wd X ∧ Blk X ga 30 #[.int .u32 (g : Int), .int .u32 (e : Int), .int .i64 a, .int .u32 (b : Int), .int .u32 (c : Int), .int .u32 (d : Int), .int .u32 (f : Int)]) [0, 1, 2, 3, 4, 5, 6, 7, 8, 11, 12, 9, 10, 13, 14, 15, 16] hmx rfl hwd ?_
          clear hwd
          iterate 5 (
            refine wpI_read (v := ?_) hSd rfl (by kernel_rfl) (by kernel_rfl) (by kernel_rfl) (fun _ _ _ h => h) (.inl ⟨by rfl, ?_⟩) ?_
            rotate_left
            · intro X hX
              obtain ⟨r0, r1, r2, r3, r4, r5, r6⟩ := hX.2.seven
              clear hX
              go_simp
              with_reducible rfl
            try simp only [Act.put, List.setIfInBounds_toArray, List.set_cons_zero, List.set_cons_succ])
          refine wpI_lone rfl (by kernel_rfl) (fun K hK => ?_)
          go_simp
          refine (HMAY.out wd).mono ?_
          rintro ev w2 ⟨rfl, b2⟩
          have hS2 : Below w.heap.size wd w2 ∧ Blk w2 ga 30 #[.int .u32 (g : Int), .int .u32 (e : Int), .int .i64 a, .int .u32 (b : Int), .int .u32 (c : Int), .int .u32 (d : Int), .int .u32 (f : Int)] := ⟨b2.mono HBd.out.size, hSd.2.below b2 hSd.2.lt⟩
          have HB2 := Lib.hid (HBd.out.trans (b2.mono HBd.out.size))
          have HK2 := Lib.hid (HKd.out.below b2 HKd.out.lt)
          refine hK _ _ hS2 ?_
          clear hK K b2
          try simp only [Act.put, List.setIfInBounds_toArray, List.set_cons_zero, List.set_cons_succ]
          have cvs := fun X (hX : Below w.heap.size wd X) => ((HB0.out.below (HBd.out.trans hX)).conv)
          iterate 4 (
            refine wpI_read (v := ?_) hS2 rfl (by kernel_rfl) (by kernel_rfl) (by kernel_rfl) (fun _ _ _ h => h) (.inl ⟨by rfl, ?_⟩) ?_
            rotate_left
            · intro X hX
              obtain ⟨r0, r1, r2, r3, r4, r5, r6⟩ := hX.2.seven
              clear hX
              go_simp
              with_reducible rfl
            try simp only [Act.put, List.setIfInBounds_toArray, List.set_cons_zero, List.set_cons_succ])
          iterate 1 (
            refine wpI_read (v := ?_) hS2 rfl (by kernel_rfl) (by kernel_rfl) (by kernel_rfl) (fun _ _ _ h => h) (.inl ⟨by rfl, ?_⟩) ?_
            rotate_left
            · intro X hX
              obtain ⟨r0, r1, r2, r3, r4, r5, r6⟩ := hX.2.seven
              have hc := cvs X hX.1
              clear hX
              go_simp
              with_reducible rfl
            try simp only [Act.put, List.setIfInBounds_toArray, List.set_cons_zero, List.set_cons_succ])
          refine wpI_lone rfl (by kernel_rfl) (fun K hK => ?_)
          go_simp
          refine (HBLK.out w2).mono ?_
          rintro ev w3 ⟨v3, rfl, o3, b3⟩
          obtain ⟨G3, C3, rfl, hG3, hGl3, hn3, hcm3, hl3, hh3⟩ := bsl_of_own o3 (by omega)
          have HH3 := Lib.hid hh3
          have HG3 := Lib.hid (show w.heap.size < G3 by have := HB2.out.size; have := HBd.out.size; have := HK2.out.lt; omega)
          have hS3 : Below w.heap.size wd w3 ∧ Blk w3 ga 30 #[.int .u32 (g : Int), .int .u32 (e : Int), .int .i64 a, .int .u32 (b : Int), .int .u32 (c : Int), .int .u32 (d : Int), .int .u32 (f : Int)] := ⟨hS2.1.trans (b3.mono (by have := hS2.1.size; have := HBd.out.size; omega)), hS2.2.below b3 hS2.2.lt⟩
          have HB3' := Lib.hid (HB2.out.trans (b3.mono HB2.out.size))
          have HK3' := Lib.hid (HK2.out.below b3 HK2.out.lt)
          refine hK _ _ hS3 ?_
          clear hK K b3 o3 hG3 hGl3 hn3 hcm3 hh3
          try simp only [Act.put, List.setIfInBounds_toArray, List.set_cons_zero, List.set_cons_succ]
          refine wpI_turn [10, 15, 13, 14, 16] rfl ?_
          refine wpI_fork rfl rfl (by kernel_rfl) (fun K hK => ?_) (fun K hK => ?_)
          · have hc3 := HH3.out.conv (cap := C3) hl3
            go_simp
            refine hK _ _ hS3 ?_
            clear hK K hc3
            try simp only [Act.put, List.setIfInBounds_toArray, List.set_cons_zero, List.set_cons_succ]
            refine wpI_turn [13, 14, 15, 16] rfl ?_
            iterate 2 (
              refine wpI_read (v := ?_) hS3 rfl (by kernel_rfl) (by kernel_rfl) (by kernel_rfl) (fun _ _ _ h => h) (.inl ⟨by rfl, ?_⟩) ?_
              rotate_left
              · intro X hX
                obtain ⟨r0, r1, r2, r3, r4, r5, r6⟩ := hX.2.seven
                clear hX
                go_simp
                with_reducible rfl
              try simp only [Act.put, List.setIfInBounds_toArray, List.set_cons_zero, List.set_cons_succ])
            refine wpI_lone rfl (by kernel_rfl) (fun K hK => ?_)
            have d0 : w3.cell? ⟨w.heap.size, 0, none⟩ = some (.int .u32 0) := HK3'.out.cell 0
            have d1 : w3.cell? ⟨w.heap.size, 1, none⟩ = some (.int .u32 0) := HK3'.out.cell 1
            have d2 : w3.cell? ⟨w.heap.size, 2, none⟩ = some (.int .i64 0) := HK3'.out.cell 2
            have d3 : w3.cell? ⟨w.heap.size, 3, none⟩ = some (.int .u32 0) := HK3'.out.cell 3
            have d4 : w3.cell? ⟨w.heap.size, 4, none⟩ = some (.int .u32 0) := HK3'.out.cell 4
            have d5 : w3.cell? ⟨w.heap.size, 5, none⟩ = some (.int .u32 0) := HK3'.out.cell 5
            have d6 : w3.cell? ⟨w.heap.size, 6, none⟩ = some (.int .u32 0) := HK3'.out.cell 6
            have fr : ∀ i, w3.frozen? ⟨w.heap.size, i, none⟩ = false := fun i => HK3'.out.frozen i
            go_simp
            obtain ⟨wf, hwf⟩ : ∃ wf, set7 w3 w.heap.size (.int .u32 (g : Int)) (.int .u32 (e : Int)) (.int .i64 a) (.int .u32 (b : Int)) (.int .u32 (c : Int)) (.int .u32 (d : Int)) (.int .u32 (f : Int)) = wf := ⟨_, rfl⟩
            have HXF := Lib.hid (HK3'.out.set7 (.int .u32 (g : Int)) (.int .u32 (e : Int)) (.int .i64 a) (.int .u32 (b : Int)) (.int .u32 (c : Int)) (.int .u32 (d : Int)) (.int .u32 (f : Int)))
            have HBF := Lib.hid (below_set7 HB3'.out (Nat.le_refl w.heap.size) (.int .u32 (g : Int)) (.int .u32 (e : Int)) (.int .i64 a) (.int .u32 (b : Int)) (.int .u32 (c : Int)) (.int .u32 (d : Int)) (.int .u32 (f : Int)))
            have hSF : Below w.heap.size wd wf ∧ Blk wf ga 30 #[.int .u32 (g : Int), .int .u32 (e : Int), .int .i64 a, .int .u32 (b : Int), .int .u32 (c : Int), .int .u32 (d : Int), .int .u32 (f : Int)] := by
              rw [← hwf]
              refine ⟨below_set7 hS3.1 (Nat.le_refl w.heap.size) (.int .u32 (g : Int)) (.int .u32 (e : Int)) (.int .i64 a) (.int .u32 (b : Int)) (.int .u32 (c : Int)) (.int .u32 (d : Int)) (.int .u32 (f : Int)), ?_⟩
              exact blk_far7 hS3.2 (by omega) (.int .u32 (g : Int)) (.int .u32 (e : Int)) (.int .i64 a) (.int .u32 (b : Int)) (.int .u32 (c : Int)) (.int .u32 (d : Int)) (.int .u32 (f : Int))
            rw [hwf] at HXF HBF
            simp only [set7] at hwf
            rw [hwf]
            refine hK _ _ hSF ?_
            clear hK K d0 d1 d2 d3 d4 d5 d6 fr hwf
            try simp only [Act.put, List.setIfInBounds_toArray, List.set_cons_zero, List.set_cons_succ]
            iterate 1 (
              refine wpI_read (v := ?_) hSF rfl (by kernel_rfl) (by kernel_rfl) (by kernel_rfl) (fun _ _ _ h => h) (.inl ⟨by rfl, ?_⟩) ?_
              rotate_left
              · intro X hX
                clear hX
                go_simp
                with_reducible rfl
              try simp only [Act.put, List.setIfInBounds_toArray, List.set_cons_zero, List.set_cons_succ])
            refine wpI_done (by kernel_rfl) ?_
            go_wp2_with fail
            have e0 := HXF.out.cell 0
            have e1 := HXF.out.cell 1
            have e2 := HXF.out.cell 2
            have e3 := HXF.out.cell 3
            have e4 := HXF.out.cell 4
            have e5 := HXF.out.cell 5
            have e6 := HXF.out.cell 6
            exact bodyPost_ret (v := .tuple #[lbV (g, e, a, b, c, d, f), .bool false]) (by simp [results, Tryz.f52, go_sem, e0, e1, e2, e3, e4, e5, e6]) rfl ⟨(g, e, a, b, c, d, f), rfl, HLL.out, HBF.out⟩
          · have d0 : w3.cell? ⟨w.heap.size, 0, none⟩ = some (.int .u32 0) := HK3'.out.cell 0
            have d1 : w3.cell? ⟨w.heap.size, 1, none⟩ = some (.int .u32 0) := HK3'.out.cell 1
            have d2 : w3.cell? ⟨w.heap.size, 2, none⟩ = some (.int .i64 0) := HK3'.out.cell 2
            have d3 : w3.cell? ⟨w.heap.size, 3, none⟩ = some (.int .u32 0) := HK3'.out.cell 3
            have d4 : w3.cell? ⟨w.heap.size, 4, none⟩ = some (.int .u32 0) := HK3'.out.cell 4
            have d5 : w3.cell? ⟨w.heap.size, 5, none⟩ = some (.int .u32 0) := HK3'.out.cell 5
            have d6 : w3.cell? ⟨w.heap.size, 6, none⟩ = some (.int .u32 0) := HK3'.out.cell 6
            have fr : ∀ i, w3.frozen? ⟨w.heap.size, i, none⟩ = false := fun i => HK3'.out.frozen i
            go_simp
            have hhf := holds_far7 HH3.out HG3.out (.int .u32 (g : Int)) (.int .u32 (e : Int)) (.int .i64 a) (.int .u32 (b : Int)) (.int .u32 (c : Int)) (.int .u32 (d : Int)) (.int .u32 (f : Int))
            obtain ⟨wf, hwf⟩ : ∃ wf, set7 w3 w.heap.size (.int .u32 (g : Int)) (.int .u32 (e : Int)) (.int .i64 a) (.int .u32 (b : Int)) (.int .u32 (c : Int)) (.int .u32 (d : Int)) (.int .u32 (f : Int)) = wf := ⟨_, rfl⟩
            have HXF := Lib.hid (HK3'.out.set7 (.int .u32 (g : Int)) (.int .u32 (e : Int)) (.int .i64 a) (.int .u32 (b : Int)) (.int .u32 (c : Int)) (.int .u32 (d : Int)) (.int .u32 (f : Int)))
            have HBF := Lib.hid (below_set7 HB3'.out (Nat.le_refl w.heap.size) (.int .u32 (g : Int)) (.int .u32 (e : Int)) (.int .i64 a) (.int .u32 (b : Int)) (.int .u32 (c : Int)) (.int .u32 (d : Int)) (.int .u32 (f : Int)))
            have hSF : Below w.heap.size wd wf ∧ Blk wf ga 30 #[.int .u32 (g : Int), .int .u32 (e : Int), .int .i64 a, .int .u32 (b : Int), .int .u32 (c : Int), .int .u32 (d : Int), .int .u32 (f : Int)] := by
              rw [← hwf]
              refine ⟨below_set7 hS3.1 (Nat.le_refl w.heap.size) (.int .u32 (g : Int)) (.int .u32 (e : Int)) (.int .i64 a) (.int .u32 (b : Int)) (.int .u32 (c : Int)) (.int .u32 (d : Int)) (.int .u32 (f : Int)), ?_⟩
              exact blk_far7 hS3.2 (by omega) (.int .u32 (g : Int)) (.int .u32 (e : Int)) (.int .i64 a) (.int .u32 (b : Int)) (.int .u32 (c : Int)) (.int .u32 (d : Int)) (.int .u32 (f : Int))
            rw [hwf] at HXF HBF hhf
            have HHF := Lib.hid hhf
            clear hhf
            simp only [set7] at hwf
            rw [hwf]
            refine hK _ _ hSF ?_
            clear hK K d0 d1 d2 d3 d4 d5 d6 fr hwf
            try simp only [Act.put, List.setIfInBounds_toArray, List.set_cons_zero, List.set_cons_succ]
            refine wpI_lone rfl (by kernel_rfl) (fun K hK => ?_)
            have hc3 := HHF.out.conv (cap := C3) hl3
            go_simp
            refine hK _ _ hSF ?_
            clear hK K hc3
            try simp only [Act.put, List.setIfInBounds_toArray, List.set_cons_zero, List.set_cons_succ]
            iterate 2 (
              refine wpI_read (v := ?_) hSF rfl (by kernel_rfl) (by kernel_rfl) (by kernel_rfl) (fun _ _ _ h => h) (.inl ⟨by rfl, ?_⟩) ?_
              rotate_left
              · intro X hX
                obtain ⟨r0, r1, r2, r3, r4, r5, r6⟩ := hX.2.seven
                clear hX
                go_simp
                with_reducible rfl
              try simp only [Act.put, List.setIfInBounds_toArray, List.set_cons_zero, List.set_cons_succ])
            iterate 1 (
              refine wpI_read (v := ?_) hSF rfl (by kernel_rfl) (by kernel_rfl) (by kernel_rfl) (fun _ _ _ h => h) (.inl ⟨by rfl, ?_⟩) ?_
              rotate_left
              · intro X hX
                clear hX
                go_simp
                with_reducible rfl
              try simp only [Act.put, List.setIfInBounds_toArray, List.set_cons_zero, List.set_cons_succ])
            refine wpI_done (by kernel_rfl) ?_
            go_wp2_with fail
            have e0 := HXF.out.cell 0
            have e1 := HXF.out.cell 1
            have e2 := HXF.out.cell 2
            have e3 := HXF.out.cell 3
            have e4 := HXF.out.cell 4
            have e5 := HXF.out.cell 5
            have e6 := HXF.out.cell 6
            exact bodyPost_ret (v := .tuple #[lbV (g, e, a, b, c, d, f), .bool false]) (by simp [results, Tryz.f52, go_sem, e0, e1, e2, e3, e4, e5, e6]) rfl ⟨(g, e, a, b, c, d, f), rfl, HLL.out, HBF.out⟩
      · rw [decide_eq_false hmay] at hml
        rw [if_neg (fun h => hmay h.1)] at hrr
        subst hrr
        have HMAY := Lib.hid hml
        have HLL : Hid (∀ l, (none : Option Lb) = some l → (g, e, a, b, c, d, f) = l) := Lib.hid fun l h => (by cases h)
        clear hml hmay
        go_wp2_with fail
        obtain ⟨wd, hwd⟩ : ∃ wd, wc.drew = wd := ⟨_, rfl⟩
        have HBd := Lib.hid (show Below w.heap.size w wd by rw [← hwd]; exact hbx.drew)
        have hSd : Below w.heap.size wd wd ∧ Blk wd ga 30 #[.int .u32 (g : Int), .int .u32 (e : Int), .int .i64 a, .int .u32 (b : Int), .int .u32 (c : Int), .int .u32 (d : Int), .int .u32 (f : Int)] := ⟨Below.refl _ _, by rw [← hwd]; exact hxp.drew⟩
        have hkd : Blk wd w.heap.size 30 #[.int .u32 0, .int .u32 0, .int .i64 0, .int .u32 0, .int .u32 0, .int .u32 0, .int .u32 0] := by rw [← hwd]; exact hkx.drew
        have HKd := Lib.hid hkd
        clear hbx hxp hkx hkd
        refine wpI_start (fun X => Below w.heap.size wd X ∧ Blk X ga 30 #[.int .u32 (g : Int), .int .u32 (e : Int), .int .i64 a, .int .u32 (b : Int), .int .u32 (c : Int), .int .u32 (d : Int), .int .u32 (f : Int)]) [0, 1, 2, 3, 4, 5, 6, 7, 8, 11, 12, 9, 10, 13, 14, 15, 16] hmx rfl hwd ?_
        clear hwd
        iterate 5 (
          refine wpI_read (v := ?_) hSd rfl (by kernel_rfl) (by kernel_rfl) (by kernel_rfl) (fun _ _ _ h => h) (.inl ⟨by rfl, ?_⟩) ?_
          rotate_left
          · intro X hX
            obtain ⟨r0, r1, r2, r3, r4, r5, r6⟩ := hX.2.seven
            clear hX
            go_simp
            with_reducible rfl
          try simp only [Act.put, List.setIfInBounds_toArray, List.set_cons_zero, List.set_cons_succ])
        refine wpI_lone rfl (by kernel_rfl) (fun K hK => ?_)
        go_simp
        refine (HMAY.out wd).mono ?_
        rintro ev w2 ⟨rfl, b2⟩
        have hS2 : Below w.heap.size wd w2 ∧ Blk w2 ga 30 #[.int .u32 (g : Int), .int .u32 (e : Int), .int .i64 a, .int .u32 (b : Int), .int .u32 (c : Int), .int .u32 (d : Int), .int .u32 (f : Int)] := ⟨b2.mono HBd.out.size, hSd.2.below b2 hSd.2.lt⟩
        have HB2 := Lib.hid (HBd.out.trans (b2.mono HBd.out.size))
        have HK2 := Lib.hid (HKd.out.below b2 HKd.out.lt)
        refine hK _ _ hS2 ?_
        clear hK K b2
        try simp only [Act.put, List.setIfInBounds_toArray, List.set_cons_zero, List.set_cons_succ]
        iterate 2 (
          refine wpI_read (v := ?_) hS2 rfl (by kernel_rfl) (by kernel_rfl) (by kernel_rfl) (fun _ _ _ h => h) (.inl ⟨by rfl, ?_⟩) ?_
          rotate_left
          · intro X hX
            obtain ⟨r0, r1, r2, r3, r4, r5, r6⟩ := hX.2.seven
            clear hX
            go_simp
            with_reducible rfl
          try simp only [Act.put, List.setIfInBounds_toArray, List.set_cons_zero, List.set_cons_succ])
        iterate 6 (
          refine wpI_read (v := undef) hS2 rfl (by kernel_rfl) (by kernel_rfl) (by kernel_rfl) (fun _ _ _ h => h) (.inr ⟨by rfl, rfl⟩) ?_
          try simp only [Act.put, List.setIfInBounds_toArray, List.set_cons_zero, List.set_cons_succ])
        iterate 1 (
          refine wpI_read (v := ?_) hS2 rfl (by kernel_rfl) (by kernel_rfl) (by kernel_rfl) (fun _ _ _ h => h) (.inl ⟨by rfl, ?_⟩) ?_
          rotate_left
          · intro X hX
            obtain ⟨r0, r1, r2, r3, r4, r5, r6⟩ := hX.2.seven
            clear hX
            go_simp
            with_reducible rfl
          try simp only [Act.put, List.setIfInBounds_toArray, List.set_cons_zero, List.set_cons_succ])
        refine wpI_lone rfl (by kernel_rfl) (fun K hK => ?_)
        have d0 : w2.cell? ⟨w.heap.size, 0, none⟩ = some (.int .u32 0) := HK2.out.cell 0
        have d1 : w2.cell? ⟨w.heap.size, 1, none⟩ = some (.int .u32 0) := HK2.out.cell 1
        have d2 : w2.cell? ⟨w.heap.size, 2, none⟩ = some (.int .i64 0) := HK2.out.cell 2
        have d3 : w2.cell? ⟨w.heap.size, 3, none⟩ = some (.int .u32 0) := HK2.out.cell 3
        have d4 : w2.cell? ⟨w.heap.size, 4, none⟩ = some (.int .u32 0) := HK2.out.cell 4
        have d5 : w2.cell? ⟨w.heap.size, 5, none⟩ = some (.int .u32 0) := HK2.out.cell 5
        have d6 : w2.cell? ⟨w.heap.size, 6, none⟩ = some (.int .u32 0) := HK2.out.cell 6
        have fr : ∀ i, w2.frozen? ⟨w.heap.size, i, none⟩ = false := fun i => HK2.out.frozen i
        go_simp
        obtain ⟨wf, hwf⟩ : ∃ wf, set7 w2 w.heap.size (.int .u32 (g : Int)) (.int .u32 (e : Int)) (.int .i64 a) (.int .u32 (b : Int)) (.int .u32 (c : Int)) (.int .u32 (d : Int)) (.int .u32 (f : Int)) = wf := ⟨_, rfl⟩
        have HXF := Lib.hid (HK2.out.set7 (.int .u32 (g : Int)) (.int .u32 (e : Int)) (.int .i64 a) (.int .u32 (b : Int)) (.int .u32 (c : Int)) (.int .u32 (d : Int)) (.int .u32 (f : Int)))
        have HBF := Lib.hid (below_set7 HB2.out (Nat.le_refl w.heap.size) (.int .u32 (g : Int)) (.int .u32 (e : Int)) (.int .i64 a) (.int .u32 (b : Int)) (.int .u32 (c : Int)) (.int .u32 (d : Int)) (.int .u32 (f : Int)))
        have hSF : Below w.heap.size wd wf ∧ Blk wf ga 30 #[.int .u32 (g : Int), .int .u32 (e : Int), .int .i64 a, .int .u32 (b : Int), .int .u32 (c : Int), .int .u32 (d : Int), .int .u32 (f : Int)] := by
          rw [← hwf]
          refine ⟨below_set7 hS2.1 (Nat.le_refl w.heap.size) (.int .u32 (g : Int)) (.int .u32 (e : Int)) (.int .i64 a) (.int .u32 (b : Int)) (.int .u32 (c : Int)) (.int .u32 (d : Int)) (.int .u32 (f : Int)), ?_⟩
          exact blk_far7 hS2.2 (by omega) (.int .u32 (g : Int)) (.int .u32 (e : Int)) (.int .i64 a) (.int .u32 (b : Int)) (.int .u32 (c : Int)) (.int .u32 (d : Int)) (.int .u32 (f : Int))
        rw [hwf] at HXF HBF
        simp only [set7] at hwf
        rw [hwf]
        refine hK _ _ hSF ?_
        clear hK K d0 d1 d2 d3 d4 d5 d6 fr hwf
        try simp only [Act.put, List.setIfInBounds_toArray, List.set_cons_zero, List.set_cons_succ]
        iterate 1 (
          refine wpI_read (v := ?_) hSF rfl (by kernel_rfl) (by kernel_rfl) (by kernel_rfl) (fun _ _ _ h => h) (.inl ⟨by rfl, ?_⟩) ?_
          rotate_left
          · intro X hX
            clear hX
            go_simp
            with_reducible rfl
          try simp only [Act.put, List.setIfInBounds_toArray, List.set_cons_zero, List.set_cons_succ])
        refine wpI_done (by kernel_rfl) ?_
        go_wp2_with fail
        have e0 := HXF.out.cell 0
        have e1 := HXF.out.cell 1
        have e2 := HXF.out.cell 2
        have e3 := HXF.out.cell 3
        have e4 := HXF.out.cell 4
        have e5 := HXF.out.cell 5
        have e6 := HXF.out.cell 6
        exact bodyPost_ret (v := .tuple #[lbV (g, e, a, b, c, d, f), .bool false]) (by simp [results, Tryz.f52, go_sem, e0, e1, e2, e3, e4, e5, e6]) rfl ⟨(g, e, a, b, c, d, f), rfl, HLL.out, HBF.out⟩
end Go.Proofs.YtldnelimemjaiaaGreatDoor
/-
  Words for the document's own Twin of a disk: rows of the call's own whose pieces lie each in a block of its own.
-/
namespace Go.Proofs.YtldnelimemjaiaaGreatDoor
open Go.RowKit Go.Shelf
set_option maxRecDepth 100000

theorem own_val {w : World} {base n : Nat} {v : Value} {s : List UInt8} (h : w.ownsRow base 5 1 v n (vals s)) : ∃ A c, v = .slice A n c ∧ ∀ B, BslO w B A n c s := by
  obtain ⟨A, c, rfl⟩ := own_slice h
  exact ⟨A, c, rfl, fun B => BslO.own h B⟩
/-- The pieces' values: those that are there yet. -/
def ifDone (k i : Nat) (v : Value) : Value := if i < k then v else .slice none 0 0
theorem done_yes {k i : Nat} {v : Value} (h : i < k) : ifDone k i v = v := if_pos h
theorem done_no {k i : Nat} {v : Value} (h : ¬ i < k) : ifDone k i v = .slice none 0 0 := if_neg h
/-- One value more. -/
def putV (vs : Nat → Value) (k : Nat) (v : Value) (i : Nat) : Value := if i = k then v else vs i
theorem put_same (vs : Nat → Value) (k : Nat) (v : Value) : putV vs k v k = v := if_pos rfl
theorem put_ne {vs : Nat → Value} {k i : Nat} {v : Value} (h : i ≠ k) : putV vs k v i = vs i := if_neg h
/-- A disk whose first k pieces are there, each in a block of its own. -/
def TwI (base hb hw : Nat) (D : DkL) (k : Nat) (w : World) : Prop :=
  ∃ (vs : Nat → Value) (cb cw : Array Value), Blk w hb 45 cb ∧ cb.size = D.1.length ∧ Blk w hw 47 cw ∧ cw.size = D.2.length * 2 ∧
    (∀ i, i < D.1.length → cb[i]? = some (ifDone k i (vs i))) ∧
    (∀ j, j < D.2.length → cw[j * 2 + 1]? = some (ifDone k (D.1.length + j) (vs (D.1.length + j))) ∧ (D.1.length + j < k → cw[j * 2]? = some (.int .i64 (wr_ D.2 j).1))) ∧
    (∀ i, i < k → w.ownsRow base 5 1 (vs i) ((pieces D).getD i []).length (vals ((pieces D).getD i []))) ∧
    (∀ i j, i < j → j < k → ∀ b, (vs i).ownBlock = some b → (vs j).ownBlock ≠ some b)
theorem TwI.below {base hb hw k : Nat} {D : DkL} {w w' : World} (h : TwI base hb hw D k w) (hb' : Below w.heap.size w w') : TwI base hb hw D k w' := by
  obtain ⟨vs, cb, cw, h1, h2, h3, h4, h5, h6, h7, h8⟩ := h
  exact ⟨vs, cb, cw, h1.below hb' h1.lt, h2, h3.below hb' h3.lt, h4, h5, h6, fun i hi => own_below (h7 i hi) hb', h8⟩
theorem own_ne {w : World} {base n g : Nat} {v : Value} {xs : List Value} {t : TypeId} {cs : Array Value} (h : w.ownsRow base 5 1 v n xs) (hg : Blk w g t cs) (ht : t ≠ 5) : ∀ b, v.ownBlock = some b → b ≠ g := by
  intro b hb
  obtain ⟨_, ⟨rfl, _⟩ | ⟨g', cap, cur, rfl, _, h3, _⟩⟩ := h
  · cases hb
  · obtain rfl : g' = b := Option.some.inj hb
    exact fun e => (show Blk w g' _ cur from h3).ne hg (Ne.symm ht) e
/-- The next block is there. -/
theorem TwI.block {base hb hw k : Nat} {D : DkL} {w w' : World} {v : Value} (h : TwI base hb hw D k w) (hk : k < D.1.length) (hb' : Below w.heap.size w w') (hv : w'.ownsRow w.heap.size 5 1 v (D.1.getD k []).length (vals (D.1.getD k []))) (hbase : base ≤ w.heap.size) :
    TwI base hb hw D (k + 1) (w'.setCell ⟨hb, k, none⟩ v) := by
  have h0 := h.below hb'
  obtain ⟨vs, cb, cw, h1, h2, h3, h4, h5, h6, h7, h8⟩ := h
  have hlt : ∀ i, i < k → ∀ b, (vs i).ownBlock = some b → b < w.heap.size := fun i hi b e => ((h7 i hi).lt b e).2
  have x1 := h1.below hb' h1.lt
  have x3 := h3.below hb' h3.lt
  have hne : hw ≠ hb := x3.ne x1 (by decide)
  have gs : w'.grownBy (w'.setCell ⟨hb, k, none⟩ v) (some hb) := only_setCell (World.grownBy.refl w' _) (.inl rfl) _
  have hps : (pieces D).getD k [] = D.1.getD k [] := pieces_left hk
  refine ⟨putV vs k v, _, cw, x1.set_ k v, by simpa using h2, x3.far (by simpa using hne) _, h4, fun i hi => ?_, fun j hj => ?_, fun i hi => ?_, fun i j hij hj b e1 e2 => ?_⟩
  · rw [Array.getElem?_setIfInBounds]
    by_cases e : k = i
    · subst e
      rw [if_pos rfl, if_pos (by omega), done_yes (by omega), put_same]
    · rw [if_neg e, h5 i hi, put_ne (Ne.symm e)]
      by_cases e2 : i < k
      · rw [done_yes e2, done_yes (by omega)]
      · rw [done_no e2, done_no (by omega)]
  · obtain ⟨e1, e2⟩ := h6 j hj
    refine ⟨?_, fun hh => absurd hh (by omega)⟩
    rw [e1, done_no (by omega), done_no (by omega)]
  · by_cases e : i = k
    · subst e
      rw [put_same, hps]
      exact own_mono (own_other hv gs (own_ne hv x1 (by decide))) hbase
    · rw [put_ne e]
      have := own_below (h7 i (by omega)) hb'
      exact own_other this gs (own_ne this x1 (by decide))
  · rw [put_ne (by omega)] at e1
    by_cases e : j = k
    · subst e
      rw [put_same] at e2
      have h9 := hlt i (by omega) b e1
      have h10 := (hv.lt b e2).1
      omega
    · rw [put_ne e] at e2
      exact h8 i j hij (by omega) b e1 e2
/-- The next write's place is there. -/
theorem TwI.at_ {base hb hw k j : Nat} {D : DkL} {w : World} {u : Value} (h : TwI base hb hw D k w) (hk : k ≤ D.1.length + j) : TwI base hb hw D k (w.setCell ⟨hw, j * 2, none⟩ u) := by
  obtain ⟨vs, cb, cw, h1, h2, h3, h4, h5, h6, h7, h8⟩ := h
  have hne : hb ≠ hw := h1.ne h3 (by decide)
  have gs : w.grownBy (w.setCell ⟨hw, j * 2, none⟩ u) (some hw) := only_setCell (World.grownBy.refl w _) (.inl rfl) _
  refine ⟨vs, cb, _, h1.far (by simpa using hne) _, h2, h3.set_ _ _, by simpa using h4, h5, fun i hi => ?_, fun i hi => own_other (h7 i hi) gs (own_ne (h7 i hi) h3 (by decide)), h8⟩
  obtain ⟨e1, e2⟩ := h6 i hi
  refine ⟨by rw [Array.getElem?_setIfInBounds, if_neg (by omega)]; exact e1, fun hh => ?_⟩
  rw [Array.getElem?_setIfInBounds, if_neg (by omega)]
  exact e2 hh
/-- The next write is there. -/
theorem TwI.write {base hb hw k j : Nat} {D : DkL} {w w' : World} {v : Value} (h : TwI base hb hw D k w) (hk : k = D.1.length + j) (hj : j < D.2.length) (hat : w.cell? ⟨hw, j * 2, none⟩ = some (.int .i64 (wr_ D.2 j).1)) (hb' : Below w.heap.size w w') (hv : w'.ownsRow w.heap.size 5 1 v (wr_ D.2 j).2.length (vals (wr_ D.2 j).2)) (hbase : base ≤ w.heap.size) :
    TwI base hb hw D (k + 1) (w'.setCell ⟨hw, j * 2 + 1, none⟩ v) := by
  obtain ⟨vs, cb, cw, h1, h2, h3, h4, h5, h6, h7, h8⟩ := h
  have hlt : ∀ i, i < k → ∀ b, (vs i).ownBlock = some b → b < w.heap.size := fun i hi b e => ((h7 i hi).lt b e).2
  have x1 := h1.below hb' h1.lt
  have x3 := h3.below hb' h3.lt
  have hne : hb ≠ hw := x1.ne x3 (by decide)
  rw [h3.cell] at hat
  have gs : w'.grownBy (w'.setCell ⟨hw, j * 2 + 1, none⟩ v) (some hw) := only_setCell (World.grownBy.refl w' _) (.inl rfl) _
  have hps : (pieces D).getD k [] = (wr_ D.2 j).2 := by rw [hk]; exact pieces_right hj
  refine ⟨putV vs k v, cb, _, x1.far (by simpa using hne) _, h2, x3.set_ _ _, by simpa using h4, fun i hi => ?_, fun i hi => ?_, fun i hi => ?_, fun i i' hij hi' b e1 e2 => ?_⟩
  · rw [h5 i hi, put_ne (by omega), done_yes (by omega), done_yes (by omega)]
  · obtain ⟨e1, e2⟩ := h6 i hi
    by_cases e : i = j
    · subst e
      subst hk
      refine ⟨?_, fun _ => ?_⟩
      · rw [Array.getElem?_setIfInBounds, if_pos rfl, if_pos (by omega), done_yes (by omega), put_same]
      · rw [Array.getElem?_setIfInBounds, if_neg (by omega)]
        exact hat
    · refine ⟨?_, fun hh => ?_⟩
      · rw [Array.getElem?_setIfInBounds, if_neg (by omega), e1, put_ne (by omega)]
        by_cases e3 : D.1.length + i < k
        · rw [done_yes e3, done_yes (by omega)]
        · rw [done_no e3, done_no (by omega)]
      · rw [Array.getElem?_setIfInBounds, if_neg (by omega)]
        exact e2 (by omega)
  · by_cases e : i = k
    · subst e
      rw [put_same, hps]
      exact own_mono (own_other hv gs (own_ne hv x3 (by decide))) hbase
    · rw [put_ne e]
      have := own_below (h7 i (by omega)) hb'
      exact own_other this gs (own_ne this x3 (by decide))
  · rw [put_ne (by omega)] at e1
    by_cases e : i' = k
    · subst e
      rw [put_same] at e2
      have h9 := hlt i (by omega) b e1
      have h10 := (hv.lt b e2).1
      omega
    · rw [put_ne e] at e2
      exact h8 i i' hij (by omega) b e1 e2
/-- A disk all of whose pieces are there. -/
def Tw (w : World) (base : Nat) (x : DAt) (D : DkL) : Prop :=
  ∃ hb hw, x = ⟨some ⟨hb, 0, none⟩, D.1.length, some ⟨hw, 0, none⟩, D.2.length⟩ ∧ base ≤ hb ∧ base ≤ hw ∧ Fits D ∧ (∀ i, i < D.2.length → (Lit.int .i64 (wr_ D.2 i).1).wf = true) ∧ TwI base hb hw D (D.1.length + D.2.length) w
theorem Tw.below {w w' : World} {base : Nat} {x : DAt} {D : DkL} (h : Tw w base x D) (hb : Below w.heap.size w w') : Tw w' base x D := by
  obtain ⟨a, b, c, d, e, f, g, h1⟩ := h
  exact ⟨a, b, c, d, e, f, g, h1.below hb⟩
theorem Tw.brow {w : World} {base : Nat} {x : DAt} {D : DkL} (h : Tw w base x D) (C : Nat) : BRowC w C base (.slice x.ba D.1.length x.bc) D.1 := by
  obtain ⟨hb, hw, rfl, k1, k2, hf, hwf, vs, cb, cw, h1, h2, h3, h4, h5, h6, h7, h8⟩ := h
  refine ⟨cb.toList, ⟨by simp [h2], .inr ⟨hb, D.1.length, cb, rfl, k1, h1, Nat.le_refl _, by have := hf.1; unfold maxLen; omega, by omega, List.take_of_length_le (by simp [h2])⟩⟩, fun i hi => ?_⟩
  have ho := h7 i (by omega)
  rw [pieces_left hi] at ho
  obtain ⟨A, c, e, hs⟩ := own_val ho
  refine ⟨A, c, ?_, hs C⟩
  have := h5 i hi
  rw [done_yes (by omega), e] at this
  rw [List.getD_eq_getElem?_getD, Array.getElem?_toList, this]
  rfl
theorem Tw.wrow {w : World} {base : Nat} {x : DAt} {D : DkL} (h : Tw w base x D) (C : Nat) : WRowC w C base (.slice x.wa D.2.length x.wc) D.2 := by
  obtain ⟨hb, hw, rfl, k1, k2, hf, hwf, vs, cb, cw, h1, h2, h3, h4, h5, h6, h7, h8⟩ := h
  refine ⟨cw.toList, ⟨by simp [h4], .inr ⟨hw, D.2.length, cw, rfl, k2, h3, Nat.le_refl _, by have := hf.2.1; unfold maxLen; omega, h4, List.take_of_length_le (by simp [h4])⟩⟩, fun i hi => ?_⟩
  have ho := h7 (D.1.length + i) (by omega)
  rw [pieces_right hi] at ho
  obtain ⟨A, c, e, hs⟩ := own_val ho
  obtain ⟨e1, e2⟩ := h6 i hi
  rw [done_yes (by omega), e] at e1
  refine ⟨hwf i hi, ?_, A, c, ?_, hs C⟩
  · rw [List.getD_eq_getElem?_getD, Array.getElem?_toList, e2 (by omega)]
    rfl
  · rw [List.getD_eq_getElem?_getD, Array.getElem?_toList, e1]
    rfl
theorem Tw.dsk {w : World} {base : Nat} {x : DAt} {D : DkL} (h : Tw w base x D) : Dsk w w.heap.size x D := by
  obtain ⟨a, c, e1, h1⟩ := (h.brow 0).bls
  obtain ⟨a', c', e2, h2⟩ := (h.wrow 0).wts
  cases e1
  cases e2
  exact ⟨h1, h2⟩
/-- A disk that stays where a box of disks is written. -/
def DskT (w : World) (x : DAt) (D : DkL) : Prop := Dsk w w.heap.size x D ∧ ∀ g cs u v, Blk w g 25 cs → Dsk ((w.setCell ⟨g, 0, none⟩ u).setCell ⟨g, 1, none⟩ v) w.heap.size x D
theorem rows_dsk {w : World} {C C' b1 b2 : Nat} {x : DAt} {D : DkL} (h1 : BRowC w C b1 (.slice x.ba D.1.length x.bc) D.1) (h2 : WRowC w C' b2 (.slice x.wa D.2.length x.wc) D.2) : Dsk w w.heap.size x D := by
  obtain ⟨a, c, e1, h1⟩ := h1.bls
  obtain ⟨a', c', e2, h2⟩ := h2.wts
  cases e1
  cases e2
  exact ⟨h1, h2⟩
theorem rows_dskT {w : World} {b1 b2 : Nat} {x : DAt} {D : DkL} (h1 : BRowC w 0 b1 (.slice x.ba D.1.length x.bc) D.1) (h2 : WRowC w 0 b2 (.slice x.wa D.2.length x.wc) D.2) : DskT w x D :=
  ⟨rows_dsk h1 h2, fun g cs u v hg => by
    have gs : w.grownBy ((w.setCell ⟨g, 0, none⟩ u).setCell ⟨g, 1, none⟩ v) (some g) := only_two w g u v
    have := rows_dsk (h1.row gs (Nat.zero_le _) hg (by decide) (by decide)) (h2.row gs (Nat.zero_le _) hg (by decide) (by decide))
    simpa using this⟩
theorem Tw.dskT {w : World} {base : Nat} {x : DAt} {D : DkL} (h : Tw w base x D) : DskT w x D := rows_dskT (h.brow 0) (h.wrow 0)
/-- Two stores beside it. -/
theorem tw_far {w : World} {base base' g : Nat} {x : DAt} {D : DkL} {cs : Array Value} (h : Tw w base x D) (hg : Blk w g 25 cs) (hl : base' ≤ base) (u v : Value) : Tw ((w.setCell ⟨g, 0, none⟩ u).setCell ⟨g, 1, none⟩ v) base' x D := by
  obtain ⟨hb, hw, h0, k1, k2, hf, hwf, vs, cb, cw, h1, h2, h3, h4, h5, h6, h7, h8⟩ := h
  have n1 : hb ≠ g := h1.ne hg (by decide)
  have n2 : hw ≠ g := h3.ne hg (by decide)
  have gs : w.grownBy ((w.setCell ⟨g, 0, none⟩ u).setCell ⟨g, 1, none⟩ v) (some g) := only_two w g u v
  exact ⟨hb, hw, h0, by omega, by omega, hf, hwf, vs, cb, cw, (h1.far (by simpa using n1) _).far (by simpa using n1) _, h2, (h3.far (by simpa using n2) _).far (by simpa using n2) _, h4, h5, h6, fun i hi => own_mono (own_other (h7 i hi) gs (own_ne (h7 i hi) hg (by decide))) hl, h8⟩
end Go.Proofs.YtldnelimemjaiaaGreatDoor
/-
  The document's own Twin for layer 9.
-/
namespace Go.Proofs.YtldnelimemjaiaaGreatDoor
open Go.RowKit Go.Shelf
set_option maxRecDepth 100000

/-- What Twin answers. -/
def TwinPost (D : DkL) (w : World) (e : Ending) (w' : World) : Prop := ∃ x', e = .returned (dval x' D) ∧ Tw w' w.heap.size x' D ∧ Below w.heap.size w w'
set_option maxHeartbeats 8000000 in
theorem rdTwin_any (x : DAt) (D : DkL) (w : World) (h : Dsk w w.heap.size x D) (hf : Fits D) : Calls Tryz.prog 5 #[dval x D] w (TwinPost D w) := by
  have hmx : Tryz.prog.follows Departure.mixedOrders = true := by kernel_rfl
  obtain ⟨w0, hw0, b0, z0, x0, x1⟩ := two_boxes w (.slice x.ba D.1.length x.bc) (.slice x.wa D.2.length x.wc)
  have h0 := h.step b0
  obtain ⟨f1, f2, f3⟩ := hf
  obtain ⟨n, hn⟩ : ∃ n, D.1.length = n := ⟨_, rfl⟩
  obtain ⟨m, hm⟩ : ∃ m, D.2.length = m := ⟨_, rfl⟩
  obtain ⟨B, hB⟩ : ∃ B, w.heap.size = B := ⟨_, rfl⟩
  simp only [dval]
  rw [hn, hm] at x0 hw0
  rw [hn] at f1 ⊢
  rw [hm] at f2 ⊢
  rw [hB] at x0 x1 z0 b0
  have mk2 := make_rows n f1
  have mk3 := make_writes m f2
  have n0 : (0 : Int) ≤ n := by omega
  have n1 : (n : Int) ≤ 1000000 := by omega
  have m0 : (0 : Int) ≤ m := by omega
  have m1 : (m : Int) ≤ 1000000 := by omega
  have HX0 := Lib.hid x0
  have HX1 := Lib.hid x1
  have HB := Lib.hid b0
  have HZ := Lib.hid z0
  have HD := Lib.hid h0
  have HN := Lib.hid hn
  have HM := Lib.hid hm
  have HF3 := Lib.hid f3
  have HBB := Lib.hid hB
  clear h h0 x0 x1 b0 z0 f3 hn hm
  go_enter Tryz.func5, Tryz.ntmps5
  go_wp2_with fail
  clear hw0 hB
  go_cut [3] from 6 to 14 (fun v wx => ∃ gd hb hw, v = .pointer (some ⟨gd, 0, none⟩) ∧ B + 2 ≤ hb ∧ B + 2 ≤ hw ∧ B + 2 ≤ gd ∧
    Blk wx gd 25 #[.slice (some ⟨hb, 0, none⟩) n n, .slice (some ⟨hw, 0, none⟩) m m] ∧ Blk wx hb 45 (Array.replicate n (.slice none 0 0)) ∧ Blk wx hw 47 (noWrites m) ∧ Below (B + 2) w0 wx)
  case first =>
    obtain ⟨wd, hwd⟩ : ∃ wd, w0.drew = wd := ⟨_, rfl⟩
    have y0 : Blk wd B 25 #[.slice x.ba n x.bc, .slice x.wa m x.wc] := by rw [← hwd]; exact HX0.out.drew
    have bd : Below (B + 2) w0 wd := by rw [← hwd, ← HZ.out]; exact (Below.refl _ w0).drew
    have hzd : wd.heap.size = B + 2 := by rw [← hwd]; exact HZ.out
    have HBD := Lib.hid bd
    have HZD := Lib.hid hzd
    have HY := Lib.hid y0
    have hS : Below wd.heap.size wd wd := Below.refl _ _
    have C0 := fun X (hX : Below wd.heap.size wd X) => (hX.cell (p := ⟨B, 0, none⟩) (by show B < _; omega)).trans (y0.cell 0)
    have C1 := fun X (hX : Below wd.heap.size wd X) => (hX.cell (p := ⟨B, 1, none⟩) (by show B < _; omega)).trans (y0.cell 1)
    clear bd hzd y0
    refine wpI_start (Below wd.heap.size wd) [0, 1, 2, 4, 5, 6, 3, 7, 9, 8, 10] hmx rfl hwd ?_
    clear hwd
    iterate 6 (
      refine wpI_read (v := ?_) hS rfl (by kernel_rfl) (by kernel_rfl) (by kernel_rfl) (fun _ _ _ h => h) (.inl ⟨by rfl, ?_⟩) ?_
      rotate_left
      · intro X hX
        have hXa := C0 X hX
        have hXb := C1 X hX
        go_simp
        with_reducible rfl
      try simp only [Act.put, List.setIfInBounds_toArray, List.set_cons_zero, List.set_cons_succ])
    clear C0 C1
    refine wpI_fork3 rfl rfl rfl (by kernel_rfl) (fun K hK => ?_) (fun K hK => ?_) (fun K hK => ?_)
    all_goals
      go_simp
      refine hK _ _ (hS.alloc (Nat.le_refl _) _) ?_
      clear hK K
      try simp only [Act.put, List.setIfInBounds_toArray, List.set_cons_zero, List.set_cons_succ]
      refine wpI_fork rfl rfl (by kernel_rfl) (fun K hK => ?_) (fun K hK => ?_)
    all_goals
      go_simp
      refine hK _ _ (below_alloc2' _ _ _) ?_
      clear hK K
      try simp only [Act.put, List.setIfInBounds_toArray, List.set_cons_zero, List.set_cons_succ]
    all_goals
      first
        | (refine wpI_turn [8, 9, 10] rfl ?_
           refine wpI_read (v := ?_) (below_alloc2' _ _ _) rfl (by kernel_rfl) (by kernel_rfl) (by kernel_rfl) (fun _ _ _ h => h) (.inl ⟨by rfl, ?_⟩) ?_
           rotate_left
           · intro X hX
             go_simp
             with_reducible rfl
           try simp only [Act.put, List.setIfInBounds_toArray, List.set_cons_zero, List.set_cons_succ]
           refine wpI_lone rfl (by kernel_rfl) (fun K hK => ?_)
           go_simp
           refine hK _ _ (below_alloc3' _ _ _ _) ?_
           clear hK K
           try simp only [Act.put, List.setIfInBounds_toArray, List.set_cons_zero, List.set_cons_succ])
        | (refine wpI_lone rfl (by kernel_rfl) (fun K hK => ?_)
           go_simp
           refine hK _ _ (below_alloc3' _ _ _ _) ?_
           clear hK K
           try simp only [Act.put, List.setIfInBounds_toArray, List.set_cons_zero, List.set_cons_succ]
           refine wpI_read (v := ?_) (below_alloc3' _ _ _ _) rfl (by kernel_rfl) (by kernel_rfl) (by kernel_rfl) (fun _ _ _ h => h) (.inl ⟨by rfl, ?_⟩) ?_
           rotate_left
           · intro X hX
             go_simp
             with_reducible rfl
           try simp only [Act.put, List.setIfInBounds_toArray, List.set_cons_zero, List.set_cons_succ])
      refine wpI_lone rfl (by kernel_rfl) (fun K hK => ?_)
      go_simp
      refine hK _ _ (below_alloc3' _ _ _ _) ?_
      clear hK K
      try simp only [Act.put, List.setIfInBounds_toArray, List.set_cons_zero, List.set_cons_succ]
      refine wpI_done (by kernel_rfl) ?_
      go_wp2_with fail
      go_meet
      have hz := HZD.out
      refine ⟨_, _, _, rfl, ?_, ?_, ?_, (by first | exact blk3_0 _ _ _ _ _ | exact blk3_1 _ _ _ _ _ | exact blk3_2 _ _ _ _ _), (by first | exact blk3_0 _ _ _ _ _ | exact blk3_1 _ _ _ _ _ | exact blk3_2 _ _ _ _ _), (by first | exact blk3_0 _ _ _ _ _ | exact blk3_1 _ _ _ _ _ | exact blk3_2 _ _ _ _ _), HBD.out.trans ((below_alloc3' _ _ _ _).mono (by omega))⟩
      all_goals omega
  case rest =>
    obtain ⟨gd, hb, hw, rfl, k1, k2, k3, y1, y2, y3, bx⟩ := hcut
    have hI : TwI (B + 2) hb hw D 0 wc := ⟨fun _ => undef, _, _, y2, by simp [HN.out], y3, by rw [noWrites_size, HM.out], fun i hi => by rw [done_no (Nat.not_lt_zero _)]; simp [← HN.out, hi], fun j hj => ⟨by rw [done_no (Nat.not_lt_zero _)]; exact noWrites_data m j (by rw [← HM.out]; exact hj), fun h => absurd h (Nat.not_lt_zero _)⟩, fun i h => absurd h (Nat.not_lt_zero _), fun i j _ h => absurd h (Nat.not_lt_zero _)⟩
    have HI := Lib.hid hI
    have HG := Lib.hid y1
    have HBx := Lib.hid bx
    clear hI y1 y2 y3 bx mk2 mk3
    go_wp2_with fail
    go_loopw [4] (fun i wr => ∃ k : Nat, k ≤ n ∧ i = .int .i64 k ∧ Hid (TwI (B + 2) hb hw D k wr) ∧ Hid (Blk wr gd 25 #[.slice (some ⟨hb, 0, none⟩) n n, .slice (some ⟨hw, 0, none⟩) m m]) ∧ Hid (Below (B + 2) w0 wr)) (fun i _ => n - (intOf i).toNat)
    case atStart => exact ⟨0, Nat.zero_le _, rfl, HI, HG, HBx⟩
    case round =>
      obtain ⟨k, hk, rfl, HIr, HGr, HBr⟩ := hrel
      clear HI HG HBx
      have i0 : (0 : Int) ≤ k := by omega
      have hz := HZ.out
      have x0r := HX0.out.below HBr.out (by omega)
      have r0 := x0r.cell 0
      have r1 := x0r.cell 1
      by_cases hlt : k < n
      · have i1 : (k : Int) < n := by omega
        obtain ⟨b, off, A, l, c, s, hbe, hlb, hl, hc, hA⟩ := HD.out.1.at_ (show k < D.1.length by rw [HN.out]; exact hlt)
        obtain ⟨ba, bc, wa, wc'⟩ := x
        obtain rfl : ba = some ⟨b, off, none⟩ := hbe
        rw [hz] at hlb hA
        obtain ⟨wd, hwd⟩ : ∃ wd, wr.drew = wd := ⟨_, rfl⟩
        have bd : Below wr.heap.size wr wd := by rw [← hwd]; exact (Below.refl _ wr).drew
        have hId := HIr.out.below bd
        have hGd := HGr.out.below bd HGr.out.lt
        have hxd := x0r.below bd x0r.lt
        have hBd : Below (B + 2) w0 wd := by rw [← hwd]; exact HBr.out.drew
        have c1 := (hBd.cell (p := ⟨b, off + k, none⟩) hlb).trans hc
        have hAd := hA.below hBd
        have hcell : wd.cell? ⟨hb, k, none⟩ = some (.slice none 0 0) := by
          obtain ⟨vs, cb, cw, h1, h2, _, _, h5, _⟩ := hId
          rw [h1.cell, h5 k (by rw [HN.out]; exact hlt), done_no (Nat.lt_irrefl k)]
        have hszd : B + 2 ≤ wd.heap.size := by have := hBd.size; omega
        have hll : l ≤ 1000000000000 := by
          have e1 := sumB_mono D.1 (show k + 1 ≤ D.1.length by rw [HN.out]; omega)
          have e2 : sumB D.1 (k + 1) = sumB D.1 k + l := by rw [sumB, hl, hA.1]
          have e3 := HF3.out
          unfold sumD at e3
          omega
        have g0 := hGd.cell 0
        have d0 := hxd.cell 0
        have C0 := fun X (hX : Below wd.heap.size wd X) => (hX.cell (p := ⟨gd, 0, none⟩) hGd.lt).trans g0
        have C1 := fun X (hX : Below wd.heap.size wd X) => (hX.cell (p := ⟨B, 0, none⟩) (by show B < _; omega)).trans d0
        have C2 := fun X (hX : Below wd.heap.size wd X) => (hX.cell (p := ⟨hb, k, none⟩) (World.block_lt_of_cell? wd _ hcell)).trans hcell
        have C3 := fun X (hX : Below wd.heap.size wd X) => (hX.cell (p := ⟨b, off + k, none⟩) (by show b < _; omega)).trans c1
        have hS : Below wd.heap.size wd wd := Below.refl _ _
        have HId := Lib.hid hId
        have HGd := Lib.hid hGd
        have HBd := Lib.hid hBd
        have HAd := Lib.hid hAd
        have HL := Lib.hid (And.intro hl hA.1)
        have HSZ := Lib.hid hszd
        have HLL := Lib.hid hll
        clear hId hGd hxd hBd hAd hA hc hcell hl g0 d0 c1 HIr HGr HBr x0r bd hszd hll hz
        go_wp2_with fail
        clear r0 r1
        refine wpS_start [0, 1, 2, 3, 4, 5, 6, 7, 8, 9, 10, 11, 12, 13, 14, 15] hmx rfl hwd ?_
        clear hwd
        iterate 13 (
          refine wpS_read (v := ?_) rfl (by kernel_rfl) (by kernel_rfl) (by kernel_rfl) (fun _ _ _ h => h) (.inl ⟨by rfl, ?_⟩) ?_
          rotate_left
          · intro X hX
            have hXa := C0 X (hX _ hS)
            have hXb := C1 X (hX _ hS)
            have hXc := C2 X (hX _ hS)
            have hXd := C3 X (hX _ hS)
            clear hX
            go_simp
            with_reducible rfl
          try simp only [Act.put, List.setIfInBounds_toArray, List.set_cons_zero, List.set_cons_succ])
        clear C0 C1 C2 C3
        refine wpS_append_new rfl (by kernel_rfl) rfl (.tmp 29) (.tmp 34) rfl rfl _ A l c s rfl HAd.out (by have := HLL.out; omega) ?_
        intro v2 w2 ho2 b2
        obtain ⟨A2, c2, rfl⟩ := own_slice ho2
        have hfin := HId.out.block (v := .slice A2 l c2) (by rw [HN.out]; exact hlt) b2 (by rw [HL.out.1, HL.out.2]; exact ho2) HSZ.out
        have hGf := (HGd.out.below b2 HGd.out.lt)
        have hx2 : ∃ cb, Blk w2 hb 45 cb ∧ cb.size = n := by
          obtain ⟨vs, cb, cw, h1, h2, _⟩ := HId.out
          exact ⟨cb, h1.below b2 h1.lt, by rw [h2, HN.out]⟩
        obtain ⟨cb, hcb, hcs⟩ := hx2
        obtain ⟨u3, hu3⟩ : ∃ u, w2.cell? ⟨hb, k, none⟩ = some u := ⟨_, by rw [hcb.cell]; exact Array.getElem?_eq_getElem (by omega)⟩
        have hf3 := hcb.frozen k
        have hne : gd ≠ hb := hGf.ne hcb (by decide)
        have HFIN := Lib.hid hfin
        have HGF := Lib.hid (hGf.far (p := ⟨hb, k, none⟩) hne (.slice A2 l c2))
        have HBF := Lib.hid ((HBd.out.trans (b2.mono HSZ.out)).setCell (p := ⟨hb, k, none⟩) (by show B + 2 ≤ hb; omega) (.slice A2 l c2))
        clear hfin hGf hcb hcs hne b2 ho2 HId HGd HBd HAd hS
        try simp only [Act.put, List.setIfInBounds_toArray, List.set_cons_zero, List.set_cons_succ]
        refine wpS_read (v := ?_) rfl (by kernel_rfl) (by kernel_rfl) (by kernel_rfl) (fun _ _ _ h => h) (.inl ⟨by rfl, ?_⟩) ?_
        rotate_left
        · intro X hX
          clear hX
          go_simp
          with_reducible rfl
        try simp only [Act.put, List.setIfInBounds_toArray, List.set_cons_zero, List.set_cons_succ]
        refine wpS_last rfl (by kernel_rfl) (by kernel_rfl) (fun K hK => ?_)
        go_simp
        refine hK _ _ ?_
        clear hK K
        try simp only [Act.put, List.setIfInBounds_toArray, List.set_cons_zero, List.set_cons_succ]
        refine wpS_done (by kernel_rfl) ?_
        go_wp2_with fail
        go_roundw
        case rel => exact ⟨k + 1, by omega, by go_num, HFIN, HGF, HBF⟩
        case measure => simp [intOf]; omega
      · obtain rfl : k = n := by omega
        go_wp2_with fail
        clear r0 r1
        go_loopw [5] (fun i wr => ∃ j : Nat, j ≤ m ∧ i = .int .i64 j ∧ Hid (TwI (B + 2) hb hw D (k + j) wr) ∧ Hid (Blk wr gd 25 #[.slice (some ⟨hb, 0, none⟩) k k, .slice (some ⟨hw, 0, none⟩) m m]) ∧ Hid (Below (B + 2) w0 wr)) (fun i _ => m - (intOf i).toNat)
        case atStart => exact ⟨0, Nat.zero_le _, rfl, HIr, HGr, HBr⟩
        case round =>
          obtain ⟨j, hj, rfl, HI, HG, HBx⟩ := hrel
          clear HIr HGr HBr
          have j0 : (0 : Int) ≤ j := by omega
          have x0r := HX0.out.below HBx.out (by omega)
          have r0 := x0r.cell 0
          have r1 := x0r.cell 1
          by_cases hlt : j < m
          · have j1 : (j : Int) < m := by omega
            obtain ⟨b, off, p, A, l, c, s, hbe, hlb, hl, _, hc, hd, hA⟩ := HD.out.2.at_ (show j < D.2.length by rw [HM.out]; exact hlt)
            obtain ⟨ba, bc, wa, wc'⟩ := x
            obtain rfl : wa = some ⟨b, off, none⟩ := hbe
            rw [hz] at hlb hA
            -- its place
            obtain ⟨wd, hwd⟩ : ∃ wd, wr.drew = wd := ⟨_, rfl⟩
            have bd : Below wr.heap.size wr wd := by rw [← hwd]; exact (Below.refl _ wr).drew
            have hId := HI.out.below bd
            have hGd := HG.out.below bd HG.out.lt
            have hxd := x0r.below bd x0r.lt
            have hBd : Below (B + 2) w0 wd := by rw [← hwd]; exact HBx.out.drew
            have c1 := (hBd.cell (p := ⟨b, off + j * 2, none⟩) hlb).trans hc
            have hszd : B + 2 ≤ wd.heap.size := by have := hBd.size; omega
            have g1 := hGd.cell 1
            have d1 := hxd.cell 1
            have hcw : ∃ cw, Blk wd hw 47 cw ∧ cw.size = m * 2 := by
              obtain ⟨vs, cb, cw, _, _, h3, h4, _⟩ := hId
              exact ⟨cw, h3, by rw [h4, HM.out]⟩
            obtain ⟨cw, hcw1, hcw2⟩ := hcw
            obtain ⟨u3, hu3⟩ : ∃ u, wd.cell? ⟨hw, j * 2, none⟩ = some u := ⟨_, by rw [hcw1.cell]; exact Array.getElem?_eq_getElem (by omega)⟩
            have hf3 := hcw1.frozen (j * 2)
            have hne : gd ≠ hw := hGd.ne hcw1 (by decide)
            have hneB : B ≠ hw := by omega
            have hI3 := hId.at_ (j := j) (u := .int .i64 p) (by rw [HN.out]; exact Nat.le_refl _)
            have hG3 := hGd.far (p := ⟨hw, j * 2, none⟩) hne (.int .i64 p)
            have hB3 := hBd.setCell (p := ⟨hw, j * 2, none⟩) (by show B + 2 ≤ hw; omega) (.int .i64 p)
            have hat3 : (wd.setCell ⟨hw, j * 2, none⟩ (.int .i64 p)).cell? ⟨hw, j * 2, none⟩ = some (.int .i64 p) := by
              have := (hcw1.set_ (j * 2) (.int .i64 p)).cell (j * 2)
              rw [this, Array.getElem?_setIfInBounds, if_pos rfl, if_pos (by omega)]
            have HI3 := Lib.hid hI3
            have HG3 := Lib.hid hG3
            have HB3 := Lib.hid hB3
            have HAT := Lib.hid hat3
            have HL := Lib.hid (And.intro hl hA.1)
            have HAw := Lib.hid hA
            have HDD := Lib.hid hd
            clear hId hGd hxd hBd bd hcw1 hcw2 hne hneB hI3 hG3 hB3 hat3 hl hA hd HI HG HBx x0r
            go_wp2_with fail
            clear r0 r1
            have C0 := fun X (hX : Below wd.heap.size wd X) => (hX.cell (p := ⟨gd, 1, none⟩) (World.block_lt_of_cell? wd _ g1)).trans g1
            have C1 := fun X (hX : Below wd.heap.size wd X) => (hX.cell (p := ⟨B, 1, none⟩) (World.block_lt_of_cell? wd _ d1)).trans d1
            have C2 := fun X (hX : Below wd.heap.size wd X) => (hX.cell (p := ⟨b, off + j * 2, none⟩) (World.block_lt_of_cell? wd _ c1)).trans c1
            have hS : Below wd.heap.size wd wd := Below.refl _ _
            clear g1 d1 c1 hc hszd
            refine wpS_start [0, 1, 2, 3, 4, 5, 6, 7, 8, 9, 10, 11] hmx rfl hwd ?_
            clear hwd
            iterate 11 (
              refine wpS_read (v := ?_) rfl (by kernel_rfl) (by kernel_rfl) (by kernel_rfl) (fun _ _ _ h => h) (.inl ⟨by rfl, ?_⟩) ?_
              rotate_left
              · intro X hX
                have hXa := C0 X (hX _ hS)
                have hXb := C1 X (hX _ hS)
                have hXc := C2 X (hX _ hS)
                clear hX
                go_simp
                with_reducible rfl
              try simp only [Act.put, List.setIfInBounds_toArray, List.set_cons_zero, List.set_cons_succ])
            clear C0 C1 C2 hS
            refine wpS_last rfl (by kernel_rfl) (by kernel_rfl) (fun K hK => ?_)
            go_simp
            refine hK _ _ ?_
            clear hK K hu3 hf3
            try simp only [Act.put, List.setIfInBounds_toArray, List.set_cons_zero, List.set_cons_succ]
            refine wpS_done (by kernel_rfl) ?_
            obtain ⟨w3, hw3⟩ : ∃ w3, wd.setCell ⟨hw, j * 2, none⟩ (.int .i64 p) = w3 := ⟨_, rfl⟩
            rw [hw3] at HI3 HG3 HB3 HAT ⊢
            clear hw3 wd
            -- its data
            obtain ⟨hl, hA1⟩ := HL.out
            have hA := HAw.out
            have hcd := HDD.out
            have hws : (wr_ D.2 j) = (p, s) := hl
            obtain ⟨wd, hwd⟩ : ∃ wd, w3.drew = wd := ⟨_, rfl⟩
            have bd : Below w3.heap.size w3 wd := by rw [← hwd]; exact (Below.refl _ w3).drew
            have hId := HI3.out.below bd
            have hGd := HG3.out.below bd HG3.out.lt
            have hBd : Below (B + 2) w0 wd := by rw [← hwd]; exact HB3.out.drew
            have hxd := HX0.out.below hBd (by omega)
            have hAd := hA.below hBd
            have hszd : B + 2 ≤ wd.heap.size := by have := hBd.size; omega
            have c1 := (hBd.cell (p := ⟨b, off + j * 2 + 1, none⟩) hlb).trans hcd
            have hat : wd.cell? ⟨hw, j * 2, none⟩ = some (.int .i64 p) := (bd.cell (p := ⟨hw, j * 2, none⟩) (World.block_lt_of_cell? w3 _ HAT.out)).trans HAT.out
            have hcell : wd.cell? ⟨hw, j * 2 + 1, none⟩ = some (.slice none 0 0) := by
              obtain ⟨vs, cb, cw, h1, h2, h3, h4, h5, h6, _⟩ := hId
              rw [h3.cell, (h6 j (by rw [HM.out]; exact hlt)).1, done_no (by rw [HN.out]; exact Nat.lt_irrefl _)]
            have hll : l ≤ 1000000000000 := by
              have e1 := sumW_mono D.2 (show j + 1 ≤ D.2.length by rw [HM.out]; omega)
              have e2 : sumW D.2 (j + 1) = sumW D.2 j + l := by rw [sumW, hws, hA.1]
              have e3 := HF3.out
              unfold sumD at e3
              omega
            have g1 := hGd.cell 1
            have d1 := hxd.cell 1
            have C0 := fun X (hX : Below wd.heap.size wd X) => (hX.cell (p := ⟨gd, 1, none⟩) (World.block_lt_of_cell? wd _ g1)).trans g1
            have C1 := fun X (hX : Below wd.heap.size wd X) => (hX.cell (p := ⟨B, 1, none⟩) (World.block_lt_of_cell? wd _ d1)).trans d1
            have C2 := fun X (hX : Below wd.heap.size wd X) => (hX.cell (p := ⟨b, off + j * 2 + 1, none⟩) (World.block_lt_of_cell? wd _ c1)).trans c1
            have C3 := fun X (hX : Below wd.heap.size wd X) => (hX.cell (p := ⟨hw, j * 2 + 1, none⟩) (World.block_lt_of_cell? wd _ hcell)).trans hcell
            have hS : Below wd.heap.size wd wd := Below.refl _ _
            have HId := Lib.hid hId
            have HGd := Lib.hid hGd
            have HBd := Lib.hid hBd
            have HAd := Lib.hid hAd
            have HSZ := Lib.hid hszd
            have HLL := Lib.hid hll
            have HWS := Lib.hid hws
            have HATd := Lib.hid hat
            have HA1 := Lib.hid hA1
            clear hId hGd hxd hBd hAd hA hA1 hcd hcell hl hws g1 d1 c1 HI3 HG3 HB3 HAT bd hszd hll hat HL HAw HDD
            go_wp2_with fail
            refine wpS_start [0, 1, 2, 3, 4, 5, 6, 7, 8, 9, 10, 11, 12, 13, 14, 15, 16, 17, 18] hmx rfl hwd ?_
            clear hwd
            iterate 15 (
              refine wpS_read (v := ?_) rfl (by kernel_rfl) (by kernel_rfl) (by kernel_rfl) (fun _ _ _ h => h) (.inl ⟨by rfl, ?_⟩) ?_
              rotate_left
              · intro X hX
                have hXa := C0 X (hX _ hS)
                have hXb := C1 X (hX _ hS)
                have hXc := C2 X (hX _ hS)
                have hXd := C3 X (hX _ hS)
                clear hX
                go_simp
                with_reducible rfl
              try simp only [Act.put, List.setIfInBounds_toArray, List.set_cons_zero, List.set_cons_succ])
            clear C0 C1 C2 C3
            refine wpS_append_new rfl (by kernel_rfl) rfl (.tmp 63) (.tmp 69) rfl rfl _ A l c s rfl HAd.out (by have := HLL.out; omega) ?_
            intro v2 w2 ho2 b2
            obtain ⟨A2, c2, rfl⟩ := own_slice ho2
            have hfin := HId.out.write (j := j) (v := .slice A2 l c2) (by rw [HN.out]) (by rw [HM.out]; exact hlt) (by rw [HWS.out]; exact HATd.out) b2 (by rw [HWS.out]; show w2.ownsRow _ _ _ _ s.length (vals s); rw [HA1.out]; exact ho2) HSZ.out
            have hGf := (HGd.out.below b2 HGd.out.lt)
            have hx2 : ∃ cw, Blk w2 hw 47 cw ∧ cw.size = m * 2 := by
              obtain ⟨vs, cb, cw, h1, h2, h3, h4, _⟩ := HId.out
              exact ⟨cw, h3.below b2 h3.lt, by rw [h4, HM.out]⟩
            obtain ⟨cw, hcw1, hcw2⟩ := hx2
            obtain ⟨u3, hu3⟩ : ∃ u, w2.cell? ⟨hw, j * 2 + 1, none⟩ = some u := ⟨_, by rw [hcw1.cell]; exact Array.getElem?_eq_getElem (by omega)⟩
            have hf3 := hcw1.frozen (j * 2 + 1)
            have hne : gd ≠ hw := hGf.ne hcw1 (by decide)
            have HFIN := Lib.hid hfin
            have HGF := Lib.hid (hGf.far (p := ⟨hw, j * 2 + 1, none⟩) hne (.slice A2 l c2))
            have HBF := Lib.hid ((HBd.out.trans (b2.mono HSZ.out)).setCell (p := ⟨hw, j * 2 + 1, none⟩) (by show B + 2 ≤ hw; omega) (.slice A2 l c2))
            clear hfin hGf hcw1 hcw2 hne b2 ho2 HId HGd HBd HAd hS
            try simp only [Act.put, List.setIfInBounds_toArray, List.set_cons_zero, List.set_cons_succ]
            iterate 2 (
              refine wpS_read (v := ?_) rfl (by kernel_rfl) (by kernel_rfl) (by kernel_rfl) (fun _ _ _ h => h) (.inl ⟨by rfl, ?_⟩) ?_
              rotate_left
              · intro X hX
                clear hX
                go_simp
                with_reducible rfl
              try simp only [Act.put, List.setIfInBounds_toArray, List.set_cons_zero, List.set_cons_succ])
            refine wpS_last rfl (by kernel_rfl) (by kernel_rfl) (fun K hK => ?_)
            go_simp
            refine hK _ _ ?_
            clear hK K
            try simp only [Act.put, List.setIfInBounds_toArray, List.set_cons_zero, List.set_cons_succ]
            refine wpS_done (by kernel_rfl) ?_
            go_wp2_with fail
            go_roundw
            case rel => exact ⟨j + 1, by omega, by go_num, HFIN, HGF, HBF⟩
            case measure => simp [intOf]; omega
          · obtain rfl : j = m := by omega
            have hG := HG.out
            have t1 := hG.cell 0
            have t2 := hG.cell 1
            have hx1 := HX1.out.below HBx.out (by omega)
            have r2 := hx1.cell 0
            have r3 := hx1.cell 1
            have hf0 := hx1.frozen 0
            have hf1 := hx1.frozen 1
            have hwf : ∀ i, i < D.2.length → (Lit.int .i64 (wr_ D.2 i).1).wf = true := fun i hi => by
              obtain ⟨_, _, p, _, _, _, _, _, _, hp, hwf, _⟩ := HD.out.2.at_ hi
              rw [hp]
              exact hwf
            have hT : Tw wr (B + 2) ⟨some ⟨hb, 0, none⟩, k, some ⟨hw, 0, none⟩, j⟩ D := ⟨hb, hw, by rw [HN.out, HM.out], k1, k2, ⟨by rw [HN.out]; exact f1, by rw [HM.out]; exact f2, HF3.out⟩, hwf, by rw [HN.out, HM.out]; exact HI.out⟩
            have hF := tw_far hT hx1 (show w.heap.size ≤ B + 2 by have := HBB.out; omega) (.slice (some ⟨hb, 0, none⟩) k k) (.slice (some ⟨hw, 0, none⟩) j j)
            have hbw : Below w.heap.size w wr := by rw [HBB.out]; exact HB.out.trans (HBx.out.mono (by omega))
            have HF := Lib.hid hF
            have HBF := Lib.hid ((hbw.setCell (p := ⟨B + 1, 0, none⟩) (by show w.heap.size ≤ B + 1; have := HBB.out; omega) (.slice (some ⟨hb, 0, none⟩) k k)).setCell (p := ⟨B + 1, 1, none⟩) (by show w.heap.size ≤ B + 1; have := HBB.out; omega) (.slice (some ⟨hw, 0, none⟩) j j))
            have HXR := Lib.hid ((hx1.set_ 0 (.slice (some ⟨hb, 0, none⟩) k k)).set_ 1 (.slice (some ⟨hw, 0, none⟩) j j))
            clear hG hx1 hT hF hbw hwf HI HG HBx x0r
            go_wp2_with fail
            obtain ⟨wf, hwf⟩ : ∃ wf, ((wr.setCell ⟨B + 1, 0, none⟩ (.slice (some ⟨hb, 0, none⟩) k k)).setCell ⟨B + 1, 1, none⟩ (.slice (some ⟨hw, 0, none⟩) j j)) = wf := ⟨_, rfl⟩
            rw [hwf] at HF HBF HXR ⊢
            clear hwf t1 t2 r0 r1 r2 r3 hf0 hf1
            have e0 := HXR.out.cell 0
            have e1 := HXR.out.cell 1
            refine bodyPost_ret (v := .agg #[.slice (some ⟨hb, 0, none⟩) k k, .slice (some ⟨hw, 0, none⟩) j j]) (by simp [results, Tryz.f5, go_sem, e0, e1]) rfl ?_
            refine ⟨⟨some ⟨hb, 0, none⟩, k, some ⟨hw, 0, none⟩, j⟩, ?_, HF.out, HBF.out⟩
            rw [dval, HN.out, HM.out]
end Go.Proofs.YtldnelimemjaiaaGreatDoor
/-
  dev.New answers 256 blocks of noughts, in one new piece; slices.Repeat of one block.
-/
namespace Go.Proofs.YtldnelimemjaiaaGreatDoor
open Go.RowKit Go.Shelf
set_option maxRecDepth 100000

/-- 256 cells, of which n are v. -/
def repR (v : Value) (n : Nat) : List Value := List.replicate n v ++ List.replicate (256 - n) (.slice none 0 0)
theorem repR_length (v : Value) (n : Nat) (h : n ≤ 256) : (repR v n).length = 256 := by simp [repR]; omega
theorem repR_splice (v : Value) (n k : Nat) : splice (repR v n) n (List.replicate k v) = repR v (n + k) := by
  unfold splice repR
  have e1 : (List.replicate n v ++ List.replicate (256 - n) (Value.slice none 0 0)).take n = List.replicate n v := by simp
  have e2 : (List.replicate n v ++ List.replicate (256 - n) (Value.slice none 0 0)).drop (n + (List.replicate k v).length) = List.replicate (256 - (n + k)) (.slice none 0 0) := by
    rw [List.drop_append, List.drop_of_length_le (by simp; try omega)]
    simp
    omega
  rw [e1, e2, ← List.append_assoc, List.replicate_append_replicate]
theorem rep_get {v u : Value} {k j : Nat} (h : (List.replicate k v)[j]? = some u) : j < k ∧ u = v := by
  rw [List.getElem?_replicate] at h
  split at h
  · rename_i h1
    cases h
    exact ⟨h1, rfl⟩
  · cases h
theorem infoSl1 : (Tryz.prog.info? 45).map (·.size) = some 1 := by kernel_rfl
theorem step_copy_rep {ops : Array Oper} {o : Oper} {a : Act} {w w0 : World} {K : Act → World → Prop} {Q : Exit → Act → World → Prop} {E : Prop} (v : Value) (hv : v.oneCell' = true) (hgd : o.guard = none) (d s : Operand)
    (ho : o.op = .call { callee := .builtin .copy, args := #[d, s], argTypes := #[22, 22] }) (g5 n : Nat) (hn : n ≤ 128)
    (hd : a.eval d = .slice (some ⟨g5, n, none⟩) (256 - n) (256 - n)) (hs : a.eval s = .slice (some ⟨g5, 0, none⟩) n 256) (hx : Blk w g5 45 (repR v n).toArray) (hb : Below g5 w0 w)
    (h : ∀ w', Blk w' g5 45 (repR v (n + n)).toArray → Below g5 w0 w' → K (a.put o.dst (.int .i64 n)) w') :
    if Region.wanted o (yielded ops a.tmps) = true then Oper.wp Tryz.prog o a w K Q else E := by
  have hl : (List.replicate n v).length = n := by simp
  refine step_copy_splice hgd d s 22 22 ho 45 Tryz.underlying22 infoSl1 (some ⟨g5, n, none⟩) (some ⟨g5, 0, none⟩) (256 - n) (256 - n) n 256 hd hs g5 n (repR v n) 45 hx (List.replicate n v) (by rw [hl]; simp [Nat.min_def]; omega)
         (fun _ => ⟨rfl, _, rfl, fun j u hu => ?_⟩) (by rw [hl, repR_length v n (by omega)]; omega) (fun u hu => by rw [List.eq_of_mem_replicate hu]; exact hv) g5 w0 hb (Nat.le_refl _) ?_
  · obtain ⟨hj, rfl⟩ := rep_get hu
    have := hx.cell j
    rw [List.getElem?_toArray, repR, List.getElem?_append_left (by simpa using hj), List.getElem?_replicate, if_pos hj] at this
    rw [← this]
    congr 1
    unfold Addr.add
    simp
    exact fun h => h.symm
  · intro w2 hx2 hb2
    rw [hl]
    refine h w2 ?_ hb2
    have := hx2.out
    rwa [repR_splice v n n] at this
theorem rows_l (W : World) (g n : Nat) (hn : n < 256) : (Instr.slice 22 (.slice (some ⟨g, 0, none⟩) 256 256) (some (.int .i64 (n : Int))) none none).run Tryz.prog W = .ok (.slice (some ⟨g, n, none⟩) (256 - n) (256 - n)) W := by
  rw [run_slice_l W 22 _ _ _ (by kernel_rfl) .i64 _ (by omega) (by omega)]
  have hz : (Go.sizeOf (Tryz.prog.elem 22)).run Tryz.prog W = .ok 1 W := by kernel_rfl
  rw [hz]
  have e : ¬ 256 = n := by omega
  simp only [Result.andThen, sliced, Int.toNat_natCast, if_neg e]
  simp [Addr.add]
  exact fun h => h.symm
theorem rows_h (W : World) (g n : Nat) (hn : n < 256) : (Instr.slice 22 (.slice (some ⟨g, 0, none⟩) 256 256) none (some (.int .i64 (n : Int))) none).run Tryz.prog W = .ok (.slice (some ⟨g, 0, none⟩) n 256) W := by
  rw [run_slice_h W 22 _ _ _ (by kernel_rfl) .i64 _ (by omega) (by omega)]
  have hz : (Go.sizeOf (Tryz.prog.elem 22)).run Tryz.prog W = .ok 1 W := by kernel_rfl
  rw [hz]
  simp [Result.andThen, sliced, Addr.add]
/-- The row that Repeat answers. -/
def RepPost (v : Value) (w : World) (e : Ending) (w' : World) : Prop := ∃ g, e = .returned (.slice (some ⟨g, 0, none⟩) 256 256) ∧ w.heap.size ≤ g ∧ Blk w' g 45 (repR v 256).toArray ∧ Below w.heap.size w w'
theorem wpList_copy_one {w w0 : World} {ops : Array Oper} {rest : List Oper} {o : Oper} {a : Act} {Q : Exit → Act → World → Prop} (v : Value) (hv : v.oneCell' = true) (hgd : o.guard = none) (d s : Operand) (ho : o.op = .call { callee := .builtin .copy, args := #[d, s], argTypes := #[22, 22] }) (g g5 : Nat)
    (hd : a.eval d = .slice (some ⟨g5, 0, none⟩) 256 256) (hs : a.eval s = .slice (some ⟨g, 0, none⟩) 1 1) (hx : Blk w g5 45 (repR v 0).toArray) (hN : w.cell? ⟨g, 0, none⟩ = some v) (hb : Below g5 w0 w)
    (h : ∀ w', Blk w' g5 45 (repR v 1).toArray → Below g5 w0 w' → wpList Tryz.prog ops Q rest (a.put o.dst (.int .i64 1)) w') : wpList Tryz.prog ops Q (o :: rest) a w := by
  refine wpList_copy_splice hgd d s 22 22 ho 45 Tryz.underlying22 infoSl1 (some ⟨g5, 0, none⟩) (some ⟨g, 0, none⟩) 256 256 1 1 hd hs g5 0 (repR v 0) 45 hx (List.replicate 1 v) rfl
         (fun _ => ⟨rfl, _, rfl, fun j u hu => ?_⟩) (by rw [repR_length v 0 (by omega)]; simp) (fun u hu => by rw [List.eq_of_mem_replicate hu]; exact hv) g5 w0 hb (Nat.le_refl _) ?_
  · obtain ⟨hj, rfl⟩ := rep_get hu
    obtain rfl : j = 0 := by omega
    exact hN
  · intro w2 hx2 hb2
    refine h w2 ?_ hb2
    have := hx2.out
    rwa [repR_splice v 0 1] at this
/-- A disk of noughts. -/
def newD : DkL := (List.replicate 256 (List.replicate 256 0), [])
theorem newD_get {i : Nat} (h : i < 256) : newD.1.getD i [] = List.replicate 256 0 := by
  show (List.replicate 256 (List.replicate 256 (0 : UInt8))).getD i [] = _
  rw [List.getD_eq_getElem?_getD, List.getElem?_replicate, if_pos h]
  rfl
theorem newD_len : newD.1.length = 256 := List.length_replicate ..
theorem newD_may : MayD newD := ⟨⟨newD_len, fun i hi => by rw [newD_get hi]; exact List.length_replicate ..⟩, Nat.zero_le _, fun i hi => absurd hi (Nat.not_lt_zero _)⟩
end Go.Proofs.YtldnelimemjaiaaGreatDoor
/-
  The document's own New for layer 9: a new disk is 256 blocks of noughts.
-/
namespace Go.Proofs.YtldnelimemjaiaaGreatDoor
open Go.RowKit Go.Shelf
set_option maxRecDepth 100000

/-- A disk is answered. -/
def DskPost (D : DkL) (w : World) (e : Ending) (w' : World) : Prop := ∃ x', e = .returned (dval x' D) ∧ DskT w' x' D ∧ Below w.heap.size w w'
theorem TwinPost.dsk {D : DkL} {w w' : World} {e : Ending} (h : TwinPost D w e w') : DskPost D w e w' := by
  obtain ⟨x', h1, h2, h3⟩ := h
  exact ⟨x', h1, h2.dskT, h3⟩
/-- Rows whose first k are blocks of noughts. -/
def NewI (hb : Nat) (Z : List UInt8) (k : Nat) (w : World) : Prop :=
  ∃ cb, Blk w hb 45 cb ∧ cb.size = 256 ∧ ∀ i, i < k → ∃ g, cb[i]? = some (.slice (some ⟨g, 0, none⟩) 256 256) ∧ Blk w g 5 (ar Z)
theorem NewI.next {hb k : Nat} {Z : List UInt8} {w : World} (h : NewI hb Z k w) (hk : k < 256) : NewI hb Z (k + 1) ((w.alloc (.cells (ar Z) 5)).setCell ⟨hb, k, none⟩ (.slice (some ⟨w.heap.size, 0, none⟩) 256 256)) := by
  obtain ⟨cb, h1, h2, h3⟩ := h
  have x1 := h1.alloc (.cells (ar Z) 5)
  have xn := Blk.new w 5 (ar Z)
  have hne : ∀ {g : Nat} {cs : Array Value}, Blk (w.alloc (.cells (ar Z) 5)) g 5 cs → g ≠ hb := fun hg => hg.ne x1 (by decide)
  refine ⟨_, x1.set_ k _, by simpa using h2, fun i hi => ?_⟩
  rw [Array.getElem?_setIfInBounds]
  by_cases e : k = i
  · subst e
    rw [if_pos rfl, if_pos (by omega)]
    exact ⟨_, rfl, xn.far (by simpa using hne xn) _⟩
  · rw [if_neg e]
    obtain ⟨g, h4, h5⟩ := h3 i (by omega)
    have h6 := h5.alloc (.cells (ar Z) 5)
    exact ⟨g, h4, h6.far (by simpa using hne h6) _⟩
theorem NewI.far {hb k g : Nat} {Z : List UInt8} {w : World} {cs : Array Value} (h : NewI hb Z k w) (hg : Blk w g 25 cs) (u v : Value) : NewI hb Z k ((w.setCell ⟨g, 0, none⟩ u).setCell ⟨g, 1, none⟩ v) := by
  obtain ⟨cb, h1, h2, h3⟩ := h
  have hn1 : hb ≠ g := h1.ne hg (by decide)
  refine ⟨cb, (h1.far (p := ⟨g, 0, none⟩) hn1 u).far (p := ⟨g, 1, none⟩) hn1 v, h2, fun i hi => ?_⟩
  obtain ⟨g', h4, h5⟩ := h3 i hi
  have hn2 : g' ≠ g := h5.ne hg (by decide)
  exact ⟨g', h4, (h5.far (p := ⟨g, 0, none⟩) hn2 u).far (p := ⟨g, 1, none⟩) hn2 v⟩
theorem NewI.dsk {hb : Nat} {Z : List UInt8} {w : World} (h : NewI hb Z 256 w) (hZ : List.replicate 256 0 = Z) : Dsk w w.heap.size ⟨some ⟨hb, 0, none⟩, 256, none, 0⟩ newD := by
  obtain ⟨cb, y1, h2, h3⟩ := h
  refine ⟨⟨newD_len, by rw [newD_len]; exact Nat.le_refl _, (show 256 ≤ maxLen by unfold maxLen; omega), fun _ => ⟨hb, 0, rfl, y1.lt, fun i hi => ?_⟩⟩, wts_nil _ _⟩
  rw [newD_len] at hi
  obtain ⟨g, h4, y2⟩ := h3 i hi
  have e : newD.1.getD i [] = Z := by rw [newD_get hi]; exact hZ
  have el : Z.length = 256 := by rw [← hZ]; exact List.length_replicate ..
  rw [e, el]
  refine ⟨some ⟨g, 0, none⟩, 256, ?_, el, Nat.le_refl _, by unfold maxLen; omega, fun e => (by cases e), fun _ => ⟨g, 0, rfl, y2.lt, fun i hi => ?_⟩⟩
  · rw [Nat.zero_add, y1.cell, h4]
  · rw [Nat.zero_add, y2.cell, ar_get Z i hi]
end Go.Proofs.YtldnelimemjaiaaGreatDoor
/-
  The document's own answers for layer 9: which disks may be, which are great.
-/
namespace Go.Proofs.YtldnelimemjaiaaGreatDoor
open Go.RowKit Go.Shelf
set_option maxRecDepth 100000

theorem rdPlace_any (p : Int) (w : World) : Calls Tryz.prog 37 #[.int .i64 p] w fun e w' => e = .returned (.bool (decide (0 ≤ p ∧ p < 256))) ∧ w = w' := by
  by_cases h0 : 0 ≤ p
  · by_cases h1 : p < 256
    · rw [decide_eq_true (show 0 ≤ p ∧ p < 256 from ⟨h0, h1⟩)]
      go_enter Tryz.func37, Tryz.ntmps37
      go_wp2_with fail
      go_ret
      exact ⟨by simp; try omega, rfl⟩
    · rw [decide_eq_false (show ¬ (0 ≤ p ∧ p < 256) from fun h => h1 h.2)]
      go_enter Tryz.func37, Tryz.ntmps37
      go_wp2_with fail
      go_ret
      exact ⟨by simp; try omega, rfl⟩
  · rw [decide_eq_false (show ¬ (0 ≤ p ∧ p < 256) from fun h => h0 h.1)]
    go_enter Tryz.func37, Tryz.ntmps37
    go_wp2_with fail
    go_ret
    exact ⟨by simp; try omega, rfl⟩
/-- So many odd ones among the first k; none just if all are as they should be. -/
def OddN (o k : Nat) (P : Nat → Prop) : Prop := o ≤ k ∧ (o = 0 ↔ ∀ i, i < k → P i)
theorem odd_zero (P : Nat → Prop) : OddN 0 0 P := ⟨Nat.le_refl _, ⟨fun _ _ h => absurd h (Nat.not_lt_zero _), fun _ => rfl⟩⟩
theorem OddN.good {o k : Nat} {P : Nat → Prop} (h : OddN o k P) (hp : P k) : OddN o (k + 1) P := by
  refine ⟨Nat.le_succ_of_le h.1, fun h0 i hi => ?_, fun ha => h.2.2 fun i hi => ha i (by omega)⟩
  rcases Nat.lt_or_ge i k with h1 | h1
  · exact h.2.1 h0 i h1
  · obtain rfl : i = k := by omega
    exact hp
theorem OddN.odd {o k : Nat} {P : Nat → Prop} (h : OddN o k P) (hp : ¬ P k) : OddN (o + 1) (k + 1) P := by
  refine ⟨Nat.succ_le_succ h.1, fun h0 => absurd h0 (Nat.succ_ne_zero _), fun ha => absurd (ha k (Nat.lt_succ_self _)) hp⟩
/-- The two counts and the two lengths tell whether a disk may be. -/
theorem may_iff {D : DkL} {o1 o2 k1 k2 : Nat} (h1 : OddN o1 k1 (fun i => (D.1.getD i []).length = 256)) (h2 : OddN o2 k2 (fun i => (0 ≤ (wr_ D.2 i).1 ∧ (wr_ D.2 i).1 < 256) ∧ (wr_ D.2 i).2.length = 256)) (e1 : k1 = D.1.length ∨ (k1 = 257 ∧ 257 < D.1.length)) (e2 : k2 = D.2.length ∨ (k2 = 4097 ∧ 4097 < D.2.length)) :
    (o1 + o2 = 0 ∧ D.1.length = 256 ∧ D.2.length ≤ 4096) ↔ MayD D := by
  constructor
  · rintro ⟨ho, hn, hm⟩
    have k1e : k1 = 256 := by omega
    have k2e : k2 = D.2.length := by omega
    subst k1e
    subst k2e
    exact ⟨⟨hn, h1.2.1 (by omega)⟩, hm, h2.2.1 (by omega)⟩
  · rintro ⟨⟨hn, h3⟩, hm, h4⟩
    have k1e : k1 = 256 := by omega
    have k2e : k2 = D.2.length := by omega
    subst k1e
    subst k2e
    have a1 := h1.2.2 h3
    have a2 := h2.2.2 h4
    exact ⟨by omega, hn, hm⟩
set_option maxHeartbeats 4000000 in
theorem rdMay_any (x : DAt) (D : DkL) (w : World) (h : Dsk w w.heap.size x D) : Calls Tryz.prog 17 #[dval x D] w fun e w' => e = .returned (.bool (decide (MayD D))) ∧ Below w.heap.size w w' := by
  obtain ⟨ba, bc, wa, wc⟩ := x
  obtain ⟨R, hR⟩ : ∃ R, decide (MayD D) = R := ⟨_, rfl⟩
  rw [hR]
  have HRR := Lib.hid hR
  clear hR
  simp only [dval]
  have l1 := h.1.len_le
  have l2 := h.2.len_le
  obtain ⟨n, hn⟩ : ∃ n, D.1.length = n := ⟨_, rfl⟩
  obtain ⟨m, hm⟩ : ∃ m, D.2.length = m := ⟨_, rfl⟩
  rw [hn] at l1
  rw [hm] at l2
  have n0 : (0 : Int) ≤ n := by omega
  have m0 : (0 : Int) ≤ m := by omega
  have b0 := (Below.refl w.heap.size w).alloc (Nat.le_refl _) (.cells #[.slice ba D.1.length bc, .slice wa D.2.length wc] 25)
  have x0 := Blk.new w 25 #[.slice ba D.1.length bc, .slice wa D.2.length wc]
  have h0 := h.step b0
  rw [hn, hm] at b0 x0 h0 ⊢
  obtain ⟨w0, hw0⟩ : ∃ w0, w.alloc (.cells #[.slice ba n bc, .slice wa m wc] 25) = w0 := ⟨_, rfl⟩
  rw [hw0] at b0 x0 h0
  have c0 := x0.cell 0
  have c1 := x0.cell 1
  obtain ⟨hB, hW⟩ := h0
  simp only [hn, hm] at hB hW
  have HB := Lib.hid hB
  have HW := Lib.hid hW
  have HX := Lib.hid x0
  have HBl := Lib.hid b0
  have HN := Lib.hid hn
  have HM := Lib.hid hm
  clear h b0 x0 hB hW hn hm
  go_enter Tryz.func17, Tryz.ntmps17
  go_wp2_with fail
  clear hw0
  go_loop [3, 4] (fun o i => ∃ k q : Nat, k ≤ n ∧ k ≤ 257 ∧ i = .int .i64 k ∧ o = .int .i64 q ∧ Hid (OddN q k (fun i => (D.1.getD i []).length = 256))) (fun _ i => n - (intOf i).toNat)
  case atStart => exact ⟨0, 0, Nat.zero_le _, Nat.zero_le _, rfl, rfl, Lib.hid (odd_zero _)⟩
  case round =>
    obtain ⟨k, q, hk, hk2, rfl, rfl, HO⟩ := hrel
    have k0 : (0 : Int) ≤ k := by omega
    have hq := HO.out.1
    have q0 : (0 : Int) ≤ q := by omega
    have q1 : (q : Int) ≤ 10000 := by omega
    by_cases hlt : k < n ∧ k ≤ 256
    · obtain ⟨hlt, hk3⟩ := hlt
      have k1 : (k : Int) < n := by omega
      have k3 : (k : Int) ≤ 256 := by omega
      obtain ⟨b, off, A, l, c', s, rfl, _, hl, hc, hA⟩ := HB.out.at_ hlt
      by_cases hl6 : l = 256
      · have hgood : (D.1.getD k []).length = 256 := by rw [hl, hA.1]; exact hl6
        have HO' := Lib.hid (HO.out.good hgood)
        subst hl6
        have hne : (((256 : Nat) : Int) != 256) = false := by decide
        clear hl hA hgood
        go_wp2_with fail
        go_round
        case rel => exact ⟨k + 1, q, by omega, by omega, by go_num, rfl, HO'⟩
        case measure => simp [intOf]; omega
      · have hbad : ¬ (D.1.getD k []).length = 256 := by rw [hl, hA.1]; exact hl6
        have HO' := Lib.hid (HO.out.odd hbad)
        have hne : ((l : Int) != 256) = true := by simp; omega
        clear hl hA hbad
        go_wp2_with fail
        go_round
        case rel => exact ⟨k + 1, q + 1, by omega, by omega, by go_num, by go_num, HO'⟩
        case measure => simp [intOf]; omega
    · have hend : k = n ∨ (k = 257 ∧ 257 < n) := by omega
      have HEND := Lib.hid hend
      clear hend
      have hgo : ((k : Int) < n → ¬ (k : Int) ≤ 256) := by omega
      by_cases hkn : (k : Int) < n
      all_goals
        first
          | have k3 : ¬ (k : Int) ≤ 256 := hgo hkn
          | have k3 : True := trivial
        clear hgo hlt
        go_wp2_with fail
        clear k3 hkn
        go_loop [3, 5] (fun o i => ∃ j r : Nat, j ≤ m ∧ j ≤ 4097 ∧ i = .int .i64 j ∧ o = .int .i64 (q + r : Nat) ∧ Hid (OddN r j (fun i => (0 ≤ (wr_ D.2 i).1 ∧ (wr_ D.2 i).1 < 256) ∧ (wr_ D.2 i).2.length = 256))) (fun _ i => m - (intOf i).toNat)
        case atStart => exact ⟨0, 0, Nat.zero_le _, Nat.zero_le _, rfl, rfl, Lib.hid (odd_zero _)⟩
        case round =>
          obtain ⟨j, r, hj, hj2, rfl, rfl, HR⟩ := hrel
          have j0 : (0 : Int) ≤ j := by omega
          have hr := HR.out.1
          obtain ⟨t, ht⟩ : ∃ t, q + r = t := ⟨_, rfl⟩
          have t0 : (0 : Int) ≤ t := by omega
          have t1 : (t : Int) ≤ 10000 := by omega
          by_cases hlt : j < m ∧ j ≤ 4096
          · obtain ⟨hlt, hj3⟩ := hlt
            have j1 : (j : Int) < m := by omega
            have j3 : (j : Int) ≤ 4096 := by omega
            obtain ⟨b, off, p, A, l, c', s, rfl, _, hl, _, hc, hd, hA⟩ := HW.out.at_ hlt
            rw [ht]
            by_cases hl6 : l = 256
            · subst hl6
              have hne : (((256 : Nat) : Int) != 256) = false := by decide
              have hpl := rdPlace_any p w0
              by_cases hp : 0 ≤ p ∧ p < 256
              · have HO' := Lib.hid (HR.out.good (by rw [hl]; exact ⟨hp, hA.1⟩))
                simp only [decide_eq_true hp] at hpl
                have HP := Lib.hid hpl
                have HTT := Lib.hid ht
                clear hl hA hp hpl ht
                go_wp2_with fail
                refine HP.out.mono ?_
                rintro e w1 ⟨rfl, rfl⟩
                go_wp2_with fail
                go_round
                case rel => exact ⟨j + 1, r, by omega, by omega, by go_num, by rw [HTT.out], HO'⟩
                case measure => simp [intOf]; omega
              · have HO' := Lib.hid (HR.out.odd (by rw [hl]; exact fun hh => hp hh.1))
                simp only [decide_eq_false hp] at hpl
                have HP := Lib.hid hpl
                have HTT := Lib.hid ht
                clear hl hA hp hpl ht
                go_wp2_with fail
                refine HP.out.mono ?_
                rintro e w1 ⟨rfl, rfl⟩
                go_wp2_with fail
                go_round
                case rel => exact ⟨j + 1, r + 1, by omega, by omega, by go_num, by rw [← Nat.add_assoc, HTT.out]; go_num, HO'⟩
                case measure => simp [intOf]; omega
            · have HO' := Lib.hid (HR.out.odd (by rw [hl]; exact fun hh => hl6 (by rw [← hA.1]; exact hh.2)))
              have hne : ((l : Int) != 256) = true := by simp; omega
              have HTT := Lib.hid ht
              clear hl hA ht
              go_wp2_with fail
              go_round
              case rel => exact ⟨j + 1, r + 1, by omega, by omega, by go_num, by rw [← Nat.add_assoc, HTT.out]; go_num, HO'⟩
              case measure => simp [intOf]; omega
          · have hend2 : j = m ∨ (j = 4097 ∧ 4097 < m) := by omega
            have hmay := may_iff HO.out HR.out (by rw [HN.out]; exact HEND.out) (by rw [HM.out]; exact hend2)
            rw [HN.out, HM.out, ht] at hmay
            have HMAY := Lib.hid hmay
            have HBw := Lib.hid (show Below w.heap.size w w0 from HBl.out)
            rw [ht]
            have hgo : ((j : Int) < m → ¬ (j : Int) ≤ 4096) := by omega
            clear hend2 hmay ht hlt
            by_cases hjm : (j : Int) < m
            all_goals
              first
                | have j3 : ¬ (j : Int) ≤ 4096 := hgo hjm
                | have j3 : True := trivial
              clear hgo
              by_cases ht0 : t = 0
              · have htb : ((t : Int) == 0) = true := by simp; omega
                by_cases hn6 : n = 256
                · have hnb : ((n : Int) == 256) = true := by simp; omega
                  by_cases hm6 : (m : Int) ≤ 4096
                  · have hyes : MayD D := HMAY.out.1 ⟨ht0, hn6, by omega⟩
                    obtain rfl : R = true := by rw [← HRR.out]; exact decide_eq_true hyes
                    first
                      | (exfalso; omega)
                      | (clear hyes ht0 hn6
                         go_wp2_with fail
                         go_ret
                         exact ⟨rfl, HBw.out⟩)
                  · have hno : ¬ MayD D := fun hh => by have := (HMAY.out.2 hh).2.2; omega
                    obtain rfl : R = false := by rw [← HRR.out]; exact decide_eq_false hno
                    clear hno ht0 hn6
                    go_wp2_with fail
                    go_ret
                    exact ⟨rfl, HBw.out⟩
                · have hnb : ((n : Int) == 256) = false := by simp; omega
                  have hno : ¬ MayD D := fun hh => by have := (HMAY.out.2 hh).2.1; omega
                  obtain rfl : R = false := by rw [← HRR.out]; exact decide_eq_false hno
                  clear hno ht0 hn6
                  go_wp2_with fail
                  go_ret
                  exact ⟨rfl, HBw.out⟩
              · have htb : ((t : Int) == 0) = false := by simp; omega
                have hno : ¬ MayD D := fun hh => ht0 (HMAY.out.2 hh).1
                obtain rfl : R = false := by rw [← HRR.out]; exact decide_eq_false hno
                clear hno ht0
                go_wp2_with fail
                go_ret
                exact ⟨rfl, HBw.out⟩
end Go.Proofs.YtldnelimemjaiaaGreatDoor
/-
  The document's own ask, last, left, Seen for layer 9.
-/
namespace Go.Proofs.YtldnelimemjaiaaGreatDoor
open Go.RowKit Go.Shelf
set_option maxRecDepth 100000

def askO (D : DkL) (b : Bool) : Int := if MayD D then (if b = true then 0 else 2) else 8
/-- Which writes count: all, where there are no marks. -/
def markF (ks : List Bool) (i : Nat) : Bool := ks.length == 0 || ks.getD i false
/-- The place of a block's last write; -1: there is none. -/
def lastN (ws : WrL) (mk : Nat → Bool) (p : Int) : Int := match lastTo ws mk p ws.length with
  | some i => (i : Nat)
  | none => -1
set_option maxHeartbeats 2000000 in
theorem rdLast_any (x : DAt) (D : DkL) (a : Option Addr) (n c : Nat) (ks : List Bool) (p : Int) (w : World) (h : Dsk w w.heap.size x D) (hk : Mks w w.heap.size a n c ks) (hn : n = 0 ∨ n = D.2.length) :
    Calls Tryz.prog 102 #[dval x D, .slice a n c, .int .i64 p] w fun e w' => e = .returned (.int .i64 (lastN D.2 (markF ks) p)) ∧ Below w.heap.size w w' := by
  obtain ⟨ba, bc, wa, wc⟩ := x
  simp only [dval]
  have l2 := h.2.len_le
  obtain ⟨r, hr⟩ : ∃ r, lastN D.2 (markF ks) p = r := ⟨_, rfl⟩
  rw [hr]
  obtain ⟨m, hm⟩ : ∃ m, D.2.length = m := ⟨_, rfl⟩
  obtain ⟨q, hq⟩ : ∃ q, D.1.length = q := ⟨_, rfl⟩
  rw [hm] at l2 hn
  have m0 : (0 : Int) ≤ m := by omega
  have b0 := (Below.refl w.heap.size w).alloc (Nat.le_refl _) (.cells #[.slice ba D.1.length bc, .slice wa D.2.length wc] 25)
  have x0 := Blk.new w 25 #[.slice ba D.1.length bc, .slice wa D.2.length wc]
  have h0 := h.step b0
  have hk0 := hk.step b0
  rw [hm, hq] at b0 x0 h0 hk0 ⊢
  obtain ⟨w0, hw0⟩ : ∃ w0, w.alloc (.cells #[.slice ba q bc, .slice wa m wc] 25) = w0 := ⟨_, rfl⟩
  rw [hw0] at b0 x0 h0 hk0
  have c0 := x0.cell 0
  have c1 := x0.cell 1
  obtain ⟨_, hW⟩ := h0
  simp only [hm] at hW
  have hkl := hk.1
  have HW := Lib.hid hW
  have HK := Lib.hid hk0
  have HB := Lib.hid b0
  have HM := Lib.hid hm
  have HR := Lib.hid hr
  have HKL := Lib.hid hkl
  have HNM := Lib.hid hn
  clear h hk b0 x0 hW hk0 hm hr hkl hq hn
  go_enter Tryz.func102, Tryz.ntmps102
  go_wp2_with fail
  clear hw0
  go_loop [7] (fun i => ∃ j : Nat, j ≤ m ∧ i = .int .i64 ((j : Int) - 1) ∧ Hid (∀ t, j ≤ t → t < m → ¬ (markF ks t = true ∧ (wr_ D.2 t).1 = p))) (fun i => (intOf i + 1).toNat)
  case atStart => exact ⟨m, Nat.le_refl _, rfl, Lib.hid (fun t h1 h2 => by omega)⟩
  case round =>
    obtain ⟨j, hj, rfl, HA⟩ := hrel
    rcases j with _ | k
    · have hr : r = -1 := by
        rw [← HR.out, lastN, HM.out, lastTo_no (fun t ht => HA.out t (Nat.zero_le _) ht)]
      subst hr
      have e0 : ((0 : Nat) : Int) - 1 = -1 := by omega
      rw [e0]
      have hneg : ¬ (0 : Int) ≤ -1 := by omega
      go_wp2_with fail
      go_ret
      exact ⟨rfl, HB.out⟩
    · have e1 : ((k + 1 : Nat) : Int) - 1 = (k : Int) := by omega
      rw [e1]
      have k0 : (0 : Int) ≤ k := by omega
      have k1 : (k : Int) < m := by omega
      obtain ⟨b, off, pk, A, l, c', s, rfl, _, hl, _, hc, _, hA⟩ := HW.out.at_ (show k < m by omega)
      clear e1
      have hskip : ¬ (markF ks k = true ∧ pk = p) → Hid (∀ t, k ≤ t → t < m → ¬ (markF ks t = true ∧ (wr_ D.2 t).1 = p)) := fun hno => Lib.hid fun t h1 h2 => by
        rcases Nat.eq_or_lt_of_le h1 with h3 | h3
        · subst h3
          rw [hl]
          exact hno
        · exact HA.out t h3 h2
      have hfound : markF ks k = true ∧ pk = p → r = (k : Int) := fun hyes => by
        rw [← HR.out, lastN, HM.out, lastTo_behind (i := k) (by omega) (by rw [hl]; exact hyes) (fun t h1 h2 => HA.out t h1 h2)]
      have HSK := Lib.hid hskip
      have HFO := Lib.hid hfound
      clear hskip hfound hl hA
      by_cases hpp : pk = p
      · subst hpp
        have hpb : (pk == pk) = true := by simp
        by_cases hn0 : n = 0
        · have hr := HFO.out ⟨by unfold markF; rw [HKL.out, hn0]; rfl, rfl⟩
          subst hr
          subst hn0
          have hz : (((0 : Nat) : Int) == 0) = true := by decide
          go_wp2_with fail
          go_ret
          exact ⟨rfl, HB.out⟩
        · have hz : ((n : Int) == 0) = false := by simp; omega
          have hnm : n = m := HNM.out.resolve_left hn0
          subst hnm
          obtain ⟨bk, ok, rfl, _, hck⟩ := HK.out.2.2.2 (by omega)
          have ck := hck k (by omega)
          have hmk : markF ks k = ks.getD k false := by
            unfold markF
            have : (ks.length == 0) = false := by rw [HKL.out]; simpa using hn0
            rw [this]
            rfl
          obtain ⟨v, hv⟩ : ∃ v, ks.getD k false = v := ⟨_, rfl⟩
          rw [hv] at ck hmk
          have HMK := Lib.hid hmk
          clear hck hn0 hmk hv
          cases v with
          | true =>
            have hr := HFO.out ⟨HMK.out, rfl⟩
            subst hr
            go_wp2_with fail
            go_ret
            exact ⟨rfl, HB.out⟩
          | false =>
            have HS := HSK.out (fun hh => by rw [HMK.out] at hh; cases hh.1)
            go_wp2_with fail
            go_round
            case rel => exact ⟨k, by omega, rfl, HS⟩
            case measure => simp [intOf]
      · have hpb : (pk == p) = false := by simpa using hpp
        have HS := HSK.out (fun hh => hpp hh.2)
        clear hpp
        go_wp2_with fail
        go_round
        case rel => exact ⟨k, by omega, rfl, HS⟩
        case measure => simp [intOf]
/-- A list of the call's own that reads as s. -/
def OwnS (s : List UInt8) (w : World) (e : Ending) (w' : World) : Prop := ∃ v, e = .returned v ∧ w'.ownsRow w.heap.size 5 1 v s.length (vals s) ∧ Below w.heap.size w w'
set_option maxHeartbeats 2000000 in
theorem rdLeft_any (x : DAt) (D : DkL) (a : Option Addr) (n c : Nat) (ks : List Bool) (p : Nat) (w : World) (h : Dsk w w.heap.size x D) (hk : Mks w w.heap.size a n c ks) (hn : n = 0 ∨ n = D.2.length) (hp : p < D.1.length) (hlen : (leftD D (markF ks) p).length ≤ 1000000000000) :
    Calls Tryz.prog 83 #[dval x D, .slice a n c, .int .i64 p] w (OwnS (leftD D (markF ks) p) w) := by
  have b0 := (Below.refl w.heap.size w).alloc (Nat.le_refl _) (.cells #[.slice x.ba D.1.length x.bc, .slice x.wa D.2.length x.wc] 25)
  have x0 := Blk.new w 25 #[.slice x.ba D.1.length x.bc, .slice x.wa D.2.length x.wc]
  have h0 := h.step b0
  have hla := rdLast_any x D a n c ks (p : Int) _ h0 (hk.step b0) hn
  have c0 := x0.cell 0
  have c1 := x0.cell 1
  have l1 := h.1.len_le
  have l2 := h.2.len_le
  simp only [dval] at hla ⊢
  have HX := Lib.hid x0
  have HB := Lib.hid b0
  have HD := Lib.hid h0
  unfold leftD at hlen ⊢
  unfold lastN at hla
  cases hlt : lastTo D.2 (markF ks) (p : Int) D.2.length with
  | some i =>
    rw [hlt] at hlen hla
    simp only at hlen hla ⊢
    have hi := (lastTo_lt hlt).1
    have HL := Lib.hid hla
    have i0 : (0 : Int) ≤ i := by omega
    have i1 : (i : Int) < D.2.length := by omega
    have i2 : ¬ (i : Int) < 0 := by omega
    obtain ⟨s, hs⟩ : ∃ s, (wr_ D.2 i).2 = s := ⟨_, rfl⟩
    rw [hs] at hlen ⊢
    have HS := Lib.hid hs
    have HI := Lib.hid hi
    clear h hk hla b0 x0 h0 hlt hs hi
    go_enter Tryz.func83, Tryz.ntmps83
    go_wp2_with fail
    clear c0 c1
    refine HL.out.mono ?_
    rintro e w1 ⟨rfl, b1⟩
    obtain ⟨b, off, q, A, l, c', s', hbe, hlb, hl, _, hc, hd, hA⟩ := (HD.out.step b1).2.at_ HI.out
    have c0 := (HX.out.below b1 HX.out.lt).cell 0
    have c1 := (HX.out.below b1 HX.out.lt).cell 1
    obtain ⟨ba, bc, wa, wc⟩ := x
    obtain rfl : wa = some ⟨b, off, none⟩ := hbe
    simp only at c0 c1 ⊢
    obtain rfl : s' = s := by have := HS.out; rw [hl] at this; exact this
    have HA := Lib.hid hA
    have HO := Lib.hid (own_nil w1 w.heap.size)
    have HB1 := Lib.hid (HB.out.trans (b1.mono HB.out.size))
    have hls := hA.1
    have HLS := Lib.hid hls
    clear hl hA b1 hls HL
    go_wp2_with (at_builtin
                 refine wpList_append_big rfl (.const (.slice none 0 0)) (.tmp 25) rfl w.heap.size (.slice none 0 0) 0 [] rfl HO.out _ A l c' s' rfl HA.out (by have := HLS.out; omega) HB1.out.size ?_
                 intro v7 w7 ho7 hg7
                 rw [Nat.zero_add, List.nil_append] at ho7
                 have HB7 := Lib.hid (app_below HB1.out HO.out hg7 HB1.out.size)
                 have HO7 := Lib.hid ho7
                 clear ho7 hg7)
    go_ret
    exact ⟨v7, rfl, by rw [HLS.out]; exact HO7.out, HB7.out⟩
  | none =>
    rw [hlt] at hlen hla
    simp only at hlen hla ⊢
    have HL := Lib.hid hla
    have i0 : (0 : Int) ≤ p := by omega
    have i1 : (p : Int) < D.1.length := by omega
    obtain ⟨s, hs⟩ : ∃ s, D.1.getD p [] = s := ⟨_, rfl⟩
    rw [hs] at hlen ⊢
    have HS := Lib.hid hs
    clear h hk hla b0 x0 h0 hlt hs
    go_enter Tryz.func83, Tryz.ntmps83
    go_wp2_with fail
    clear c0 c1
    refine HL.out.mono ?_
    rintro e w1 ⟨rfl, b1⟩
    obtain ⟨b, off, A, l, c', s', hbe, hlb, hl, hc, hA⟩ := (HD.out.step b1).1.at_ hp
    have c0 := (HX.out.below b1 HX.out.lt).cell 0
    have c1 := (HX.out.below b1 HX.out.lt).cell 1
    obtain ⟨ba, bc, wa, wc⟩ := x
    obtain rfl : ba = some ⟨b, off, none⟩ := hbe
    simp only at c0 c1 ⊢
    obtain rfl : s' = s := by have := HS.out; rw [hl] at this; exact this
    have HA := Lib.hid hA
    have HO := Lib.hid (own_nil w1 w.heap.size)
    have HB1 := Lib.hid (HB.out.trans (b1.mono HB.out.size))
    have hls := hA.1
    have HLS := Lib.hid hls
    clear hl hA b1 hls HL
    go_wp2_with (at_builtin
                 refine wpList_append_big rfl (.const (.slice none 0 0)) (.tmp 18) rfl w.heap.size (.slice none 0 0) 0 [] rfl HO.out _ A l c' s' rfl HA.out (by have := HLS.out; omega) HB1.out.size ?_
                 intro v7 w7 ho7 hg7
                 rw [Nat.zero_add, List.nil_append] at ho7
                 have HB7 := Lib.hid (app_below HB1.out HO.out hg7 HB1.out.size)
                 have HO7 := Lib.hid ho7
                 clear ho7 hg7)
    go_ret
    exact ⟨v7, rfl, by rw [HLS.out]; exact HO7.out, HB7.out⟩
theorem mks_nil (w : World) (B : Nat) : Mks w B none 0 0 [] := ⟨rfl, Nat.le_refl _, Nat.zero_le _, fun h => absurd h (Nat.lt_irrefl _)⟩
theorem markF_nil : markF [] = fun _ => true := by
  funext i
  rfl
theorem markF_full {D : DkL} {ks : List Bool} (h : ks.length = D.2.length) (p : Nat) : leftD D (markF ks) p = leftD D (fun i => ks.getD i false) p := by
  have : lastTo D.2 (markF ks) (p : Int) D.2.length = lastTo D.2 (fun i => ks.getD i false) (p : Int) D.2.length := lastTo_congr fun i hi => by
    unfold markF
    have e : (ks.length == 0) = false := by simp; intro h0; rw [h0] at h; simp at h; omega
    rw [e]
    simp
  unfold leftD
  rw [this]
theorem rdSeen_any (x : DAt) (D : DkL) (p : Nat) (w : World) (h : Dsk w w.heap.size x D) (hp : p < D.1.length) (hlen : (leftD D (fun _ => true) p).length ≤ 1000000000000) :
    Calls Tryz.prog 53 #[dval x D, .int .i64 p] w (OwnS (leftD D (fun _ => true) p) w) := by
  have b0 := (Below.refl w.heap.size w).alloc (Nat.le_refl _) (.cells #[.slice x.ba D.1.length x.bc, .slice x.wa D.2.length x.wc] 25)
  have x0 := Blk.new w 25 #[.slice x.ba D.1.length x.bc, .slice x.wa D.2.length x.wc]
  have hl := rdLeft_any x D none 0 0 [] p _ (h.step b0) (mks_nil _ _) (.inl rfl) hp (by rw [markF_nil]; exact hlen)
  rw [markF_nil] at hl
  have c0 := x0.cell 0
  have c1 := x0.cell 1
  simp only [dval] at hl ⊢
  have HL := Lib.hid hl
  have HB := Lib.hid b0
  obtain ⟨s, hs⟩ : ∃ s, leftD D (fun _ => true) p = s := ⟨_, rfl⟩
  rw [hs] at HL ⊢
  clear h hl x0 b0 hs hlen
  go_enter Tryz.func53, Tryz.ntmps53
  go_wp2_with fail
  refine HL.out.mono ?_
  rintro e w1 ⟨v, rfl, h1, b1⟩
  have HO := Lib.hid (own_mono h1 HB.out.size)
  have HB1 := Lib.hid (HB.out.trans (b1.mono HB.out.size))
  clear h1 b1
  go_wp2_with fail
  go_ret
  exact ⟨v, rfl, HO.out, HB1.out⟩
end Go.Proofs.YtldnelimemjaiaaGreatDoor
/-
  The document's own Kept for layer 9: what those leave whose mark is true.
-/
namespace Go.Proofs.YtldnelimemjaiaaGreatDoor
open Go.RowKit Go.Shelf
set_option maxRecDepth 100000

theorem take_kept {D : DkL} {mk : Nat → Bool} {k : Nat} (h : k < 256) : (keptD D mk).1.take (k + 1) = (keptD D mk).1.take k ++ [leftD D mk k] := by
  have hl := keptD_length D mk
  rw [List.take_add_one, ← keptD_get D mk k h, List.getD_eq_getElem?_getD, List.getElem?_eq_getElem (by omega)]
  rfl
section
variable {l : List Oper} {Q : Exit → Act → World → Prop} {md : Region.Mode} {i : Nat} {σ : List Nat} {o : Oper} {listed : Array Bool} {a : Act} {w : World}
/-- append(rows, s), at its own place in the order. -/
theorem wpS_append_brow (hi : nthOp l i = some o) (hr : Region.ready md l.toArray listed = [i]) (hl : lastB md l.toArray i = true) (hgd : o.guard = none) (x y : Operand) (ho : o.op = .call { callee := .builtin .append, args := #[x, y], argTypes := #[22, 22] })
    (base : Nat) {C : Nat} (hC : C ≤ base) (v : Value) (bl : List (List UInt8)) (hx : a.eval x = v) (hrw : BRowC w C base v bl) (A : Option Addr) (c : Nat) (s : List UInt8) (b : Nat) (hy : a.eval y = .slice (some ⟨b, 0, none⟩) 1 1) (hb : Blk w b 45 #[.slice A s.length c]) (hs : BslO w C A s.length c s)
    (hn : bl.length ≤ 1000000) (hbase : base ≤ w.heap.size)
    (h : ∀ v' w', BRowC w' C base v' (bl ++ [s]) → w.grownBy w' v.ownBlock → (∀ g, v.ownBlock = some g → base ≤ g ∧ ∃ t cs, Blk w g t cs ∧ t = 45) → wpS Tryz.prog md l Q σ (listed.setIfInBounds i true) (a.put o.dst v') w') : wpS Tryz.prog md l Q (i :: σ) listed a w :=
  wpS_last hi hr hl fun K hK => by
    rw [if_pos (by simp [Region.wanted, hgd])]
    have hty : ∀ g, v.ownBlock = some g → base ≤ g ∧ ∃ t cs, Blk w g t cs ∧ t = 45 := by
      obtain ⟨xs, h1, _⟩ := hrw
      intro g hg
      obtain ⟨_, ⟨rfl, _⟩ | ⟨g', cap, cur, rfl, h2, h3, _⟩⟩ := h1
      · cases hg
      · cases hg
        exact ⟨h2, _, _, h3, rfl⟩
    exact wp_append_browC x y ho base hC v bl hx hrw A c s b hy hb hs hn hbase fun v' w' h1 h2 _ => hK _ _ (h v' w' h1 h2 hty)
/-- append(writes, more...), at its own place in the order. -/
theorem wpS_append_wrow (hi : nthOp l i = some o) (hr : Region.ready md l.toArray listed = [i]) (hl : lastB md l.toArray i = true) (hgd : o.guard = none) (x y : Operand) (ho : o.op = .call { callee := .builtin .append, args := #[x, y], argTypes := #[23, 23] })
    (base : Nat) {C : Nat} (hC : C ≤ base) (v : Value) (ws : WrL) (hx : a.eval x = v) (hrw : WRowC w C base v ws) (ys : List Value) (ws' : WrL) (ad : Addr) (m c : Nat) (hy : a.eval y = .slice (some ad) m c) (hm : ws'.length = m) (hyl : ys.length = m * 2) (hcell : ∀ j u, ys[j]? = some u → w.cell? (ad.add j) = some u)
    (h3 : ∀ i, i < ws'.length → (Lit.int .i64 (wr_ ws' i).1).wf = true ∧ ys.getD (i * 2) undef = .int .i64 (wr_ ws' i).1 ∧ ∃ A c, ys.getD (i * 2 + 1) undef = .slice A (wr_ ws' i).2.length c ∧ BslO w C A (wr_ ws' i).2.length c (wr_ ws' i).2)
    (hn : ws.length + m ≤ 1000000) (hbase : base ≤ w.heap.size)
    (h : ∀ v' w', WRowC w' C base v' (ws ++ ws') → w.grownBy w' v.ownBlock → (∀ g, v.ownBlock = some g → base ≤ g ∧ ∃ t cs, Blk w g t cs ∧ t = 47) → wpS Tryz.prog md l Q σ (listed.setIfInBounds i true) (a.put o.dst v') w') : wpS Tryz.prog md l Q (i :: σ) listed a w :=
  wpS_last hi hr hl fun K hK => by
    rw [if_pos (by simp [Region.wanted, hgd])]
    have hty : ∀ g, v.ownBlock = some g → base ≤ g ∧ ∃ t cs, Blk w g t cs ∧ t = 47 := by
      obtain ⟨xs, h1, _⟩ := hrw
      intro g hg
      obtain ⟨_, ⟨rfl, _⟩ | ⟨g', cap, cur, rfl, h2, h3, _⟩⟩ := h1
      · cases hg
      · cases hg
        exact ⟨h2, _, _, h3, rfl⟩
    exact wp_append_wrowC x y ho base hC v ws hx hrw ys ws' ad m c hy hm hyl hcell h3 hn hbase fun v' w' h1 h2 _ => hK _ _ (h v' w' h1 h2 hty)
end
end Go.Proofs.YtldnelimemjaiaaGreatDoor
/-
  The document's own With for layer 9: a disk on which one more write waits.
-/
namespace Go.Proofs.YtldnelimemjaiaaGreatDoor
open Go.RowKit Go.Shelf
set_option maxRecDepth 100000

set_option maxHeartbeats 4000000 in
theorem rdWith_any (x : DAt) (D : DkL) (p : Int) (a : Option Addr) (n c : Nat) (s : List UInt8) (w : World) (h : Dsk w w.heap.size x D) (hf : Fits D) (hp : (Lit.int .i64 p).wf = true) (hs : Bsl w w.heap.size a n c s) (hn : n ≤ 1000000) (hq : D.2.length ≤ 5000) :
    Calls Tryz.prog 40 #[dval x D, .int .i64 p, .slice a n c] w (DskPost (withD D p s) w) := by
  have hmx : Tryz.prog.follows Departure.mixedOrders = true := by kernel_rfl
  obtain ⟨w0, hw0, b0, z0, x0, x1⟩ := two_boxes w (.slice x.ba D.1.length x.bc) (.slice x.wa D.2.length x.wc)
  obtain ⟨B, hB⟩ : ∃ B, w.heap.size = B := ⟨_, rfl⟩
  have h0 := h.step b0
  have hs0 := hs.step b0
  have c0 := x0.cell 0
  have c1 := x0.cell 1
  have ht := rdTwin_any x D w0 h0 hf
  rw [hB] at x0 x1 z0 b0 c0 c1
  simp only [dval] at ht ⊢
  have HT := Lib.hid ht
  have HX0 := Lib.hid x0
  have HX1 := Lib.hid x1
  have HB := Lib.hid b0
  have HZ := Lib.hid z0
  have HBB := Lib.hid hB
  have HS := Lib.hid hs0
  have HP := Lib.hid hp
  have HQ := Lib.hid hq
  clear ht x0 x1 b0 z0 h0 hs0 h hf hp hs hq
  go_enter Tryz.func40, Tryz.ntmps40
  go_wp2_with fail
  clear hw0 hB c0 c1
  refine HT.out.mono ?_
  rintro e w1 ⟨x', rfl, ht, b1⟩
  have hb1 := ht.brow 0
  have hw1 := ht.wrow 0
  obtain ⟨hb, hw, rfl, hle1, hle2, _⟩ := ht
  simp only [dval] at hb1 hw1 ⊢
  go_wp2_with fail
  have hls : n = s.length := HS.out.1.symm
  subst hls
  obtain ⟨gd, hgd⟩ : ∃ gd, w1.heap.size = gd := ⟨_, rfl⟩
  obtain ⟨w2, hw2⟩ : ∃ w2, w1.alloc (.cells #[.slice (some ⟨hb, 0, none⟩) D.1.length D.1.length, .slice (some ⟨hw, 0, none⟩) D.2.length D.2.length] 25) = w2 := ⟨_, rfl⟩
  obtain ⟨wd, hwd⟩ : ∃ wd, w2.drew = wd := ⟨_, rfl⟩
  have b2 : Below w1.heap.size w1 w2 := by rw [← hw2]; exact (Below.refl _ _).alloc (Nat.le_refl _) _
  have bd : Below w2.heap.size w2 wd := by rw [← hwd]; exact (Below.refl _ w2).drew
  have b12 : Below w1.heap.size w1 wd := b2.trans (bd.mono b2.size)
  have x2 : Blk wd gd 25 #[.slice (some ⟨hb, 0, none⟩) D.1.length D.1.length, .slice (some ⟨hw, 0, none⟩) D.2.length D.2.length] := by
    have := Blk.new w1 25 #[.slice (some ⟨hb, 0, none⟩) D.1.length D.1.length, .slice (some ⟨hw, 0, none⟩) D.2.length D.2.length]
    rw [hw2, hgd] at this
    exact this.below bd this.lt
  have y1 := HX1.out.below b1 HX1.out.lt
  have hzz := HZ.out
  have hgB : B + 2 ≤ gd := by have := b1.size; omega
  have y1d := y1.below b12 y1.lt
  have HBR := Lib.hid (hb1.below b12)
  have HWR := Lib.hid (hw1.below b12)
  have b0d : Below w0.heap.size w0 wd := b1.trans (b12.mono b1.size)
  have HSd := Lib.hid (HS.out.step b0d)
  have HBd := Lib.hid (HB.out.trans (b0d.mono (by omega)))
  have HY := Lib.hid y1d
  have HG := Lib.hid x2
  have HGB := Lib.hid hgB
  have HSZ := Lib.hid (show w0.heap.size ≤ wd.heap.size from b0d.size)
  rw [hgd, hw2]
  clear hw2 hgd b2 bd b12 y1 y1d b0d hb1 hw1 hzz b1
  have g1 := x2.cell 1
  have C0 := fun X (hX : Below wd.heap.size wd X) => (hX.cell (p := ⟨gd, 1, none⟩) (World.block_lt_of_cell? wd _ g1)).trans g1
  have hS : Below wd.heap.size wd wd := Below.refl _ _
  clear x2 g1
  go_wp2_with fail
  refine wpS_start [0, 1, 2, 3, 4, 5, 6, 7, 8, 9] hmx rfl hwd ?_
  clear hwd
  iterate 4 (
    refine wpS_read (v := ?_) rfl (by kernel_rfl) (by kernel_rfl) (by kernel_rfl) (fun _ _ _ h => h) (.inl ⟨by rfl, ?_⟩) ?_
    rotate_left
    · intro X hX
      have hXa := C0 X (hX _ hS)
      clear hX
      go_simp
      with_reducible rfl
    try simp only [Act.put, List.setIfInBounds_toArray, List.set_cons_zero, List.set_cons_succ])
  clear C0 hS
  refine wpS_append_new rfl (by kernel_rfl) rfl (.const (.slice none 0 0)) (.tmp 13) rfl rfl _ a s.length c s rfl HSd.out (by omega) ?_
  intro v3 w3 ho3 b3
  obtain ⟨A3, c3, rfl⟩ := own_slice ho3
  have hA0 : Below w3.heap.size w3 (w3.alloc (.cells #[.int .i64 p, .slice A3 s.length c3] 47)) := (Below.refl _ _).alloc (Nat.le_refl _) _
  have b34 : Below wd.heap.size wd (w3.alloc (.cells #[.int .i64 p, .slice A3 s.length c3] 47)) := b3.trans (hA0.mono b3.size)
  have HN4 := Lib.hid (Blk.new w3 47 #[.int .i64 p, .slice A3 s.length c3])
  have HO4 := Lib.hid ((BslO.own ho3 0).below hA0)
  have HBR4 := Lib.hid (HBR.out.below b34)
  have HWR4 := Lib.hid (HWR.out.below b34)
  have HY4 := Lib.hid (HY.out.below b34 HY.out.lt)
  have HG4 := Lib.hid (HG.out.below b34 HG.out.lt)
  have HB4 := Lib.hid (HBd.out.trans (b34.mono (by have := HBd.out.size; have := HBB.out; omega)))
  have HSZ4 := Lib.hid (Nat.le_trans HSZ.out b34.size)
  have HST := Lib.hid (Stays.of_below hA0)
  clear b3 ho3 hA0 b34 HBR HWR HY HG HBd HSd
  try simp only [Act.put, List.setIfInBounds_toArray, List.set_cons_zero, List.set_cons_succ]
  refine wpS_read (v := ?_) rfl (by kernel_rfl) (by kernel_rfl) (by kernel_rfl) (fun _ _ _ h => h) (.inl ⟨by rfl, ?_⟩) ?_
  rotate_left
  · intro X hX
    clear hX
    go_simp
    with_reducible rfl
  try simp only [Act.put, List.setIfInBounds_toArray, List.set_cons_zero, List.set_cons_succ]
  refine wpS_lone rfl (by kernel_rfl) (fun K hK => ?_)
  go_simp
  refine hK _ _ HST.out ?_
  clear hK K HST
  try simp only [Act.put, List.setIfInBounds_toArray, List.set_cons_zero, List.set_cons_succ]
  obtain ⟨w4, hw4⟩ : ∃ w4, w3.alloc (.cells #[.int .i64 p, .slice A3 s.length c3] 47) = w4 := ⟨_, rfl⟩
  rw [hw4] at HN4 HO4 HBR4 HWR4 HY4 HG4 HB4 HSZ4 ⊢
  clear hw4
  refine wpS_append_wrow rfl (by kernel_rfl) (by kernel_rfl) rfl (.tmp 11) (.tmp 16) rfl w0.heap.size (Nat.zero_le _) (.slice (some ⟨hw, 0, none⟩) D.2.length D.2.length) D.2 rfl HWR4.out [.int .i64 p, .slice A3 s.length c3] [(p, s)] ⟨w3.heap.size, 0, none⟩ 1 1 rfl rfl rfl (fun j u hu => ?_) (fun i hi => ?_) (by have := HQ.out; omega) HSZ4.out ?_
  · rcases j with _ | _ | j
    · cases hu
      have := HN4.out.cell 0
      simpa [Addr.add] using this
    · cases hu
      have := HN4.out.cell 1
      simpa [Addr.add] using this
    · simp at hu
  · obtain rfl : i = 0 := by simp at hi; exact hi
    exact ⟨HP.out, rfl, A3, c3, rfl, HO4.out⟩
  intro v5 w5 hr5 hg5 hty
  have hne : ∀ g t cs, Blk w4 g t cs → t ≠ 47 → w5.heap[g]? = w4.heap[g]? := fun g t cs hx ht => hg5.block g hx.lt fun e => by
    obtain ⟨_, t', cs', h1, h2⟩ := hty g e.symm
    exact hx.ne h1 (by rw [h2]; exact ht) rfl
  have hG5 : Blk w5 gd 25 #[.slice (some ⟨hb, 0, none⟩) D.1.length D.1.length, .slice (some ⟨hw, 0, none⟩) D.2.length D.2.length] := (hne _ _ _ HG4.out (by decide)).trans HG4.out
  have hY5 : Blk w5 (B + 1) 25 #[.slice none 0 0, .slice none 0 0] := (hne _ _ _ HY4.out (by decide)).trans HY4.out
  obtain ⟨tw, cw, hcw, htw⟩ : ∃ t cs, Blk w4 hw t cs ∧ t = 47 := (hty hw rfl).2
  have hBR5 := HBR4.out.row hg5 (Nat.zero_le _) hcw (by rw [htw]; decide) (by rw [htw]; decide)
  have hB5 : Below B w w5 := HB4.out.grown hg5 (by have := HB4.out.size; have := HBB.out; omega) (fun g e => by have := (hty g e).1; have := HZ.out; omega)
  obtain ⟨A5, c5, rfl, _⟩ := hr5.wts
  have hlw : (D.2 ++ [(p, s)]).length = D.2.length + 1 := by simp
  rw [hlw] at hr5 ⊢
  have gs : w5.grownBy (w5.setCell ⟨gd, 1, none⟩ (.slice A5 (D.2.length + 1) c5)) (some gd) := only_setCell (World.grownBy.refl w5 _) (.inl rfl) _
  have hBRF := hBR5.row gs (Nat.zero_le _) hG5 (by decide) (by decide)
  have hWRF := hr5.row gs (Nat.zero_le _) hG5 (by decide) (by decide)
  have HBRF := Lib.hid hBRF
  have HWRF := Lib.hid hWRF
  have HGF := Lib.hid (hG5.set_ 1 (.slice A5 (D.2.length + 1) c5))
  have HYF := Lib.hid (hY5.far (p := ⟨gd, 1, none⟩) (by show B + 1 ≠ gd; have := HGB.out; omega) (.slice A5 (D.2.length + 1) c5))
  have HBF := Lib.hid (hB5.setCell (p := ⟨gd, 1, none⟩) (by show B ≤ gd; have := HGB.out; omega) (.slice A5 (D.2.length + 1) c5))
  have hu3 := hG5.cell 1
  have hf3 := hG5.frozen 1
  clear hne hG5 hY5 hcw htw hBR5 hB5 hr5 gs hBRF hWRF hg5 hty HB4 HBR4 HWR4 HY4 HG4 HN4 HO4
  try simp only [Act.put, List.setIfInBounds_toArray, List.set_cons_zero, List.set_cons_succ]
  refine wpS_read (v := ?_) rfl (by kernel_rfl) (by kernel_rfl) (by kernel_rfl) (fun _ _ _ h => h) (.inl ⟨by rfl, ?_⟩) ?_
  rotate_left
  · intro X hX
    clear hX
    go_simp
    with_reducible rfl
  try simp only [Act.put, List.setIfInBounds_toArray, List.set_cons_zero, List.set_cons_succ]
  refine wpS_last rfl (by kernel_rfl) (by kernel_rfl) (fun K hK => ?_)
  go_simp
  refine hK _ _ ?_
  clear hK K hu3 hf3
  try simp only [Act.put, List.setIfInBounds_toArray, List.set_cons_zero, List.set_cons_succ]
  refine wpS_done (by kernel_rfl) ?_
  obtain ⟨w6, hw6⟩ : ∃ w6, w5.setCell ⟨gd, 1, none⟩ (.slice A5 (D.2.length + 1) c5) = w6 := ⟨_, rfl⟩
  rw [hw6] at HBRF HWRF HGF HYF HBF ⊢
  clear hw6
  have t0 := HGF.out.cell 0
  have t1 := HGF.out.cell 1
  have d0 := HYF.out.cell 0
  have d1 := HYF.out.cell 1
  have hf0 := HYF.out.frozen 0
  have hf1 := HYF.out.frozen 1
  simp at t0 t1
  go_wp2_with fail
  have gs := only_two w6 (B + 1) (.slice (some ⟨hb, 0, none⟩) D.1.length D.1.length) (.slice A5 (D.2.length + 1) c5)
  have hBRE := HBRF.out.row gs (Nat.zero_le _) HYF.out (by decide) (by decide)
  have hWRE := HWRF.out.row gs (Nat.zero_le _) HYF.out (by decide) (by decide)
  have hBE := (HBF.out.setCell (p := ⟨B + 1, 0, none⟩) (Nat.le_succ _) (.slice (some ⟨hb, 0, none⟩) D.1.length D.1.length)).setCell (p := ⟨B + 1, 1, none⟩) (Nat.le_succ _) (.slice A5 (D.2.length + 1) c5)
  have hXF := (HYF.out.set_ 0 (.slice (some ⟨hb, 0, none⟩) D.1.length D.1.length)).set_ 1 (.slice A5 (D.2.length + 1) c5)
  obtain ⟨wf, hwf⟩ : ∃ wf, ((w6.setCell ⟨B + 1, 0, none⟩ (.slice (some ⟨hb, 0, none⟩) D.1.length D.1.length)).setCell ⟨B + 1, 1, none⟩ (.slice A5 (D.2.length + 1) c5)) = wf := ⟨_, rfl⟩
  rw [hwf] at hBRE hWRE hBE hXF ⊢
  clear hwf t0 t1 d0 d1 hf0 hf1 gs HBRF HWRF HBF HYF HGF
  have e0 := hXF.cell 0
  have e1 := hXF.cell 1
  refine bodyPost_ret (v := .agg #[.slice (some ⟨hb, 0, none⟩) D.1.length D.1.length, .slice A5 (D.2.length + 1) c5]) (by simp [results, Tryz.f40, go_sem, e0, e1]) rfl ?_
  refine ⟨⟨some ⟨hb, 0, none⟩, D.1.length, A5, c5⟩, ?_, rows_dskT hBRE (by show WRowC wf 0 _ (.slice A5 (D.2 ++ [(p, s)]).length c5) (D.2 ++ [(p, s)]); rw [hlw]; exact hWRE), by rw [HBB.out]; exact hBE⟩
  show _ = Ending.returned (.agg #[.slice (some ⟨hb, 0, none⟩) D.1.length D.1.length, .slice A5 (D.2 ++ [(p, s)]).length c5])
  rw [hlw]
end Go.Proofs.YtldnelimemjaiaaGreatDoor
/-
  The document's own With for layer 9, with the rows that it makes.
-/
namespace Go.Proofs.YtldnelimemjaiaaGreatDoor
open Go.RowKit Go.Shelf
set_option maxRecDepth 100000

/-- A disk whose rows are rows: it stays where boxes of disks are written. -/
def DskR (w : World) (x : DAt) (D : DkL) : Prop := ∃ b1 b2, BRowC w 0 b1 (.slice x.ba D.1.length x.bc) D.1 ∧ WRowC w 0 b2 (.slice x.wa D.2.length x.wc) D.2
theorem DskR.dsk {w : World} {x : DAt} {D : DkL} (h : DskR w x D) : Dsk w w.heap.size x D := by
  obtain ⟨b1, b2, h1, h2⟩ := h
  exact rows_dsk h1 h2
theorem DskR.below {w w' : World} {x : DAt} {D : DkL} (h : DskR w x D) (hb : Below w.heap.size w w') : DskR w' x D := by
  obtain ⟨b1, b2, h1, h2⟩ := h
  exact ⟨b1, b2, h1.below hb, h2.below hb⟩
theorem DskR.set2 {w : World} {x : DAt} {D : DkL} (h : DskR w x D) {g : Nat} {cs : Array Value} (hg : Blk w g 25 cs) (u v : Value) : DskR ((w.setCell ⟨g, 0, none⟩ u).setCell ⟨g, 1, none⟩ v) x D := by
  obtain ⟨b1, b2, h1, h2⟩ := h
  have gs : w.grownBy ((w.setCell ⟨g, 0, none⟩ u).setCell ⟨g, 1, none⟩ v) (some g) := only_two w g u v
  exact ⟨b1, b2, h1.row gs (Nat.zero_le _) hg (by decide) (by decide), h2.row gs (Nat.zero_le _) hg (by decide) (by decide)⟩
def RPost (D : DkL) (w : World) (e : Ending) (w' : World) : Prop := ∃ x', e = .returned (dval x' D) ∧ DskR w' x' D ∧ Below w.heap.size w w'
set_option maxHeartbeats 4000000 in
theorem rdWithR_any (x : DAt) (D : DkL) (p : Int) (a : Option Addr) (n c : Nat) (s : List UInt8) (w : World) (h : Dsk w w.heap.size x D) (hf : Fits D) (hp : (Lit.int .i64 p).wf = true) (hs : Bsl w w.heap.size a n c s) (hn : n ≤ 1000000) (hq : D.2.length ≤ 5000) :
    Calls Tryz.prog 40 #[dval x D, .int .i64 p, .slice a n c] w (RPost (withD D p s) w) := by
  have hmx : Tryz.prog.follows Departure.mixedOrders = true := by kernel_rfl
  obtain ⟨w0, hw0, b0, z0, x0, x1⟩ := two_boxes w (.slice x.ba D.1.length x.bc) (.slice x.wa D.2.length x.wc)
  obtain ⟨B, hB⟩ : ∃ B, w.heap.size = B := ⟨_, rfl⟩
  have h0 := h.step b0
  have hs0 := hs.step b0
  have c0 := x0.cell 0
  have c1 := x0.cell 1
  have ht := rdTwin_any x D w0 h0 hf
  rw [hB] at x0 x1 z0 b0 c0 c1
  simp only [dval] at ht ⊢
  have HT := Lib.hid ht
  have HX0 := Lib.hid x0
  have HX1 := Lib.hid x1
  have HB := Lib.hid b0
  have HZ := Lib.hid z0
  have HBB := Lib.hid hB
  have HS := Lib.hid hs0
  have HP := Lib.hid hp
  have HQ := Lib.hid hq
  clear ht x0 x1 b0 z0 h0 hs0 h hf hp hs hq
  go_enter Tryz.func40, Tryz.ntmps40
  go_wp2_with fail
  clear hw0 hB c0 c1
  refine HT.out.mono ?_
  rintro e w1 ⟨x', rfl, ht, b1⟩
  have hb1 := ht.brow 0
  have hw1 := ht.wrow 0
  obtain ⟨hb, hw, rfl, hle1, hle2, _⟩ := ht
  simp only [dval] at hb1 hw1 ⊢
  go_wp2_with fail
  have hls : n = s.length := HS.out.1.symm
  subst hls
  obtain ⟨gd, hgd⟩ : ∃ gd, w1.heap.size = gd := ⟨_, rfl⟩
  obtain ⟨w2, hw2⟩ : ∃ w2, w1.alloc (.cells #[.slice (some ⟨hb, 0, none⟩) D.1.length D.1.length, .slice (some ⟨hw, 0, none⟩) D.2.length D.2.length] 25) = w2 := ⟨_, rfl⟩
  obtain ⟨wd, hwd⟩ : ∃ wd, w2.drew = wd := ⟨_, rfl⟩
  have b2 : Below w1.heap.size w1 w2 := by rw [← hw2]; exact (Below.refl _ _).alloc (Nat.le_refl _) _
  have bd : Below w2.heap.size w2 wd := by rw [← hwd]; exact (Below.refl _ w2).drew
  have b12 : Below w1.heap.size w1 wd := b2.trans (bd.mono b2.size)
  have x2 : Blk wd gd 25 #[.slice (some ⟨hb, 0, none⟩) D.1.length D.1.length, .slice (some ⟨hw, 0, none⟩) D.2.length D.2.length] := by
    have := Blk.new w1 25 #[.slice (some ⟨hb, 0, none⟩) D.1.length D.1.length, .slice (some ⟨hw, 0, none⟩) D.2.length D.2.length]
    rw [hw2, hgd] at this
    exact this.below bd this.lt
  have y1 := HX1.out.below b1 HX1.out.lt
  have hzz := HZ.out
  have hgB : B + 2 ≤ gd := by have := b1.size; omega
  have y1d := y1.below b12 y1.lt
  have HBR := Lib.hid (hb1.below b12)
  have HWR := Lib.hid (hw1.below b12)
  have b0d : Below w0.heap.size w0 wd := b1.trans (b12.mono b1.size)
  have HSd := Lib.hid (HS.out.step b0d)
  have HBd := Lib.hid (HB.out.trans (b0d.mono (by omega)))
  have HY := Lib.hid y1d
  have HG := Lib.hid x2
  have HGB := Lib.hid hgB
  have HSZ := Lib.hid (show w0.heap.size ≤ wd.heap.size from b0d.size)
  rw [hgd, hw2]
  clear hw2 hgd b2 bd b12 y1 y1d b0d hb1 hw1 hzz b1
  have g1 := x2.cell 1
  have C0 := fun X (hX : Below wd.heap.size wd X) => (hX.cell (p := ⟨gd, 1, none⟩) (World.block_lt_of_cell? wd _ g1)).trans g1
  have hS : Below wd.heap.size wd wd := Below.refl _ _
  clear x2 g1
  go_wp2_with fail
  refine wpS_start [0, 1, 2, 3, 4, 5, 6, 7, 8, 9] hmx rfl hwd ?_
  clear hwd
  iterate 4 (
    refine wpS_read (v := ?_) rfl (by kernel_rfl) (by kernel_rfl) (by kernel_rfl) (fun _ _ _ h => h) (.inl ⟨by rfl, ?_⟩) ?_
    rotate_left
    · intro X hX
      have hXa := C0 X (hX _ hS)
      clear hX
      go_simp
      with_reducible rfl
    try simp only [Act.put, List.setIfInBounds_toArray, List.set_cons_zero, List.set_cons_succ])
  clear C0 hS
  refine wpS_append_new rfl (by kernel_rfl) rfl (.const (.slice none 0 0)) (.tmp 13) rfl rfl _ a s.length c s rfl HSd.out (by omega) ?_
  intro v3 w3 ho3 b3
  obtain ⟨A3, c3, rfl⟩ := own_slice ho3
  have hA0 : Below w3.heap.size w3 (w3.alloc (.cells #[.int .i64 p, .slice A3 s.length c3] 47)) := (Below.refl _ _).alloc (Nat.le_refl _) _
  have b34 : Below wd.heap.size wd (w3.alloc (.cells #[.int .i64 p, .slice A3 s.length c3] 47)) := b3.trans (hA0.mono b3.size)
  have HN4 := Lib.hid (Blk.new w3 47 #[.int .i64 p, .slice A3 s.length c3])
  have HO4 := Lib.hid ((BslO.own ho3 0).below hA0)
  have HBR4 := Lib.hid (HBR.out.below b34)
  have HWR4 := Lib.hid (HWR.out.below b34)
  have HY4 := Lib.hid (HY.out.below b34 HY.out.lt)
  have HG4 := Lib.hid (HG.out.below b34 HG.out.lt)
  have HB4 := Lib.hid (HBd.out.trans (b34.mono (by have := HBd.out.size; have := HBB.out; omega)))
  have HSZ4 := Lib.hid (Nat.le_trans HSZ.out b34.size)
  have HST := Lib.hid (Stays.of_below hA0)
  clear b3 ho3 hA0 b34 HBR HWR HY HG HBd HSd
  try simp only [Act.put, List.setIfInBounds_toArray, List.set_cons_zero, List.set_cons_succ]
  refine wpS_read (v := ?_) rfl (by kernel_rfl) (by kernel_rfl) (by kernel_rfl) (fun _ _ _ h => h) (.inl ⟨by rfl, ?_⟩) ?_
  rotate_left
  · intro X hX
    clear hX
    go_simp
    with_reducible rfl
  try simp only [Act.put, List.setIfInBounds_toArray, List.set_cons_zero, List.set_cons_succ]
  refine wpS_lone rfl (by kernel_rfl) (fun K hK => ?_)
  go_simp
  refine hK _ _ HST.out ?_
  clear hK K HST
  try simp only [Act.put, List.setIfInBounds_toArray, List.set_cons_zero, List.set_cons_succ]
  obtain ⟨w4, hw4⟩ : ∃ w4, w3.alloc (.cells #[.int .i64 p, .slice A3 s.length c3] 47) = w4 := ⟨_, rfl⟩
  rw [hw4] at HN4 HO4 HBR4 HWR4 HY4 HG4 HB4 HSZ4 ⊢
  clear hw4
  refine wpS_append_wrow rfl (by kernel_rfl) (by kernel_rfl) rfl (.tmp 11) (.tmp 16) rfl w0.heap.size (Nat.zero_le _) (.slice (some ⟨hw, 0, none⟩) D.2.length D.2.length) D.2 rfl HWR4.out [.int .i64 p, .slice A3 s.length c3] [(p, s)] ⟨w3.heap.size, 0, none⟩ 1 1 rfl rfl rfl (fun j u hu => ?_) (fun i hi => ?_) (by have := HQ.out; omega) HSZ4.out ?_
  · rcases j with _ | _ | j
    · cases hu
      have := HN4.out.cell 0
      simpa [Addr.add] using this
    · cases hu
      have := HN4.out.cell 1
      simpa [Addr.add] using this
    · simp at hu
  · obtain rfl : i = 0 := by simp at hi; exact hi
    exact ⟨HP.out, rfl, A3, c3, rfl, HO4.out⟩
  intro v5 w5 hr5 hg5 hty
  have hne : ∀ g t cs, Blk w4 g t cs → t ≠ 47 → w5.heap[g]? = w4.heap[g]? := fun g t cs hx ht => hg5.block g hx.lt fun e => by
    obtain ⟨_, t', cs', h1, h2⟩ := hty g e.symm
    exact hx.ne h1 (by rw [h2]; exact ht) rfl
  have hG5 : Blk w5 gd 25 #[.slice (some ⟨hb, 0, none⟩) D.1.length D.1.length, .slice (some ⟨hw, 0, none⟩) D.2.length D.2.length] := (hne _ _ _ HG4.out (by decide)).trans HG4.out
  have hY5 : Blk w5 (B + 1) 25 #[.slice none 0 0, .slice none 0 0] := (hne _ _ _ HY4.out (by decide)).trans HY4.out
  obtain ⟨tw, cw, hcw, htw⟩ : ∃ t cs, Blk w4 hw t cs ∧ t = 47 := (hty hw rfl).2
  have hBR5 := HBR4.out.row hg5 (Nat.zero_le _) hcw (by rw [htw]; decide) (by rw [htw]; decide)
  have hB5 : Below B w w5 := HB4.out.grown hg5 (by have := HB4.out.size; have := HBB.out; omega) (fun g e => by have := (hty g e).1; have := HZ.out; omega)
  obtain ⟨A5, c5, rfl, _⟩ := hr5.wts
  have hlw : (D.2 ++ [(p, s)]).length = D.2.length + 1 := by simp
  rw [hlw] at hr5 ⊢
  have gs : w5.grownBy (w5.setCell ⟨gd, 1, none⟩ (.slice A5 (D.2.length + 1) c5)) (some gd) := only_setCell (World.grownBy.refl w5 _) (.inl rfl) _
  have hBRF := hBR5.row gs (Nat.zero_le _) hG5 (by decide) (by decide)
  have hWRF := hr5.row gs (Nat.zero_le _) hG5 (by decide) (by decide)
  have HBRF := Lib.hid hBRF
  have HWRF := Lib.hid hWRF
  have HGF := Lib.hid (hG5.set_ 1 (.slice A5 (D.2.length + 1) c5))
  have HYF := Lib.hid (hY5.far (p := ⟨gd, 1, none⟩) (by show B + 1 ≠ gd; have := HGB.out; omega) (.slice A5 (D.2.length + 1) c5))
  have HBF := Lib.hid (hB5.setCell (p := ⟨gd, 1, none⟩) (by show B ≤ gd; have := HGB.out; omega) (.slice A5 (D.2.length + 1) c5))
  have hu3 := hG5.cell 1
  have hf3 := hG5.frozen 1
  clear hne hG5 hY5 hcw htw hBR5 hB5 hr5 gs hBRF hWRF hg5 hty HB4 HBR4 HWR4 HY4 HG4 HN4 HO4
  try simp only [Act.put, List.setIfInBounds_toArray, List.set_cons_zero, List.set_cons_succ]
  refine wpS_read (v := ?_) rfl (by kernel_rfl) (by kernel_rfl) (by kernel_rfl) (fun _ _ _ h => h) (.inl ⟨by rfl, ?_⟩) ?_
  rotate_left
  · intro X hX
    clear hX
    go_simp
    with_reducible rfl
  try simp only [Act.put, List.setIfInBounds_toArray, List.set_cons_zero, List.set_cons_succ]
  refine wpS_last rfl (by kernel_rfl) (by kernel_rfl) (fun K hK => ?_)
  go_simp
  refine hK _ _ ?_
  clear hK K hu3 hf3
  try simp only [Act.put, List.setIfInBounds_toArray, List.set_cons_zero, List.set_cons_succ]
  refine wpS_done (by kernel_rfl) ?_
  obtain ⟨w6, hw6⟩ : ∃ w6, w5.setCell ⟨gd, 1, none⟩ (.slice A5 (D.2.length + 1) c5) = w6 := ⟨_, rfl⟩
  rw [hw6] at HBRF HWRF HGF HYF HBF ⊢
  clear hw6
  have t0 := HGF.out.cell 0
  have t1 := HGF.out.cell 1
  have d0 := HYF.out.cell 0
  have d1 := HYF.out.cell 1
  have hf0 := HYF.out.frozen 0
  have hf1 := HYF.out.frozen 1
  simp at t0 t1
  go_wp2_with fail
  have gs := only_two w6 (B + 1) (.slice (some ⟨hb, 0, none⟩) D.1.length D.1.length) (.slice A5 (D.2.length + 1) c5)
  have hBRE := HBRF.out.row gs (Nat.zero_le _) HYF.out (by decide) (by decide)
  have hWRE := HWRF.out.row gs (Nat.zero_le _) HYF.out (by decide) (by decide)
  have hBE := (HBF.out.setCell (p := ⟨B + 1, 0, none⟩) (Nat.le_succ _) (.slice (some ⟨hb, 0, none⟩) D.1.length D.1.length)).setCell (p := ⟨B + 1, 1, none⟩) (Nat.le_succ _) (.slice A5 (D.2.length + 1) c5)
  have hXF := (HYF.out.set_ 0 (.slice (some ⟨hb, 0, none⟩) D.1.length D.1.length)).set_ 1 (.slice A5 (D.2.length + 1) c5)
  obtain ⟨wf, hwf⟩ : ∃ wf, ((w6.setCell ⟨B + 1, 0, none⟩ (.slice (some ⟨hb, 0, none⟩) D.1.length D.1.length)).setCell ⟨B + 1, 1, none⟩ (.slice A5 (D.2.length + 1) c5)) = wf := ⟨_, rfl⟩
  rw [hwf] at hBRE hWRE hBE hXF ⊢
  clear hwf t0 t1 d0 d1 hf0 hf1 gs HBRF HWRF HBF HYF HGF
  have e0 := hXF.cell 0
  have e1 := hXF.cell 1
  refine bodyPost_ret (v := .agg #[.slice (some ⟨hb, 0, none⟩) D.1.length D.1.length, .slice A5 (D.2.length + 1) c5]) (by simp [results, Tryz.f40, go_sem, e0, e1]) rfl ?_
  refine ⟨⟨some ⟨hb, 0, none⟩, D.1.length, A5, c5⟩, ?_, ⟨_, _, hBRE, (by show WRowC wf 0 _ (.slice A5 (D.2 ++ [(p, s)]).length c5) (D.2 ++ [(p, s)]); rw [hlw]; exact hWRE)⟩, by rw [HBB.out]; exact hBE⟩
  show _ = Ending.returned (.agg #[.slice (some ⟨hb, 0, none⟩) D.1.length D.1.length, .slice A5 (D.2 ++ [(p, s)]).length c5])
  rw [hlw]
end Go.Proofs.YtldnelimemjaiaaGreatDoor
/-
  A region that draws its order, walked in one order of one's own, where some operations (F) ask nothing of the world: such may stand beside one that writes.
-/
namespace Go.Proofs.YtldnelimemjaiaaGreatDoor
open Go Go.RowKit
set_option maxRecDepth 100000

section
variable {P : Program} {ops : Array Oper} {Q : Exit → Act → World → Prop} {md : Region.Mode} {F : Nat → Bool}

/-- Each other operation comes ahead of that of number i, or behind it, or asks nothing of the world. -/
def lastF (F : Nat → Bool) (md : Region.Mode) (ops : Array Oper) (i : Nat) : Bool := (List.range ops.size).all fun k => k == i || F k || waitsB md ops ops.size i k || waitsB md ops ops.size k i
theorem lastF_not {L : Array Bool} {i j : Nat} (hF : F i = false) (hc : Closed md ops L) (hi : i ∈ Region.ready md ops L) (hj : j ∈ Region.ready md ops L) (hne : j ≠ i) : lastF F md ops j ≠ true := by
  intro h
  unfold lastF at h
  simp only [List.all_eq_true, List.mem_range] at h
  obtain ⟨_, oi, hoi, di⟩ := mem_ready.1 hi
  obtain ⟨_, oj, hoj, dj⟩ := mem_ready.1 hj
  have h1 := h i (Array.getElem?_eq_some_iff.1 hoi).1
  simp only [Bool.or_eq_true, beq_iff_eq, Ne.symm hne, hF, Bool.false_eq_true, false_or] at h1
  rcases h1 with h1 | h1
  · exact unready hi (waits_listed hc _ j h1 fun o ho e he hb => by rw [hoj] at ho; cases ho; exact dj e he hb)
  · exact unready hj (waits_listed hc _ i h1 fun o ho e he hb => by rw [hoi] at ho; cases ho; exact di e he hb)
/-- Whatever order is picked from here on; what lay as it lay still does behind each operation but such as stand alone in the order. -/
def wpMovF (P : Program) (F : Nat → Bool) (md : Region.Mode) (ops : Array Oper) (Q : Exit → Act → World → Prop) : Nat → Array Bool → Act → World → Prop
  | 0, listed, a, w => Region.ready md ops listed = [] ∧ Q .normal a w
  | fuel + 1, listed, a, w =>
    (Region.ready md ops listed = [] → Q .normal a w) ∧
    ∀ i ∈ Region.ready md ops listed, wpOp P ops Q i (fun a' w' => (lastF F md ops i = true ∨ Stays w w') ∧ wpMovF P F md ops Q fuel (listed.setIfInBounds i true) a' w') a w
theorem wpAny_of_movF : ∀ (fuel : Nat) (listed : Array Bool) (a : Act) (w : World), wpMovF P F md ops Q fuel listed a w → wpAny P md ops Q fuel listed a w
  | 0, _, _, _, h => h
  | fuel + 1, _, _, _, h => ⟨h.1, fun i hi => wpOp_mono (fun a' w' h' => wpAny_of_movF fuel _ a' w' h'.2) (h.2 i hi)⟩

theorem wpMovF_first {i : Nat} {oi : Oper} {v : Value} (hF : F i = false) (hi : ops[i]? = some oi) (hsel : ∀ (j : Nat) (o : Oper) cs b, ops[j]? = some o → o.op ≠ .select cs b)
    (hQ : ∀ c a w, Q (.panic c) (a.put oi.dst v) w → Q (.panic c) a w) :
    ∀ (fuel : Nat) (listed : Array Bool) (a : Act) (w : World),
      (∀ j oj, ops[j]? = some oj → j ≠ i → listed.getD j true = false → (∀ e ∈ oj.after, Region.binds md e = true → e.on ≠ i) → oi.apart ops oj = true) →
      Closed md ops listed → i ∈ Region.ready md ops listed → YieldsIf P ops (Stays w) oi v a →
      wpMovF P F md ops Q fuel (listed.setIfInBounds i true) (a.put oi.dst v) w → wpMovF P F md ops Q (fuel + 1) listed a w := by
  intro fuel
  induction fuel with
  | zero =>
    intro listed a w _ hcl hr hy H
    refine ⟨fun h => (by rw [h] at hr; cases hr), fun j hj => ?_⟩
    by_cases hji : j = i
    · subst hji; exact hy.wpOp hi (Stays.refl w) ⟨.inr (Stays.refl w), H⟩
    · have := ready_mono hj hji
      rw [H.1] at this
      cases this
  | succ fuel ih =>
    intro listed a w hfree hcl hr hy H
    refine ⟨fun h => (by rw [h] at hr; cases hr), fun j hj => ?_⟩
    by_cases hji : j = i
    · subst hji; exact hy.wpOp hi (Stays.refl w) ⟨.inr (Stays.refl w), H⟩
    · have g1 := H.2 j (ready_mono hj hji)
      obtain ⟨hjun, oj, hoj, hall⟩ := mem_ready.1 hj
      have hnot : ∀ e ∈ oj.after, Region.binds md e = true → e.on ≠ i := by
        intro e he hb heq
        have t1 := hall e he hb
        have t0 := (mem_ready.1 hr).1
        rw [heq] at t1
        rcases Nat.lt_or_ge i listed.size with h' | h'
        · simp [h'] at t0 t1; rw [t0] at t1; cases t1
        · simp [Array.getElem?_eq_none h'] at t1
      have g2 := wpOp_putIf hoj (hfree j oj hoj hji hjun hnot) (fun cs b => hsel i oi cs b hi) (fun cs b => hsel j oj cs b hoj) hQ hy g1
      have hnl := lastF_not hF hcl hr hj hji
      refine wpOp_mono (fun a' w' g3 => ⟨.inr (g3.2.1.resolve_left hnl), ih (listed.setIfInBounds j true) a' w' ?_ (closed_set hcl hj) (ready_mono hr (Ne.symm hji)) (yieldsIf_weaken g3.1 fun W hW => (g3.2.1.resolve_left hnl).trans hW) ?_⟩) g2
      · intro k ok hk hki hun hno
        refine hfree k ok hk hki ?_ hno
        by_cases hjk : j = k
        · subst hjk; exact hjun
        · rw [getD_set_ne true hjk] at hun; exact hun
      · rw [Array.setIfInBounds_comm _ _ hji]
        exact g3.2.2

theorem wpMovF_pure {i : Nat} {oi : Oper} {v : Value} (hi : ops[i]? = some oi) (hsel : ∀ (j : Nat) (o : Oper) cs b, ops[j]? = some o → o.op ≠ .select cs b)
    (hQ : ∀ c a w, Q (.panic c) (a.put oi.dst v) w → Q (.panic c) a w) :
    ∀ (fuel : Nat) (listed : Array Bool) (a : Act) (w : World),
      (∀ j oj, ops[j]? = some oj → j ≠ i → listed.getD j true = false → (∀ e ∈ oj.after, Region.binds md e = true → e.on ≠ i) → oi.apart ops oj = true) →
      Closed md ops listed → i ∈ Region.ready md ops listed → YieldsIf P ops (fun _ => True) oi v a →
      wpMovF P F md ops Q fuel (listed.setIfInBounds i true) (a.put oi.dst v) w → wpMovF P F md ops Q (fuel + 1) listed a w := by
  intro fuel
  induction fuel with
  | zero =>
    intro listed a w _ hcl hr hy H
    refine ⟨fun h => (by rw [h] at hr; cases hr), fun j hj => ?_⟩
    by_cases hji : j = i
    · subst hji; exact hy.wpOp hi True.intro ⟨.inr (Stays.refl w), H⟩
    · have := ready_mono hj hji
      rw [H.1] at this
      cases this
  | succ fuel ih =>
    intro listed a w hfree hcl hr hy H
    refine ⟨fun h => (by rw [h] at hr; cases hr), fun j hj => ?_⟩
    by_cases hji : j = i
    · subst hji; exact hy.wpOp hi True.intro ⟨.inr (Stays.refl w), H⟩
    · have g1 := H.2 j (ready_mono hj hji)
      obtain ⟨hjun, oj, hoj, hall⟩ := mem_ready.1 hj
      have hnot : ∀ e ∈ oj.after, Region.binds md e = true → e.on ≠ i := by
        intro e he hb heq
        have t1 := hall e he hb
        have t0 := (mem_ready.1 hr).1
        rw [heq] at t1
        rcases Nat.lt_or_ge i listed.size with h' | h'
        · simp [h'] at t0 t1; rw [t0] at t1; cases t1
        · simp [Array.getElem?_eq_none h'] at t1
      have g2 := wpOp_putIf hoj (hfree j oj hoj hji hjun hnot) (fun cs b => hsel i oi cs b hi) (fun cs b => hsel j oj cs b hoj) hQ hy g1
      refine wpOp_mono (fun a' w' g3 => ⟨g3.2.1, ih (listed.setIfInBounds j true) a' w' ?_ (closed_set hcl hj) (ready_mono hr (Ne.symm hji)) g3.1 ?_⟩) g2
      · intro k ok hk hki hun hno
        refine hfree k ok hk hki ?_ hno
        by_cases hjk : j = k
        · subst hjk; exact hjun
        · rw [getD_set_ne true hjk] at hun; exact hun
      · rw [Array.setIfInBounds_comm _ _ hji]
        exact g3.2.2

/-- In the order σ. -/
def wpF (P : Program) (F : Nat → Bool) (md : Region.Mode) (ops : List Oper) (Q : Exit → Act → World → Prop) (σ : List Nat) (listed : Array Bool) (a : Act) (w : World) : Prop := wpMovF P F md ops.toArray Q σ.length listed a w

theorem wpF_start {l : List Oper} {id : Nat} {a : Act} {w w1 : World} (F : Nat → Bool) (σ : List Nat) (hm : P.follows .mixedOrders = true) (hl : σ.length = l.length) (hw : w.drew = w1)
    (h : wpF P F .any l Q σ (Array.replicate l.length false) a w1) : (Code.region id l.toArray true).wp P Q a w := by
  subst hw
  refine wp_region_any hm (wpAny_of_movF (F := F) _ _ _ _ ?_)
  unfold wpF at h
  rw [hl] at h
  simpa using h
theorem wpF_read {l : List Oper} {i : Nat} {σ : List Nat} {oi : Oper} {v : Value} {listed : Array Bool} {a : Act} {w : World} (hF : F i = false) (hi : nthOp l i = some oi)
    (hs : Region.noSelect l.toArray = true) (hf : Region.free md l.toArray listed i = true) (hr : (Region.ready md l.toArray listed).contains i = true)
    (hQ : ∀ c a w, Q (.panic c) (a.put oi.dst v) w → Q (.panic c) a w) (hy : YieldsIf P l.toArray (Stays w) oi v a)
    (h : wpF P F md l Q σ (listed.setIfInBounds i true) (a.put oi.dst v) w) (hcl : closedB md l.toArray listed = true := by kernel_rfl) : wpF P F md l Q (i :: σ) listed a w :=
  wpMovF_first hF (by rw [← nthOp_eq]; exact hi) (Region.noSelect_spec hs) hQ σ.length listed a w (Region.free_spec (by rw [← nthOp_eq]; exact hi) hf) (closedB_spec hcl) (by simpa using hr) hy h
theorem wpF_pure {l : List Oper} {i : Nat} {σ : List Nat} {oi : Oper} {v : Value} {listed : Array Bool} {a : Act} {w : World} (hi : nthOp l i = some oi)
    (hs : Region.noSelect l.toArray = true) (hf : Region.free md l.toArray listed i = true) (hr : (Region.ready md l.toArray listed).contains i = true)
    (hQ : ∀ c a w, Q (.panic c) (a.put oi.dst v) w → Q (.panic c) a w) (hy : YieldsIf P l.toArray (fun _ => True) oi v a)
    (h : wpF P F md l Q σ (listed.setIfInBounds i true) (a.put oi.dst v) w) (hcl : closedB md l.toArray listed = true := by kernel_rfl) : wpF P F md l Q (i :: σ) listed a w :=
  wpMovF_pure (by rw [← nthOp_eq]; exact hi) (Region.noSelect_spec hs) hQ σ.length listed a w (Region.free_spec (by rw [← nthOp_eq]; exact hi) hf) (closedB_spec hcl) (by simpa using hr) hy h
theorem wpF_lone {l : List Oper} {i : Nat} {σ : List Nat} {o : Oper} {listed : Array Bool} {a : Act} {w : World} (hi : nthOp l i = some o) (hr : Region.ready md l.toArray listed = [i])
    (h : ∀ K : Act → World → Prop, (∀ a' w', Stays w w' → wpF P F md l Q σ (listed.setIfInBounds i true) a' w' → K a' w') → if Region.wanted o (yielded l.toArray a.tmps) then o.wp P a w K Q else K (a.put o.dst undef) w) :
    wpF P F md l Q (i :: σ) listed a w := by
  refine ⟨fun h0 => (by rw [hr] at h0; cases h0), fun j hj => ?_⟩
  rw [hr, List.mem_singleton] at hj
  subst hj
  exact wpOp_of hi (h (fun a' w' => (lastF F md l.toArray j = true ∨ Stays w w') ∧ wpMovF P F md l.toArray Q σ.length (listed.setIfInBounds j true) a' w') (fun a' w' hS hs => ⟨.inr hS, hs⟩))
/-- An operation that has its own place in the order. -/
theorem wpF_last {l : List Oper} {i : Nat} {σ : List Nat} {o : Oper} {listed : Array Bool} {a : Act} {w : World} (hi : nthOp l i = some o) (hr : Region.ready md l.toArray listed = [i]) (hl : lastF F md l.toArray i = true)
    (h : ∀ K : Act → World → Prop, (∀ a' w', wpF P F md l Q σ (listed.setIfInBounds i true) a' w' → K a' w') → if Region.wanted o (yielded l.toArray a.tmps) then o.wp P a w K Q else K (a.put o.dst undef) w) :
    wpF P F md l Q (i :: σ) listed a w := by
  refine ⟨fun h0 => (by rw [hr] at h0; cases h0), fun j hj => ?_⟩
  rw [hr, List.mem_singleton] at hj
  subst hj
  exact wpOp_of hi (h (fun a' w' => (lastF F md l.toArray j = true ∨ Stays w w') ∧ wpMovF P F md l.toArray Q σ.length (listed.setIfInBounds j true) a' w') (fun a' w' hs => ⟨.inl hl, hs⟩))
/-- Two operations stand side by side: both ways. -/
theorem wpF_fork {l : List Oper} {i j : Nat} {σ : List Nat} {oi oj : Oper} {listed : Array Bool} {a : Act} {w : World} (hi : nthOp l i = some oi) (hj : nthOp l j = some oj) (hr : Region.ready md l.toArray listed = [i, j])
    (h1 : ∀ K : Act → World → Prop, (∀ a' w', Stays w w' → wpF P F md l Q (j :: σ) (listed.setIfInBounds i true) a' w' → K a' w') → if Region.wanted oi (yielded l.toArray a.tmps) then oi.wp P a w K Q else K (a.put oi.dst undef) w)
    (h2 : ∀ K : Act → World → Prop, (∀ a' w', Stays w w' → wpF P F md l Q (i :: σ) (listed.setIfInBounds j true) a' w' → K a' w') → if Region.wanted oj (yielded l.toArray a.tmps) then oj.wp P a w K Q else K (a.put oj.dst undef) w) :
    wpF P F md l Q (i :: j :: σ) listed a w := by
  refine ⟨fun h0 => (by rw [hr] at h0; cases h0), fun k hk => ?_⟩
  rw [hr] at hk
  rcases List.mem_cons.1 hk with rfl | hk
  · exact wpOp_of hi (h1 (fun a' w' => (lastF F md l.toArray k = true ∨ Stays w w') ∧ wpMovF P F md l.toArray Q (j :: σ).length (listed.setIfInBounds k true) a' w') (fun a' w' hS hs => ⟨.inr hS, hs⟩))
  · rw [List.mem_singleton] at hk
    subst hk
    exact wpOp_of hj (h2 (fun a' w' => (lastF F md l.toArray k = true ∨ Stays w w') ∧ wpMovF P F md l.toArray Q (i :: σ).length (listed.setIfInBounds k true) a' w') (fun a' w' hS hs => ⟨.inr hS, hs⟩))
theorem wpF_done {l : List Oper} {listed : Array Bool} {a : Act} {w : World} (hr : Region.ready md l.toArray listed = []) (h : Q .normal a w) : wpF P F md l Q [] listed a w := ⟨hr, h⟩
end
end Go.Proofs.YtldnelimemjaiaaGreatDoor
