/-
  The document's own Write and Read of pointers.
-/
import Derived.Test.YtennhempdnpobaaDoorRpB
namespace Go.Proofs.YtennhempdnpobaaDoor
open Go.RowKit Go.Shelf
set_option maxRecDepth 100000

set_option maxHeartbeats 4000000 in
theorem rpRead_any (a : Option Addr) (len cap : Nat) (s : List UInt8) (w : World) (hB : Bsl w w.heap.size a len cap s) : Calls Tryd.prog 30 #[.slice a len cap] w (OutP (preadO s).1 (preadO s).2 w) := by
  have hl := hB.1
  have hmx : Tryd.prog.follows Departure.mixedOrders = true := by kernel_rfl
  rw [preadO]
  have hk : Blk (w.alloc (.cells #[.int .i64 0, .int .u32 0, .int .u32 0, .int .u32 0, .int .u32 0] 42)) w.heap.size 42 #[.int .i64 0, .int .u32 0, .int .u32 0, .int .u32 0, .int .u32 0] := Blk.new w _ _
  have hb1 : Below w.heap.size w (w.alloc (.cells #[.int .i64 0, .int .u32 0, .int .u32 0, .int .u32 0, .int .u32 0] 42)) := (Below.refl _ w).alloc (Nat.le_refl _) _
  have HK := Lib.hid hk; clear hk
  have HB1 := Lib.hid hb1; clear hb1
  have i0 : (0 : Int) ≤ (len : Int) := by omega
  have i1 : (len : Int) ≤ 9223372036854775807 := by have h1 := hB.2.1; have h2 := hB.2.2.1; unfold maxLen at h2; omega
  by_cases h16 : s.length = 16
  · rw [if_pos h16]
    obtain rfl : len = 16 := by omega
    obtain ⟨b, off, ea, hblt, hcell⟩ := hB.2.2.2.2 (by omega)
    subst ea
    have hcap := hB.2.1
    have hm := fun w => rpMay_any (getP s) w
    have l0 := leN_le s 0 1
    obtain ⟨x, hx⟩ : ∃ x : Nat, (s[0]'(by omega)).toNat = x := ⟨_, rfl⟩
    have c0 := hcell 0 (by omega)
    rw [hx, Nat.add_zero] at c0
    have hx0 : leN ((s.drop 0).take 1) = x := by
      rw [List.drop_zero, ← hx]
      obtain ⟨y, r, rfl⟩ : ∃ y r, s = y :: r := List.exists_cons_of_length_pos (by omega)
      simp [leN]
    rw [getP] at hm ⊢
    rw [hx0] at hm l0 ⊢
    clear hx0 hx
    have hw0 := hB.win 1 3 (by omega)
    have hg0 : ∀ W, Below w.heap.size w W → Calls Tryd.prog 45 #[.slice (some ⟨b, off + 1, none⟩) 3 (cap - 1)] W fun e w' => e = .returned (.int .u32 (leN ((s.drop 1).take 3) : Nat)) ∧ W = w' := fun W hW => rpGet_any _ 3 _ _ W ((hw0.below hW).more hW.size) (by omega)
    have sl0 : ∀ X : World, (Instr.slice 28 (.slice (some ⟨b, off, none⟩) 16 cap) (some (.int .i64 1)) (some (.int .i64 4)) none).run Tryd.prog X = .ok (.slice (some ⟨b, off + 1, none⟩) 3 (cap - 1)) X := fun X => slice_lh X b off 16 cap 1 3 (by omega) (by omega)
    obtain ⟨n1, hn1⟩ : ∃ n, leN ((s.drop 1).take 3) = n := ⟨_, rfl⟩
    rw [hn1] at hg0 hm ⊢
    clear hn1 hw0
    have hw1 := hB.win 4 4 (by omega)
    have hg1 : ∀ W, Below w.heap.size w W → Calls Tryd.prog 45 #[.slice (some ⟨b, off + 4, none⟩) 4 (cap - 4)] W fun e w' => e = .returned (.int .u32 (leN ((s.drop 4).take 4) : Nat)) ∧ W = w' := fun W hW => rpGet_any _ 4 _ _ W ((hw1.below hW).more hW.size) (by omega)
    have sl1 : ∀ X : World, (Instr.slice 28 (.slice (some ⟨b, off, none⟩) 16 cap) (some (.int .i64 4)) (some (.int .i64 8)) none).run Tryd.prog X = .ok (.slice (some ⟨b, off + 4, none⟩) 4 (cap - 4)) X := fun X => slice_lh X b off 16 cap 4 4 (by omega) (by omega)
    obtain ⟨n2, hn2⟩ : ∃ n, leN ((s.drop 4).take 4) = n := ⟨_, rfl⟩
    rw [hn2] at hg1 hm ⊢
    clear hn2 hw1
    have hw2 := hB.win 8 4 (by omega)
    have hg2 : ∀ W, Below w.heap.size w W → Calls Tryd.prog 45 #[.slice (some ⟨b, off + 8, none⟩) 4 (cap - 8)] W fun e w' => e = .returned (.int .u32 (leN ((s.drop 8).take 4) : Nat)) ∧ W = w' := fun W hW => rpGet_any _ 4 _ _ W ((hw2.below hW).more hW.size) (by omega)
    have sl2 : ∀ X : World, (Instr.slice 28 (.slice (some ⟨b, off, none⟩) 16 cap) (some (.int .i64 8)) (some (.int .i64 12)) none).run Tryd.prog X = .ok (.slice (some ⟨b, off + 8, none⟩) 4 (cap - 8)) X := fun X => slice_lh X b off 16 cap 8 4 (by omega) (by omega)
    obtain ⟨n3, hn3⟩ : ∃ n, leN ((s.drop 8).take 4) = n := ⟨_, rfl⟩
    rw [hn3] at hg2 hm ⊢
    clear hn3 hw2
    have hw3 := hB.win 12 4 (by omega)
    have hg3 : ∀ W, Below w.heap.size w W → Calls Tryd.prog 45 #[.slice (some ⟨b, off + 12, none⟩) 4 (cap - 12)] W fun e w' => e = .returned (.int .u32 (leN ((s.drop 12).take 4) : Nat)) ∧ W = w' := fun W hW => rpGet_any _ 4 _ _ W ((hw3.below hW).more hW.size) (by omega)
    have sl3 : ∀ X : World, (Instr.slice 28 (.slice (some ⟨b, off, none⟩) 16 cap) (some (.int .i64 12)) (some (.int .i64 16)) none).run Tryd.prog X = .ok (.slice (some ⟨b, off + 12, none⟩) 4 (cap - 12)) X := fun X => slice_lh X b off 16 cap 12 4 (by omega) (by omega)
    obtain ⟨n4, hn4⟩ : ∃ n, leN ((s.drop 12).take 4) = n := ⟨_, rfl⟩
    rw [hn4] at hg3 hm ⊢
    clear hn4 hw3
    obtain ⟨n0, hn0⟩ : ∃ n : Nat, x = n := ⟨_, rfl⟩
    rw [hn0] at c0 hm l0 ⊢
    clear hn0
    have eW : IntKind.i64.wrap (n0 : Int) = (n0 : Int) := IntWalk.i64_in _ (by omega)
    have HX0 := Lib.hid c0
    obtain ⟨P, hP⟩ : ∃ P : Pt, ((n0 : Int), n1, n2, n3, n4) = P := ⟨_, rfl⟩
    have HP := Lib.hid hP
    have HC := Lib.hid hcell
    have HC0 : Hid (∀ X, Below (w.heap.size + 1) (w.alloc (.cells #[.int .i64 0, .int .u32 0, .int .u32 0, .int .u32 0, .int .u32 0] 42)).drew X → Calls Tryd.prog 45 #[.slice (some ⟨b, off + 1, none⟩) 3 (cap - 1)] X fun e w' => e = .returned (.int .u32 (n1 : Int)) ∧ X = w') := Lib.hid fun X hX => hg0 X ((HB1.out.drew).trans (hX.mono (by omega)))
    have HC1 : Hid (∀ X, Below (w.heap.size + 1) (w.alloc (.cells #[.int .i64 0, .int .u32 0, .int .u32 0, .int .u32 0, .int .u32 0] 42)).drew X → Calls Tryd.prog 45 #[.slice (some ⟨b, off + 4, none⟩) 4 (cap - 4)] X fun e w' => e = .returned (.int .u32 (n2 : Int)) ∧ X = w') := Lib.hid fun X hX => hg1 X ((HB1.out.drew).trans (hX.mono (by omega)))
    have HC2 : Hid (∀ X, Below (w.heap.size + 1) (w.alloc (.cells #[.int .i64 0, .int .u32 0, .int .u32 0, .int .u32 0, .int .u32 0] 42)).drew X → Calls Tryd.prog 45 #[.slice (some ⟨b, off + 8, none⟩) 4 (cap - 8)] X fun e w' => e = .returned (.int .u32 (n3 : Int)) ∧ X = w') := Lib.hid fun X hX => hg2 X ((HB1.out.drew).trans (hX.mono (by omega)))
    have HC3 : Hid (∀ X, Below (w.heap.size + 1) (w.alloc (.cells #[.int .i64 0, .int .u32 0, .int .u32 0, .int .u32 0, .int .u32 0] 42)).drew X → Calls Tryd.prog 45 #[.slice (some ⟨b, off + 12, none⟩) 4 (cap - 12)] X fun e w' => e = .returned (.int .u32 (n4 : Int)) ∧ X = w') := Lib.hid fun X hX => hg3 X ((HB1.out.drew).trans (hX.mono (by omega)))
    have HBL := Lib.hid hblt
    clear hg0 hg1 hg2 hg3 hcell c0 hP hl hB h16 hblt
    have HM := Lib.hid hm
    clear hm
    obtain ⟨R, hR⟩ : ∃ R : Pt × Int, (if MayP ((n0 : Int), n1, n2, n3, n4) then (((n0 : Int), n1, n2, n3, n4), (0 : Int)) else (p0, 8)) = R := ⟨_, rfl⟩
    rw [hR]
    have HR := Lib.hid hR
    clear hR
    go_enter Tryd.func30, Tryd.ntmps30
    go_wp2_with fail
    go_cut [4] from 9 to 25 (fun v wx => ∃ ga, v = .pointer (some ⟨ga, 0, none⟩) ∧ w.heap.size < ga ∧ Blk wx ga 42 #[.int .i64 (n0 : Int), .int .u32 (n1 : Int), .int .u32 (n2 : Int), .int .u32 (n3 : Int), .int .u32 (n4 : Int)] ∧ Below w.heap.size w wx ∧ Blk wx w.heap.size 42 #[.int .i64 0, .int .u32 0, .int .u32 0, .int .u32 0, .int .u32 0])
    case first =>
      obtain ⟨wd, hwd⟩ : ∃ wd, (w.alloc (Obj.cells #[.int .i64 0, .int .u32 0, .int .u32 0, .int .u32 0, .int .u32 0] 42)).drew = wd := ⟨_, rfl⟩
      have HBd := Lib.hid (show Below w.heap.size w wd by rw [← hwd]; exact HB1.out.drew)
      have HKd := Lib.hid (show Blk wd w.heap.size 42 #[.int .i64 0, .int .u32 0, .int .u32 0, .int .u32 0, .int .u32 0] by rw [← hwd]; exact HK.out.drew)
      have HZd := Lib.hid (show wd.heap.size = w.heap.size + 1 by rw [← hwd]; simp)
      rw [hwd, ← HZd.out] at HC0 HC1 HC2 HC3
      have c0 : wd.cell? ⟨b, off, none⟩ = some (.int .u8 (n0 : Int)) := (HBd.out.cell (p := ⟨b, off, none⟩) HBL.out).trans HX0.out
      have C0 := fun X (hX : Below wd.heap.size wd X) => (hX.cell (p := ⟨b, off, none⟩) (World.block_lt_of_cell? wd _ c0)).trans c0
      have hbwd : Below wd.heap.size wd wd := Below.refl _ _
      clear c0
      refine wpI_start (Below wd.heap.size wd) [0, 1, 2, 3, 4, 5, 7, 8, 10, 11, 13, 14, 6, 17, 9, 12, 15, 16, 18] hmx rfl hwd ?_
      clear hwd
      iterate 12 (
        refine wpI_read (v := ?_) hbwd rfl (by kernel_rfl) (by kernel_rfl) (by kernel_rfl) (fun _ _ _ h => h) (.inl ⟨by rfl, ?_⟩) ?_
        rotate_left
        · intro X hX
          have hXa := C0 X hX
          clear hX
          go_simp
          with_reducible rfl
        try simp only [Act.put, List.setIfInBounds_toArray, List.set_cons_zero, List.set_cons_succ])
      clear C0 sl0 sl1 sl2 sl3
      refine wpI_fork rfl rfl (by kernel_rfl) (fun K hK => ?_) (fun K hK => ?_)
      · go_simp
        refine (HC0.out wd hbwd).mono ?_
        rintro ev wx ⟨rfl, rfl⟩
        refine hK _ _ hbwd ?_
        clear hK K
        try simp only [Act.put, List.setIfInBounds_toArray, List.set_cons_zero, List.set_cons_succ]
        refine wpI_turn [9, 17, 12, 15, 16, 18] rfl ?_
        refine wpI_fork rfl rfl (by kernel_rfl) (fun K hK => ?_) (fun K hK => ?_)
        · go_simp
          refine (HC1.out wd hbwd).mono ?_
          rintro ev wx ⟨rfl, rfl⟩
          refine hK _ _ hbwd ?_
          clear hK K
          try simp only [Act.put, List.setIfInBounds_toArray, List.set_cons_zero, List.set_cons_succ]
          refine wpI_turn [12, 17, 15, 16, 18] rfl ?_
          refine wpI_fork rfl rfl (by kernel_rfl) (fun K hK => ?_) (fun K hK => ?_)
          · go_simp
            refine (HC2.out wd hbwd).mono ?_
            rintro ev wx ⟨rfl, rfl⟩
            refine hK _ _ hbwd ?_
            clear hK K
            try simp only [Act.put, List.setIfInBounds_toArray, List.set_cons_zero, List.set_cons_succ]
            refine wpI_turn [15, 17, 16, 18] rfl ?_
            refine wpI_fork rfl rfl (by kernel_rfl) (fun K hK => ?_) (fun K hK => ?_)
            · go_simp
              refine (HC3.out wd hbwd).mono ?_
              rintro ev wx ⟨rfl, rfl⟩
              refine hK _ _ hbwd ?_
              clear hK K
              try simp only [Act.put, List.setIfInBounds_toArray, List.set_cons_zero, List.set_cons_succ]
              refine wpI_turn [16, 17, 18] rfl ?_
              iterate 1 (
                refine wpI_read (v := ?_) hbwd rfl (by kernel_rfl) (by kernel_rfl) (by kernel_rfl) (fun _ _ _ h => h) (.inl ⟨by rfl, ?_⟩) ?_
                rotate_left
                · intro X hX
                  clear hX
                  go_simp
                  with_reducible rfl
                try simp only [Act.put, List.setIfInBounds_toArray, List.set_cons_zero, List.set_cons_succ])
              refine wpI_lone rfl (by kernel_rfl) (fun K hK => ?_)
              go_simp
              have hba := (Below.refl wd.heap.size wd).alloc (Nat.le_refl _) (.cells #[.int .i64 0, .int .u32 0, .int .u32 0, .int .u32 0, .int .u32 0] 42)
              have hxa := Blk.new wd 42 #[.int .i64 0, .int .u32 0, .int .u32 0, .int .u32 0, .int .u32 0]
              obtain ⟨wa, hwa⟩ : ∃ wa, wd.alloc (.cells #[.int .i64 0, .int .u32 0, .int .u32 0, .int .u32 0, .int .u32 0] 42) = wa := ⟨_, rfl⟩
              obtain ⟨ga, hga⟩ : ∃ ga, wd.heap.size = ga := ⟨_, rfl⟩
              have hgl : wd.heap.size ≤ ga := by omega
              rw [hwa] at hba hxa ⊢
              rw [hga] at hxa ⊢
              refine hK _ _ hba ?_
              clear hK K hwa
              try simp only [Act.put, List.setIfInBounds_toArray, List.set_cons_zero, List.set_cons_succ]
              refine wpI_lone rfl (by kernel_rfl) (fun K hK => ?_)
              have d0 := hxa.cell 0
              have d1 := hxa.cell 1
              have d2 := hxa.cell 2
              have d3 := hxa.cell 3
              have d4 := hxa.cell 4
              have hfz := fun i => hxa.frozen i
              go_simp
              have hxs := hxa.set5 (.int .i64 (n0 : Int)) (.int .u32 (n1 : Int)) (.int .u32 (n2 : Int)) (.int .u32 (n3 : Int)) (.int .u32 (n4 : Int))
              have hbs := below_set5 hba hgl (.int .i64 (n0 : Int)) (.int .u32 (n1 : Int)) (.int .u32 (n2 : Int)) (.int .u32 (n3 : Int)) (.int .u32 (n4 : Int))
              obtain ⟨ws, hws⟩ : ∃ ws, set5 wa ga (.int .i64 (n0 : Int)) (.int .u32 (n1 : Int)) (.int .u32 (n2 : Int)) (.int .u32 (n3 : Int)) (.int .u32 (n4 : Int)) = ws := ⟨_, rfl⟩
              rw [hws] at hxs hbs
              simp only [set5] at hws
              rw [hws]
              refine hK _ _ hbs ?_
              clear hK K d0 d1 d2 d3 d4 hfz hws
              try simp only [Act.put, List.setIfInBounds_toArray, List.set_cons_zero, List.set_cons_succ]
              refine wpI_done (by kernel_rfl) ?_
              go_wp2_with fail
              go_meet
              exact ⟨ga, rfl, by have := HZd.out; omega, hxs, HBd.out.trans (hbs.mono HBd.out.size), HKd.out.below hbs HKd.out.lt⟩
            · go_simp
              have hba := (Below.refl wd.heap.size wd).alloc (Nat.le_refl _) (.cells #[.int .i64 0, .int .u32 0, .int .u32 0, .int .u32 0, .int .u32 0] 42)
              have hxa := Blk.new wd 42 #[.int .i64 0, .int .u32 0, .int .u32 0, .int .u32 0, .int .u32 0]
              obtain ⟨wa, hwa⟩ : ∃ wa, wd.alloc (.cells #[.int .i64 0, .int .u32 0, .int .u32 0, .int .u32 0, .int .u32 0] 42) = wa := ⟨_, rfl⟩
              obtain ⟨ga, hga⟩ : ∃ ga, wd.heap.size = ga := ⟨_, rfl⟩
              have hgl : wd.heap.size ≤ ga := by omega
              rw [hwa] at hba hxa ⊢
              rw [hga] at hxa ⊢
              refine hK _ _ hba ?_
              clear hK K hwa
              try simp only [Act.put, List.setIfInBounds_toArray, List.set_cons_zero, List.set_cons_succ]
              refine wpI_lone rfl (by kernel_rfl) (fun K hK => ?_)
              go_simp
              refine (HC3.out wa hba).mono ?_
              rintro ev wx ⟨rfl, rfl⟩
              refine hK _ _ hba ?_
              clear hK K
              try simp only [Act.put, List.setIfInBounds_toArray, List.set_cons_zero, List.set_cons_succ]
              iterate 1 (
                refine wpI_read (v := ?_) hba rfl (by kernel_rfl) (by kernel_rfl) (by kernel_rfl) (fun _ _ _ h => h) (.inl ⟨by rfl, ?_⟩) ?_
                rotate_left
                · intro X hX
                  clear hX
                  go_simp
                  with_reducible rfl
                try simp only [Act.put, List.setIfInBounds_toArray, List.set_cons_zero, List.set_cons_succ])
              refine wpI_lone rfl (by kernel_rfl) (fun K hK => ?_)
              have d0 := hxa.cell 0
              have d1 := hxa.cell 1
              have d2 := hxa.cell 2
              have d3 := hxa.cell 3
              have d4 := hxa.cell 4
              have hfz := fun i => hxa.frozen i
              go_simp
              have hxs := hxa.set5 (.int .i64 (n0 : Int)) (.int .u32 (n1 : Int)) (.int .u32 (n2 : Int)) (.int .u32 (n3 : Int)) (.int .u32 (n4 : Int))
              have hbs := below_set5 hba hgl (.int .i64 (n0 : Int)) (.int .u32 (n1 : Int)) (.int .u32 (n2 : Int)) (.int .u32 (n3 : Int)) (.int .u32 (n4 : Int))
              obtain ⟨ws, hws⟩ : ∃ ws, set5 wa ga (.int .i64 (n0 : Int)) (.int .u32 (n1 : Int)) (.int .u32 (n2 : Int)) (.int .u32 (n3 : Int)) (.int .u32 (n4 : Int)) = ws := ⟨_, rfl⟩
              rw [hws] at hxs hbs
              simp only [set5] at hws
              rw [hws]
              refine hK _ _ hbs ?_
              clear hK K d0 d1 d2 d3 d4 hfz hws
              try simp only [Act.put, List.setIfInBounds_toArray, List.set_cons_zero, List.set_cons_succ]
              refine wpI_done (by kernel_rfl) ?_
              go_wp2_with fail
              go_meet
              exact ⟨ga, rfl, by have := HZd.out; omega, hxs, HBd.out.trans (hbs.mono HBd.out.size), HKd.out.below hbs HKd.out.lt⟩
          · go_simp
            have hba := (Below.refl wd.heap.size wd).alloc (Nat.le_refl _) (.cells #[.int .i64 0, .int .u32 0, .int .u32 0, .int .u32 0, .int .u32 0] 42)
            have hxa := Blk.new wd 42 #[.int .i64 0, .int .u32 0, .int .u32 0, .int .u32 0, .int .u32 0]
            obtain ⟨wa, hwa⟩ : ∃ wa, wd.alloc (.cells #[.int .i64 0, .int .u32 0, .int .u32 0, .int .u32 0, .int .u32 0] 42) = wa := ⟨_, rfl⟩
            obtain ⟨ga, hga⟩ : ∃ ga, wd.heap.size = ga := ⟨_, rfl⟩
            have hgl : wd.heap.size ≤ ga := by omega
            rw [hwa] at hba hxa ⊢
            rw [hga] at hxa ⊢
            refine hK _ _ hba ?_
            clear hK K hwa
            try simp only [Act.put, List.setIfInBounds_toArray, List.set_cons_zero, List.set_cons_succ]
            refine wpI_lone rfl (by kernel_rfl) (fun K hK => ?_)
            go_simp
            refine (HC2.out wa hba).mono ?_
            rintro ev wx ⟨rfl, rfl⟩
            refine hK _ _ hba ?_
            clear hK K
            try simp only [Act.put, List.setIfInBounds_toArray, List.set_cons_zero, List.set_cons_succ]
            refine wpI_lone rfl (by kernel_rfl) (fun K hK => ?_)
            go_simp
            refine (HC3.out wa hba).mono ?_
            rintro ev wx ⟨rfl, rfl⟩
            refine hK _ _ hba ?_
            clear hK K
            try simp only [Act.put, List.setIfInBounds_toArray, List.set_cons_zero, List.set_cons_succ]
            iterate 1 (
              refine wpI_read (v := ?_) hba rfl (by kernel_rfl) (by kernel_rfl) (by kernel_rfl) (fun _ _ _ h => h) (.inl ⟨by rfl, ?_⟩) ?_
              rotate_left
              · intro X hX
                clear hX
                go_simp
                with_reducible rfl
              try simp only [Act.put, List.setIfInBounds_toArray, List.set_cons_zero, List.set_cons_succ])
            refine wpI_lone rfl (by kernel_rfl) (fun K hK => ?_)
            have d0 := hxa.cell 0
            have d1 := hxa.cell 1
            have d2 := hxa.cell 2
            have d3 := hxa.cell 3
            have d4 := hxa.cell 4
            have hfz := fun i => hxa.frozen i
            go_simp
            have hxs := hxa.set5 (.int .i64 (n0 : Int)) (.int .u32 (n1 : Int)) (.int .u32 (n2 : Int)) (.int .u32 (n3 : Int)) (.int .u32 (n4 : Int))
            have hbs := below_set5 hba hgl (.int .i64 (n0 : Int)) (.int .u32 (n1 : Int)) (.int .u32 (n2 : Int)) (.int .u32 (n3 : Int)) (.int .u32 (n4 : Int))
            obtain ⟨ws, hws⟩ : ∃ ws, set5 wa ga (.int .i64 (n0 : Int)) (.int .u32 (n1 : Int)) (.int .u32 (n2 : Int)) (.int .u32 (n3 : Int)) (.int .u32 (n4 : Int)) = ws := ⟨_, rfl⟩
            rw [hws] at hxs hbs
            simp only [set5] at hws
            rw [hws]
            refine hK _ _ hbs ?_
            clear hK K d0 d1 d2 d3 d4 hfz hws
            try simp only [Act.put, List.setIfInBounds_toArray, List.set_cons_zero, List.set_cons_succ]
            refine wpI_done (by kernel_rfl) ?_
            go_wp2_with fail
            go_meet
            exact ⟨ga, rfl, by have := HZd.out; omega, hxs, HBd.out.trans (hbs.mono HBd.out.size), HKd.out.below hbs HKd.out.lt⟩
        · go_simp
          have hba := (Below.refl wd.heap.size wd).alloc (Nat.le_refl _) (.cells #[.int .i64 0, .int .u32 0, .int .u32 0, .int .u32 0, .int .u32 0] 42)
          have hxa := Blk.new wd 42 #[.int .i64 0, .int .u32 0, .int .u32 0, .int .u32 0, .int .u32 0]
          obtain ⟨wa, hwa⟩ : ∃ wa, wd.alloc (.cells #[.int .i64 0, .int .u32 0, .int .u32 0, .int .u32 0, .int .u32 0] 42) = wa := ⟨_, rfl⟩
          obtain ⟨ga, hga⟩ : ∃ ga, wd.heap.size = ga := ⟨_, rfl⟩
          have hgl : wd.heap.size ≤ ga := by omega
          rw [hwa] at hba hxa ⊢
          rw [hga] at hxa ⊢
          refine hK _ _ hba ?_
          clear hK K hwa
          try simp only [Act.put, List.setIfInBounds_toArray, List.set_cons_zero, List.set_cons_succ]
          refine wpI_lone rfl (by kernel_rfl) (fun K hK => ?_)
          go_simp
          refine (HC1.out wa hba).mono ?_
          rintro ev wx ⟨rfl, rfl⟩
          refine hK _ _ hba ?_
          clear hK K
          try simp only [Act.put, List.setIfInBounds_toArray, List.set_cons_zero, List.set_cons_succ]
          refine wpI_lone rfl (by kernel_rfl) (fun K hK => ?_)
          go_simp
          refine (HC2.out wa hba).mono ?_
          rintro ev wx ⟨rfl, rfl⟩
          refine hK _ _ hba ?_
          clear hK K
          try simp only [Act.put, List.setIfInBounds_toArray, List.set_cons_zero, List.set_cons_succ]
          refine wpI_lone rfl (by kernel_rfl) (fun K hK => ?_)
          go_simp
          refine (HC3.out wa hba).mono ?_
          rintro ev wx ⟨rfl, rfl⟩
          refine hK _ _ hba ?_
          clear hK K
          try simp only [Act.put, List.setIfInBounds_toArray, List.set_cons_zero, List.set_cons_succ]
          iterate 1 (
            refine wpI_read (v := ?_) hba rfl (by kernel_rfl) (by kernel_rfl) (by kernel_rfl) (fun _ _ _ h => h) (.inl ⟨by rfl, ?_⟩) ?_
            rotate_left
            · intro X hX
              clear hX
              go_simp
              with_reducible rfl
            try simp only [Act.put, List.setIfInBounds_toArray, List.set_cons_zero, List.set_cons_succ])
          refine wpI_lone rfl (by kernel_rfl) (fun K hK => ?_)
          have d0 := hxa.cell 0
          have d1 := hxa.cell 1
          have d2 := hxa.cell 2
          have d3 := hxa.cell 3
          have d4 := hxa.cell 4
          have hfz := fun i => hxa.frozen i
          go_simp
          have hxs := hxa.set5 (.int .i64 (n0 : Int)) (.int .u32 (n1 : Int)) (.int .u32 (n2 : Int)) (.int .u32 (n3 : Int)) (.int .u32 (n4 : Int))
          have hbs := below_set5 hba hgl (.int .i64 (n0 : Int)) (.int .u32 (n1 : Int)) (.int .u32 (n2 : Int)) (.int .u32 (n3 : Int)) (.int .u32 (n4 : Int))
          obtain ⟨ws, hws⟩ : ∃ ws, set5 wa ga (.int .i64 (n0 : Int)) (.int .u32 (n1 : Int)) (.int .u32 (n2 : Int)) (.int .u32 (n3 : Int)) (.int .u32 (n4 : Int)) = ws := ⟨_, rfl⟩
          rw [hws] at hxs hbs
          simp only [set5] at hws
          rw [hws]
          refine hK _ _ hbs ?_
          clear hK K d0 d1 d2 d3 d4 hfz hws
          try simp only [Act.put, List.setIfInBounds_toArray, List.set_cons_zero, List.set_cons_succ]
          refine wpI_done (by kernel_rfl) ?_
          go_wp2_with fail
          go_meet
          exact ⟨ga, rfl, by have := HZd.out; omega, hxs, HBd.out.trans (hbs.mono HBd.out.size), HKd.out.below hbs HKd.out.lt⟩
      · go_simp
        have hba := (Below.refl wd.heap.size wd).alloc (Nat.le_refl _) (.cells #[.int .i64 0, .int .u32 0, .int .u32 0, .int .u32 0, .int .u32 0] 42)
        have hxa := Blk.new wd 42 #[.int .i64 0, .int .u32 0, .int .u32 0, .int .u32 0, .int .u32 0]
        obtain ⟨wa, hwa⟩ : ∃ wa, wd.alloc (.cells #[.int .i64 0, .int .u32 0, .int .u32 0, .int .u32 0, .int .u32 0] 42) = wa := ⟨_, rfl⟩
        obtain ⟨ga, hga⟩ : ∃ ga, wd.heap.size = ga := ⟨_, rfl⟩
        have hgl : wd.heap.size ≤ ga := by omega
        rw [hwa] at hba hxa ⊢
        rw [hga] at hxa ⊢
        refine hK _ _ hba ?_
        clear hK K hwa
        try simp only [Act.put, List.setIfInBounds_toArray, List.set_cons_zero, List.set_cons_succ]
        refine wpI_lone rfl (by kernel_rfl) (fun K hK => ?_)
        go_simp
        refine (HC0.out wa hba).mono ?_
        rintro ev wx ⟨rfl, rfl⟩
        refine hK _ _ hba ?_
        clear hK K
        try simp only [Act.put, List.setIfInBounds_toArray, List.set_cons_zero, List.set_cons_succ]
        refine wpI_lone rfl (by kernel_rfl) (fun K hK => ?_)
        go_simp
        refine (HC1.out wa hba).mono ?_
        rintro ev wx ⟨rfl, rfl⟩
        refine hK _ _ hba ?_
        clear hK K
        try simp only [Act.put, List.setIfInBounds_toArray, List.set_cons_zero, List.set_cons_succ]
        refine wpI_lone rfl (by kernel_rfl) (fun K hK => ?_)
        go_simp
        refine (HC2.out wa hba).mono ?_
        rintro ev wx ⟨rfl, rfl⟩
        refine hK _ _ hba ?_
        clear hK K
        try simp only [Act.put, List.setIfInBounds_toArray, List.set_cons_zero, List.set_cons_succ]
        refine wpI_lone rfl (by kernel_rfl) (fun K hK => ?_)
        go_simp
        refine (HC3.out wa hba).mono ?_
        rintro ev wx ⟨rfl, rfl⟩
        refine hK _ _ hba ?_
        clear hK K
        try simp only [Act.put, List.setIfInBounds_toArray, List.set_cons_zero, List.set_cons_succ]
        iterate 1 (
          refine wpI_read (v := ?_) hba rfl (by kernel_rfl) (by kernel_rfl) (by kernel_rfl) (fun _ _ _ h => h) (.inl ⟨by rfl, ?_⟩) ?_
          rotate_left
          · intro X hX
            clear hX
            go_simp
            with_reducible rfl
          try simp only [Act.put, List.setIfInBounds_toArray, List.set_cons_zero, List.set_cons_succ])
        refine wpI_lone rfl (by kernel_rfl) (fun K hK => ?_)
        have d0 := hxa.cell 0
        have d1 := hxa.cell 1
        have d2 := hxa.cell 2
        have d3 := hxa.cell 3
        have d4 := hxa.cell 4
        have hfz := fun i => hxa.frozen i
        go_simp
        have hxs := hxa.set5 (.int .i64 (n0 : Int)) (.int .u32 (n1 : Int)) (.int .u32 (n2 : Int)) (.int .u32 (n3 : Int)) (.int .u32 (n4 : Int))
        have hbs := below_set5 hba hgl (.int .i64 (n0 : Int)) (.int .u32 (n1 : Int)) (.int .u32 (n2 : Int)) (.int .u32 (n3 : Int)) (.int .u32 (n4 : Int))
        obtain ⟨ws, hws⟩ : ∃ ws, set5 wa ga (.int .i64 (n0 : Int)) (.int .u32 (n1 : Int)) (.int .u32 (n2 : Int)) (.int .u32 (n3 : Int)) (.int .u32 (n4 : Int)) = ws := ⟨_, rfl⟩
        rw [hws] at hxs hbs
        simp only [set5] at hws
        rw [hws]
        refine hK _ _ hbs ?_
        clear hK K d0 d1 d2 d3 d4 hfz hws
        try simp only [Act.put, List.setIfInBounds_toArray, List.set_cons_zero, List.set_cons_succ]
        refine wpI_done (by kernel_rfl) ?_
        go_wp2_with fail
        go_meet
        exact ⟨ga, rfl, by have := HZd.out; omega, hxs, HBd.out.trans (hbs.mono HBd.out.size), HKd.out.below hbs HKd.out.lt⟩
    case rest =>
      obtain ⟨ga, rfl, hgl, hxp, hbx, hkx⟩ := hcut
      obtain ⟨c0, c1, c2, c3, c4⟩ := hxp.five
      have HBx := Lib.hid hbx
      have HKx := Lib.hid hkx
      have HPx := Lib.hid hxp
      clear hbx hkx hxp sl0 sl1 sl2 sl3 HC0 HC1 HC2 HC3
      have hP := HP.out
      by_cases h : MayP P
      · have hm2 := HM.out wc
        rw [hP, decide_eq_true h] at hm2
        have hR := HR.out
        rw [hP, if_pos h] at hR
        subst hR
        subst hP
        have HM2 := Lib.hid hm2
        clear hm2 h
        go_wp2_with (go_at_call 43
                     refine HM2.out.mono ?_
                     rintro ev w2 ⟨rfl, b2⟩
                     have HB4 := Lib.hid (HBx.out.trans (b2.mono HBx.out.size))
                     have HK4 := Lib.hid (HKx.out.below b2 HKx.out.lt)
                     obtain ⟨c0', c1', c2', c3', c4'⟩ := (HPx.out.below b2 HPx.out.lt).five
                     have d0 : w2.cell? ⟨w.heap.size, 0, none⟩ = some (.int .i64 0) := HK4.out.cell 0
                     have d1 : w2.cell? ⟨w.heap.size, 1, none⟩ = some (.int .u32 0) := HK4.out.cell 1
                     have d2 : w2.cell? ⟨w.heap.size, 2, none⟩ = some (.int .u32 0) := HK4.out.cell 2
                     have d3 : w2.cell? ⟨w.heap.size, 3, none⟩ = some (.int .u32 0) := HK4.out.cell 3
                     have d4 : w2.cell? ⟨w.heap.size, 4, none⟩ = some (.int .u32 0) := HK4.out.cell 4
                     have fr : ∀ i, w2.frozen? ⟨w.heap.size, i, none⟩ = false := fun i => HK4.out.frozen i
                     clear b2)
        obtain ⟨wf, hwf⟩ : ∃ wf, set5 w2 w.heap.size (.int .i64 (n0 : Int)) (.int .u32 (n1 : Int)) (.int .u32 (n2 : Int)) (.int .u32 (n3 : Int)) (.int .u32 (n4 : Int)) = wf := ⟨_, rfl⟩
        have HXF := Lib.hid (HK4.out.set5 (.int .i64 (n0 : Int)) (.int .u32 (n1 : Int)) (.int .u32 (n2 : Int)) (.int .u32 (n3 : Int)) (.int .u32 (n4 : Int)))
        have HBF := Lib.hid (below_set5 HB4.out (Nat.le_refl w.heap.size) (.int .i64 (n0 : Int)) (.int .u32 (n1 : Int)) (.int .u32 (n2 : Int)) (.int .u32 (n3 : Int)) (.int .u32 (n4 : Int)))
        rw [hwf] at HXF HBF
        simp only [set5] at hwf
        rw [hwf]
        clear hwf d0 d1 d2 d3 d4 fr
        have e0 := HXF.out.cell 0
        have e1 := HXF.out.cell 1
        have e2 := HXF.out.cell 2
        have e3 := HXF.out.cell 3
        have e4 := HXF.out.cell 4
        exact bodyPost_ret (v := .tuple #[ptV ((n0 : Int), n1, n2, n3, n4), .int .i64 0]) (by simp [results, Tryd.f30, go_sem, e0, e1, e2, e3, e4]) rfl ⟨rfl, HBF.out⟩
      · have hm2 := HM.out wc
        rw [hP, decide_eq_false h] at hm2
        have hR := HR.out
        rw [hP, if_neg h] at hR
        subst hR
        have HM2 := Lib.hid hm2
        rw [← hP] at HM2
        clear hm2 h
        go_wp2_with (go_at_call 43
                     refine HM2.out.mono ?_
                     rintro ev w2 ⟨rfl, b2⟩
                     have HB4 := Lib.hid (HBx.out.trans (b2.mono HBx.out.size))
                     have HK4 := Lib.hid (HKx.out.below b2 HKx.out.lt)
                     have d0 : w2.cell? ⟨w.heap.size, 0, none⟩ = some (.int .i64 0) := HK4.out.cell 0
                     have d1 : w2.cell? ⟨w.heap.size, 1, none⟩ = some (.int .u32 0) := HK4.out.cell 1
                     have d2 : w2.cell? ⟨w.heap.size, 2, none⟩ = some (.int .u32 0) := HK4.out.cell 2
                     have d3 : w2.cell? ⟨w.heap.size, 3, none⟩ = some (.int .u32 0) := HK4.out.cell 3
                     have d4 : w2.cell? ⟨w.heap.size, 4, none⟩ = some (.int .u32 0) := HK4.out.cell 4
                     have fr : ∀ i, w2.frozen? ⟨w.heap.size, i, none⟩ = false := fun i => HK4.out.frozen i
                     clear b2)
        obtain ⟨wf, hwf⟩ : ∃ wf, set5 w2 w.heap.size (.int .i64 0) (.int .u32 0) (.int .u32 0) (.int .u32 0) (.int .u32 0) = wf := ⟨_, rfl⟩
        have HXF := Lib.hid (HK4.out.set5 (.int .i64 0) (.int .u32 0) (.int .u32 0) (.int .u32 0) (.int .u32 0))
        have HBF := Lib.hid (below_set5 HB4.out (Nat.le_refl w.heap.size) (.int .i64 0) (.int .u32 0) (.int .u32 0) (.int .u32 0) (.int .u32 0))
        rw [hwf] at HXF HBF
        simp only [set5] at hwf
        rw [hwf]
        clear hwf d0 d1 d2 d3 d4 fr
        have e0 := HXF.out.cell 0
        have e1 := HXF.out.cell 1
        have e2 := HXF.out.cell 2
        have e3 := HXF.out.cell 3
        have e4 := HXF.out.cell 4
        exact bodyPost_ret (v := .tuple #[ptV p0, .int .i64 8]) (by simp [results, Tryd.f30, go_sem, e0, e1, e2, e3, e4]) rfl ⟨rfl, HBF.out⟩
  · rw [if_neg h16]
    have hne : ¬ (len : Int) = 16 := by omega
    have d0 : (w.alloc (.cells #[.int .i64 0, .int .u32 0, .int .u32 0, .int .u32 0, .int .u32 0] 42)).cell? ⟨w.heap.size, 0, none⟩ = some (.int .i64 0) := HK.out.cell 0
    have d1 : (w.alloc (.cells #[.int .i64 0, .int .u32 0, .int .u32 0, .int .u32 0, .int .u32 0] 42)).cell? ⟨w.heap.size, 1, none⟩ = some (.int .u32 0) := HK.out.cell 1
    have d2 : (w.alloc (.cells #[.int .i64 0, .int .u32 0, .int .u32 0, .int .u32 0, .int .u32 0] 42)).cell? ⟨w.heap.size, 2, none⟩ = some (.int .u32 0) := HK.out.cell 2
    have d3 : (w.alloc (.cells #[.int .i64 0, .int .u32 0, .int .u32 0, .int .u32 0, .int .u32 0] 42)).cell? ⟨w.heap.size, 3, none⟩ = some (.int .u32 0) := HK.out.cell 3
    have d4 : (w.alloc (.cells #[.int .i64 0, .int .u32 0, .int .u32 0, .int .u32 0, .int .u32 0] 42)).cell? ⟨w.heap.size, 4, none⟩ = some (.int .u32 0) := HK.out.cell 4
    have fr : ∀ i, (w.alloc (.cells #[.int .i64 0, .int .u32 0, .int .u32 0, .int .u32 0, .int .u32 0] 42)).frozen? ⟨w.heap.size, i, none⟩ = false := fun i => HK.out.frozen i
    go_enter Tryd.func30, Tryd.ntmps30
    go_wp2_with fail
    exact bodyPost_ret (v := .tuple #[ptV p0, .int .i64 3]) (by simp [results, Tryd.f30, go_sem, d0, d1, d2, d3, d4]) rfl ⟨rfl, HB1.out⟩
end Go.Proofs.YtennhempdnpobaaDoor
