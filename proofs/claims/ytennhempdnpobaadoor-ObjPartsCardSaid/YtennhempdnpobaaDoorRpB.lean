/-
  The document's own Bytes and Write of pointers.
-/
import Derived.Test.YtennhempdnpobaaDoorRpA
import Derived.Test.YtennhempdnpobaaDoorMovP
import Derived.Deep.CutRange
import Derived.Deep.DeepCutAuto
namespace Go.Proofs.YtennhempdnpobaaDoor
open Go.RowKit Go.Shelf
set_option maxRecDepth 100000

set_option maxHeartbeats 2000000 in
theorem rpBytes_any (p : Pt) (hw : WfP p) (hroom : (0 ≤ p.1 ∧ p.1 < 256) ∧ p.2.1 < 16777216) (w : World) : Calls Tryd.prog 44 #[ptV p] w (OwnV 16 (bytesP p) w) := by
  obtain ⟨a, b, c, d, e⟩ := p
  obtain ⟨_, h3', h4, h5, h6⟩ := hw
  obtain ⟨⟨h1, h2⟩, h3⟩ := hroom
  dsimp only at h1 h2 h3 h3' h4 h5 h6
  obtain ⟨A, rfl⟩ := Int.eq_ofNat_of_zero_le h1
  have hmx : Tryd.prog.follows Departure.mixedOrders = true := by kernel_rfl
  have q0 : (0 : Int) ≤ A := by omega
  have q1 : (A : Int) ≤ 255 := by omega
  have HN1 := Lib.hid (fun W => rpNumber_any b 3 (by omega) (by omega) W)
  have HN2 := Lib.hid (fun W => rpNumber_any c 4 (by omega) (by omega) W)
  have HN3 := Lib.hid (fun W => rpNumber_any d 4 (by omega) (by omega) W)
  have HN4 := Lib.hid (fun W => rpNumber_any e 4 (by omega) (by omega) W)
  have HB := Lib.hid ((Below.refl _ w).alloc (Nat.le_refl _) (.cells #[.int .i64 (A : Int), .int .u32 (b : Int), .int .u32 (c : Int), .int .u32 (d : Int), .int .u32 (e : Int)] 42))
  have HK := Lib.hid (Blk.new w 42 #[.int .i64 (A : Int), .int .u32 (b : Int), .int .u32 (c : Int), .int .u32 (d : Int), .int .u32 (e : Int)])
  have eA : (((UInt8.ofNat A).toNat : Nat) : Int) = (A : Int) := by simp; omega
  have eW : IntKind.u8.wrap (A : Int) = (A : Int) := by simp [IntKind.wrap, IntKind.bits, IntKind.signed]; omega
  have eL : leB 1 A ++ leB 3 b = [UInt8.ofNat A] ++ leB 3 b := by
    have hb : byteAt A 0 = UInt8.ofNat A := UInt8.toNat_inj.1 (by rw [byteAt_toNat]; simp)
    rw [← hb]
    rfl
  go_enter Tryd.func44, Tryd.ntmps44
  go_wp2_with fail
  go_cut [3] from 4 to 11 (fun v wx => wx.ownsRow (w.heap.size + 1) 5 1 v 4 (vals (leB 1 A ++ leB 3 b)) ∧ Below w.heap.size w wx ∧ Blk wx w.heap.size 42 #[.int .i64 (A : Int), .int .u32 (b : Int), .int .u32 (c : Int), .int .u32 (d : Int), .int .u32 (e : Int)])
  case first =>
    obtain ⟨wd, hwd⟩ : ∃ wd, (w.alloc (Obj.cells #[.int .i64 (A : Int), .int .u32 (b : Int), .int .u32 (c : Int), .int .u32 (d : Int), .int .u32 (e : Int)] 42)).drew = wd := ⟨_, rfl⟩
    have HBd := Lib.hid (show Below w.heap.size w wd by rw [← hwd]; exact HB.out.drew)
    have HKd := Lib.hid (show Blk wd w.heap.size 42 #[.int .i64 (A : Int), .int .u32 (b : Int), .int .u32 (c : Int), .int .u32 (d : Int), .int .u32 (e : Int)] by rw [← hwd]; exact HK.out.drew)
    have HZd := Lib.hid (show wd.heap.size = w.heap.size + 1 by rw [← hwd]; simp)
    have c0 := HKd.out.cell 0
    have c1 := HKd.out.cell 1
    have C0 := fun X (hX : Below wd.heap.size wd X) => (hX.cell (p := ⟨w.heap.size, 0, none⟩) (World.block_lt_of_cell? wd _ c0)).trans c0
    have C1 := fun X (hX : Below wd.heap.size wd X) => (hX.cell (p := ⟨w.heap.size, 1, none⟩) (World.block_lt_of_cell? wd _ c1)).trans c1
    have hbwd : Below wd.heap.size wd wd := Below.refl _ _
    clear c0 c1
    refine wpI_start (Below wd.heap.size wd) [0, 1, 2, 4, 5, 3, 6, 7, 8] hmx rfl hwd ?_
    clear hwd
    iterate 5 (
      refine wpI_read (v := ?_) hbwd rfl (by kernel_rfl) (by kernel_rfl) (by kernel_rfl) (fun _ _ _ h => h) (.inl ⟨by rfl, ?_⟩) ?_
      rotate_left
      · intro X hX
        have hXa := C0 X hX
        have hXb := C1 X hX
        clear hX
        go_simp
        with_reducible rfl
      try simp only [Act.put, List.setIfInBounds_toArray, List.set_cons_zero, List.set_cons_succ])
    clear C0 C1
    refine wpI_fork rfl rfl (by kernel_rfl) (fun K hK => ?_) (fun K hK => ?_)
    · go_simp
      have hbA := (Below.refl wd.heap.size wd).alloc (Nat.le_refl _) (.cells #[.int .u8 (A : Int)] 5)
      have hoA := one_own wd (UInt8.ofNat A)
      rw [eA] at hoA
      obtain ⟨wa, hwa⟩ : ∃ wa, wd.alloc (.cells #[.int .u8 (A : Int)] 5) = wa := ⟨_, rfl⟩
      obtain ⟨gb, hgb⟩ : ∃ gb, wd.heap.size = gb := ⟨_, rfl⟩
      rw [hwa] at hbA hoA ⊢
      rw [hgb] at hoA ⊢
      refine hK _ _ hbA ?_
      clear hK K hwa
      try simp only [Act.put, List.setIfInBounds_toArray, List.set_cons_zero, List.set_cons_succ]
      refine wpI_lone rfl (by kernel_rfl) (fun K hK => ?_)
      go_simp
      refine (HN1.out wa).mono ?_
      rintro ev wb ⟨vb, rfl, hob, hbb⟩
      have hbB := hbA.trans (hbb.mono hbA.size)
      have hoB := own_below hoA hbb
      refine hK _ _ hbB ?_
      clear hK K hoA
      try simp only [Act.put, List.setIfInBounds_toArray, List.set_cons_zero, List.set_cons_succ]
      obtain ⟨Ab, Cb, rfl, hsb⟩ := own_to hob
      refine wpI_app_own rfl (by kernel_rfl) rfl (.tmp 7) (.tmp 10) rfl gb _ 1 _ rfl hoB _ Ab 3 Cb (leB 3 b) rfl hsb (by omega) (by have := hbB.size; have := hoB.lt gb rfl; omega) ?_
      intro v3 w3 ho3 hg3
      have hg3' : wb.grownBy w3 (some gb) := hg3
      have hgl : wd.heap.size ≤ gb := by have := hbA.size; omega
      have hb3 := below_only hbB hgl hg3' hbB.size
      refine ⟨hb3, ?_⟩
      try simp only [Act.put, List.setIfInBounds_toArray, List.set_cons_zero, List.set_cons_succ]
      iterate 1 (
        refine wpI_read (v := ?_) hb3 rfl (by kernel_rfl) (by kernel_rfl) (by kernel_rfl) (fun _ _ _ h => h) (.inl ⟨by rfl, ?_⟩) ?_
        rotate_left
        · intro X hX
          clear hX
          go_simp
          with_reducible rfl
        try simp only [Act.put, List.setIfInBounds_toArray, List.set_cons_zero, List.set_cons_succ])
      refine wpI_done (by kernel_rfl) ?_
      go_wp2_with fail
      go_meet
      refine ⟨?_, HBd.out.trans (hb3.mono HBd.out.size), HKd.out.below hb3 HKd.out.lt⟩
      rw [eL]
      exact own_mono ho3 (by have := HZd.out; omega)
    · go_simp
      refine (HN1.out wd).mono ?_
      rintro ev wa ⟨vb, rfl, hob, hbb⟩
      have hbA : Below wd.heap.size wd wa := hbb
      refine hK _ _ hbA ?_
      clear hK K
      try simp only [Act.put, List.setIfInBounds_toArray, List.set_cons_zero, List.set_cons_succ]
      refine wpI_lone rfl (by kernel_rfl) (fun K hK => ?_)
      go_simp
      have hoB := one_own wa (UInt8.ofNat A)
      rw [eA] at hoB
      have hbn := (Below.refl wa.heap.size wa).alloc (Nat.le_refl _) (.cells #[.int .u8 (A : Int)] 5)
      obtain ⟨wb, hwb⟩ : ∃ wb, wa.alloc (.cells #[.int .u8 (A : Int)] 5) = wb := ⟨_, rfl⟩
      obtain ⟨gb, hgb⟩ : ∃ gb, wa.heap.size = gb := ⟨_, rfl⟩
      rw [hwb] at hoB hbn ⊢
      rw [hgb] at hoB ⊢
      have hbB := hbA.trans (hbn.mono hbA.size)
      refine hK _ _ hbB ?_
      clear hK K hwb
      try simp only [Act.put, List.setIfInBounds_toArray, List.set_cons_zero, List.set_cons_succ]
      obtain ⟨Ab, Cb, rfl, hsb0⟩ := own_to hob
      have hsb := hsb0.step hbn
      refine wpI_app_own rfl (by kernel_rfl) rfl (.tmp 7) (.tmp 10) rfl gb _ 1 _ rfl hoB _ Ab 3 Cb (leB 3 b) rfl hsb (by omega) (by have := hbB.size; have := hoB.lt gb rfl; omega) ?_
      intro v3 w3 ho3 hg3
      have hg3' : wb.grownBy w3 (some gb) := hg3
      have hgl : wd.heap.size ≤ gb := by have := hbA.size; omega
      have hb3 := below_only hbB hgl hg3' hbB.size
      refine ⟨hb3, ?_⟩
      try simp only [Act.put, List.setIfInBounds_toArray, List.set_cons_zero, List.set_cons_succ]
      iterate 1 (
        refine wpI_read (v := ?_) hb3 rfl (by kernel_rfl) (by kernel_rfl) (by kernel_rfl) (fun _ _ _ h => h) (.inl ⟨by rfl, ?_⟩) ?_
        rotate_left
        · intro X hX
          clear hX
          go_simp
          with_reducible rfl
        try simp only [Act.put, List.setIfInBounds_toArray, List.set_cons_zero, List.set_cons_succ])
      refine wpI_done (by kernel_rfl) ?_
      go_wp2_with fail
      go_meet
      refine ⟨?_, HBd.out.trans (hb3.mono HBd.out.size), HKd.out.below hb3 HKd.out.lt⟩
      rw [eL]
      exact own_mono ho3 (by have := HZd.out; omega)
  case rest =>
    obtain ⟨ho1, hb1, hk1⟩ := hcut
    obtain ⟨c0, c1, c2, c3, c4⟩ := hk1.five
    have HO1 := Lib.hid ho1
    have HB1 := Lib.hid hb1
    have HK1 := Lib.hid hk1
    have HS1 := Lib.hid (show w.heap.size + 1 ≤ wc.heap.size from hk1.lt)
    clear ho1 hb1 hk1
    obtain ⟨v, hv⟩ : ∃ v : Value, u3 = v := ⟨_, rfl⟩
    rw [hv] at HO1 ⊢
    clear hv
    go_wp2_with fail
    refine (HN2.out wc).mono ?_
    rintro ev w2a ⟨x2, rfl, o2, b2⟩
    obtain ⟨A2, C2, rfl, s2⟩ := own_to o2
    have HS2 := Lib.hid s2
    have HOa2 := Lib.hid (own_below HO1.out b2)
    have HBa2 := Lib.hid (HB1.out.trans (b2.mono HB1.out.size))
    have HKa2 := Lib.hid (HK1.out.below b2 HK1.out.lt)
    clear s2 o2 b2 c0 c1 c2 c3 c4
    go_wp2_with (at_builtin
                 refine wpList_append_bsl rfl (.tmp 12) (.tmp 15) rfl (w.heap.size + 1) v 4 _ rfl HOa2.out w2a.heap.size A2 4 C2 (leB 4 c) rfl HS2.out (by omega) (by have := HKa2.out.lt; omega) ?_
                 intro v2 w2b h2 hgr2
                 have HO2 := Lib.hid h2
                 have HB2 := Lib.hid (HBa2.out.grown hgr2 HBa2.out.size (fun r hr => by have := (HOa2.out.lt r hr).1; omega))
                 have HK2 := Lib.hid (HKa2.out.grown hgr2 (fun er => by have := (HOa2.out.lt _ er.symm).1; omega))
                 obtain ⟨c0, c1, c2, c3, c4⟩ := HK2.out.five
                 clear h2 hgr2)
    go_wp2_with fail
    refine (HN3.out w2b).mono ?_
    rintro ev w3a ⟨x3, rfl, o3, b3⟩
    obtain ⟨A3, C3, rfl, s3⟩ := own_to o3
    have HS3 := Lib.hid s3
    have HOa3 := Lib.hid (own_below HO2.out b3)
    have HBa3 := Lib.hid (HB2.out.trans (b3.mono HB2.out.size))
    have HKa3 := Lib.hid (HK2.out.below b3 HK2.out.lt)
    clear s3 o3 b3 c0 c1 c2 c3 c4
    go_wp2_with (at_builtin
                 refine wpList_append_bsl rfl (.tmp 17) (.tmp 20) rfl (w.heap.size + 1) v2 8 _ rfl HOa3.out w3a.heap.size A3 4 C3 (leB 4 d) rfl HS3.out (by omega) (by have := HKa3.out.lt; omega) ?_
                 intro v3 w3b h3 hgr3
                 have HO3 := Lib.hid h3
                 have HB3 := Lib.hid (HBa3.out.grown hgr3 HBa3.out.size (fun r hr => by have := (HOa3.out.lt r hr).1; omega))
                 have HK3 := Lib.hid (HKa3.out.grown hgr3 (fun er => by have := (HOa3.out.lt _ er.symm).1; omega))
                 obtain ⟨c0, c1, c2, c3, c4⟩ := HK3.out.five
                 clear h3 hgr3)
    go_wp2_with fail
    refine (HN4.out w3b).mono ?_
    rintro ev w4a ⟨x4, rfl, o4, b4⟩
    obtain ⟨A4, C4, rfl, s4⟩ := own_to o4
    have HS4 := Lib.hid s4
    have HOa4 := Lib.hid (own_below HO3.out b4)
    have HBa4 := Lib.hid (HB3.out.trans (b4.mono HB3.out.size))
    have HKa4 := Lib.hid (HK3.out.below b4 HK3.out.lt)
    clear s4 o4 b4 c0 c1 c2 c3 c4
    go_wp2_with (at_builtin
                 refine wpList_append_bsl rfl (.tmp 22) (.tmp 25) rfl (w.heap.size + 1) v3 12 _ rfl HOa4.out w4a.heap.size A4 4 C4 (leB 4 e) rfl HS4.out (by omega) (by have := HKa4.out.lt; omega) ?_
                 intro v4 w4b h4 hgr4
                 have HO4 := Lib.hid h4
                 have HB4 := Lib.hid (HBa4.out.grown hgr4 HBa4.out.size (fun r hr => by have := (HOa4.out.lt r hr).1; omega))
                 have HK4 := Lib.hid (HKa4.out.grown hgr4 (fun er => by have := (HOa4.out.lt _ er.symm).1; omega))
                 obtain ⟨c0, c1, c2, c3, c4⟩ := HK4.out.five
                 clear h4 hgr4)
    go_ret
    refine ⟨v4, rfl, ?_, HB4.out⟩
    have := HO4.out
    have ea : ((A : Int)).toNat = A := by omega
    simp only [bytesP, ea]
    simp only [List.append_assoc] at this ⊢
    exact own_mono this (by omega)
end Go.Proofs.YtennhempdnpobaaDoor
