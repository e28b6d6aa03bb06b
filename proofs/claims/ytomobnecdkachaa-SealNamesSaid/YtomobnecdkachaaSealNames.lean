/-
  SealNamesSaid: the limit's and the error's numbers, and the chapter's examples hold: what was sealed is opened, with another tag it is not; 257 bytes are too many, 15 bytes are no key. No condition.
-/
import Derived.Test.YtomobnecdkachaaRows
import Derived.Test.YtomobnecdkachaaSealAll
import Derived.Test.YtomobnecdkachaaMov
import Derived.Deep.CutRange
import Derived.Deep.DeepCutAuto
namespace Go.Proofs.Ytomobnecdkachaa
open Go.RowKit Go.Shelf
set_option maxRecDepth 100000

set_option maxHeartbeats 4000000 in
theorem sealNames_walk (w : World) : Calls Try.prog 3 #[] w fun e w' => e = .returned (.bool true) ∧ Below w.heap.size w w' := by
  have hmx : Try.prog.follows Departure.mixedOrders = true := by kernel_rfl
  have HB0 := Lib.hid (Below.refl w.heap.size w)
  have mk15 : ∀ W : World, (Instr.makeSlice 22 (.int .i64 15) (.int .i64 15)).run Try.prog W = .ok (.slice (some ⟨W.heap.size, 0, none⟩) 15 15) (W.alloc (.cells (Array.replicate 15 (.int .u8 0)) 5)) := fun W => make_noughts 15 (by omega) W
  have mk16 : ∀ W : World, (Instr.makeSlice 22 (.int .i64 16) (.int .i64 16)).run Try.prog W = .ok (.slice (some ⟨W.heap.size, 0, none⟩) 16 16) (W.alloc (.cells (Array.replicate 16 (.int .u8 0)) 5)) := fun W => make_noughts 16 (by omega) W
  have mk257 : ∀ W : World, (Instr.makeSlice 22 (.int .i64 257) (.int .i64 257)).run Try.prog W = .ok (.slice (some ⟨W.heap.size, 0, none⟩) 257 257) (W.alloc (.cells (Array.replicate 257 (.int .u8 0)) 5)) := fun W => make_noughts 257 (by omega) W
  go_enter Try.func3, Try.ntmps3
  go_wp2_with fail
  go_cut [3] from 9 to 15 (fun v wx => v = .int .i64 3 ∧ Below w.heap.size w wx)
  case first =>
    obtain ⟨wd, hwd⟩ : ∃ wd, w.drew = wd := ⟨_, rfl⟩
    have HBd := Lib.hid (show Below w.heap.size w wd by rw [← hwd]; exact HB0.out.drew)
    refine wpS_start [0, 1, 2, 3, 4, 5, 6, 7, 8, 9] hmx rfl hwd ?_
    clear hwd
    refine wpS_fork rfl rfl (by kernel_rfl) (fun K hK => ?_) (fun K hK => ?_)
    · go_simp
      refine hK _ _ (Stays.of_below ((Below.refl _ wd).alloc (Nat.le_refl _) _)) ?_
      clear hK K
      have HBa := Lib.hid (HBd.out.trans (((Below.refl _ wd).alloc (Nat.le_refl _) (.cells (Array.replicate 16 (.int .u8 0)) 5)).mono HBd.out.size))
      obtain ⟨wa, hwa⟩ : ∃ wa, wd.alloc (.cells (Array.replicate 16 (.int .u8 0)) 5) = wa := ⟨_, rfl⟩
      rw [hwa] at HBa ⊢
      clear hwa
      try simp only [Act.put, List.setIfInBounds_toArray, List.set_cons_zero, List.set_cons_succ]
      refine wpS_lone rfl (by kernel_rfl) (fun K hK => ?_)
      go_simp
      refine hK _ _ (Stays.of_below ((Below.refl _ wa).alloc (Nat.le_refl _) _)) ?_
      clear hK K
      have HBb := Lib.hid (HBa.out.trans (((Below.refl _ wa).alloc (Nat.le_refl _) (.cells (Array.replicate 257 (.int .u8 0)) 5)).mono HBa.out.size))
      obtain ⟨wb, hwb⟩ : ∃ wb, wa.alloc (.cells (Array.replicate 257 (.int .u8 0)) 5) = wb := ⟨_, rfl⟩
      rw [hwb] at HBb ⊢
      clear hwb
      try simp only [Act.put, List.setIfInBounds_toArray, List.set_cons_zero, List.set_cons_succ]
      refine wpS_lone rfl (by kernel_rfl) (fun K hK => ?_)
      go_simp
      refine (Seal_far _ 16 _ _ 257 257 (by omega) wb).mono ?_
      rintro e wc ⟨ac, cc, rfl, _, bc⟩
      refine hK _ _ (Stays.of_below bc) ?_
      clear hK K
      have HBc := Lib.hid (HBb.out.trans (bc.mono HBb.out.size)); clear bc
      try simp only [Act.put, List.setIfInBounds_toArray, List.set_cons_zero, List.set_cons_succ]
      refine wpS_read (v := ?_) rfl (by kernel_rfl) (by kernel_rfl) (by kernel_rfl) (fun _ _ _ h => h) (.inl ⟨by rfl, ?_⟩) ?_
      rotate_left
      · intro W hW
        go_simp
        with_reducible rfl
      try simp only [Act.put, List.setIfInBounds_toArray, List.set_cons_zero, List.set_cons_succ]
      refine wpS_read (v := ?_) rfl (by kernel_rfl) (by kernel_rfl) (by kernel_rfl) (fun _ _ _ h => h) (.inl ⟨by rfl, ?_⟩) ?_
      rotate_left
      · intro W hW
        go_simp
        with_reducible rfl
      try simp only [Act.put, List.setIfInBounds_toArray, List.set_cons_zero, List.set_cons_succ]
      refine wpS_read (v := ?_) rfl (by kernel_rfl) (by kernel_rfl) (by kernel_rfl) (fun _ _ _ h => h) (.inl ⟨by rfl, ?_⟩) ?_
      rotate_left
      · intro W hW
        go_simp
        with_reducible rfl
      try simp only [Act.put, List.setIfInBounds_toArray, List.set_cons_zero, List.set_cons_succ]
      refine wpS_read (v := ?_) rfl (by kernel_rfl) (by kernel_rfl) (by kernel_rfl) (fun _ _ _ h => h) (.inl ⟨by rfl, ?_⟩) ?_
      rotate_left
      · intro W hW
        go_simp
        with_reducible rfl
      try simp only [Act.put, List.setIfInBounds_toArray, List.set_cons_zero, List.set_cons_succ]
      refine wpS_read (v := ?_) rfl (by kernel_rfl) (by kernel_rfl) (by kernel_rfl) (fun _ _ _ h => h) (.inl ⟨by rfl, ?_⟩) ?_
      rotate_left
      · intro W hW
        go_simp
        with_reducible rfl
      try simp only [Act.put, List.setIfInBounds_toArray, List.set_cons_zero, List.set_cons_succ]
      refine wpS_read (v := ?_) rfl (by kernel_rfl) (by kernel_rfl) (by kernel_rfl) (fun _ _ _ h => h) (.inl ⟨by rfl, ?_⟩) ?_
      rotate_left
      · intro W hW
        go_simp
        with_reducible rfl
      try simp only [Act.put, List.setIfInBounds_toArray, List.set_cons_zero, List.set_cons_succ]
      refine wpS_read (v := ?_) rfl (by kernel_rfl) (by kernel_rfl) (by kernel_rfl) (fun _ _ _ h => h) (.inl ⟨by rfl, ?_⟩) ?_
      rotate_left
      · intro W hW
        go_simp
        with_reducible rfl
      try simp only [Act.put, List.setIfInBounds_toArray, List.set_cons_zero, List.set_cons_succ]
      refine wpS_done (by kernel_rfl) ?_
      go_wp2_with fail
      go_meet
      exact ⟨rfl, HBc.out⟩
    · go_simp
      refine hK _ _ (Stays.of_below ((Below.refl _ wd).alloc (Nat.le_refl _) _)) ?_
      clear hK K
      have HBa := Lib.hid (HBd.out.trans (((Below.refl _ wd).alloc (Nat.le_refl _) (.cells (Array.replicate 257 (.int .u8 0)) 5)).mono HBd.out.size))
      obtain ⟨wa, hwa⟩ : ∃ wa, wd.alloc (.cells (Array.replicate 257 (.int .u8 0)) 5) = wa := ⟨_, rfl⟩
      rw [hwa] at HBa ⊢
      clear hwa
      try simp only [Act.put, List.setIfInBounds_toArray, List.set_cons_zero, List.set_cons_succ]
      refine wpS_lone rfl (by kernel_rfl) (fun K hK => ?_)
      go_simp
      refine hK _ _ (Stays.of_below ((Below.refl _ wa).alloc (Nat.le_refl _) _)) ?_
      clear hK K
      have HBb := Lib.hid (HBa.out.trans (((Below.refl _ wa).alloc (Nat.le_refl _) (.cells (Array.replicate 16 (.int .u8 0)) 5)).mono HBa.out.size))
      obtain ⟨wb, hwb⟩ : ∃ wb, wa.alloc (.cells (Array.replicate 16 (.int .u8 0)) 5) = wb := ⟨_, rfl⟩
      rw [hwb] at HBb ⊢
      clear hwb
      try simp only [Act.put, List.setIfInBounds_toArray, List.set_cons_zero, List.set_cons_succ]
      refine wpS_lone rfl (by kernel_rfl) (fun K hK => ?_)
      go_simp
      refine (Seal_far _ 16 _ _ 257 257 (by omega) wb).mono ?_
      rintro e wc ⟨ac, cc, rfl, _, bc⟩
      refine hK _ _ (Stays.of_below bc) ?_
      clear hK K
      have HBc := Lib.hid (HBb.out.trans (bc.mono HBb.out.size)); clear bc
      try simp only [Act.put, List.setIfInBounds_toArray, List.set_cons_zero, List.set_cons_succ]
      refine wpS_read (v := ?_) rfl (by kernel_rfl) (by kernel_rfl) (by kernel_rfl) (fun _ _ _ h => h) (.inl ⟨by rfl, ?_⟩) ?_
      rotate_left
      · intro W hW
        go_simp
        with_reducible rfl
      try simp only [Act.put, List.setIfInBounds_toArray, List.set_cons_zero, List.set_cons_succ]
      refine wpS_read (v := ?_) rfl (by kernel_rfl) (by kernel_rfl) (by kernel_rfl) (fun _ _ _ h => h) (.inl ⟨by rfl, ?_⟩) ?_
      rotate_left
      · intro W hW
        go_simp
        with_reducible rfl
      try simp only [Act.put, List.setIfInBounds_toArray, List.set_cons_zero, List.set_cons_succ]
      refine wpS_read (v := ?_) rfl (by kernel_rfl) (by kernel_rfl) (by kernel_rfl) (fun _ _ _ h => h) (.inl ⟨by rfl, ?_⟩) ?_
      rotate_left
      · intro W hW
        go_simp
        with_reducible rfl
      try simp only [Act.put, List.setIfInBounds_toArray, List.set_cons_zero, List.set_cons_succ]
      refine wpS_read (v := ?_) rfl (by kernel_rfl) (by kernel_rfl) (by kernel_rfl) (fun _ _ _ h => h) (.inl ⟨by rfl, ?_⟩) ?_
      rotate_left
      · intro W hW
        go_simp
        with_reducible rfl
      try simp only [Act.put, List.setIfInBounds_toArray, List.set_cons_zero, List.set_cons_succ]
      refine wpS_read (v := ?_) rfl (by kernel_rfl) (by kernel_rfl) (by kernel_rfl) (fun _ _ _ h => h) (.inl ⟨by rfl, ?_⟩) ?_
      rotate_left
      · intro W hW
        go_simp
        with_reducible rfl
      try simp only [Act.put, List.setIfInBounds_toArray, List.set_cons_zero, List.set_cons_succ]
      refine wpS_read (v := ?_) rfl (by kernel_rfl) (by kernel_rfl) (by kernel_rfl) (fun _ _ _ h => h) (.inl ⟨by rfl, ?_⟩) ?_
      rotate_left
      · intro W hW
        go_simp
        with_reducible rfl
      try simp only [Act.put, List.setIfInBounds_toArray, List.set_cons_zero, List.set_cons_succ]
      refine wpS_read (v := ?_) rfl (by kernel_rfl) (by kernel_rfl) (by kernel_rfl) (fun _ _ _ h => h) (.inl ⟨by rfl, ?_⟩) ?_
      rotate_left
      · intro W hW
        go_simp
        with_reducible rfl
      try simp only [Act.put, List.setIfInBounds_toArray, List.set_cons_zero, List.set_cons_succ]
      refine wpS_done (by kernel_rfl) ?_
      go_wp2_with fail
      go_meet
      exact ⟨rfl, HBc.out⟩
  obtain ⟨rfl, hb⟩ := hcut
  have HB1 := Lib.hid hb; clear hb
  generalize wc = w1 at *
  go_wp2_with fail
  go_cut [6] from 16 to 22 (fun v wx => v = .int .i64 2 ∧ Below w.heap.size w wx)
  case first =>
    obtain ⟨wd, hwd⟩ : ∃ wd, w1.drew = wd := ⟨_, rfl⟩
    have HBd := Lib.hid (show Below w.heap.size w wd by rw [← hwd]; exact HB1.out.drew)
    refine wpS_start [0, 1, 2, 3, 4, 5, 6, 7, 8, 9] hmx rfl hwd ?_
    clear hwd
    refine wpS_fork rfl rfl (by kernel_rfl) (fun K hK => ?_) (fun K hK => ?_)
    · go_simp
      refine hK _ _ (Stays.of_below ((Below.refl _ wd).alloc (Nat.le_refl _) _)) ?_
      clear hK K
      have HBa := Lib.hid (HBd.out.trans (((Below.refl _ wd).alloc (Nat.le_refl _) (.cells (Array.replicate 15 (.int .u8 0)) 5)).mono HBd.out.size))
      obtain ⟨wa, hwa⟩ : ∃ wa, wd.alloc (.cells (Array.replicate 15 (.int .u8 0)) 5) = wa := ⟨_, rfl⟩
      rw [hwa] at HBa ⊢
      clear hwa
      try simp only [Act.put, List.setIfInBounds_toArray, List.set_cons_zero, List.set_cons_succ]
      refine wpS_lone rfl (by kernel_rfl) (fun K hK => ?_)
      go_simp
      refine hK _ _ (Stays.of_below ((Below.refl _ wa).alloc (Nat.le_refl _) _)) ?_
      clear hK K
      have HBb := Lib.hid (HBa.out.trans (((Below.refl _ wa).alloc (Nat.le_refl _) (.cells (Array.replicate 257 (.int .u8 0)) 5)).mono HBa.out.size))
      obtain ⟨wb, hwb⟩ : ∃ wb, wa.alloc (.cells (Array.replicate 257 (.int .u8 0)) 5) = wb := ⟨_, rfl⟩
      rw [hwb] at HBb ⊢
      clear hwb
      try simp only [Act.put, List.setIfInBounds_toArray, List.set_cons_zero, List.set_cons_succ]
      refine wpS_lone rfl (by kernel_rfl) (fun K hK => ?_)
      go_simp
      refine (Seal_key _ 15 15 (by omega) _ _ wb).mono ?_
      rintro e wc ⟨ac, cc, rfl, _, bc⟩
      refine hK _ _ (Stays.of_below bc) ?_
      clear hK K
      have HBc := Lib.hid (HBb.out.trans (bc.mono HBb.out.size)); clear bc
      try simp only [Act.put, List.setIfInBounds_toArray, List.set_cons_zero, List.set_cons_succ]
      refine wpS_read (v := ?_) rfl (by kernel_rfl) (by kernel_rfl) (by kernel_rfl) (fun _ _ _ h => h) (.inl ⟨by rfl, ?_⟩) ?_
      rotate_left
      · intro W hW
        go_simp
        with_reducible rfl
      try simp only [Act.put, List.setIfInBounds_toArray, List.set_cons_zero, List.set_cons_succ]
      refine wpS_read (v := ?_) rfl (by kernel_rfl) (by kernel_rfl) (by kernel_rfl) (fun _ _ _ h => h) (.inl ⟨by rfl, ?_⟩) ?_
      rotate_left
      · intro W hW
        go_simp
        with_reducible rfl
      try simp only [Act.put, List.setIfInBounds_toArray, List.set_cons_zero, List.set_cons_succ]
      refine wpS_read (v := ?_) rfl (by kernel_rfl) (by kernel_rfl) (by kernel_rfl) (fun _ _ _ h => h) (.inl ⟨by rfl, ?_⟩) ?_
      rotate_left
      · intro W hW
        go_simp
        with_reducible rfl
      try simp only [Act.put, List.setIfInBounds_toArray, List.set_cons_zero, List.set_cons_succ]
      refine wpS_read (v := ?_) rfl (by kernel_rfl) (by kernel_rfl) (by kernel_rfl) (fun _ _ _ h => h) (.inl ⟨by rfl, ?_⟩) ?_
      rotate_left
      · intro W hW
        go_simp
        with_reducible rfl
      try simp only [Act.put, List.setIfInBounds_toArray, List.set_cons_zero, List.set_cons_succ]
      refine wpS_read (v := ?_) rfl (by kernel_rfl) (by kernel_rfl) (by kernel_rfl) (fun _ _ _ h => h) (.inl ⟨by rfl, ?_⟩) ?_
      rotate_left
      · intro W hW
        go_simp
        with_reducible rfl
      try simp only [Act.put, List.setIfInBounds_toArray, List.set_cons_zero, List.set_cons_succ]
      refine wpS_read (v := ?_) rfl (by kernel_rfl) (by kernel_rfl) (by kernel_rfl) (fun _ _ _ h => h) (.inl ⟨by rfl, ?_⟩) ?_
      rotate_left
      · intro W hW
        go_simp
        with_reducible rfl
      try simp only [Act.put, List.setIfInBounds_toArray, List.set_cons_zero, List.set_cons_succ]
      refine wpS_read (v := ?_) rfl (by kernel_rfl) (by kernel_rfl) (by kernel_rfl) (fun _ _ _ h => h) (.inl ⟨by rfl, ?_⟩) ?_
      rotate_left
      · intro W hW
        go_simp
        with_reducible rfl
      try simp only [Act.put, List.setIfInBounds_toArray, List.set_cons_zero, List.set_cons_succ]
      refine wpS_done (by kernel_rfl) ?_
      go_wp2_with fail
      go_meet
      exact ⟨rfl, HBc.out⟩
    · go_simp
      refine hK _ _ (Stays.of_below ((Below.refl _ wd).alloc (Nat.le_refl _) _)) ?_
      clear hK K
      have HBa := Lib.hid (HBd.out.trans (((Below.refl _ wd).alloc (Nat.le_refl _) (.cells (Array.replicate 257 (.int .u8 0)) 5)).mono HBd.out.size))
      obtain ⟨wa, hwa⟩ : ∃ wa, wd.alloc (.cells (Array.replicate 257 (.int .u8 0)) 5) = wa := ⟨_, rfl⟩
      rw [hwa] at HBa ⊢
      clear hwa
      try simp only [Act.put, List.setIfInBounds_toArray, List.set_cons_zero, List.set_cons_succ]
      refine wpS_lone rfl (by kernel_rfl) (fun K hK => ?_)
      go_simp
      refine hK _ _ (Stays.of_below ((Below.refl _ wa).alloc (Nat.le_refl _) _)) ?_
      clear hK K
      have HBb := Lib.hid (HBa.out.trans (((Below.refl _ wa).alloc (Nat.le_refl _) (.cells (Array.replicate 15 (.int .u8 0)) 5)).mono HBa.out.size))
      obtain ⟨wb, hwb⟩ : ∃ wb, wa.alloc (.cells (Array.replicate 15 (.int .u8 0)) 5) = wb := ⟨_, rfl⟩
      rw [hwb] at HBb ⊢
      clear hwb
      try simp only [Act.put, List.setIfInBounds_toArray, List.set_cons_zero, List.set_cons_succ]
      refine wpS_lone rfl (by kernel_rfl) (fun K hK => ?_)
      go_simp
      refine (Seal_key _ 15 15 (by omega) _ _ wb).mono ?_
      rintro e wc ⟨ac, cc, rfl, _, bc⟩
      refine hK _ _ (Stays.of_below bc) ?_
      clear hK K
      have HBc := Lib.hid (HBb.out.trans (bc.mono HBb.out.size)); clear bc
      try simp only [Act.put, List.setIfInBounds_toArray, List.set_cons_zero, List.set_cons_succ]
      refine wpS_read (v := ?_) rfl (by kernel_rfl) (by kernel_rfl) (by kernel_rfl) (fun _ _ _ h => h) (.inl ⟨by rfl, ?_⟩) ?_
      rotate_left
      · intro W hW
        go_simp
        with_reducible rfl
      try simp only [Act.put, List.setIfInBounds_toArray, List.set_cons_zero, List.set_cons_succ]
      refine wpS_read (v := ?_) rfl (by kernel_rfl) (by kernel_rfl) (by kernel_rfl) (fun _ _ _ h => h) (.inl ⟨by rfl, ?_⟩) ?_
      rotate_left
      · intro W hW
        go_simp
        with_reducible rfl
      try simp only [Act.put, List.setIfInBounds_toArray, List.set_cons_zero, List.set_cons_succ]
      refine wpS_read (v := ?_) rfl (by kernel_rfl) (by kernel_rfl) (by kernel_rfl) (fun _ _ _ h => h) (.inl ⟨by rfl, ?_⟩) ?_
      rotate_left
      · intro W hW
        go_simp
        with_reducible rfl
      try simp only [Act.put, List.setIfInBounds_toArray, List.set_cons_zero, List.set_cons_succ]
      refine wpS_read (v := ?_) rfl (by kernel_rfl) (by kernel_rfl) (by kernel_rfl) (fun _ _ _ h => h) (.inl ⟨by rfl, ?_⟩) ?_
      rotate_left
      · intro W hW
        go_simp
        with_reducible rfl
      try simp only [Act.put, List.setIfInBounds_toArray, List.set_cons_zero, List.set_cons_succ]
      refine wpS_read (v := ?_) rfl (by kernel_rfl) (by kernel_rfl) (by kernel_rfl) (fun _ _ _ h => h) (.inl ⟨by rfl, ?_⟩) ?_
      rotate_left
      · intro W hW
        go_simp
        with_reducible rfl
      try simp only [Act.put, List.setIfInBounds_toArray, List.set_cons_zero, List.set_cons_succ]
      refine wpS_read (v := ?_) rfl (by kernel_rfl) (by kernel_rfl) (by kernel_rfl) (fun _ _ _ h => h) (.inl ⟨by rfl, ?_⟩) ?_
      rotate_left
      · intro W hW
        go_simp
        with_reducible rfl
      try simp only [Act.put, List.setIfInBounds_toArray, List.set_cons_zero, List.set_cons_succ]
      refine wpS_read (v := ?_) rfl (by kernel_rfl) (by kernel_rfl) (by kernel_rfl) (fun _ _ _ h => h) (.inl ⟨by rfl, ?_⟩) ?_
      rotate_left
      · intro W hW
        go_simp
        with_reducible rfl
      try simp only [Act.put, List.setIfInBounds_toArray, List.set_cons_zero, List.set_cons_succ]
      refine wpS_done (by kernel_rfl) ?_
      go_wp2_with fail
      go_meet
      exact ⟨rfl, HBc.out⟩
  obtain ⟨rfl, hb⟩ := hcut
  have HB2 := Lib.hid hb; clear hb
  generalize wc = w2 at *
  go_wp2_with fail
  go_cut [8] from 23 to 28 (fun v wx => v = .int .i64 3 ∧ Below w.heap.size w wx)
  case first =>
    obtain ⟨wd, hwd⟩ : ∃ wd, w2.drew = wd := ⟨_, rfl⟩
    have HBd := Lib.hid (show Below w.heap.size w wd by rw [← hwd]; exact HB2.out.drew)
    refine wpS_start [0, 1, 2, 3, 4, 5, 6, 7] hmx rfl hwd ?_
    clear hwd
    refine wpS_fork rfl rfl (by kernel_rfl) (fun K hK => ?_) (fun K hK => ?_)
    · go_simp
      refine hK _ _ (Stays.of_below ((Below.refl _ wd).alloc (Nat.le_refl _) _)) ?_
      clear hK K
      have HBa := Lib.hid (HBd.out.trans (((Below.refl _ wd).alloc (Nat.le_refl _) (.cells (Array.replicate 16 (.int .u8 0)) 5)).mono HBd.out.size))
      obtain ⟨wa, hwa⟩ : ∃ wa, wd.alloc (.cells (Array.replicate 16 (.int .u8 0)) 5) = wa := ⟨_, rfl⟩
      rw [hwa] at HBa ⊢
      clear hwa
      try simp only [Act.put, List.setIfInBounds_toArray, List.set_cons_zero, List.set_cons_succ]
      refine wpS_lone rfl (by kernel_rfl) (fun K hK => ?_)
      go_simp
      refine hK _ _ (Stays.of_below ((Below.refl _ wa).alloc (Nat.le_refl _) _)) ?_
      clear hK K
      have HBb := Lib.hid (HBa.out.trans (((Below.refl _ wa).alloc (Nat.le_refl _) (.cells (Array.replicate 257 (.int .u8 0)) 5)).mono HBa.out.size))
      obtain ⟨wb, hwb⟩ : ∃ wb, wa.alloc (.cells (Array.replicate 257 (.int .u8 0)) 5) = wb := ⟨_, rfl⟩
      rw [hwb] at HBb ⊢
      clear hwb
      try simp only [Act.put, List.setIfInBounds_toArray, List.set_cons_zero, List.set_cons_succ]
      refine wpS_lone rfl (by kernel_rfl) (fun K hK => ?_)
      go_simp
      refine (Open_far _ 16 _ _ _ 257 257 (by omega) wb).mono ?_
      rintro e wc ⟨ac, cc, rfl, _, bc⟩
      refine hK _ _ (Stays.of_below bc) ?_
      clear hK K
      have HBc := Lib.hid (HBb.out.trans (bc.mono HBb.out.size)); clear bc
      try simp only [Act.put, List.setIfInBounds_toArray, List.set_cons_zero, List.set_cons_succ]
      refine wpS_read (v := ?_) rfl (by kernel_rfl) (by kernel_rfl) (by kernel_rfl) (fun _ _ _ h => h) (.inl ⟨by rfl, ?_⟩) ?_
      rotate_left
      · intro W hW
        go_simp
        with_reducible rfl
      try simp only [Act.put, List.setIfInBounds_toArray, List.set_cons_zero, List.set_cons_succ]
      refine wpS_read (v := ?_) rfl (by kernel_rfl) (by kernel_rfl) (by kernel_rfl) (fun _ _ _ h => h) (.inl ⟨by rfl, ?_⟩) ?_
      rotate_left
      · intro W hW
        go_simp
        with_reducible rfl
      try simp only [Act.put, List.setIfInBounds_toArray, List.set_cons_zero, List.set_cons_succ]
      refine wpS_read (v := ?_) rfl (by kernel_rfl) (by kernel_rfl) (by kernel_rfl) (fun _ _ _ h => h) (.inl ⟨by rfl, ?_⟩) ?_
      rotate_left
      · intro W hW
        go_simp
        with_reducible rfl
      try simp only [Act.put, List.setIfInBounds_toArray, List.set_cons_zero, List.set_cons_succ]
      refine wpS_read (v := ?_) rfl (by kernel_rfl) (by kernel_rfl) (by kernel_rfl) (fun _ _ _ h => h) (.inl ⟨by rfl, ?_⟩) ?_
      rotate_left
      · intro W hW
        go_simp
        with_reducible rfl
      try simp only [Act.put, List.setIfInBounds_toArray, List.set_cons_zero, List.set_cons_succ]
      refine wpS_read (v := ?_) rfl (by kernel_rfl) (by kernel_rfl) (by kernel_rfl) (fun _ _ _ h => h) (.inl ⟨by rfl, ?_⟩) ?_
      rotate_left
      · intro W hW
        go_simp
        with_reducible rfl
      try simp only [Act.put, List.setIfInBounds_toArray, List.set_cons_zero, List.set_cons_succ]
      refine wpS_done (by kernel_rfl) ?_
      go_wp2_with fail
      go_meet
      exact ⟨rfl, HBc.out⟩
    · go_simp
      refine hK _ _ (Stays.of_below ((Below.refl _ wd).alloc (Nat.le_refl _) _)) ?_
      clear hK K
      have HBa := Lib.hid (HBd.out.trans (((Below.refl _ wd).alloc (Nat.le_refl _) (.cells (Array.replicate 257 (.int .u8 0)) 5)).mono HBd.out.size))
      obtain ⟨wa, hwa⟩ : ∃ wa, wd.alloc (.cells (Array.replicate 257 (.int .u8 0)) 5) = wa := ⟨_, rfl⟩
      rw [hwa] at HBa ⊢
      clear hwa
      try simp only [Act.put, List.setIfInBounds_toArray, List.set_cons_zero, List.set_cons_succ]
      refine wpS_lone rfl (by kernel_rfl) (fun K hK => ?_)
      go_simp
      refine hK _ _ (Stays.of_below ((Below.refl _ wa).alloc (Nat.le_refl _) _)) ?_
      clear hK K
      have HBb := Lib.hid (HBa.out.trans (((Below.refl _ wa).alloc (Nat.le_refl _) (.cells (Array.replicate 16 (.int .u8 0)) 5)).mono HBa.out.size))
      obtain ⟨wb, hwb⟩ : ∃ wb, wa.alloc (.cells (Array.replicate 16 (.int .u8 0)) 5) = wb := ⟨_, rfl⟩
      rw [hwb] at HBb ⊢
      clear hwb
      try simp only [Act.put, List.setIfInBounds_toArray, List.set_cons_zero, List.set_cons_succ]
      refine wpS_lone rfl (by kernel_rfl) (fun K hK => ?_)
      go_simp
      refine (Open_far _ 16 _ _ _ 257 257 (by omega) wb).mono ?_
      rintro e wc ⟨ac, cc, rfl, _, bc⟩
      refine hK _ _ (Stays.of_below bc) ?_
      clear hK K
      have HBc := Lib.hid (HBb.out.trans (bc.mono HBb.out.size)); clear bc
      try simp only [Act.put, List.setIfInBounds_toArray, List.set_cons_zero, List.set_cons_succ]
      refine wpS_read (v := ?_) rfl (by kernel_rfl) (by kernel_rfl) (by kernel_rfl) (fun _ _ _ h => h) (.inl ⟨by rfl, ?_⟩) ?_
      rotate_left
      · intro W hW
        go_simp
        with_reducible rfl
      try simp only [Act.put, List.setIfInBounds_toArray, List.set_cons_zero, List.set_cons_succ]
      refine wpS_read (v := ?_) rfl (by kernel_rfl) (by kernel_rfl) (by kernel_rfl) (fun _ _ _ h => h) (.inl ⟨by rfl, ?_⟩) ?_
      rotate_left
      · intro W hW
        go_simp
        with_reducible rfl
      try simp only [Act.put, List.setIfInBounds_toArray, List.set_cons_zero, List.set_cons_succ]
      refine wpS_read (v := ?_) rfl (by kernel_rfl) (by kernel_rfl) (by kernel_rfl) (fun _ _ _ h => h) (.inl ⟨by rfl, ?_⟩) ?_
      rotate_left
      · intro W hW
        go_simp
        with_reducible rfl
      try simp only [Act.put, List.setIfInBounds_toArray, List.set_cons_zero, List.set_cons_succ]
      refine wpS_read (v := ?_) rfl (by kernel_rfl) (by kernel_rfl) (by kernel_rfl) (fun _ _ _ h => h) (.inl ⟨by rfl, ?_⟩) ?_
      rotate_left
      · intro W hW
        go_simp
        with_reducible rfl
      try simp only [Act.put, List.setIfInBounds_toArray, List.set_cons_zero, List.set_cons_succ]
      refine wpS_read (v := ?_) rfl (by kernel_rfl) (by kernel_rfl) (by kernel_rfl) (fun _ _ _ h => h) (.inl ⟨by rfl, ?_⟩) ?_
      rotate_left
      · intro W hW
        go_simp
        with_reducible rfl
      try simp only [Act.put, List.setIfInBounds_toArray, List.set_cons_zero, List.set_cons_succ]
      refine wpS_done (by kernel_rfl) ?_
      go_wp2_with fail
      go_meet
      exact ⟨rfl, HBc.out⟩
  obtain ⟨rfl, hb⟩ := hcut
  have HB3 := Lib.hid hb; clear hb
  generalize wc = w3 at *
  go_wp2_with fail
  refine (alive_seal _).mono ?_
  rintro e w4 ⟨rfl, b4⟩
  have HB4 := Lib.hid (HB3.out.trans (b4.mono HB3.out.size)); clear b4
  go_wp2_with fail
  go_ret
  exact ⟨rfl, HB4.out⟩
end Go.Proofs.Ytomobnecdkachaa

namespace Go.Proofs.Ytomobnecdkachaa.sealNames
open Go.ChangeShapes Go.WideShapes Go.ChangeAt Go.RowKit
set_option linter.unusedVariables false

theorem own : ownKnob Try.prog.godebug = none := by kernel_rfl
theorem laidOut : laidOutB Try.prog = true := by kernel_rfl

set_option maxRecDepth 100000 in
theorem lifted (os : Os) (started : os.Started) (H : Type) (enc : TypeId × Value → H) :
    ReturnsInHanded {} Try.checked os 3 .any (Rows.sealNamesSpec.pre6 enc Try.prog Try.f3 Rows.sealNamesRow.domain false) (Rows.sealNamesSpec.post enc Try.prog Try.f3 false true false false) := by
  refine returnsInHanded_of_change (C := Try.checked) own started (by kernel_rfl) Try.func3
    (ChangeSpec.witness6 (enc := enc) (C := Try.checked) false ⟨#[], #[], []⟩ 8 (by kernel_rfl) (by kernel_rfl) (by kernel_rfl) (by kernel_rfl)) ?_
  intro W base args ds gs before hval0 hW hcnd _
  have hval : ∀ (j : Nat) t v, Try.f3.params[j]? = some t → args[j]? = some v → Value.okWide Try.prog W .any base t v := hval0
  have hW' := hW
  obtain ⟨p, q, hA0, hV, rfl, hfz, hnd⟩ := hW
  have hA : DataW.TrodAll enc Try.prog W 0 (fun _ => true) true Try.f3.params.toList args.toList ds p := hA0
  rw [Try.params3] at hA hval
  obtain ⟨rfl, rfl, rfl⟩ := trodAll_none hA
  obtain ⟨rfl, rfl⟩ := trodVars_none hV
  clear hA0 hval0
  refine (sealNames_walk  W).mono fun e W' ⟨he, bel⟩ => ?_
  subst he
  exact ⟨_, rfl, _, _, _, [], _, [], hW', trodAll_mk1 (shut_bool Try.underlying4 _), rfl, rfl, bel.frame _, fun h => by cases h⟩

theorem over : Rows.sealNamesRow.holds Try.pinned (OpenSpec.ofChange Rows.sealNamesSpec) :=
  OpenClaim.holds_of_wide 3 Try.f3 rfl rfl rfl rfl rfl rfl rfl ⟨rfl, rfl, rfl, rfl, rfl⟩ rfl rfl rfl rfl rfl (by kernel_rfl) Try.func3 (by kernel_rfl)
    (of_decide_eq_true (by kernel_rfl)) (by unfold Func.isWrapper; first | (rw [if_pos (by decide +kernel)]; kernel_rfl) | (rw [if_neg (by decide +kernel)]; exact ⟨rfl, rfl⟩))
    (fun os started H enc _ => lifted os started H enc)

/-- The statement. -/
theorem proved : Rows.SealNamesSaid := over
end Go.Proofs.Ytomobnecdkachaa.sealNames
