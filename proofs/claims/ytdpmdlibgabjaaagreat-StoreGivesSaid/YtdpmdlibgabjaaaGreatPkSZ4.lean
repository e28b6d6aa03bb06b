/-
  Texts of one seat, one behind the other.
-/
import Derived.OwnWalk
import Derived.Deep.RegionWith
import Derived.ChangeKeysEq
import Derived.Test.YtdpmdlibgabjaaaGreatPkSZ3
/-
  The closure that tells the free blocks, called: the next one from its place on, or none.
-/
namespace Go.Proofs.YtdpmdlibgabjaaaGreat
open Go.RowKit Go.Shelf
set_option maxRecDepth 100000

/-- The number that a block keeps. -/
def keptAt (w : World) (g : Nat) : Nat := (intOf ((w.cell? ⟨g, 0, none⟩).getD undef)).toNat
theorem keptAt_blk {w : World} {g t k : Nat} (h : Blk w g t #[.int .i64 (k : Int)]) : keptAt w g = k := by
  unfold keptAt
  rw [h.cell 0]
  simp [intOf]
set_option maxHeartbeats 1000000 in
theorem spNext_some (gp gs B : Nat) (a : Option Addr) (n c : Nat) (s : List UInt8) (p k : Nat) (w : World) (hp : Blk w gp 3 #[.int .i64 (p : Int)]) (hs : Blk w gs 26 #[.slice a n c]) (hne : gp ≠ gs) (hA : Bsl w B a n c s) (hB : B ≤ gp)
    (h1 : p ≤ k) (h2 : k < n) (h3 : mkT s k = 0) (h4 : ∀ i, p ≤ i → i < k → mkT s i ≠ 0) :
    Calls Tryz.prog 119 #[.pointer (some ⟨gp, 0, none⟩), .pointer (some ⟨gs, 0, none⟩)] w fun e w' => e = .returned (.tuple #[.int .i64 k, .bool true]) ∧ w.grownBy w' (some gp) ∧ Blk w' gp 3 #[.int .i64 ((k + 1 : Nat) : Int)] := by
  have n1 := hA.len_le
  obtain ⟨b, off, rfl, hbB⟩ := hA.at_ (by omega)
  have HP := Lib.hid hp
  have HS := Lib.hid hs
  have HA := Lib.hid hA
  have HB := Lib.hid hB
  have HNE := Lib.hid hne
  have H3 := Lib.hid h3
  have H4 := Lib.hid h4
  clear hp hs hA hB hne h3 h4
  go_enter Tryz.func119, Tryz.ntmps119
  go_wp2_with fail
  go_loopw [4] (fun _ wr => ∃ j : Nat, p ≤ j ∧ j ≤ k ∧ w.grownBy wr (some gp) ∧ Blk wr gp 3 #[.int .i64 (j : Int)]) (fun _ wr => n - keptAt wr gp)
  case atStart => exact ⟨p, Nat.le_refl _, h1, World.grownBy.refl _ _, HP.out⟩
  case round =>
    obtain ⟨j, hj1, hj2, hg, hb⟩ := hrel
    have j0 : (0 : Int) ≤ j := by omega
    have j1 : (j : Int) < n := by omega
    have hlt : j < n := by omega
    have hkm := keptAt_blk hb
    have HKM := Lib.hid hkm
    clear hkm
    have c0 : wr.cell? ⟨gp, 0, none⟩ = some (.int .i64 (j : Int)) := hb.cell 0
    have hsr : Blk wr gs 26 #[.slice (some ⟨b, off, none⟩) n c] := HS.out.grown hg fun e => HNE.out (Option.some.inj e).symm
    have c1 : wr.cell? ⟨gs, 0, none⟩ = some (.slice (some ⟨b, off, none⟩) n c) := hsr.cell 0
    have c1' : (wr.setCell ⟨gp, 0, none⟩ (.int .i64 ((j : Int) + 1))).cell? ⟨gs, 0, none⟩ = some (.slice (some ⟨b, off, none⟩) n c) := (hsr.far (p := ⟨gp, 0, none⟩) (fun e => HNE.out e.symm) _).cell 0
    have hbg : b ≠ gp := by have := HB.out; omega
    have hcell : (wr.setCell ⟨gp, 0, none⟩ (.int .i64 ((j : Int) + 1))).cell? ⟨b, off + j, none⟩ = some (.int .u8 ((mkT s j : Nat) : Int)) := by
      rw [← HA.out.mk j hlt]
      have hbl : b < w.heap.size := by
        have h := HA.out.mk j hlt
        obtain ⟨o, ho, _⟩ := cells_of_cell h
        exact (Array.getElem?_eq_some_iff.1 ho).1
      have e1 : (wr.setCell ⟨gp, 0, none⟩ (.int .i64 ((j : Int) + 1))).heap[b]? = w.heap[b]? := (Below.heap_setCell wr ⟨gp, 0, none⟩ _ b hbg).trans (hg.block b hbl (fun e => hbg (Option.some.inj e)))
      exact World.cell?_of_block (a := ⟨b, off + j, none⟩) e1
    have hw : IntKind.i64.wrap ((j : Int) + 1) = (j : Int) + 1 := IntWalk.i64_in _ (by omega)
    have hg2 : w.grownBy (wr.setCell ⟨gp, 0, none⟩ (.int .i64 ((j : Int) + 1))) (some gp) := only_setCell hg (.inl rfl) _
    have hb2 := hb.set_ 0 (.int .i64 ((j : Int) + 1))
    have hb2' : Blk (wr.setCell ⟨gp, 0, none⟩ (.int .i64 ((j : Int) + 1))) gp 3 #[.int .i64 ((j + 1 : Nat) : Int)] := by
      have e : ((j + 1 : Nat) : Int) = (j : Int) + 1 := by omega
      rw [e]; exact hb2
    have hf := hb.frozen 0
    have HG2 := Lib.hid hg2
    have HB2 := Lib.hid hb2'
    clear hg hb hsr hg2 hb2 hb2' hbg
    by_cases hjk : j = k
    · rw [hjk] at c0 j0 j1 hlt c1' hcell hw HG2 HB2
      rw [H3.out] at hcell
      clear HKM hj1 hj2 hjk
      go_wp2_with fail
      go_ret2
      exact ⟨rfl, HG2.out, HB2.out⟩
    · have hz := H4.out j hj1 (by omega)
      obtain ⟨x, hx⟩ : ∃ x : Nat, mkT s j = x := ⟨_, rfl⟩
      rw [hx] at hcell hz
      have hzz : ((x : Int) == 0) = false := by simp; omega
      clear hx hz
      go_wp2_with fail
      go_roundw
      case rel => exact ⟨j + 1, by omega, by omega, HG2.out, HB2.out⟩
      case measure =>
        rw [keptAt_blk HB2.out, HKM.out]
        omega
set_option maxHeartbeats 1000000 in
theorem spNext_none (gp gs B : Nat) (a : Option Addr) (n c : Nat) (s : List UInt8) (p : Nat) (w : World) (hp : Blk w gp 3 #[.int .i64 (p : Int)]) (hs : Blk w gs 26 #[.slice a n c]) (hne : gp ≠ gs) (hA : Bsl w B a n c s) (hB : B ≤ gp)
    (h1 : p ≤ n) (h4 : ∀ i, p ≤ i → i < n → mkT s i ≠ 0) :
    Calls Tryz.prog 119 #[.pointer (some ⟨gp, 0, none⟩), .pointer (some ⟨gs, 0, none⟩)] w fun e w' => e = .returned (.tuple #[.int .i64 0, .bool false]) ∧ w.grownBy w' (some gp) ∧ Blk w' gp 3 #[.int .i64 (n : Int)] := by
  have n1 := hA.len_le
  have HP := Lib.hid hp
  have HS := Lib.hid hs
  have HA := Lib.hid hA
  have HB := Lib.hid hB
  have HNE := Lib.hid hne
  have H4 := Lib.hid h4
  clear hp hs hA hB hne h4
  go_enter Tryz.func119, Tryz.ntmps119
  go_wp2_with fail
  go_loopw [4] (fun _ wr => ∃ j : Nat, p ≤ j ∧ j ≤ n ∧ w.grownBy wr (some gp) ∧ Blk wr gp 3 #[.int .i64 (j : Int)]) (fun _ wr => n - keptAt wr gp)
  case atStart => exact ⟨p, Nat.le_refl _, h1, World.grownBy.refl _ _, HP.out⟩
  case round =>
    obtain ⟨j, hj1, hj2, hg, hb⟩ := hrel
    have j0 : (0 : Int) ≤ j := by omega
    have hkm := keptAt_blk hb
    have HKM := Lib.hid hkm
    clear hkm
    have c0 : wr.cell? ⟨gp, 0, none⟩ = some (.int .i64 (j : Int)) := hb.cell 0
    have hsr : Blk wr gs 26 #[.slice a n c] := HS.out.grown hg fun e => HNE.out (Option.some.inj e).symm
    have c1 : wr.cell? ⟨gs, 0, none⟩ = some (.slice a n c) := hsr.cell 0
    by_cases hlt : j < n
    · obtain ⟨b, off, rfl, hbB⟩ := HA.out.at_ (by omega)
      have j1 : (j : Int) < n := by omega
      have c1' : (wr.setCell ⟨gp, 0, none⟩ (.int .i64 ((j : Int) + 1))).cell? ⟨gs, 0, none⟩ = some (.slice (some ⟨b, off, none⟩) n c) := (hsr.far (p := ⟨gp, 0, none⟩) (fun e => HNE.out e.symm) _).cell 0
      have hbg : b ≠ gp := by have := HB.out; omega
      have hcell : (wr.setCell ⟨gp, 0, none⟩ (.int .i64 ((j : Int) + 1))).cell? ⟨b, off + j, none⟩ = some (.int .u8 ((mkT s j : Nat) : Int)) := by
        rw [← HA.out.mk j hlt]
        have hbl : b < w.heap.size := by
          have h := HA.out.mk j hlt
          obtain ⟨o, ho, _⟩ := cells_of_cell h
          exact (Array.getElem?_eq_some_iff.1 ho).1
        have e1 : (wr.setCell ⟨gp, 0, none⟩ (.int .i64 ((j : Int) + 1))).heap[b]? = w.heap[b]? := (Below.heap_setCell wr ⟨gp, 0, none⟩ _ b hbg).trans (hg.block b hbl (fun e => hbg (Option.some.inj e)))
        exact World.cell?_of_block (a := ⟨b, off + j, none⟩) e1
      have hw : IntKind.i64.wrap ((j : Int) + 1) = (j : Int) + 1 := IntWalk.i64_in _ (by omega)
      have hg2 : w.grownBy (wr.setCell ⟨gp, 0, none⟩ (.int .i64 ((j : Int) + 1))) (some gp) := only_setCell hg (.inl rfl) _
      have hb2 := hb.set_ 0 (.int .i64 ((j : Int) + 1))
      have hb2' : Blk (wr.setCell ⟨gp, 0, none⟩ (.int .i64 ((j : Int) + 1))) gp 3 #[.int .i64 ((j + 1 : Nat) : Int)] := by
        have e : ((j + 1 : Nat) : Int) = (j : Int) + 1 := by omega
        rw [e]; exact hb2
      have hf := hb.frozen 0
      have HG2 := Lib.hid hg2
      have HB2 := Lib.hid hb2'
      clear hg hb hsr hg2 hb2 hb2' hbg
      have hz := H4.out j hj1 hlt
      obtain ⟨x, hx⟩ : ∃ x : Nat, mkT s j = x := ⟨_, rfl⟩
      rw [hx] at hcell hz
      have hzz : ((x : Int) == 0) = false := by simp; omega
      clear hx hz
      go_wp2_with fail
      go_roundw
      case rel => exact ⟨j + 1, by omega, by omega, HG2.out, HB2.out⟩
      case measure =>
        rw [keptAt_blk HB2.out, HKM.out]
        omega
    · have hjn : j = n := by omega
      rw [hjn] at c0 hb j0
      have HG2 := Lib.hid hg
      have HB2 := Lib.hid hb
      clear hg hb hsr HKM hlt hjn hj1 hj2
      go_wp2_with fail
      go_ret2
      exact ⟨rfl, HG2.out, HB2.out⟩
end Go.Proofs.YtdpmdlibgabjaaaGreat
/-
  What space's calls answer: Check, Free, Take, Give, Settle.
-/
namespace Go.Proofs.YtdpmdlibgabjaaaGreat
open Go.RowKit Go.Shelf
set_option maxRecDepth 100000

/-- A table of the call's own, and an error's number. -/
def OutTb (c : Nat) (x : List UInt8) (w : World) (e : Ending) (w' : World) : Prop := ∃ v, e = .returned (.tuple #[v, .int .i64 c]) ∧ w'.ownsRow w.heap.size 5 1 v x.length (vals x) ∧ Below w.heap.size w w'
/-- A table of the call's own, a block's number, and an error's number. -/
def OutTk (c : Nat) (x : List UInt8) (k : Nat) (w : World) (e : Ending) (w' : World) : Prop := ∃ v, e = .returned (.tuple #[v, .int .i64 k, .int .i64 c]) ∧ w'.ownsRow w.heap.size 5 1 v x.length (vals x) ∧ Below w.heap.size w w'
/-- A list of numbers of the call's own, and an error's number. -/
def OutF (c : Nat) (x : List Nat) (w : World) (e : Ending) (w' : World) : Prop := ∃ v, e = .returned (.tuple #[v, .int .i64 c]) ∧ w'.ownsRow w.heap.size 3 1 v x.length (valsN x) ∧ Below w.heap.size w w'

theorem outTb_nil (c : Nat) (w : World) : OutTb c [] w (.returned (.tuple #[.slice none 0 0, .int .i64 c])) w := ⟨_, rfl, World.ownsRow_nil _ _ _ _, Below.refl _ _⟩
theorem outTk_nil (c : Nat) (w : World) : OutTk c [] 0 w (.returned (.tuple #[.slice none 0 0, .int .i64 0, .int .i64 c])) w := ⟨_, rfl, World.ownsRow_nil _ _ _ _, Below.refl _ _⟩
theorem outF_nil (c : Nat) (w : World) : OutF c [] w (.returned (.tuple #[.slice none 0 0, .int .i64 c])) w := ⟨_, rfl, World.ownsRow_nil _ _ _ _, Below.refl _ _⟩
theorem MayT.len_of {w : World} {B n c : Nat} {a : Option Addr} {s : List UInt8} (h : MayT s) (hA : Bsl w B a n c s) : n = 256 := by rw [← hA.1]; exact h.1

theorem spCheck_yes (a : Option Addr) (n c B : Nat) (s : List UInt8) (w : World) (hA : Bsl w B a n c s) (h : MayT s) : Calls Tryz.prog 91 #[.slice a n c] w fun e w' => e = .returned (.int .i64 0) ∧ w = w' := by
  have HM := Lib.hid (spMay_yes a n c B s w hA h)
  clear hA h
  go_enter Tryz.func91, Tryz.ntmps91
  go_wp2_with fail
  refine HM.out.mono ?_
  rintro e w1 ⟨rfl, rfl⟩
  go_wp2_with fail
  go_ret
  exact ⟨rfl, rfl⟩
theorem spCheck_no (a : Option Addr) (n c B : Nat) (s : List UInt8) (w : World) (hA : Bsl w B a n c s) (h : ¬ MayT s) : Calls Tryz.prog 91 #[.slice a n c] w fun e w' => e = .returned (.int .i64 8) ∧ w = w' := by
  have HM := Lib.hid (spMay_no a n c B s w hA h)
  clear hA h
  go_enter Tryz.func91, Tryz.ntmps91
  go_wp2_with fail
  refine HM.out.mono ?_
  rintro e w1 ⟨rfl, rfl⟩
  go_wp2_with fail
  go_ret
  exact ⟨rfl, rfl⟩

theorem spGive_bad (a : Option Addr) (n c B : Nat) (s : List UInt8) (k : Int) (w : World) (hA : Bsl w B a n c s) (h : ¬ MayT s) : Calls Tryz.prog 50 #[.slice a n c, .int .i64 k] w (OutTb 8 [] w) := by
  have HM := Lib.hid (spMay_no a n c B s w hA h)
  clear hA h
  go_enter Tryz.func50, Tryz.ntmps50
  go_wp2_with fail
  refine HM.out.mono ?_
  rintro e w1 ⟨rfl, rfl⟩
  go_wp2_with fail
  go_ret2
  exact outTb_nil 8 w
theorem spGive_arg (a : Option Addr) (n c B : Nat) (s : List UInt8) (k : Int) (hk : k < 12 ∨ 256 ≤ k) (w : World) (hA : Bsl w B a n c s) (h : MayT s) : Calls Tryz.prog 50 #[.slice a n c, .int .i64 k] w (OutTb 2 [] w) := by
  have HM := Lib.hid (spMay_yes a n c B s w hA h)
  clear hA h
  rcases hk with hk | hk
  all_goals
    go_enter Tryz.func50, Tryz.ntmps50
    go_wp2_with fail
    refine HM.out.mono ?_
    rintro e w1 ⟨rfl, rfl⟩
    go_wp2_with fail
    go_ret2
    exact outTb_nil 2 w
theorem spGive_none (a : Option Addr) (n c B : Nat) (s : List UInt8) (k : Nat) (hk : 12 ≤ k) (hk2 : k < 256) (w : World) (hA : Bsl w B a n c s) (h : MayT s) (h1 : mkT s k ≠ 1) : Calls Tryz.prog 50 #[.slice a n c, .int .i64 k] w (OutTb 6 [] w) := by
  have HM := Lib.hid (spMay_yes a n c B s w hA h)
  have hn := h.len_of hA
  subst hn
  obtain ⟨b, off, rfl, _⟩ := hA.at_ (by omega)
  have hc := hA.mk k hk2
  obtain ⟨x, hx⟩ : ∃ x : Nat, mkT s k = x := ⟨_, rfl⟩
  rw [hx] at hc h1
  have e1 : ((x : Int) != 1) = true := by simp; omega
  have k0 : (0 : Int) ≤ k := by omega
  have k1 : (12 : Int) ≤ k := by omega
  have k2 : (k : Int) < 256 := by omega
  clear hA h h1 hx
  go_enter Tryz.func50, Tryz.ntmps50
  go_wp2_with fail
  refine HM.out.mono ?_
  rintro e w1 ⟨rfl, rfl⟩
  go_wp2_with fail
  go_ret2
  exact outTb_nil 6 w
theorem spGive_ok (a : Option Addr) (n c : Nat) (s : List UInt8) (k : Nat) (hk : 12 ≤ k) (hk2 : k < 256) (w : World) (hA : Bsl w w.heap.size a n c s) (h : MayT s) (h1 : mkT s k = 1) : Calls Tryz.prog 50 #[.slice a n c, .int .i64 k] w (OutTb 0 (s.set k 2) w) := by
  have HM := Lib.hid (spMay_yes a n c _ s w hA h)
  have hn := h.len_of hA
  subst hn
  have HW := Lib.hid (spWith_any a 256 c s k 2 w hA hk2 (by omega))
  have hl : (s.set k 2).length = 256 := by simp [h.1]
  have HL := Lib.hid hl
  obtain ⟨b, off, rfl, _⟩ := hA.at_ (by omega)
  have hc := hA.mk k hk2
  rw [h1] at hc
  have k0 : (0 : Int) ≤ k := by omega
  have k1 : (12 : Int) ≤ k := by omega
  have k2 : (k : Int) < 256 := by omega
  clear hA h h1 hl
  go_enter Tryz.func50, Tryz.ntmps50
  go_wp2_with fail
  refine HM.out.mono ?_
  rintro e w1 ⟨rfl, rfl⟩
  go_wp2_with fail
  refine HW.out.mono ?_
  rintro e w1 ⟨v, rfl, ho, b1⟩
  have HO := Lib.hid ho
  have HB := Lib.hid b1
  clear ho b1
  go_wp2_with fail
  go_ret2
  exact ⟨_, rfl, by rw [HL.out]; exact HO.out, HB.out⟩

theorem spTake_bad (a : Option Addr) (n c B : Nat) (s : List UInt8) (w : World) (hA : Bsl w B a n c s) (h : ¬ MayT s) : Calls Tryz.prog 67 #[.slice a n c] w (OutTk 8 [] 0 w) := by
  have HM := Lib.hid (spMay_no a n c B s w hA h)
  clear hA h
  go_enter Tryz.func67, Tryz.ntmps67
  go_wp2_with fail
  refine HM.out.mono ?_
  rintro e w1 ⟨rfl, rfl⟩
  go_wp2_with fail
  go_ret3
  exact outTk_nil 8 w
theorem spTake_full (a : Option Addr) (n c : Nat) (s : List UInt8) (w : World) (hA : Bsl w w.heap.size a n c s) (h : MayT s) (h0 : ∀ i, i < 256 → mkT s i ≠ 0) : Calls Tryz.prog 67 #[.slice a n c] w (OutTk 9 [] 0 w) := by
  have HM := Lib.hid (spMay_yes a n c _ s w hA h)
  have hn := h.len_of hA
  subst hn
  have HF := Lib.hid (spOnes_any a 256 c w)
  have HA := Lib.hid hA
  have H0 := Lib.hid h0
  clear hA h h0
  go_enter Tryz.func67, Tryz.ntmps67
  go_wp2_with fail
  refine HM.out.mono ?_
  rintro e w1 ⟨rfl, rfl⟩
  go_wp2_with fail
  refine HF.out.mono ?_
  rintro e w1 ⟨gp, gs, rfl, hgp, hgs, hne, hp, hs, b1⟩
  have HX := Lib.hid (spNext_none gp gs w.heap.size a 256 c s 0 w1 hp hs hne (HA.out.below b1) hgp (Nat.zero_le _) fun i _ hi => H0.out i hi)
  have HB := Lib.hid b1
  have HG := Lib.hid hgp
  clear hgs hne hp hs b1 hgp
  go_wp2_with fail
  refine HX.out.mono ?_
  rintro e w2 ⟨rfl, hg, _⟩
  have HB2 := Lib.hid (below_only HB.out HG.out hg HB.out.size)
  clear hg
  go_wp2_with fail
  go_ret3
  exact ⟨_, rfl, World.ownsRow_nil _ _ _ _, HB2.out⟩
theorem spTake_ok (a : Option Addr) (n c : Nat) (s : List UInt8) (k : Nat) (w : World) (hA : Bsl w w.heap.size a n c s) (h : MayT s) (hk : k < 256) (hz : mkT s k = 0) (h0 : ∀ i, i < k → mkT s i ≠ 0) : Calls Tryz.prog 67 #[.slice a n c] w (OutTk 0 (s.set k 1) k w) := by
  have HM := Lib.hid (spMay_yes a n c _ s w hA h)
  have hn := h.len_of hA
  subst hn
  have hl : (s.set k 1).length = 256 := by simp [h.1]
  have HL := Lib.hid hl
  have HF := Lib.hid (spOnes_any a 256 c w)
  have HA := Lib.hid hA
  have H0 := Lib.hid h0
  have HZ := Lib.hid hz
  clear hA h h0 hz hl
  go_enter Tryz.func67, Tryz.ntmps67
  go_wp2_with fail
  refine HM.out.mono ?_
  rintro e w1 ⟨rfl, rfl⟩
  go_wp2_with fail
  refine HF.out.mono ?_
  rintro e w1 ⟨gp, gs, rfl, hgp, hgs, hne, hp, hs, b1⟩
  have HX := Lib.hid (spNext_some gp gs w.heap.size a 256 c s 0 k w1 hp hs hne (HA.out.below b1) hgp (Nat.zero_le _) hk HZ.out fun i _ hi => H0.out i hi)
  have HB := Lib.hid b1
  have HG := Lib.hid hgp
  clear hgs hne hp hs b1 hgp
  go_wp2_with fail
  refine HX.out.mono ?_
  rintro e w2 ⟨rfl, hg, _⟩
  have HB2 := Lib.hid (below_only HB.out HG.out hg HB.out.size)
  clear hg
  have HW := Lib.hid (spWith_any a 256 c s k 1 w2 (HA.out.step HB2.out) hk (by omega))
  go_wp2_with fail
  refine HW.out.mono ?_
  rintro e w3 ⟨v, rfl, ho, b3⟩
  have HO := Lib.hid (own_mono ho HB2.out.size)
  have HB3 := Lib.hid (HB2.out.trans (b3.mono HB2.out.size))
  clear ho b3
  go_wp2_with fail
  go_ret3
  exact ⟨_, rfl, by rw [HL.out]; exact HO.out, HB3.out⟩

end Go.Proofs.YtdpmdlibgabjaaaGreat
/-
  space.Free: all free blocks, rising.
-/
namespace Go.Proofs.YtdpmdlibgabjaaaGreat
open Go.RowKit Go.Shelf
set_option maxRecDepth 100000

theorem spFree_bad (a : Option Addr) (n c B : Nat) (s : List UInt8) (w : World) (hA : Bsl w B a n c s) (h : ¬ MayT s) : Calls Tryz.prog 62 #[.slice a n c] w (OutF 8 [] w) := by
  have HM := Lib.hid (spMay_no a n c B s w hA h)
  clear hA h
  go_enter Tryz.func62, Tryz.ntmps62
  go_wp2_with fail
  refine HM.out.mono ?_
  rintro e w1 ⟨rfl, rfl⟩
  go_wp2_with fail
  go_ret2
  exact outF_nil 8 w
/-- What the loop of Free knows: the next free block lies at k, or there is none any more. -/
def FreeI (s : List UInt8) (B0 w : World) (gp gs : Nat) (sl : Value) (v x ok : Value) (wr : World) : Prop :=
  Below w.heap.size w wr ∧ B0.heap.size ≤ wr.heap.size ∧ Blk wr gs 26 #[sl] ∧
    ((∃ k : Nat, k < 256 ∧ mkT s k = 0 ∧ x = .int .i64 k ∧ ok = .bool true ∧ Blk wr gp 3 #[.int .i64 ((k + 1 : Nat) : Int)] ∧ wr.ownsRow B0.heap.size 3 1 v (freeTo s k).length (valsN (freeTo s k))) ∨
     (x = .int .i64 0 ∧ ok = .bool false ∧ wr.ownsRow B0.heap.size 3 1 v (freeTo s 256).length (valsN (freeTo s 256))))
theorem freeTo_le (s : List UInt8) (n : Nat) : (freeTo s n).length ≤ n := by rw [freeTo_length]; exact cntTo_le s 0 n
/-- Behind a call of the closure. -/
theorem FreeI.next {s : List UInt8} {B0 w wr w2 : World} {gp gs p : Nat} {sl v : Value} (hb : Below w.heap.size w wr) (hB : B0.heap.size ≤ wr.heap.size) (hs : Blk wr gs 26 #[sl]) (hne : gp ≠ gs) (hgp : w.heap.size ≤ gp) (hgB : gp < B0.heap.size) (ho : wr.ownsRow B0.heap.size 3 1 v (freeTo s p).length (valsN (freeTo s p)))
    (hg : wr.grownBy w2 (some gp)) : Below w.heap.size w w2 ∧ B0.heap.size ≤ w2.heap.size ∧ Blk w2 gs 26 #[sl] ∧ w2.ownsRow B0.heap.size 3 1 v (freeTo s p).length (valsN (freeTo s p)) :=
  ⟨below_only hb hgp hg hb.size, Nat.le_trans hB hg.size, hs.grown hg (fun e => hne (Option.some.inj e).symm), own_other ho hg fun k hk => by have := (ho.lt k hk).1; omega⟩
set_option maxHeartbeats 2000000 in
theorem spFree_ok (a : Option Addr) (n c : Nat) (s : List UInt8) (w : World) (hA : Bsl w w.heap.size a n c s) (h : MayT s) : Calls Tryz.prog 62 #[.slice a n c] w (OutF 0 (freeTo s 256) w) := by
  have HM := Lib.hid (spMay_yes a n c _ s w hA h)
  have hn := h.len_of hA
  subst hn
  have HF := Lib.hid (spOnes_any a 256 c w)
  have HA := Lib.hid hA
  clear hA h
  go_enter Tryz.func62, Tryz.ntmps62
  go_wp2_with fail
  refine HM.out.mono ?_
  rintro e w1 ⟨rfl, rfl⟩
  go_wp2_with fail
  refine HF.out.mono ?_
  rintro e w1 ⟨gp, gs, rfl, hgp, hgs, hne, hp, hs, b1⟩
  have hgB : gp < w1.heap.size := hp.lt
  have HN := Lib.hid (first_from (fun k => mkT s k = 0) 0 256)
  have HB := Lib.hid b1
  have HG := Lib.hid hgp
  have HGB := Lib.hid hgB
  have HNE := Lib.hid hne
  have HS := Lib.hid hs
  have HP := Lib.hid hp
  clear hgs hne hp hs b1 hgp hgB
  go_wp2_with fail
  have hx : Calls Tryz.prog 119 #[.pointer (some ⟨gp, 0, none⟩), .pointer (some ⟨gs, 0, none⟩)] w1 fun e w' => ∃ x ok, e = .returned (.tuple #[x, ok]) ∧ FreeI s w1 w gp gs (.slice a 256 c) (.slice none 0 0) x ok w' := by
    rcases HN.out with ⟨k, _, hk, hz, hbefore⟩ | hall
    · refine (spNext_some gp gs w.heap.size a 256 c s 0 k w1 HP.out HS.out HNE.out (HA.out.below HB.out) HG.out (Nat.zero_le _) hk hz hbefore).mono ?_
      rintro e w2 ⟨rfl, hg, hp2⟩
      have e0 : freeTo s k = [] := freeTo_same (p := 0) (Nat.zero_le _) hbefore
      obtain ⟨i1, i2, i3, i4⟩ := FreeI.next (s := s) (p := 0) (v := .slice none 0 0) HB.out (Nat.le_refl _) HS.out HNE.out HG.out HGB.out (World.ownsRow_nil _ _ _ _) hg
      exact ⟨_, _, rfl, i1, i2, i3, .inl ⟨k, hk, hz, rfl, rfl, hp2, by rw [e0]; exact i4⟩⟩
    · refine (spNext_none gp gs w.heap.size a 256 c s 0 w1 HP.out HS.out HNE.out (HA.out.below HB.out) HG.out (Nat.zero_le _) hall).mono ?_
      rintro e w2 ⟨rfl, hg, hp2⟩
      have e0 : freeTo s 256 = [] := freeTo_same (p := 0) (Nat.zero_le _) hall
      obtain ⟨i1, i2, i3, i4⟩ := FreeI.next (s := s) (p := 0) (v := .slice none 0 0) HB.out (Nat.le_refl _) HS.out HNE.out HG.out HGB.out (World.ownsRow_nil _ _ _ _) hg
      exact ⟨_, _, rfl, i1, i2, i3, .inr ⟨rfl, rfl, by rw [e0]; exact i4⟩⟩
  have HX := Lib.hid hx
  clear hx
  refine HX.out.mono ?_
  rintro e w2 ⟨x, ok, rfl, hI⟩
  have HI := Lib.hid hI
  clear hI
  go_wp2_with fail
  go_loopw [4, 6, 7] (fun v x ok wr => FreeI s w1 w gp gs (.slice a 256 c) v x ok wr) (fun _ x ok _ => match ok with | .bool true => 257 - (intOf x).toNat | _ => 0)
  case atStart => exact HI.out
  case round =>
    obtain ⟨hb, hB, hs, ⟨k, hk, hz, rfl, rfl, hp, ho⟩ | ⟨rfl, rfl, ho⟩⟩ := hrel
    · have k0 : (0 : Int) ≤ k := by omega
      have hl : (freeTo s k).length ≤ k := freeTo_le s k
      have hfy : freeTo s k ++ [k] = freeTo s (k + 1) := (freeTo_yes hz).symm
      have hfl : (freeTo s k).length + 1 = (freeTo s (k + 1)).length := by rw [← hfy]; simp
      have o1 := one_nsl wr k
      have HN1 := Lib.hid o1
      have HOr := Lib.hid (ho.alloc (.cells #[.int .i64 (k : Int)] 3))
      have HPr := Lib.hid (hp.alloc (.cells #[.int .i64 (k : Int)] 3))
      have HSr := Lib.hid (hs.alloc (.cells #[.int .i64 (k : Int)] 3))
      have HBr := Lib.hid (hb.alloc hb.size (.cells #[.int .i64 (k : Int)] 3))
      have HLr := Lib.hid (show w1.heap.size ≤ (wr.alloc (.cells #[.int .i64 (k : Int)] 3)).heap.size by simp; omega)
      have HGS := Lib.hid (show gs < w1.heap.size from HS.out.lt)
      clear ho hb hs hp o1 hB hz
      go_wp2_with (at_builtin
                   refine wpList_append_nsl rfl (.tmp 24) (.tmp 26) rfl w1.heap.size _ (freeTo s k).length _ rfl HOr.out _ (some ⟨wr.heap.size, 0, none⟩) 1 1 [k] rfl HN1.out (by omega) HLr.out ?_
                   intro v' W3 hown' hg'
                   rw [hfy, hfl] at hown'
                   have hne1 : ∀ q, q < w1.heap.size → some q ≠ Value.ownBlock _ := fun q hq e => by have := (HOr.out.lt q e.symm).1; omega
                   have HP3 := Lib.hid (HPr.out.grown hg' (hne1 gp HGB.out))
                   have HS3 := Lib.hid (HSr.out.grown hg' (hne1 gs HGS.out))
                   have HB3 := Lib.hid (show Below w.heap.size w W3 from HBr.out.grown hg' HBr.out.size fun q hq => by have h1 := (HOr.out.lt q hq).1; have h2 := HB.out.size; omega)
                   have HL3 := Lib.hid (Nat.le_trans HLr.out hg'.size)
                   have HO3 := Lib.hid hown'; clear hown' hg' hne1)
      have hx : Calls Tryz.prog 119 #[.pointer (some ⟨gp, 0, none⟩), .pointer (some ⟨gs, 0, none⟩)] W3 fun e w' => ∃ x ok, e = .returned (.tuple #[x, ok]) ∧ FreeI s w1 w gp gs (.slice a 256 c) v' x ok w' ∧ ∀ j : Nat, x = .int .i64 j → ok = .bool true → k < j := by
        rcases first_from (fun k => mkT s k = 0) (k + 1) 256 with ⟨j, hj, hj2, hz, hbefore⟩ | hall
        · refine (spNext_some gp gs w.heap.size a 256 c s (k + 1) j W3 HP3.out HS3.out HNE.out (HA.out.below HB3.out) HG.out hj hj2 hz hbefore).mono ?_
          rintro e w2 ⟨rfl, hg, hp2⟩
          have e0 : freeTo s j = freeTo s (k + 1) := freeTo_same hj hbefore
          obtain ⟨i1, i2, i3, i4⟩ := FreeI.next (s := s) (p := k + 1) HB3.out HL3.out HS3.out HNE.out HG.out HGB.out HO3.out hg
          exact ⟨_, _, rfl, ⟨i1, i2, i3, .inl ⟨j, hj2, hz, rfl, rfl, hp2, by rw [e0]; exact i4⟩⟩, fun j' h1 _ => by injection h1; omega⟩
        · refine (spNext_none gp gs w.heap.size a 256 c s (k + 1) W3 HP3.out HS3.out HNE.out (HA.out.below HB3.out) HG.out (by omega) hall).mono ?_
          rintro e w2 ⟨rfl, hg, hp2⟩
          have e0 : freeTo s 256 = freeTo s (k + 1) := freeTo_same (by omega) hall
          obtain ⟨i1, i2, i3, i4⟩ := FreeI.next (s := s) (p := k + 1) HB3.out HL3.out HS3.out HNE.out HG.out HGB.out HO3.out hg
          exact ⟨_, _, rfl, ⟨i1, i2, i3, .inr ⟨rfl, rfl, by rw [e0]; exact i4⟩⟩, fun _ _ h2 => (by cases h2)⟩
      have HX := Lib.hid hx
      clear hx
      refine HX.out.mono ?_
      rintro e w4 ⟨x', ok', rfl, hI, hM⟩
      have HI := Lib.hid hI
      have HMM := Lib.hid hM
      clear hI hM
      go_wp2_with fail
      go_roundw
      case rel => exact HI.out
      case measure =>
        rcases HI.out.2.2.2 with ⟨j, hj, _, rfl, rfl, _⟩ | ⟨rfl, rfl, _⟩
        · have := HMM.out j rfl rfl
          simp [intOf]; omega
        · simp [intOf]; omega
    · have HO := Lib.hid (own_mono ho HB.out.size)
      have HB2 := Lib.hid hb
      clear ho hb hB hs
      go_wp2_with fail
      go_ret2
      exact ⟨_, rfl, HO.out, HB2.out⟩
end Go.Proofs.YtdpmdlibgabjaaaGreat
/-
  The document's own functions of layer 12: May, Check, New, All, With, Settled, Same.
-/
namespace Go.Proofs.YtdpmdlibgabjaaaGreat
open Go.RowKit Go.Shelf
set_option maxRecDepth 100000

set_option maxHeartbeats 1000000 in
theorem rsMay_yes (a : Option Addr) (n c B : Nat) (s : List UInt8) (w : World) (hA : Bsl w B a n c s) (h : MayT s) : Calls Tryz.prog 73 #[.slice a n c] w fun e w' => e = .returned (.bool true) ∧ w = w' := by
  have hn := h.len_of hA
  subst hn
  obtain ⟨b, off, rfl, _⟩ := hA.at_ (by omega)
  have HA := Lib.hid hA
  have HM := Lib.hid h
  clear hA h
  go_enter Tryz.func73, Tryz.ntmps73
  go_wp2_with fail
  go_loop [3] (fun i => ∃ k : Nat, k ≤ 256 ∧ i = .int .i64 k) (fun i => 256 - (intOf i).toNat)
  case atStart => exact ⟨0, Nat.zero_le _, rfl⟩
  case round =>
    obtain ⟨k, hk, rfl⟩ := hrel
    have k0 : (0 : Int) ≤ k := by omega
    by_cases hlt : k < 256
    · have k1 : (k : Int) < 256 := by omega
      have hc := HA.out.mk k hlt
      have h2 := HM.out.2.1 k hlt
      by_cases h12 : k < 12
      · rw [HM.out.2.2 k h12] at hc
        have k3 : (k : Int) < 12 := by omega
        clear h2
        go_wp2_with fail
        go_round
        case rel => exact ⟨k + 1, by omega, by go_num⟩
        case measure => simp [intOf]; omega
      · obtain ⟨x, hx⟩ : ∃ x : Nat, mkT s k = x := ⟨_, rfl⟩
        rw [hx] at hc h2
        have k3 : (12 : Int) ≤ k := by omega
        have x1 : (x : Int) ≤ 2 := by omega
        have x0 : (0 : Int) ≤ x := by omega
        clear hx h2
        go_wp2_with fail
        go_round
        case rel => exact ⟨k + 1, by omega, by go_num⟩
        case measure => simp [intOf]; omega
    · have hkk : k = 256 := by omega
      have k3 : (256 : Int) ≤ k := by omega
      clear hkk hlt hk
      go_wp2_with fail
      go_ret
      exact ⟨rfl, rfl⟩
set_option maxHeartbeats 1000000 in
theorem rsMay_no (a : Option Addr) (n c B : Nat) (s : List UInt8) (w : World) (hA : Bsl w B a n c s) (h : ¬ MayT s) : Calls Tryz.prog 73 #[.slice a n c] w fun e w' => e = .returned (.bool false) ∧ w = w' := by
  by_cases hn : n = 256
  · subst hn
    have hl := hA.1
    have hf : ∃ j, j < 256 ∧ (2 < mkT s j ∨ j < 12 ∧ mkT s j ≠ 1) ∧ ∀ i, i < j → ¬ (2 < mkT s i ∨ i < 12 ∧ mkT s i ≠ 1) := by
      rcases first_from (fun i => 2 < mkT s i ∨ i < 12 ∧ mkT s i ≠ 1) 0 256 with ⟨k, _, h1, h2, h3⟩ | h0
      · exact ⟨k, h1, h2, fun i hi => h3 i (Nat.zero_le _) hi⟩
      · exact absurd ⟨hl, fun i hi => by have := h0 i (Nat.zero_le _) hi; omega, fun i hi => by have := h0 i (Nat.zero_le _) (by omega); omega⟩ h
    obtain ⟨j, hj, hjb, hj0⟩ := hf
    obtain ⟨b, off, rfl, _⟩ := hA.at_ (by omega)
    have HA := Lib.hid hA
    have HJ := Lib.hid hjb
    have H0 := Lib.hid hj0
    clear hA h hl hjb hj0
    go_enter Tryz.func73, Tryz.ntmps73
    go_wp2_with fail
    go_loop [3] (fun i => ∃ k : Nat, k ≤ j ∧ i = .int .i64 k) (fun i => 256 - (intOf i).toNat)
    case atStart => exact ⟨0, Nat.zero_le _, rfl⟩
    case round =>
      obtain ⟨k, hk, rfl⟩ := hrel
      have k0 : (0 : Int) ≤ k := by omega
      have k1 : (k : Int) < 256 := by omega
      have hlt : k < 256 := by omega
      have hc := HA.out.mk k hlt
      obtain ⟨x, hx⟩ : ∃ x : Nat, mkT s k = x := ⟨_, rfl⟩
      have x0 : (0 : Int) ≤ x := by omega
      rw [hx] at hc
      by_cases hkj : k < j
      · have h1 := H0.out k hkj
        rw [hx] at h1
        have x1 : (x : Int) ≤ 2 := by omega
        by_cases h12 : k < 12
        · have k3 : (k : Int) < 12 := by omega
          have hx1 : x = 1 := by omega
          rw [hx1] at hc
          clear h1 hx x1 x0 hx1
          go_wp2_with fail
          go_round
          case rel => exact ⟨k + 1, by omega, by go_num⟩
          case measure => simp [intOf]; omega
        · have k3 : (12 : Int) ≤ k := by omega
          clear h1 hx
          go_wp2_with fail
          go_round
          case rel => exact ⟨k + 1, by omega, by go_num⟩
          case measure => simp [intOf]; omega
      · have h1 := HJ.out
        rw [show j = k by omega, hx] at h1
        by_cases h2 : 2 < x
        · have x1 : (2 : Int) < x := by omega
          clear h1 hx hkj hk
          go_wp2_with fail
          go_ret
          exact ⟨rfl, rfl⟩
        · have x1 : (x : Int) ≤ 2 := by omega
          have k3 : (k : Int) < 12 := by omega
          have e1 : ((x : Int) != 1) = true := by simp; omega
          clear h1 hx hkj hk h2
          go_wp2_with fail
          go_ret
          exact ⟨rfl, rfl⟩
  · have n1 := hA.len_le
    have hb : ((n : Int) != 256) = true := by simp; omega
    clear hA h hn
    go_enter Tryz.func73, Tryz.ntmps73
    go_wp2_with fail
    go_ret
    exact ⟨rfl, rfl⟩
set_option maxHeartbeats 1000000 in
theorem rsNew_any (w : World) : Calls Tryz.prog 61 #[] w (OwnV 256 (newTo 12) w) := by
  have hmk : ∀ W : World, (Instr.makeSlice 26 (.int .i64 256) (.int .i64 256)).run Tryz.prog W = .ok (.slice (some ⟨W.heap.size, 0, none⟩) 256 256) (W.alloc (.cells (Array.replicate 256 (.int .u8 0)) 5)) := fun W => by kernel_rfl
  obtain ⟨g, hg⟩ : ∃ g, w.heap.size = g := ⟨_, rfl⟩
  obtain ⟨w1, hw1⟩ : ∃ w1, w.alloc (.cells (Array.replicate 256 (.int .u8 0)) 5) = w1 := ⟨_, rfl⟩
  have hown : w1.ownsRow g 5 1 (.slice (some ⟨g, 0, none⟩) 256 256) 256 (vals (newTo 0)) := by
    subst hw1; subst hg
    refine ⟨by simp [vals, newTo], .inr ⟨w.heap.size, 256, Array.replicate 256 (.int .u8 0), rfl, Nat.le_refl _, heap_alloc_new w _, Nat.le_refl _, by unfold maxLen; omega, by simp, ?_⟩⟩
    simp [newTo, vals]
  have hb : Below g w w1 := by
    subst hw1; subst hg
    exact (Below.refl _ w).alloc (Nat.le_refl _) _
  have HO := Lib.hid hown
  have HB := Lib.hid hb
  have HG := Lib.hid hg
  have hmk' : (Instr.makeSlice 26 (.int .i64 256) (.int .i64 256)).run Tryz.prog w = .ok (.slice (some ⟨g, 0, none⟩) 256 256) w1 := by rw [hmk w, hg, hw1]
  clear hown hb hmk hw1 hg
  go_enter Tryz.func61, Tryz.ntmps61
  go_wp2_with fail
  go_loopw [2] (fun i wr => ∃ k : Nat, k ≤ 12 ∧ i = .int .i64 k ∧ wr.ownsRow g 5 1 (.slice (some ⟨g, 0, none⟩) 256 256) 256 (vals (newTo k)) ∧ Below g w wr) (fun i _ => 12 - (intOf i).toNat)
  case atStart => exact ⟨0, Nat.zero_le _, rfl, HO.out, HB.out⟩
  case round =>
    obtain ⟨k, hk, rfl, ho, hb⟩ := hrel
    have k0 : (0 : Int) ≤ k := by omega
    by_cases hlt : k < 12
    · have k1 : (k : Int) < 12 := by omega
      have hc := own_mk ho k (by omega)
      have hw := own_put ho k (by omega) 1
      rw [newTo_set (by omega)] at hw
      have HB2 := Lib.hid (hb.setCell (p := ⟨g, k, none⟩) (Nat.le_refl _) (.int .u8 1))
      have HO2 := Lib.hid (show (wr.setCell ⟨g, k, none⟩ (.int .u8 1)).ownsRow g 5 1 (.slice (some ⟨g, 0, none⟩) 256 256) 256 (vals (newTo (k + 1))) from hw)
      have hf : wr.frozen? ⟨g, k, none⟩ = false := by
        obtain ⟨cs, hbk⟩ := own_blk ho
        exact hbk.frozen k
      clear ho hb hw
      go_wp2_with fail
      go_roundw
      case rel => exact ⟨k + 1, by omega, by go_num, HO2.out, HB2.out⟩
      case measure => simp [intOf]; omega
    · have hkk : k = 12 := by omega
      rw [hkk] at ho ⊢
      have HO2 := Lib.hid ho
      have HB2 := Lib.hid hb
      clear ho hb hkk hlt hk k0
      go_wp2_with fail
      go_ret
      exact ⟨_, rfl, by rw [HG.out]; exact HO2.out, by rw [HG.out]; exact HB2.out⟩
set_option maxHeartbeats 1000000 in
/-- All free blocks, rising: a list of the call's own. -/
theorem rsAll_any (a : Option Addr) (c B : Nat) (s : List UInt8) (w : World) (hA : Bsl w B a 256 c s) (hB : B ≤ w.heap.size) : Calls Tryz.prog 75 #[.slice a 256 c] w (NewN (freeTo s 256).length (freeTo s 256) w) := by
  obtain ⟨b, off, rfl, _⟩ := hA.at_ (by omega)
  have HA := Lib.hid (hA.more hB)
  clear hA hB
  go_enter Tryz.func75, Tryz.ntmps75
  go_wp2_with fail
  go_loopw [3, 4] (fun v i wr => ∃ k : Nat, k ≤ 256 ∧ i = .int .i64 k ∧ wr.ownsRow w.heap.size 3 1 v (freeTo s k).length (valsN (freeTo s k)) ∧ Below w.heap.size w wr) (fun _ i _ => 256 - (intOf i).toNat)
  case atStart => exact ⟨0, Nat.zero_le _, rfl, World.ownsRow_nil _ _ _ _, Below.refl _ _⟩
  case round =>
    obtain ⟨k, hk, rfl, ho, hb⟩ := hrel
    have k0 : (0 : Int) ≤ k := by omega
    by_cases hlt : k < 256
    · have k1 : (k : Int) < 256 := by omega
      have hc := (HA.out.below hb).mk k hlt
      by_cases hz : mkT s k = 0
      · rw [hz] at hc
        have hl : (freeTo s k).length ≤ k := freeTo_le s k
        have hfy : freeTo s k ++ [k] = freeTo s (k + 1) := (freeTo_yes hz).symm
        have hfl : (freeTo s k).length + 1 = (freeTo s (k + 1)).length := by rw [← hfy]; simp
        have HN1 := Lib.hid (one_nsl wr k)
        have HOr := Lib.hid (ho.alloc (.cells #[.int .i64 (k : Int)] 3))
        have HBr := Lib.hid (hb.alloc hb.size (.cells #[.int .i64 (k : Int)] 3))
        have HFY := Lib.hid hfy
        have HFL := Lib.hid hfl
        clear ho hb hz hfy hfl
        go_wp2_with (at_builtin
                     refine wpList_append_nsl rfl (.tmp 14) (.tmp 16) rfl w.heap.size _ (freeTo s k).length _ rfl HOr.out _ (some ⟨wr.heap.size, 0, none⟩) 1 1 [k] rfl HN1.out (by omega) HBr.out.size ?_
                     intro v' W3 hown' hg'
                     rw [HFY.out, HFL.out] at hown'
                     have HB3 := Lib.hid (app_below HBr.out HOr.out hg' HBr.out.size); clear hg'
                     have HO3 := Lib.hid hown'; clear hown')
        go_roundw
        case rel => exact ⟨k + 1, by omega, by go_num, HO3.out, HB3.out⟩
        case measure => simp [intOf]; omega
      · rw [← freeTo_no hz] at ho
        obtain ⟨x, hx⟩ : ∃ x : Nat, mkT s k = x := ⟨_, rfl⟩
        rw [hx] at hc hz
        have e2 : ((x : Int) == 0) = false := by simp; omega
        have HB2 := Lib.hid hb
        have HO2 := Lib.hid ho
        clear ho hb hz hx
        go_wp2_with fail
        go_roundw
        case rel => exact ⟨k + 1, by omega, by go_num, HO2.out, HB2.out⟩
        case measure => simp [intOf]; omega
    · have hkk : k = 256 := by omega
      rw [hkk] at ho
      have HO2 := Lib.hid ho
      have HB2 := Lib.hid hb
      have k3 : (256 : Int) ≤ k := by omega
      clear ho hb hkk hlt hk
      go_wp2_with fail
      go_ret
      exact ⟨_, rfl, HO2.out, HB2.out⟩
set_option maxHeartbeats 1000000 in
theorem rsWith_any (a : Option Addr) (n c : Nat) (s : List UInt8) (k : Nat) (y : UInt8) (w : World) (hA : Bsl w w.heap.size a n c s) (hk : k < n) (hn : n ≤ 20000) : Calls Tryz.prog 54 #[.slice a n c, .int .i64 k, .int .u8 (y.toNat : Int)] w (OwnV n (s.set k y) w) := by
  have HA := Lib.hid hA
  have HO0 := Lib.hid (own_nil w w.heap.size)
  have HB0 := Lib.hid (Below.refl w.heap.size w)
  have k0 : (0 : Int) ≤ k := by omega
  have k1 : (k : Int) < n := by omega
  have h0n : 0 < n := by omega
  obtain ⟨z, hz⟩ : ∃ z : Int, (y.toNat : Int) = z := ⟨_, rfl⟩
  have HZ := Lib.hid hz
  rw [hz]
  clear hz hA
  go_enter Tryz.func54, Tryz.ntmps54
  go_wp2_with (at_builtin
               refine wpList_append_bsl rfl (.const (.slice none 0 0)) (.tmp 8) rfl w.heap.size _ 0 _ rfl HO0.out _ a n c s rfl HA.out (by omega) HB0.out.size ?_
               intro v1 w1 ho hg1
               rw [Nat.zero_add, List.nil_append] at ho
               have b1 := app_below HB0.out HO0.out hg1 HB0.out.size; clear hg1
               obtain ⟨g, c', rfl⟩ := own_at ho h0n
               have hc := own_mk ho k hk
               have hw := own_put ho k hk y
               rw [HZ.out] at hw
               have hlt := own_lt ho
               have HB := Lib.hid (b1.setCell (p := ⟨g, k, none⟩) hlt.1 (.int .u8 z))
               have HO := Lib.hid hw
               have hf : w1.frozen? ⟨g, k, none⟩ = false := by
                 obtain ⟨cs, hbk⟩ := own_blk ho
                 exact hbk.frozen k
               clear ho b1 hw hlt)
  go_ret
  exact ⟨_, rfl, HO.out, HB.out⟩
end Go.Proofs.YtdpmdlibgabjaaaGreat
/-
  The document's own Free, Take, Give, Settle and Same of layer 12.
-/
namespace Go.Proofs.YtdpmdlibgabjaaaGreat
open Go.RowKit Go.Shelf
set_option maxRecDepth 100000

theorem ownN_slice {w : World} {B n : Nat} {v : Value} {xs : List Value} (h : w.ownsRow B 3 1 v n xs) : ∃ a cap, v = .slice a n cap := by
  rcases h.2 with ⟨rfl, h0⟩ | ⟨g, cap, cur, rfl, _⟩
  · exact ⟨none, 0, by rw [h0]⟩
  · exact ⟨_, _, rfl⟩
end Go.Proofs.YtdpmdlibgabjaaaGreat
/-
  The document's own Great for layer 9: a disk that is not great has few blocks, few writes, few bytes.
-/
namespace Go.Proofs.YtdpmdlibgabjaaaGreat
open Go.RowKit Go.Shelf
set_option maxRecDepth 100000

/-- No piece of a disk is longer than what memory there is. -/
def Near (D : DkL) : Prop := (∀ i, i < D.1.length → (D.1.getD i []).length ≤ 140737488351232) ∧ ∀ i, i < D.2.length → (wr_ D.2 i).2.length ≤ 140737488351232
/-- What a disk that is not great is. -/
def Small (D : DkL) : Prop := D.1.length ≤ 500 ∧ (D.2.length ≤ 500 ∨ 4096 ≤ D.2.length) ∧ D.2.length ≤ 4106 ∧ sumD D < 2000000
/-- What Great answers: if it is no, the disk is small. -/
def GreatSays (D : DkL) (w : World) (e : Ending) (w' : World) : Prop := ∃ b, e = .returned (.bool b) ∧ (b = false → Small D) ∧ Below w.heap.size w w'
theorem small_fits {D : DkL} (h : Small D) : Fits D := ⟨by have := h.1; omega, by have := h.2.2.1; omega, by have := h.2.2.2; omega⟩
theorem great_yes {D : DkL} {w w' : World} (hb : Below w.heap.size w w') : GreatSays D w (.returned (.bool true)) w' := ⟨true, rfl, fun h => (by cases h), hb⟩
set_option maxHeartbeats 4000000 in
theorem rdGreat_any (x : DAt) (D : DkL) (w : World) (h : Dsk w w.heap.size x D) (hnear : Near D) : Calls Tryz.prog 32 #[dval x D] w (GreatSays D w) := by
  obtain ⟨ba, bc, wa, wc⟩ := x
  simp only [dval]
  have l1 := h.1.len_le
  have l2 := h.2.len_le
  obtain ⟨n, hn⟩ : ∃ n, D.1.length = n := ⟨_, rfl⟩
  obtain ⟨m, hm⟩ : ∃ m, D.2.length = m := ⟨_, rfl⟩
  rw [hn] at l1
  rw [hm] at l2
  have n0 : (0 : Int) ≤ n := by omega
  have m0 : (0 : Int) ≤ m := by omega
  have b0 := (Below.refl w.heap.size w).alloc (Nat.le_refl _) (.cells #[.slice ba D.1.length bc, .slice wa D.2.length wc] 25)
  have x0 := Blk.new w 25 #[.slice ba D.1.length bc, .slice wa D.2.length wc]
  have h0 := h.step b0
  rw [hn, hm] at b0 x0 h0 ⊢
  obtain ⟨w0, hw0⟩ : ∃ w0, w.alloc (.cells #[.slice ba n bc, .slice wa m wc] 25) = w0 := ⟨_, rfl⟩
  rw [hw0] at b0 x0 h0
  have c0 := x0.cell 0
  have c1 := x0.cell 1
  obtain ⟨hB, hW⟩ := h0
  simp only [hn, hm] at hB hW
  have HB := Lib.hid hB
  have HW := Lib.hid hW
  have HBl := Lib.hid b0
  have HN := Lib.hid hn
  have HM := Lib.hid hm
  have HNEAR := Lib.hid hnear
  clear h b0 x0 hB hW hn hm hnear
  by_cases hn5 : (500 : Int) < n
  · go_enter Tryz.func32, Tryz.ntmps32
    go_wp2_with fail
    go_ret
    exact great_yes HBl.out
  · by_cases hmid : (500 : Int) < m ∧ (m : Int) < 4096
    · obtain ⟨hm5, hm4⟩ := hmid
      go_enter Tryz.func32, Tryz.ntmps32
      go_wp2_with fail
      go_ret
      exact great_yes HBl.out
    · by_cases hm6 : (4106 : Int) < m
      · have hm5 : (500 : Int) < m := by omega
        have hm4 : ¬ (m : Int) < 4096 := by omega
        clear hmid
        go_enter Tryz.func32, Tryz.ntmps32
        go_wp2_with fail
        go_ret
        exact great_yes HBl.out
      · have hdim : n ≤ 500 ∧ (m ≤ 500 ∨ 4096 ≤ m) ∧ m ≤ 4106 := by omega
        have HDIM := Lib.hid hdim
        have hmb : (500 : Int) < m → ¬ (m : Int) < 4096 := fun hh hk => hmid ⟨hh, hk⟩
        clear hmid hdim
        by_cases hm5 : (500 : Int) < m
        all_goals
          first
            | have hm4 : ¬ (m : Int) < 4096 := hmb hm5
            | have hm4 : True := trivial
          clear hmb
          go_enter Tryz.func32, Tryz.ntmps32
          go_wp2_with fail
          clear hw0 hm4 hm5 hm6 hn5
          go_loop [3, 4] (fun t i => ∃ k : Nat, k ≤ n ∧ i = .int .i64 k ∧ t = .int .i64 (sumB D.1 k : Nat) ∧ sumB D.1 k ≤ 140737490351232) (fun _ i => n - (intOf i).toNat)
          case atStart => exact ⟨0, Nat.zero_le _, rfl, rfl, by simp [sumB]⟩
          case round =>
            obtain ⟨k, hk, rfl, rfl, hts⟩ := hrel
            have k0 : (0 : Int) ≤ k := by omega
            obtain ⟨t, ht⟩ : ∃ t, sumB D.1 k = t := ⟨_, rfl⟩
            rw [ht] at hts ⊢
            have t0 : (0 : Int) ≤ t := by omega
            have t1 : (t : Int) ≤ 140737490351232 := by omega
            by_cases hlt : k < n ∧ t < 2000000
            · obtain ⟨hlt, ht2⟩ := hlt
              have k1 : (k : Int) < n := by omega
              have t2 : (t : Int) < 2000000 := by omega
              obtain ⟨b, off, A, l, c', s, rfl, _, hl, hc, hA⟩ := HB.out.at_ hlt
              have hle := HNEAR.out.1 k (by rw [HN.out]; exact hlt)
              rw [hl, hA.1] at hle
              have hs : sumB D.1 (k + 1) = t + l := by rw [sumB, hl, hA.1, ht]
              have l0 : (0 : Int) ≤ l := by omega
              have l1 : (l : Int) ≤ 140737488351232 := by omega
              have HS := Lib.hid hs
              clear hl hA hs ht
              go_wp2_with fail
              go_round
              case rel => exact ⟨k + 1, by omega, by go_num, by rw [HS.out]; go_num, by rw [HS.out]; omega⟩
              case measure => simp [intOf]; omega
            · have hend : k = n ∨ 2000000 ≤ t := by omega
              have HEND := Lib.hid hend
              have HT := Lib.hid ht
              have hgo : ((k : Int) < n → ¬ (t : Int) < 2000000) := by omega
              clear hend ht hlt
              by_cases hkn : (k : Int) < n
              all_goals
                first
                  | have t3 : ¬ (t : Int) < 2000000 := hgo hkn
                  | have t3 : True := trivial
                clear hgo
                go_wp2_with fail
                clear hkn t3
                go_loop [3, 5] (fun u i => ∃ j : Nat, j ≤ m ∧ i = .int .i64 j ∧ u = .int .i64 (t + sumW D.2 j : Nat) ∧ t + sumW D.2 j ≤ 281474980702464) (fun _ i => m - (intOf i).toNat)
                case atStart => exact ⟨0, Nat.zero_le _, rfl, rfl, by simp [sumW]; omega⟩
                case round =>
                  obtain ⟨j, hj, rfl, rfl, hus⟩ := hrel
                  have j0 : (0 : Int) ≤ j := by omega
                  obtain ⟨u, hu⟩ : ∃ u, t + sumW D.2 j = u := ⟨_, rfl⟩
                  rw [hu] at hus ⊢
                  have u0 : (0 : Int) ≤ u := by omega
                  have u1 : (u : Int) ≤ 281474980702464 := by omega
                  by_cases hlt : j < m ∧ u < 2000000
                  · obtain ⟨hlt, hu2⟩ := hlt
                    have j1 : (j : Int) < m := by omega
                    have u2 : (u : Int) < 2000000 := by omega
                    obtain ⟨b, off, p, A, l, c', s, rfl, _, hl, _, hc, hd, hA⟩ := HW.out.at_ hlt
                    have hle := HNEAR.out.2 j (by rw [HM.out]; exact hlt)
                    rw [hl, hA.1] at hle
                    have hs : t + sumW D.2 (j + 1) = u + l := by rw [sumW, hl, hA.1, ← Nat.add_assoc, hu]
                    have l0 : (0 : Int) ≤ l := by omega
                    have l1 : (l : Int) ≤ 140737488351232 := by omega
                    have HS := Lib.hid hs
                    clear hl hA hs hu
                    go_wp2_with fail
                    go_round
                    case rel => exact ⟨j + 1, by omega, by go_num, by rw [HS.out]; go_num, by rw [HS.out]; omega⟩
                    case measure => simp [intOf]; omega
                  · have hend2 : j = m ∨ 2000000 ≤ u := by omega
                    have hsay : decide ((2000000 : Int) ≤ u) = false → Small D := by
                      intro hh
                      have hu3 : ¬ (2000000 : Int) ≤ u := by simpa using hh
                      have hju : j = m := by omega
                      have e1 := HEND.out
                      have hkn : k = n := by omega
                      obtain ⟨d1, d2, d3⟩ := HDIM.out
                      refine ⟨by rw [HN.out]; exact d1, by rw [HM.out]; exact d2, by rw [HM.out]; exact d3, ?_⟩
                      unfold sumD
                      rw [HN.out, HM.out, ← hju, ← hkn, HT.out]
                      omega
                    have hgo2 : ((j : Int) < m → ¬ (u : Int) < 2000000) := by omega
                    have HSAY := Lib.hid hsay
                    clear hsay hend2 hlt hu
                    by_cases hjm : (j : Int) < m
                    all_goals
                      first
                        | have u3 : ¬ (u : Int) < 2000000 := hgo2 hjm
                        | have u3 : True := trivial
                      clear hgo2
                      go_wp2_with fail
                      go_ret
                      first | exact ⟨_, rfl, HSAY.out, HBl.out⟩ | exact great_yes HBl.out
end Go.Proofs.YtdpmdlibgabjaaaGreat
/-
  The document's own functions of layer 13: May, Check, Great.
-/
namespace Go.Proofs.YtdpmdlibgabjaaaGreat
open Go.RowKit Go.Shelf
set_option maxRecDepth 100000

theorem st_box (w : World) (x : SAt) (S : StL) : Blk (w.alloc (.cells (stC x S) 29)) w.heap.size 29 (stC x S) ∧ Below w.heap.size w (w.alloc (.cells (stC x S) 29)) := ⟨Blk.new w _ _, (Below.refl _ w).alloc (Nat.le_refl _) _⟩
section
variable {w : World} {g : Nat} {t : TypeId} {x : SAt} {S : StL}
theorem stC0 (h : Blk w g t (stC x S)) : w.cell? ⟨g, 0, none⟩ = some (.slice x.d.ba S.1.1.length x.d.bc) := h.cell 0
theorem stC1 (h : Blk w g t (stC x S)) : w.cell? ⟨g, 1, none⟩ = some (.slice x.d.wa S.1.2.length x.d.wc) := h.cell 1
theorem stC2 (h : Blk w g t (stC x S)) : w.cell? ⟨g, 2, none⟩ = some (.slice x.a S.2.1.length x.c) := h.cell 2
theorem stC3 (h : Blk w g t (stC x S)) : w.cell? ⟨g, 3, none⟩ = some (.int .u32 (S.2.2.1 : Int)) := h.cell 3
theorem stC4 (h : Blk w g t (stC x S)) : w.cell? ⟨g, 4, none⟩ = some (.int .u32 (S.2.2.2 : Int)) := h.cell 4
end
set_option maxHeartbeats 2000000 in
theorem rtMay_any (L : Nat) (x : SAt) (S : StL) (w : World) (h : StP L w x S) (R : Bool) (hR : R = true ↔ MayS S) : Calls Tryz.prog 38 #[stV x S] w fun e w' => e = .returned (.bool R) ∧ Below w.heap.size w w' := by
  obtain ⟨xb, b0⟩ := st_box w x S
  obtain ⟨w0, hw0⟩ : ∃ w0, w.alloc (.cells (stC x S) 29) = w0 := ⟨_, rfl⟩
  rw [hw0] at xb b0
  have h0 := h.bel b0
  have c0 := stC0 xb
  have c1 := stC1 xb
  have HX := Lib.hid xb
  have HB := Lib.hid b0
  have HS := Lib.hid h0
  have hm := rdMay_any x.d S.1 w0 h0.now.1
  simp only [dval] at hm
  simp only [stC] at hw0
  clear h h0 xb b0
  have n3 : (0 : Int) ≤ (S.2.2.2 : Int) := by omega
  have n4 : (0 : Int) ≤ (S.2.2.1 : Int) := by omega
  by_cases hd : MayD S.1
  · rw [decide_eq_true hd] at hm
    have HM2 := Lib.hid hm
    clear hm
    by_cases ht : MayT S.2.1
    · by_cases e1 : 1 ≤ S.2.2.1
      · have n0 : (1 : Int) ≤ (S.2.2.1 : Int) := by omega
        by_cases e2 : S.2.2.1 ≤ 65535
        · have n1 : (S.2.2.1 : Int) ≤ 65535 := by omega
          by_cases e3 : S.2.2.2 ≤ 65535
          · have n2 : (S.2.2.2 : Int) ≤ 65535 := by omega
            obtain rfl : R = true := hR.2 ⟨hd, ht, ⟨e1, e2⟩, e3⟩
            clear hR e1 e2 e3 hd
            go_enter Tryz.func38, Tryz.ntmps38
            go_wp2_with fail
            clear c0 c1
            refine HM2.out.mono ?_
            rintro e w1 ⟨rfl, b1⟩
            have x1 := HX.out.below b1 HX.out.lt
            have c2 := stC2 x1
            have c3 := stC3 x1
            have c4 := stC4 x1
            have HC := Lib.hid (rsMay_yes x.a S.2.1.length x.c _ S.2.1 w1 (HS.out.bel b1).now.2 ht)
            have HB1 := Lib.hid (HB.out.trans (b1.mono HB.out.size))
            clear b1 x1 ht
            go_wp2_with fail
            refine HC.out.mono ?_
            rintro e w2 ⟨rfl, rfl⟩
            go_wp2_with fail
            go_ret
            exact ⟨rfl, HB1.out⟩
          · have n2 : ¬ (S.2.2.2 : Int) ≤ 65535 := by omega
            obtain rfl : R = false := by cases R with | false => rfl | true => exact absurd (hR.1 rfl) (fun hh => e3 hh.2.2.2)
            clear hR e1 e2 e3 hd
            go_enter Tryz.func38, Tryz.ntmps38
            go_wp2_with fail
            clear c0 c1
            refine HM2.out.mono ?_
            rintro e w1 ⟨rfl, b1⟩
            have x1 := HX.out.below b1 HX.out.lt
            have c2 := stC2 x1
            have c3 := stC3 x1
            have c4 := stC4 x1
            have HC := Lib.hid (rsMay_yes x.a S.2.1.length x.c _ S.2.1 w1 (HS.out.bel b1).now.2 ht)
            have HB1 := Lib.hid (HB.out.trans (b1.mono HB.out.size))
            clear b1 x1 ht
            go_wp2_with fail
            refine HC.out.mono ?_
            rintro e w2 ⟨rfl, rfl⟩
            go_wp2_with fail
            go_ret
            exact ⟨by simp; omega, HB1.out⟩
        · have n1 : ¬ (S.2.2.1 : Int) ≤ 65535 := by omega
          obtain rfl : R = false := by cases R with | false => rfl | true => exact absurd (hR.1 rfl) (fun hh => e2 hh.2.2.1.2)
          clear hR e1 e2 hd
          go_enter Tryz.func38, Tryz.ntmps38
          go_wp2_with fail
          clear c0 c1
          refine HM2.out.mono ?_
          rintro e w1 ⟨rfl, b1⟩
          have x1 := HX.out.below b1 HX.out.lt
          have c2 := stC2 x1
          have c3 := stC3 x1
          have c4 := stC4 x1
          have HC := Lib.hid (rsMay_yes x.a S.2.1.length x.c _ S.2.1 w1 (HS.out.bel b1).now.2 ht)
          have HB1 := Lib.hid (HB.out.trans (b1.mono HB.out.size))
          clear b1 x1 ht
          go_wp2_with fail
          refine HC.out.mono ?_
          rintro e w2 ⟨rfl, rfl⟩
          go_wp2_with fail
          go_ret
          exact ⟨rfl, HB1.out⟩
      · have n0 : ¬ (1 : Int) ≤ (S.2.2.1 : Int) := by omega
        obtain rfl : R = false := by cases R with | false => rfl | true => exact absurd (hR.1 rfl) (fun hh => e1 hh.2.2.1.1)
        clear hR e1 hd
        go_enter Tryz.func38, Tryz.ntmps38
        go_wp2_with fail
        clear c0 c1
        refine HM2.out.mono ?_
        rintro e w1 ⟨rfl, b1⟩
        have x1 := HX.out.below b1 HX.out.lt
        have c2 := stC2 x1
        have c3 := stC3 x1
        have c4 := stC4 x1
        have HC := Lib.hid (rsMay_yes x.a S.2.1.length x.c _ S.2.1 w1 (HS.out.bel b1).now.2 ht)
        have HB1 := Lib.hid (HB.out.trans (b1.mono HB.out.size))
        clear b1 x1 ht
        go_wp2_with fail
        refine HC.out.mono ?_
        rintro e w2 ⟨rfl, rfl⟩
        go_wp2_with fail
        go_ret
        exact ⟨rfl, HB1.out⟩
    · obtain rfl : R = false := by cases R with | false => rfl | true => exact absurd (hR.1 rfl) (fun hh => ht hh.2.1)
      clear hR hd
      go_enter Tryz.func38, Tryz.ntmps38
      go_wp2_with fail
      clear c0 c1
      refine HM2.out.mono ?_
      rintro e w1 ⟨rfl, b1⟩
      have x1 := HX.out.below b1 HX.out.lt
      have c2 := stC2 x1
      have c3 := stC3 x1
      have c4 := stC4 x1
      have HC := Lib.hid (rsMay_no x.a S.2.1.length x.c _ S.2.1 w1 (HS.out.bel b1).now.2 ht)
      have HB1 := Lib.hid (HB.out.trans (b1.mono HB.out.size))
      clear b1 x1 ht
      go_wp2_with fail
      refine HC.out.mono ?_
      rintro e w2 ⟨rfl, rfl⟩
      go_wp2_with fail
      go_ret
      exact ⟨rfl, HB1.out⟩
  · rw [decide_eq_false hd] at hm
    have HM2 := Lib.hid hm
    clear hm
    obtain rfl : R = false := by cases R with | false => rfl | true => exact absurd (hR.1 rfl) (fun hh => hd hh.1)
    clear hR hd
    go_enter Tryz.func38, Tryz.ntmps38
    go_wp2_with fail
    clear c0 c1
    refine HM2.out.mono ?_
    rintro e w1 ⟨rfl, b1⟩
    have HB1 := Lib.hid (HB.out.trans (b1.mono HB.out.size))
    clear b1
    go_wp2_with fail
    go_ret
    exact ⟨rfl, HB1.out⟩
theorem rtCheck_any (L : Nat) (x : SAt) (S : StL) (w : World) (h : StP L w x S) (c : Nat) (hc : (MayS S → c = 0) ∧ (¬ MayS S → c = 8)) : Calls Tryz.prog 24 #[stV x S] w fun e w' => e = .returned (.int .i64 c) ∧ Below w.heap.size w w' := by
  obtain ⟨xb, b0⟩ := st_box w x S
  obtain ⟨w0, hw0⟩ : ∃ w0, w.alloc (.cells (stC x S) 29) = w0 := ⟨_, rfl⟩
  rw [hw0] at xb b0
  have c0 := stC0 xb
  have c1 := stC1 xb
  have c2 := stC2 xb
  have c3 := stC3 xb
  have c4 := stC4 xb
  have HB := Lib.hid b0
  have HMY := fun R hR => rtMay_any L x S w0 (h.bel b0) R hR
  simp only [stC] at hw0
  clear h xb b0
  by_cases hm : MayS S
  · obtain rfl : c = 0 := hc.1 hm
    have HM := Lib.hid (HMY true ⟨fun _ => hm, fun _ => rfl⟩)
    clear HMY hc hm
    go_enter Tryz.func24, Tryz.ntmps24
    go_wp2_with fail
    refine HM.out.mono ?_
    rintro e w1 ⟨rfl, b1⟩
    have HB1 := Lib.hid (HB.out.trans (b1.mono HB.out.size))
    clear b1 c0 c1 c2 c3 c4
    go_wp2_with fail
    go_ret
    exact ⟨rfl, HB1.out⟩
  · obtain rfl : c = 8 := hc.2 hm
    have HM := Lib.hid (HMY false ⟨fun h => (by cases h), fun h => absurd h hm⟩)
    clear HMY hc hm
    go_enter Tryz.func24, Tryz.ntmps24
    go_wp2_with fail
    refine HM.out.mono ?_
    rintro e w1 ⟨rfl, b1⟩
    have HB1 := Lib.hid (HB.out.trans (b1.mono HB.out.size))
    clear b1 c0 c1 c2 c3 c4
    go_wp2_with fail
    go_ret
    exact ⟨rfl, HB1.out⟩
/-- What Great answers: if it is no, the store is small. -/
def GreatSt (S : StL) (w : World) (e : Ending) (w' : World) : Prop := ∃ b, e = .returned (.bool b) ∧ (b = false → Small S.1 ∧ S.2.1.length ≤ 10000) ∧ Below w.heap.size w w'
set_option maxHeartbeats 1000000 in
theorem rtGreat_any (L : Nat) (x : SAt) (S : StL) (w : World) (h : StP L w x S) (hn : Near S.1) : Calls Tryz.prog 7 #[stV x S] w (GreatSt S w) := by
  obtain ⟨xb, b0⟩ := st_box w x S
  obtain ⟨w0, hw0⟩ : ∃ w0, w.alloc (.cells (stC x S) 29) = w0 := ⟨_, rfl⟩
  rw [hw0] at xb b0
  have h0 := h.bel b0
  have c0 := stC0 xb
  have c1 := stC1 xb
  have HX := Lib.hid xb
  have HB := Lib.hid b0
  have HS := Lib.hid h0
  have hm := rdGreat_any x.d S.1 w0 h0.now.1 hn
  simp only [dval] at hm
  have HM := Lib.hid hm
  have l1 := h0.now.2.len_le
  clear hm hn
  simp only [stC] at hw0
  clear h h0 xb b0
  go_enter Tryz.func7, Tryz.ntmps7
  go_wp2_with fail
  clear c0 c1
  refine HM.out.mono ?_
  rintro e w1 ⟨r, rfl, hs, b1⟩
  have c2 := stC2 (HX.out.below b1 HX.out.lt)
  have HB1 := Lib.hid (HB.out.trans (b1.mono HB.out.size))
  clear b1
  cases r with
  | true =>
    clear hs
    go_wp2_with fail
    go_ret
    exact ⟨true, rfl, fun h => (by cases h), HB1.out⟩
  | false =>
    have HSM := Lib.hid (hs rfl)
    clear hs
    by_cases h5 : (10000 : Int) < (S.2.1.length : Int)
    · go_wp2_with fail
      go_ret
      exact ⟨true, rfl, fun h => (by cases h), HB1.out⟩
    · have h6 : S.2.1.length ≤ 10000 := by omega
      have H6 := Lib.hid h6
      have h7 : (S.2.1.length : Int) ≤ 10000 := by omega
      clear h5 h6
      go_wp2_with fail
      go_ret
      exact ⟨false, by simp; omega, fun _ => ⟨HSM.out, H6.out⟩, HB1.out⟩
end Go.Proofs.YtdpmdlibgabjaaaGreat
/-
  dev.Same tells whether all fields of two disks are the same.
-/
namespace Go.Proofs.YtdpmdlibgabjaaaGreat
open Go.RowKit Go.Shelf
set_option maxRecDepth 100000

theorem ext_bls {a b : List (List UInt8)} (h : a.length = b.length) (he : ∀ i, i < a.length → a.getD i [] = b.getD i []) : a = b := by
  apply List.ext_getElem h
  intro i h1 h2
  have := he i h1
  simpa [List.getD_eq_getElem?_getD, h1, h2] using this
theorem ext_wts {a b : WrL} (h : a.length = b.length) (he : ∀ i, i < a.length → wr_ a i = wr_ b i) : a = b := by
  apply List.ext_getElem h
  intro i h1 h2
  have := he i h1
  unfold wr_ at this
  simpa [List.getD_eq_getElem?_getD, h1, h2] using this
theorem dEqual_any (a : Option Addr) (la ca : Nat) (s : List UInt8) (b : Option Addr) (lb cb : Nat) (t : List UInt8) (A B : Nat) (w : World) (hA : Bsl w A a la ca s) (hB : Bsl w B b lb cb t) (r : Bool) (hr : r = true ↔ s = t) :
    Calls Tryz.prog 56 #[.slice a la ca, .slice b lb cb] w fun e w' => e = .returned (.bool r) ∧ w = w' := by
  have c1 := hA.conv
  have c2 := hB.conv
  have eq : ((strOf s).toList == (strOf t).toList) = r := by
    rw [strOf_toList, strOf_toList]
    cases r with
    | true => simp [hr.1 rfl]
    | false =>
      have : s ≠ t := fun h => by have := hr.2 h; cases this
      simp [this]
  have HE := Lib.hid eq; clear eq hA hB hr
  go_enter Tryz.func56, Tryz.ntmps56
  go_wp2_with fail
  go_ret
  exact ⟨by rw [← HE.out]; rfl, rfl⟩
/-- slices.EqualFunc over blocks: unlike in number. -/
theorem dEqB_len (a : Option Addr) (n c : Nat) (b : Option Addr) (m d : Nat) (w : World) (hne : n ≠ m) :
    Calls Tryz.prog 63 #[.slice a n c, .slice b m d, .func (.func 56) #[] #[]] w fun e w' => e = .returned (.bool false) ∧ w = w' := by
  have h : ((n : Int) != m) = true := by simp; omega
  go_enter Tryz.func63, Tryz.ntmps63
  go_wp2_with fail
  go_ret
  exact ⟨rfl, rfl⟩
/-- Alike up to j, and at j as r says; r is true where j is the number of them all. -/
theorem dEqB_any (a : Option Addr) (n c : Nat) (bl : List (List UInt8)) (b : Option Addr) (d : Nat) (bl' : List (List UInt8)) (w : World) (hA : Bls w w.heap.size a n c bl) (hB : Bls w w.heap.size b n d bl') (j : Nat) (hj : j ≤ n) (hall : ∀ i, i < j → bl.getD i [] = bl'.getD i []) (hlast : j < n → bl.getD j [] ≠ bl'.getD j []) :
    Calls Tryz.prog 63 #[.slice a n c, .slice b n d, .func (.func 56) #[] #[]] w fun e w' => e = .returned (.bool (decide (j = n))) ∧ w = w' := by
  have n0 : (0 : Int) ≤ n := by omega
  have n1 := hA.len_le
  have h0 : ((n : Int) != n) = false := by simp
  obtain ⟨r, hr⟩ : ∃ r, decide (j = n) = r := ⟨_, rfl⟩
  rw [hr]
  have HA := Lib.hid hA
  have HB := Lib.hid hB
  have HALL := Lib.hid hall
  have HLAST := Lib.hid hlast
  have HR := Lib.hid hr
  clear hA hB hall hlast hr
  go_enter Tryz.func63, Tryz.ntmps63
  go_wp2_with fail
  clear h0
  go_loop [17] (fun i => ∃ k : Nat, k ≤ j ∧ i = .int .i64 k) (fun i => n - (intOf i).toNat)
  case atStart => exact ⟨0, Nat.zero_le _, rfl⟩
  case round =>
    obtain ⟨k, hk, rfl⟩ := hrel
    have k0 : (0 : Int) ≤ k := by omega
    by_cases hlt : k < n
    · have k1 : (k : Int) < n := by omega
      obtain ⟨ba, oa, A, l, c', s, hae, _, hl, hc, hs⟩ := HA.out.at_ hlt
      obtain ⟨bb, ob, A2, l2, c2, t, hbe, _, hl2, hc2, ht⟩ := HB.out.at_ hlt
      obtain rfl : a = some ⟨ba, oa, none⟩ := hae
      obtain rfl : b = some ⟨bb, ob, none⟩ := hbe
      by_cases hkj : k < j
      · have hx := dEqual_any A l c' s A2 l2 c2 t _ _ w hs ht true ⟨fun _ => by rw [← hl, ← hl2]; exact HALL.out k hkj, fun _ => rfl⟩
        have HX := Lib.hid hx
        clear hx hl hl2 hs ht
        go_wp2_with fail
        refine HX.out.mono ?_
        rintro e w1 ⟨rfl, rfl⟩
        go_wp2_with fail
        go_round
        case rel => exact ⟨k + 1, by omega, by go_num⟩
        case measure => simp [intOf]; omega
      · obtain rfl : k = j := by omega
        have hx := dEqual_any A l c' s A2 l2 c2 t _ _ w hs ht false ⟨fun h => (by cases h), fun h => absurd (by rw [hl, hl2]; exact h) (HLAST.out hlt)⟩
        have hrf : r = false := by rw [← HR.out]; exact decide_eq_false (by omega)
        subst hrf
        have HX := Lib.hid hx
        clear hx hl hl2 hs ht
        go_wp2_with fail
        refine HX.out.mono ?_
        rintro e w1 ⟨rfl, rfl⟩
        go_wp2_with fail
        go_ret
        exact ⟨rfl, rfl⟩
    · have hkn : k = n := by omega
      have hrt : r = true := by rw [← HR.out]; exact decide_eq_true (by omega)
      subst hrt
      subst hkn
      go_wp2_with fail
      go_ret
      exact ⟨rfl, rfl⟩
/-- The first place where two rows part. -/
theorem part_at (n : Nat) (P : Nat → Prop) : ∃ j, j ≤ n ∧ (∀ i, i < j → P i) ∧ (j < n → ¬ P j) := by
  induction n with
  | zero => exact ⟨0, Nat.le_refl _, fun i h => absurd h (Nat.not_lt_zero _), fun h => absurd h (Nat.lt_irrefl _)⟩
  | succ n ih =>
    obtain ⟨j, h1, h2, h3⟩ := ih
    rcases Nat.lt_or_ge j n with h | h
    · exact ⟨j, by omega, h2, fun _ => h3 h⟩
    · obtain rfl : j = n := by omega
      by_cases hp : P j
      · refine ⟨j + 1, Nat.le_refl _, fun i hi => ?_, fun h => absurd h (Nat.lt_irrefl _)⟩
        rcases Nat.lt_or_ge i j with h4 | h4
        · exact h2 i h4
        · obtain rfl : i = j := by omega
          exact hp
      · exact ⟨j, by omega, h2, fun _ => hp⟩
/-- slices.EqualFunc over blocks. -/
theorem dSameB_any (a : Option Addr) (n c : Nat) (bl : List (List UInt8)) (b : Option Addr) (m d : Nat) (bl' : List (List UInt8)) (w : World) (hA : Bls w w.heap.size a n c bl) (hB : Bls w w.heap.size b m d bl') (r : Bool) (hr : r = true ↔ bl = bl') :
    Calls Tryz.prog 63 #[.slice a n c, .slice b m d, .func (.func 56) #[] #[]] w fun e w' => e = .returned (.bool r) ∧ w = w' := by
  by_cases hnm : n = m
  · subst hnm
    obtain ⟨j, h1, h2, h3⟩ := part_at n (fun i => bl.getD i [] = bl'.getD i [])
    have e : decide (j = n) = r := by
      by_cases hj : j = n
      · subst hj
        rw [decide_eq_true rfl, hr.2 (ext_bls (by rw [hA.1, hB.1]) (by rw [hA.1]; exact h2))]
      · rw [decide_eq_false hj]
        cases r with
        | false => rfl
        | true => exact absurd (by rw [hr.1 rfl]) (h3 (by omega))
    rw [← e]
    exact dEqB_any a n c bl b d bl' w hA hB j h1 h2 h3
  · have : r = false := by
      cases r with
      | false => rfl
      | true => exact absurd (by rw [← hA.1, ← hB.1, hr.1 rfl]) hnm
    subst this
    exact dEqB_len a n c b m d w hnm
theorem dSameWr_any (p : Int) (a : Option Addr) (la ca : Nat) (s : List UInt8) (q : Int) (b : Option Addr) (lb cb : Nat) (t : List UInt8) (w : World) (hA : Bsl w w.heap.size a la ca s) (hB : Bsl w w.heap.size b lb cb t) (r : Bool) (hr : r = true ↔ (p, s) = (q, t)) :
    Calls Tryz.prog 65 #[.agg #[.int .i64 p, .slice a la ca], .agg #[.int .i64 q, .slice b lb cb]] w fun e w' => e = .returned (.bool r) ∧ Below w.heap.size w w' := by
  have b0 := ((Below.refl w.heap.size w).alloc (Nat.le_refl _) (.cells #[.int .i64 p, .slice a la ca] 75)).alloc (by simp) (.cells #[.int .i64 q, .slice b lb cb] 75)
  by_cases hpq : p = q
  · subst hpq
    have h0 : (p == p) = true := by simp
    have HE := Lib.hid (dEqual_any a la ca s b lb cb t _ _ _ (hA.step b0) (hB.step b0) r (hr.trans ⟨fun h => (Prod.mk.inj h).2, fun h => by rw [h]⟩))
    have HB0 := Lib.hid b0
    clear hA hB hr b0
    go_enter Tryz.func65, Tryz.ntmps65
    go_wp2_with fail
    refine HE.out.mono ?_
    rintro e w1 ⟨rfl, rfl⟩
    go_wp2_with fail
    go_ret
    exact ⟨rfl, HB0.out⟩
  · have h0 : (p == q) = false := by simpa using hpq
    have : r = false := by
      cases r with
      | false => rfl
      | true => exact absurd (Prod.mk.inj (hr.1 rfl)).1 hpq
    subst this
    have HB0 := Lib.hid b0
    clear hA hB hr b0 hpq
    go_enter Tryz.func65, Tryz.ntmps65
    go_wp2_with fail
    go_ret
    exact ⟨rfl, HB0.out⟩
theorem dEqW_len (a : Option Addr) (n c : Nat) (b : Option Addr) (m d : Nat) (w : World) (hne : n ≠ m) :
    Calls Tryz.prog 64 #[.slice a n c, .slice b m d, .func (.func 65) #[] #[]] w fun e w' => e = .returned (.bool false) ∧ Below w.heap.size w w' := by
  have h : ((n : Int) != m) = true := by simp; omega
  go_enter Tryz.func64, Tryz.ntmps64
  go_wp2_with fail
  go_ret
  exact ⟨rfl, Below.refl _ _⟩
set_option maxHeartbeats 1000000 in
theorem dEqW_any (a : Option Addr) (n c : Nat) (bl : WrL) (b : Option Addr) (d : Nat) (bl' : WrL) (w : World) (hA : Wts w w.heap.size a n c bl) (hB : Wts w w.heap.size b n d bl') (j : Nat) (hj : j ≤ n) (hall : ∀ i, i < j → wr_ bl i = wr_ bl' i) (hlast : j < n → wr_ bl j ≠ wr_ bl' j) :
    Calls Tryz.prog 64 #[.slice a n c, .slice b n d, .func (.func 65) #[] #[]] w fun e w' => e = .returned (.bool (decide (j = n))) ∧ Below w.heap.size w w' := by
  have n0 : (0 : Int) ≤ n := by omega
  have n1 := hA.len_le
  have h0 : ((n : Int) != n) = false := by simp
  obtain ⟨r, hr⟩ : ∃ r, decide (j = n) = r := ⟨_, rfl⟩
  rw [hr]
  have HA := Lib.hid hA
  have HB := Lib.hid hB
  have HALL := Lib.hid hall
  have HLAST := Lib.hid hlast
  have HR := Lib.hid hr
  clear hA hB hall hlast hr
  go_enter Tryz.func64, Tryz.ntmps64
  go_wp2_with fail
  clear h0
  go_loopw [17] (fun i wr => ∃ k : Nat, k ≤ j ∧ i = .int .i64 k ∧ Hid (Below w.heap.size w wr)) (fun i _ => n - (intOf i).toNat)
  case atStart => exact ⟨0, Nat.zero_le _, rfl, Lib.hid (Below.refl _ _)⟩
  case round =>
    obtain ⟨k, hk, rfl, HBr⟩ := hrel
    have k0 : (0 : Int) ≤ k := by omega
    by_cases hlt : k < n
    · have k1 : (k : Int) < n := by omega
      obtain ⟨ba, oa, p, A, l, c', s, hae, hba, hl, _, hc, hcd, hs⟩ := HA.out.at_ hlt
      obtain ⟨bb, ob, q, A2, l2, c2, t, hbe, hbb, hl2, _, hc2, hcd2, ht⟩ := HB.out.at_ hlt
      obtain rfl : a = some ⟨ba, oa, none⟩ := hae
      obtain rfl : b = some ⟨bb, ob, none⟩ := hbe
      have a1 := (HBr.out.cell (p := ⟨ba, oa + k * 2, none⟩) hba).trans hc
      have a2 := (HBr.out.cell (p := ⟨ba, oa + k * 2 + 1, none⟩) hba).trans hcd
      have b1 := Below.alloc HBr.out HBr.out.size (.cells #[.int .i64 p, .slice A l c'] 75)
      have a3 := (b1.cell (p := ⟨bb, ob + k * 2, none⟩) hbb).trans hc2
      have a4 := (b1.cell (p := ⟨bb, ob + k * 2 + 1, none⟩) hbb).trans hcd2
      have b2 := Below.alloc b1 b1.size (.cells #[.int .i64 q, .slice A2 l2 c2] 75)
      have hx := fun r hr => dSameWr_any p A l c' s q A2 l2 c2 t _ ((hs.below b2).more b2.size) ((ht.below b2).more b2.size) r hr
      have x1 := ((Blk.new wr 75 #[.int .i64 p, .slice A l c']).alloc (.cells #[.int .i64 q, .slice A2 l2 c2] 75))
      have x2 := Blk.new (wr.alloc (.cells #[.int .i64 p, .slice A l c'] 75)) 75 #[.int .i64 q, .slice A2 l2 c2]
      have HB2 := Lib.hid b2
      by_cases hkj : k < j
      · have HX := Lib.hid (hx true ⟨fun _ => by rw [← hl, ← hl2]; exact HALL.out k hkj, fun _ => rfl⟩)
        clear hx hl hl2 hs ht hc hc2 hcd hcd2 b1 b2 x1 x2 HBr
        go_wp2_with fail
        refine HX.out.mono ?_
        rintro e w1 ⟨rfl, b3⟩
        have HB3 := Lib.hid (HB2.out.trans (b3.mono HB2.out.size))
        clear b3 a1 a2 a3 a4
        go_wp2_with fail
        go_roundw
        case rel => exact ⟨k + 1, by omega, by go_num, HB3⟩
        case measure => simp [intOf]; omega
      · obtain rfl : k = j := by omega
        have hrf : r = false := by rw [← HR.out]; exact decide_eq_false (by omega)
        subst hrf
        have HX := Lib.hid (hx false ⟨fun h => (by cases h), fun h => absurd (by rw [hl, hl2]; exact h) (HLAST.out hlt)⟩)
        clear hx hl hl2 hs ht hc hc2 hcd hcd2 b1 b2 x1 x2 HBr
        go_wp2_with fail
        refine HX.out.mono ?_
        rintro e w1 ⟨rfl, b3⟩
        have HB3 := Lib.hid (HB2.out.trans (b3.mono HB2.out.size))
        clear b3 a1 a2 a3 a4
        go_wp2_with fail
        go_ret
        exact ⟨rfl, HB3.out⟩
    · have hkn : k = n := by omega
      have hrt : r = true := by rw [← HR.out]; exact decide_eq_true (by omega)
      subst hrt
      subst hkn
      go_wp2_with fail
      go_ret
      exact ⟨rfl, HBr.out⟩
theorem dSameW_any (a : Option Addr) (n c : Nat) (bl : WrL) (b : Option Addr) (m d : Nat) (bl' : WrL) (w : World) (hA : Wts w w.heap.size a n c bl) (hB : Wts w w.heap.size b m d bl') (r : Bool) (hr : r = true ↔ bl = bl') :
    Calls Tryz.prog 64 #[.slice a n c, .slice b m d, .func (.func 65) #[] #[]] w fun e w' => e = .returned (.bool r) ∧ Below w.heap.size w w' := by
  by_cases hnm : n = m
  · subst hnm
    obtain ⟨j, h1, h2, h3⟩ := part_at n (fun i => wr_ bl i = wr_ bl' i)
    have e : decide (j = n) = r := by
      by_cases hj : j = n
      · subst hj
        rw [decide_eq_true rfl, hr.2 (ext_wts (by rw [hA.1, hB.1]) (by rw [hA.1]; exact h2))]
      · rw [decide_eq_false hj]
        cases r with
        | false => rfl
        | true => exact absurd (by rw [hr.1 rfl]) (h3 (by omega))
    rw [← e]
    exact dEqW_any a n c bl b d bl' w hA hB j h1 h2 h3
  · have : r = false := by
      cases r with
      | false => rfl
      | true => exact absurd (by rw [← hA.1, ← hB.1, hr.1 rfl]) hnm
    subst this
    exact dEqW_len a n c b m d w hnm
/-- dev.Same. -/
theorem dSame_any (x : DAt) (D : DkL) (y : DAt) (E : DkL) (w : World) (h : Dsk w w.heap.size x D) (h' : Dsk w w.heap.size y E) (r : Bool) (hr : r = true ↔ D = E) :
    Calls Tryz.prog 31 #[dval x D, dval y E] w fun e w' => e = .returned (.bool r) ∧ Below w.heap.size w w' := by
  obtain ⟨w0, hw0⟩ : ∃ w0, (w.alloc (.cells #[.slice x.ba D.1.length x.bc, .slice x.wa D.2.length x.wc] 25)).alloc (.cells #[.slice y.ba E.1.length y.bc, .slice y.wa E.2.length y.wc] 25) = w0 := ⟨_, rfl⟩
  have b0 : Below w.heap.size w w0 := by rw [← hw0]; exact ((Below.refl _ w).alloc (Nat.le_refl _) _).alloc (by simp) _
  have x0 : Blk w0 w.heap.size 25 #[.slice x.ba D.1.length x.bc, .slice x.wa D.2.length x.wc] := by rw [← hw0]; exact (Blk.new w _ _).alloc _
  have y0 : Blk w0 (w.heap.size + 1) 25 #[.slice y.ba E.1.length y.bc, .slice y.wa E.2.length y.wc] := by
    have := Blk.new (w.alloc (.cells #[.slice x.ba D.1.length x.bc, .slice x.wa D.2.length x.wc] 25)) 25 #[.slice y.ba E.1.length y.bc, .slice y.wa E.2.length y.wc]
    rw [World.size_alloc, hw0] at this
    exact this
  have c0 := x0.cell 0
  have c1 := x0.cell 1
  have d0 := y0.cell 0
  have d1 := y0.cell 1
  have hb1 := fun r hr => dSameB_any x.ba D.1.length x.bc D.1 y.ba E.1.length y.bc E.1 w0 (h.step b0).1 (h'.step b0).1 r hr
  simp only [dval]
  by_cases hB : D.1 = E.1
  · have HB := Lib.hid (hb1 true ⟨fun _ => hB, fun _ => rfl⟩)
    have HW := Lib.hid (dSameW_any x.wa D.2.length x.wc D.2 y.wa E.2.length y.wc E.2 w0 (h.step b0).2 (h'.step b0).2 r (hr.trans ⟨fun h => by rw [h], fun h => Prod.ext hB h⟩))
    have HB0 := Lib.hid b0
    clear h h' hb1 b0 x0 y0 hr hB
    go_enter Tryz.func31, Tryz.ntmps31
    go_wp2_with fail
    refine HB.out.mono ?_
    rintro e w1 ⟨rfl, rfl⟩
    go_wp2_with fail
    refine HW.out.mono ?_
    rintro e w2 ⟨rfl, b2⟩
    have HB2 := Lib.hid (HB0.out.trans (b2.mono HB0.out.size))
    clear b2 hw0 c0 c1 d0 d1
    go_wp2_with fail
    go_ret
    exact ⟨rfl, HB2.out⟩
  · have HB := Lib.hid (hb1 false ⟨fun h => (by cases h), fun h => absurd h hB⟩)
    have : r = false := by
      cases r with
      | false => rfl
      | true => exact absurd (by rw [hr.1 rfl]) hB
    subst this
    have HB0 := Lib.hid b0
    clear h h' hb1 b0 x0 y0 hr hB
    go_enter Tryz.func31, Tryz.ntmps31
    go_wp2_with fail
    refine HB.out.mono ?_
    rintro e w1 ⟨rfl, rfl⟩
    clear hw0 c0 c1 d0 d1
    go_wp2_with fail
    go_ret
    exact ⟨rfl, HB0.out⟩
end Go.Proofs.YtdpmdlibgabjaaaGreat
/-
  The document's own Same for layer 9.
-/
namespace Go.Proofs.YtdpmdlibgabjaaaGreat
open Go.RowKit Go.Shelf
set_option maxRecDepth 100000

theorem str_same (s t : List UInt8) : ((strOf s).toList == (strOf t).toList) = decide (s = t) := by
  rw [strOf_toList, strOf_toList]
  by_cases h : s = t <;> simp [h]
theorem same_iff {D E : DkL} {o1 o2 : Nat} (h1 : OddN o1 D.1.length (fun i => D.1.getD i [] = E.1.getD i [])) (h2 : OddN o2 D.2.length (fun i => wr_ D.2 i = wr_ E.2 i)) (e1 : D.1.length = E.1.length) (e2 : D.2.length = E.2.length) : o1 + o2 = 0 ↔ D = E := by
  constructor
  · intro h
    exact Prod.ext (ext_bls e1 (h1.2.1 (by omega))) (ext_wts e2 (h2.2.1 (by omega)))
  · intro h
    subst h
    have a1 := h1.2.2 fun _ _ => rfl
    have a2 := h2.2.2 fun _ _ => rfl
    omega
set_option maxHeartbeats 4000000 in
theorem rdSame_len (x : DAt) (D : DkL) (y : DAt) (E : DkL) (w : World) (hx : (D.1.length : Int) ≤ 9223372036854775807 ∧ (D.2.length : Int) ≤ 9223372036854775807 ∧ (E.1.length : Int) ≤ 9223372036854775807 ∧ (E.2.length : Int) ≤ 9223372036854775807) (hne : D.1.length ≠ E.1.length ∨ D.2.length ≠ E.2.length) :
    Calls Tryz.prog 41 #[dval x D, dval y E] w fun e w' => e = .returned (.bool false) ∧ Below w.heap.size w w' := by
  have b0 := ((Below.refl w.heap.size w).alloc (Nat.le_refl _) (.cells #[.slice x.ba D.1.length x.bc, .slice x.wa D.2.length x.wc] 25)).alloc (by simp) (.cells #[.slice y.ba E.1.length y.bc, .slice y.wa E.2.length y.wc] 25)
  have HB := Lib.hid b0
  simp only [dval]
  obtain ⟨n, hn⟩ : ∃ n, D.1.length = n := ⟨_, rfl⟩
  obtain ⟨m, hm⟩ : ∃ n, D.2.length = n := ⟨_, rfl⟩
  obtain ⟨n', hn'⟩ : ∃ n, E.1.length = n := ⟨_, rfl⟩
  obtain ⟨m', hm'⟩ : ∃ n, E.2.length = n := ⟨_, rfl⟩
  rw [hn, hm, hn', hm'] at HB hx ⊢
  rw [hn, hm, hn', hm'] at hne
  obtain ⟨x1, x2, x3, x4⟩ := hx
  clear b0 hn hm hn' hm'
  by_cases h : n = n'
  · subst h
    have h1 : ((n : Int) != n) = false := by simp
    have h2 : ((m : Int) != m') = true := by simp; omega
    clear hne
    go_enter Tryz.func41, Tryz.ntmps41
    go_wp2_with fail
    go_ret
    exact ⟨rfl, HB.out⟩
  · have h1 : ((n : Int) != n') = true := by simp; omega
    clear hne h
    go_enter Tryz.func41, Tryz.ntmps41
    go_wp2_with fail
    go_ret
    exact ⟨rfl, HB.out⟩
set_option maxHeartbeats 4000000 in
theorem rdSame_eq (x : DAt) (D : DkL) (y : DAt) (E : DkL) (w : World) (h : Dsk w w.heap.size x D) (h' : Dsk w w.heap.size y E) (e1 : D.1.length = E.1.length) (e2 : D.2.length = E.2.length) (hf : D.1.length ≤ 1000000 ∧ D.2.length ≤ 1000000) (R : Bool) (hR : R = true ↔ D = E) :
    Calls Tryz.prog 41 #[dval x D, dval y E] w fun e w' => e = .returned (.bool R) ∧ Below w.heap.size w w' := by
  obtain ⟨n, hn⟩ : ∃ n, D.1.length = n := ⟨_, rfl⟩
  obtain ⟨m, hm⟩ : ∃ n, D.2.length = n := ⟨_, rfl⟩
  have l1 := h.1.len_le
  have l2 := h.2.len_le
  obtain ⟨w0, hw0⟩ : ∃ w0, (w.alloc (.cells #[.slice x.ba n x.bc, .slice x.wa m x.wc] 25)).alloc (.cells #[.slice y.ba n y.bc, .slice y.wa m y.wc] 25) = w0 := ⟨_, rfl⟩
  have b0 : Below w.heap.size w w0 := by rw [← hw0]; exact ((Below.refl _ w).alloc (Nat.le_refl _) _).alloc (by simp) _
  have x0 : Blk w0 w.heap.size 25 #[.slice x.ba n x.bc, .slice x.wa m x.wc] := by rw [← hw0]; exact (Blk.new w _ _).alloc _
  have y0 : Blk w0 (w.heap.size + 1) 25 #[.slice y.ba n y.bc, .slice y.wa m y.wc] := by
    have := Blk.new (w.alloc (.cells #[.slice x.ba n x.bc, .slice x.wa m x.wc] 25)) 25 #[.slice y.ba n y.bc, .slice y.wa m y.wc]
    rw [World.size_alloc, hw0] at this
    exact this
  have c0 := x0.cell 0
  have c1 := x0.cell 1
  have d0 := y0.cell 0
  have d1 := y0.cell 1
  obtain ⟨hB, hW⟩ := h.step b0
  obtain ⟨hB', hW'⟩ := h'.step b0
  simp only [dval]
  rw [← e1, ← e2]
  rw [← e1] at hB'
  rw [← e2] at hW'
  rw [hn] at hB hB' l1 hf ⊢
  rw [hm] at hW hW' l2 hf ⊢
  have n0 : (0 : Int) ≤ n := by omega
  have m0 : (0 : Int) ≤ m := by omega
  have q1 : ((n : Int) != n) = false := by simp
  have q2 : ((m : Int) != m) = false := by simp
  have HBa := Lib.hid hB
  have HWa := Lib.hid hW
  have HBb := Lib.hid hB'
  have HWb := Lib.hid hW'
  have HX := Lib.hid x0
  have HY := Lib.hid y0
  have HB := Lib.hid b0
  have HN := Lib.hid hn
  have HM := Lib.hid hm
  have HRR := Lib.hid hR
  have HE := Lib.hid (And.intro e1 e2)
  clear h h' b0 x0 y0 hB hW hB' hW' hn hm hR e1 e2
  go_enter Tryz.func41, Tryz.ntmps41
  go_wp2_with fail
  clear hw0 q1 q2 c0 c1 d0 d1
  go_loopw [5, 6] (fun o i wr => ∃ k q : Nat, k ≤ n ∧ i = .int .i64 k ∧ o = .int .i64 q ∧ Hid (OddN q k (fun i => D.1.getD i [] = E.1.getD i [])) ∧ Hid (Below w0.heap.size w0 wr)) (fun _ i _ => n - (intOf i).toNat)
  case atStart => exact ⟨0, 0, Nat.zero_le _, rfl, rfl, Lib.hid (odd_zero _), Lib.hid (Below.refl _ _)⟩
  case round =>
    obtain ⟨k, q, hk, rfl, rfl, HO, HBr⟩ := hrel
    have k0 : (0 : Int) ≤ k := by omega
    have hq := HO.out.1
    have q0 : (0 : Int) ≤ q := by omega
    have qm : (q : Int) ≤ n := by omega
    have c0 := (HX.out.below HBr.out HX.out.lt).cell 0
    have c1 := (HX.out.below HBr.out HX.out.lt).cell 1
    have d0 := (HY.out.below HBr.out HY.out.lt).cell 0
    have d1 := (HY.out.below HBr.out HY.out.lt).cell 1
    by_cases hlt : k < n
    · have k1 : (k : Int) < n := by omega
      obtain ⟨ba, oa, A, l, c', s, hae, hba, hl, hc, hs⟩ := HBa.out.at_ hlt
      obtain ⟨bb, ob, A2, l2', c2, t, hbe, hbb, hl2, hc2, ht⟩ := HBb.out.at_ hlt
      obtain ⟨xba, xbc, xwa, xwc⟩ := x
      obtain ⟨yba, ybc, ywa, ywc⟩ := y
      obtain rfl : xba = some ⟨ba, oa, none⟩ := hae
      obtain rfl : yba = some ⟨bb, ob, none⟩ := hbe
      simp only at c0 c1 d0 d1 ⊢
      have a1 := (HBr.out.cell (p := ⟨ba, oa + k, none⟩) hba).trans hc
      have a2 := (HBr.out.cell (p := ⟨bb, ob + k, none⟩) hbb).trans hc2
      have v1 := fun q => ((hs.below HBr.out).below (below_drewN (Below.refl _ wr) q)).conv
      have v2 := fun q => ((ht.below HBr.out).below (below_drewN (Below.refl _ wr) q)).conv
      have hst := str_same s t
      have HBq := Lib.hid (fun q => HBr.out.trans (below_drewN (Below.refl _ wr) q))
      by_cases hst' : s = t
      · rw [decide_eq_true hst'] at hst
        have HO' := Lib.hid (HO.out.good (by rw [hl, hl2]; exact hst'))
        clear hl hl2 hc hc2 hs ht hst' HBr
        go_wp2_with fail
        go_quiet (fail)
        go_wp2_with fail
        go_roundw
        case rel => exact ⟨k + 1, q, by omega, by go_num, rfl, HO', Lib.hid (HBq.out _)⟩
        case measure => simp [intOf]; omega
      · rw [decide_eq_false hst'] at hst
        have HO' := Lib.hid (HO.out.odd (by rw [hl, hl2]; exact hst'))
        clear hl hl2 hc hc2 hs ht hst' HBr
        go_wp2_with fail
        go_quiet (fail)
        go_wp2_with fail
        go_roundw
        case rel => exact ⟨k + 1, q + 1, by omega, by go_num, by go_num, HO', Lib.hid (HBq.out _)⟩
        case measure => simp [intOf]; omega
    · obtain rfl : k = n := by omega
      go_wp2_with fail
      clear c0 c1 d0 d1
      go_loopw [5, 7] (fun o i wr => ∃ j r : Nat, j ≤ m ∧ i = .int .i64 j ∧ o = .int .i64 (q + r : Nat) ∧ Hid (OddN r j (fun i => wr_ D.2 i = wr_ E.2 i)) ∧ Hid (Below w0.heap.size w0 wr)) (fun _ i _ => m - (intOf i).toNat)
      case atStart => exact ⟨0, 0, Nat.zero_le _, rfl, rfl, Lib.hid (odd_zero _), HBr⟩
      case round =>
        obtain ⟨j, r, hj, rfl, rfl, HR, HB2⟩ := hrel
        clear HBr
        have j0 : (0 : Int) ≤ j := by omega
        have hr := HR.out.1
        obtain ⟨t, htt⟩ : ∃ t, q + r = t := ⟨_, rfl⟩
        have t0 : (0 : Int) ≤ t := by omega
        have c0 := (HX.out.below HB2.out HX.out.lt).cell 0
        have c1 := (HX.out.below HB2.out HX.out.lt).cell 1
        by_cases hlt : j < m
        · have j1 : (j : Int) < m := by omega
          have tm : (t : Int) ≤ 2000000 := by omega
          obtain ⟨ba, oa, p, A, l, c', s, hae, hba, hl, _, hc, hcd, hs⟩ := HWa.out.at_ hlt
          obtain ⟨bb, ob, p2, A2, l2', c2, u, hbe, hbb, hl2, _, hc2, hcd2, hu⟩ := HWb.out.at_ hlt
          obtain ⟨xba, xbc, xwa, xwc⟩ := x
          obtain ⟨yba, ybc, ywa, ywc⟩ := y
          obtain rfl : xwa = some ⟨ba, oa, none⟩ := hae
          obtain rfl : ywa = some ⟨bb, ob, none⟩ := hbe
          simp only at c0 c1 ⊢
          rw [htt]
          have a1 := (HB2.out.cell (p := ⟨ba, oa + j * 2, none⟩) hba).trans hc
          have a2 := (HB2.out.cell (p := ⟨ba, oa + j * 2 + 1, none⟩) hba).trans hcd
          have b1 := Below.alloc HB2.out HB2.out.size (.cells #[.int .i64 p, .slice A l c'] 75)
          have a3 := (b1.cell (p := ⟨bb, ob + j * 2, none⟩) hbb).trans hc2
          have a4 := (b1.cell (p := ⟨bb, ob + j * 2 + 1, none⟩) hbb).trans hcd2
          have d0 := (HY.out.below b1 HY.out.lt).cell 0
          have d1 := (HY.out.below b1 HY.out.lt).cell 1
          have b2 := Below.alloc b1 b1.size (.cells #[.int .i64 p2, .slice A2 l2' c2] 75)
          have v1 := (hs.below b2).conv
          have v2 := (hu.below b2).conv
          have hst := str_same s u
          have HB3 := Lib.hid b2
          have HTT := Lib.hid htt
          by_cases hpp : p = p2
          · subst hpp
            have hpb : (p != p) = false := by simp
            by_cases hst' : s = u
            · rw [decide_eq_true hst'] at hst
              have HO' := Lib.hid (HR.out.good (by rw [hl, hl2, hst']))
              clear hl hl2 hc hc2 hcd hcd2 hs hu hst' HB2 b1 b2 htt
              go_wp2_with fail
              go_roundw
              case rel => exact ⟨j + 1, r, by omega, by go_num, by rw [HTT.out], HO', HB3⟩
              case measure => simp [intOf]; omega
            · rw [decide_eq_false hst'] at hst
              have HO' := Lib.hid (HR.out.odd (by rw [hl, hl2]; exact fun hh => hst' (Prod.mk.inj hh).2))
              clear hl hl2 hc hc2 hcd hcd2 hs hu hst' HB2 b1 b2 htt
              go_wp2_with fail
              go_roundw
              case rel => exact ⟨j + 1, r + 1, by omega, by go_num, by rw [← Nat.add_assoc, HTT.out]; go_num, HO', HB3⟩
              case measure => simp [intOf]; omega
          · have hpb : (p != p2) = true := by simpa using hpp
            have HO' := Lib.hid (HR.out.odd (by rw [hl, hl2]; exact fun hh => hpp (Prod.mk.inj hh).1))
            clear hl hl2 hc hc2 hcd hcd2 hs hu hpp HB2 b1 b2 htt v1 v2 hst
            go_wp2_with fail
            go_roundw
            case rel => exact ⟨j + 1, r + 1, by omega, by go_num, by rw [← Nat.add_assoc, HTT.out]; go_num, HO', HB3⟩
            case measure => simp [intOf]; omega
        · obtain rfl : j = m := by omega
          rw [htt]
          have hiff := same_iff (D := D) (E := E) (by rw [HN.out]; exact HO.out) (by rw [HM.out]; exact HR.out) HE.out.1 HE.out.2
          rw [htt] at hiff
          have HBw := Lib.hid (HB.out.trans (HB2.out.mono HB.out.size))
          by_cases ht0 : t = 0
          · have htb : ((t : Int) == 0) = true := by simp; omega
            obtain rfl : R = true := HRR.out.2 (hiff.1 ht0)
            clear hiff ht0 htt
            go_wp2_with fail
            go_ret
            exact ⟨rfl, HBw.out⟩
          · have htb : ((t : Int) == 0) = false := by simp; omega
            obtain rfl : R = false := by
              cases R with
              | false => rfl
              | true => exact absurd (hiff.2 (HRR.out.1 rfl)) ht0
            clear hiff ht0 htt
            go_wp2_with fail
            go_ret
            exact ⟨rfl, HBw.out⟩
theorem rdSame_any (x : DAt) (D : DkL) (y : DAt) (E : DkL) (w : World) (h : Dsk w w.heap.size x D) (h' : Dsk w w.heap.size y E) (hf : D.1.length ≤ 1000000 ∧ D.2.length ≤ 1000000) (R : Bool) (hR : R = true ↔ D = E) :
    Calls Tryz.prog 41 #[dval x D, dval y E] w fun e w' => e = .returned (.bool R) ∧ Below w.heap.size w w' := by
  by_cases he : D.1.length = E.1.length ∧ D.2.length = E.2.length
  · exact rdSame_eq x D y E w h h' he.1 he.2 hf R hR
  · obtain rfl : R = false := by
      cases R with
      | false => rfl
      | true => exact absurd (by rw [hR.1 rfl]; exact ⟨rfl, rfl⟩) he
    exact rdSame_len x D y E w ⟨h.1.len_le, h.2.len_le, h'.1.len_le, h'.2.len_le⟩ (by omega)
end Go.Proofs.YtdpmdlibgabjaaaGreat
/-
  The document's own functions of layer 13: New, Twin, Same.
-/
namespace Go.Proofs.YtdpmdlibgabjaaaGreat
open Go.RowKit Go.Shelf
set_option maxRecDepth 100000

/-- The cells of a store that is none. -/
abbrev stZ : Array Value := #[.slice none 0 0, .slice none 0 0, .slice none 0 0, .int .u32 0, .int .u32 0]
/-- The cells of a pointer that is none. -/
abbrev ptZ : Array Value := #[.int .i64 0, .int .u32 0, .int .u32 0, .int .u32 0, .int .u32 0]
theorem two_al (w : World) (a b : Array Value) (s t : TypeId) : ∃ w0, (w.alloc (.cells a s)).alloc (.cells b t) = w0 ∧ Below w.heap.size w w0 ∧ w0.heap.size = w.heap.size + 2 ∧ Blk w0 w.heap.size s a ∧ Blk w0 (w.heap.size + 1) t b := by
  refine ⟨_, rfl, ((Below.refl _ w).alloc (Nat.le_refl _) _).alloc (by simp) _, by simp, (Blk.new w s a).alloc _, ?_⟩
  have h := Blk.new (w.alloc (.cells a s)) t b
  rw [World.size_alloc] at h
  exact h
theorem three_al (w : World) (a b c : Array Value) (s t u : TypeId) : ∃ w0, ((w.alloc (.cells a s)).alloc (.cells b t)).alloc (.cells c u) = w0 ∧ Below w.heap.size w w0 ∧ w0.heap.size = w.heap.size + 3 ∧ Blk w0 w.heap.size s a ∧ Blk w0 (w.heap.size + 1) t b ∧ Blk w0 (w.heap.size + 2) u c := by
  obtain ⟨w1, h1, b1, z1, x1, y1⟩ := two_al w a b s t
  rw [h1]
  have h := Blk.new w1 u c
  rw [z1] at h
  exact ⟨_, rfl, b1.trans (((Below.refl _ w1).alloc (Nat.le_refl _) _).mono b1.size), by simp [z1], x1.alloc _, y1.alloc _, h⟩
section
variable {w : World} {g : Nat} {t : TypeId}
theorem stZ0 (h : Blk w g t stZ) : w.cell? ⟨g, 0, none⟩ = some (.slice none 0 0) := h.cell 0
theorem stZ1 (h : Blk w g t stZ) : w.cell? ⟨g, 1, none⟩ = some (.slice none 0 0) := h.cell 1
theorem stZ2 (h : Blk w g t stZ) : w.cell? ⟨g, 2, none⟩ = some (.slice none 0 0) := h.cell 2
theorem stZ3 (h : Blk w g t stZ) : w.cell? ⟨g, 3, none⟩ = some (.int .u32 0) := h.cell 3
theorem stZ4 (h : Blk w g t stZ) : w.cell? ⟨g, 4, none⟩ = some (.int .u32 0) := h.cell 4
theorem ptZ0 (h : Blk w g t ptZ) : w.cell? ⟨g, 0, none⟩ = some (.int .i64 0) := h.cell 0
theorem ptZ1 (h : Blk w g t ptZ) : w.cell? ⟨g, 1, none⟩ = some (.int .u32 0) := h.cell 1
theorem ptZ2 (h : Blk w g t ptZ) : w.cell? ⟨g, 2, none⟩ = some (.int .u32 0) := h.cell 2
theorem ptZ3 (h : Blk w g t ptZ) : w.cell? ⟨g, 3, none⟩ = some (.int .u32 0) := h.cell 3
theorem ptZ4 (h : Blk w g t ptZ) : w.cell? ⟨g, 4, none⟩ = some (.int .u32 0) := h.cell 4
end
theorem newI_keeps {L hb k : Nat} {Z : List UInt8} {w w' : World} (h : NewI hb Z k w) (hk : Keeps L w w') : NewI hb Z k w' := by
  obtain ⟨cb, h1, h2, h3⟩ := h
  refine ⟨cb, hk.row _ _ _ h1 (by decide), h2, fun i hi => ?_⟩
  obtain ⟨g, h4, h5⟩ := h3 i hi
  exact ⟨g, h4, hk.row _ _ _ h5 (by decide)⟩
theorem newI_lasts {L hb : Nat} {w : World} (h : NewI hb (List.replicate 256 0) 256 w) : Lasts L w fun W => Dsk W W.heap.size ⟨some ⟨hb, 0, none⟩, 256, none, 0⟩ newD := fun _ k => (newI_keeps h k).dsk rfl
theorem newD_lens : newD.1.length = 256 ∧ newD.2.length = 0 := ⟨newD_len, rfl⟩
set_option maxHeartbeats 1000000 in
theorem rtNew_any (w : World) : Calls Tryz.prog 28 #[] w (OutS 0 (newD, newTo 12, 1, 0) w) := by
  have xb := Blk.new w 29 stZ
  have b0 := (Below.refl w.heap.size w).alloc (Nat.le_refl _) (.cells stZ 29)
  obtain ⟨w0, hw0⟩ : ∃ w0, w.alloc (.cells stZ 29) = w0 := ⟨_, rfl⟩
  rw [hw0] at xb b0
  obtain ⟨g, hg⟩ : ∃ g, w.heap.size = g := ⟨_, rfl⟩
  have HG := Lib.hid hg
  have hgL : 0 ≤ g := Nat.zero_le _
  have hn : ∀ W, Calls Tryz.prog 61 #[] W (OwnV 256 (newTo 12) W) := rsNew_any
  have HX := Lib.hid xb
  have HB := Lib.hid b0
  have HN := Lib.hid (rdNewI_any w0)
  have HN2 := Lib.hid hn
  have HGL := Lib.hid hgL
  simp only [stZ] at hw0
  clear xb b0 hn hgL
  go_enter Tryz.func28, Tryz.ntmps28
  go_wp2_with fail
  refine HN.out.mono ?_
  rintro e w1 ⟨hb, rfl, hd, b1⟩
  have HX1 := Lib.hid (HX.out.below b1 HX.out.lt)
  have HB1 := Lib.hid (HB.out.trans (b1.mono HB.out.size))
  have HD := Lib.hid (newI_lasts (L := 0) hd)
  clear hd b1 HN hw0
  simp only [dval, newD_lens.1, newD_lens.2]
  go_wp2_with fail
  refine (HN2.out w1).mono ?_
  rintro e w2 ⟨v, rfl, ho, b2⟩
  obtain ⟨a, c, rfl⟩ := own_slice ho
  have x2 := HX1.out.below b2 HX1.out.lt
  rw [hg] at x2
  have HD2 := Lib.hid (HD.out.bel b2)
  have HO2 := Lib.hid (own_lasts (L := 0) ho)
  have HB2 := Lib.hid (HB1.out.trans (b2.mono HB1.out.size))
  have d0 := stZ0 x2
  have d1 := stZ1 x2
  have d2 := stZ2 x2
  have d3 := stZ3 x2
  have d4 := stZ4 x2
  have hfz := fun i => x2.frozen i
  have HX2 := Lib.hid x2
  clear b2 ho HX1 HB1 HD x2
  go_wp2_with fail
  clear d0 d1 d2 d3 d4 hfz
  have hxs := HX2.out.set5 (.slice (some ⟨hb, 0, none⟩) 256 256) (.slice none 0 0) (.slice a 256 c) (.int .u32 1) (.int .u32 0)
  have hgs := only_set5 (World.grownBy.refl w2 (some g)) (.slice (some ⟨hb, 0, none⟩) 256 256) (.slice none 0 0) (.slice a 256 c) (.int .u32 1) (.int .u32 0)
  have hbs := below_set5 HB2.out (by rw [HG.out]; exact Nat.le_refl g) (.slice (some ⟨hb, 0, none⟩) 256 256) (.slice none 0 0) (.slice a 256 c) (.int .u32 1) (.int .u32 0)
  have hk := Keeps.of_box hgs HX2.out (by decide) HGL.out
  obtain ⟨wf, hwf⟩ : ∃ wf, set5 w2 g (.slice (some ⟨hb, 0, none⟩) 256 256) (.slice none 0 0) (.slice a 256 c) (.int .u32 1) (.int .u32 0) = wf := ⟨_, rfl⟩
  rw [hwf] at hxs hbs hk
  simp only [set5] at hwf
  rw [hwf]
  have e0 := hxs.cell 0
  have e1 := hxs.cell 1
  have e2 := hxs.cell 2
  have e3 := hxs.cell 3
  have e4 := hxs.cell 4
  refine bodyPost_ret (v := .agg #[.slice (some ⟨hb, 0, none⟩) 256 256, .slice none 0 0, .slice a 256 c, .int .u32 1, .int .u32 0]) (by simp [results, Tryz.f28, go_sem, e0, e1, e2, e3, e4]) rfl ?_
  refine ⟨⟨⟨some ⟨hb, 0, none⟩, 256, none, 0⟩, a, c⟩, ?_, fun W k => ⟨HD2.out W (hk.trans k), ?_⟩, hbs⟩
  · simp only [stV, newD_lens.1, newD_lens.2, newTo_length (show 12 ≤ 256 by omega)]
    rfl
  · have := HO2.out W (hk.trans k)
    simp only [newTo_length (show 12 ≤ 256 by omega)]
    exact this
/-- Cells of a box are written: it stays a box, and what lasts lasts. -/
theorem box_two {L B g : Nat} {a w : World} {t : TypeId} {c0 c1 c2 c3 c4 : Value} (h : Blk w g t #[c0, c1, c2, c3, c4]) (ht : rowT t = false) (hL : L ≤ g) (hB : Below B a w) (hg : B ≤ g) (u v : Value) :
    Blk ((w.setCell ⟨g, 0, none⟩ u).setCell ⟨g, 1, none⟩ v) g t #[u, v, c2, c3, c4] ∧ Keeps L w ((w.setCell ⟨g, 0, none⟩ u).setCell ⟨g, 1, none⟩ v) ∧ Below B a ((w.setCell ⟨g, 0, none⟩ u).setCell ⟨g, 1, none⟩ v) :=
  ⟨(h.set_ 0 u).set_ 1 v, Keeps.of_box (only_two w g u v) h ht hL, (hB.setCell (p := ⟨g, 0, none⟩) hg u).setCell (p := ⟨g, 1, none⟩) hg v⟩
theorem box_at {L B g : Nat} {a w : World} {t : TypeId} {cs : Array Value} (h : Blk w g t cs) (ht : rowT t = false) (hL : L ≤ g) (hB : Below B a w) (hg : B ≤ g) (i : Nat) (u : Value) :
    Blk (w.setCell ⟨g, i, none⟩ u) g t (cs.setIfInBounds i u) ∧ Keeps L w (w.setCell ⟨g, i, none⟩ u) ∧ Below B a (w.setCell ⟨g, i, none⟩ u) :=
  ⟨h.set_ i u, Keeps.of_box (only_setCell (World.grownBy.refl w (some g)) (.inl rfl) u) h ht hL, hB.setCell (p := ⟨g, i, none⟩) hg u⟩
theorem box_five {L B g : Nat} {a w : World} {t : TypeId} {c0 c1 c2 c3 c4 : Value} (h : Blk w g t #[c0, c1, c2, c3, c4]) (ht : rowT t = false) (hL : L ≤ g) (hB : Below B a w) (hg : B ≤ g) (v0 v1 v2 v3 v4 : Value) :
    Blk (set5 w g v0 v1 v2 v3 v4) g t #[v0, v1, v2, v3, v4] ∧ Keeps L w (set5 w g v0 v1 v2 v3 v4) ∧ Below B a (set5 w g v0 v1 v2 v3 v4) :=
  ⟨h.set5 v0 v1 v2 v3 v4, Keeps.of_box (only_set5 (World.grownBy.refl w (some g)) v0 v1 v2 v3 v4) h ht hL, below_set5 hB hg v0 v1 v2 v3 v4⟩
section
variable {w : World} {g : Nat} {t : TypeId} {c0 c1 c2 c3 c4 : Value}
theorem bx0 (h : Blk w g t #[c0, c1, c2, c3, c4]) : w.cell? ⟨g, 0, none⟩ = some c0 := h.cell 0
theorem bx1 (h : Blk w g t #[c0, c1, c2, c3, c4]) : w.cell? ⟨g, 1, none⟩ = some c1 := h.cell 1
theorem bx2 (h : Blk w g t #[c0, c1, c2, c3, c4]) : w.cell? ⟨g, 2, none⟩ = some c2 := h.cell 2
theorem bx3 (h : Blk w g t #[c0, c1, c2, c3, c4]) : w.cell? ⟨g, 3, none⟩ = some c3 := h.cell 3
theorem bx4 (h : Blk w g t #[c0, c1, c2, c3, c4]) : w.cell? ⟨g, 4, none⟩ = some c4 := h.cell 4
end
set_option maxHeartbeats 2000000 in
theorem rtTwin_any (L : Nat) (x : SAt) (S : StL) (w : World) (h : StP L w x S) (hf : Fits S.1) (hn : S.2.1.length ≤ 20000) (hL : L ≤ w.heap.size) : Calls Tryz.prog 8 #[stV x S] w (OutS 0 S w) := by
  obtain ⟨w0, hw0, b0, z0, x0, x1⟩ := two_al w (stC x S) stZ 29 29
  obtain ⟨g, hg⟩ : ∃ g, w.heap.size = g := ⟨_, rfl⟩
  obtain ⟨g', hg'⟩ : ∃ g', g + 1 = g' := ⟨_, rfl⟩
  have h0 := h.bel b0
  have ht := rdTwin_any x.d S.1 w0 h0.now.1 hf
  simp only [dval] at ht
  have c0 := stC0 x0
  have c1 := stC1 x0
  rw [hg] at x0 x1 z0 b0 c0 c1
  rw [hg'] at x1
  have hgL : L ≤ g := by omega
  have hgg : g ≤ g' := by omega
  have hgn : g' ≠ g := by omega
  have HL := Lib.hid hgL
  have HG := Lib.hid hg
  have HGG := Lib.hid hgg
  have HGN := Lib.hid hgn
  have HX := Lib.hid x0
  have HY := Lib.hid x1
  have HB := Lib.hid b0
  have HS := Lib.hid h0
  have HT := Lib.hid ht
  have HN := Lib.hid hn
  have HZ := Lib.hid (show g ≤ w0.heap.size by omega)
  simp only [stC, stZ] at hw0
  clear h h0 x0 x1 b0 ht hn hf z0 hgL hgg hgn
  go_enter Tryz.func8, Tryz.ntmps8
  go_wp2_with fail
  clear c0 c1 hw0
  refine HT.out.mono ?_
  rintro e w1 ⟨x', rfl, htw, b1⟩
  have hx1 := HX.out.below b1 HX.out.lt
  have HY1 := Lib.hid (HY.out.below b1 HY.out.lt)
  have hb1 := HB.out.trans (b1.mono HZ.out)
  have hs1 := HS.out.bel b1
  have hd1 : Lasts 0 w1 fun W => Dsk W W.heap.size x' S.1 := dskR_lasts ⟨_, _, htw.brow 0, htw.wrow 0⟩ 0
  have c0 := stC0 hx1
  have c1 := stC1 hx1
  have hfz := fun i => hx1.frozen i
  simp only [dval]
  obtain ⟨x2, k2, b2⟩ := box_two hx1 (by decide) HL.out hb1 (Nat.le_refl _) (.slice x'.ba S.1.1.length x'.bc) (.slice x'.wa S.1.2.length x'.wc)
  have y2 := (HY1.out.far (p := ⟨g, 0, none⟩) HGN.out (.slice x'.ba S.1.1.length x'.bc)).far (p := ⟨g, 1, none⟩) HGN.out (.slice x'.wa S.1.2.length x'.wc)
  have s2 := hs1.step k2
  have d2 := hd1.step (k2.more (Nat.zero_le _))
  obtain ⟨w2, hw2⟩ : ∃ w2, (w1.setCell ⟨g, 0, none⟩ (.slice x'.ba S.1.1.length x'.bc)).setCell ⟨g, 1, none⟩ (.slice x'.wa S.1.2.length x'.wc) = w2 := ⟨_, rfl⟩
  rw [hw2] at x2 k2 b2 y2 s2 d2
  have cc := bx2 x2
  have HX2 := Lib.hid x2
  have HY2 := Lib.hid y2
  have HB2 := Lib.hid b2
  have HBS := Lib.hid s2.now.2
  have HD2 := Lib.hid d2
  have HO0 := Lib.hid (own_nil w2 w2.heap.size)
  have HRF := Lib.hid (Below.refl w2.heap.size w2)
  clear htw b1 HX HY HB HS HT hx1 hb1 hs1 hd1 x2 k2 b2 y2 s2 d2
  go_wp2_with (at_builtin
               refine wpList_append_bsl rfl (.const (.slice none 0 0)) (.tmp 8) rfl w2.heap.size _ 0 _ rfl HO0.out _ x.a S.2.1.length x.c S.2.1 rfl HBS.out (by have := HN.out; omega) HRF.out.size ?_
               intro v3 w3 ho hg3
               rw [Nat.zero_add, List.nil_append] at ho
               have b3 := app_below HRF.out HO0.out hg3 HRF.out.size; clear hg3
               obtain ⟨a3, c3, rfl⟩ := own_slice ho
               have x3 := HX2.out.below b3 HX2.out.lt
               have y3 := HY2.out.below b3 HY2.out.lt
               have d3 := HD2.out.bel b3
               have t3 := HB2.out.trans (b3.mono (Nat.le_of_lt HX2.out.lt))
               obtain ⟨x4, k4, b4⟩ := box_at x3 (by decide) (Nat.zero_le _) t3 (Nat.le_refl _) 2 (.slice a3 S.2.1.length c3)
               have y4 := y3.far (p := ⟨g, 2, none⟩) HGN.out (.slice a3 S.2.1.length c3)
               have d4 := d3.step k4
               have o4 := (own_lasts (L := 0) ho).step k4
               have cx := bx2 x3
               have hfx := x3.frozen 2
               obtain ⟨w4, hw4⟩ : ∃ w4, w3.setCell ⟨g, 2, none⟩ (.slice a3 S.2.1.length c3) = w4 := ⟨_, rfl⟩
               rw [hw4] at x4 k4 b4 y4 d4 o4
               replace x4 : Blk w4 g 29 #[.slice x'.ba S.1.1.length x'.bc, .slice x'.wa S.1.2.length x'.wc, .slice a3 S.2.1.length c3, .int .u32 (S.2.2.1 : Int), .int .u32 (S.2.2.2 : Int)] := x4
               have p0 := bx0 x4
               have p1 := bx1 x4
               have p2 := bx2 x4
               have p3 := bx3 x4
               have p4 := bx4 x4
               have q0 := stZ0 y4
               have q1 := stZ1 y4
               have q2 := stZ2 y4
               have q3 := stZ3 y4
               have q4 := stZ4 y4
               have hfy := fun i => y4.frozen i
               have H4 := Lib.hid (box_five y4 (by decide) (Nat.zero_le _) b4 HGG.out (.slice x'.ba S.1.1.length x'.bc) (.slice x'.wa S.1.2.length x'.wc) (.slice a3 S.2.1.length c3) (.int .u32 (S.2.2.1 : Int)) (.int .u32 (S.2.2.2 : Int)))
               have HD4 := Lib.hid d4
               have HO4 := Lib.hid o4
               clear ho b3 x3 y3 d3 t3 x4 k4 b4 y4 d4 o4)
  clear p0 p1 p2 p3 p4 q0 q1 q2 q3 q4 hfy cx hfx cc c0 c1 hfz
  obtain ⟨xf, kf, bf⟩ := H4.out
  obtain ⟨wf, hwf⟩ : ∃ wf, set5 w4 g' (.slice x'.ba S.1.1.length x'.bc) (.slice x'.wa S.1.2.length x'.wc) (.slice a3 S.2.1.length c3) (.int .u32 (S.2.2.1 : Int)) (.int .u32 (S.2.2.2 : Int)) = wf := ⟨_, rfl⟩
  rw [hwf] at xf kf bf
  simp only [set5] at hwf
  rw [hwf]
  have e0 := bx0 xf
  have e1 := bx1 xf
  have e2 := bx2 xf
  have e3 := bx3 xf
  have e4 := bx4 xf
  refine bodyPost_ret (v := stV ⟨x', a3, c3⟩ S) (by simp [results, Tryz.f8, go_sem, e0, e1, e2, e3, e4]) rfl ?_
  exact ⟨⟨x', a3, c3⟩, rfl, fun W k => ⟨HD4.out W (kf.trans k), HO4.out W (kf.trans k)⟩, by rw [HG.out]; exact bf⟩
end Go.Proofs.YtdpmdlibgabjaaaGreat
/-
  Stores of one's own whose bytes are turned: what is written, and what goes on; law 13's spoil.
-/
namespace Go.Proofs.YtdpmdlibgabjaaaGreat
open Go.RowKit Go.Shelf
set_option maxRecDepth 100000

/-- Bytes of blocks from B on are turned, and nothing else. -/
structure Spoils (B : Nat) (w w' : World) : Prop where
  below : Below B w w'
  box : ∀ b t cs, Blk w b t cs → t ≠ 5 → Blk w' b t cs
  row : ∀ b cs, Blk w b 5 cs → ∃ cs', Blk w' b 5 cs' ∧ ∀ (j : Nat) (z : Int), cs[j]? = some (Value.int .u8 z) → ∃ z', cs'[j]? = some (Value.int .u8 z')
theorem Spoils.refl (B : Nat) (w : World) : Spoils B w w := ⟨Below.refl _ _, fun _ _ _ h _ => h, fun _ cs h => ⟨cs, h, fun _ z hz => ⟨z, hz⟩⟩⟩
theorem Spoils.trans {B : Nat} {a b c : World} (h : Spoils B a b) (k : Spoils B b c) : Spoils B a c :=
  ⟨h.below.trans k.below, fun i t cs hi ht => k.box i t cs (h.box i t cs hi ht) ht, fun i cs hi => by
    obtain ⟨cs1, h1, h2⟩ := h.row i cs hi
    obtain ⟨cs2, h3, h4⟩ := k.row i cs1 h1
    exact ⟨cs2, h3, fun j z hz => by obtain ⟨z1, hz1⟩ := h2 j z hz; exact h4 j z1 hz1⟩⟩
theorem Spoils.of_below {B : Nat} {w w' : World} (h : Below w.heap.size w w') (hB : B ≤ w.heap.size) : Spoils B w w' :=
  ⟨h.mono hB, fun _ _ _ hb _ => hb.below h hb.lt, fun _ cs hb => ⟨cs, hb.below h hb.lt, fun _ z hz => ⟨z, hz⟩⟩⟩
theorem Spoils.less {B B' : Nat} {w w' : World} (h : Spoils B w w') (hB : B' ≤ B) : Spoils B' w w' := ⟨h.below.mono hB, h.box, h.row⟩
theorem Spoils.byte {B b : Nat} {w : World} {cs : Array Value} (h : Blk w b 5 cs) (hB : B ≤ b) (i : Nat) (z : Int) : Spoils B w (w.setCell ⟨b, i, none⟩ (.int .u8 z)) :=
  ⟨(Below.refl B w).setCell (p := ⟨b, i, none⟩) hB _, fun k t cs' hk ht => hk.far (p := ⟨b, i, none⟩) (fun e => (hk.ne h ht) e) _, fun k cs' hk => by
    by_cases e : k = b
    · subst e
      refine ⟨_, hk.set_ i _, fun j z' hz => ?_⟩
      rw [Array.getElem?_setIfInBounds]
      split
      · rename_i e
        subst e
        have hlt : i < cs'.size := by
          rcases Nat.lt_or_ge i cs'.size with h1 | h1
          · exact h1
          · rw [Array.getElem?_eq_none h1] at hz; cases hz
        rw [if_pos hlt]
        exact ⟨z, rfl⟩
      · exact ⟨z', hz⟩
    · exact ⟨cs', hk.far (p := ⟨b, i, none⟩) e _, fun j z' hz => ⟨z', hz⟩⟩⟩
/-- Bytes of one's own. -/
def Piece (w : World) (B : Nat) (A : Option Addr) (l : Nat) : Prop := l = 0 ∨ ∃ b off cs, A = some ⟨b, off, none⟩ ∧ B ≤ b ∧ Blk w b 5 cs ∧ ∀ j, j < l → ∃ z, cs[off + j]? = some (.int .u8 z)
theorem Piece.spoils {w w' : World} {B B' : Nat} {A : Option Addr} {l : Nat} (h : Piece w B A l) (k : Spoils B' w w') : Piece w' B A l := by
  rcases h with h | ⟨b, off, cs, e, hB, hb, hc⟩
  · exact .inl h
  · obtain ⟨cs', h1, h2⟩ := k.row b cs hb
    exact .inr ⟨b, off, cs', e, hB, h1, fun j hj => by obtain ⟨z, hz⟩ := hc j hj; exact h2 _ z hz⟩
theorem Piece.at_ {w : World} {B : Nat} {A : Option Addr} {l : Nat} (h : Piece w B A l) {j : Nat} (hj : j < l) : ∃ b off cs z, A = some ⟨b, off, none⟩ ∧ B ≤ b ∧ Blk w b 5 cs ∧ w.cell? ⟨b, off + j, none⟩ = some (.int .u8 z) := by
  rcases h with h | ⟨b, off, cs, e, hB, hb, hc⟩
  · omega
  · obtain ⟨z, hz⟩ := hc j hj
    exact ⟨b, off, cs, z, e, hB, hb, by rw [hb.cell]; exact hz⟩
/-- A row of slices of bytes of one's own: the row is in a block of its own, and so are all the bytes; st: how far a slice lies from the next one, at: where in it. -/
def Rows9 (w : World) (B : Nat) (a : Option Addr) (n : Nat) (t : TypeId) (st at_ : Nat) (L : Nat → Nat) : Prop :=
  n = 0 ∨ ∃ b off cs, a = some ⟨b, off, none⟩ ∧ Blk w b t cs ∧ ∀ i, i < n → ∃ A c, cs[off + i * st + at_]? = some (.slice A (L i) c) ∧ Piece w B A (L i)
theorem Rows9.spoils {w w' : World} {B B' : Nat} {a : Option Addr} {n : Nat} {t : TypeId} {st at_ : Nat} {L : Nat → Nat} (h : Rows9 w B a n t st at_ L) (ht : t ≠ 5) (k : Spoils B' w w') : Rows9 w' B a n t st at_ L := by
  rcases h with h | ⟨b, off, cs, e, hb, hc⟩
  · exact .inl h
  · exact .inr ⟨b, off, cs, e, k.box b t cs hb ht, fun i hi => by
      obtain ⟨A, c, h1, h2⟩ := hc i hi
      exact ⟨A, c, h1, h2.spoils k⟩⟩
theorem Rows9.at_ {w : World} {B : Nat} {a : Option Addr} {n : Nat} {t : TypeId} {st q : Nat} {L : Nat → Nat} (h : Rows9 w B a n t st q L) {i : Nat} (hi : i < n) : ∃ b off A c, a = some ⟨b, off, none⟩ ∧ w.cell? ⟨b, off + i * st + q, none⟩ = some (.slice A (L i) c) ∧ Piece w B A (L i) := by
  rcases h with h | ⟨b, off, cs, e, hb, hc⟩
  · omega
  · obtain ⟨A, c, h1, h2⟩ := hc i hi
    exact ⟨b, off, A, c, e, by rw [hb.cell]; exact h1, h2⟩
/-- A store of one's own: all its bytes lie from block B on. -/
def HiS (w : World) (B : Nat) (x : SAt) (S : StL) : Prop :=
  Rows9 w B x.d.ba S.1.1.length 26 1 0 (fun i => (S.1.1.getD i []).length) ∧ Rows9 w B x.d.wa S.1.2.length 75 2 1 (fun i => (wr_ S.1.2 i).2.length) ∧ Piece w B x.a S.2.1.length
theorem HiS.spoils {w w' : World} {B B' : Nat} {x : SAt} {S : StL} (h : HiS w B x S) (k : Spoils B' w w') : HiS w' B x S := ⟨h.1.spoils (by decide) k, h.2.1.spoils (by decide) k, h.2.2.spoils k⟩
set_option maxHeartbeats 8000000 in
theorem stSpoil_any (B : Nat) (x : SAt) (S : StL) (w : World) (h : HiS w B x S) (hB : B ≤ w.heap.size) (hl : (S.1.1.length : Int) ≤ 9223372036854775807 ∧ (S.1.2.length : Int) ≤ 9223372036854775807 ∧ (S.2.1.length : Int) ≤ 9223372036854775807) :
    Calls Tryz.prog 16 #[stV x S] w fun e w' => e = .returned (.tuple #[]) ∧ Spoils B w w' := by
  have hmx : Tryz.prog.follows Departure.mixedOrders = true := by kernel_rfl
  obtain ⟨xb, b0⟩ := st_box w x S
  obtain ⟨w0, hw0⟩ : ∃ w0, w.alloc (.cells (stC x S) 29) = w0 := ⟨_, rfl⟩
  obtain ⟨g, hg⟩ : ∃ g, w.heap.size = g := ⟨_, rfl⟩
  rw [hw0] at xb b0
  have k0 := Spoils.of_below b0 hB
  have h0 := h.spoils k0
  have HK := Lib.hid k0
  have HH := Lib.hid h0
  have HWB := Lib.hid hB
  have HBS := Lib.hid (show B ≤ w0.heap.size from Nat.le_trans hB b0.size)
  rw [hg] at xb
  have HX := Lib.hid xb
  have l0 := hl.1
  have l1 := hl.2.1
  have l2 := hl.2.2
  have n0 : (0 : Int) ≤ S.1.1.length := by omega
  have n1 : (0 : Int) ≤ S.1.2.length := by omega
  have n2 : (0 : Int) ≤ S.2.1.length := by omega
  simp only [stC] at hw0
  clear h h0 xb b0 k0 hl
  go_enter Tryz.func16, Tryz.ntmps16
  go_wp2_with fail
  clear hw0
  go_loopw [2] (fun i wr => ∃ k : Nat, k ≤ S.1.1.length ∧ i = .int .i64 k ∧ Spoils B w wr ∧ Blk wr g 29 (stC x S) ∧ HiS wr B x S) (fun i _ => S.1.1.length - (intOf i).toNat)
  case atStart => exact ⟨0, Nat.zero_le _, rfl, HK.out, HX.out, HH.out⟩
  case round =>
    obtain ⟨k, hkn, rfl, hk, hxr, hhr⟩ := hrel
    have i0 : (0 : Int) ≤ k := by omega
    have c0 := stC0 hxr
    by_cases hlt : k < S.1.1.length
    · have i1 : (k : Int) < S.1.1.length := by omega
      obtain ⟨hb, ho, A, cA, hae, hrow, hpc⟩ := hhr.1.at_ hlt
      simp only [Nat.mul_one, Nat.add_zero] at hrow
      obtain ⟨l, hll⟩ : ∃ l : Nat, (S.1.1.getD k []).length = l := ⟨_, rfl⟩
      simp only [hll] at hrow hpc
      rw [hae] at c0
      clear hae
      have j0 : (0 : Int) ≤ l := by omega
      by_cases hl0 : 0 < l
      · have j1 : (0 : Int) < l := by omega
        obtain ⟨pb, po, pcs, z, hpe, hpB, hpk, hpz⟩ := hpc.at_ hl0
        rw [Nat.add_zero] at hpz
        rw [hpe] at hrow
        clear hpe
        obtain ⟨z', hz'⟩ : ∃ z', IntKind.u8.wrap (z + 1) = z' := ⟨_, rfl⟩
        obtain ⟨wd, hwd⟩ : ∃ wd, wr.drew = wd := ⟨_, rfl⟩
        have bb : Below wr.heap.size wr wd := by rw [← hwd]; exact (Below.refl _ wr).drew
        have ksp := Spoils.of_below (B := B) bb (Nat.le_trans HWB.out hk.below.size)
        have hpkd := hpk.below bb hpk.lt
        have ksp2 := Spoils.byte hpkd hpB po z'
        have HK2 := Lib.hid (hk.trans (ksp.trans ksp2))
        have HX2 := Lib.hid (ksp2.box g _ _ (ksp.box g _ _ hxr (by decide)) (by decide))
        have HH2 := Lib.hid ((hhr.spoils ksp).spoils ksp2)
        have C0 := fun X (hX : Below wd.heap.size wd X) => (((bb.trans (hX.mono bb.size)).cell (p := ⟨g, 0, none⟩) hxr.lt)).trans c0
        have C1 := fun X (hX : Below wd.heap.size wd X) => (((bb.trans (hX.mono bb.size)).cell (p := ⟨hb, ho + k, none⟩) (World.block_lt_of_cell? wr _ hrow))).trans hrow
        have C2 := fun X (hX : Below wd.heap.size wd X) => (((bb.trans (hX.mono bb.size)).cell (p := ⟨pb, po, none⟩) hpk.lt)).trans hpz
        have hf := hpkd.frozen po
        have hS : Below wd.heap.size wd wd := Below.refl _ _
        have hpd := C2 wd hS
        clear bb ksp ksp2 hpkd hk hxr hhr hpc hpk hll
        go_wp2_with fail
        clear c0 hrow hpz
        refine wpS_start [0, 1, 2, 3, 4, 5, 6, 7, 8, 9, 10, 11, 12, 13, 14, 15, 16] hmx rfl hwd ?_
        clear hwd
        iterate 16 (
          refine wpS_read (v := ?_) rfl (by kernel_rfl) (by kernel_rfl) (by kernel_rfl) (fun _ _ _ h => h) (.inl ⟨by rfl, ?_⟩) ?_
          rotate_left
          · intro X hX
            have hXa := C0 X (hX _ hS)
            have hXb := C1 X (hX _ hS)
            have hXc := C2 X (hX _ hS)
            clear hX
            go_simp
            with_reducible rfl
          try simp only [Act.put, List.setIfInBounds_toArray, List.set_cons_zero, List.set_cons_succ])
        clear C0 C1 C2 hS
        refine wpS_last rfl (by kernel_rfl) (by kernel_rfl) (fun K hK => ?_)
        go_simp
        refine hK _ _ ?_
        clear hK K
        try simp only [Act.put, List.setIfInBounds_toArray, List.set_cons_zero, List.set_cons_succ]
        refine wpS_done (by kernel_rfl) ?_
        clear hpd hf
        go_wp2_with fail
        go_roundw
        case rel => exact ⟨k + 1, by omega, by go_num, HK2.out, HX2.out, HH2.out⟩
        case measure => simp [intOf]; omega
      · have j1 : ¬ (0 : Int) < l := by omega
        have HK2 := Lib.hid hk
        have HX2 := Lib.hid hxr
        have HH2 := Lib.hid hhr
        clear hk hxr hhr hpc hll hl0
        go_wp2_with fail
        go_roundw
        case rel => exact ⟨k + 1, by omega, by go_num, HK2.out, HX2.out, HH2.out⟩
        case measure => simp [intOf]; omega
    · have i1 : (S.1.1.length : Int) ≤ k := by omega
      have i2 : decide (k < S.1.1.length) = false := decide_eq_false hlt
      have HK2 := Lib.hid hk
      have HX2 := Lib.hid hxr
      have HH2 := Lib.hid hhr
      clear hk hxr hhr hlt
      go_wp2_with fail
      clear c0
      go_loopw [3] (fun i wr => ∃ k : Nat, k ≤ S.1.2.length ∧ i = .int .i64 k ∧ Spoils B w wr ∧ Blk wr g 29 (stC x S) ∧ HiS wr B x S) (fun i _ => S.1.2.length - (intOf i).toNat)
      case atStart => exact ⟨0, Nat.zero_le _, rfl, HK2.out, HX2.out, HH2.out⟩
      case round =>
        obtain ⟨k, hkn, rfl, hk, hxr, hhr⟩ := hrel
        have i0 : (0 : Int) ≤ k := by omega
        have c1 := stC1 hxr
        by_cases hlt : k < S.1.2.length
        · have i1 : (k : Int) < S.1.2.length := by omega
          obtain ⟨hb, ho, A, cA, hae, hrow, hpc⟩ := hhr.2.1.at_ hlt

          obtain ⟨l, hll⟩ : ∃ l : Nat, (wr_ S.1.2 k).2.length = l := ⟨_, rfl⟩
          simp only [hll] at hrow hpc
          rw [hae] at c1
          clear hae
          have j0 : (0 : Int) ≤ l := by omega
          by_cases hl0 : 0 < l
          · have j1 : (0 : Int) < l := by omega
            obtain ⟨pb, po, pcs, z, hpe, hpB, hpk, hpz⟩ := hpc.at_ hl0
            rw [Nat.add_zero] at hpz
            rw [hpe] at hrow
            clear hpe
            obtain ⟨z', hz'⟩ : ∃ z', IntKind.u8.wrap (z + 1) = z' := ⟨_, rfl⟩
            obtain ⟨wd, hwd⟩ : ∃ wd, wr.drew = wd := ⟨_, rfl⟩
            have bb : Below wr.heap.size wr wd := by rw [← hwd]; exact (Below.refl _ wr).drew
            have ksp := Spoils.of_below (B := B) bb (Nat.le_trans HWB.out hk.below.size)
            have hpkd := hpk.below bb hpk.lt
            have ksp2 := Spoils.byte hpkd hpB po z'
            have HK2 := Lib.hid (hk.trans (ksp.trans ksp2))
            have HX2 := Lib.hid (ksp2.box g _ _ (ksp.box g _ _ hxr (by decide)) (by decide))
            have HH2 := Lib.hid ((hhr.spoils ksp).spoils ksp2)
            have C0 := fun X (hX : Below wd.heap.size wd X) => (((bb.trans (hX.mono bb.size)).cell (p := ⟨g, 1, none⟩) hxr.lt)).trans c1
            have C1 := fun X (hX : Below wd.heap.size wd X) => (((bb.trans (hX.mono bb.size)).cell (p := ⟨hb, ho + k * 2 + 1, none⟩) (World.block_lt_of_cell? wr _ hrow))).trans hrow
            have C2 := fun X (hX : Below wd.heap.size wd X) => (((bb.trans (hX.mono bb.size)).cell (p := ⟨pb, po, none⟩) hpk.lt)).trans hpz
            have hf := hpkd.frozen po
            have hS : Below wd.heap.size wd wd := Below.refl _ _
            have hpd := C2 wd hS
            clear bb ksp ksp2 hpkd hk hxr hhr hpc hpk hll
            go_wp2_with fail
            clear c1 hrow hpz
            refine wpS_start [0, 1, 2, 3, 4, 5, 6, 7, 8, 9, 10, 11, 12, 13, 14, 15, 16, 17, 18] hmx rfl hwd ?_
            clear hwd
            iterate 18 (
              refine wpS_read (v := ?_) rfl (by kernel_rfl) (by kernel_rfl) (by kernel_rfl) (fun _ _ _ h => h) (.inl ⟨by rfl, ?_⟩) ?_
              rotate_left
              · intro X hX
                have hXa := C0 X (hX _ hS)
                have hXb := C1 X (hX _ hS)
                have hXc := C2 X (hX _ hS)
                clear hX
                go_simp
                with_reducible rfl
              try simp only [Act.put, List.setIfInBounds_toArray, List.set_cons_zero, List.set_cons_succ])
            clear C0 C1 C2 hS
            refine wpS_last rfl (by kernel_rfl) (by kernel_rfl) (fun K hK => ?_)
            go_simp
            refine hK _ _ ?_
            clear hK K
            try simp only [Act.put, List.setIfInBounds_toArray, List.set_cons_zero, List.set_cons_succ]
            refine wpS_done (by kernel_rfl) ?_
            clear hpd hf
            go_wp2_with fail
            go_roundw
            case rel => exact ⟨k + 1, by omega, by go_num, HK2.out, HX2.out, HH2.out⟩
            case measure => simp [intOf]; omega
          · have j1 : ¬ (0 : Int) < l := by omega
            have HK2 := Lib.hid hk
            have HX2 := Lib.hid hxr
            have HH2 := Lib.hid hhr
            clear hk hxr hhr hpc hll hl0
            go_wp2_with fail
            go_roundw
            case rel => exact ⟨k + 1, by omega, by go_num, HK2.out, HX2.out, HH2.out⟩
            case measure => simp [intOf]; omega
        · have i1 : (S.1.2.length : Int) ≤ k := by omega
          have i2 : decide (k < S.1.2.length) = false := decide_eq_false hlt
          have HK2 := Lib.hid hk
          have HX2 := Lib.hid hxr
          have HH2 := Lib.hid hhr
          clear hk hxr hhr hlt
          go_wp2_with fail
          clear c1
          go_loopw [4] (fun i wr => ∃ k : Nat, k ≤ S.2.1.length ∧ i = .int .i64 k ∧ Spoils B w wr ∧ Blk wr g 29 (stC x S) ∧ HiS wr B x S) (fun i _ => S.2.1.length - (intOf i).toNat)
          case atStart => exact ⟨0, Nat.zero_le _, rfl, HK2.out, HX2.out, HH2.out⟩
          case round =>
            obtain ⟨k, hkn, rfl, hk, hxr, hhr⟩ := hrel
            have i0 : (0 : Int) ≤ k := by omega
            have c2 := stC2 hxr
            by_cases hlt : k < S.2.1.length
            · have i1 : (k : Int) < S.2.1.length := by omega
              obtain ⟨pb, po, pcs, z, hpe, hpB, hpk, hpz⟩ := hhr.2.2.at_ hlt
              rw [hpe] at c2
              clear hpe
              obtain ⟨z', hz'⟩ : ∃ z', IntKind.u8.wrap (z + 1) = z' := ⟨_, rfl⟩
              obtain ⟨wd, hwd⟩ : ∃ wd, wr.drew = wd := ⟨_, rfl⟩
              have bb : Below wr.heap.size wr wd := by rw [← hwd]; exact (Below.refl _ wr).drew
              have ksp := Spoils.of_below (B := B) bb (Nat.le_trans HWB.out hk.below.size)
              have hpkd := hpk.below bb hpk.lt
              have ksp2 := Spoils.byte hpkd hpB (po + k) z'
              have HK3 := Lib.hid (hk.trans (ksp.trans ksp2))
              have HX3 := Lib.hid (ksp2.box g _ _ (ksp.box g _ _ hxr (by decide)) (by decide))
              have HH3 := Lib.hid ((hhr.spoils ksp).spoils ksp2)
              have C0 := fun X (hX : Below wd.heap.size wd X) => (((bb.trans (hX.mono bb.size)).cell (p := ⟨g, 2, none⟩) hxr.lt)).trans c2
              have C2 := fun X (hX : Below wd.heap.size wd X) => (((bb.trans (hX.mono bb.size)).cell (p := ⟨pb, po + k, none⟩) hpk.lt)).trans hpz
              have hf := hpkd.frozen (po + k)
              have hS : Below wd.heap.size wd wd := Below.refl _ _
              have hpd := C2 wd hS
              clear bb ksp ksp2 hpkd hk hxr hhr hpk
              go_wp2_with fail
              clear c2 hpz
              refine wpS_start [0, 1, 2, 3, 4, 5, 6, 7, 8, 9, 10] hmx rfl hwd ?_
              clear hwd
              iterate 10 (
                refine wpS_read (v := ?_) rfl (by kernel_rfl) (by kernel_rfl) (by kernel_rfl) (fun _ _ _ h => h) (.inl ⟨by rfl, ?_⟩) ?_
                rotate_left
                · intro X hX
                  have hXa := C0 X (hX _ hS)
                  have hXc := C2 X (hX _ hS)
                  clear hX
                  go_simp
                  with_reducible rfl
                try simp only [Act.put, List.setIfInBounds_toArray, List.set_cons_zero, List.set_cons_succ])
              clear C0 C2 hS
              refine wpS_last rfl (by kernel_rfl) (by kernel_rfl) (fun K hK => ?_)
              go_simp
              refine hK _ _ ?_
              clear hK K
              try simp only [Act.put, List.setIfInBounds_toArray, List.set_cons_zero, List.set_cons_succ]
              refine wpS_done (by kernel_rfl) ?_
              clear hpd hf
              go_wp2_with fail
              go_roundw
              case rel => exact ⟨k + 1, by omega, by go_num, HK3.out, HX3.out, HH3.out⟩
              case measure => simp [intOf]; omega
            · have i1 : (S.2.1.length : Int) ≤ k := by omega
              have HK3 := Lib.hid hk
              clear hk hxr hhr hlt
              go_wp2_with fail
              refine bodyPost_end (results_none rfl _ _ _) rfl ?_
              exact ⟨rfl, HK3.out⟩
end Go.Proofs.YtdpmdlibgabjaaaGreat
/-
  Disks that are laid in one new piece, and rows of one's own, are one's own: all their bytes may be turned.
-/
namespace Go.Proofs.YtdpmdlibgabjaaaGreat
open Go.RowKit Go.Shelf
set_option maxRecDepth 100000

theorem piece_own {w : World} {B n c : Nat} {a : Option Addr} {s : List UInt8} (h : w.ownsRow B 5 1 (.slice a n c) n (vals s)) : Piece w B a n := by
  rcases Nat.eq_zero_or_pos n with h0 | h0
  · exact .inl h0
  · obtain ⟨g, c', e⟩ := own_at h h0
    cases e
    obtain ⟨cs, hcs⟩ := own_blk h
    refine .inr ⟨g, 0, cs, rfl, (own_lt h).1, hcs, fun j hj => ⟨(mkT s j : Nat), ?_⟩⟩
    rw [Nat.zero_add, ← hcs.cell]
    exact own_mk h j hj
theorem laid_hi {w : World} {lo : Nat} {x : DAt} {D : DkL} (h : Laid w lo x D) :
    Rows9 w lo x.ba D.1.length 26 1 0 (fun i => (D.1.getD i []).length) ∧ Rows9 w lo x.wa D.2.length 75 2 1 (fun i => (wr_ D.2 i).2.length) := by
  obtain ⟨g, hb, hw, rfl, k1, k2, k3, h1, h2, h3, h4, h5, ⟨cb, h6, h7, h8⟩, cw, h9, h10, h11⟩ := h
  have hst : startP (pieces D) (D.1.length + D.2.length) = sumD D := startP_sumD D
  have hpc : ∀ i v, i < D.1.length + D.2.length → PieceV g (pieces D) i v → ∃ A c, v = .slice A ((pieces D).getD i []).length c ∧ Piece w lo A ((pieces D).getD i []).length := by
    rintro i v hi ⟨o, e, ho⟩
    refine ⟨_, _, e, ?_⟩
    rcases Nat.eq_zero_or_pos ((pieces D).getD i []).length with h0 | h0
    · exact .inl h0
    · have hs := startP_succ (P := pieces D) (k := i) (by rw [pieces_length]; exact hi)
      have hm := startP_mono (P := pieces D) (show i + 1 ≤ D.1.length + D.2.length by omega)
      have ho' := ho h0
      refine .inr ⟨g, o, _, rfl, k1, h5, fun j hj => ?_⟩
      have hlt : o + j < (roomP (pieces D) (sumD D) (D.1.length + D.2.length)).length := by
        rw [roomP_length (by rw [hst]; exact Nat.le_refl _)]
        omega
      exact ⟨_, ar_get _ _ hlt⟩
  refine ⟨.inr ⟨hb, 0, cb, rfl, h6, fun i hi => ?_⟩, .inr ⟨hw, 0, cw, rfl, h9, fun i hi => ?_⟩⟩
  · obtain ⟨v, e1, e2⟩ := h8 i hi
    obtain ⟨A, c, rfl, hp⟩ := hpc i v (by omega) e2
    rw [pieces_left hi] at e1 hp
    exact ⟨A, c, by simpa using e1, hp⟩
  · obtain ⟨_, v, e1, e2⟩ := h11 i hi
    obtain ⟨A, c, rfl, hp⟩ := hpc (D.1.length + i) v (by omega) e2
    rw [pieces_right hi] at e1 hp
    exact ⟨A, c, by simpa using e1, hp⟩
theorem outD_hi {w : World} {lo : Nat} {x : DAt} {D : DkL} (h : OutD w lo x D) :
    Rows9 w lo x.ba D.1.length 26 1 0 (fun i => (D.1.getD i []).length) ∧ Rows9 w lo x.wa D.2.length 75 2 1 (fun i => (wr_ D.2 i).2.length) := by
  rcases h with ⟨rfl, rfl⟩ | h
  · exact ⟨.inl rfl, .inl rfl⟩
  · exact laid_hi h
end Go.Proofs.YtdpmdlibgabjaaaGreat
/-
  What the program's own calls on stores answer: a store of one's own (all its bytes in new blocks), which lasts; with a pointer, with an error's number.
-/
namespace Go.Proofs.YtdpmdlibgabjaaaGreat
open Go.RowKit Go.Shelf
set_option maxRecDepth 100000

/-- What is asked of a store that the program is handed: it is not great. -/
def OkS (S : StL) : Prop := Fits S.1 ∧ S.2.1.length ≤ 20000 ∧ WfS S
theorem MayS.ok {S : StL} (h : MayS S) : OkS S := ⟨may_fits h.1, by rw [h.2.1.1]; omega, by have := h.2.2.1.2; omega, by have := h.2.2.2; omega⟩
/-- A store of one's own. -/
def NewS (S : StL) (w : World) (e : Ending) (w' : World) : Prop := ∃ y, e = .returned (stV y S) ∧ StP 0 w' y S ∧ HiS w' w.heap.size y S ∧ Below w.heap.size w w'
/-- A store of one's own, an error's number. -/
def NewSE (o : StL × Nat) (w : World) (e : Ending) (w' : World) : Prop := ∃ y, e = .returned (.tuple #[stV y o.1, .int .i64 o.2]) ∧ StP 0 w' y o.1 ∧ HiS w' w.heap.size y o.1 ∧ Below w.heap.size w w'
/-- A store of one's own, a pointer, an error's number. -/
def NewSP (o : StL × Pt × Nat) (w : World) (e : Ending) (w' : World) : Prop := ∃ y, e = .returned (.tuple #[stV y o.1, ptV o.2.1, .int .i64 o.2.2]) ∧ StP 0 w' y o.1 ∧ HiS w' w.heap.size y o.1 ∧ Below w.heap.size w w'
theorem StP.any {L : Nat} {w : World} {x : SAt} {S : StL} (h : StP 0 w x S) : StP L w x S := h.less (Nat.zero_le _)
/-- The new store. -/
abbrev newS : StL := (newD, newTo 12, 1, 0)
theorem newS_may : MayS newS := ⟨newD_may, new_may, ⟨Nat.le_refl _, by show 1 ≤ 65535; omega⟩, Nat.zero_le _⟩
theorem newS_free : ∃ r, freeTo newS.2.1 256 = 12 :: r := freeTo_head (by omega) (by show mkT (newTo 12) 12 = 0; rw [newTo_mk 12 (by omega)]; rfl) fun i hi => by
  show mkT (newTo 12) i ≠ 0
  rw [newTo_mk i (by omega), if_pos hi]
  omega
theorem laid_keeps {L lo : Nat} {w w' : World} {x : DAt} {D : DkL} (h : Laid w lo x D) (k : Keeps L w w') : Laid w' lo x D := by
  obtain ⟨g, hb, hw, rfl, h0, h1, h2, h3, h4, h5, h6, h7, ⟨cb, h8, h9, h10⟩, cw, h11, h12, h13⟩ := h
  exact ⟨g, hb, hw, rfl, h0, h1, h2, h3, h4, h5, h6, k.row _ _ _ h7 (by decide), ⟨cb, k.row _ _ _ h8 (by decide), h9, h10⟩, cw, k.row _ _ _ h11 (by decide), h12, h13⟩
theorem outD_keeps {L lo : Nat} {w w' : World} {x : DAt} {D : DkL} (h : OutD w lo x D) (k : Keeps L w w') : OutD w' lo x D := h.imp id fun h => laid_keeps h k
theorem outD_lasts {lo : Nat} {w : World} {x : DAt} {D : DkL} (h : OutD w lo x D) (L : Nat) : Lasts L w fun W => Dsk W W.heap.size x D := fun _ k => (outD_keeps h k).dsk
end Go.Proofs.YtdpmdlibgabjaaaGreat
/-
  Store's own: isUpTo, isKey, mayBe, Check; nothing that was there is written.
-/
namespace Go.Proofs.YtdpmdlibgabjaaaGreat
open Go.RowKit Go.Shelf
set_option maxRecDepth 100000

theorem stUpTo_any (n : Nat) (m : Int) (r : Bool) (hr : r = true ↔ (1 ≤ n ∧ (n : Int) ≤ m)) (w : World) : Calls Tryz.prog 66 #[.int .u32 (n : Int), .int .u32 m] w fun e w' => e = .returned (.bool r) ∧ w = w' := by
  by_cases h : 1 ≤ n
  · have i1 : (1 : Int) ≤ (n : Int) := by omega
    by_cases h2 : (n : Int) ≤ m
    · obtain rfl : r = true := hr.2 ⟨h, h2⟩
      clear hr h
      go_enter Tryz.func66, Tryz.ntmps66
      go_wp2_with fail
      go_ret
      exact ⟨rfl, rfl⟩
    · obtain rfl : r = false := by cases r with | false => rfl | true => exact absurd (hr.1 rfl) (fun hh => h2 hh.2)
      clear hr h
      go_enter Tryz.func66, Tryz.ntmps66
      go_wp2_with fail
      go_ret
      exact ⟨rfl, rfl⟩
  · have i1 : ¬ (1 : Int) ≤ (n : Int) := by omega
    obtain rfl : r = false := by cases r with | false => rfl | true => exact absurd (hr.1 rfl) (fun hh => h hh.1)
    clear hr h
    go_enter Tryz.func66, Tryz.ntmps66
    go_wp2_with fail
    go_ret
    exact ⟨rfl, rfl⟩
theorem stIsKey_any (a : Option Addr) (n c : Nat) (w : World) : Calls Tryz.prog 47 #[.slice a n c] w fun e w' => e = .returned (.bool (decide (n = 16))) ∧ w = w' := by
  by_cases h : n = 16
  · rw [decide_eq_true h]
    subst h
    go_enter Tryz.func47, Tryz.ntmps47
    go_wp2_with fail
    go_ret
    exact ⟨rfl, rfl⟩
  · rw [decide_eq_false h]
    have e1 : ((n : Int) == 16) = false := by simp; omega
    clear h
    go_enter Tryz.func47, Tryz.ntmps47
    go_wp2_with fail
    go_ret
    exact ⟨rfl, rfl⟩
set_option maxHeartbeats 2000000 in
theorem stMayBe_any (L : Nat) (x : SAt) (S : StL) (w : World) (h : StP L w x S) (R : Bool) (hR : R = true ↔ MayS S) : Calls Tryz.prog 55 #[stV x S] w fun e w' => e = .returned (.bool R) ∧ Below w.heap.size w w' := by
  obtain ⟨xb, b0⟩ := st_box w x S
  obtain ⟨w0, hw0⟩ : ∃ w0, w.alloc (.cells (stC x S) 29) = w0 := ⟨_, rfl⟩
  rw [hw0] at xb b0
  have h0 := h.bel b0
  have c0 := stC0 xb
  have c1 := stC1 xb
  have HX := Lib.hid xb
  have HB := Lib.hid b0
  have HS := Lib.hid h0
  have hm := dCheck_any x.d S.1 w0 h0.now.1
  simp only [dval] at hm
  simp only [stC] at hw0
  clear h h0 xb b0
  have n3 : (0 : Int) ≤ (S.2.2.2 : Int) := by omega
  have n4 : (0 : Int) ≤ (S.2.2.1 : Int) := by omega
  by_cases hd : MayD S.1
  · rw [show checkO S.1 = 0 by unfold checkO; rw [if_pos hd]] at hm
    have HM2 := Lib.hid hm
    clear hm
    by_cases ht : MayT S.2.1
    · by_cases e1 : 1 ≤ S.2.2.1 ∧ S.2.2.1 ≤ 65535
      · have HU := Lib.hid (fun W => stUpTo_any S.2.2.1 65535 true ⟨fun _ => ⟨e1.1, by omega⟩, fun _ => rfl⟩ W)
        by_cases e3 : S.2.2.2 ≤ 65535
        · have n2 : (S.2.2.2 : Int) ≤ 65535 := by omega
          obtain rfl : R = true := hR.2 ⟨hd, ht, e1, e3⟩
          clear hR e1 e3 hd
          go_enter Tryz.func55, Tryz.ntmps55
          go_wp2_with fail
          clear c0 c1
          refine HM2.out.mono ?_
          rintro e w1 ⟨rfl, b1⟩
          have x1 := HX.out.below b1 HX.out.lt
          have c2 := stC2 x1
          have c3 := stC3 x1
          have c4 := stC4 x1
          have HC := Lib.hid (spCheck_yes x.a S.2.1.length x.c _ S.2.1 w1 (HS.out.bel b1).now.2 ht)
          have HB1 := Lib.hid (HB.out.trans (b1.mono HB.out.size))
          clear b1 x1 ht
          go_wp2_with fail
          refine HC.out.mono ?_
          rintro e w2 ⟨rfl, rfl⟩
          go_wp2_with fail
          refine (HU.out w1).mono ?_
          rintro e w2 ⟨rfl, rfl⟩
          go_wp2_with fail
          go_ret
          exact ⟨rfl, HB1.out⟩
        · have n2 : ¬ (S.2.2.2 : Int) ≤ 65535 := by omega
          obtain rfl : R = false := by cases R with | false => rfl | true => exact absurd (hR.1 rfl) (fun hh => e3 hh.2.2.2)
          clear hR e1 e3 hd
          go_enter Tryz.func55, Tryz.ntmps55
          go_wp2_with fail
          clear c0 c1
          refine HM2.out.mono ?_
          rintro e w1 ⟨rfl, b1⟩
          have x1 := HX.out.below b1 HX.out.lt
          have c2 := stC2 x1
          have c3 := stC3 x1
          have c4 := stC4 x1
          have HC := Lib.hid (spCheck_yes x.a S.2.1.length x.c _ S.2.1 w1 (HS.out.bel b1).now.2 ht)
          have HB1 := Lib.hid (HB.out.trans (b1.mono HB.out.size))
          clear b1 x1 ht
          go_wp2_with fail
          refine HC.out.mono ?_
          rintro e w2 ⟨rfl, rfl⟩
          go_wp2_with fail
          refine (HU.out w1).mono ?_
          rintro e w2 ⟨rfl, rfl⟩
          go_wp2_with fail
          go_ret
          exact ⟨by simp; omega, HB1.out⟩
      · have HU := Lib.hid (fun W => stUpTo_any S.2.2.1 65535 false ⟨fun h => (by cases h), fun h => absurd (show 1 ≤ S.2.2.1 ∧ S.2.2.1 ≤ 65535 by omega) e1⟩ W)
        obtain rfl : R = false := by cases R with | false => rfl | true => exact absurd (hR.1 rfl) (fun hh => e1 hh.2.2.1)
        clear hR e1 hd
        go_enter Tryz.func55, Tryz.ntmps55
        go_wp2_with fail
        clear c0 c1
        refine HM2.out.mono ?_
        rintro e w1 ⟨rfl, b1⟩
        have x1 := HX.out.below b1 HX.out.lt
        have c2 := stC2 x1
        have c3 := stC3 x1
        have c4 := stC4 x1
        have HC := Lib.hid (spCheck_yes x.a S.2.1.length x.c _ S.2.1 w1 (HS.out.bel b1).now.2 ht)
        have HB1 := Lib.hid (HB.out.trans (b1.mono HB.out.size))
        clear b1 x1 ht
        go_wp2_with fail
        refine HC.out.mono ?_
        rintro e w2 ⟨rfl, rfl⟩
        go_wp2_with fail
        refine (HU.out w1).mono ?_
        rintro e w2 ⟨rfl, rfl⟩
        go_wp2_with fail
        go_ret
        exact ⟨rfl, HB1.out⟩
    · obtain rfl : R = false := by cases R with | false => rfl | true => exact absurd (hR.1 rfl) (fun hh => ht hh.2.1)
      clear hR hd
      go_enter Tryz.func55, Tryz.ntmps55
      go_wp2_with fail
      clear c0 c1
      refine HM2.out.mono ?_
      rintro e w1 ⟨rfl, b1⟩
      have x1 := HX.out.below b1 HX.out.lt
      have c2 := stC2 x1
      have c3 := stC3 x1
      have c4 := stC4 x1
      have HC := Lib.hid (spCheck_no x.a S.2.1.length x.c _ S.2.1 w1 (HS.out.bel b1).now.2 ht)
      have HB1 := Lib.hid (HB.out.trans (b1.mono HB.out.size))
      clear b1 x1 ht
      go_wp2_with fail
      refine HC.out.mono ?_
      rintro e w2 ⟨rfl, rfl⟩
      go_wp2_with fail
      go_ret
      exact ⟨rfl, HB1.out⟩
  · rw [show checkO S.1 = 8 by unfold checkO; rw [if_neg hd]] at hm
    have HM2 := Lib.hid hm
    clear hm
    obtain rfl : R = false := by cases R with | false => rfl | true => exact absurd (hR.1 rfl) (fun hh => hd hh.1)
    clear hR hd
    go_enter Tryz.func55, Tryz.ntmps55
    go_wp2_with fail
    clear c0 c1
    refine HM2.out.mono ?_
    rintro e w1 ⟨rfl, b1⟩
    have HB1 := Lib.hid (HB.out.trans (b1.mono HB.out.size))
    clear b1
    go_wp2_with fail
    go_ret
    exact ⟨rfl, HB1.out⟩
theorem stCheck_any (L : Nat) (x : SAt) (S : StL) (w : World) (h : StP L w x S) (_ho : OkS S) (_hL : L ≤ w.heap.size) (c : Nat) (hc : (MayS S → c = 0) ∧ (¬ MayS S → c = 8)) : Calls Tryz.prog 23 #[stV x S] w fun e w' => e = .returned (.int .i64 c) ∧ Below w.heap.size w w' := by
  obtain ⟨xb, b0⟩ := st_box w x S
  obtain ⟨w0, hw0⟩ : ∃ w0, w.alloc (.cells (stC x S) 29) = w0 := ⟨_, rfl⟩
  rw [hw0] at xb b0
  have c0 := stC0 xb
  have c1 := stC1 xb
  have c2 := stC2 xb
  have c3 := stC3 xb
  have c4 := stC4 xb
  have HB := Lib.hid b0
  have HMY := fun R hR => stMayBe_any L x S w0 (h.bel b0) R hR
  simp only [stC] at hw0
  clear h xb b0
  by_cases hm : MayS S
  · obtain rfl : c = 0 := hc.1 hm
    have HM := Lib.hid (HMY true ⟨fun _ => hm, fun _ => rfl⟩)
    clear HMY hc hm
    go_enter Tryz.func23, Tryz.ntmps23
    go_wp2_with fail
    refine HM.out.mono ?_
    rintro e w1 ⟨rfl, b1⟩
    have HB1 := Lib.hid (HB.out.trans (b1.mono HB.out.size))
    clear b1 c0 c1 c2 c3 c4
    go_wp2_with fail
    go_ret
    exact ⟨rfl, HB1.out⟩
  · obtain rfl : c = 8 := hc.2 hm
    have HM := Lib.hid (HMY false ⟨fun h => (by cases h), fun h => absurd h hm⟩)
    clear HMY hc hm
    go_enter Tryz.func23, Tryz.ntmps23
    go_wp2_with fail
    refine HM.out.mono ?_
    rintro e w1 ⟨rfl, b1⟩
    have HB1 := Lib.hid (HB.out.trans (b1.mono HB.out.size))
    clear b1 c0 c1 c2 c3 c4
    go_wp2_with fail
    go_ret
    exact ⟨rfl, HB1.out⟩
end Go.Proofs.YtdpmdlibgabjaaaGreat
/-
  ptr.mayBe, ptr.put and ptr.get, whatever pointer and whichever sixteen bytes they are handed; nothing that was there is written.
-/
namespace Go.Proofs.YtdpmdlibgabjaaaGreat
open Go.RowKit Go.Shelf
set_option maxRecDepth 100000

/-- The sizes lie where the program's initialiser laid them. -/
def Szs (w : World) : Prop := 0 < w.heap.size ∧ w.cell? ⟨0, 0, none⟩ = some (.int .i64 1) ∧ w.cell? ⟨0, 1, none⟩ = some (.int .i64 3) ∧ w.cell? ⟨0, 2, none⟩ = some (.int .i64 4) ∧ w.cell? ⟨0, 3, none⟩ = some (.int .i64 4) ∧ w.cell? ⟨0, 4, none⟩ = some (.int .i64 4)
theorem Szs.below {B : Nat} {w w' : World} (h : Szs w) (hb : Below B w w') (hB : 0 < B) : Szs w' := by
  obtain ⟨h0, h1, h2, h3, h4, h5⟩ := h
  exact ⟨Nat.lt_of_lt_of_le h0 hb.size, (hb.cell (p := ⟨0, 0, none⟩) hB).trans h1, (hb.cell (p := ⟨0, 1, none⟩) hB).trans h2, (hb.cell (p := ⟨0, 2, none⟩) hB).trans h3, (hb.cell (p := ⟨0, 3, none⟩) hB).trans h4, (hb.cell (p := ⟨0, 4, none⟩) hB).trans h5⟩
theorem Szs.step {w w' : World} (h : Szs w) (hb : Below w.heap.size w w') : Szs w' := h.below hb h.1

/-- A pointer's bytes. -/
def bytesP (p : Pt) : List UInt8 := leB 1 p.1.toNat ++ leB 3 p.2.1 ++ leB 4 p.2.2.1 ++ leB 4 p.2.2.2.1 ++ leB 4 p.2.2.2.2
theorem bytesP_length (p : Pt) : (bytesP p).length = 16 := by simp [bytesP, leB_length]
/-- The pointer whose bytes these are. -/
def getP (s : List UInt8) : Pt := (((leN ((s.drop 0).take 1) : Nat) : Int), leN ((s.drop 1).take 3), leN ((s.drop 4).take 4), leN ((s.drop 8).take 4), leN ((s.drop 12).take 4))
theorem leN_le (s : List UInt8) (i k : Nat) : leN ((s.drop i).take k) < 256 ^ k :=
  Nat.lt_of_lt_of_le (leN_lt _) (Nat.pow_le_pow_right (by omega) (by simp; omega))
theorem wf_getP (s : List UInt8) : WfP (getP s) := by
  have h0 := leN_le s 0 1
  have h1 := leN_le s 1 3
  have h2 := leN_le s 4 4
  have h3 := leN_le s 8 4
  have h4 := leN_le s 12 4
  refine ⟨⟨?_, ?_⟩, ?_, ?_, ?_, ?_⟩ <;> simp only [getP] <;> omega
/-- A pointer that may be has numbers that have room. -/
theorem MayP.room {p : Pt} (h : MayP p) : (0 ≤ p.1 ∧ p.1 < 256) ∧ p.2.1 < 16777216 := by
  rcases h with rfl | ⟨⟨h1, h2⟩, h3, h4⟩
  · decide
  · omega
theorem getP_bytesP {p : Pt} (h : MayP p) (hw : WfP p) : getP (bytesP p) = p := by
  obtain ⟨⟨h1, h2⟩, h3⟩ := h.room
  obtain ⟨_, _, h4, h5, h6⟩ := hw
  obtain ⟨a, b, c, d, e⟩ := p
  dsimp only at h1 h2 h3 h4 h5 h6
  have e0 : ((bytesP (a, b, c, d, e)).drop 0).take 1 = leB 1 a.toNat := by simp [bytesP, leB_length]
  have l1 := leB_length 1 a.toNat
  have l2 := leB_length 3 b
  have l3 := leB_length 4 c
  have l4 := leB_length 4 d
  have l5 := leB_length 4 e
  have cut : ∀ (A B C : List UInt8) (i k : Nat), A.length = i → B.length = k → ((A ++ (B ++ C)).drop i).take k = B := fun A B C i k h1 h2 => by
    subst h1; subst h2; simp
  have e1 : ((bytesP (a, b, c, d, e)).drop 1).take 3 = leB 3 b := by
    have := cut (leB 1 a.toNat) (leB 3 b) (leB 4 c ++ leB 4 d ++ leB 4 e) 1 3 l1 l2
    simpa [bytesP] using this
  have e2 : ((bytesP (a, b, c, d, e)).drop 4).take 4 = leB 4 c := by
    have := cut (leB 1 a.toNat ++ leB 3 b) (leB 4 c) (leB 4 d ++ leB 4 e) 4 4 (by simp [leB_length]) l3
    simpa [bytesP] using this
  have e3 : ((bytesP (a, b, c, d, e)).drop 8).take 4 = leB 4 d := by
    have := cut (leB 1 a.toNat ++ leB 3 b ++ leB 4 c) (leB 4 d) (leB 4 e) 8 4 (by simp [leB_length]) l4
    simpa [bytesP] using this
  have e4 : ((bytesP (a, b, c, d, e)).drop 12).take 4 = leB 4 e := by
    have := cut (leB 1 a.toNat ++ leB 3 b ++ leB 4 c ++ leB 4 d) (leB 4 e) [] 12 4 (by simp [leB_length]) l5
    simpa [bytesP] using this
  rw [getP, e0, e1, e2, e3, e4, leN_leB 1 _ (by omega), leN_leB 3 _ (by omega), leN_leB 4 _ (by omega), leN_leB 4 _ (by omega), leN_leB 4 _ (by omega)]
  have : ((a.toNat : Nat) : Int) = a := by omega
  rw [this]
theorem bytesP_getP {s : List UInt8} (h : s.length = 16) : bytesP (getP s) = s := by
  have back : ∀ (i k : Nat), i + k ≤ 16 → leB k (leN ((s.drop i).take k)) = (s.drop i).take k := fun i k hk => by
    have := leB_leN ((s.drop i).take k)
    rwa [win_length (by omega)] at this
  have e0 : (((leN ((s.drop 0).take 1) : Nat) : Int)).toNat = leN ((s.drop 0).take 1) := by omega
  simp only [bytesP, getP]
  rw [e0, back 0 1 (by omega), back 1 3 (by omega), back 4 4 (by omega), back 8 4 (by omega), back 12 4 (by omega)]
  have j : ∀ i k, s.take i ++ (s.drop i).take k = s.take (i + k) := fun i k => List.take_add.symm
  rw [List.drop_zero, j 1 3, j 4 4, j 8 4, j 12 4]
  exact List.take_of_length_le (by omega)

theorem isTaken_any (a : Int) (w : World) : Calls Tryz.prog 133 #[.int .i64 a] w fun e w' => e = .returned (.bool (decide (12 ≤ a ∧ a < 256))) ∧ w = w' := by
  by_cases h : 12 ≤ a
  · by_cases h2 : a < 256
    · rw [decide_eq_true (And.intro h h2)]
      go_enter Tryz.func133, Tryz.ntmps133
      go_wp2_with fail
      go_ret
      exact ⟨rfl, rfl⟩
    · rw [decide_eq_false (fun hh : 12 ≤ a ∧ a < 256 => h2 hh.2)]
      go_enter Tryz.func133, Tryz.ntmps133
      go_wp2_with fail
      go_ret
      exact ⟨rfl, rfl⟩
  · rw [decide_eq_false (fun hh : 12 ≤ a ∧ a < 256 => h hh.1)]
    go_enter Tryz.func133, Tryz.ntmps133
    go_wp2_with fail
    go_ret
    exact ⟨rfl, rfl⟩
theorem isSync_any (b : Nat) (w : World) : Calls Tryz.prog 134 #[.int .u32 (b : Int)] w fun e w' => e = .returned (.bool (decide (1 ≤ b ∧ b ≤ 16777215))) ∧ w = w' := by
  by_cases h : 1 ≤ b
  · by_cases h2 : b ≤ 16777215
    · rw [decide_eq_true (And.intro h h2)]
      have i1 : (1 : Int) ≤ (b : Int) := by omega
      have i2 : (b : Int) ≤ 16777215 := by omega
      go_enter Tryz.func134, Tryz.ntmps134
      go_wp2_with fail
      go_ret
      exact ⟨rfl, rfl⟩
    · rw [decide_eq_false (fun hh : 1 ≤ b ∧ b ≤ 16777215 => h2 hh.2)]
      have i1 : (1 : Int) ≤ (b : Int) := by omega
      have i2 : ¬ (b : Int) ≤ 16777215 := by omega
      go_enter Tryz.func134, Tryz.ntmps134
      go_wp2_with fail
      go_ret
      exact ⟨rfl, rfl⟩
  · rw [decide_eq_false (fun hh : 1 ≤ b ∧ b ≤ 16777215 => h hh.1)]
    have i1 : ¬ (1 : Int) ≤ (b : Int) := by omega
    go_enter Tryz.func134, Tryz.ntmps134
    go_wp2_with fail
    go_ret
    exact ⟨rfl, rfl⟩
theorem mayBe_any (p : Pt) (w : World) : Calls Tryz.prog 105 #[ptV p] w fun e w' => e = .returned (.bool (decide (MayP p))) ∧ Below w.heap.size w w' := by
  obtain ⟨a, b, c, d, e⟩ := p
  have heq := eqPt_zero a b c d e
  by_cases h0 : eqP (a, b, c, d, e) p0 = true
  · have hm : decide (MayP (a, b, c, d, e)) = true := decide_eq_true (.inl ((eqP_iff _ _).1 h0))
    rw [hm]
    rw [h0] at heq
    go_enter Tryz.func105, Tryz.ntmps105
    go_wp2_with fail
    go_ret
    exact ⟨rfl, (Below.refl _ w).alloc (Nat.le_refl _) _⟩
  · have h0' : eqP (a, b, c, d, e) p0 = false := by simpa using h0
    rw [h0'] at heq
    have hne : (a, b, c, d, e) ≠ p0 := fun hh => h0 ((eqP_iff _ _).2 hh)
    by_cases h1 : 12 ≤ a ∧ a < 256
    · have hm : decide (MayP (a, b, c, d, e)) = decide (1 ≤ b ∧ b ≤ 16777215) := by
        rw [decide_eq_decide]
        exact ⟨fun hh => (hh.resolve_left hne).2, fun hh => .inr ⟨h1, hh⟩⟩
      rw [hm]
      have ht := isTaken_any a
      rw [decide_eq_true h1] at ht
      have hs := isSync_any b
      obtain ⟨r, hr⟩ : ∃ r, decide (1 ≤ b ∧ b ≤ 16777215) = r := ⟨_, rfl⟩
      rw [hr] at hs ⊢
      clear hm hr h1 hne h0 h0'
      go_enter Tryz.func105, Tryz.ntmps105
      go_wp2_with (first | (go_at_call 133; refine (ht _).mono ?_; rintro e w' ⟨rfl, rfl⟩) | (go_at_call 134; refine (hs _).mono ?_; rintro e w' ⟨rfl, rfl⟩))
      go_ret
      exact ⟨rfl, (Below.refl _ w).alloc (Nat.le_refl _) _⟩
    · have hm : decide (MayP (a, b, c, d, e)) = false := decide_eq_false fun hh => h1 (hh.resolve_left hne).1
      rw [hm]
      have ht := isTaken_any a
      rw [decide_eq_false h1] at ht
      clear hm h1 hne h0 h0'
      go_enter Tryz.func105, Tryz.ntmps105
      go_wp2_with (go_at_call 133; refine (ht _).mono ?_; rintro e w' ⟨rfl, rfl⟩)
      go_ret
      exact ⟨rfl, (Below.refl _ w).alloc (Nat.le_refl _) _⟩
end Go.Proofs.YtdpmdlibgabjaaaGreat
/-
  ptr.Check, whatever it is handed; nothing that was there is written.
-/
namespace Go.Proofs.YtdpmdlibgabjaaaGreat
open Go.RowKit Go.Shelf
set_option maxRecDepth 100000

/-- What Check answers. -/
def pcheckO (p : Pt) : Int := if MayP p then 0 else 8
theorem Check_any (p : Pt) (w : World) : Calls Tryz.prog 78 #[ptV p] w fun e w' => e = .returned (.int .i64 (pcheckO p)) ∧ Below w.heap.size w w' := by
  have hm := mayBe_any p (w.alloc (.cells (ptC p).toArray 33))
  have hb1 : Below w.heap.size w (w.alloc (.cells (ptC p).toArray 33)) := (Below.refl _ w).alloc (Nat.le_refl _) _
  have HB := Lib.hid hb1; clear hb1
  rw [pcheckO]
  by_cases h : MayP p
  · rw [if_pos h]
    rw [decide_eq_true h] at hm
    obtain ⟨a, b, c, d, e⟩ := p
    have HM := Lib.hid hm; clear hm
    go_enter Tryz.func78, Tryz.ntmps78
    go_wp2_with (go_at_call 105; refine HM.out.mono ?_; rintro ev w1 ⟨rfl, b1⟩; have HB1 := Lib.hid (HB.out.trans (b1.mono (by simp [ptC]))); clear b1)
    go_ret
    exact ⟨rfl, HB1.out⟩
  · rw [if_neg h]
    rw [decide_eq_false h] at hm
    obtain ⟨a, b, c, d, e⟩ := p
    have HM := Lib.hid hm; clear hm
    go_enter Tryz.func78, Tryz.ntmps78
    go_wp2_with (go_at_call 105; refine HM.out.mono ?_; rintro ev w1 ⟨rfl, b1⟩; have HB1 := Lib.hid (HB.out.trans (b1.mono (by simp [ptC]))); clear b1)
    go_ret
    exact ⟨rfl, HB1.out⟩
end Go.Proofs.YtdpmdlibgabjaaaGreat
/-
  The document's own Same of layer 13: whether all fields of two stores are the same.
-/
namespace Go.Proofs.YtdpmdlibgabjaaaGreat
open Go.RowKit Go.Shelf
set_option maxRecDepth 100000

theorem strs_eq (s t : List UInt8) (r : Bool) (hr : r = true ↔ s = t) : ((strOf s).toList == (strOf t).toList) = r := by
  rw [strOf_toList, strOf_toList]
  cases r with
  | true => simp [hr.1 rfl]
  | false =>
    have : s ≠ t := fun h => by have := hr.2 h; cases this
    simp [this]
theorem nat_eq (a b : Nat) (r : Bool) (hr : r = true ↔ a = b) : ((a : Int) == (b : Int)) = r := by
  cases r with
  | true => have := hr.1 rfl; subst this; simp
  | false =>
    have : a ≠ b := fun h => by have := hr.2 h; cases this
    simp; omega
set_option maxHeartbeats 4000000 in
theorem rtSame_any (L : Nat) (x y : SAt) (S T : StL) (w : World) (h : StP L w x S) (k : StP L w y T) (hf : S.1.1.length ≤ 1000000 ∧ S.1.2.length ≤ 1000000) (R : Bool) (hR : R = true ↔ S = T) :
    Calls Tryz.prog 15 #[stV x S, stV y T] w fun e w' => e = .returned (.bool R) ∧ Below w.heap.size w w' := by
  obtain ⟨w0, hw0, b0, z0, x0, x1⟩ := two_al w (stC x S) (stC y T) 29 29
  have h0 := h.bel b0
  have k0 := k.bel b0
  have c0 := stC0 x0
  have c1 := stC1 x0
  have c2 := stC0 x1
  have c3 := stC1 x1
  have HX := Lib.hid x0
  have HY := Lib.hid x1
  have HB := Lib.hid b0
  have HS := Lib.hid h0
  have HT := Lib.hid k0
  have HF := Lib.hid hf
  have HD := Lib.hid (fun R' hR' => rdSame_any x.d S.1 y.d T.1 w0 h0.now.1 k0.now.1 hf R' hR')
  simp only [stC] at hw0
  clear h k h0 k0 x0 x1 b0 hf z0
  by_cases e1 : S.1 = T.1
  · by_cases e2 : S.2.1 = T.2.1
    · have g2 := strs_eq S.2.1 T.2.1 true ⟨fun _ => e2, fun _ => rfl⟩
      by_cases e3 : S.2.2.1 = T.2.2.1
      · have g3 := nat_eq S.2.2.1 T.2.2.1 true ⟨fun _ => e3, fun _ => rfl⟩
        by_cases e4 : S.2.2.2 = T.2.2.2
        · have g4 := nat_eq S.2.2.2 T.2.2.2 true ⟨fun _ => e4, fun _ => rfl⟩
          obtain rfl : R = true := hR.2 (Prod.ext e1 (Prod.ext e2 (Prod.ext e3 e4)))
          have E1 := Lib.hid e1
          clear hR e1 e2 e3 e4
          have hds := HD.out true ⟨fun _ => E1.out, fun _ => rfl⟩
          simp only [dval] at hds
          have HDS := Lib.hid hds
          clear hds
          go_enter Tryz.func15, Tryz.ntmps15
          go_wp2_with fail
          clear c0 c1 c2 c3 hw0
          refine HDS.out.mono ?_
          rintro e w1 ⟨rfl, b1⟩
          have y1 := HX.out.below b1 HX.out.lt
          have y2 := HY.out.below b1 HY.out.lt
          have d2 := stC2 y1
          have d3 := stC3 y1
          have d4 := stC4 y1
          have f2 := stC2 y2
          have f3 := stC3 y2
          have f4 := stC4 y2
          have v1 := (HS.out.bel b1).now.2.conv
          have v2 := (HT.out.bel b1).now.2.conv
          have HB1 := Lib.hid (HB.out.trans (b1.mono HB.out.size))
          clear y1 y2 b1
          go_wp2_with fail
          go_ret
          exact ⟨rfl, HB1.out⟩
        · have g4 := nat_eq S.2.2.2 T.2.2.2 false ⟨fun h => (by cases h), fun h => absurd h e4⟩
          obtain rfl : R = false := by cases R with | false => rfl | true => exact absurd (hR.1 rfl) (fun hh => e4 (by rw [hh]))
          have E1 := Lib.hid e1
          clear hR e1 e2 e3 e4
          have hds := HD.out true ⟨fun _ => E1.out, fun _ => rfl⟩
          simp only [dval] at hds
          have HDS := Lib.hid hds
          clear hds
          go_enter Tryz.func15, Tryz.ntmps15
          go_wp2_with fail
          clear c0 c1 c2 c3 hw0
          refine HDS.out.mono ?_
          rintro e w1 ⟨rfl, b1⟩
          have y1 := HX.out.below b1 HX.out.lt
          have y2 := HY.out.below b1 HY.out.lt
          have d2 := stC2 y1
          have d3 := stC3 y1
          have d4 := stC4 y1
          have f2 := stC2 y2
          have f3 := stC3 y2
          have f4 := stC4 y2
          have v1 := (HS.out.bel b1).now.2.conv
          have v2 := (HT.out.bel b1).now.2.conv
          have HB1 := Lib.hid (HB.out.trans (b1.mono HB.out.size))
          clear y1 y2 b1
          go_wp2_with fail
          go_ret
          exact ⟨rfl, HB1.out⟩
      · have g3 := nat_eq S.2.2.1 T.2.2.1 false ⟨fun h => (by cases h), fun h => absurd h e3⟩
        obtain rfl : R = false := by cases R with | false => rfl | true => exact absurd (hR.1 rfl) (fun hh => e3 (by rw [hh]))
        have E1 := Lib.hid e1
        clear hR e1 e2 e3
        have hds := HD.out true ⟨fun _ => E1.out, fun _ => rfl⟩
        simp only [dval] at hds
        have HDS := Lib.hid hds
        clear hds
        go_enter Tryz.func15, Tryz.ntmps15
        go_wp2_with fail
        clear c0 c1 c2 c3 hw0
        refine HDS.out.mono ?_
        rintro e w1 ⟨rfl, b1⟩
        have y1 := HX.out.below b1 HX.out.lt
        have y2 := HY.out.below b1 HY.out.lt
        have d2 := stC2 y1
        have d3 := stC3 y1
        have d4 := stC4 y1
        have f2 := stC2 y2
        have f3 := stC3 y2
        have f4 := stC4 y2
        have v1 := (HS.out.bel b1).now.2.conv
        have v2 := (HT.out.bel b1).now.2.conv
        have HB1 := Lib.hid (HB.out.trans (b1.mono HB.out.size))
        clear y1 y2 b1
        go_wp2_with fail
        go_ret
        exact ⟨rfl, HB1.out⟩
    · have g2 := strs_eq S.2.1 T.2.1 false ⟨fun h => (by cases h), fun h => absurd h e2⟩
      obtain rfl : R = false := by cases R with | false => rfl | true => exact absurd (hR.1 rfl) (fun hh => e2 (by rw [hh]))
      have E1 := Lib.hid e1
      clear hR e1 e2
      have hds := HD.out true ⟨fun _ => E1.out, fun _ => rfl⟩
      simp only [dval] at hds
      have HDS := Lib.hid hds
      clear hds
      go_enter Tryz.func15, Tryz.ntmps15
      go_wp2_with fail
      clear c0 c1 c2 c3 hw0
      refine HDS.out.mono ?_
      rintro e w1 ⟨rfl, b1⟩
      have y1 := HX.out.below b1 HX.out.lt
      have y2 := HY.out.below b1 HY.out.lt
      have d2 := stC2 y1
      have d3 := stC3 y1
      have d4 := stC4 y1
      have f2 := stC2 y2
      have f3 := stC3 y2
      have f4 := stC4 y2
      have v1 := (HS.out.bel b1).now.2.conv
      have v2 := (HT.out.bel b1).now.2.conv
      have HB1 := Lib.hid (HB.out.trans (b1.mono HB.out.size))
      clear y1 y2 b1
      go_wp2_with fail
      go_ret
      exact ⟨rfl, HB1.out⟩
  · obtain rfl : R = false := by cases R with | false => rfl | true => exact absurd (hR.1 rfl) (fun hh => e1 (by rw [hh]))
    have E1 := Lib.hid e1
    clear hR e1
    have hds := HD.out false ⟨fun h => (by cases h), fun h => absurd h E1.out⟩
    simp only [dval] at hds
    have HDS := Lib.hid hds
    clear hds
    go_enter Tryz.func15, Tryz.ntmps15
    go_wp2_with fail
    clear c0 c1 c2 c3 hw0
    refine HDS.out.mono ?_
    rintro e w1 ⟨rfl, b1⟩
    have y1 := HX.out.below b1 HX.out.lt
    have y2 := HY.out.below b1 HY.out.lt
    have d2 := stC2 y1
    have d3 := stC3 y1
    have d4 := stC4 y1
    have f2 := stC2 y2
    have f3 := stC3 y2
    have f4 := stC4 y2
    have v1 := (HS.out.bel b1).now.2.conv
    have v2 := (HT.out.bel b1).now.2.conv
    have HB1 := Lib.hid (HB.out.trans (b1.mono HB.out.size))
    clear y1 y2 b1
    go_wp2_with fail
    go_ret
    exact ⟨rfl, HB1.out⟩
end Go.Proofs.YtdpmdlibgabjaaaGreat
/-
  Two arrays of four words are compared as one: equal just where each word is.
-/
namespace Go.Proofs.YtdpmdlibgabjaaaGreat
open Go.RowKit Go.Shelf
set_option maxRecDepth 100000

/-- Are the four words the same? -/
def eqW (x y : W4) : Bool := x.a == y.a && (x.b == y.b && (x.c == y.c && x.d == y.d))
theorem eqW_iff (x y : W4) : eqW x y = true ↔ x = y := by
  obtain ⟨a, b, c, d⟩ := x
  obtain ⟨a', b', c', d'⟩ := y
  simp [eqW]
theorem eqW_self (x : W4) : eqW x x = true := (eqW_iff x x).2 rfl
theorem natcast_beq (x y : BitVec 32) : (((x.toNat : Nat) : Int) == ((y.toNat : Nat) : Int)) = (x == y) := by
  rw [Bool.eq_iff_iff]
  simp only [beq_iff_eq]
  constructor
  · intro h
    exact BitVec.eq_of_toNat_eq (by omega)
  · intro h; rw [h]
theorem u22 : Tryz.prog.underlying 27 = some (.int .u32) := by kernel_rfl
theorem p22 (cs : Array Value) (i : Nat) (v : Value) (h : cs[i]? = some v) (w : World) : (part 27 cs i).run Tryz.prog w = .ok v w := run_part_plain w (by kernel_rfl) h
theorem z22 (w : World) : (Go.sizeOf 27).run Tryz.prog w = .ok 1 w := by kernel_rfl
theorem eql4 (x y : W4) (w : World) : (Op.equalIn 10000 114 (ag x) (ag y)).run Tryz.prog w = .ok (eqW x y) w := by
  have hu : Tryz.prog.underlying 114 = some (.array 4 27) := by kernel_rfl
  unfold Op.equalIn
  simp only [Sem.run_bind, run_underlying hu, Result.andThen_ok, z22]
  rw [Std.Legacy.Range.forIn_eq_forIn_range']
  have hr : List.range' (0 : Nat) 4 1 = [0, 1, 2, 3] := rfl
  have h0 : ∀ (v : BitVec 32) (z : BitVec 32) (w : World), (Op.equalIn 9999 27 (.int .u32 (v.toNat : Int)) (.int .u32 (z.toNat : Int))).run Tryz.prog w = .ok (v == z) w := fun v z w => by rw [run_equalIn_int w 9998 27 .u32 .u32 _ _ u22, natcast_beq]
  simp only [Std.Legacy.Range.size, Nat.sub_zero, Nat.add_sub_cancel, Nat.div_one, hr, List.forIn_cons, List.forIn_nil, Sem.run_bind]
  rw [p22 _ _ (.int .u32 (x.a.toNat : Int)) rfl, Result.andThen_ok, p22 _ _ (.int .u32 (y.a.toNat : Int)) rfl, Result.andThen_ok, h0, Result.andThen_ok]
  cases ha : (x.a == y.a)
  · simp [eqW, ha]
  · simp only [Bool.not_true, Bool.false_eq_true, if_false, Sem.run_pure, Result.andThen_ok, Sem.run_bind]
    rw [p22 _ _ (.int .u32 (x.b.toNat : Int)) rfl, Result.andThen_ok, p22 _ _ (.int .u32 (y.b.toNat : Int)) rfl, Result.andThen_ok, h0, Result.andThen_ok]
    cases hb : (x.b == y.b)
    · simp [eqW, ha, hb]
    · simp only [Bool.not_true, Bool.false_eq_true, if_false, Sem.run_pure, Result.andThen_ok, Sem.run_bind]
      rw [p22 _ _ (.int .u32 (x.c.toNat : Int)) rfl, Result.andThen_ok, p22 _ _ (.int .u32 (y.c.toNat : Int)) rfl, Result.andThen_ok, h0, Result.andThen_ok]
      cases hc : (x.c == y.c)
      · simp [eqW, ha, hb, hc]
      · simp only [Bool.not_true, Bool.false_eq_true, if_false, Sem.run_pure, Result.andThen_ok, Sem.run_bind]
        rw [p22 _ _ (.int .u32 (x.d.toNat : Int)) rfl, Result.andThen_ok, p22 _ _ (.int .u32 (y.d.toNat : Int)) rfl, Result.andThen_ok, h0, Result.andThen_ok]
        cases hd : (x.d == y.d)
        · simp [eqW, ha, hb, hc, hd]
        · simp [eqW, ha, hb, hc, hd]

/-- The run of == over words, as the walk meets it. -/
theorem eql4_lit (a b c d a' b' c' d' : BitVec 32) (w : World) : (Op.equalIn 10000 114 (.agg #[.int .u32 (a.toNat : Int), .int .u32 (b.toNat : Int), .int .u32 (c.toNat : Int), .int .u32 (d.toNat : Int)]) (.agg #[.int .u32 (a'.toNat : Int), .int .u32 (b'.toNat : Int), .int .u32 (c'.toNat : Int), .int .u32 (d'.toNat : Int)])).run Tryz.prog w = .ok (eqW ⟨a, b, c, d⟩ ⟨a', b', c', d'⟩) w := eql4 ⟨a, b, c, d⟩ ⟨a', b', c', d'⟩ w
end Go.Proofs.YtdpmdlibgabjaaaGreat
/-
  Four integers that fit uint32 are four words.
-/
namespace Go.Proofs.YtdpmdlibgabjaaaGreat
open Go.RowKit Go.Shelf
set_option maxRecDepth 100000

theorem u32_of_wf {z : Int} (h : (Lit.int .u32 z).wf = true) : 0 ≤ z ∧ z ≤ 4294967295 := by simpa [Lit.wf, IntKind.min, IntKind.max, IntKind.signed, IntKind.bits] using h
theorem u8_of_wf {z : Int} (h : (Lit.int .u8 z).wf = true) : 0 ≤ z ∧ z ≤ 255 := by simpa [Lit.wf, IntKind.min, IntKind.max, IntKind.signed, IntKind.bits] using h
theorem u16_of_wf {z : Int} (h : (Lit.int .u16 z).wf = true) : 0 ≤ z ∧ z ≤ 65535 := by simpa [Lit.wf, IntKind.min, IntKind.max, IntKind.signed, IntKind.bits] using h
theorem wd_of {z : Int} (h : (Lit.int .u32 z).wf = true) : ∃ x : BitVec 32, (x.toNat : Int) = z := by
  obtain ⟨h1, h2⟩ := u32_of_wf h
  obtain ⟨n, rfl⟩ := Int.eq_ofNat_of_zero_le h1
  exact ⟨BitVec.ofNat 32 n, by rw [BitVec.toNat_ofNat]; congr 1; exact Nat.mod_eq_of_lt (by omega)⟩
theorem w4_of (z : List Int) (l : z.length = 4) (w : ∀ x ∈ z, (Lit.int .u32 x).wf = true) : ∃ x : W4, (Value.agg (z.map (Value.int .u32)).toArray) = ag x := by
  match z, l, w with
  | [a, b, c, d], _, w =>
    obtain ⟨x0, h0⟩ := wd_of (w a (by simp))
    obtain ⟨x1, h1⟩ := wd_of (w b (by simp))
    obtain ⟨x2, h2⟩ := wd_of (w c (by simp))
    obtain ⟨x3, h3⟩ := wd_of (w d (by simp))
    exact ⟨⟨x0, x1, x2, x3⟩, by simp [h0, h1, h2, h3]⟩
end Go.Proofs.YtdpmdlibgabjaaaGreat
/-
  What the document's own Turn, Back, Four, Sum and Key answer is what mix.Turn, Back, Four, Sum and Key answer.
-/
namespace Go.Proofs.YtdpmdlibgabjaaaGreat
open Go.RowKit Go.Shelf
set_option maxRecDepth 100000

theorem rplus_any (x y : BitVec 32) (w : World) : Calls Tryz.prog 154 #[.int .u32 (x.toNat : Int), .int .u32 (y.toNat : Int)] w fun e w' => e = .returned (.int .u32 ((pl x y).toNat : Int)) ∧ w = w' := by
  have x0 : (0 : Int) ≤ (x.toNat : Int) := by omega
  have x1 : (x.toNat : Int) ≤ 4294967295 := by have := x.isLt; omega
  have y0 : (0 : Int) ≤ (y.toNat : Int) := by omega
  have y1 : (y.toNat : Int) ≤ 4294967295 := by have := y.isLt; omega
  have z0 : (0 : Int) ≤ ((pl x y).toNat : Int) := by omega
  have z1 : ((pl x y).toNat : Int) ≤ 4294967295 := by have := (pl x y).isLt; omega
  have e1 := add32 x y
  go_enter Tryz.func154, Tryz.ntmps154
  go_wp2
  go_ret
  exact ⟨rfl, rfl⟩
theorem rleft_any (x : BitVec 32) (n : Nat) (hn : n < 32) (w : World) : Calls Tryz.prog 155 #[.int .u32 (x.toNat : Int), .int .i64 n] w fun e w' => e = .returned (.int .u32 ((ro n x).toNat : Int)) ∧ w = w' := by
  have x0 : (0 : Int) ≤ (x.toNat : Int) := by omega
  have x1 : (x.toNat : Int) ≤ 4294967295 := by have := x.isLt; omega
  go_enter Tryz.func155, Tryz.ntmps155
  go_wp2_with fail
  go_loop [5, 6] (fun v i => ∃ k : Nat, k ≤ n ∧ i = .int .i64 k ∧ v = .int .i64 ((ro k x).toNat : Int)) (fun _ i => n - (intOf i).toNat)
  case atStart => exact ⟨0, Nat.zero_le _, rfl, by rw [ro_0]⟩
  case round =>
    obtain ⟨k, hk, rfl, rfl⟩ := hrel
    obtain ⟨v, hv⟩ : ∃ v : Nat, (ro k x).toNat = v := ⟨_, rfl⟩
    have hvl : v < 4294967296 := by rw [← hv]; exact (ro k x).isLt
    by_cases hlt : k < n
    · have hs := ro_succ k (by omega) x
      rw [hv] at hs ⊢
      have HS := Lib.hid hs; clear hs hv
      have v0 : (0 : Int) ≤ v := by omega
      have v1 : (v : Int) ≤ 4294967295 := by omega
      go_wp2
      go_round
      case rel => exact ⟨k + 1, by omega, by go_num, by rw [HS.out]; congr 1⟩
      case measure => simp [intOf]; omega
    · obtain rfl : k = n := by omega
      rw [hv]
      have v0 : (0 : Int) ≤ v := by omega
      have v1 : (v : Int) ≤ 4294967295 := by omega
      have HV := Lib.hid hv; clear hv
      go_wp2
      go_ret
      exact ⟨ret_int (by rw [HV.out]), rfl⟩

set_option maxHeartbeats 2000000 in
theorem rturn_any (x : W4) (w : World) : Calls Tryz.prog 132 #[ag x] w fun e w' => e = .returned (ag (turnW x)) ∧ Below w.heap.size w w' := by
  have r2 := xor32
  obtain ⟨a, b, c, d⟩ := x
  go_enter Tryz.func132, Tryz.ntmps132
  go_wp2_with fail
  refine (rplus_any _ _ _).mono ?_; rintro e w' ⟨rfl, rfl⟩
  go_wp2_with fail
  refine (rleft_any _ 15 (by omega) _).mono ?_; rintro e w' ⟨rfl, rfl⟩
  go_wp2_with fail
  refine (rplus_any _ _ _).mono ?_; rintro e w' ⟨rfl, rfl⟩
  go_wp2_with fail
  refine (rleft_any _ 11 (by omega) _).mono ?_; rintro e w' ⟨rfl, rfl⟩
  go_wp2_with fail
  refine (rplus_any _ _ _).mono ?_; rintro e w' ⟨rfl, rfl⟩
  go_wp2_with fail
  refine (rleft_any _ 9 (by omega) _).mono ?_; rintro e w' ⟨rfl, rfl⟩
  go_wp2_with fail
  refine (rplus_any _ _ _).mono ?_; rintro e w' ⟨rfl, rfl⟩
  go_wp2_with fail
  refine (rleft_any _ 6 (by omega) _).mono ?_; rintro e w' ⟨rfl, rfl⟩
  go_wp2_with fail
  exact bodyPost_ret (v := ag (turnW ⟨a, b, c, d⟩)) (by simp [results, Tryz.results132, go_sem, turnW, halfT]) rfl ⟨rfl, ((Below.refl _ w).alloc (Nat.le_refl _) _).alloc (by simp) _⟩
theorem rbyte_any (a : Option Addr) (len cap : Nat) (s : List UInt8) (i : Nat) (B : Nat) (w : World) (hA : Bsl w B a len cap s) (hi : i ≤ 1000000) (hl : len ≤ 1000000) :
    Calls Tryz.prog 153 #[.slice a len cap, .int .i64 i] w fun e w' => e = .returned (.int .u32 ((byteP s i).toNat : Int)) ∧ w = w' := by
  have hsl := hA.1
  have i0 : (0 : Int) ≤ i := by omega
  by_cases h1 : i < len
  · obtain ⟨b, off, rfl, hb, hc⟩ := hA.2.2.2.2 (by omega)
    have hcc := hc i (by omega)
    have e : byteP s i = s[i]'(by omega) := by unfold byteP; rw [dif_pos (by omega)]
    rw [e]
    obtain ⟨v, hv⟩ : ∃ v : Nat, (s[i]'(by omega)).toNat = v := ⟨_, rfl⟩
    rw [hv] at hcc ⊢
    have v0 : (0 : Int) ≤ v := by omega
    have v1 : (v : Int) ≤ 255 := by have := (s[i]'(by omega)).toNat_lt; omega
    have i1 : (i : Int) < len := by omega
    clear hv e hA hc hsl
    go_enter Tryz.func153, Tryz.ntmps153
    go_wp2
    go_ret
    exact ⟨rfl, rfl⟩
  · have i1 : ¬ (i : Int) < len := by omega
    by_cases h2 : i = len
    · have e : byteP s i = 1 := by unfold byteP; rw [dif_neg (by omega), if_pos (by omega)]
      rw [e]
      have i2 : ((i : Int) == len) = true := by simp; omega
      clear e hA hsl h1 h2
      go_enter Tryz.func153, Tryz.ntmps153
      go_wp2
      go_ret
      exact ⟨rfl, rfl⟩
    · have e : byteP s i = 0 := by unfold byteP; rw [dif_neg (by omega), if_neg (by omega)]
      rw [e]
      have i2 : ((i : Int) == len) = false := by simp; omega
      clear e hA hsl h1 h2
      go_enter Tryz.func153, Tryz.ntmps153
      go_wp2
      go_ret
      exact ⟨rfl, rfl⟩
theorem rword_any (a : Option Addr) (len cap : Nat) (s : List UInt8) (i : Nat) (B : Nat) (w : World) (hA : Bsl w B a len cap s) (hi : i + 3 ≤ 1000000) (hl : len ≤ 1000000) :
    Calls Tryz.prog 131 #[.slice a len cap, .int .i64 i] w fun e w' => e = .returned (.int .u32 ((wordP s i).toNat : Int)) ∧ w = w' := by
  rw [wordP_toNat]
  unfold quadP
  rw [leN4]
  have q0 := rbyte_any a len cap s i B w hA (by omega) hl
  have q1 := rbyte_any a len cap s (i + 1) B w hA (by omega) hl
  have q2 := rbyte_any a len cap s (i + 2) B w hA (by omega) hl
  have q3 := rbyte_any a len cap s (i + 3) B w hA (by omega) hl
  rw [show ((i + 1 : Nat) : Int) = (i : Int) + 1 by omega] at q1
  rw [show ((i + 2 : Nat) : Int) = (i : Int) + 2 by omega] at q2
  rw [show ((i + 3 : Nat) : Int) = (i : Int) + 3 by omega] at q3
  obtain ⟨b0, h0⟩ : ∃ b0 : Nat, (byteP s i).toNat = b0 := ⟨_, rfl⟩
  obtain ⟨b1, h1⟩ : ∃ b0 : Nat, (byteP s (i + 1)).toNat = b0 := ⟨_, rfl⟩
  obtain ⟨b2, h2⟩ : ∃ b0 : Nat, (byteP s (i + 2)).toNat = b0 := ⟨_, rfl⟩
  obtain ⟨b3, h3⟩ : ∃ b0 : Nat, (byteP s (i + 3)).toNat = b0 := ⟨_, rfl⟩
  have t0 := (byteP s i).toNat_lt
  have t1 := (byteP s (i + 1)).toNat_lt
  have t2 := (byteP s (i + 2)).toNat_lt
  have t3 := (byteP s (i + 3)).toNat_lt
  rw [h0] at t0 q0 ⊢
  rw [h1] at t1 q1 ⊢
  rw [h2] at t2 q2 ⊢
  rw [h3] at t3 q3 ⊢
  have u0 : (0 : Int) ≤ b0 := by omega
  have u1 : (0 : Int) ≤ b1 := by omega
  have u2 : (0 : Int) ≤ b2 := by omega
  have u3 : (0 : Int) ≤ b3 := by omega
  have v0 : (b0 : Int) ≤ 255 := by omega
  have v1 : (b1 : Int) ≤ 255 := by omega
  have v2 : (b2 : Int) ≤ 255 := by omega
  have v3 : (b3 : Int) ≤ 255 := by omega
  have i0 : (0 : Int) ≤ i := by omega
  have i1 : (i : Int) ≤ 1000000 := by omega
  have Q0 := Lib.hid q0; clear q0
  have Q1 := Lib.hid q1; clear q1
  have Q2 := Lib.hid q2; clear q2
  have Q3 := Lib.hid q3; clear q3
  clear h0 h1 h2 h3 hA
  go_enter Tryz.func131, Tryz.ntmps131
  go_wp2_with fail
  refine Q0.out.mono ?_; rintro e w' ⟨rfl, rfl⟩
  go_wp2_with fail
  refine Q1.out.mono ?_; rintro e w' ⟨rfl, rfl⟩
  go_wp2_with fail
  refine Q2.out.mono ?_; rintro e w' ⟨rfl, rfl⟩
  go_wp2_with fail
  refine Q3.out.mono ?_; rintro e w' ⟨rfl, rfl⟩
  go_wp2_with fail
  go_ret
  exact ⟨rfl, rfl⟩
end Go.Proofs.YtdpmdlibgabjaaaGreat
/-
  What the document's own Four, Sum and Key answer is what mix.Four, Sum and Key answer.
-/
namespace Go.Proofs.YtdpmdlibgabjaaaGreat
open Go.RowKit Go.Shelf
set_option maxRecDepth 100000

set_option maxHeartbeats 4000000 in
theorem rfour_any (a : Option Addr) (len cap : Nat) (s : List UInt8) (w : World) (hA : Bsl w w.heap.size a len cap s) (hl : len ≤ 100000) :
    Calls Tryz.prog 104 #[.slice a len cap] w fun e w' => e = .returned (ag (fourW s)) ∧ Below w.heap.size w w' := by
  have hmx : Tryz.prog.follows Departure.mixedOrders = true := by kernel_rfl
  have r2 := xor32
  have l0 : (0 : Int) ≤ len := by omega
  have l1 : (len : Int) ≤ 100000 := by omega
  obtain ⟨g, hg⟩ : ∃ g, w.heap.size = g := ⟨_, rfl⟩
  obtain ⟨W0, hW0⟩ : ∃ W0, ((w.alloc (Obj.cells #[Value.int IntKind.u32 0, Value.int IntKind.u32 0, Value.int IntKind.u32 0, Value.int IntKind.u32 0] 114)).alloc (Obj.cells #[Value.int IntKind.u32 1, Value.int IntKind.u32 2, Value.int IntKind.u32 3, Value.int IntKind.u32 4] 114)) = W0 := ⟨_, rfl⟩
  have hB0 : Below w.heap.size w W0 := by rw [← hW0]; exact ((Below.refl _ w).alloc (Nat.le_refl _) _).alloc (by simp) _
  have b0 : Blk W0 g 114 #[.int .u32 0, .int .u32 0, .int .u32 0, .int .u32 0] := by rw [← hW0, ← hg]; exact (Blk.new w _ _).alloc _
  have b1 : Blk W0 (g + 1) 114 (cl ⟨1, 2, 3, 4⟩) := by
    have := (Blk.new (w.alloc (Obj.cells #[Value.int IntKind.u32 0, Value.int IntKind.u32 0, Value.int IntKind.u32 0, Value.int IntKind.u32 0] 114)) 114 (cl ⟨1, 2, 3, 4⟩))
    rw [World.size_alloc, hg] at this
    rw [← hW0]
    exact this
  have wd : ∀ (i : Nat) (W : World), i ≤ 200000 → Below w.heap.size w W → Calls Tryz.prog 131 #[.slice a len cap, .int .i64 i] W fun e w' => e = .returned (.int .u32 ((wordP s i).toNat : Int)) ∧ w' = W := fun i W hi hW =>
    (rword_any a len cap s i _ W (hA.below hW) (by omega) (by omega)).mono fun _ _ h => ⟨h.1, h.2.symm⟩
  have hsl := hA.1
  have WD := Lib.hid wd; clear wd hA
  have HSL := Lib.hid hsl; clear hsl
  have HW0 := Lib.hid hW0; clear hW0
  have HBe := Lib.hid hB0; clear hB0
  have HB0 := Lib.hid b0; clear b0
  have HB1 := Lib.hid b1; clear b1
  go_enter Tryz.func104, Tryz.ntmps104
  go_wp2_with fail
  rw [HW0.out]
  have HG := Lib.hid hg; clear hg
  go_loopw [4] (fun i wr => ∃ k : Nat, k ≤ len / 8 + 1 ∧ i = .int .i64 ((8 * k : Nat) : Int) ∧ Blk wr (g + 1) 114 (cl (behind s k)) ∧ Blk wr g 114 #[.int .u32 0, .int .u32 0, .int .u32 0, .int .u32 0] ∧ Below w.heap.size w wr) (fun i _ => 200000 - (intOf i).toNat)
  case atStart => exact ⟨0, Nat.zero_le _, rfl, HB1.out, HB0.out, HBe.out⟩
  case round =>
    obtain ⟨k, hk, rfl, hx, hr, hbe⟩ := hrel
    obtain ⟨m, hm⟩ : ∃ m : Nat, 8 * k = m := ⟨_, rfl⟩
    rw [hm]
    have m0 : (0 : Int) ≤ m := by omega
    have m1 : (m : Int) ≤ 200000 := by omega
    by_cases hlt : m ≤ len
    · have m2 : (m : Int) ≤ len := by omega
      have m3 : IntKind.i64.wrap ((m : Int) + 4) = (m : Int) + 4 := IntWalk.i64_in _ (by omega)
      obtain ⟨x, hxx⟩ : ∃ x, behind s k = x := ⟨_, rfl⟩
      rw [hxx] at hx
      obtain ⟨p1, hp1⟩ : ∃ p1, wordP s m = p1 := ⟨_, rfl⟩
      obtain ⟨p2, hp2⟩ : ∃ p2, wordP s (m + 4) = p2 := ⟨_, rfl⟩
      have hnx : behind s (k + 1) = turnsW 4 ⟨xo x.a p1, x.b, xo x.c p2, x.d⟩ := by rw [behind, hxx, hm, hp1, hp2]; rfl
      obtain ⟨w1, hw1⟩ : ∃ w1, wr.drew = w1 := ⟨_, rfl⟩
      have hx1 : Blk w1 (g + 1) 114 (cl x) := hw1 ▸ hx.drew
      have hr1 : Blk w1 g 114 _ := hw1 ▸ hr.drew
      have he1 : Below w.heap.size w w1 := hw1 ▸ hbe.drew
      have q1 := WD.out m w1 (by omega) he1
      rw [hp1] at q1
      have HM := Lib.hid hm; clear hm
      have HNX := Lib.hid hnx; clear hnx hxx
      have HP2 := Lib.hid hp2; clear hp2 hp1
      have c0 := hx1.cell 0
      have f := fun i => hx1.frozen i
      have HW1 := Lib.hid hw1; clear hw1
      have HX1 := Lib.hid hx1; clear hx1
      have HR1 := Lib.hid hr1; clear hr1
      have HE1 := Lib.hid he1; clear he1
      have Q1 := Lib.hid q1; clear q1
      clear hx hr hbe
      go_wp2_with fail
      refine region_tail 7 hmx (by kernel_rfl) HW1.out ?_
      simp only [List.take_succ_cons, List.take_zero, List.drop_succ_cons, List.drop_zero]
      repeat still_step
      still_call (Q1.out)
      repeat still_step
      refine wpStill_nil ?_
      go_wp2_with fail
      obtain ⟨w2, hw2⟩ : ∃ w2, (w1.setCell ⟨g + 1, 0, none⟩ (.int .u32 ((xo x.a p1).toNat : Int))).drew = w2 := ⟨_, rfl⟩
      have hx2 : Blk w2 (g + 1) 114 (cl ⟨xo x.a p1, x.b, x.c, x.d⟩) := hw2 ▸ (HX1.out.set_ 0 _).drew
      have hr2 : Blk w2 g 114 _ := hw2 ▸ (HR1.out.far (by simp) _).drew
      have he2 : Below w.heap.size w w2 := hw2 ▸ (HE1.out.setCell (p := ⟨g + 1, 0, none⟩) (by rw [HG.out]; simp) _).drew
      have q2 := WD.out (m + 4) w2 (by omega) he2
      rw [HP2.out, show ((m + 4 : Nat) : Int) = (m : Int) + 4 by omega] at q2
      clear c0 f
      have c0 := hx2.cell 0
      have c1 := hx2.cell 1
      have c2 := hx2.cell 2
      have c3 := hx2.cell 3
      have f := fun i => hx2.frozen i
      have HW2 := Lib.hid hw2; clear hw2
      have HX2 := Lib.hid hx2; clear hx2
      have HR2 := Lib.hid hr2; clear hr2
      have HE2 := Lib.hid he2; clear he2
      have Q2 := Lib.hid q2; clear q2
      refine region_tail 8 hmx (by kernel_rfl) HW2.out ?_
      simp only [List.take_succ_cons, List.take_zero, List.drop_succ_cons, List.drop_zero]
      repeat still_step
      still_call (Q2.out)
      repeat still_step
      refine wpStill_nil ?_
      go_wp2_with fail
      obtain ⟨w3, hw3⟩ : ∃ w3, w2.setCell ⟨g + 1, 2, none⟩ (.int .u32 ((xo x.c p2).toNat : Int)) = w3 := ⟨_, rfl⟩
      have hr3 : Blk w3 g 114 _ := hw3 ▸ HR2.out.far (by simp) _
      have hx3 : Blk w3 (g + 1) 114 (cl ⟨xo x.a p1, x.b, xo x.c p2, x.d⟩) := hw3 ▸ HX2.out.set_ 2 _
      have he3 : Below w.heap.size w w3 := hw3 ▸ HE2.out.setCell (p := ⟨g + 1, 2, none⟩) (by rw [HG.out]; simp) _
      rw [hw3]
      obtain ⟨y, hy⟩ : ∃ y : W4, (⟨xo x.a p1, x.b, xo x.c p2, x.d⟩ : W4) = y := ⟨_, rfl⟩
      have HNY : Hid (behind s (k + 1) = turnsW 4 y) := Lib.hid (by rw [HNX.out, hy])
      rw [hy] at hx3
      have ey : (Value.agg #[.int .u32 ((xo x.a p1).toNat : Int), .int .u32 (x.b.toNat : Int), .int .u32 ((xo x.c p2).toNat : Int), .int .u32 (x.d.toNat : Int)]) = ag y := by rw [← hy]
      clear hw3 c0 c1 c2 c3 f
      refine (rturn_any ⟨xo x.a p1, x.b, xo x.c p2, x.d⟩ w3).mono ?_
      rintro e w4 ⟨rfl, b4⟩
      rw [hy]
      clear hy ey
      have HX3 := Lib.hid (hx3.below b4 hx3.lt)
      have HR3 := Lib.hid (hr3.below b4 hr3.lt)
      have HE3 := Lib.hid (he3.trans (b4.mono he3.size)); clear hx3 hr3 he3 b4
      go_wp2_with fail
      refine (rturn_any (turnW y) w4).mono ?_
      rintro e w5 ⟨rfl, b5⟩
      have HX4 := Lib.hid (HX3.out.below b5 HX3.out.lt)
      have HR4 := Lib.hid (HR3.out.below b5 HR3.out.lt)
      have HE4 := Lib.hid (HE3.out.trans (b5.mono HE3.out.size)); clear b5
      go_wp2_with fail
      refine (rturn_any (turnW (turnW y)) w5).mono ?_
      rintro e w6 ⟨rfl, b6⟩
      have HX5 := Lib.hid (HX4.out.below b6 HX4.out.lt)
      have HR5 := Lib.hid (HR4.out.below b6 HR4.out.lt)
      have HE5 := Lib.hid (HE4.out.trans (b6.mono HE4.out.size)); clear b6
      go_wp2_with fail
      refine (rturn_any (turnW (turnW (turnW y))) w6).mono ?_
      rintro e w7 ⟨rfl, b7⟩
      have hx6 := HX5.out.below b7 HX5.out.lt
      have HR6 := Lib.hid (HR5.out.below b7 HR5.out.lt)
      have HE6 := Lib.hid (HE5.out.trans (b7.mono HE5.out.size)); clear b7
      obtain ⟨z, hz⟩ : ∃ z, turnW (turnW (turnW (turnW y))) = z := ⟨_, rfl⟩
      rw [hz]
      have HNZ : Hid (behind s (k + 1) = z) := Lib.hid (by rw [HNY.out, ← hz]; rfl)
      clear hz
      have c0 := hx6.cell 0
      have c1 := hx6.cell 1
      have c2 := hx6.cell 2
      have c3 := hx6.cell 3
      have f := fun i => hx6.frozen i
      have HX6 := Lib.hid hx6; clear hx6
      go_wp2_with fail
      go_roundw
      case rel => exact ⟨k + 1, by have := HM.out; omega, by have := HM.out; congr 1; omega, by rw [HNZ.out]; exact HX6.out.set4 _ _ _ _, (((HR6.out.far (by simp) _).far (by simp) _).far (by simp) _).far (by simp) _, below_set4 HE6.out (by rw [HG.out]; omega) _ _ _ _⟩
      case measure => simp [intOf]; omega
    · have hkk : k = len / 8 + 1 := by omega
      obtain ⟨x, hxx⟩ : ∃ x, behind s k = x := ⟨_, rfl⟩
      rw [hxx] at hx
      have hfw : fourW s = turnsW 8 ⟨x.a, xo x.b (BitVec.ofNat 32 len), x.c, x.d⟩ := by
        unfold fourW
        rw [HSL.out, ← hkk, hxx]
      have hxl : ∀ x : BitVec 32, bits .xor .u32 (x.toNat : Int) (len : Int) = ((xo x (BitVec.ofNat 32 len)).toNat : Int) := fun x => by
        have e : (BitVec.ofNat 32 len).toNat = len := by rw [BitVec.toNat_ofNat]; exact Nat.mod_eq_of_lt (by omega)
        have := xor32 x (BitVec.ofNat 32 len)
        rwa [e] at this
      have HFW := Lib.hid hfw; clear hfw hxx hkk
      have m2 : ¬ (m : Int) ≤ len := by omega
      have c0 := hx.cell 0
      have c1 := hx.cell 1
      have c2 := hx.cell 2
      have c3 := hx.cell 3
      have f := fun i => hx.frozen i
      have HM := Lib.hid hm; clear hm
      have HX := Lib.hid hx; clear hx
      have HR := Lib.hid hr; clear hr
      have HE := Lib.hid hbe; clear hbe
      go_wp2_with fail
      obtain ⟨w3, hw3⟩ : ∃ w3, wr.setCell ⟨g + 1, 1, none⟩ (.int .u32 ((xo x.b (BitVec.ofNat 32 len)).toNat : Int)) = w3 := ⟨_, rfl⟩
      have hr3 : Blk w3 g 114 _ := hw3 ▸ HR.out.far (by simp) _
      have hx3 : Blk w3 (g + 1) 114 (cl ⟨x.a, xo x.b (BitVec.ofNat 32 len), x.c, x.d⟩) := hw3 ▸ HX.out.set_ 1 _
      have he3 : Below w.heap.size w w3 := hw3 ▸ HE.out.setCell (p := ⟨g + 1, 1, none⟩) (by rw [HG.out]; simp) _
      rw [hw3]
      obtain ⟨y, hy⟩ : ∃ y : W4, (⟨x.a, xo x.b (BitVec.ofNat 32 len), x.c, x.d⟩ : W4) = y := ⟨_, rfl⟩
      have HNY : Hid (fourW s = turnsW 8 y) := Lib.hid (by rw [HFW.out, hy])
      rw [hy] at hx3
      clear hw3 c0 c1 c2 c3 f
      refine (rturn_any ⟨x.a, xo x.b (BitVec.ofNat 32 len), x.c, x.d⟩ w3).mono ?_
      rintro e w4 ⟨rfl, b4⟩
      rw [hy]
      clear hy
      have HX4 := Lib.hid (hx3.below b4 hx3.lt)
      have HR4 := Lib.hid (hr3.below b4 hr3.lt)
      have HE4 := Lib.hid (he3.trans (b4.mono he3.size)); clear hx3 hr3 he3 b4
      go_wp2_with fail
      refine (rturn_any (turnW y) w4).mono ?_
      rintro e w5 ⟨rfl, bb⟩
      have HX5 := Lib.hid (HX4.out.below bb HX4.out.lt)
      have HR5 := Lib.hid (HR4.out.below bb HR4.out.lt)
      have HE5 := Lib.hid (HE4.out.trans (bb.mono HE4.out.size)); clear bb
      go_wp2_with fail
      refine (rturn_any (turnW (turnW y)) w5).mono ?_
      rintro e w6 ⟨rfl, bb⟩
      have HX6 := Lib.hid (HX5.out.below bb HX5.out.lt)
      have HR6 := Lib.hid (HR5.out.below bb HR5.out.lt)
      have HE6 := Lib.hid (HE5.out.trans (bb.mono HE5.out.size)); clear bb
      go_wp2_with fail
      refine (rturn_any (turnW (turnW (turnW y))) w6).mono ?_
      rintro e w7 ⟨rfl, bb⟩
      have HX7 := Lib.hid (HX6.out.below bb HX6.out.lt)
      have HR7 := Lib.hid (HR6.out.below bb HR6.out.lt)
      have HE7 := Lib.hid (HE6.out.trans (bb.mono HE6.out.size)); clear bb
      obtain ⟨z, hz⟩ : ∃ z, turnW (turnW (turnW (turnW y))) = z := ⟨_, rfl⟩
      rw [hz]
      have HNZ : Hid (fourW s = turnsW 4 z) := Lib.hid (by rw [HNY.out, ← hz]; rfl)
      clear hz
      have c0 := HX7.out.cell 0
      have c1 := HX7.out.cell 1
      have c2 := HX7.out.cell 2
      have c3 := HX7.out.cell 3
      have f := fun i => HX7.out.frozen i
      go_wp2_with fail
      obtain ⟨w8, hw8⟩ : ∃ w8, ((((w7.setCell ⟨g + 1, 0, none⟩ (.int .u32 (z.a.toNat : Int))).setCell ⟨g + 1, 1, none⟩ (.int .u32 (z.b.toNat : Int))).setCell ⟨g + 1, 2, none⟩ (.int .u32 (z.c.toNat : Int))).setCell ⟨g + 1, 3, none⟩ (.int .u32 (z.d.toNat : Int))) = w8 := ⟨_, rfl⟩
      have hr8 : Blk w8 g 114 _ := hw8 ▸ (((HR7.out.far (by simp) _).far (by simp) _).far (by simp) _).far (by simp) _
      have he8 : Below w.heap.size w w8 := hw8 ▸ below_set4 HE7.out (by rw [HG.out]; omega) _ _ _ _
      rw [hw8]
      clear hw8 c0 c1 c2 c3 f
      have HR8 := Lib.hid hr8; clear hr8
      have HE8 := Lib.hid he8; clear he8
      refine (rturn_any z w8).mono ?_
      rintro e w9 ⟨rfl, bb⟩
      have HR9 := Lib.hid (HR8.out.below bb HR8.out.lt)
      have HE9 := Lib.hid (HE8.out.trans (bb.mono HE8.out.size)); clear bb
      go_wp2_with fail
      refine (rturn_any (turnW z) w9).mono ?_
      rintro e w10 ⟨rfl, bb⟩
      have HR10 := Lib.hid (HR9.out.below bb HR9.out.lt)
      have HE10 := Lib.hid (HE9.out.trans (bb.mono HE9.out.size)); clear bb
      go_wp2_with fail
      refine (rturn_any (turnW (turnW z)) w10).mono ?_
      rintro e w11 ⟨rfl, bb⟩
      have HR11 := Lib.hid (HR10.out.below bb HR10.out.lt)
      have HE11 := Lib.hid (HE10.out.trans (bb.mono HE10.out.size)); clear bb
      go_wp2_with fail
      refine (rturn_any (turnW (turnW (turnW z))) w11).mono ?_
      rintro e w12 ⟨rfl, bb⟩
      have HR12 := Lib.hid (HR11.out.below bb HR11.out.lt)
      have HE12 := Lib.hid (HE11.out.trans (bb.mono HE11.out.size)); clear bb
      obtain ⟨v, hv⟩ : ∃ v, turnW (turnW (turnW (turnW z))) = v := ⟨_, rfl⟩
      rw [hv]
      have HNV : Hid (fourW s = v) := Lib.hid (by rw [HNZ.out, ← hv]; rfl)
      clear hv
      have d0 := HR12.out.cell 0
      have d1 := HR12.out.cell 1
      have d2 := HR12.out.cell 2
      have d3 := HR12.out.cell 3
      have f := fun i => HR12.out.frozen i
      go_wp2_with fail
      have hR := HR12.out.set4 (.int .u32 (v.a.toNat : Int)) (.int .u32 (v.b.toNat : Int)) (.int .u32 (v.c.toNat : Int)) (.int .u32 (v.d.toNat : Int))
      have e0 := hR.cell 0
      have e1 := hR.cell 1
      have e2 := hR.cell 2
      have e3 := hR.cell 3
      have E := below_set4 HE12.out (g := g) (by rw [HG.out]; exact Nat.le_refl _) (.int .u32 (v.a.toNat : Int)) (.int .u32 (v.b.toNat : Int)) (.int .u32 (v.c.toNat : Int)) (.int .u32 (v.d.toNat : Int))
      clear hR
      exact bodyPost_ret (v := ag v) (by simp [results, Tryz.results104, go_sem, e0, e1, e2, e3]) rfl ⟨by rw [HNV.out], E⟩

theorem rsum_any (a : Option Addr) (len cap : Nat) (s : List UInt8) (w : World) (hA : Bsl w w.heap.size a len cap s) (hlen : len ≤ 100000) :
    Calls Tryz.prog 77 #[.slice a len cap] w fun e W' => e = .returned (.int .u32 ((fourW s).a.toNat : Int)) ∧ Below w.heap.size w W' := by
  have hf := rfour_any a len cap s w hA hlen
  have HF := Lib.hid hf; clear hf hA
  obtain ⟨x, hx⟩ : ∃ x, fourW s = x := ⟨_, rfl⟩
  rw [hx] at HF ⊢
  clear hx
  have hi : ∀ W : World, (Instr.index 114 (ag x) (.int .i64 0)).run Tryz.prog W = .ok (.int .u32 (x.a.toNat : Int)) W := fun W => by kernel_rfl
  go_enter Tryz.func77, Tryz.ntmps77
  go_wp2_with fail
  refine HF.out.mono ?_
  rintro e W1 ⟨rfl, b1⟩
  have HB := Lib.hid b1; clear b1
  go_wp2_with fail
  go_ret
  exact ⟨rfl, HB.out⟩
end Go.Proofs.YtdpmdlibgabjaaaGreat
/-
  The document's own Put of layer 13: a block is laid, if there is room.
-/
namespace Go.Proofs.YtdpmdlibgabjaaaGreat
open Go.RowKit Go.Shelf
set_option maxRecDepth 100000

theorem far5_blk {w : World} {g g' : Nat} {t : TypeId} {cs : Array Value} (h : Blk w g' t cs) (hne : g' ≠ g) (v0 v1 v2 v3 v4 : Value) : Blk (set5 w g v0 v1 v2 v3 v4) g' t cs :=
  ((((h.far (p := ⟨g, 0, none⟩) hne v0).far (p := ⟨g, 1, none⟩) hne v1).far (p := ⟨g, 2, none⟩) hne v2).far (p := ⟨g, 3, none⟩) hne v3).far (p := ⟨g, 4, none⟩) hne v4
/-- A slice that goes on reading as b. -/
abbrev BslP (L : Nat) (w : World) (a : Option Addr) (n c : Nat) (b : List UInt8) : Prop := Lasts L w fun W => Bsl W W.heap.size a n c b
/-- What Put answers. -/
def OutPut (L : Nat) (o : Option (StL × Pt)) (w : World) (e : Ending) (w' : World) : Prop :=
  (o = none → e = .returned (.tuple #[.agg #[.slice none 0 0, .slice none 0 0, .slice none 0 0, .int .u32 0, .int .u32 0], .agg #[.int .i64 0, .int .u32 0, .int .u32 0, .int .u32 0, .int .u32 0], .bool false])) ∧ (∀ S' p, o = some (S', p) → ∃ y, e = .returned (.tuple #[stV y S', ptV p, .bool true]) ∧ StP L w' y S') ∧ Below w.heap.size w w'
theorem rsumOf_any (a : Option Addr) (len cap : Nat) (s : List UInt8) (w : World) (hA : Bsl w w.heap.size a len cap s) (hlen : len ≤ 100000) : Calls Tryz.prog 77 #[.slice a len cap] w fun e W' => e = .returned (.int .u32 ((sumOf s : Nat) : Int)) ∧ Below w.heap.size w W' := rsum_any a len cap s w hA hlen
set_option maxHeartbeats 4000000 in
theorem rtPut_full (L : Nat) (x : SAt) (S : StL) (birth iv tag : Nat) (a : Option Addr) (c : Nat) (b : List UInt8) (w : World) (h : StP L w x S) (hb : Bsl w w.heap.size a b.length c b) (hL : L ≤ w.heap.size) (ht : MayT S.2.1) (hf : Fits S.1) (h0' : ∀ i, i < 256 → mkT S.2.1 i ≠ 0) : Calls Tryz.prog 40 #[stV x S, .int .u32 birth, .int .u32 iv, .int .u32 tag, .slice a b.length c] w (OutPut L (putS S birth iv tag b) w) := by
  rw [putS_none h0']
  obtain ⟨w0, hw0, b0, z0, x0, y0, q0⟩ := three_al w (stC x S) stZ ptZ 29 29 33
  obtain ⟨g, hg⟩ : ∃ g, w.heap.size = g := ⟨_, rfl⟩
  obtain ⟨g1, hg1⟩ : ∃ g1, g + 1 = g1 := ⟨_, rfl⟩
  obtain ⟨g2, hg2⟩ : ∃ g2, g1 + 1 = g2 := ⟨_, rfl⟩
  have h0 := h.bel b0
  have hb0 := (bsl_lasts hb (Nat.le_refl _)).bel b0
  rw [hg] at hb0
  rw [hg] at x0 y0 q0 z0 b0
  rw [hg1] at y0
  rw [show g + 2 = g1 + 1 by omega, hg2] at q0
  have HI := Lib.hid (show L ≤ g ∧ g ≤ g1 ∧ g ≤ g2 ∧ g1 ≠ g ∧ g2 ≠ g ∧ g2 ≠ g1 ∧ g1 ≠ g2 by omega)
  have hle : S.2.1.length = 256 := ht.1
  have c2 := stC2 x0
  have hall := rsAll_any x.a x.c w0.heap.size S.2.1 w0 (by have := h0.now.2; rw [hle] at this; exact this) (Nat.le_refl _)
  rw [hle] at c2
  have HA := Lib.hid hall
  have HX := Lib.hid x0
  have HY := Lib.hid y0
  have HQ := Lib.hid q0
  have HB := Lib.hid b0
  have HS := Lib.hid h0
  have HBB := Lib.hid hb0
  have HG := Lib.hid hg
  have HF := Lib.hid hf
  have HLE := Lib.hid hle
  have HT := Lib.hid ht
  have HZ := Lib.hid (show g ≤ w0.heap.size by omega)
  simp only [stC, stZ, ptZ] at hw0
  clear h hb h0 hb0 x0 y0 q0 b0 hall hf z0 ht
  have e00 : freeTo S.2.1 256 = [] := freeTo_same (p := 0) (Nat.zero_le _) fun i _ hi => h0' i hi
  rw [e00] at HA
  clear h0' e00 hle
  go_enter Tryz.func40, Tryz.ntmps40
  go_wp2_with fail
  clear hw0 c2
  refine HA.out.mono ?_
  rintro e w1 ⟨v, rfl, ho, b1⟩
  obtain ⟨al, cl, rfl⟩ := ownN_slice ho
  replace HX := Lib.hid (HX.out.below b1 HX.out.lt)
  replace HY := Lib.hid (HY.out.below b1 HY.out.lt)
  replace HQ := Lib.hid (HQ.out.below b1 HQ.out.lt)
  replace HS := Lib.hid (HS.out.bel b1)
  replace HBB := Lib.hid (HBB.out.bel b1)
  replace HB := Lib.hid (HB.out.trans (b1.mono HZ.out))
  simp only [List.length_nil]
  clear ho b1
  obtain ⟨ya, ka, ba⟩ := box_five (L := g) HY.out (by decide) HI.out.2.1 HB.out HI.out.2.1 (.slice none 0 0) (.slice none 0 0) (.slice none 0 0) (.int .u32 0) (.int .u32 0)
  have qa := far5_blk HQ.out HI.out.2.2.2.2.2.1 (.slice none 0 0) (.slice none 0 0) (.slice none 0 0) (.int .u32 0) (.int .u32 0)
  have m0 := stZ0 HY.out
  have m1 := stZ1 HY.out
  have m2 := stZ2 HY.out
  have m3 := stZ3 HY.out
  have m4 := stZ4 HY.out
  have hfy := fun i => HY.out.frozen i
  obtain ⟨wa, hwa⟩ : ∃ wa, set5 w1 g1 (.slice none 0 0) (.slice none 0 0) (.slice none 0 0) (.int .u32 0) (.int .u32 0) = wa := ⟨_, rfl⟩
  rw [hwa] at ya ka ba qa
  obtain ⟨qb, kb, bb⟩ := box_five (L := g) qa (by decide) HI.out.2.2.1 ba HI.out.2.2.1 (.int .i64 0) (.int .u32 0) (.int .u32 0) (.int .u32 0) (.int .u32 0)
  have yb := far5_blk ya HI.out.2.2.2.2.2.2 (.int .i64 0) (.int .u32 0) (.int .u32 0) (.int .u32 0) (.int .u32 0)
  have n0 := ptZ0 qa
  have n1 := ptZ1 qa
  have n2 := ptZ2 qa
  have n3 := ptZ3 qa
  have n4 := ptZ4 qa
  have hfq := fun i => qa.frozen i
  obtain ⟨wb, hwb⟩ : ∃ wb, set5 wa g2 (.int .i64 0) (.int .u32 0) (.int .u32 0) (.int .u32 0) (.int .u32 0) = wb := ⟨_, rfl⟩
  rw [hwb] at qb kb bb yb
  have HK := Lib.hid (ka.trans kb)
  have HKA := Lib.hid ka
  have HKB := Lib.hid kb
  have HBF := Lib.hid bb
  have HYF := Lib.hid yb
  have HQF := Lib.hid qb
  simp only [set5] at hwa hwb
  clear ya ka ba qa qb kb bb yb
  go_wp2_with fail
  clear m0 m1 m2 m3 m4 n0 n1 n2 n3 n4 hfy hfq hwa hwb
  have e0 := bx0 HYF.out
  have e1 := bx1 HYF.out
  have e2 := bx2 HYF.out
  have e3 := bx3 HYF.out
  have e4 := bx4 HYF.out
  have f0 := bx0 HQF.out
  have f1 := bx1 HQF.out
  have f2 := bx2 HQF.out
  have f3 := bx3 HQF.out
  have f4 := bx4 HQF.out
  refine bodyPost_ret (v := .tuple #[.agg #[(.slice none 0 0), (.slice none 0 0), (.slice none 0 0), (.int .u32 0), (.int .u32 0)], .agg #[(.int .i64 0), (.int .u32 0), (.int .u32 0), (.int .u32 0), (.int .u32 0)], .bool false]) (by simp [results, Tryz.f40, go_sem, e0, e1, e2, e3, e4, f0, f1, f2, f3, f4]) rfl ?_
  exact ⟨fun _ => rfl, fun S' p hh => (by cases hh), by rw [HG.out]; exact HBF.out⟩
set_option maxHeartbeats 4000000 in
theorem rtPut_great (L : Nat) (x : SAt) (S : StL) (birth iv tag : Nat) (a : Option Addr) (c : Nat) (b : List UInt8) (w : World) (h : StP L w x S) (hb : Bsl w w.heap.size a b.length c b) (hL : L ≤ w.heap.size) (ht : MayT S.2.1) (hf : Fits S.1) (k : Nat) (hk : k < 256) (hz : mkT S.2.1 k = 0) (h0' : ∀ i, i < k → mkT S.2.1 i ≠ 0) (hgr : 4096 ≤ S.1.2.length) : Calls Tryz.prog 40 #[stV x S, .int .u32 birth, .int .u32 iv, .int .u32 tag, .slice a b.length c] w (OutPut L (putS S birth iv tag b) w) := by
  rw [putS_great hgr]
  obtain ⟨w0, hw0, b0, z0, x0, y0, q0⟩ := three_al w (stC x S) stZ ptZ 29 29 33
  obtain ⟨g, hg⟩ : ∃ g, w.heap.size = g := ⟨_, rfl⟩
  obtain ⟨g1, hg1⟩ : ∃ g1, g + 1 = g1 := ⟨_, rfl⟩
  obtain ⟨g2, hg2⟩ : ∃ g2, g1 + 1 = g2 := ⟨_, rfl⟩
  have h0 := h.bel b0
  have hb0 := (bsl_lasts hb (Nat.le_refl _)).bel b0
  rw [hg] at hb0
  rw [hg] at x0 y0 q0 z0 b0
  rw [hg1] at y0
  rw [show g + 2 = g1 + 1 by omega, hg2] at q0
  have HI := Lib.hid (show L ≤ g ∧ g ≤ g1 ∧ g ≤ g2 ∧ g1 ≠ g ∧ g2 ≠ g ∧ g2 ≠ g1 ∧ g1 ≠ g2 by omega)
  have hle : S.2.1.length = 256 := ht.1
  have c2 := stC2 x0
  have hall := rsAll_any x.a x.c w0.heap.size S.2.1 w0 (by have := h0.now.2; rw [hle] at this; exact this) (Nat.le_refl _)
  rw [hle] at c2
  have HA := Lib.hid hall
  have HX := Lib.hid x0
  have HY := Lib.hid y0
  have HQ := Lib.hid q0
  have HB := Lib.hid b0
  have HS := Lib.hid h0
  have HBB := Lib.hid hb0
  have HG := Lib.hid hg
  have HF := Lib.hid hf
  have HLE := Lib.hid hle
  have HT := Lib.hid ht
  have HZ := Lib.hid (show g ≤ w0.heap.size by omega)
  simp only [stC, stZ, ptZ] at hw0
  clear h hb h0 hb0 x0 y0 q0 b0 hall hf z0 ht
  obtain ⟨r, hr⟩ := freeTo_head hk hz h0'
  have hlen := freeTo_le S.2.1 256
  rw [hr] at HA hlen
  have l0 : (((k :: r).length : Nat) : Int) ≠ 0 := by simp; omega
  obtain ⟨m, hm⟩ : ∃ m, (k :: r).length = m := ⟨_, rfl⟩
  rw [hm] at HA l0 hlen
  have l1 : ((m : Int) == 0) = false := by simpa using l0
  have l2 : (4096 : Int) ≤ S.1.2.length := by omega
  clear h0' hr hle hz hk hgr hm l0
  go_enter Tryz.func40, Tryz.ntmps40
  go_wp2_with fail
  clear hw0 c2
  refine HA.out.mono ?_
  rintro e w1 ⟨v, rfl, ho, b1⟩
  obtain ⟨al, cl, rfl⟩ := ownN_slice ho
  replace HX := Lib.hid (HX.out.below b1 HX.out.lt)
  replace HY := Lib.hid (HY.out.below b1 HY.out.lt)
  replace HQ := Lib.hid (HQ.out.below b1 HQ.out.lt)
  replace HS := Lib.hid (HS.out.bel b1)
  replace HBB := Lib.hid (HBB.out.bel b1)
  replace HB := Lib.hid (HB.out.trans (b1.mono HZ.out))
  have c1 := stC1 HX.out
  clear ho b1
  obtain ⟨ya, ka, ba⟩ := box_five (L := g) HY.out (by decide) HI.out.2.1 HB.out HI.out.2.1 (.slice none 0 0) (.slice none 0 0) (.slice none 0 0) (.int .u32 0) (.int .u32 0)
  have qa := far5_blk HQ.out HI.out.2.2.2.2.2.1 (.slice none 0 0) (.slice none 0 0) (.slice none 0 0) (.int .u32 0) (.int .u32 0)
  have m0 := stZ0 HY.out
  have m1 := stZ1 HY.out
  have m2 := stZ2 HY.out
  have m3 := stZ3 HY.out
  have m4 := stZ4 HY.out
  have hfy := fun i => HY.out.frozen i
  obtain ⟨wa, hwa⟩ : ∃ wa, set5 w1 g1 (.slice none 0 0) (.slice none 0 0) (.slice none 0 0) (.int .u32 0) (.int .u32 0) = wa := ⟨_, rfl⟩
  rw [hwa] at ya ka ba qa
  obtain ⟨qb, kb, bb⟩ := box_five (L := g) qa (by decide) HI.out.2.2.1 ba HI.out.2.2.1 (.int .i64 0) (.int .u32 0) (.int .u32 0) (.int .u32 0) (.int .u32 0)
  have yb := far5_blk ya HI.out.2.2.2.2.2.2 (.int .i64 0) (.int .u32 0) (.int .u32 0) (.int .u32 0) (.int .u32 0)
  have n0 := ptZ0 qa
  have n1 := ptZ1 qa
  have n2 := ptZ2 qa
  have n3 := ptZ3 qa
  have n4 := ptZ4 qa
  have hfq := fun i => qa.frozen i
  obtain ⟨wb, hwb⟩ : ∃ wb, set5 wa g2 (.int .i64 0) (.int .u32 0) (.int .u32 0) (.int .u32 0) (.int .u32 0) = wb := ⟨_, rfl⟩
  rw [hwb] at qb kb bb yb
  have HK := Lib.hid (ka.trans kb)
  have HKA := Lib.hid ka
  have HKB := Lib.hid kb
  have HBF := Lib.hid bb
  have HYF := Lib.hid yb
  have HQF := Lib.hid qb
  simp only [set5] at hwa hwb
  clear ya ka ba qa qb kb bb yb
  go_wp2_with fail
  clear m0 m1 m2 m3 m4 n0 n1 n2 n3 n4 hfy hfq hwa hwb
  have e0 := bx0 HYF.out
  have e1 := bx1 HYF.out
  have e2 := bx2 HYF.out
  have e3 := bx3 HYF.out
  have e4 := bx4 HYF.out
  have f0 := bx0 HQF.out
  have f1 := bx1 HQF.out
  have f2 := bx2 HQF.out
  have f3 := bx3 HQF.out
  have f4 := bx4 HQF.out
  refine bodyPost_ret (v := .tuple #[.agg #[(.slice none 0 0), (.slice none 0 0), (.slice none 0 0), (.int .u32 0), (.int .u32 0)], .agg #[(.int .i64 0), (.int .u32 0), (.int .u32 0), (.int .u32 0), (.int .u32 0)], .bool false]) (by simp [results, Tryz.f40, go_sem, e0, e1, e2, e3, e4, f0, f1, f2, f3, f4]) rfl ?_
  exact ⟨fun _ => rfl, fun S' p hh => (by cases hh), by rw [HG.out]; exact HBF.out⟩
set_option maxHeartbeats 8000000 in
theorem rtPut_ok (L : Nat) (x : SAt) (S : StL) (birth iv tag : Nat) (a : Option Addr) (c : Nat) (b : List UInt8) (w : World) (h : StP L w x S) (hb : Bsl w w.heap.size a b.length c b) (hL : L ≤ w.heap.size) (ht : MayT S.2.1) (hf : Fits S.1) (hbl : b.length ≤ 100000) (k : Nat) (hk : k < 256) (hz : mkT S.2.1 k = 0) (h0' : ∀ i, i < k → mkT S.2.1 i ≠ 0) (hgr : S.1.2.length < 4096) : Calls Tryz.prog 40 #[stV x S, .int .u32 birth, .int .u32 iv, .int .u32 tag, .slice a b.length c] w (OutPut L (putS S birth iv tag b) w) := by
  rw [putS_some hk hz h0' hgr]
  have hmx : Tryz.prog.follows Departure.mixedOrders = true := by kernel_rfl
  obtain ⟨w0, hw0, b0, z0, x0, y0, q0⟩ := three_al w (stC x S) stZ ptZ 29 29 33
  obtain ⟨g, hg⟩ : ∃ g, w.heap.size = g := ⟨_, rfl⟩
  obtain ⟨g1, hg1⟩ : ∃ g1, g + 1 = g1 := ⟨_, rfl⟩
  obtain ⟨g2, hg2⟩ : ∃ g2, g1 + 1 = g2 := ⟨_, rfl⟩
  have h0 := h.bel b0
  have hb0 := (bsl_lasts hb (Nat.le_refl _)).bel b0
  rw [hg] at hb0
  rw [hg] at x0 y0 q0 z0 b0
  rw [hg1] at y0
  rw [show g + 2 = g1 + 1 by omega, hg2] at q0
  have HI := Lib.hid (show L ≤ g ∧ g ≤ g1 ∧ g ≤ g2 ∧ g1 ≠ g ∧ g2 ≠ g ∧ g2 ≠ g1 ∧ g1 ≠ g2 by omega)
  have hle : S.2.1.length = 256 := ht.1
  have c2 := stC2 x0
  have hall := rsAll_any x.a x.c w0.heap.size S.2.1 w0 (by have := h0.now.2; rw [hle] at this; exact this) (Nat.le_refl _)
  rw [hle] at c2
  have HA := Lib.hid hall
  have HX := Lib.hid x0
  have HY := Lib.hid y0
  have HQ := Lib.hid q0
  have HB := Lib.hid b0
  have HS := Lib.hid h0
  have HBB := Lib.hid hb0
  have HG := Lib.hid hg
  have HF := Lib.hid hf
  have HLE := Lib.hid hle
  have HT := Lib.hid ht
  have HZ := Lib.hid (show g ≤ w0.heap.size by omega)
  simp only [stC, stZ, ptZ] at hw0
  clear h hb h0 hb0 x0 y0 q0 b0 hall hf z0 ht
  obtain ⟨r, hr⟩ := freeTo_head hk hz h0'
  have hlen := freeTo_le S.2.1 256
  rw [hr] at HA hlen
  have hlp : 0 < (k :: r).length := by simp
  have l0 : (((k :: r).length : Nat) : Int) ≠ 0 := by simp; omega
  obtain ⟨m, hm⟩ : ∃ m, (k :: r).length = m := ⟨_, rfl⟩
  rw [hm] at l0 hlen hlp
  have hmv : (valsN (k :: r)).getD 0 undef = .int .i64 (k : Int) := rfl
  have l1 : ((m : Int) == 0) = false := by simpa using l0
  have l2 : ¬ (4096 : Int) ≤ S.1.2.length := by omega
  have l3 : (0 : Int) < m := by omega
  have l4 : (S.1.2.length : Int) < 4096 := by omega
  have HKK := Lib.hid hk
  have HGR := Lib.hid hgr
  have HBL := Lib.hid hbl
  have HMV := Lib.hid hmv
  have HM := Lib.hid hm
  clear h0' hr hle hz hk hgr l0 hbl hmv hm
  go_enter Tryz.func40, Tryz.ntmps40
  go_wp2_with fail
  clear hw0 c2
  refine HA.out.mono ?_
  rintro e w1 ⟨v, rfl, ho, b1⟩
  rw [HM.out] at ho
  obtain ⟨gl, cl, rfl, _, _, _⟩ := nsl_of_own (by rw [← HM.out] at ho; rw [← HM.out]; exact ho) hlp
  have hcl := cell_lasts (L := 0) ho (by decide) 0 hlp
  rw [HMV.out] at hcl
  have HN := Lib.hid hcl
  replace HB := Lib.hid (HB.out.trans (b1.mono HZ.out))
  have HW := Lib.hid (show g ≤ w1.heap.size from Nat.le_trans HZ.out b1.size)
  replace HX := Lib.hid (HX.out.below b1 HX.out.lt)
  replace HY := Lib.hid (HY.out.below b1 HY.out.lt)
  replace HQ := Lib.hid (HQ.out.below b1 HQ.out.lt)
  replace HS := Lib.hid (HS.out.bel b1)
  replace HBB := Lib.hid (HBB.out.bel b1)
  have c1 := stC1 HX.out
  clear ho b1 hcl
  go_wp2_with fail
  clear c1
  obtain ⟨wd, hwd⟩ : ∃ wd, w1.drew = wd := ⟨_, rfl⟩
  have bb : Below w1.heap.size w1 wd := by rw [← hwd]; exact (Below.refl _ w1).drew
  replace HX := Lib.hid (HX.out.below bb HX.out.lt)
  replace HY := Lib.hid (HY.out.below bb HY.out.lt)
  replace HQ := Lib.hid (HQ.out.below bb HQ.out.lt)
  replace HS := Lib.hid (HS.out.bel bb)
  replace HBB := Lib.hid (HBB.out.bel bb)
  replace HN := Lib.hid (HN.out.bel bb)
  replace HB := Lib.hid (HB.out.trans (bb.mono HW.out))
  replace HW := Lib.hid (Nat.le_trans HW.out bb.size)
  clear bb
  have HSP := Lib.hid (rsWith_any x.a 256 x.c S.2.1 k 1 wd (by have := HS.out.now.2; rw [HLE.out] at this; exact this) HKK.out (by omega))
  have c2 := stC2 HX.out
  rw [HLE.out] at c2
  have hfx := fun i => HX.out.frozen i
  have hc0 := HN.out.now
  refine wpI_start (fun X => X.cell? ⟨gl, 0, none⟩ = some (.int .i64 (k : Int))) [0, 2, 3, 4, 1, 5, 6, 7] hmx rfl hwd ?_
  iterate 4 (
    refine wpI_read (v := ?_) hc0 rfl (by kernel_rfl) (by kernel_rfl) (by kernel_rfl) (fun _ _ _ h => h) (.inl ⟨by rfl, ?_⟩) ?_
    rotate_left
    · intro X hX
      go_simp
      with_reducible rfl
    try simp only [Act.put, List.setIfInBounds_toArray, List.set_cons_zero, List.set_cons_succ])
  refine wpI_lone rfl (by kernel_rfl) (fun K hK => ?_)
  go_simp
  refine hK _ _ hc0 ?_
  clear hK K
  try simp only [Act.put, List.setIfInBounds_toArray, List.set_cons_zero, List.set_cons_succ]
  refine wpI_lone rfl (by kernel_rfl) (fun K hK => ?_)
  go_simp
  refine HSP.out.mono ?_
  rintro ev w2 ⟨v, rfl, ho, bb⟩
  obtain ⟨sa, sc, rfl⟩ := own_slice ho
  have HO := Lib.hid (own_lasts (L := 0) ho)
  clear ho c2 hfx hwd
  replace HX := Lib.hid (HX.out.below bb HX.out.lt)
  replace HY := Lib.hid (HY.out.below bb HY.out.lt)
  replace HQ := Lib.hid (HQ.out.below bb HQ.out.lt)
  replace HS := Lib.hid (HS.out.bel bb)
  replace HBB := Lib.hid (HBB.out.bel bb)
  replace HN := Lib.hid (HN.out.bel bb)
  replace HB := Lib.hid (HB.out.trans (bb.mono HW.out))
  replace HW := Lib.hid (Nat.le_trans HW.out bb.size)
  clear bb HSP
  refine hK _ _ HN.out.now ?_
  clear hK K hc0
  try simp only [Act.put, List.setIfInBounds_toArray, List.set_cons_zero, List.set_cons_succ]
  have hc0 := HN.out.now
  iterate 1 (
    refine wpI_read (v := ?_) hc0 rfl (by kernel_rfl) (by kernel_rfl) (by kernel_rfl) (fun _ _ _ h => h) (.inl ⟨by rfl, ?_⟩) ?_
    rotate_left
    · intro X hX
      go_simp
      with_reducible rfl
    try simp only [Act.put, List.setIfInBounds_toArray, List.set_cons_zero, List.set_cons_succ])
  clear hc0
  refine wpI_lone rfl (by kernel_rfl) (fun K hK => ?_)
  go_simp
  have c2 := stC2 HX.out
  have hfx := HX.out.frozen 2
  obtain ⟨x3, k3, b3⟩ := box_at (L := g) HX.out (by decide) (Nat.le_refl _) HB.out (Nat.le_refl _) 2 (.slice sa 256 sc)
  replace HY := Lib.hid (HY.out.far (p := ⟨g, 2, none⟩) HI.out.2.2.2.1 (.slice sa 256 sc))
  replace HQ := Lib.hid (HQ.out.far (p := ⟨g, 2, none⟩) HI.out.2.2.2.2.1 (.slice sa 256 sc))
  go_simp
  obtain ⟨w3, hw3⟩ : ∃ w3, w2.setCell ⟨g, 2, none⟩ (.slice sa 256 sc) = w3 := ⟨_, rfl⟩
  rw [hw3] at x3 k3 b3 HY HQ ⊢
  replace HX := Lib.hid (show Blk w3 g 29 #[.slice x.d.ba S.1.1.length x.d.bc, .slice x.d.wa S.1.2.length x.d.wc, .slice sa 256 sc, .int .u32 (S.2.2.1 : Int), .int .u32 (S.2.2.2 : Int)] from x3)
  replace HS := Lib.hid (HS.out.step (k3.more HI.out.1))
  replace HBB := Lib.hid (HBB.out.step k3)
  replace HN := Lib.hid (HN.out.step (k3.more (Nat.zero_le _)))
  replace HO := Lib.hid (HO.out.step (k3.more (Nat.zero_le _)))
  replace HB := Lib.hid b3
  replace HW := Lib.hid (show g ≤ w3.heap.size from Nat.le_trans HW.out k3.size)
  refine hK _ _ HN.out.now ?_
  clear hK K x3 k3 b3 hw3 c2 hfx
  try simp only [Act.put, List.setIfInBounds_toArray, List.set_cons_zero, List.set_cons_succ]
  refine wpI_done (by kernel_rfl) ?_
  go_wp2_with fail
  obtain ⟨we, hwe⟩ : ∃ we, w3.drew = we := ⟨_, rfl⟩
  have bb : Below w3.heap.size w3 we := by rw [← hwe]; exact (Below.refl _ w3).drew
  replace HX := Lib.hid (HX.out.below bb HX.out.lt)
  replace HY := Lib.hid (HY.out.below bb HY.out.lt)
  replace HQ := Lib.hid (HQ.out.below bb HQ.out.lt)
  replace HS := Lib.hid (HS.out.bel bb)
  replace HBB := Lib.hid (HBB.out.bel bb)
  replace HN := Lib.hid (HN.out.bel bb)
  replace HO := Lib.hid (HO.out.bel bb)
  replace HB := Lib.hid (HB.out.trans (bb.mono HW.out))
  replace HW := Lib.hid (Nat.le_trans HW.out bb.size)
  clear bb
  have hwi := rdWithR_any x.d S.1 (k : Int) a b.length c b we HS.out.now.1 HF.out (by have := HKK.out; simp [Lit.wf, IntKind.min, IntKind.max, IntKind.signed, IntKind.bits]; omega) HBB.out.now (by have := HBL.out; omega) (by have := HGR.out; omega)
  simp only [dval] at hwi
  have HWI := Lib.hid hwi
  have c0 := bx0 HX.out
  have c1 := bx1 HX.out
  have hc0 := HN.out.now
  clear hwi
  refine wpI_start (fun X => X.cell? ⟨gl, 0, none⟩ = some (.int .i64 (k : Int))) [0, 2, 3, 4, 5, 1, 6, 7, 8] hmx rfl hwe ?_
  iterate 5 (
    refine wpI_read (v := ?_) hc0 rfl (by kernel_rfl) (by kernel_rfl) (by kernel_rfl) (fun _ _ _ h => h) (.inl ⟨by rfl, ?_⟩) ?_
    rotate_left
    · intro X hX
      go_simp
      with_reducible rfl
    try simp only [Act.put, List.setIfInBounds_toArray, List.set_cons_zero, List.set_cons_succ])
  refine wpI_lone rfl (by kernel_rfl) (fun K hK => ?_)
  go_simp
  refine hK _ _ hc0 ?_
  clear hK K
  try simp only [Act.put, List.setIfInBounds_toArray, List.set_cons_zero, List.set_cons_succ]
  refine wpI_lone rfl (by kernel_rfl) (fun K hK => ?_)
  go_simp
  refine HWI.out.mono ?_
  rintro ev w4 ⟨xd, rfl, hr, bb⟩
  have HD := Lib.hid (dskR_lasts hr L)
  clear hr c0 c1 hwe
  replace HX := Lib.hid (HX.out.below bb HX.out.lt)
  replace HY := Lib.hid (HY.out.below bb HY.out.lt)
  replace HQ := Lib.hid (HQ.out.below bb HQ.out.lt)
  replace HS := Lib.hid (HS.out.bel bb)
  replace HBB := Lib.hid (HBB.out.bel bb)
  replace HN := Lib.hid (HN.out.bel bb)
  replace HO := Lib.hid (HO.out.bel bb)
  replace HB := Lib.hid (HB.out.trans (bb.mono HW.out))
  replace HW := Lib.hid (Nat.le_trans HW.out bb.size)
  clear bb HWI
  refine hK _ _ HN.out.now ?_
  clear hK K hc0
  simp only [dval]
  try simp only [Act.put, List.setIfInBounds_toArray, List.set_cons_zero, List.set_cons_succ]
  have hc0 := HN.out.now
  iterate 1 (
    refine wpI_read (v := ?_) hc0 rfl (by kernel_rfl) (by kernel_rfl) (by kernel_rfl) (fun _ _ _ h => h) (.inl ⟨by rfl, ?_⟩) ?_
    rotate_left
    · intro X hX
      go_simp
      with_reducible rfl
    try simp only [Act.put, List.setIfInBounds_toArray, List.set_cons_zero, List.set_cons_succ])
  clear hc0
  refine wpI_lone rfl (by kernel_rfl) (fun K hK => ?_)
  go_simp
  have c0 := bx0 HX.out
  have c1 := bx1 HX.out
  have hfx := fun i => HX.out.frozen i
  obtain ⟨x5, k5, b5⟩ := box_two (L := g) HX.out (by decide) (Nat.le_refl _) HB.out (Nat.le_refl _) (.slice xd.ba (withD S.1 (k : Int) b).1.length xd.bc) (.slice xd.wa (withD S.1 (k : Int) b).2.length xd.wc)
  replace HY := Lib.hid ((HY.out.far (p := ⟨g, 0, none⟩) HI.out.2.2.2.1 (.slice xd.ba (withD S.1 (k : Int) b).1.length xd.bc)).far (p := ⟨g, 1, none⟩) HI.out.2.2.2.1 (.slice xd.wa (withD S.1 (k : Int) b).2.length xd.wc))
  replace HQ := Lib.hid ((HQ.out.far (p := ⟨g, 0, none⟩) HI.out.2.2.2.2.1 (.slice xd.ba (withD S.1 (k : Int) b).1.length xd.bc)).far (p := ⟨g, 1, none⟩) HI.out.2.2.2.2.1 (.slice xd.wa (withD S.1 (k : Int) b).2.length xd.wc))
  go_simp
  obtain ⟨w5, hw5⟩ : ∃ w5, (w4.setCell ⟨g, 0, none⟩ (.slice xd.ba (withD S.1 (k : Int) b).1.length xd.bc)).setCell ⟨g, 1, none⟩ (.slice xd.wa (withD S.1 (k : Int) b).2.length xd.wc) = w5 := ⟨_, rfl⟩
  rw [hw5] at x5 k5 b5 HY HQ ⊢
  replace HX := Lib.hid x5
  replace HBB := Lib.hid (HBB.out.step k5)
  replace HD := Lib.hid (HD.out.step (k5.more HI.out.1))
  replace HN := Lib.hid (HN.out.step (k5.more (Nat.zero_le _)))
  replace HO := Lib.hid (HO.out.step (k5.more (Nat.zero_le _)))
  replace HB := Lib.hid b5
  replace HW := Lib.hid (show g ≤ w5.heap.size from Nat.le_trans HW.out k5.size)
  refine hK _ _ HN.out.now ?_
  clear hK K x5 k5 b5 hw5 c0 c1 hfx HS
  try simp only [Act.put, List.setIfInBounds_toArray, List.set_cons_zero, List.set_cons_succ]
  refine wpI_done (by kernel_rfl) ?_
  go_wp2_with fail
  obtain ⟨wh, hwh⟩ : ∃ wh, w5.drew = wh := ⟨_, rfl⟩
  have bb : Below w5.heap.size w5 wh := by rw [← hwh]; exact (Below.refl _ w5).drew
  replace HX := Lib.hid (HX.out.below bb HX.out.lt)
  replace HY := Lib.hid (HY.out.below bb HY.out.lt)
  replace HQ := Lib.hid (HQ.out.below bb HQ.out.lt)
  replace HBB := Lib.hid (HBB.out.bel bb)
  replace HN := Lib.hid (HN.out.bel bb)
  replace HO := Lib.hid (HO.out.bel bb)
  replace HD := Lib.hid (HD.out.bel bb)
  replace HB := Lib.hid (HB.out.trans (bb.mono HW.out))
  replace HW := Lib.hid (Nat.le_trans HW.out bb.size)
  clear bb
  have HSU := Lib.hid (rsumOf_any a b.length c b wh HBB.out.now HBL.out)
  have C0 := fun X (hX : Below wh.heap.size wh X) => bx0 (HX.out.below hX HX.out.lt)
  have C1 := fun X (hX : Below wh.heap.size wh X) => bx1 (HX.out.below hX HX.out.lt)
  have C2 := fun X (hX : Below wh.heap.size wh X) => bx2 (HX.out.below hX HX.out.lt)
  have C3 := fun X (hX : Below wh.heap.size wh X) => bx3 (HX.out.below hX HX.out.lt)
  have C4 := fun X (hX : Below wh.heap.size wh X) => bx4 (HX.out.below hX HX.out.lt)
  have CN := fun X (hX : Below wh.heap.size wh X) => (HN.out.bel hX).now
  have hbd := Below.refl wh.heap.size wh
  refine wpI_start (fun X => X.cell? ⟨gl, 0, none⟩ = some (.int .i64 (k : Int)) ∧ X.cell? ⟨g, 0, none⟩ = some (.slice xd.ba (withD S.1 (k : Int) b).1.length xd.bc) ∧ X.cell? ⟨g, 1, none⟩ = some (.slice xd.wa (withD S.1 (k : Int) b).2.length xd.wc) ∧ X.cell? ⟨g, 2, none⟩ = some (.slice sa 256 sc) ∧ X.cell? ⟨g, 3, none⟩ = some (.int .u32 (S.2.2.1 : Int)) ∧ X.cell? ⟨g, 4, none⟩ = some (.int .u32 (S.2.2.2 : Int))) [0, 1, 2, 3, 4, 5, 6, 7, 8, 9, 10, 11, 12] hmx rfl hwh ?_
  have hcs := And.intro (CN wh hbd) (And.intro (C0 wh hbd) (And.intro (C1 wh hbd) (And.intro (C2 wh hbd) (And.intro (C3 wh hbd) (C4 wh hbd)))))
  iterate 8 (
    refine wpI_read (v := ?_) hcs rfl (by kernel_rfl) (by kernel_rfl) (by kernel_rfl) (fun _ _ _ h => h) (.inl ⟨by rfl, ?_⟩) ?_
    rotate_left
    · intro X hX
      obtain ⟨j0, j1, j2, j3, j4, j5⟩ := hX
      go_simp
      with_reducible rfl
    try simp only [Act.put, List.setIfInBounds_toArray, List.set_cons_zero, List.set_cons_succ])
  refine wpI_lone rfl (by kernel_rfl) (fun K hK => ?_)
  go_simp
  refine HSU.out.mono ?_
  rintro ev w6 ⟨rfl, bb⟩
  have hcs' := And.intro (CN w6 bb) (And.intro (C0 w6 bb) (And.intro (C1 w6 bb) (And.intro (C2 w6 bb) (And.intro (C3 w6 bb) (C4 w6 bb)))))
  refine hK _ _ hcs' ?_
  clear hK K
  replace HX := Lib.hid (HX.out.below bb HX.out.lt)
  replace HY := Lib.hid (HY.out.below bb HY.out.lt)
  replace HQ := Lib.hid (HQ.out.below bb HQ.out.lt)
  replace HD := Lib.hid (HD.out.bel bb)
  replace HO := Lib.hid (HO.out.bel bb)
  replace HN := Lib.hid (HN.out.bel bb)
  replace HB := Lib.hid (HB.out.trans (bb.mono HW.out))
  replace HW := Lib.hid (Nat.le_trans HW.out bb.size)
  clear bb HSU hcs C0 C1 C2 C3 C4 CN hbd hwh HBB
  try simp only [Act.put, List.setIfInBounds_toArray, List.set_cons_zero, List.set_cons_succ]
  iterate 1 (
    refine wpI_read (v := ?_) hcs' rfl (by kernel_rfl) (by kernel_rfl) (by kernel_rfl) (fun _ _ _ h => h) (.inl ⟨by rfl, ?_⟩) ?_
    rotate_left
    · intro X hX
      obtain ⟨j0, j1, j2, j3, j4, j5⟩ := hX
      go_simp
      with_reducible rfl
    try simp only [Act.put, List.setIfInBounds_toArray, List.set_cons_zero, List.set_cons_succ])
  obtain ⟨ya, ka, ba⟩ := box_five (L := g) HY.out (by decide) HI.out.2.1 HB.out HI.out.2.1 (.slice xd.ba (withD S.1 (k : Int) b).1.length xd.bc) (.slice xd.wa (withD S.1 (k : Int) b).2.length xd.wc) (.slice sa 256 sc) (.int .u32 (S.2.2.1 : Int)) (.int .u32 (S.2.2.2 : Int))
  have qa := far5_blk HQ.out HI.out.2.2.2.2.2.1 (.slice xd.ba (withD S.1 (k : Int) b).1.length xd.bc) (.slice xd.wa (withD S.1 (k : Int) b).2.length xd.wc) (.slice sa 256 sc) (.int .u32 (S.2.2.1 : Int)) (.int .u32 (S.2.2.2 : Int))
  have m0 := stZ0 HY.out
  have m1 := stZ1 HY.out
  have m2 := stZ2 HY.out
  have m3 := stZ3 HY.out
  have m4 := stZ4 HY.out
  have hfy := fun i => HY.out.frozen i
  obtain ⟨wa, hwa⟩ : ∃ wa, set5 w6 g1 (.slice xd.ba (withD S.1 (k : Int) b).1.length xd.bc) (.slice xd.wa (withD S.1 (k : Int) b).2.length xd.wc) (.slice sa 256 sc) (.int .u32 (S.2.2.1 : Int)) (.int .u32 (S.2.2.2 : Int)) = wa := ⟨_, rfl⟩
  rw [hwa] at ya ka ba qa
  obtain ⟨qb, kb, bb⟩ := box_five (L := g) qa (by decide) HI.out.2.2.1 ba HI.out.2.2.1 (.int .i64 (k : Int)) (.int .u32 (birth : Int)) (.int .u32 (iv : Int)) (.int .u32 (tag : Int)) (.int .u32 (sumOf b : Int))
  have yb := far5_blk ya HI.out.2.2.2.2.2.2 (.int .i64 (k : Int)) (.int .u32 (birth : Int)) (.int .u32 (iv : Int)) (.int .u32 (tag : Int)) (.int .u32 (sumOf b : Int))
  have n0 := ptZ0 qa
  have n1 := ptZ1 qa
  have n2 := ptZ2 qa
  have n3 := ptZ3 qa
  have n4 := ptZ4 qa
  have hfq := fun i => qa.frozen i
  obtain ⟨wb, hwb⟩ : ∃ wb, set5 wa g2 (.int .i64 (k : Int)) (.int .u32 (birth : Int)) (.int .u32 (iv : Int)) (.int .u32 (tag : Int)) (.int .u32 (sumOf b : Int)) = wb := ⟨_, rfl⟩
  rw [hwb] at qb kb bb yb
  have HK := Lib.hid (ka.trans kb)
  have HKA := Lib.hid ka
  have HKB := Lib.hid kb
  have HBF := Lib.hid bb
  have HYF := Lib.hid yb
  have HQF := Lib.hid qb
  simp only [set5] at hwa hwb
  clear ya ka ba qa qb kb bb yb
  have hxa := far5_blk HX.out HI.out.2.2.2.1.symm (.slice xd.ba (withD S.1 (k : Int) b).1.length xd.bc) (.slice xd.wa (withD S.1 (k : Int) b).2.length xd.wc) (.slice sa 256 sc) (.int .u32 (S.2.2.1 : Int)) (.int .u32 (S.2.2.2 : Int))
  rw [show set5 w6 g1 (.slice xd.ba (withD S.1 (k : Int) b).1.length xd.bc) (.slice xd.wa (withD S.1 (k : Int) b).2.length xd.wc) (.slice sa 256 sc) (.int .u32 (S.2.2.1 : Int)) (.int .u32 (S.2.2.2 : Int)) = wa from hwa] at hxa
  have hna := HN.out.step (HKA.out.more (Nat.zero_le _))
  have hsa := And.intro hna.now (And.intro (bx0 hxa) (And.intro (bx1 hxa) (And.intro (bx2 hxa) (And.intro (bx3 hxa) (bx4 hxa)))))
  have hxb := far5_blk hxa HI.out.2.2.2.2.1.symm (.int .i64 (k : Int)) (.int .u32 (birth : Int)) (.int .u32 (iv : Int)) (.int .u32 (tag : Int)) (.int .u32 (sumOf b : Int))
  rw [show set5 wa g2 (.int .i64 (k : Int)) (.int .u32 (birth : Int)) (.int .u32 (iv : Int)) (.int .u32 (tag : Int)) (.int .u32 (sumOf b : Int)) = wb from hwb] at hxb
  have hnb := hna.step (HKB.out.more (Nat.zero_le _))
  have hsb := And.intro hnb.now (And.intro (bx0 hxb) (And.intro (bx1 hxb) (And.intro (bx2 hxb) (And.intro (bx3 hxb) (bx4 hxb)))))
  clear hxa hna hxb hnb
  refine wpI_lone rfl (by kernel_rfl) (fun K hK => ?_)
  go_simp

  refine hK _ _ hsa ?_
  clear hK K
  try simp only [Act.put, List.setIfInBounds_toArray, List.set_cons_zero, List.set_cons_succ]
  refine wpI_lone rfl (by kernel_rfl) (fun K hK => ?_)
  go_simp

  refine hK _ _ hsb ?_
  clear hK K
  try simp only [Act.put, List.setIfInBounds_toArray, List.set_cons_zero, List.set_cons_succ]
  iterate 1 (
    refine wpI_read (v := ?_) hsb rfl (by kernel_rfl) (by kernel_rfl) (by kernel_rfl) (fun _ _ _ h => h) (.inl ⟨by rfl, ?_⟩) ?_
    rotate_left
    · intro X hX
      go_simp
      with_reducible rfl
    try simp only [Act.put, List.setIfInBounds_toArray, List.set_cons_zero, List.set_cons_succ])
  refine wpI_done (by kernel_rfl) ?_
  go_wp2_with fail
  clear m0 m1 m2 m3 m4 n0 n1 n2 n3 n4 hfy hfq hwa hwb
  have e0 := bx0 HYF.out
  have e1 := bx1 HYF.out
  have e2 := bx2 HYF.out
  have e3 := bx3 HYF.out
  have e4 := bx4 HYF.out
  have f0 := bx0 HQF.out
  have f1 := bx1 HQF.out
  have f2 := bx2 HQF.out
  have f3 := bx3 HQF.out
  have f4 := bx4 HQF.out
  refine bodyPost_ret (v := .tuple #[.agg #[(.slice xd.ba (withD S.1 (k : Int) b).1.length xd.bc), (.slice xd.wa (withD S.1 (k : Int) b).2.length xd.wc), (.slice sa 256 sc), (.int .u32 (S.2.2.1 : Int)), (.int .u32 (S.2.2.2 : Int))], .agg #[(.int .i64 (k : Int)), (.int .u32 (birth : Int)), (.int .u32 (iv : Int)), (.int .u32 (tag : Int)), (.int .u32 (sumOf b : Int))], .bool true]) (by simp [results, Tryz.f40, go_sem, e0, e1, e2, e3, e4, f0, f1, f2, f3, f4]) rfl ?_
  refine ⟨fun hh => (by cases hh), fun S' p hh => ?_, by rw [HG.out]; exact HBF.out⟩
  cases hh
  refine ⟨⟨xd, sa, sc⟩, ?_, fun W kk => ⟨HD.out W ((HK.out.more HI.out.1).trans kk), ?_⟩⟩
  · simp only [stV, ptV]
    rw [show (S.2.1.set k 1).length = 256 by rw [List.length_set]; exact HLE.out]
  · have := HO.out W ((HK.out.more (Nat.zero_le _)).trans (kk.more (Nat.zero_le _)))
    rw [show (S.2.1.set k 1).length = 256 by rw [List.length_set]; exact HLE.out]
    exact this
end Go.Proofs.YtdpmdlibgabjaaaGreat
/-
  What the document's own Key answers is what mix.Key answers.
-/
namespace Go.Proofs.YtdpmdlibgabjaaaGreat
open Go.RowKit Go.Shelf
set_option maxRecDepth 100000

theorem bytesW_at (x : W4) (j : Nat) (hj : j < 16) : (bytesW x 4)[j]'(by rw [bytesW_length]; omega) = byteAt (nthW x (j / 4)).toNat (j % 4) := by
  have : j = 0 ∨ j = 1 ∨ j = 2 ∨ j = 3 ∨ j = 4 ∨ j = 5 ∨ j = 6 ∨ j = 7 ∨ j = 8 ∨ j = 9 ∨ j = 10 ∨ j = 11 ∨ j = 12 ∨ j = 13 ∨ j = 14 ∨ j = 15 := by omega
  rcases this with rfl | rfl | rfl | rfl | rfl | rfl | rfl | rfl | rfl | rfl | rfl | rfl | rfl | rfl | rfl | rfl <;> rfl
theorem clW_get (x : W4) (p : Nat) (hp : p < 4) : (cl x)[p]? = some (.int .u32 ((nthW x p).toNat : Int)) := by
  have : p = 0 ∨ p = 1 ∨ p = 2 ∨ p = 3 := by omega
  rcases this with rfl | rfl | rfl | rfl <;> rfl
/-- What the document's Key leaves: sixteen bytes in a row of its own. -/
def KeyOwn (x : W4) (w : World) (e : Ending) (w' : World) : Prop := ∃ v, e = .returned v ∧ w'.ownsRow w.heap.size 5 1 v 16 (vals (bytesW x 4)) ∧ Below w.heap.size w w'
theorem own_base {w : World} {B B' : Nat} {e : TypeId} {size : Nat} {v : Value} {n : Nat} {xs : List Value} (h : w.ownsRow B e size v n xs) (hB : B' ≤ B) : w.ownsRow B' e size v n xs := by
  refine ⟨h.1, ?_⟩
  rcases h.2 with h2 | ⟨g, cap, cur, hv, hb, r⟩
  · exact .inl h2
  · exact .inr ⟨g, cap, cur, hv, Nat.le_trans hB hb, r⟩
set_option maxHeartbeats 4000000 in
theorem rkey_own (a : Option Addr) (len cap : Nat) (s : List UInt8) (w : World) (hA : Bsl w w.heap.size a len cap s) (hlen : len ≤ 100000) :
    Calls Tryz.prog 150 #[.slice a len cap] w (KeyOwn (fourW s) w) := by
  obtain ⟨x, hx⟩ : ∃ x, fourW s = x := ⟨_, rfl⟩
  have hf := rfour_any a len cap s w hA hlen
  rw [hx] at hf ⊢
  clear hx
  have HF := Lib.hid hf; clear hf hA
  go_enter Tryz.func150, Tryz.ntmps150
  go_wp2_with fail
  refine HF.out.mono ?_
  rintro e w1 ⟨rfl, b1⟩
  obtain ⟨g, hg⟩ : ∃ g, w1.heap.size = g := ⟨_, rfl⟩
  obtain ⟨w2, hw2⟩ : ∃ w2, w1.alloc (.cells (cl x) 114) = w2 := ⟨_, rfl⟩
  have hx2 : Blk w2 g 114 (cl x) := by rw [← hw2, ← hg]; exact Blk.new w1 _ _
  have hb2 : Below w.heap.size w w2 := by rw [← hw2]; exact b1.alloc b1.size _
  have HX2 := Lib.hid hx2; clear hx2
  have HB2 := Lib.hid hb2; clear hb2 b1
  go_wp2_with fail

  have HW2 := Lib.hid hw2; clear hw2
  have HG := Lib.hid hg; clear hg
  go_loopw [4, 5] (fun v i wr => ∃ j : Nat, j ≤ 16 ∧ i = .int .i64 j ∧ wr.ownsRow w2.heap.size 5 1 v j (vals ((bytesW x 4).take j)) ∧ Below w2.heap.size w2 wr) (fun _ i _ => 16 - (intOf i).toNat)
  case atStart => exact ⟨0, by omega, rfl, World.ownsRow_nil _ _ _ _, Below.refl _ _⟩
  case round =>
    obtain ⟨j, hj, rfl, ho, hbe⟩ := hrel
    have HO := Lib.hid ho; clear ho
    by_cases hlt : j < 16
    · obtain ⟨p, hp⟩ : ∃ p, j / 4 = p := ⟨_, rfl⟩
      obtain ⟨q, hq⟩ : ∃ q, j % 4 = q := ⟨_, rfl⟩
      have cx := (HX2.out.below hbe HX2.out.lt).cell p
      rw [clW_get x p (by omega)] at cx
      have hbj := bytesW_at x j hlt
      rw [hp, hq] at hbj
      obtain ⟨n, hn⟩ : ∃ n : Nat, (nthW x p).toNat = n := ⟨_, rfl⟩
      have hnl : n < 4294967296 := by rw [← hn]; exact (nthW x p).isLt
      rw [hn] at cx hbj
      have HBJ := Lib.hid hbj; clear hbj
      have d0 : (0 : Int) ≤ j := by omega
      have d1 : (j : Int) < 16 := by omega
      have d2 : (j : Int) / 4 = (p : Int) := by omega
      have d3 : (p : Int) < 4 := by omega
      have d4 : (0 : Int) ≤ p := by omega
      have d5 : (j : Int) % 4 = (q : Int) := by omega
      have n0 : (0 : Int) ≤ n := by omega
      have n1 : (n : Int) ≤ 4294967295 := by omega
      have q4 : q < 4 := by omega
      have HP := Lib.hid hp; clear hp hn
      have HQ := Lib.hid hq; clear hq
      have HBE := Lib.hid hbe; clear hbe
      obtain ⟨wo, hwo⟩ : ∃ wo : World, wr = wo := ⟨_, rfl⟩
      rw [hwo] at cx HO HBE ⊢
      clear hwo
      obtain ⟨vo, hvo⟩ : ∃ vo : Value, u4 = vo := ⟨_, rfl⟩
      rw [hvo] at HO ⊢
      clear hvo
      go_wp2_with fail
      go_loop [6, 7] (fun v i => ∃ k : Nat, k ≤ q ∧ i = .int .i64 k ∧ v = .int .u32 ((n / 256 ^ k : Nat) : Int)) (fun _ i => 4 - (intOf i).toNat)
      case atStart => exact ⟨0, Nat.zero_le _, rfl, by simp⟩
      case round =>
        obtain ⟨k, hk, rfl, rfl⟩ := hrel
        obtain ⟨m, hm⟩ : ∃ m : Nat, n / 256 ^ k = m := ⟨_, rfl⟩
        have hml : m < 4294967296 := by rw [← hm]; exact Nat.lt_of_le_of_lt (Nat.div_le_self _ _) hnl
        rw [hm]
        have m0 : (0 : Int) ≤ m := by omega
        have m1 : (m : Int) ≤ 4294967295 := by omega
        have k0 : (0 : Int) ≤ k := by omega
        have k1 : (k : Int) ≤ 4 := by omega
        by_cases hkq : k < q
        · have hs : n / 256 ^ (k + 1) = m / 256 := by rw [Nat.pow_succ, ← Nat.div_div_eq_div_mul, hm]
          have HS := Lib.hid hs; clear hs hm
          have k2 : (k : Int) < q := by omega
          go_wp2
          go_round
          case rel => exact ⟨k + 1, by omega, by go_num, by rw [HS.out]; congr 1⟩
          case measure => simp [intOf]; omega
        · obtain rfl : k = q := by omega
          have hy : byteAt n k = UInt8.ofNat (m % 256) := by unfold byteAt; rw [hm]
          have k2 : ¬ (k : Int) < k := by omega
          have HY := Lib.hid hy; clear hy hm
          obtain ⟨y, hyy⟩ : ∃ y : UInt8, UInt8.ofNat (m % 256) = y := ⟨_, rfl⟩
          have hyn : (m : Int) % 256 = (y.toNat : Int) := by rw [← hyy]; simp
          have HYY := Lib.hid hyy; clear hyy
          have hsl : Bsl (wo.alloc (.cells #[.int .u8 (y.toNat : Int)] 5)) (wo.alloc (.cells #[.int .u8 (y.toNat : Int)] 5)).heap.size (some ⟨wo.heap.size, 0, none⟩) 1 1 [y] :=
            ⟨rfl, Nat.le_refl _, by unfold maxLen; omega, fun e => (by cases e), fun _ => ⟨_, _, rfl, by simp, fun i hi => by
              have : i = 0 := by simpa using hi
              subst this
              exact cell_of_row _ _ _ _ 5 (0, 0) (World.alloc_heap_new wo _)⟩⟩
          have HSL := Lib.hid hsl; clear hsl
          have y0 : (0 : Int) ≤ (y.toNat : Int) := by omega
          have y1 : (y.toNat : Int) ≤ 255 := by have := y.toNat_lt; omega
          have hsz : w2.heap.size ≤ (wo.alloc (.cells #[.int .u8 (y.toNat : Int)] 5)).heap.size := by simp; have := HBE.out.size; omega
          have HBA := Lib.hid (HBE.out.alloc HBE.out.size (.cells #[.int .u8 (y.toNat : Int)] 5))
          have HOA := Lib.hid (HO.out.alloc (.cells #[.int .u8 (y.toNat : Int)] 5))
          have HSZ := Lib.hid hsz; clear hsz
          go_wp2_with (at_builtin; refine wpList_append_bsl rfl (.tmp 26) (.tmp 30) rfl w2.heap.size vo j _ rfl HOA.out _ (some ⟨wo.heap.size, 0, none⟩) 1 1 [y] rfl HSL.out (by omega) HSZ.out ?_; intro v' w3 hown' hg')
          have hb3 : Below w2.heap.size w2 w3 := HBA.out.grown hg' HBA.out.size (fun k e => (HOA.out.lt k e).1)
          have HO3 := Lib.hid hown'; clear hown'
          have HB3 := Lib.hid hb3; clear hb3 hg'
          go_wp2_with fail
          go_roundw
          case rel =>
            refine ⟨j + 1, by omega, by go_num, ?_, HB3.out⟩
            have e : (bytesW x 4).take (j + 1) = (bytesW x 4).take j ++ [y] := by
              rw [List.take_succ_eq_append_getElem (by rw [bytesW_length]; omega), HBJ.out, HY.out, HYY.out]
            rw [e]
            exact HO3.out
          case measure => simp [intOf]; omega
    · obtain rfl : j = 16 := by omega
      rw [List.take_of_length_le (by rw [bytesW_length]; exact Nat.le_refl _)] at HO
      have HBE := Lib.hid hbe; clear hbe
      go_wp2_with fail
      go_ret
      exact ⟨_, rfl, own_base HO.out HB2.out.size, HB2.out.trans (HBE.out.mono HB2.out.size)⟩
theorem rkey_any (a : Option Addr) (len cap : Nat) (s : List UInt8) (w : World) (hA : Bsl w w.heap.size a len cap s) (hlen : len ≤ 100000) :
    Calls Tryz.prog 150 #[.slice a len cap] w (KeyPost (fourW s) w) :=
  (rkey_own a len cap s w hA hlen).mono fun e w' h => by
    obtain ⟨v, rfl, ho, hb⟩ := h
    obtain ⟨g, cap', rfl, hgb, hgl, hgc, hgm, hgs, hgh⟩ := bsl_of_own ho (by omega)
    exact ⟨g, cap', rfl, hgb, hgl, hgc, hgm, hgh, hb⟩
end Go.Proofs.YtdpmdlibgabjaaaGreat
