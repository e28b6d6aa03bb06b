/-
  Texts of one seat, one behind the other.
-/
import Derived.OwnWalk
import Derived.Deep.RegionWith
import Derived.ChangeKeysEq
import Derived.Test.YtdpmdlibgabjaaaPkSP3
/-
  The closure that tells the free blocks, called: the next one from its place on, or none.
-/
namespace Go.Proofs.Ytdpmdlibgabjaaa
open Go.RowKit Go.Shelf
set_option maxRecDepth 100000

/-- The number that a block keeps. -/
def keptAt (w : World) (g : Nat) : Nat := (intOf ((w.cell? ⟨g, 0, none⟩).getD undef)).toNat
theorem keptAt_blk {w : World} {g t k : Nat} (h : Blk w g t #[.int .i64 (k : Int)]) : keptAt w g = k := by
  unfold keptAt
  rw [h.cell 0]
  simp [intOf]
set_option maxHeartbeats 1000000 in
theorem spNext_some (gp gs B : Nat) (a : Option Addr) (n c : Nat) (s : List UInt8) (p k : Nat) (w : World) (hp : Blk w gp 3 #[.int .i64 (p : Int)]) (hs : Blk w gs 23 #[.slice a n c]) (hne : gp ≠ gs) (hA : Bsl w B a n c s) (hB : B ≤ gp)
    (h1 : p ≤ k) (h2 : k < n) (h3 : mkT s k = 0) (h4 : ∀ i, p ≤ i → i < k → mkT s i ≠ 0) :
    Calls Try.prog 65 #[.pointer (some ⟨gp, 0, none⟩), .pointer (some ⟨gs, 0, none⟩)] w fun e w' => e = .returned (.tuple #[.int .i64 k, .bool true]) ∧ w.grownBy w' (some gp) ∧ Blk w' gp 3 #[.int .i64 ((k + 1 : Nat) : Int)] := by
  have n1 := hA.len_le
  obtain ⟨b, off, rfl, hbB⟩ := hA.at_ (by omega)
  have HP := Lib.hid hp
  have HS := Lib.hid hs
  have HA := Lib.hid hA
  have HB := Lib.hid hB
  have HNE := Lib.hid hne
  have H3 := Lib.hid h3
  have H4 := Lib.hid h4
  clear hp hs hA hB hne h3 h4
  go_enter Try.func65, Try.ntmps65
  go_wp2_with fail
  go_loopw [4] (fun _ wr => ∃ j : Nat, p ≤ j ∧ j ≤ k ∧ w.grownBy wr (some gp) ∧ Blk wr gp 3 #[.int .i64 (j : Int)]) (fun _ wr => n - keptAt wr gp)
  case atStart => exact ⟨p, Nat.le_refl _, h1, World.grownBy.refl _ _, HP.out⟩
  case round =>
    obtain ⟨j, hj1, hj2, hg, hb⟩ := hrel
    have j0 : (0 : Int) ≤ j := by omega
    have j1 : (j : Int) < n := by omega
    have hlt : j < n := by omega
    have hkm := keptAt_blk hb
    have HKM := Lib.hid hkm
    clear hkm
    have c0 : wr.cell? ⟨gp, 0, none⟩ = some (.int .i64 (j : Int)) := hb.cell 0
    have hsr : Blk wr gs 23 #[.slice (some ⟨b, off, none⟩) n c] := HS.out.grown hg fun e => HNE.out (Option.some.inj e).symm
    have c1 : wr.cell? ⟨gs, 0, none⟩ = some (.slice (some ⟨b, off, none⟩) n c) := hsr.cell 0
    have c1' : (wr.setCell ⟨gp, 0, none⟩ (.int .i64 ((j : Int) + 1))).cell? ⟨gs, 0, none⟩ = some (.slice (some ⟨b, off, none⟩) n c) := (hsr.far (p := ⟨gp, 0, none⟩) (fun e => HNE.out e.symm) _).cell 0
    have hbg : b ≠ gp := by have := HB.out; omega
    have hcell : (wr.setCell ⟨gp, 0, none⟩ (.int .i64 ((j : Int) + 1))).cell? ⟨b, off + j, none⟩ = some (.int .u8 ((mkT s j : Nat) : Int)) := by
      rw [← HA.out.mk j hlt]
      have hbl : b < w.heap.size := by
        have h := HA.out.mk j hlt
        obtain ⟨o, ho, _⟩ := cells_of_cell h
        exact (Array.getElem?_eq_some_iff.1 ho).1
      have e1 : (wr.setCell ⟨gp, 0, none⟩ (.int .i64 ((j : Int) + 1))).heap[b]? = w.heap[b]? := (Below.heap_setCell wr ⟨gp, 0, none⟩ _ b hbg).trans (hg.block b hbl (fun e => hbg (Option.some.inj e)))
      exact World.cell?_of_block (a := ⟨b, off + j, none⟩) e1
    have hw : IntKind.i64.wrap ((j : Int) + 1) = (j : Int) + 1 := IntWalk.i64_in _ (by omega)
    have hg2 : w.grownBy (wr.setCell ⟨gp, 0, none⟩ (.int .i64 ((j : Int) + 1))) (some gp) := only_setCell hg (.inl rfl) _
    have hb2 := hb.set_ 0 (.int .i64 ((j : Int) + 1))
    have hb2' : Blk (wr.setCell ⟨gp, 0, none⟩ (.int .i64 ((j : Int) + 1))) gp 3 #[.int .i64 ((j + 1 : Nat) : Int)] := by
      have e : ((j + 1 : Nat) : Int) = (j : Int) + 1 := by omega
      rw [e]; exact hb2
    have hf := hb.frozen 0
    have HG2 := Lib.hid hg2
    have HB2 := Lib.hid hb2'
    clear hg hb hsr hg2 hb2 hb2' hbg
    by_cases hjk : j = k
    · rw [hjk] at c0 j0 j1 hlt c1' hcell hw HG2 HB2
      rw [H3.out] at hcell
      clear HKM hj1 hj2 hjk
      go_wp2_with fail
      go_ret2
      exact ⟨rfl, HG2.out, HB2.out⟩
    · have hz := H4.out j hj1 (by omega)
      obtain ⟨x, hx⟩ : ∃ x : Nat, mkT s j = x := ⟨_, rfl⟩
      rw [hx] at hcell hz
      have hzz : ((x : Int) == 0) = false := by simp; omega
      clear hx hz
      go_wp2_with fail
      go_roundw
      case rel => exact ⟨j + 1, by omega, by omega, HG2.out, HB2.out⟩
      case measure =>
        rw [keptAt_blk HB2.out, HKM.out]
        omega
set_option maxHeartbeats 1000000 in
theorem spNext_none (gp gs B : Nat) (a : Option Addr) (n c : Nat) (s : List UInt8) (p : Nat) (w : World) (hp : Blk w gp 3 #[.int .i64 (p : Int)]) (hs : Blk w gs 23 #[.slice a n c]) (hne : gp ≠ gs) (hA : Bsl w B a n c s) (hB : B ≤ gp)
    (h1 : p ≤ n) (h4 : ∀ i, p ≤ i → i < n → mkT s i ≠ 0) :
    Calls Try.prog 65 #[.pointer (some ⟨gp, 0, none⟩), .pointer (some ⟨gs, 0, none⟩)] w fun e w' => e = .returned (.tuple #[.int .i64 0, .bool false]) ∧ w.grownBy w' (some gp) ∧ Blk w' gp 3 #[.int .i64 (n : Int)] := by
  have n1 := hA.len_le
  have HP := Lib.hid hp
  have HS := Lib.hid hs
  have HA := Lib.hid hA
  have HB := Lib.hid hB
  have HNE := Lib.hid hne
  have H4 := Lib.hid h4
  clear hp hs hA hB hne h4
  go_enter Try.func65, Try.ntmps65
  go_wp2_with fail
  go_loopw [4] (fun _ wr => ∃ j : Nat, p ≤ j ∧ j ≤ n ∧ w.grownBy wr (some gp) ∧ Blk wr gp 3 #[.int .i64 (j : Int)]) (fun _ wr => n - keptAt wr gp)
  case atStart => exact ⟨p, Nat.le_refl _, h1, World.grownBy.refl _ _, HP.out⟩
  case round =>
    obtain ⟨j, hj1, hj2, hg, hb⟩ := hrel
    have j0 : (0 : Int) ≤ j := by omega
    have hkm := keptAt_blk hb
    have HKM := Lib.hid hkm
    clear hkm
    have c0 : wr.cell? ⟨gp, 0, none⟩ = some (.int .i64 (j : Int)) := hb.cell 0
    have hsr : Blk wr gs 23 #[.slice a n c] := HS.out.grown hg fun e => HNE.out (Option.some.inj e).symm
    have c1 : wr.cell? ⟨gs, 0, none⟩ = some (.slice a n c) := hsr.cell 0
    by_cases hlt : j < n
    · obtain ⟨b, off, rfl, hbB⟩ := HA.out.at_ (by omega)
      have j1 : (j : Int) < n := by omega
      have c1' : (wr.setCell ⟨gp, 0, none⟩ (.int .i64 ((j : Int) + 1))).cell? ⟨gs, 0, none⟩ = some (.slice (some ⟨b, off, none⟩) n c) := (hsr.far (p := ⟨gp, 0, none⟩) (fun e => HNE.out e.symm) _).cell 0
      have hbg : b ≠ gp := by have := HB.out; omega
      have hcell : (wr.setCell ⟨gp, 0, none⟩ (.int .i64 ((j : Int) + 1))).cell? ⟨b, off + j, none⟩ = some (.int .u8 ((mkT s j : Nat) : Int)) := by
        rw [← HA.out.mk j hlt]
        have hbl : b < w.heap.size := by
          have h := HA.out.mk j hlt
          obtain ⟨o, ho, _⟩ := cells_of_cell h
          exact (Array.getElem?_eq_some_iff.1 ho).1
        have e1 : (wr.setCell ⟨gp, 0, none⟩ (.int .i64 ((j : Int) + 1))).heap[b]? = w.heap[b]? := (Below.heap_setCell wr ⟨gp, 0, none⟩ _ b hbg).trans (hg.block b hbl (fun e => hbg (Option.some.inj e)))
        exact World.cell?_of_block (a := ⟨b, off + j, none⟩) e1
      have hw : IntKind.i64.wrap ((j : Int) + 1) = (j : Int) + 1 := IntWalk.i64_in _ (by omega)
      have hg2 : w.grownBy (wr.setCell ⟨gp, 0, none⟩ (.int .i64 ((j : Int) + 1))) (some gp) := only_setCell hg (.inl rfl) _
      have hb2 := hb.set_ 0 (.int .i64 ((j : Int) + 1))
      have hb2' : Blk (wr.setCell ⟨gp, 0, none⟩ (.int .i64 ((j : Int) + 1))) gp 3 #[.int .i64 ((j + 1 : Nat) : Int)] := by
        have e : ((j + 1 : Nat) : Int) = (j : Int) + 1 := by omega
        rw [e]; exact hb2
      have hf := hb.frozen 0
      have HG2 := Lib.hid hg2
      have HB2 := Lib.hid hb2'
      clear hg hb hsr hg2 hb2 hb2' hbg
      have hz := H4.out j hj1 hlt
      obtain ⟨x, hx⟩ : ∃ x : Nat, mkT s j = x := ⟨_, rfl⟩
      rw [hx] at hcell hz
      have hzz : ((x : Int) == 0) = false := by simp; omega
      clear hx hz
      go_wp2_with fail
      go_roundw
      case rel => exact ⟨j + 1, by omega, by omega, HG2.out, HB2.out⟩
      case measure =>
        rw [keptAt_blk HB2.out, HKM.out]
        omega
    · have hjn : j = n := by omega
      rw [hjn] at c0 hb j0
      have HG2 := Lib.hid hg
      have HB2 := Lib.hid hb
      clear hg hb hsr HKM hlt hjn hj1 hj2
      go_wp2_with fail
      go_ret2
      exact ⟨rfl, HG2.out, HB2.out⟩
end Go.Proofs.Ytdpmdlibgabjaaa
/-
  What space's calls answer: Check, Free, Take, Give, Settle.
-/
namespace Go.Proofs.Ytdpmdlibgabjaaa
open Go.RowKit Go.Shelf
set_option maxRecDepth 100000

/-- A table of the call's own, and an error's number. -/
def OutTb (c : Nat) (x : List UInt8) (w : World) (e : Ending) (w' : World) : Prop := ∃ v, e = .returned (.tuple #[v, .int .i64 c]) ∧ w'.ownsRow w.heap.size 5 1 v x.length (vals x) ∧ Below w.heap.size w w'
/-- A table of the call's own, a block's number, and an error's number. -/
def OutTk (c : Nat) (x : List UInt8) (k : Nat) (w : World) (e : Ending) (w' : World) : Prop := ∃ v, e = .returned (.tuple #[v, .int .i64 k, .int .i64 c]) ∧ w'.ownsRow w.heap.size 5 1 v x.length (vals x) ∧ Below w.heap.size w w'
/-- A list of numbers of the call's own, and an error's number. -/
def OutF (c : Nat) (x : List Nat) (w : World) (e : Ending) (w' : World) : Prop := ∃ v, e = .returned (.tuple #[v, .int .i64 c]) ∧ w'.ownsRow w.heap.size 3 1 v x.length (valsN x) ∧ Below w.heap.size w w'

theorem outTb_nil (c : Nat) (w : World) : OutTb c [] w (.returned (.tuple #[.slice none 0 0, .int .i64 c])) w := ⟨_, rfl, World.ownsRow_nil _ _ _ _, Below.refl _ _⟩
theorem outTk_nil (c : Nat) (w : World) : OutTk c [] 0 w (.returned (.tuple #[.slice none 0 0, .int .i64 0, .int .i64 c])) w := ⟨_, rfl, World.ownsRow_nil _ _ _ _, Below.refl _ _⟩
theorem outF_nil (c : Nat) (w : World) : OutF c [] w (.returned (.tuple #[.slice none 0 0, .int .i64 c])) w := ⟨_, rfl, World.ownsRow_nil _ _ _ _, Below.refl _ _⟩
theorem MayT.len_of {w : World} {B n c : Nat} {a : Option Addr} {s : List UInt8} (h : MayT s) (hA : Bsl w B a n c s) : n = 256 := by rw [← hA.1]; exact h.1

theorem spCheck_yes (a : Option Addr) (n c B : Nat) (s : List UInt8) (w : World) (hA : Bsl w B a n c s) (h : MayT s) : Calls Try.prog 61 #[.slice a n c] w fun e w' => e = .returned (.int .i64 0) ∧ w = w' := by
  have HM := Lib.hid (spMay_yes a n c B s w hA h)
  clear hA h
  go_enter Try.func61, Try.ntmps61
  go_wp2_with fail
  refine HM.out.mono ?_
  rintro e w1 ⟨rfl, rfl⟩
  go_wp2_with fail
  go_ret
  exact ⟨rfl, rfl⟩
theorem spCheck_no (a : Option Addr) (n c B : Nat) (s : List UInt8) (w : World) (hA : Bsl w B a n c s) (h : ¬ MayT s) : Calls Try.prog 61 #[.slice a n c] w fun e w' => e = .returned (.int .i64 8) ∧ w = w' := by
  have HM := Lib.hid (spMay_no a n c B s w hA h)
  clear hA h
  go_enter Try.func61, Try.ntmps61
  go_wp2_with fail
  refine HM.out.mono ?_
  rintro e w1 ⟨rfl, rfl⟩
  go_wp2_with fail
  go_ret
  exact ⟨rfl, rfl⟩

theorem spTake_bad (a : Option Addr) (n c B : Nat) (s : List UInt8) (w : World) (hA : Bsl w B a n c s) (h : ¬ MayT s) : Calls Try.prog 40 #[.slice a n c] w (OutTk 8 [] 0 w) := by
  have HM := Lib.hid (spMay_no a n c B s w hA h)
  clear hA h
  go_enter Try.func40, Try.ntmps40
  go_wp2_with fail
  refine HM.out.mono ?_
  rintro e w1 ⟨rfl, rfl⟩
  go_wp2_with fail
  go_ret3
  exact outTk_nil 8 w
theorem spTake_full (a : Option Addr) (n c : Nat) (s : List UInt8) (w : World) (hA : Bsl w w.heap.size a n c s) (h : MayT s) (h0 : ∀ i, i < 256 → mkT s i ≠ 0) : Calls Try.prog 40 #[.slice a n c] w (OutTk 9 [] 0 w) := by
  have HM := Lib.hid (spMay_yes a n c _ s w hA h)
  have hn := h.len_of hA
  subst hn
  have HF := Lib.hid (spOnes_any a 256 c w)
  have HA := Lib.hid hA
  have H0 := Lib.hid h0
  clear hA h h0
  go_enter Try.func40, Try.ntmps40
  go_wp2_with fail
  refine HM.out.mono ?_
  rintro e w1 ⟨rfl, rfl⟩
  go_wp2_with fail
  refine HF.out.mono ?_
  rintro e w1 ⟨gp, gs, rfl, hgp, hgs, hne, hp, hs, b1⟩
  have HX := Lib.hid (spNext_none gp gs w.heap.size a 256 c s 0 w1 hp hs hne (HA.out.below b1) hgp (Nat.zero_le _) fun i _ hi => H0.out i hi)
  have HB := Lib.hid b1
  have HG := Lib.hid hgp
  clear hgs hne hp hs b1 hgp
  go_wp2_with fail
  refine HX.out.mono ?_
  rintro e w2 ⟨rfl, hg, _⟩
  have HB2 := Lib.hid (below_only HB.out HG.out hg HB.out.size)
  clear hg
  go_wp2_with fail
  go_ret3
  exact ⟨_, rfl, World.ownsRow_nil _ _ _ _, HB2.out⟩
theorem spTake_ok (a : Option Addr) (n c : Nat) (s : List UInt8) (k : Nat) (w : World) (hA : Bsl w w.heap.size a n c s) (h : MayT s) (hk : k < 256) (hz : mkT s k = 0) (h0 : ∀ i, i < k → mkT s i ≠ 0) : Calls Try.prog 40 #[.slice a n c] w (OutTk 0 (s.set k 1) k w) := by
  have HM := Lib.hid (spMay_yes a n c _ s w hA h)
  have hn := h.len_of hA
  subst hn
  have hl : (s.set k 1).length = 256 := by simp [h.1]
  have HL := Lib.hid hl
  have HF := Lib.hid (spOnes_any a 256 c w)
  have HA := Lib.hid hA
  have H0 := Lib.hid h0
  have HZ := Lib.hid hz
  clear hA h h0 hz hl
  go_enter Try.func40, Try.ntmps40
  go_wp2_with fail
  refine HM.out.mono ?_
  rintro e w1 ⟨rfl, rfl⟩
  go_wp2_with fail
  refine HF.out.mono ?_
  rintro e w1 ⟨gp, gs, rfl, hgp, hgs, hne, hp, hs, b1⟩
  have HX := Lib.hid (spNext_some gp gs w.heap.size a 256 c s 0 k w1 hp hs hne (HA.out.below b1) hgp (Nat.zero_le _) hk HZ.out fun i _ hi => H0.out i hi)
  have HB := Lib.hid b1
  have HG := Lib.hid hgp
  clear hgs hne hp hs b1 hgp
  go_wp2_with fail
  refine HX.out.mono ?_
  rintro e w2 ⟨rfl, hg, _⟩
  have HB2 := Lib.hid (below_only HB.out HG.out hg HB.out.size)
  clear hg
  have HW := Lib.hid (spWith_any a 256 c s k 1 w2 (HA.out.step HB2.out) hk (by omega))
  go_wp2_with fail
  refine HW.out.mono ?_
  rintro e w3 ⟨v, rfl, ho, b3⟩
  have HO := Lib.hid (own_mono ho HB2.out.size)
  have HB3 := Lib.hid (HB2.out.trans (b3.mono HB2.out.size))
  clear ho b3
  go_wp2_with fail
  go_ret3
  exact ⟨_, rfl, by rw [HL.out]; exact HO.out, HB3.out⟩

end Go.Proofs.Ytdpmdlibgabjaaa
/-
  space.Free: all free blocks, rising.
-/
namespace Go.Proofs.Ytdpmdlibgabjaaa
open Go.RowKit Go.Shelf
set_option maxRecDepth 100000

theorem spFree_bad (a : Option Addr) (n c B : Nat) (s : List UInt8) (w : World) (hA : Bsl w B a n c s) (h : ¬ MayT s) : Calls Try.prog 17 #[.slice a n c] w (OutF 8 [] w) := by
  have HM := Lib.hid (spMay_no a n c B s w hA h)
  clear hA h
  go_enter Try.func17, Try.ntmps17
  go_wp2_with fail
  refine HM.out.mono ?_
  rintro e w1 ⟨rfl, rfl⟩
  go_wp2_with fail
  go_ret2
  exact outF_nil 8 w
/-- What the loop of Free knows: the next free block lies at k, or there is none any more. -/
def FreeI (s : List UInt8) (B0 w : World) (gp gs : Nat) (sl : Value) (v x ok : Value) (wr : World) : Prop :=
  Below w.heap.size w wr ∧ B0.heap.size ≤ wr.heap.size ∧ Blk wr gs 23 #[sl] ∧
    ((∃ k : Nat, k < 256 ∧ mkT s k = 0 ∧ x = .int .i64 k ∧ ok = .bool true ∧ Blk wr gp 3 #[.int .i64 ((k + 1 : Nat) : Int)] ∧ wr.ownsRow B0.heap.size 3 1 v (freeTo s k).length (valsN (freeTo s k))) ∨
     (x = .int .i64 0 ∧ ok = .bool false ∧ wr.ownsRow B0.heap.size 3 1 v (freeTo s 256).length (valsN (freeTo s 256))))
theorem freeTo_le (s : List UInt8) (n : Nat) : (freeTo s n).length ≤ n := by rw [freeTo_length]; exact cntTo_le s 0 n
/-- Behind a call of the closure. -/
theorem FreeI.next {s : List UInt8} {B0 w wr w2 : World} {gp gs p : Nat} {sl v : Value} (hb : Below w.heap.size w wr) (hB : B0.heap.size ≤ wr.heap.size) (hs : Blk wr gs 23 #[sl]) (hne : gp ≠ gs) (hgp : w.heap.size ≤ gp) (hgB : gp < B0.heap.size) (ho : wr.ownsRow B0.heap.size 3 1 v (freeTo s p).length (valsN (freeTo s p)))
    (hg : wr.grownBy w2 (some gp)) : Below w.heap.size w w2 ∧ B0.heap.size ≤ w2.heap.size ∧ Blk w2 gs 23 #[sl] ∧ w2.ownsRow B0.heap.size 3 1 v (freeTo s p).length (valsN (freeTo s p)) :=
  ⟨below_only hb hgp hg hb.size, Nat.le_trans hB hg.size, hs.grown hg (fun e => hne (Option.some.inj e).symm), own_other ho hg fun k hk => by have := (ho.lt k hk).1; omega⟩
set_option maxHeartbeats 2000000 in
theorem spFree_ok (a : Option Addr) (n c : Nat) (s : List UInt8) (w : World) (hA : Bsl w w.heap.size a n c s) (h : MayT s) : Calls Try.prog 17 #[.slice a n c] w (OutF 0 (freeTo s 256) w) := by
  have HM := Lib.hid (spMay_yes a n c _ s w hA h)
  have hn := h.len_of hA
  subst hn
  have HF := Lib.hid (spOnes_any a 256 c w)
  have HA := Lib.hid hA
  clear hA h
  go_enter Try.func17, Try.ntmps17
  go_wp2_with fail
  refine HM.out.mono ?_
  rintro e w1 ⟨rfl, rfl⟩
  go_wp2_with fail
  refine HF.out.mono ?_
  rintro e w1 ⟨gp, gs, rfl, hgp, hgs, hne, hp, hs, b1⟩
  have hgB : gp < w1.heap.size := hp.lt
  have HN := Lib.hid (first_from (fun k => mkT s k = 0) 0 256)
  have HB := Lib.hid b1
  have HG := Lib.hid hgp
  have HGB := Lib.hid hgB
  have HNE := Lib.hid hne
  have HS := Lib.hid hs
  have HP := Lib.hid hp
  clear hgs hne hp hs b1 hgp hgB
  go_wp2_with fail
  have hx : Calls Try.prog 65 #[.pointer (some ⟨gp, 0, none⟩), .pointer (some ⟨gs, 0, none⟩)] w1 fun e w' => ∃ x ok, e = .returned (.tuple #[x, ok]) ∧ FreeI s w1 w gp gs (.slice a 256 c) (.slice none 0 0) x ok w' := by
    rcases HN.out with ⟨k, _, hk, hz, hbefore⟩ | hall
    · refine (spNext_some gp gs w.heap.size a 256 c s 0 k w1 HP.out HS.out HNE.out (HA.out.below HB.out) HG.out (Nat.zero_le _) hk hz hbefore).mono ?_
      rintro e w2 ⟨rfl, hg, hp2⟩
      have e0 : freeTo s k = [] := freeTo_same (p := 0) (Nat.zero_le _) hbefore
      obtain ⟨i1, i2, i3, i4⟩ := FreeI.next (s := s) (p := 0) (v := .slice none 0 0) HB.out (Nat.le_refl _) HS.out HNE.out HG.out HGB.out (World.ownsRow_nil _ _ _ _) hg
      exact ⟨_, _, rfl, i1, i2, i3, .inl ⟨k, hk, hz, rfl, rfl, hp2, by rw [e0]; exact i4⟩⟩
    · refine (spNext_none gp gs w.heap.size a 256 c s 0 w1 HP.out HS.out HNE.out (HA.out.below HB.out) HG.out (Nat.zero_le _) hall).mono ?_
      rintro e w2 ⟨rfl, hg, hp2⟩
      have e0 : freeTo s 256 = [] := freeTo_same (p := 0) (Nat.zero_le _) hall
      obtain ⟨i1, i2, i3, i4⟩ := FreeI.next (s := s) (p := 0) (v := .slice none 0 0) HB.out (Nat.le_refl _) HS.out HNE.out HG.out HGB.out (World.ownsRow_nil _ _ _ _) hg
      exact ⟨_, _, rfl, i1, i2, i3, .inr ⟨rfl, rfl, by rw [e0]; exact i4⟩⟩
  have HX := Lib.hid hx
  clear hx
  refine HX.out.mono ?_
  rintro e w2 ⟨x, ok, rfl, hI⟩
  have HI := Lib.hid hI
  clear hI
  go_wp2_with fail
  go_loopw [4, 6, 7] (fun v x ok wr => FreeI s w1 w gp gs (.slice a 256 c) v x ok wr) (fun _ x ok _ => match ok with | .bool true => 257 - (intOf x).toNat | _ => 0)
  case atStart => exact HI.out
  case round =>
    obtain ⟨hb, hB, hs, ⟨k, hk, hz, rfl, rfl, hp, ho⟩ | ⟨rfl, rfl, ho⟩⟩ := hrel
    · have k0 : (0 : Int) ≤ k := by omega
      have hl : (freeTo s k).length ≤ k := freeTo_le s k
      have hfy : freeTo s k ++ [k] = freeTo s (k + 1) := (freeTo_yes hz).symm
      have hfl : (freeTo s k).length + 1 = (freeTo s (k + 1)).length := by rw [← hfy]; simp
      have o1 := one_nsl wr k
      have HN1 := Lib.hid o1
      have HOr := Lib.hid (ho.alloc (.cells #[.int .i64 (k : Int)] 3))
      have HPr := Lib.hid (hp.alloc (.cells #[.int .i64 (k : Int)] 3))
      have HSr := Lib.hid (hs.alloc (.cells #[.int .i64 (k : Int)] 3))
      have HBr := Lib.hid (hb.alloc hb.size (.cells #[.int .i64 (k : Int)] 3))
      have HLr := Lib.hid (show w1.heap.size ≤ (wr.alloc (.cells #[.int .i64 (k : Int)] 3)).heap.size by simp; omega)
      have HGS := Lib.hid (show gs < w1.heap.size from HS.out.lt)
      clear ho hb hs hp o1 hB hz
      go_wp2_with (at_builtin
                   refine wpList_append_nsl rfl (.tmp 24) (.tmp 26) rfl w1.heap.size _ (freeTo s k).length _ rfl HOr.out _ (some ⟨wr.heap.size, 0, none⟩) 1 1 [k] rfl HN1.out (by omega) HLr.out ?_
                   intro v' W3 hown' hg'
                   rw [hfy, hfl] at hown'
                   have hne1 : ∀ q, q < w1.heap.size → some q ≠ Value.ownBlock _ := fun q hq e => by have := (HOr.out.lt q e.symm).1; omega
                   have HP3 := Lib.hid (HPr.out.grown hg' (hne1 gp HGB.out))
                   have HS3 := Lib.hid (HSr.out.grown hg' (hne1 gs HGS.out))
                   have HB3 := Lib.hid (show Below w.heap.size w W3 from HBr.out.grown hg' HBr.out.size fun q hq => by have h1 := (HOr.out.lt q hq).1; have h2 := HB.out.size; omega)
                   have HL3 := Lib.hid (Nat.le_trans HLr.out hg'.size)
                   have HO3 := Lib.hid hown'; clear hown' hg' hne1)
      have hx : Calls Try.prog 65 #[.pointer (some ⟨gp, 0, none⟩), .pointer (some ⟨gs, 0, none⟩)] W3 fun e w' => ∃ x ok, e = .returned (.tuple #[x, ok]) ∧ FreeI s w1 w gp gs (.slice a 256 c) v' x ok w' ∧ ∀ j : Nat, x = .int .i64 j → ok = .bool true → k < j := by
        rcases first_from (fun k => mkT s k = 0) (k + 1) 256 with ⟨j, hj, hj2, hz, hbefore⟩ | hall
        · refine (spNext_some gp gs w.heap.size a 256 c s (k + 1) j W3 HP3.out HS3.out HNE.out (HA.out.below HB3.out) HG.out hj hj2 hz hbefore).mono ?_
          rintro e w2 ⟨rfl, hg, hp2⟩
          have e0 : freeTo s j = freeTo s (k + 1) := freeTo_same hj hbefore
          obtain ⟨i1, i2, i3, i4⟩ := FreeI.next (s := s) (p := k + 1) HB3.out HL3.out HS3.out HNE.out HG.out HGB.out HO3.out hg
          exact ⟨_, _, rfl, ⟨i1, i2, i3, .inl ⟨j, hj2, hz, rfl, rfl, hp2, by rw [e0]; exact i4⟩⟩, fun j' h1 _ => by injection h1; omega⟩
        · refine (spNext_none gp gs w.heap.size a 256 c s (k + 1) W3 HP3.out HS3.out HNE.out (HA.out.below HB3.out) HG.out (by omega) hall).mono ?_
          rintro e w2 ⟨rfl, hg, hp2⟩
          have e0 : freeTo s 256 = freeTo s (k + 1) := freeTo_same (by omega) hall
          obtain ⟨i1, i2, i3, i4⟩ := FreeI.next (s := s) (p := k + 1) HB3.out HL3.out HS3.out HNE.out HG.out HGB.out HO3.out hg
          exact ⟨_, _, rfl, ⟨i1, i2, i3, .inr ⟨rfl, rfl, by rw [e0]; exact i4⟩⟩, fun _ _ h2 => (by cases h2)⟩
      have HX := Lib.hid hx
      clear hx
      refine HX.out.mono ?_
      rintro e w4 ⟨x', ok', rfl, hI, hM⟩
      have HI := Lib.hid hI
      have HMM := Lib.hid hM
      clear hI hM
      go_wp2_with fail
      go_roundw
      case rel => exact HI.out
      case measure =>
        rcases HI.out.2.2.2 with ⟨j, hj, _, rfl, rfl, _⟩ | ⟨rfl, rfl, _⟩
        · have := HMM.out j rfl rfl
          simp [intOf]; omega
        · simp [intOf]; omega
    · have HO := Lib.hid (own_mono ho HB.out.size)
      have HB2 := Lib.hid hb
      clear ho hb hB hs
      go_wp2_with fail
      go_ret2
      exact ⟨_, rfl, HO.out, HB2.out⟩
end Go.Proofs.Ytdpmdlibgabjaaa
/-
  The document's own functions of layer 12: May, Check, New, All, With, Settled, Same.
-/
namespace Go.Proofs.Ytdpmdlibgabjaaa
open Go.RowKit Go.Shelf
set_option maxRecDepth 100000

end Go.Proofs.Ytdpmdlibgabjaaa
/-
  The document's own Free, Take, Give, Settle and Same of layer 12.
-/
namespace Go.Proofs.Ytdpmdlibgabjaaa
open Go.RowKit Go.Shelf
set_option maxRecDepth 100000

theorem ownN_slice {w : World} {B n : Nat} {v : Value} {xs : List Value} (h : w.ownsRow B 3 1 v n xs) : ∃ a cap, v = .slice a n cap := by
  rcases h.2 with ⟨rfl, h0⟩ | ⟨g, cap, cur, rfl, _⟩
  · exact ⟨none, 0, by rw [h0]⟩
  · exact ⟨_, _, rfl⟩
end Go.Proofs.Ytdpmdlibgabjaaa
/-
  The document's own Great for layer 9: a disk that is not great has few blocks, few writes, few bytes.
-/
namespace Go.Proofs.Ytdpmdlibgabjaaa
open Go.RowKit Go.Shelf
set_option maxRecDepth 100000

/-- No piece of a disk is longer than what memory there is. -/
def Near (D : DkL) : Prop := (∀ i, i < D.1.length → (D.1.getD i []).length ≤ 140737488351232) ∧ ∀ i, i < D.2.length → (wr_ D.2 i).2.length ≤ 140737488351232
/-- What a disk that is not great is. -/
def Small (D : DkL) : Prop := D.1.length ≤ 500 ∧ (D.2.length ≤ 500 ∨ 4096 ≤ D.2.length) ∧ D.2.length ≤ 4106 ∧ sumD D < 2000000
/-- What Great answers: if it is no, the disk is small. -/
def GreatSays (D : DkL) (w : World) (e : Ending) (w' : World) : Prop := ∃ b, e = .returned (.bool b) ∧ (b = false → Small D) ∧ Below w.heap.size w w'
theorem small_fits {D : DkL} (h : Small D) : Fits D := ⟨by have := h.1; omega, by have := h.2.2.1; omega, by have := h.2.2.2; omega⟩
theorem great_yes {D : DkL} {w w' : World} (hb : Below w.heap.size w w') : GreatSays D w (.returned (.bool true)) w' := ⟨true, rfl, fun h => (by cases h), hb⟩
set_option maxHeartbeats 4000000 in
theorem rdGreat_any (x : DAt) (D : DkL) (w : World) (h : Dsk w w.heap.size x D) (hnear : Near D) : Calls Try.prog 27 #[dval x D] w (GreatSays D w) := by
  obtain ⟨ba, bc, wa, wc⟩ := x
  simp only [dval]
  have l1 := h.1.len_le
  have l2 := h.2.len_le
  obtain ⟨n, hn⟩ : ∃ n, D.1.length = n := ⟨_, rfl⟩
  obtain ⟨m, hm⟩ : ∃ m, D.2.length = m := ⟨_, rfl⟩
  rw [hn] at l1
  rw [hm] at l2
  have n0 : (0 : Int) ≤ n := by omega
  have m0 : (0 : Int) ≤ m := by omega
  have b0 := (Below.refl w.heap.size w).alloc (Nat.le_refl _) (.cells #[.slice ba D.1.length bc, .slice wa D.2.length wc] 27)
  have x0 := Blk.new w 27 #[.slice ba D.1.length bc, .slice wa D.2.length wc]
  have h0 := h.step b0
  rw [hn, hm] at b0 x0 h0 ⊢
  obtain ⟨w0, hw0⟩ : ∃ w0, w.alloc (.cells #[.slice ba n bc, .slice wa m wc] 27) = w0 := ⟨_, rfl⟩
  rw [hw0] at b0 x0 h0
  have c0 := x0.cell 0
  have c1 := x0.cell 1
  obtain ⟨hB, hW⟩ := h0
  simp only [hn, hm] at hB hW
  have HB := Lib.hid hB
  have HW := Lib.hid hW
  have HBl := Lib.hid b0
  have HN := Lib.hid hn
  have HM := Lib.hid hm
  have HNEAR := Lib.hid hnear
  clear h b0 x0 hB hW hn hm hnear
  by_cases hn5 : (500 : Int) < n
  · go_enter Try.func27, Try.ntmps27
    go_wp2_with fail
    go_ret
    exact great_yes HBl.out
  · by_cases hmid : (500 : Int) < m ∧ (m : Int) < 4096
    · obtain ⟨hm5, hm4⟩ := hmid
      go_enter Try.func27, Try.ntmps27
      go_wp2_with fail
      go_ret
      exact great_yes HBl.out
    · by_cases hm6 : (4106 : Int) < m
      · have hm5 : (500 : Int) < m := by omega
        have hm4 : ¬ (m : Int) < 4096 := by omega
        clear hmid
        go_enter Try.func27, Try.ntmps27
        go_wp2_with fail
        go_ret
        exact great_yes HBl.out
      · have hdim : n ≤ 500 ∧ (m ≤ 500 ∨ 4096 ≤ m) ∧ m ≤ 4106 := by omega
        have HDIM := Lib.hid hdim
        have hmb : (500 : Int) < m → ¬ (m : Int) < 4096 := fun hh hk => hmid ⟨hh, hk⟩
        clear hmid hdim
        by_cases hm5 : (500 : Int) < m
        all_goals
          first
            | have hm4 : ¬ (m : Int) < 4096 := hmb hm5
            | have hm4 : True := trivial
          clear hmb
          go_enter Try.func27, Try.ntmps27
          go_wp2_with fail
          clear hw0 hm4 hm5 hm6 hn5
          go_loop [3, 4] (fun t i => ∃ k : Nat, k ≤ n ∧ i = .int .i64 k ∧ t = .int .i64 (sumB D.1 k : Nat) ∧ sumB D.1 k ≤ 140737490351232) (fun _ i => n - (intOf i).toNat)
          case atStart => exact ⟨0, Nat.zero_le _, rfl, rfl, by simp [sumB]⟩
          case round =>
            obtain ⟨k, hk, rfl, rfl, hts⟩ := hrel
            have k0 : (0 : Int) ≤ k := by omega
            obtain ⟨t, ht⟩ : ∃ t, sumB D.1 k = t := ⟨_, rfl⟩
            rw [ht] at hts ⊢
            have t0 : (0 : Int) ≤ t := by omega
            have t1 : (t : Int) ≤ 140737490351232 := by omega
            by_cases hlt : k < n ∧ t < 2000000
            · obtain ⟨hlt, ht2⟩ := hlt
              have k1 : (k : Int) < n := by omega
              have t2 : (t : Int) < 2000000 := by omega
              obtain ⟨b, off, A, l, c', s, rfl, _, hl, hc, hA⟩ := HB.out.at_ hlt
              have hle := HNEAR.out.1 k (by rw [HN.out]; exact hlt)
              rw [hl, hA.1] at hle
              have hs : sumB D.1 (k + 1) = t + l := by rw [sumB, hl, hA.1, ht]
              have l0 : (0 : Int) ≤ l := by omega
              have l1 : (l : Int) ≤ 140737488351232 := by omega
              have HS := Lib.hid hs
              clear hl hA hs ht
              go_wp2_with fail
              go_round
              case rel => exact ⟨k + 1, by omega, by go_num, by rw [HS.out]; go_num, by rw [HS.out]; omega⟩
              case measure => simp [intOf]; omega
            · have hend : k = n ∨ 2000000 ≤ t := by omega
              have HEND := Lib.hid hend
              have HT := Lib.hid ht
              have hgo : ((k : Int) < n → ¬ (t : Int) < 2000000) := by omega
              clear hend ht hlt
              by_cases hkn : (k : Int) < n
              all_goals
                first
                  | have t3 : ¬ (t : Int) < 2000000 := hgo hkn
                  | have t3 : True := trivial
                clear hgo
                go_wp2_with fail
                clear hkn t3
                go_loop [3, 5] (fun u i => ∃ j : Nat, j ≤ m ∧ i = .int .i64 j ∧ u = .int .i64 (t + sumW D.2 j : Nat) ∧ t + sumW D.2 j ≤ 281474980702464) (fun _ i => m - (intOf i).toNat)
                case atStart => exact ⟨0, Nat.zero_le _, rfl, rfl, by simp [sumW]; omega⟩
                case round =>
                  obtain ⟨j, hj, rfl, rfl, hus⟩ := hrel
                  have j0 : (0 : Int) ≤ j := by omega
                  obtain ⟨u, hu⟩ : ∃ u, t + sumW D.2 j = u := ⟨_, rfl⟩
                  rw [hu] at hus ⊢
                  have u0 : (0 : Int) ≤ u := by omega
                  have u1 : (u : Int) ≤ 281474980702464 := by omega
                  by_cases hlt : j < m ∧ u < 2000000
                  · obtain ⟨hlt, hu2⟩ := hlt
                    have j1 : (j : Int) < m := by omega
                    have u2 : (u : Int) < 2000000 := by omega
                    obtain ⟨b, off, p, A, l, c', s, rfl, _, hl, _, hc, hd, hA⟩ := HW.out.at_ hlt
                    have hle := HNEAR.out.2 j (by rw [HM.out]; exact hlt)
                    rw [hl, hA.1] at hle
                    have hs : t + sumW D.2 (j + 1) = u + l := by rw [sumW, hl, hA.1, ← Nat.add_assoc, hu]
                    have l0 : (0 : Int) ≤ l := by omega
                    have l1 : (l : Int) ≤ 140737488351232 := by omega
                    have HS := Lib.hid hs
                    clear hl hA hs hu
                    go_wp2_with fail
                    go_round
                    case rel => exact ⟨j + 1, by omega, by go_num, by rw [HS.out]; go_num, by rw [HS.out]; omega⟩
                    case measure => simp [intOf]; omega
                  · have hend2 : j = m ∨ 2000000 ≤ u := by omega
                    have hsay : decide ((2000000 : Int) ≤ u) = false → Small D := by
                      intro hh
                      have hu3 : ¬ (2000000 : Int) ≤ u := by simpa using hh
                      have hju : j = m := by omega
                      have e1 := HEND.out
                      have hkn : k = n := by omega
                      obtain ⟨d1, d2, d3⟩ := HDIM.out
                      refine ⟨by rw [HN.out]; exact d1, by rw [HM.out]; exact d2, by rw [HM.out]; exact d3, ?_⟩
                      unfold sumD
                      rw [HN.out, HM.out, ← hju, ← hkn, HT.out]
                      omega
                    have hgo2 : ((j : Int) < m → ¬ (u : Int) < 2000000) := by omega
                    have HSAY := Lib.hid hsay
                    clear hsay hend2 hlt hu
                    by_cases hjm : (j : Int) < m
                    all_goals
                      first
                        | have u3 : ¬ (u : Int) < 2000000 := hgo2 hjm
                        | have u3 : True := trivial
                      clear hgo2
                      go_wp2_with fail
                      go_ret
                      first | exact ⟨_, rfl, HSAY.out, HBl.out⟩ | exact great_yes HBl.out
end Go.Proofs.Ytdpmdlibgabjaaa
/-
  The document's own functions of layer 13: May, Check, Great.
-/
namespace Go.Proofs.Ytdpmdlibgabjaaa
open Go.RowKit Go.Shelf
set_option maxRecDepth 100000

theorem st_box (w : World) (x : SAt) (S : StL) : Blk (w.alloc (.cells (stC x S) 30)) w.heap.size 30 (stC x S) ∧ Below w.heap.size w (w.alloc (.cells (stC x S) 30)) := ⟨Blk.new w _ _, (Below.refl _ w).alloc (Nat.le_refl _) _⟩
section
variable {w : World} {g : Nat} {t : TypeId} {x : SAt} {S : StL}
theorem stC0 (h : Blk w g t (stC x S)) : w.cell? ⟨g, 0, none⟩ = some (.slice x.d.ba S.1.1.length x.d.bc) := h.cell 0
theorem stC1 (h : Blk w g t (stC x S)) : w.cell? ⟨g, 1, none⟩ = some (.slice x.d.wa S.1.2.length x.d.wc) := h.cell 1
theorem stC2 (h : Blk w g t (stC x S)) : w.cell? ⟨g, 2, none⟩ = some (.slice x.a S.2.1.length x.c) := h.cell 2
theorem stC3 (h : Blk w g t (stC x S)) : w.cell? ⟨g, 3, none⟩ = some (.int .u32 (S.2.2.1 : Int)) := h.cell 3
theorem stC4 (h : Blk w g t (stC x S)) : w.cell? ⟨g, 4, none⟩ = some (.int .u32 (S.2.2.2 : Int)) := h.cell 4
end
/-- What Great answers: if it is no, the store is small. -/
def GreatSt (S : StL) (w : World) (e : Ending) (w' : World) : Prop := ∃ b, e = .returned (.bool b) ∧ (b = false → Small S.1 ∧ S.2.1.length ≤ 10000) ∧ Below w.heap.size w w'
set_option maxHeartbeats 1000000 in
theorem rtGreat_any (L : Nat) (x : SAt) (S : StL) (w : World) (h : StP L w x S) (hn : Near S.1) : Calls Try.prog 12 #[stV x S] w (GreatSt S w) := by
  obtain ⟨xb, b0⟩ := st_box w x S
  obtain ⟨w0, hw0⟩ : ∃ w0, w.alloc (.cells (stC x S) 30) = w0 := ⟨_, rfl⟩
  rw [hw0] at xb b0
  have h0 := h.bel b0
  have c0 := stC0 xb
  have c1 := stC1 xb
  have HX := Lib.hid xb
  have HB := Lib.hid b0
  have HS := Lib.hid h0
  have hm := rdGreat_any x.d S.1 w0 h0.now.1 hn
  simp only [dval] at hm
  have HM := Lib.hid hm
  have l1 := h0.now.2.len_le
  clear hm hn
  simp only [stC] at hw0
  clear h h0 xb b0
  go_enter Try.func12, Try.ntmps12
  go_wp2_with fail
  clear c0 c1
  refine HM.out.mono ?_
  rintro e w1 ⟨r, rfl, hs, b1⟩
  have c2 := stC2 (HX.out.below b1 HX.out.lt)
  have HB1 := Lib.hid (HB.out.trans (b1.mono HB.out.size))
  clear b1
  cases r with
  | true =>
    clear hs
    go_wp2_with fail
    go_ret
    exact ⟨true, rfl, fun h => (by cases h), HB1.out⟩
  | false =>
    have HSM := Lib.hid (hs rfl)
    clear hs
    by_cases h5 : (10000 : Int) < (S.2.1.length : Int)
    · go_wp2_with fail
      go_ret
      exact ⟨true, rfl, fun h => (by cases h), HB1.out⟩
    · have h6 : S.2.1.length ≤ 10000 := by omega
      have H6 := Lib.hid h6
      have h7 : (S.2.1.length : Int) ≤ 10000 := by omega
      clear h5 h6
      go_wp2_with fail
      go_ret
      exact ⟨false, by simp; omega, fun _ => ⟨HSM.out, H6.out⟩, HB1.out⟩
end Go.Proofs.Ytdpmdlibgabjaaa
/-
  dev.Same tells whether all fields of two disks are the same.
-/
namespace Go.Proofs.Ytdpmdlibgabjaaa
open Go.RowKit Go.Shelf
set_option maxRecDepth 100000

theorem ext_bls {a b : List (List UInt8)} (h : a.length = b.length) (he : ∀ i, i < a.length → a.getD i [] = b.getD i []) : a = b := by
  apply List.ext_getElem h
  intro i h1 h2
  have := he i h1
  simpa [List.getD_eq_getElem?_getD, h1, h2] using this
theorem ext_wts {a b : WrL} (h : a.length = b.length) (he : ∀ i, i < a.length → wr_ a i = wr_ b i) : a = b := by
  apply List.ext_getElem h
  intro i h1 h2
  have := he i h1
  unfold wr_ at this
  simpa [List.getD_eq_getElem?_getD, h1, h2] using this
/-- The first place where two rows part. -/
theorem part_at (n : Nat) (P : Nat → Prop) : ∃ j, j ≤ n ∧ (∀ i, i < j → P i) ∧ (j < n → ¬ P j) := by
  induction n with
  | zero => exact ⟨0, Nat.le_refl _, fun i h => absurd h (Nat.not_lt_zero _), fun h => absurd h (Nat.lt_irrefl _)⟩
  | succ n ih =>
    obtain ⟨j, h1, h2, h3⟩ := ih
    rcases Nat.lt_or_ge j n with h | h
    · exact ⟨j, by omega, h2, fun _ => h3 h⟩
    · obtain rfl : j = n := by omega
      by_cases hp : P j
      · refine ⟨j + 1, Nat.le_refl _, fun i hi => ?_, fun h => absurd h (Nat.lt_irrefl _)⟩
        rcases Nat.lt_or_ge i j with h4 | h4
        · exact h2 i h4
        · obtain rfl : i = j := by omega
          exact hp
      · exact ⟨j, by omega, h2, fun _ => hp⟩
end Go.Proofs.Ytdpmdlibgabjaaa
/-
  The document's own Same for layer 9.
-/
namespace Go.Proofs.Ytdpmdlibgabjaaa
open Go.RowKit Go.Shelf
set_option maxRecDepth 100000

theorem str_same (s t : List UInt8) : ((strOf s).toList == (strOf t).toList) = decide (s = t) := by
  rw [strOf_toList, strOf_toList]
  by_cases h : s = t <;> simp [h]
theorem same_iff {D E : DkL} {o1 o2 : Nat} (h1 : OddN o1 D.1.length (fun i => D.1.getD i [] = E.1.getD i [])) (h2 : OddN o2 D.2.length (fun i => wr_ D.2 i = wr_ E.2 i)) (e1 : D.1.length = E.1.length) (e2 : D.2.length = E.2.length) : o1 + o2 = 0 ↔ D = E := by
  constructor
  · intro h
    exact Prod.ext (ext_bls e1 (h1.2.1 (by omega))) (ext_wts e2 (h2.2.1 (by omega)))
  · intro h
    subst h
    have a1 := h1.2.2 fun _ _ => rfl
    have a2 := h2.2.2 fun _ _ => rfl
    omega
end Go.Proofs.Ytdpmdlibgabjaaa
/-
  The document's own functions of layer 13: New, Twin, Same.
-/
namespace Go.Proofs.Ytdpmdlibgabjaaa
open Go.RowKit Go.Shelf
set_option maxRecDepth 100000

/-- The cells of a store that is none. -/
abbrev stZ : Array Value := #[.slice none 0 0, .slice none 0 0, .slice none 0 0, .int .u32 0, .int .u32 0]
/-- The cells of a pointer that is none. -/
abbrev ptZ : Array Value := #[.int .i64 0, .int .u32 0, .int .u32 0, .int .u32 0, .int .u32 0]
theorem two_al (w : World) (a b : Array Value) (s t : TypeId) : ∃ w0, (w.alloc (.cells a s)).alloc (.cells b t) = w0 ∧ Below w.heap.size w w0 ∧ w0.heap.size = w.heap.size + 2 ∧ Blk w0 w.heap.size s a ∧ Blk w0 (w.heap.size + 1) t b := by
  refine ⟨_, rfl, ((Below.refl _ w).alloc (Nat.le_refl _) _).alloc (by simp) _, by simp, (Blk.new w s a).alloc _, ?_⟩
  have h := Blk.new (w.alloc (.cells a s)) t b
  rw [World.size_alloc] at h
  exact h
theorem three_al (w : World) (a b c : Array Value) (s t u : TypeId) : ∃ w0, ((w.alloc (.cells a s)).alloc (.cells b t)).alloc (.cells c u) = w0 ∧ Below w.heap.size w w0 ∧ w0.heap.size = w.heap.size + 3 ∧ Blk w0 w.heap.size s a ∧ Blk w0 (w.heap.size + 1) t b ∧ Blk w0 (w.heap.size + 2) u c := by
  obtain ⟨w1, h1, b1, z1, x1, y1⟩ := two_al w a b s t
  rw [h1]
  have h := Blk.new w1 u c
  rw [z1] at h
  exact ⟨_, rfl, b1.trans (((Below.refl _ w1).alloc (Nat.le_refl _) _).mono b1.size), by simp [z1], x1.alloc _, y1.alloc _, h⟩
section
variable {w : World} {g : Nat} {t : TypeId}
theorem stZ0 (h : Blk w g t stZ) : w.cell? ⟨g, 0, none⟩ = some (.slice none 0 0) := h.cell 0
theorem stZ1 (h : Blk w g t stZ) : w.cell? ⟨g, 1, none⟩ = some (.slice none 0 0) := h.cell 1
theorem stZ2 (h : Blk w g t stZ) : w.cell? ⟨g, 2, none⟩ = some (.slice none 0 0) := h.cell 2
theorem stZ3 (h : Blk w g t stZ) : w.cell? ⟨g, 3, none⟩ = some (.int .u32 0) := h.cell 3
theorem stZ4 (h : Blk w g t stZ) : w.cell? ⟨g, 4, none⟩ = some (.int .u32 0) := h.cell 4
theorem ptZ0 (h : Blk w g t ptZ) : w.cell? ⟨g, 0, none⟩ = some (.int .i64 0) := h.cell 0
theorem ptZ1 (h : Blk w g t ptZ) : w.cell? ⟨g, 1, none⟩ = some (.int .u32 0) := h.cell 1
theorem ptZ2 (h : Blk w g t ptZ) : w.cell? ⟨g, 2, none⟩ = some (.int .u32 0) := h.cell 2
theorem ptZ3 (h : Blk w g t ptZ) : w.cell? ⟨g, 3, none⟩ = some (.int .u32 0) := h.cell 3
theorem ptZ4 (h : Blk w g t ptZ) : w.cell? ⟨g, 4, none⟩ = some (.int .u32 0) := h.cell 4
end
theorem newI_keeps {L hb k : Nat} {Z : List UInt8} {w w' : World} (h : NewI hb Z k w) (hk : Keeps L w w') : NewI hb Z k w' := by
  obtain ⟨cb, h1, h2, h3⟩ := h
  refine ⟨cb, hk.row _ _ _ h1 (by decide), h2, fun i hi => ?_⟩
  obtain ⟨g, h4, h5⟩ := h3 i hi
  exact ⟨g, h4, hk.row _ _ _ h5 (by decide)⟩
theorem newI_lasts {L hb : Nat} {w : World} (h : NewI hb (List.replicate 256 0) 256 w) : Lasts L w fun W => Dsk W W.heap.size ⟨some ⟨hb, 0, none⟩, 256, none, 0⟩ newD := fun _ k => (newI_keeps h k).dsk rfl
theorem newD_lens : newD.1.length = 256 ∧ newD.2.length = 0 := ⟨newD_len, rfl⟩
/-- Cells of a box are written: it stays a box, and what lasts lasts. -/
theorem box_two {L B g : Nat} {a w : World} {t : TypeId} {c0 c1 c2 c3 c4 : Value} (h : Blk w g t #[c0, c1, c2, c3, c4]) (ht : rowT t = false) (hL : L ≤ g) (hB : Below B a w) (hg : B ≤ g) (u v : Value) :
    Blk ((w.setCell ⟨g, 0, none⟩ u).setCell ⟨g, 1, none⟩ v) g t #[u, v, c2, c3, c4] ∧ Keeps L w ((w.setCell ⟨g, 0, none⟩ u).setCell ⟨g, 1, none⟩ v) ∧ Below B a ((w.setCell ⟨g, 0, none⟩ u).setCell ⟨g, 1, none⟩ v) :=
  ⟨(h.set_ 0 u).set_ 1 v, Keeps.of_box (only_two w g u v) h ht hL, (hB.setCell (p := ⟨g, 0, none⟩) hg u).setCell (p := ⟨g, 1, none⟩) hg v⟩
theorem box_at {L B g : Nat} {a w : World} {t : TypeId} {cs : Array Value} (h : Blk w g t cs) (ht : rowT t = false) (hL : L ≤ g) (hB : Below B a w) (hg : B ≤ g) (i : Nat) (u : Value) :
    Blk (w.setCell ⟨g, i, none⟩ u) g t (cs.setIfInBounds i u) ∧ Keeps L w (w.setCell ⟨g, i, none⟩ u) ∧ Below B a (w.setCell ⟨g, i, none⟩ u) :=
  ⟨h.set_ i u, Keeps.of_box (only_setCell (World.grownBy.refl w (some g)) (.inl rfl) u) h ht hL, hB.setCell (p := ⟨g, i, none⟩) hg u⟩
theorem box_five {L B g : Nat} {a w : World} {t : TypeId} {c0 c1 c2 c3 c4 : Value} (h : Blk w g t #[c0, c1, c2, c3, c4]) (ht : rowT t = false) (hL : L ≤ g) (hB : Below B a w) (hg : B ≤ g) (v0 v1 v2 v3 v4 : Value) :
    Blk (set5 w g v0 v1 v2 v3 v4) g t #[v0, v1, v2, v3, v4] ∧ Keeps L w (set5 w g v0 v1 v2 v3 v4) ∧ Below B a (set5 w g v0 v1 v2 v3 v4) :=
  ⟨h.set5 v0 v1 v2 v3 v4, Keeps.of_box (only_set5 (World.grownBy.refl w (some g)) v0 v1 v2 v3 v4) h ht hL, below_set5 hB hg v0 v1 v2 v3 v4⟩
section
variable {w : World} {g : Nat} {t : TypeId} {c0 c1 c2 c3 c4 : Value}
theorem bx0 (h : Blk w g t #[c0, c1, c2, c3, c4]) : w.cell? ⟨g, 0, none⟩ = some c0 := h.cell 0
theorem bx1 (h : Blk w g t #[c0, c1, c2, c3, c4]) : w.cell? ⟨g, 1, none⟩ = some c1 := h.cell 1
theorem bx2 (h : Blk w g t #[c0, c1, c2, c3, c4]) : w.cell? ⟨g, 2, none⟩ = some c2 := h.cell 2
theorem bx3 (h : Blk w g t #[c0, c1, c2, c3, c4]) : w.cell? ⟨g, 3, none⟩ = some c3 := h.cell 3
theorem bx4 (h : Blk w g t #[c0, c1, c2, c3, c4]) : w.cell? ⟨g, 4, none⟩ = some c4 := h.cell 4
end
end Go.Proofs.Ytdpmdlibgabjaaa
/-
  Stores of one's own whose bytes are turned: what is written, and what goes on; law 13's spoil.
-/
namespace Go.Proofs.Ytdpmdlibgabjaaa
open Go.RowKit Go.Shelf
set_option maxRecDepth 100000

/-- Bytes of blocks from B on are turned, and nothing else. -/
structure Spoils (B : Nat) (w w' : World) : Prop where
  below : Below B w w'
  box : ∀ b t cs, Blk w b t cs → t ≠ 5 → Blk w' b t cs
  row : ∀ b cs, Blk w b 5 cs → ∃ cs', Blk w' b 5 cs' ∧ ∀ (j : Nat) (z : Int), cs[j]? = some (Value.int .u8 z) → ∃ z', cs'[j]? = some (Value.int .u8 z')
theorem Spoils.refl (B : Nat) (w : World) : Spoils B w w := ⟨Below.refl _ _, fun _ _ _ h _ => h, fun _ cs h => ⟨cs, h, fun _ z hz => ⟨z, hz⟩⟩⟩
theorem Spoils.trans {B : Nat} {a b c : World} (h : Spoils B a b) (k : Spoils B b c) : Spoils B a c :=
  ⟨h.below.trans k.below, fun i t cs hi ht => k.box i t cs (h.box i t cs hi ht) ht, fun i cs hi => by
    obtain ⟨cs1, h1, h2⟩ := h.row i cs hi
    obtain ⟨cs2, h3, h4⟩ := k.row i cs1 h1
    exact ⟨cs2, h3, fun j z hz => by obtain ⟨z1, hz1⟩ := h2 j z hz; exact h4 j z1 hz1⟩⟩
theorem Spoils.of_below {B : Nat} {w w' : World} (h : Below w.heap.size w w') (hB : B ≤ w.heap.size) : Spoils B w w' :=
  ⟨h.mono hB, fun _ _ _ hb _ => hb.below h hb.lt, fun _ cs hb => ⟨cs, hb.below h hb.lt, fun _ z hz => ⟨z, hz⟩⟩⟩
theorem Spoils.less {B B' : Nat} {w w' : World} (h : Spoils B w w') (hB : B' ≤ B) : Spoils B' w w' := ⟨h.below.mono hB, h.box, h.row⟩
theorem Spoils.byte {B b : Nat} {w : World} {cs : Array Value} (h : Blk w b 5 cs) (hB : B ≤ b) (i : Nat) (z : Int) : Spoils B w (w.setCell ⟨b, i, none⟩ (.int .u8 z)) :=
  ⟨(Below.refl B w).setCell (p := ⟨b, i, none⟩) hB _, fun k t cs' hk ht => hk.far (p := ⟨b, i, none⟩) (fun e => (hk.ne h ht) e) _, fun k cs' hk => by
    by_cases e : k = b
    · subst e
      refine ⟨_, hk.set_ i _, fun j z' hz => ?_⟩
      rw [Array.getElem?_setIfInBounds]
      split
      · rename_i e
        subst e
        have hlt : i < cs'.size := by
          rcases Nat.lt_or_ge i cs'.size with h1 | h1
          · exact h1
          · rw [Array.getElem?_eq_none h1] at hz; cases hz
        rw [if_pos hlt]
        exact ⟨z, rfl⟩
      · exact ⟨z', hz⟩
    · exact ⟨cs', hk.far (p := ⟨b, i, none⟩) e _, fun j z' hz => ⟨z', hz⟩⟩⟩
/-- Bytes of one's own. -/
def Piece (w : World) (B : Nat) (A : Option Addr) (l : Nat) : Prop := l = 0 ∨ ∃ b off cs, A = some ⟨b, off, none⟩ ∧ B ≤ b ∧ Blk w b 5 cs ∧ ∀ j, j < l → ∃ z, cs[off + j]? = some (.int .u8 z)
theorem Piece.spoils {w w' : World} {B B' : Nat} {A : Option Addr} {l : Nat} (h : Piece w B A l) (k : Spoils B' w w') : Piece w' B A l := by
  rcases h with h | ⟨b, off, cs, e, hB, hb, hc⟩
  · exact .inl h
  · obtain ⟨cs', h1, h2⟩ := k.row b cs hb
    exact .inr ⟨b, off, cs', e, hB, h1, fun j hj => by obtain ⟨z, hz⟩ := hc j hj; exact h2 _ z hz⟩
theorem Piece.at_ {w : World} {B : Nat} {A : Option Addr} {l : Nat} (h : Piece w B A l) {j : Nat} (hj : j < l) : ∃ b off cs z, A = some ⟨b, off, none⟩ ∧ B ≤ b ∧ Blk w b 5 cs ∧ w.cell? ⟨b, off + j, none⟩ = some (.int .u8 z) := by
  rcases h with h | ⟨b, off, cs, e, hB, hb, hc⟩
  · omega
  · obtain ⟨z, hz⟩ := hc j hj
    exact ⟨b, off, cs, z, e, hB, hb, by rw [hb.cell]; exact hz⟩
/-- A row of slices of bytes of one's own: the row is in a block of its own, and so are all the bytes; st: how far a slice lies from the next one, at: where in it. -/
def Rows9 (w : World) (B : Nat) (a : Option Addr) (n : Nat) (t : TypeId) (st at_ : Nat) (L : Nat → Nat) : Prop :=
  n = 0 ∨ ∃ b off cs, a = some ⟨b, off, none⟩ ∧ Blk w b t cs ∧ ∀ i, i < n → ∃ A c, cs[off + i * st + at_]? = some (.slice A (L i) c) ∧ Piece w B A (L i)
theorem Rows9.spoils {w w' : World} {B B' : Nat} {a : Option Addr} {n : Nat} {t : TypeId} {st at_ : Nat} {L : Nat → Nat} (h : Rows9 w B a n t st at_ L) (ht : t ≠ 5) (k : Spoils B' w w') : Rows9 w' B a n t st at_ L := by
  rcases h with h | ⟨b, off, cs, e, hb, hc⟩
  · exact .inl h
  · exact .inr ⟨b, off, cs, e, k.box b t cs hb ht, fun i hi => by
      obtain ⟨A, c, h1, h2⟩ := hc i hi
      exact ⟨A, c, h1, h2.spoils k⟩⟩
theorem Rows9.at_ {w : World} {B : Nat} {a : Option Addr} {n : Nat} {t : TypeId} {st q : Nat} {L : Nat → Nat} (h : Rows9 w B a n t st q L) {i : Nat} (hi : i < n) : ∃ b off A c, a = some ⟨b, off, none⟩ ∧ w.cell? ⟨b, off + i * st + q, none⟩ = some (.slice A (L i) c) ∧ Piece w B A (L i) := by
  rcases h with h | ⟨b, off, cs, e, hb, hc⟩
  · omega
  · obtain ⟨A, c, h1, h2⟩ := hc i hi
    exact ⟨b, off, A, c, e, by rw [hb.cell]; exact h1, h2⟩
/-- A store of one's own: all its bytes lie from block B on. -/
def HiS (w : World) (B : Nat) (x : SAt) (S : StL) : Prop :=
  Rows9 w B x.d.ba S.1.1.length 23 1 0 (fun i => (S.1.1.getD i []).length) ∧ Rows9 w B x.d.wa S.1.2.length 87 2 1 (fun i => (wr_ S.1.2 i).2.length) ∧ Piece w B x.a S.2.1.length
theorem HiS.spoils {w w' : World} {B B' : Nat} {x : SAt} {S : StL} (h : HiS w B x S) (k : Spoils B' w w') : HiS w' B x S := ⟨h.1.spoils (by decide) k, h.2.1.spoils (by decide) k, h.2.2.spoils k⟩
end Go.Proofs.Ytdpmdlibgabjaaa
/-
  Disks that are laid in one new piece, and rows of one's own, are one's own: all their bytes may be turned.
-/
namespace Go.Proofs.Ytdpmdlibgabjaaa
open Go.RowKit Go.Shelf
set_option maxRecDepth 100000

theorem piece_own {w : World} {B n c : Nat} {a : Option Addr} {s : List UInt8} (h : w.ownsRow B 5 1 (.slice a n c) n (vals s)) : Piece w B a n := by
  rcases Nat.eq_zero_or_pos n with h0 | h0
  · exact .inl h0
  · obtain ⟨g, c', e⟩ := own_at h h0
    cases e
    obtain ⟨cs, hcs⟩ := own_blk h
    refine .inr ⟨g, 0, cs, rfl, (own_lt h).1, hcs, fun j hj => ⟨(mkT s j : Nat), ?_⟩⟩
    rw [Nat.zero_add, ← hcs.cell]
    exact own_mk h j hj
theorem laid_hi {w : World} {lo : Nat} {x : DAt} {D : DkL} (h : Laid w lo x D) :
    Rows9 w lo x.ba D.1.length 23 1 0 (fun i => (D.1.getD i []).length) ∧ Rows9 w lo x.wa D.2.length 87 2 1 (fun i => (wr_ D.2 i).2.length) := by
  obtain ⟨g, hb, hw, rfl, k1, k2, k3, h1, h2, h3, h4, h5, ⟨cb, h6, h7, h8⟩, cw, h9, h10, h11⟩ := h
  have hst : startP (pieces D) (D.1.length + D.2.length) = sumD D := startP_sumD D
  have hpc : ∀ i v, i < D.1.length + D.2.length → PieceV g (pieces D) i v → ∃ A c, v = .slice A ((pieces D).getD i []).length c ∧ Piece w lo A ((pieces D).getD i []).length := by
    rintro i v hi ⟨o, e, ho⟩
    refine ⟨_, _, e, ?_⟩
    rcases Nat.eq_zero_or_pos ((pieces D).getD i []).length with h0 | h0
    · exact .inl h0
    · have hs := startP_succ (P := pieces D) (k := i) (by rw [pieces_length]; exact hi)
      have hm := startP_mono (P := pieces D) (show i + 1 ≤ D.1.length + D.2.length by omega)
      have ho' := ho h0
      refine .inr ⟨g, o, _, rfl, k1, h5, fun j hj => ?_⟩
      have hlt : o + j < (roomP (pieces D) (sumD D) (D.1.length + D.2.length)).length := by
        rw [roomP_length (by rw [hst]; exact Nat.le_refl _)]
        omega
      exact ⟨_, ar_get _ _ hlt⟩
  refine ⟨.inr ⟨hb, 0, cb, rfl, h6, fun i hi => ?_⟩, .inr ⟨hw, 0, cw, rfl, h9, fun i hi => ?_⟩⟩
  · obtain ⟨v, e1, e2⟩ := h8 i hi
    obtain ⟨A, c, rfl, hp⟩ := hpc i v (by omega) e2
    rw [pieces_left hi] at e1 hp
    exact ⟨A, c, by simpa using e1, hp⟩
  · obtain ⟨_, v, e1, e2⟩ := h11 i hi
    obtain ⟨A, c, rfl, hp⟩ := hpc (D.1.length + i) v (by omega) e2
    rw [pieces_right hi] at e1 hp
    exact ⟨A, c, by simpa using e1, hp⟩
theorem outD_hi {w : World} {lo : Nat} {x : DAt} {D : DkL} (h : OutD w lo x D) :
    Rows9 w lo x.ba D.1.length 23 1 0 (fun i => (D.1.getD i []).length) ∧ Rows9 w lo x.wa D.2.length 87 2 1 (fun i => (wr_ D.2 i).2.length) := by
  rcases h with ⟨rfl, rfl⟩ | h
  · exact ⟨.inl rfl, .inl rfl⟩
  · exact laid_hi h
end Go.Proofs.Ytdpmdlibgabjaaa
/-
  What the program's own calls on stores answer: a store of one's own (all its bytes in new blocks), which lasts; with a pointer, with an error's number.
-/
namespace Go.Proofs.Ytdpmdlibgabjaaa
open Go.RowKit Go.Shelf
set_option maxRecDepth 100000

/-- What is asked of a store that the program is handed: it is not great. -/
def OkS (S : StL) : Prop := Fits S.1 ∧ S.2.1.length ≤ 20000 ∧ WfS S
theorem MayS.ok {S : StL} (h : MayS S) : OkS S := ⟨may_fits h.1, by rw [h.2.1.1]; omega, by have := h.2.2.1.2; omega, by have := h.2.2.2; omega⟩
/-- A store of one's own. -/
def NewS (S : StL) (w : World) (e : Ending) (w' : World) : Prop := ∃ y, e = .returned (stV y S) ∧ StP 0 w' y S ∧ HiS w' w.heap.size y S ∧ Below w.heap.size w w'
/-- A store of one's own, an error's number. -/
def NewSE (o : StL × Nat) (w : World) (e : Ending) (w' : World) : Prop := ∃ y, e = .returned (.tuple #[stV y o.1, .int .i64 o.2]) ∧ StP 0 w' y o.1 ∧ HiS w' w.heap.size y o.1 ∧ Below w.heap.size w w'
/-- A store of one's own, a pointer, an error's number. -/
def NewSP (o : StL × Pt × Nat) (w : World) (e : Ending) (w' : World) : Prop := ∃ y, e = .returned (.tuple #[stV y o.1, ptV o.2.1, .int .i64 o.2.2]) ∧ StP 0 w' y o.1 ∧ HiS w' w.heap.size y o.1 ∧ Below w.heap.size w w'
theorem StP.any {L : Nat} {w : World} {x : SAt} {S : StL} (h : StP 0 w x S) : StP L w x S := h.less (Nat.zero_le _)
/-- The new store. -/
abbrev newS : StL := (newD, newTo 12, 1, 0)
theorem newS_may : MayS newS := ⟨newD_may, new_may, ⟨Nat.le_refl _, by show 1 ≤ 65535; omega⟩, Nat.zero_le _⟩
theorem newS_free : ∃ r, freeTo newS.2.1 256 = 12 :: r := freeTo_head (by omega) (by show mkT (newTo 12) 12 = 0; rw [newTo_mk 12 (by omega)]; rfl) fun i hi => by
  show mkT (newTo 12) i ≠ 0
  rw [newTo_mk i (by omega), if_pos hi]
  omega
theorem laid_keeps {L lo : Nat} {w w' : World} {x : DAt} {D : DkL} (h : Laid w lo x D) (k : Keeps L w w') : Laid w' lo x D := by
  obtain ⟨g, hb, hw, rfl, h0, h1, h2, h3, h4, h5, h6, h7, ⟨cb, h8, h9, h10⟩, cw, h11, h12, h13⟩ := h
  exact ⟨g, hb, hw, rfl, h0, h1, h2, h3, h4, h5, h6, k.row _ _ _ h7 (by decide), ⟨cb, k.row _ _ _ h8 (by decide), h9, h10⟩, cw, k.row _ _ _ h11 (by decide), h12, h13⟩
theorem outD_keeps {L lo : Nat} {w w' : World} {x : DAt} {D : DkL} (h : OutD w lo x D) (k : Keeps L w w') : OutD w' lo x D := h.imp id fun h => laid_keeps h k
theorem outD_lasts {lo : Nat} {w : World} {x : DAt} {D : DkL} (h : OutD w lo x D) (L : Nat) : Lasts L w fun W => Dsk W W.heap.size x D := fun _ k => (outD_keeps h k).dsk
end Go.Proofs.Ytdpmdlibgabjaaa
/-
  Store's own: isUpTo, isKey, mayBe, Check; nothing that was there is written.
-/
namespace Go.Proofs.Ytdpmdlibgabjaaa
open Go.RowKit Go.Shelf
set_option maxRecDepth 100000

theorem stUpTo_any (n : Nat) (m : Int) (r : Bool) (hr : r = true ↔ (1 ≤ n ∧ (n : Int) ≤ m)) (w : World) : Calls Try.prog 39 #[.int .u32 (n : Int), .int .u32 m] w fun e w' => e = .returned (.bool r) ∧ w = w' := by
  by_cases h : 1 ≤ n
  · have i1 : (1 : Int) ≤ (n : Int) := by omega
    by_cases h2 : (n : Int) ≤ m
    · obtain rfl : r = true := hr.2 ⟨h, h2⟩
      clear hr h
      go_enter Try.func39, Try.ntmps39
      go_wp2_with fail
      go_ret
      exact ⟨rfl, rfl⟩
    · obtain rfl : r = false := by cases r with | false => rfl | true => exact absurd (hr.1 rfl) (fun hh => h2 hh.2)
      clear hr h
      go_enter Try.func39, Try.ntmps39
      go_wp2_with fail
      go_ret
      exact ⟨rfl, rfl⟩
  · have i1 : ¬ (1 : Int) ≤ (n : Int) := by omega
    obtain rfl : r = false := by cases r with | false => rfl | true => exact absurd (hr.1 rfl) (fun hh => h hh.1)
    clear hr h
    go_enter Try.func39, Try.ntmps39
    go_wp2_with fail
    go_ret
    exact ⟨rfl, rfl⟩
theorem stIsKey_any (a : Option Addr) (n c : Nat) (w : World) : Calls Try.prog 37 #[.slice a n c] w fun e w' => e = .returned (.bool (decide (n = 16))) ∧ w = w' := by
  by_cases h : n = 16
  · rw [decide_eq_true h]
    subst h
    go_enter Try.func37, Try.ntmps37
    go_wp2_with fail
    go_ret
    exact ⟨rfl, rfl⟩
  · rw [decide_eq_false h]
    have e1 : ((n : Int) == 16) = false := by simp; omega
    clear h
    go_enter Try.func37, Try.ntmps37
    go_wp2_with fail
    go_ret
    exact ⟨rfl, rfl⟩
set_option maxHeartbeats 2000000 in
theorem stMayBe_any (L : Nat) (x : SAt) (S : StL) (w : World) (h : StP L w x S) (R : Bool) (hR : R = true ↔ MayS S) : Calls Try.prog 34 #[stV x S] w fun e w' => e = .returned (.bool R) ∧ Below w.heap.size w w' := by
  obtain ⟨xb, b0⟩ := st_box w x S
  obtain ⟨w0, hw0⟩ : ∃ w0, w.alloc (.cells (stC x S) 30) = w0 := ⟨_, rfl⟩
  rw [hw0] at xb b0
  have h0 := h.bel b0
  have c0 := stC0 xb
  have c1 := stC1 xb
  have HX := Lib.hid xb
  have HB := Lib.hid b0
  have HS := Lib.hid h0
  have hm := dCheck_any x.d S.1 w0 h0.now.1
  simp only [dval] at hm
  simp only [stC] at hw0
  clear h h0 xb b0
  have n3 : (0 : Int) ≤ (S.2.2.2 : Int) := by omega
  have n4 : (0 : Int) ≤ (S.2.2.1 : Int) := by omega
  by_cases hd : MayD S.1
  · rw [show checkO S.1 = 0 by unfold checkO; rw [if_pos hd]] at hm
    have HM2 := Lib.hid hm
    clear hm
    by_cases ht : MayT S.2.1
    · by_cases e1 : 1 ≤ S.2.2.1 ∧ S.2.2.1 ≤ 65535
      · have HU := Lib.hid (fun W => stUpTo_any S.2.2.1 65535 true ⟨fun _ => ⟨e1.1, by omega⟩, fun _ => rfl⟩ W)
        by_cases e3 : S.2.2.2 ≤ 65535
        · have n2 : (S.2.2.2 : Int) ≤ 65535 := by omega
          obtain rfl : R = true := hR.2 ⟨hd, ht, e1, e3⟩
          clear hR e1 e3 hd
          go_enter Try.func34, Try.ntmps34
          go_wp2_with fail
          clear c0 c1
          refine HM2.out.mono ?_
          rintro e w1 ⟨rfl, b1⟩
          have x1 := HX.out.below b1 HX.out.lt
          have c2 := stC2 x1
          have c3 := stC3 x1
          have c4 := stC4 x1
          have HC := Lib.hid (spCheck_yes x.a S.2.1.length x.c _ S.2.1 w1 (HS.out.bel b1).now.2 ht)
          have HB1 := Lib.hid (HB.out.trans (b1.mono HB.out.size))
          clear b1 x1 ht
          go_wp2_with fail
          refine HC.out.mono ?_
          rintro e w2 ⟨rfl, rfl⟩
          go_wp2_with fail
          refine (HU.out w1).mono ?_
          rintro e w2 ⟨rfl, rfl⟩
          go_wp2_with fail
          go_ret
          exact ⟨rfl, HB1.out⟩
        · have n2 : ¬ (S.2.2.2 : Int) ≤ 65535 := by omega
          obtain rfl : R = false := by cases R with | false => rfl | true => exact absurd (hR.1 rfl) (fun hh => e3 hh.2.2.2)
          clear hR e1 e3 hd
          go_enter Try.func34, Try.ntmps34
          go_wp2_with fail
          clear c0 c1
          refine HM2.out.mono ?_
          rintro e w1 ⟨rfl, b1⟩
          have x1 := HX.out.below b1 HX.out.lt
          have c2 := stC2 x1
          have c3 := stC3 x1
          have c4 := stC4 x1
          have HC := Lib.hid (spCheck_yes x.a S.2.1.length x.c _ S.2.1 w1 (HS.out.bel b1).now.2 ht)
          have HB1 := Lib.hid (HB.out.trans (b1.mono HB.out.size))
          clear b1 x1 ht
          go_wp2_with fail
          refine HC.out.mono ?_
          rintro e w2 ⟨rfl, rfl⟩
          go_wp2_with fail
          refine (HU.out w1).mono ?_
          rintro e w2 ⟨rfl, rfl⟩
          go_wp2_with fail
          go_ret
          exact ⟨by simp; omega, HB1.out⟩
      · have HU := Lib.hid (fun W => stUpTo_any S.2.2.1 65535 false ⟨fun h => (by cases h), fun h => absurd (show 1 ≤ S.2.2.1 ∧ S.2.2.1 ≤ 65535 by omega) e1⟩ W)
        obtain rfl : R = false := by cases R with | false => rfl | true => exact absurd (hR.1 rfl) (fun hh => e1 hh.2.2.1)
        clear hR e1 hd
        go_enter Try.func34, Try.ntmps34
        go_wp2_with fail
        clear c0 c1
        refine HM2.out.mono ?_
        rintro e w1 ⟨rfl, b1⟩
        have x1 := HX.out.below b1 HX.out.lt
        have c2 := stC2 x1
        have c3 := stC3 x1
        have c4 := stC4 x1
        have HC := Lib.hid (spCheck_yes x.a S.2.1.length x.c _ S.2.1 w1 (HS.out.bel b1).now.2 ht)
        have HB1 := Lib.hid (HB.out.trans (b1.mono HB.out.size))
        clear b1 x1 ht
        go_wp2_with fail
        refine HC.out.mono ?_
        rintro e w2 ⟨rfl, rfl⟩
        go_wp2_with fail
        refine (HU.out w1).mono ?_
        rintro e w2 ⟨rfl, rfl⟩
        go_wp2_with fail
        go_ret
        exact ⟨rfl, HB1.out⟩
    · obtain rfl : R = false := by cases R with | false => rfl | true => exact absurd (hR.1 rfl) (fun hh => ht hh.2.1)
      clear hR hd
      go_enter Try.func34, Try.ntmps34
      go_wp2_with fail
      clear c0 c1
      refine HM2.out.mono ?_
      rintro e w1 ⟨rfl, b1⟩
      have x1 := HX.out.below b1 HX.out.lt
      have c2 := stC2 x1
      have c3 := stC3 x1
      have c4 := stC4 x1
      have HC := Lib.hid (spCheck_no x.a S.2.1.length x.c _ S.2.1 w1 (HS.out.bel b1).now.2 ht)
      have HB1 := Lib.hid (HB.out.trans (b1.mono HB.out.size))
      clear b1 x1 ht
      go_wp2_with fail
      refine HC.out.mono ?_
      rintro e w2 ⟨rfl, rfl⟩
      go_wp2_with fail
      go_ret
      exact ⟨rfl, HB1.out⟩
  · rw [show checkO S.1 = 8 by unfold checkO; rw [if_neg hd]] at hm
    have HM2 := Lib.hid hm
    clear hm
    obtain rfl : R = false := by cases R with | false => rfl | true => exact absurd (hR.1 rfl) (fun hh => hd hh.1)
    clear hR hd
    go_enter Try.func34, Try.ntmps34
    go_wp2_with fail
    clear c0 c1
    refine HM2.out.mono ?_
    rintro e w1 ⟨rfl, b1⟩
    have HB1 := Lib.hid (HB.out.trans (b1.mono HB.out.size))
    clear b1
    go_wp2_with fail
    go_ret
    exact ⟨rfl, HB1.out⟩
theorem stCheck_any (L : Nat) (x : SAt) (S : StL) (w : World) (h : StP L w x S) (_ho : OkS S) (_hL : L ≤ w.heap.size) (c : Nat) (hc : (MayS S → c = 0) ∧ (¬ MayS S → c = 8)) : Calls Try.prog 16 #[stV x S] w fun e w' => e = .returned (.int .i64 c) ∧ Below w.heap.size w w' := by
  obtain ⟨xb, b0⟩ := st_box w x S
  obtain ⟨w0, hw0⟩ : ∃ w0, w.alloc (.cells (stC x S) 30) = w0 := ⟨_, rfl⟩
  rw [hw0] at xb b0
  have c0 := stC0 xb
  have c1 := stC1 xb
  have c2 := stC2 xb
  have c3 := stC3 xb
  have c4 := stC4 xb
  have HB := Lib.hid b0
  have HMY := fun R hR => stMayBe_any L x S w0 (h.bel b0) R hR
  simp only [stC] at hw0
  clear h xb b0
  by_cases hm : MayS S
  · obtain rfl : c = 0 := hc.1 hm
    have HM := Lib.hid (HMY true ⟨fun _ => hm, fun _ => rfl⟩)
    clear HMY hc hm
    go_enter Try.func16, Try.ntmps16
    go_wp2_with fail
    refine HM.out.mono ?_
    rintro e w1 ⟨rfl, b1⟩
    have HB1 := Lib.hid (HB.out.trans (b1.mono HB.out.size))
    clear b1 c0 c1 c2 c3 c4
    go_wp2_with fail
    go_ret
    exact ⟨rfl, HB1.out⟩
  · obtain rfl : c = 8 := hc.2 hm
    have HM := Lib.hid (HMY false ⟨fun h => (by cases h), fun h => absurd h hm⟩)
    clear HMY hc hm
    go_enter Try.func16, Try.ntmps16
    go_wp2_with fail
    refine HM.out.mono ?_
    rintro e w1 ⟨rfl, b1⟩
    have HB1 := Lib.hid (HB.out.trans (b1.mono HB.out.size))
    clear b1 c0 c1 c2 c3 c4
    go_wp2_with fail
    go_ret
    exact ⟨rfl, HB1.out⟩
end Go.Proofs.Ytdpmdlibgabjaaa
/-
  ptr.mayBe, ptr.put and ptr.get, whatever pointer and whichever sixteen bytes they are handed; nothing that was there is written.
-/
namespace Go.Proofs.Ytdpmdlibgabjaaa
open Go.RowKit Go.Shelf
set_option maxRecDepth 100000

/-- The sizes lie where the program's initialiser laid them. -/
def Szs (w : World) : Prop := 0 < w.heap.size ∧ w.cell? ⟨0, 0, none⟩ = some (.int .i64 1) ∧ w.cell? ⟨0, 1, none⟩ = some (.int .i64 3) ∧ w.cell? ⟨0, 2, none⟩ = some (.int .i64 4) ∧ w.cell? ⟨0, 3, none⟩ = some (.int .i64 4) ∧ w.cell? ⟨0, 4, none⟩ = some (.int .i64 4)
theorem Szs.below {B : Nat} {w w' : World} (h : Szs w) (hb : Below B w w') (hB : 0 < B) : Szs w' := by
  obtain ⟨h0, h1, h2, h3, h4, h5⟩ := h
  exact ⟨Nat.lt_of_lt_of_le h0 hb.size, (hb.cell (p := ⟨0, 0, none⟩) hB).trans h1, (hb.cell (p := ⟨0, 1, none⟩) hB).trans h2, (hb.cell (p := ⟨0, 2, none⟩) hB).trans h3, (hb.cell (p := ⟨0, 3, none⟩) hB).trans h4, (hb.cell (p := ⟨0, 4, none⟩) hB).trans h5⟩
theorem Szs.step {w w' : World} (h : Szs w) (hb : Below w.heap.size w w') : Szs w' := h.below hb h.1

/-- A pointer's bytes. -/
def bytesP (p : Pt) : List UInt8 := leB 1 p.1.toNat ++ leB 3 p.2.1 ++ leB 4 p.2.2.1 ++ leB 4 p.2.2.2.1 ++ leB 4 p.2.2.2.2
theorem bytesP_length (p : Pt) : (bytesP p).length = 16 := by simp [bytesP, leB_length]
/-- The pointer whose bytes these are. -/
def getP (s : List UInt8) : Pt := (((leN ((s.drop 0).take 1) : Nat) : Int), leN ((s.drop 1).take 3), leN ((s.drop 4).take 4), leN ((s.drop 8).take 4), leN ((s.drop 12).take 4))
theorem leN_le (s : List UInt8) (i k : Nat) : leN ((s.drop i).take k) < 256 ^ k :=
  Nat.lt_of_lt_of_le (leN_lt _) (Nat.pow_le_pow_right (by omega) (by simp; omega))
theorem wf_getP (s : List UInt8) : WfP (getP s) := by
  have h0 := leN_le s 0 1
  have h1 := leN_le s 1 3
  have h2 := leN_le s 4 4
  have h3 := leN_le s 8 4
  have h4 := leN_le s 12 4
  refine ⟨⟨?_, ?_⟩, ?_, ?_, ?_, ?_⟩ <;> simp only [getP] <;> omega
/-- A pointer that may be has numbers that have room. -/
theorem MayP.room {p : Pt} (h : MayP p) : (0 ≤ p.1 ∧ p.1 < 256) ∧ p.2.1 < 16777216 := by
  rcases h with rfl | ⟨⟨h1, h2⟩, h3, h4⟩
  · decide
  · omega
theorem getP_bytesP {p : Pt} (h : MayP p) (hw : WfP p) : getP (bytesP p) = p := by
  obtain ⟨⟨h1, h2⟩, h3⟩ := h.room
  obtain ⟨_, _, h4, h5, h6⟩ := hw
  obtain ⟨a, b, c, d, e⟩ := p
  dsimp only at h1 h2 h3 h4 h5 h6
  have e0 : ((bytesP (a, b, c, d, e)).drop 0).take 1 = leB 1 a.toNat := by simp [bytesP, leB_length]
  have l1 := leB_length 1 a.toNat
  have l2 := leB_length 3 b
  have l3 := leB_length 4 c
  have l4 := leB_length 4 d
  have l5 := leB_length 4 e
  have cut : ∀ (A B C : List UInt8) (i k : Nat), A.length = i → B.length = k → ((A ++ (B ++ C)).drop i).take k = B := fun A B C i k h1 h2 => by
    subst h1; subst h2; simp
  have e1 : ((bytesP (a, b, c, d, e)).drop 1).take 3 = leB 3 b := by
    have := cut (leB 1 a.toNat) (leB 3 b) (leB 4 c ++ leB 4 d ++ leB 4 e) 1 3 l1 l2
    simpa [bytesP] using this
  have e2 : ((bytesP (a, b, c, d, e)).drop 4).take 4 = leB 4 c := by
    have := cut (leB 1 a.toNat ++ leB 3 b) (leB 4 c) (leB 4 d ++ leB 4 e) 4 4 (by simp [leB_length]) l3
    simpa [bytesP] using this
  have e3 : ((bytesP (a, b, c, d, e)).drop 8).take 4 = leB 4 d := by
    have := cut (leB 1 a.toNat ++ leB 3 b ++ leB 4 c) (leB 4 d) (leB 4 e) 8 4 (by simp [leB_length]) l4
    simpa [bytesP] using this
  have e4 : ((bytesP (a, b, c, d, e)).drop 12).take 4 = leB 4 e := by
    have := cut (leB 1 a.toNat ++ leB 3 b ++ leB 4 c ++ leB 4 d) (leB 4 e) [] 12 4 (by simp [leB_length]) l5
    simpa [bytesP] using this
  rw [getP, e0, e1, e2, e3, e4, leN_leB 1 _ (by omega), leN_leB 3 _ (by omega), leN_leB 4 _ (by omega), leN_leB 4 _ (by omega), leN_leB 4 _ (by omega)]
  have : ((a.toNat : Nat) : Int) = a := by omega
  rw [this]
theorem bytesP_getP {s : List UInt8} (h : s.length = 16) : bytesP (getP s) = s := by
  have back : ∀ (i k : Nat), i + k ≤ 16 → leB k (leN ((s.drop i).take k)) = (s.drop i).take k := fun i k hk => by
    have := leB_leN ((s.drop i).take k)
    rwa [win_length (by omega)] at this
  have e0 : (((leN ((s.drop 0).take 1) : Nat) : Int)).toNat = leN ((s.drop 0).take 1) := by omega
  simp only [bytesP, getP]
  rw [e0, back 0 1 (by omega), back 1 3 (by omega), back 4 4 (by omega), back 8 4 (by omega), back 12 4 (by omega)]
  have j : ∀ i k, s.take i ++ (s.drop i).take k = s.take (i + k) := fun i k => List.take_add.symm
  rw [List.drop_zero, j 1 3, j 4 4, j 8 4, j 12 4]
  exact List.take_of_length_le (by omega)

theorem isTaken_any (a : Int) (w : World) : Calls Try.prog 87 #[.int .i64 a] w fun e w' => e = .returned (.bool (decide (12 ≤ a ∧ a < 256))) ∧ w = w' := by
  by_cases h : 12 ≤ a
  · by_cases h2 : a < 256
    · rw [decide_eq_true (And.intro h h2)]
      go_enter Try.func87, Try.ntmps87
      go_wp2_with fail
      go_ret
      exact ⟨rfl, rfl⟩
    · rw [decide_eq_false (fun hh : 12 ≤ a ∧ a < 256 => h2 hh.2)]
      go_enter Try.func87, Try.ntmps87
      go_wp2_with fail
      go_ret
      exact ⟨rfl, rfl⟩
  · rw [decide_eq_false (fun hh : 12 ≤ a ∧ a < 256 => h hh.1)]
    go_enter Try.func87, Try.ntmps87
    go_wp2_with fail
    go_ret
    exact ⟨rfl, rfl⟩
theorem isSync_any (b : Nat) (w : World) : Calls Try.prog 88 #[.int .u32 (b : Int)] w fun e w' => e = .returned (.bool (decide (1 ≤ b ∧ b ≤ 16777215))) ∧ w = w' := by
  by_cases h : 1 ≤ b
  · by_cases h2 : b ≤ 16777215
    · rw [decide_eq_true (And.intro h h2)]
      have i1 : (1 : Int) ≤ (b : Int) := by omega
      have i2 : (b : Int) ≤ 16777215 := by omega
      go_enter Try.func88, Try.ntmps88
      go_wp2_with fail
      go_ret
      exact ⟨rfl, rfl⟩
    · rw [decide_eq_false (fun hh : 1 ≤ b ∧ b ≤ 16777215 => h2 hh.2)]
      have i1 : (1 : Int) ≤ (b : Int) := by omega
      have i2 : ¬ (b : Int) ≤ 16777215 := by omega
      go_enter Try.func88, Try.ntmps88
      go_wp2_with fail
      go_ret
      exact ⟨rfl, rfl⟩
  · rw [decide_eq_false (fun hh : 1 ≤ b ∧ b ≤ 16777215 => h hh.1)]
    have i1 : ¬ (1 : Int) ≤ (b : Int) := by omega
    go_enter Try.func88, Try.ntmps88
    go_wp2_with fail
    go_ret
    exact ⟨rfl, rfl⟩
theorem mayBe_any (p : Pt) (w : World) : Calls Try.prog 71 #[ptV p] w fun e w' => e = .returned (.bool (decide (MayP p))) ∧ Below w.heap.size w w' := by
  obtain ⟨a, b, c, d, e⟩ := p
  have heq := eqPt_zero a b c d e
  by_cases h0 : eqP (a, b, c, d, e) p0 = true
  · have hm : decide (MayP (a, b, c, d, e)) = true := decide_eq_true (.inl ((eqP_iff _ _).1 h0))
    rw [hm]
    rw [h0] at heq
    go_enter Try.func71, Try.ntmps71
    go_wp2_with fail
    go_ret
    exact ⟨rfl, (Below.refl _ w).alloc (Nat.le_refl _) _⟩
  · have h0' : eqP (a, b, c, d, e) p0 = false := by simpa using h0
    rw [h0'] at heq
    have hne : (a, b, c, d, e) ≠ p0 := fun hh => h0 ((eqP_iff _ _).2 hh)
    by_cases h1 : 12 ≤ a ∧ a < 256
    · have hm : decide (MayP (a, b, c, d, e)) = decide (1 ≤ b ∧ b ≤ 16777215) := by
        rw [decide_eq_decide]
        exact ⟨fun hh => (hh.resolve_left hne).2, fun hh => .inr ⟨h1, hh⟩⟩
      rw [hm]
      have ht := isTaken_any a
      rw [decide_eq_true h1] at ht
      have hs := isSync_any b
      obtain ⟨r, hr⟩ : ∃ r, decide (1 ≤ b ∧ b ≤ 16777215) = r := ⟨_, rfl⟩
      rw [hr] at hs ⊢
      clear hm hr h1 hne h0 h0'
      go_enter Try.func71, Try.ntmps71
      go_wp2_with (first | (go_at_call 87; refine (ht _).mono ?_; rintro e w' ⟨rfl, rfl⟩) | (go_at_call 88; refine (hs _).mono ?_; rintro e w' ⟨rfl, rfl⟩))
      go_ret
      exact ⟨rfl, (Below.refl _ w).alloc (Nat.le_refl _) _⟩
    · have hm : decide (MayP (a, b, c, d, e)) = false := decide_eq_false fun hh => h1 (hh.resolve_left hne).1
      rw [hm]
      have ht := isTaken_any a
      rw [decide_eq_false h1] at ht
      clear hm h1 hne h0 h0'
      go_enter Try.func71, Try.ntmps71
      go_wp2_with (go_at_call 87; refine (ht _).mono ?_; rintro e w' ⟨rfl, rfl⟩)
      go_ret
      exact ⟨rfl, (Below.refl _ w).alloc (Nat.le_refl _) _⟩
end Go.Proofs.Ytdpmdlibgabjaaa
/-
  ptr.Check, whatever it is handed; nothing that was there is written.
-/
namespace Go.Proofs.Ytdpmdlibgabjaaa
open Go.RowKit Go.Shelf
set_option maxRecDepth 100000

/-- What Check answers. -/
def pcheckO (p : Pt) : Int := if MayP p then 0 else 8
theorem Check_any (p : Pt) (w : World) : Calls Try.prog 45 #[ptV p] w fun e w' => e = .returned (.int .i64 (pcheckO p)) ∧ Below w.heap.size w w' := by
  have hm := mayBe_any p (w.alloc (.cells (ptC p).toArray 32))
  have hb1 : Below w.heap.size w (w.alloc (.cells (ptC p).toArray 32)) := (Below.refl _ w).alloc (Nat.le_refl _) _
  have HB := Lib.hid hb1; clear hb1
  rw [pcheckO]
  by_cases h : MayP p
  · rw [if_pos h]
    rw [decide_eq_true h] at hm
    obtain ⟨a, b, c, d, e⟩ := p
    have HM := Lib.hid hm; clear hm
    go_enter Try.func45, Try.ntmps45
    go_wp2_with (go_at_call 71; refine HM.out.mono ?_; rintro ev w1 ⟨rfl, b1⟩; have HB1 := Lib.hid (HB.out.trans (b1.mono (by simp [ptC]))); clear b1)
    go_ret
    exact ⟨rfl, HB1.out⟩
  · rw [if_neg h]
    rw [decide_eq_false h] at hm
    obtain ⟨a, b, c, d, e⟩ := p
    have HM := Lib.hid hm; clear hm
    go_enter Try.func45, Try.ntmps45
    go_wp2_with (go_at_call 71; refine HM.out.mono ?_; rintro ev w1 ⟨rfl, b1⟩; have HB1 := Lib.hid (HB.out.trans (b1.mono (by simp [ptC]))); clear b1)
    go_ret
    exact ⟨rfl, HB1.out⟩
end Go.Proofs.Ytdpmdlibgabjaaa
/-
  The document's own Same of layer 13: whether all fields of two stores are the same.
-/
namespace Go.Proofs.Ytdpmdlibgabjaaa
open Go.RowKit Go.Shelf
set_option maxRecDepth 100000

theorem strs_eq (s t : List UInt8) (r : Bool) (hr : r = true ↔ s = t) : ((strOf s).toList == (strOf t).toList) = r := by
  rw [strOf_toList, strOf_toList]
  cases r with
  | true => simp [hr.1 rfl]
  | false =>
    have : s ≠ t := fun h => by have := hr.2 h; cases this
    simp [this]
theorem nat_eq (a b : Nat) (r : Bool) (hr : r = true ↔ a = b) : ((a : Int) == (b : Int)) = r := by
  cases r with
  | true => have := hr.1 rfl; subst this; simp
  | false =>
    have : a ≠ b := fun h => by have := hr.2 h; cases this
    simp; omega
end Go.Proofs.Ytdpmdlibgabjaaa
/-
  Two arrays of four words are compared as one: equal just where each word is.
-/
namespace Go.Proofs.Ytdpmdlibgabjaaa
open Go.RowKit Go.Shelf
set_option maxRecDepth 100000

/-- Are the four words the same? -/
def eqW (x y : W4) : Bool := x.a == y.a && (x.b == y.b && (x.c == y.c && x.d == y.d))
theorem eqW_iff (x y : W4) : eqW x y = true ↔ x = y := by
  obtain ⟨a, b, c, d⟩ := x
  obtain ⟨a', b', c', d'⟩ := y
  simp [eqW]
theorem eqW_self (x : W4) : eqW x x = true := (eqW_iff x x).2 rfl
theorem natcast_beq (x y : BitVec 32) : (((x.toNat : Nat) : Int) == ((y.toNat : Nat) : Int)) = (x == y) := by
  rw [Bool.eq_iff_iff]
  simp only [beq_iff_eq]
  constructor
  · intro h
    exact BitVec.eq_of_toNat_eq (by omega)
  · intro h; rw [h]
theorem u22 : Try.prog.underlying 28 = some (.int .u32) := by kernel_rfl
theorem p22 (cs : Array Value) (i : Nat) (v : Value) (h : cs[i]? = some v) (w : World) : (part 28 cs i).run Try.prog w = .ok v w := run_part_plain w (by kernel_rfl) h
theorem z22 (w : World) : (Go.sizeOf 28).run Try.prog w = .ok 1 w := by kernel_rfl
theorem eql4 (x y : W4) (w : World) : (Op.equalIn 10000 67 (ag x) (ag y)).run Try.prog w = .ok (eqW x y) w := by
  have hu : Try.prog.underlying 67 = some (.array 4 28) := by kernel_rfl
  unfold Op.equalIn
  simp only [Sem.run_bind, run_underlying hu, Result.andThen_ok, z22]
  rw [Std.Legacy.Range.forIn_eq_forIn_range']
  have hr : List.range' (0 : Nat) 4 1 = [0, 1, 2, 3] := rfl
  have h0 : ∀ (v : BitVec 32) (z : BitVec 32) (w : World), (Op.equalIn 9999 28 (.int .u32 (v.toNat : Int)) (.int .u32 (z.toNat : Int))).run Try.prog w = .ok (v == z) w := fun v z w => by rw [run_equalIn_int w 9998 28 .u32 .u32 _ _ u22, natcast_beq]
  simp only [Std.Legacy.Range.size, Nat.sub_zero, Nat.add_sub_cancel, Nat.div_one, hr, List.forIn_cons, List.forIn_nil, Sem.run_bind]
  rw [p22 _ _ (.int .u32 (x.a.toNat : Int)) rfl, Result.andThen_ok, p22 _ _ (.int .u32 (y.a.toNat : Int)) rfl, Result.andThen_ok, h0, Result.andThen_ok]
  cases ha : (x.a == y.a)
  · simp [eqW, ha]
  · simp only [Bool.not_true, Bool.false_eq_true, if_false, Sem.run_pure, Result.andThen_ok, Sem.run_bind]
    rw [p22 _ _ (.int .u32 (x.b.toNat : Int)) rfl, Result.andThen_ok, p22 _ _ (.int .u32 (y.b.toNat : Int)) rfl, Result.andThen_ok, h0, Result.andThen_ok]
    cases hb : (x.b == y.b)
    · simp [eqW, ha, hb]
    · simp only [Bool.not_true, Bool.false_eq_true, if_false, Sem.run_pure, Result.andThen_ok, Sem.run_bind]
      rw [p22 _ _ (.int .u32 (x.c.toNat : Int)) rfl, Result.andThen_ok, p22 _ _ (.int .u32 (y.c.toNat : Int)) rfl, Result.andThen_ok, h0, Result.andThen_ok]
      cases hc : (x.c == y.c)
      · simp [eqW, ha, hb, hc]
      · simp only [Bool.not_true, Bool.false_eq_true, if_false, Sem.run_pure, Result.andThen_ok, Sem.run_bind]
        rw [p22 _ _ (.int .u32 (x.d.toNat : Int)) rfl, Result.andThen_ok, p22 _ _ (.int .u32 (y.d.toNat : Int)) rfl, Result.andThen_ok, h0, Result.andThen_ok]
        cases hd : (x.d == y.d)
        · simp [eqW, ha, hb, hc, hd]
        · simp [eqW, ha, hb, hc, hd]

/-- The run of == over words, as the walk meets it. -/
theorem eql4_lit (a b c d a' b' c' d' : BitVec 32) (w : World) : (Op.equalIn 10000 67 (.agg #[.int .u32 (a.toNat : Int), .int .u32 (b.toNat : Int), .int .u32 (c.toNat : Int), .int .u32 (d.toNat : Int)]) (.agg #[.int .u32 (a'.toNat : Int), .int .u32 (b'.toNat : Int), .int .u32 (c'.toNat : Int), .int .u32 (d'.toNat : Int)])).run Try.prog w = .ok (eqW ⟨a, b, c, d⟩ ⟨a', b', c', d'⟩) w := eql4 ⟨a, b, c, d⟩ ⟨a', b', c', d'⟩ w
end Go.Proofs.Ytdpmdlibgabjaaa
/-
  Four integers that fit uint32 are four words.
-/
namespace Go.Proofs.Ytdpmdlibgabjaaa
open Go.RowKit Go.Shelf
set_option maxRecDepth 100000

theorem u32_of_wf {z : Int} (h : (Lit.int .u32 z).wf = true) : 0 ≤ z ∧ z ≤ 4294967295 := by simpa [Lit.wf, IntKind.min, IntKind.max, IntKind.signed, IntKind.bits] using h
theorem u8_of_wf {z : Int} (h : (Lit.int .u8 z).wf = true) : 0 ≤ z ∧ z ≤ 255 := by simpa [Lit.wf, IntKind.min, IntKind.max, IntKind.signed, IntKind.bits] using h
theorem u16_of_wf {z : Int} (h : (Lit.int .u16 z).wf = true) : 0 ≤ z ∧ z ≤ 65535 := by simpa [Lit.wf, IntKind.min, IntKind.max, IntKind.signed, IntKind.bits] using h
theorem wd_of {z : Int} (h : (Lit.int .u32 z).wf = true) : ∃ x : BitVec 32, (x.toNat : Int) = z := by
  obtain ⟨h1, h2⟩ := u32_of_wf h
  obtain ⟨n, rfl⟩ := Int.eq_ofNat_of_zero_le h1
  exact ⟨BitVec.ofNat 32 n, by rw [BitVec.toNat_ofNat]; congr 1; exact Nat.mod_eq_of_lt (by omega)⟩
theorem w4_of (z : List Int) (l : z.length = 4) (w : ∀ x ∈ z, (Lit.int .u32 x).wf = true) : ∃ x : W4, (Value.agg (z.map (Value.int .u32)).toArray) = ag x := by
  match z, l, w with
  | [a, b, c, d], _, w =>
    obtain ⟨x0, h0⟩ := wd_of (w a (by simp))
    obtain ⟨x1, h1⟩ := wd_of (w b (by simp))
    obtain ⟨x2, h2⟩ := wd_of (w c (by simp))
    obtain ⟨x3, h3⟩ := wd_of (w d (by simp))
    exact ⟨⟨x0, x1, x2, x3⟩, by simp [h0, h1, h2, h3]⟩
end Go.Proofs.Ytdpmdlibgabjaaa
/-
  What the document's own Turn, Back, Four, Sum and Key answer is what mix.Turn, Back, Four, Sum and Key answer.
-/
namespace Go.Proofs.Ytdpmdlibgabjaaa
open Go.RowKit Go.Shelf
set_option maxRecDepth 100000

end Go.Proofs.Ytdpmdlibgabjaaa
/-
  What the document's own Four, Sum and Key answer is what mix.Four, Sum and Key answer.
-/
namespace Go.Proofs.Ytdpmdlibgabjaaa
open Go.RowKit Go.Shelf
set_option maxRecDepth 100000

end Go.Proofs.Ytdpmdlibgabjaaa
/-
  The document's own Put of layer 13: a block is laid, if there is room.
-/
namespace Go.Proofs.Ytdpmdlibgabjaaa
open Go.RowKit Go.Shelf
set_option maxRecDepth 100000

theorem far5_blk {w : World} {g g' : Nat} {t : TypeId} {cs : Array Value} (h : Blk w g' t cs) (hne : g' ≠ g) (v0 v1 v2 v3 v4 : Value) : Blk (set5 w g v0 v1 v2 v3 v4) g' t cs :=
  ((((h.far (p := ⟨g, 0, none⟩) hne v0).far (p := ⟨g, 1, none⟩) hne v1).far (p := ⟨g, 2, none⟩) hne v2).far (p := ⟨g, 3, none⟩) hne v3).far (p := ⟨g, 4, none⟩) hne v4
/-- A slice that goes on reading as b. -/
abbrev BslP (L : Nat) (w : World) (a : Option Addr) (n c : Nat) (b : List UInt8) : Prop := Lasts L w fun W => Bsl W W.heap.size a n c b
/-- What Put answers. -/
def OutPut (L : Nat) (o : Option (StL × Pt)) (w : World) (e : Ending) (w' : World) : Prop :=
  (o = none → e = .returned (.tuple #[.agg #[.slice none 0 0, .slice none 0 0, .slice none 0 0, .int .u32 0, .int .u32 0], .agg #[.int .i64 0, .int .u32 0, .int .u32 0, .int .u32 0, .int .u32 0], .bool false])) ∧ (∀ S' p, o = some (S', p) → ∃ y, e = .returned (.tuple #[stV y S', ptV p, .bool true]) ∧ StP L w' y S') ∧ Below w.heap.size w w'
end Go.Proofs.Ytdpmdlibgabjaaa
/-
  What the document's own Key answers is what mix.Key answers.
-/
namespace Go.Proofs.Ytdpmdlibgabjaaa
open Go.RowKit Go.Shelf
set_option maxRecDepth 100000

theorem bytesW_at (x : W4) (j : Nat) (hj : j < 16) : (bytesW x 4)[j]'(by rw [bytesW_length]; omega) = byteAt (nthW x (j / 4)).toNat (j % 4) := by
  have : j = 0 ∨ j = 1 ∨ j = 2 ∨ j = 3 ∨ j = 4 ∨ j = 5 ∨ j = 6 ∨ j = 7 ∨ j = 8 ∨ j = 9 ∨ j = 10 ∨ j = 11 ∨ j = 12 ∨ j = 13 ∨ j = 14 ∨ j = 15 := by omega
  rcases this with rfl | rfl | rfl | rfl | rfl | rfl | rfl | rfl | rfl | rfl | rfl | rfl | rfl | rfl | rfl | rfl <;> rfl
theorem clW_get (x : W4) (p : Nat) (hp : p < 4) : (cl x)[p]? = some (.int .u32 ((nthW x p).toNat : Int)) := by
  have : p = 0 ∨ p = 1 ∨ p = 2 ∨ p = 3 := by omega
  rcases this with rfl | rfl | rfl | rfl <;> rfl
/-- What the document's Key leaves: sixteen bytes in a row of its own. -/
def KeyOwn (x : W4) (w : World) (e : Ending) (w' : World) : Prop := ∃ v, e = .returned v ∧ w'.ownsRow w.heap.size 5 1 v 16 (vals (bytesW x 4)) ∧ Below w.heap.size w w'
theorem own_base {w : World} {B B' : Nat} {e : TypeId} {size : Nat} {v : Value} {n : Nat} {xs : List Value} (h : w.ownsRow B e size v n xs) (hB : B' ≤ B) : w.ownsRow B' e size v n xs := by
  refine ⟨h.1, ?_⟩
  rcases h.2 with h2 | ⟨g, cap, cur, hv, hb, r⟩
  · exact .inl h2
  · exact .inr ⟨g, cap, cur, hv, Nat.le_trans hB hb, r⟩
end Go.Proofs.Ytdpmdlibgabjaaa
