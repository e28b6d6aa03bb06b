/-
  The closure that tells the free blocks, called: the next one from its place on, or none.
-/
import Derived.Test.YtiekbgfglmfbkaaSpTop
namespace Go.Proofs.Ytiekbgfglmfbkaa
open Go.RowKit Go.Shelf
set_option maxRecDepth 100000

/-- The number that a block keeps. -/
def keptAt (w : World) (g : Nat) : Nat := (intOf ((w.cell? ⟨g, 0, none⟩).getD undef)).toNat
theorem keptAt_blk {w : World} {g t k : Nat} (h : Blk w g t #[.int .i64 (k : Int)]) : keptAt w g = k := by
  unfold keptAt
  rw [h.cell 0]
  simp [intOf]
set_option maxHeartbeats 1000000 in
theorem spNext_some (gp gs B : Nat) (a : Option Addr) (n c : Nat) (s : List UInt8) (p k : Nat) (w : World) (hp : Blk w gp 3 #[.int .i64 (p : Int)]) (hs : Blk w gs 26 #[.slice a n c]) (hne : gp ≠ gs) (hA : Bsl w B a n c s) (hB : B ≤ gp)
    (h1 : p ≤ k) (h2 : k < n) (h3 : mkT s k = 0) (h4 : ∀ i, p ≤ i → i < k → mkT s i ≠ 0) :
    Calls Try.prog 35 #[.pointer (some ⟨gp, 0, none⟩), .pointer (some ⟨gs, 0, none⟩)] w fun e w' => e = .returned (.tuple #[.int .i64 k, .bool true]) ∧ w.grownBy w' (some gp) ∧ Blk w' gp 3 #[.int .i64 ((k + 1 : Nat) : Int)] := by
  have n1 := hA.len_le
  obtain ⟨b, off, rfl, hbB⟩ := hA.at_ (by omega)
  have HP := Lib.hid hp
  have HS := Lib.hid hs
  have HA := Lib.hid hA
  have HB := Lib.hid hB
  have HNE := Lib.hid hne
  have H3 := Lib.hid h3
  have H4 := Lib.hid h4
  clear hp hs hA hB hne h3 h4
  go_enter Try.func35, Try.ntmps35
  go_wp2_with fail
  go_loopw [4] (fun _ wr => ∃ j : Nat, p ≤ j ∧ j ≤ k ∧ w.grownBy wr (some gp) ∧ Blk wr gp 3 #[.int .i64 (j : Int)]) (fun _ wr => n - keptAt wr gp)
  case atStart => exact ⟨p, Nat.le_refl _, h1, World.grownBy.refl _ _, HP.out⟩
  case round =>
    obtain ⟨j, hj1, hj2, hg, hb⟩ := hrel
    have j0 : (0 : Int) ≤ j := by omega
    have j1 : (j : Int) < n := by omega
    have hlt : j < n := by omega
    have hkm := keptAt_blk hb
    have HKM := Lib.hid hkm
    clear hkm
    have c0 : wr.cell? ⟨gp, 0, none⟩ = some (.int .i64 (j : Int)) := hb.cell 0
    have hsr : Blk wr gs 26 #[.slice (some ⟨b, off, none⟩) n c] := HS.out.grown hg fun e => HNE.out (Option.some.inj e).symm
    have c1 : wr.cell? ⟨gs, 0, none⟩ = some (.slice (some ⟨b, off, none⟩) n c) := hsr.cell 0
    have c1' : (wr.setCell ⟨gp, 0, none⟩ (.int .i64 ((j : Int) + 1))).cell? ⟨gs, 0, none⟩ = some (.slice (some ⟨b, off, none⟩) n c) := (hsr.far (p := ⟨gp, 0, none⟩) (fun e => HNE.out e.symm) _).cell 0
    have hbg : b ≠ gp := by have := HB.out; omega
    have hcell : (wr.setCell ⟨gp, 0, none⟩ (.int .i64 ((j : Int) + 1))).cell? ⟨b, off + j, none⟩ = some (.int .u8 ((mkT s j : Nat) : Int)) := by
      rw [← HA.out.mk j hlt]
      have hbl : b < w.heap.size := by
        have h := HA.out.mk j hlt
        obtain ⟨o, ho, _⟩ := cells_of_cell h
        exact (Array.getElem?_eq_some_iff.1 ho).1
      have e1 : (wr.setCell ⟨gp, 0, none⟩ (.int .i64 ((j : Int) + 1))).heap[b]? = w.heap[b]? := (Below.heap_setCell wr ⟨gp, 0, none⟩ _ b hbg).trans (hg.block b hbl (fun e => hbg (Option.some.inj e)))
      exact World.cell?_of_block (a := ⟨b, off + j, none⟩) e1
    have hw : IntKind.i64.wrap ((j : Int) + 1) = (j : Int) + 1 := IntWalk.i64_in _ (by omega)
    have hg2 : w.grownBy (wr.setCell ⟨gp, 0, none⟩ (.int .i64 ((j : Int) + 1))) (some gp) := only_setCell hg (.inl rfl) _
    have hb2 := hb.set_ 0 (.int .i64 ((j : Int) + 1))
    have hb2' : Blk (wr.setCell ⟨gp, 0, none⟩ (.int .i64 ((j : Int) + 1))) gp 3 #[.int .i64 ((j + 1 : Nat) : Int)] := by
      have e : ((j + 1 : Nat) : Int) = (j : Int) + 1 := by omega
      rw [e]; exact hb2
    have hf := hb.frozen 0
    have HG2 := Lib.hid hg2
    have HB2 := Lib.hid hb2'
    clear hg hb hsr hg2 hb2 hb2' hbg
    by_cases hjk : j = k
    · rw [hjk] at c0 j0 j1 hlt c1' hcell hw HG2 HB2
      rw [H3.out] at hcell
      clear HKM hj1 hj2 hjk
      go_wp2_with fail
      go_ret2
      exact ⟨rfl, HG2.out, HB2.out⟩
    · have hz := H4.out j hj1 (by omega)
      obtain ⟨x, hx⟩ : ∃ x : Nat, mkT s j = x := ⟨_, rfl⟩
      rw [hx] at hcell hz
      have hzz : ((x : Int) == 0) = false := by simp; omega
      clear hx hz
      go_wp2_with fail
      go_roundw
      case rel => exact ⟨j + 1, by omega, by omega, HG2.out, HB2.out⟩
      case measure =>
        rw [keptAt_blk HB2.out, HKM.out]
        omega
set_option maxHeartbeats 1000000 in
theorem spNext_none (gp gs B : Nat) (a : Option Addr) (n c : Nat) (s : List UInt8) (p : Nat) (w : World) (hp : Blk w gp 3 #[.int .i64 (p : Int)]) (hs : Blk w gs 26 #[.slice a n c]) (hne : gp ≠ gs) (hA : Bsl w B a n c s) (hB : B ≤ gp)
    (h1 : p ≤ n) (h4 : ∀ i, p ≤ i → i < n → mkT s i ≠ 0) :
    Calls Try.prog 35 #[.pointer (some ⟨gp, 0, none⟩), .pointer (some ⟨gs, 0, none⟩)] w fun e w' => e = .returned (.tuple #[.int .i64 0, .bool false]) ∧ w.grownBy w' (some gp) ∧ Blk w' gp 3 #[.int .i64 (n : Int)] := by
  have n1 := hA.len_le
  have HP := Lib.hid hp
  have HS := Lib.hid hs
  have HA := Lib.hid hA
  have HB := Lib.hid hB
  have HNE := Lib.hid hne
  have H4 := Lib.hid h4
  clear hp hs hA hB hne h4
  go_enter Try.func35, Try.ntmps35
  go_wp2_with fail
  go_loopw [4] (fun _ wr => ∃ j : Nat, p ≤ j ∧ j ≤ n ∧ w.grownBy wr (some gp) ∧ Blk wr gp 3 #[.int .i64 (j : Int)]) (fun _ wr => n - keptAt wr gp)
  case atStart => exact ⟨p, Nat.le_refl _, h1, World.grownBy.refl _ _, HP.out⟩
  case round =>
    obtain ⟨j, hj1, hj2, hg, hb⟩ := hrel
    have j0 : (0 : Int) ≤ j := by omega
    have hkm := keptAt_blk hb
    have HKM := Lib.hid hkm
    clear hkm
    have c0 : wr.cell? ⟨gp, 0, none⟩ = some (.int .i64 (j : Int)) := hb.cell 0
    have hsr : Blk wr gs 26 #[.slice a n c] := HS.out.grown hg fun e => HNE.out (Option.some.inj e).symm
    have c1 : wr.cell? ⟨gs, 0, none⟩ = some (.slice a n c) := hsr.cell 0
    by_cases hlt : j < n
    · obtain ⟨b, off, rfl, hbB⟩ := HA.out.at_ (by omega)
      have j1 : (j : Int) < n := by omega
      have c1' : (wr.setCell ⟨gp, 0, none⟩ (.int .i64 ((j : Int) + 1))).cell? ⟨gs, 0, none⟩ = some (.slice (some ⟨b, off, none⟩) n c) := (hsr.far (p := ⟨gp, 0, none⟩) (fun e => HNE.out e.symm) _).cell 0
      have hbg : b ≠ gp := by have := HB.out; omega
      have hcell : (wr.setCell ⟨gp, 0, none⟩ (.int .i64 ((j : Int) + 1))).cell? ⟨b, off + j, none⟩ = some (.int .u8 ((mkT s j : Nat) : Int)) := by
        rw [← HA.out.mk j hlt]
        have hbl : b < w.heap.size := by
          have h := HA.out.mk j hlt
          obtain ⟨o, ho, _⟩ := cells_of_cell h
          exact (Array.getElem?_eq_some_iff.1 ho).1
        have e1 : (wr.setCell ⟨gp, 0, none⟩ (.int .i64 ((j : Int) + 1))).heap[b]? = w.heap[b]? := (Below.heap_setCell wr ⟨gp, 0, none⟩ _ b hbg).trans (hg.block b hbl (fun e => hbg (Option.some.inj e)))
        exact World.cell?_of_block (a := ⟨b, off + j, none⟩) e1
      have hw : IntKind.i64.wrap ((j : Int) + 1) = (j : Int) + 1 := IntWalk.i64_in _ (by omega)
      have hg2 : w.grownBy (wr.setCell ⟨gp, 0, none⟩ (.int .i64 ((j : Int) + 1))) (some gp) := only_setCell hg (.inl rfl) _
      have hb2 := hb.set_ 0 (.int .i64 ((j : Int) + 1))
      have hb2' : Blk (wr.setCell ⟨gp, 0, none⟩ (.int .i64 ((j : Int) + 1))) gp 3 #[.int .i64 ((j + 1 : Nat) : Int)] := by
        have e : ((j + 1 : Nat) : Int) = (j : Int) + 1 := by omega
        rw [e]; exact hb2
      have hf := hb.frozen 0
      have HG2 := Lib.hid hg2
      have HB2 := Lib.hid hb2'
      clear hg hb hsr hg2 hb2 hb2' hbg
      have hz := H4.out j hj1 hlt
      obtain ⟨x, hx⟩ : ∃ x : Nat, mkT s j = x := ⟨_, rfl⟩
      rw [hx] at hcell hz
      have hzz : ((x : Int) == 0) = false := by simp; omega
      clear hx hz
      go_wp2_with fail
      go_roundw
      case rel => exact ⟨j + 1, by omega, by omega, HG2.out, HB2.out⟩
      case measure =>
        rw [keptAt_blk HB2.out, HKM.out]
        omega
    · have hjn : j = n := by omega
      rw [hjn] at c0 hb j0
      have HG2 := Lib.hid hg
      have HB2 := Lib.hid hb
      clear hg hb hsr HKM hlt hjn hj1 hj2
      go_wp2_with fail
      go_ret2
      exact ⟨rfl, HG2.out, HB2.out⟩
end Go.Proofs.Ytiekbgfglmfbkaa
