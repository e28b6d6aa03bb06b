/-
  dev.bytesOf counts the bytes of a disk.
-/
import Derived.Test.YtgpojnhhcobcbaaDisk
namespace Go.Proofs.Ytgpojnhhcobcbaa
open Go.RowKit Go.Shelf
set_option maxRecDepth 100000

set_option maxHeartbeats 1000000 in
theorem dBytesOf_any (x : DAt) (D : DkL) (w : World) (h : Dsk w w.heap.size x D) (hf : Fits D) :
    Calls Try.prog 62 #[.slice x.ba D.1.length x.bc, .slice x.wa D.2.length x.wc] w fun e w' => e = .returned (.int .i64 (sumD D : Nat)) ∧ Below w.heap.size w w' := by
  obtain ⟨ba, bc, wa, wc⟩ := x
  obtain ⟨bl, ws⟩ := D
  obtain ⟨hB, hW⟩ := h
  obtain ⟨f1, f2, f3⟩ := hf
  simp only [sumD] at hB hW f1 f2 f3 ⊢
  obtain ⟨n, hn⟩ : ∃ n, bl.length = n := ⟨_, rfl⟩
  obtain ⟨m, hm⟩ : ∃ m, ws.length = m := ⟨_, rfl⟩
  rw [hn] at hB f1 f3 ⊢
  rw [hm] at hW f2 f3 ⊢
  have n0 : (0 : Int) ≤ n := by omega
  have n1 : (n : Int) ≤ 1000000 := by omega
  have m0 : (0 : Int) ≤ m := by omega
  have m1 : (m : Int) ≤ 1000000 := by omega
  have HB := Lib.hid hB
  have HW := Lib.hid hW
  clear hB hW hn hm f1 f2
  go_enter Try.func62, Try.ntmps62
  go_wp2_with fail
  go_loop [5, 12] (fun t i => ∃ k : Nat, k ≤ n ∧ i = .int .i64 k ∧ t = .int .i64 (sumB bl k : Nat)) (fun _ i => n - (intOf i).toNat)
  case atStart => exact ⟨0, Nat.zero_le _, rfl, rfl⟩
  case round =>
    obtain ⟨k, hk, rfl, rfl⟩ := hrel
    have k0 : (0 : Int) ≤ k := by omega
    by_cases hlt : k < n
    · have k1 : (k : Int) < n := by omega
      obtain ⟨b, off, A, l, c, s, rfl, _, hl, hc, hA⟩ := HB.out.at_ hlt
      have hs : sumB bl (k + 1) = sumB bl k + l := by rw [sumB, hl, hA.1]
      have hsl := sumB_mono bl (show k + 1 ≤ n by omega)
      have s0 : (0 : Int) ≤ (sumB bl k : Nat) := by omega
      have s1 : ((sumB bl k : Nat) : Int) ≤ 1000000000000 := by omega
      have s2 : (0 : Int) ≤ (l : Nat) := by omega
      have s3 : ((l : Nat) : Int) ≤ 1000000000000 := by omega
      have HS := Lib.hid hs
      clear hs hsl hA hl
      go_wp2_with fail
      go_round
      case rel => exact ⟨k + 1, by omega, by go_num, by rw [HS.out]; go_num⟩
      case measure => simp [intOf]; omega
    · obtain rfl : k = n := by omega
      go_wp2_with fail
      have ht : sumB bl k + sumW ws m ≤ 1000000000000 := f3
      go_loopw [5, 23] (fun t i wr => ∃ j : Nat, j ≤ m ∧ i = .int .i64 j ∧ t = .int .i64 (sumB bl k + sumW ws j : Nat) ∧ Below w.heap.size w wr) (fun _ i _ => m - (intOf i).toNat)
      case atStart => exact ⟨0, Nat.zero_le _, rfl, by simp [sumW], Below.refl _ _⟩
      case round =>
        obtain ⟨j, hj, rfl, rfl, hb⟩ := hrel
        have j0 : (0 : Int) ≤ j := by omega
        by_cases hlt : j < m
        · have j1 : (j : Int) < m := by omega
          obtain ⟨b, off, p, A, l, c, s, rfl, hlb, hl, _, hc, hd, hA⟩ := HW.out.at_ hlt
          have hs : sumW ws (j + 1) = sumW ws j + l := by rw [sumW, hl, hA.1]
          have hsl := sumW_mono ws (show j + 1 ≤ m by omega)
          obtain ⟨S, hS⟩ : ∃ S, sumB bl k + sumW ws j = S := ⟨_, rfl⟩
          have hs' : sumB bl k + sumW ws (j + 1) = S + l := by omega
          have s0 : (0 : Int) ≤ (S : Nat) := by omega
          have s1 : ((S : Nat) : Int) ≤ 1000000000000 := by omega
          have s2 : (0 : Int) ≤ (l : Nat) := by omega
          have s3 : ((l : Nat) : Int) ≤ 1000000000000 := by omega
          have c1 := (hb.cell (p := ⟨b, off + j * 2, none⟩) hlb).trans hc
          have c2 := (hb.cell (p := ⟨b, off + j * 2 + 1, none⟩) hlb).trans hd
          rw [hS]
          have HS := Lib.hid hs'
          have HBr := Lib.hid hb
          clear hs hsl hA hl hc hd hb hS hs' ht
          go_wp2_with fail
          go_roundw
          case rel => exact ⟨j + 1, by omega, by go_num, by rw [HS.out]; go_num, HBr.out.alloc (HBr.out.size) _⟩
          case measure => simp [intOf]; omega
        · obtain rfl : j = m := by omega
          have HBr := Lib.hid hb
          clear hb
          go_wp2_with fail
          go_ret
          exact ⟨rfl, HBr.out⟩
end Go.Proofs.Ytgpojnhhcobcbaa
