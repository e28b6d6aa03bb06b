/-
  cipher.pieces hands out the pieces of the stream of a key and a number, from the first one on, for as long as they are asked for.
-/
import Derived.Test.YtomobnecdkachaaLists
import Derived.Test.YtomobnecdkachaaEndless
namespace Go.Proofs.Ytomobnecdkachaa
open Go.RowKit Go.Shelf
set_option maxRecDepth 100000
attribute [local go_sem] Oper.semAt_some

/-- Piece j of the stream of a key and a number; the first pieces. -/
def pieceW (k : List UInt8) (iv j : Nat) : List UInt8 := bytesW (fourW (k ++ leB 4 iv ++ leB 4 j)) 4
theorem pieceW_length (k : List UInt8) (iv j : Nat) : (pieceW k iv j).length = 16 := bytesW_length _ _
def piecesW (k : List UInt8) (iv : Nat) : Nat → List UInt8
  | 0 => []
  | m + 1 => piecesW k iv m ++ pieceW k iv m
theorem piecesW_length (k : List UInt8) (iv : Nat) : ∀ m, (piecesW k iv m).length = 16 * m
  | 0 => rfl
  | m + 1 => by rw [piecesW, List.length_append, piecesW_length k iv m, pieceW_length]; omega

theorem cput_any (n : Nat) (hn : n < 4294967296) (w : World) : Calls Try.prog 44 #[.int .u32 n] w (NewL 4 (leB 4 n) w) := by
  have h0 : (0 : Int) ≤ n := by omega
  have h1 : (n : Int) ≤ 4294967295 := by omega
  go_enter Try.func44, Try.ntmps44
  go_wp2_with fail
  refine (put_at n 4 4 rfl (by omega) (by omega) hn _).mono ?_
  rintro e w1 ⟨rfl, h2, b2, s2⟩
  have H2 := Lib.hid (bsl_of_holds (cap := 4) (leB_length 4 n) (Nat.le_refl _) (by unfold maxLen; omega) s2 h2)
  have HB := Lib.hid b2
  clear h2 b2
  go_wp2_with fail
  go_ret
  exact ⟨_, _, rfl, Nat.le_succ _, H2.out, HB.out⟩

theorem pieces_make (m : Nat) (a : Option Addr) (len cap : Nat) (iv : Int) (w : World) :
    CallsIn Fence.wide m Try.prog 37 #[.slice a len cap, .int .u32 iv] w fun e w' => e = .returned (.func (.func 43) #[] #[.pointer (some ⟨w.heap.size, 0, none⟩), .pointer (some ⟨w.heap.size + 1, 0, none⟩)]) ∧
      w' = (w.alloc (.cells #[.slice a len cap] 22)).alloc (.cells #[.int .u32 iv] 23) := by
  refine callsIn_of_wp Try.func37 rfl trivial ?_ rfl
  simp only [Try.ntmps37, List.size_toArray, List.length_cons, List.length_nil, Nat.reduceAdd, Nat.reduceSub, Array.replicate_succ, Array.replicate_zero, List.push_toArray, List.append_toArray, List.nil_append, List.cons_append]
  gi_wp2
  go_ret
  exact ⟨rfl, rfl⟩

theorem Bsl.cellsFrom {B : Nat} {W W' : World} {g len cap : Nat} {s : List UInt8} (h : Bsl W W.heap.size (some ⟨g, 0, none⟩) len cap s) (hc : CellsFrom B W W') (hg : B ≤ g) : Bsl W' W'.heap.size (some ⟨g, 0, none⟩) len cap s := by
  obtain ⟨h1, h2, h3, h4, h5⟩ := h
  refine ⟨h1, h2, h3, h4, fun h0 => ?_⟩
  obtain ⟨b, off, e, hb, hr⟩ := h5 h0
  cases e
  exact ⟨g, 0, rfl, Nat.lt_of_lt_of_le hb hc.1, fun i hi => hc.2 _ _ hg (hr i hi)⟩

/-- A piece as it is handed out. -/
@[reducible] def pv (x : Nat × Nat) : Array Value := #[.slice (some ⟨x.1, 0, none⟩) 16 x.2]

set_option linter.unusedSimpArgs false in
set_option maxHeartbeats 4000000 in
theorem pieces_in (m : Nat) (A : Option Addr) (cap : Nat) (k : List UInt8) (iv N B Bk Bi : Nat) (hiv : iv < 4294967296) (hN : N ≤ 100000) (w : World)
    (hk : w.cell? ⟨Bk, 0, none⟩ = some (.slice A 16 cap)) (hi : w.cell? ⟨Bi, 0, none⟩ = some (.int .u32 iv)) (hA : Bsl w w.heap.size A 16 cap k) (hB : B ≤ w.heap.size) :
    Endless Try.prog m B N 43 #[.pointer (some ⟨Bk, 0, none⟩), .pointer (some ⟨Bi, 0, none⟩)] pv (fun j x W => Bsl W W.heap.size (some ⟨x.1, 0, none⟩) 16 x.2 (pieceW k iv j)) w := by
  intro l J Jx W hW hJ hJN hY h0
  have hmx : Try.prog.follows Departure.mixedOrders = true := by kernel_rfl
  have hks : k.length = 16 := hA.1
  obtain ⟨W1, hW1⟩ : ∃ W1, W.drew = W1 := ⟨_, rfl⟩
  have b1 : Below W.heap.size W W1 := hW1 ▸ (Below.refl _ W).drew
  have hA1 : Bsl W1 W1.heap.size A 16 cap k := ((hA.below hW).more hW.size).step b1
  have hk1 := (((hW.trans (b1.mono hW.size))).cell (World.block_lt_of_cell? w _ hk)).trans hk
  have hi1 := (((hW.trans (b1.mono hW.size))).cell (World.block_lt_of_cell? w _ hi)).trans hi
  have CK := fun X (hX : Below W1.heap.size W1 X) => (hX.cell (World.block_lt_of_cell? W1 _ hk1)).trans hk1
  have CI := fun X (hX : Below W1.heap.size W1 X) => (hX.cell (World.block_lt_of_cell? W1 _ hi1)).trans hi1
  have hBW : B ≤ W.heap.size := Nat.le_trans hB hW.size
  have bw : Below W1.heap.size W1 W1 := Below.refl _ _
  have HJ := Lib.hid hJ; clear hJ
  have HJN := Lib.hid hJN; clear hJN
  have HY := Lib.hid hY; clear hY
  have H0 := Lib.hid h0; clear h0
  have HA1 := Lib.hid hA1; clear hA1
  have HKS := Lib.hid hks; clear hks
  have HW1 := Lib.hid hW1; clear hW1
  have HB1 := Lib.hid b1; clear b1
  have HBW := Lib.hid hBW; clear hBW
  clear hW hk hi hA hB hk1 hi1
  have i0 : (0 : Int) ≤ iv := by omega
  have i1 : (iv : Int) ≤ 4294967295 := by omega
  refine callsIn_of_wp Try.func43 rfl trivial ?_ rfl
  simp only [Try.ntmps43, List.size_toArray, List.length_cons, List.length_nil, Nat.reduceAdd, Nat.reduceSub, Array.replicate_succ, Array.replicate_zero, List.push_toArray, List.append_toArray, List.nil_append, List.cons_append]
  gi_wp2_with fail
  refine wpS_wide [0, 1, 2, 3, 4, 5] hmx (by kernel_rfl) (fun h => by obtain ⟨_, _, ⟨v, hv⟩, _⟩ := h; cases hv) rfl HW1.out ?_
  refine wpS_read (v := ?_) rfl (by kernel_rfl) (by kernel_rfl) (by kernel_rfl) (fun _ _ _ h => h) (.inl ⟨by rfl, ?_⟩) ?_
  rotate_left
  · intro X hX
    have hXa := hX _ bw
    go_simp
    with_reducible rfl
  try simp only [Act.put, List.setIfInBounds_toArray, List.set_cons_zero, List.set_cons_succ]
  refine wpS_read (v := ?_) rfl (by kernel_rfl) (by kernel_rfl) (by kernel_rfl) (fun _ _ _ h => h) (.inl ⟨by rfl, ?_⟩) ?_
  rotate_left
  · intro X hX
    have hXa := hX _ bw
    go_simp
    with_reducible rfl
  try simp only [Act.put, List.setIfInBounds_toArray, List.set_cons_zero, List.set_cons_succ]
  refine wpS_lone rfl (by kernel_rfl) (fun K hK => ?_)
  go_simp
  refine (cput_any iv hiv W1).mono ?_
  rintro e W2 ⟨g2, c2, rfl, _, hp2, b2⟩
  refine hK _ _ (Stays.of_below b2) ?_
  clear hK K
  have HA2 := Lib.hid (HA1.out.step b2)
  have HB2 := Lib.hid (HB1.out.trans (b2.mono HB1.out.size)); clear b2
  have cc : Calls Try.prog 20 #[.slice (some ⟨W2.heap.size, 0, none⟩) 2 2] (W2.alloc (.cells #[.slice A 16 cap, .slice (some ⟨g2, 0, none⟩) 4 c2] 22)) (NewL 20 (k ++ leB 4 iv) W2) := concat2 W2 _ _ _ _ _ _ _ _ HA2.out hp2 (by omega) (by omega)
  have HCC := Lib.hid cc; clear cc hp2
  try simp only [Act.put, List.setIfInBounds_toArray, List.set_cons_zero, List.set_cons_succ]
  refine wpS_lone rfl (by kernel_rfl) (fun K hK => ?_)
  go_simp
  refine hK _ _ (Stays.of_below ((Below.refl _ W2).alloc (Nat.le_refl _) _)) ?_
  clear hK K
  try simp only [Act.put, List.setIfInBounds_toArray, List.set_cons_zero, List.set_cons_succ]
  refine wpS_last rfl (by kernel_rfl) (by kernel_rfl) (fun K hK => ?_)
  go_simp
  refine HCC.out.mono ?_
  rintro e W3 ⟨ga, ca, rfl, hle, h3, b3⟩
  refine hK _ _ ?_
  clear hK K
  have HB3 := Lib.hid (HB2.out.trans (b3.mono HB2.out.size))
  have HL3 := Lib.hid (Nat.le_trans HB2.out.size hle)
  have HJ3 := Lib.hid (HJ.out _ _ _ H0.out HB3.out)
  have HZ3 := Lib.hid HB3.out.size
  have H3 := Lib.hid h3; clear h3 hle b3 HCC HA2 HB2 CK CI bw H0 HA1 HB1 HW1
  try simp only [Act.put, List.setIfInBounds_toArray, List.set_cons_zero, List.set_cons_succ]
  refine wpS_read (v := ?_) rfl (by kernel_rfl) (by kernel_rfl) (by kernel_rfl) (fun _ _ _ h => h) (.inl ⟨by rfl, ?_⟩) ?_
  rotate_left
  · intro X hX
    go_simp
    with_reducible rfl
  try simp only [Act.put, List.setIfInBounds_toArray, List.set_cons_zero, List.set_cons_succ]
  refine wpS_done (by kernel_rfl) ?_
  gi_wp2_with fail
  gi_loopw [5] (fun i wr => ∃ j : Nat, j < N ∧ i = .int .u32 j ∧ Hid (J j wr) ∧ Hid (Bsl wr wr.heap.size (some ⟨ga, 0, none⟩) 20 ca (k ++ leB 4 iv)) ∧ Hid (W.heap.size ≤ wr.heap.size)) (fun i _ => N - (intOf i).toNat)
  case atStart => exact ⟨0, HJN.out _ _ HJ3.out, rfl, HJ3, H3, HZ3⟩
  case round =>
    obtain ⟨j, hj, rfl, HJr, HHr, HZr⟩ := hrel
    have j0 : (0 : Int) ≤ j := by omega
    have j1 : (j : Int) ≤ 100000 := by omega
    gi_wp2_with fail
    refine ⟨trivial, fun h => (by simp [Fence.wide] at h), ?_⟩
    refine (callsIn_wide.2 (cput_any j (by omega) wr)).mono ?_
    rintro e W4 ⟨g4, c4, rfl, _, h4, b4⟩
    have HH4 := Lib.hid (HHr.out.step b4)
    have HJ4 := Lib.hid (HJ.out _ _ _ HJr.out (b4.mono HZr.out))
    have HZ4 := Lib.hid (Nat.le_trans HZr.out b4.size); clear b4 HJr HHr
    have cc : Calls Try.prog 20 #[.slice (some ⟨W4.heap.size, 0, none⟩) 2 2] (W4.alloc (.cells #[.slice (some ⟨ga, 0, none⟩) 20 ca, .slice (some ⟨g4, 0, none⟩) 4 c4] 22)) (NewL 24 (k ++ leB 4 iv ++ leB 4 j) W4) := concat2 W4 _ _ _ _ _ _ _ _ HH4.out h4 (by omega) (by omega)
    have HCC := Lib.hid cc; clear cc h4
    gi_wp2_with fail
    refine ⟨trivial, fun h => (by simp [Fence.wide] at h), ?_⟩
    refine (callsIn_wide.2 HCC.out).mono ?_
    rintro e W5 ⟨g5, c5, rfl, _, h5, b5⟩
    have HH5 := Lib.hid (HH4.out.step b5)
    have HJ5 := Lib.hid (HJ.out _ _ _ HJ4.out (b5.mono HZ4.out))
    have HZ5 := Lib.hid (Nat.le_trans HZ4.out b5.size); clear b5 HJ4 HH4 HCC
    have kk := key_any _ _ _ _ W5 h5 (by omega)
    have HK := Lib.hid kk; clear kk h5
    gi_wp2_with fail
    refine ⟨trivial, fun h => (by simp [Fence.wide] at h), ?_⟩
    refine (callsIn_wide.2 HK.out).mono ?_
    rintro e W6 h6
    obtain ⟨g6, c6, rfl, _, h6, b6⟩ := KeyPost.newL h6
    have HH6 := Lib.hid (HH5.out.step b6)
    have HJ6 := Lib.hid (HJ.out _ _ _ HJ5.out (b6.mono HZ5.out))
    have HZ6 := Lib.hid (Nat.le_trans HZ5.out b6.size); clear b6 HJ5 HH5 HK
    obtain ⟨fn, tmps, assign, body, hy, hR⟩ := HY.out j (g6, c6) W6 HJ6.out h6
    have HR := Lib.hid hR; clear hR h6 HJ6
    dsimp only [pv] at hy
    gi_wp2_with fail
    refine ⟨fun h => (by simp [Fence.wide] at h), ?_⟩
    refine HR.out.mono ?_
    rintro e W7 (⟨rfl, hJ7, hc7⟩ | ⟨rfl, hx7⟩)
    · have HJ7 := Lib.hid hJ7; clear hJ7
      have HC7 := Lib.hid hc7; clear hc7
      clear hy
      gi_wp2_with fail
      go_roundw
      case rel => exact ⟨j + 1, HJN.out _ _ HJ7.out, by go_num, HJ7, Lib.hid (HH6.out.cellsFrom HC7.out (Nat.le_trans HBW.out HL3.out)), Lib.hid (Nat.le_trans HZ6.out HC7.out.1)⟩
      case measure => simp [intOf]; omega
    · have HX7 := Lib.hid hx7; clear hx7 hy
      gi_wp2_with fail
      refine bodyPost_ret (results_none rfl _ _ _) rfl ?_
      exact ⟨⟨_, rfl⟩, HX7.out⟩
end Go.Proofs.Ytomobnecdkachaa
