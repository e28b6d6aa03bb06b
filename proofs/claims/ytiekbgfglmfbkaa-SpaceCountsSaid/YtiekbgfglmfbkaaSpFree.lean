/-
  space.Free: all free blocks, rising.
-/
import Derived.Test.YtiekbgfglmfbkaaSpCalls
namespace Go.Proofs.Ytiekbgfglmfbkaa
open Go.RowKit Go.Shelf
set_option maxRecDepth 100000

theorem spFree_bad (a : Option Addr) (n c B : Nat) (s : List UInt8) (w : World) (hA : Bsl w B a n c s) (h : ¬ MayT s) : Calls Try.prog 8 #[.slice a n c] w (OutF 8 [] w) := by
  have HM := Lib.hid (spMay_no a n c B s w hA h)
  clear hA h
  go_enter Try.func8, Try.ntmps8
  go_wp2_with fail
  refine HM.out.mono ?_
  rintro e w1 ⟨rfl, rfl⟩
  go_wp2_with fail
  go_ret2
  exact outF_nil 8 w
/-- What the loop of Free knows: the next free block lies at k, or there is none any more. -/
def FreeI (s : List UInt8) (B0 w : World) (gp gs : Nat) (sl : Value) (v x ok : Value) (wr : World) : Prop :=
  Below w.heap.size w wr ∧ B0.heap.size ≤ wr.heap.size ∧ Blk wr gs 26 #[sl] ∧
    ((∃ k : Nat, k < 256 ∧ mkT s k = 0 ∧ x = .int .i64 k ∧ ok = .bool true ∧ Blk wr gp 3 #[.int .i64 ((k + 1 : Nat) : Int)] ∧ wr.ownsRow B0.heap.size 3 1 v (freeTo s k).length (valsN (freeTo s k))) ∨
     (x = .int .i64 0 ∧ ok = .bool false ∧ wr.ownsRow B0.heap.size 3 1 v (freeTo s 256).length (valsN (freeTo s 256))))
theorem freeTo_le (s : List UInt8) (n : Nat) : (freeTo s n).length ≤ n := by rw [freeTo_length]; exact cntTo_le s 0 n
/-- Behind a call of the closure. -/
theorem FreeI.next {s : List UInt8} {B0 w wr w2 : World} {gp gs p : Nat} {sl v : Value} (hb : Below w.heap.size w wr) (hB : B0.heap.size ≤ wr.heap.size) (hs : Blk wr gs 26 #[sl]) (hne : gp ≠ gs) (hgp : w.heap.size ≤ gp) (hgB : gp < B0.heap.size) (ho : wr.ownsRow B0.heap.size 3 1 v (freeTo s p).length (valsN (freeTo s p)))
    (hg : wr.grownBy w2 (some gp)) : Below w.heap.size w w2 ∧ B0.heap.size ≤ w2.heap.size ∧ Blk w2 gs 26 #[sl] ∧ w2.ownsRow B0.heap.size 3 1 v (freeTo s p).length (valsN (freeTo s p)) :=
  ⟨below_only hb hgp hg hb.size, Nat.le_trans hB hg.size, hs.grown hg (fun e => hne (Option.some.inj e).symm), own_other ho hg fun k hk => by have := (ho.lt k hk).1; omega⟩
set_option maxHeartbeats 2000000 in
theorem spFree_ok (a : Option Addr) (n c : Nat) (s : List UInt8) (w : World) (hA : Bsl w w.heap.size a n c s) (h : MayT s) : Calls Try.prog 8 #[.slice a n c] w (OutF 0 (freeTo s 256) w) := by
  have HM := Lib.hid (spMay_yes a n c _ s w hA h)
  have hn := h.len_of hA
  subst hn
  have HF := Lib.hid (spOnes_any a 256 c w)
  have HA := Lib.hid hA
  clear hA h
  go_enter Try.func8, Try.ntmps8
  go_wp2_with fail
  refine HM.out.mono ?_
  rintro e w1 ⟨rfl, rfl⟩
  go_wp2_with fail
  refine HF.out.mono ?_
  rintro e w1 ⟨gp, gs, rfl, hgp, hgs, hne, hp, hs, b1⟩
  have hgB : gp < w1.heap.size := hp.lt
  have HN := Lib.hid (first_from (fun k => mkT s k = 0) 0 256)
  have HB := Lib.hid b1
  have HG := Lib.hid hgp
  have HGB := Lib.hid hgB
  have HNE := Lib.hid hne
  have HS := Lib.hid hs
  have HP := Lib.hid hp
  clear hgs hne hp hs b1 hgp hgB
  go_wp2_with fail
  have hx : Calls Try.prog 35 #[.pointer (some ⟨gp, 0, none⟩), .pointer (some ⟨gs, 0, none⟩)] w1 fun e w' => ∃ x ok, e = .returned (.tuple #[x, ok]) ∧ FreeI s w1 w gp gs (.slice a 256 c) (.slice none 0 0) x ok w' := by
    rcases HN.out with ⟨k, _, hk, hz, hbefore⟩ | hall
    · refine (spNext_some gp gs w.heap.size a 256 c s 0 k w1 HP.out HS.out HNE.out (HA.out.below HB.out) HG.out (Nat.zero_le _) hk hz hbefore).mono ?_
      rintro e w2 ⟨rfl, hg, hp2⟩
      have e0 : freeTo s k = [] := freeTo_same (p := 0) (Nat.zero_le _) hbefore
      obtain ⟨i1, i2, i3, i4⟩ := FreeI.next (s := s) (p := 0) (v := .slice none 0 0) HB.out (Nat.le_refl _) HS.out HNE.out HG.out HGB.out (World.ownsRow_nil _ _ _ _) hg
      exact ⟨_, _, rfl, i1, i2, i3, .inl ⟨k, hk, hz, rfl, rfl, hp2, by rw [e0]; exact i4⟩⟩
    · refine (spNext_none gp gs w.heap.size a 256 c s 0 w1 HP.out HS.out HNE.out (HA.out.below HB.out) HG.out (Nat.zero_le _) hall).mono ?_
      rintro e w2 ⟨rfl, hg, hp2⟩
      have e0 : freeTo s 256 = [] := freeTo_same (p := 0) (Nat.zero_le _) hall
      obtain ⟨i1, i2, i3, i4⟩ := FreeI.next (s := s) (p := 0) (v := .slice none 0 0) HB.out (Nat.le_refl _) HS.out HNE.out HG.out HGB.out (World.ownsRow_nil _ _ _ _) hg
      exact ⟨_, _, rfl, i1, i2, i3, .inr ⟨rfl, rfl, by rw [e0]; exact i4⟩⟩
  have HX := Lib.hid hx
  clear hx
  refine HX.out.mono ?_
  rintro e w2 ⟨x, ok, rfl, hI⟩
  have HI := Lib.hid hI
  clear hI
  go_wp2_with fail
  go_loopw [4, 6, 7] (fun v x ok wr => FreeI s w1 w gp gs (.slice a 256 c) v x ok wr) (fun _ x ok _ => match ok with | .bool true => 257 - (intOf x).toNat | _ => 0)
  case atStart => exact HI.out
  case round =>
    obtain ⟨hb, hB, hs, ⟨k, hk, hz, rfl, rfl, hp, ho⟩ | ⟨rfl, rfl, ho⟩⟩ := hrel
    · have k0 : (0 : Int) ≤ k := by omega
      have hl : (freeTo s k).length ≤ k := freeTo_le s k
      have hfy : freeTo s k ++ [k] = freeTo s (k + 1) := (freeTo_yes hz).symm
      have hfl : (freeTo s k).length + 1 = (freeTo s (k + 1)).length := by rw [← hfy]; simp
      have o1 := one_nsl wr k
      have HN1 := Lib.hid o1
      have HOr := Lib.hid (ho.alloc (.cells #[.int .i64 (k : Int)] 3))
      have HPr := Lib.hid (hp.alloc (.cells #[.int .i64 (k : Int)] 3))
      have HSr := Lib.hid (hs.alloc (.cells #[.int .i64 (k : Int)] 3))
      have HBr := Lib.hid (hb.alloc hb.size (.cells #[.int .i64 (k : Int)] 3))
      have HLr := Lib.hid (show w1.heap.size ≤ (wr.alloc (.cells #[.int .i64 (k : Int)] 3)).heap.size by simp; omega)
      have HGS := Lib.hid (show gs < w1.heap.size from HS.out.lt)
      clear ho hb hs hp o1 hB hz
      go_wp2_with (at_builtin
                   refine wpList_append_nsl rfl (.tmp 24) (.tmp 26) rfl w1.heap.size _ (freeTo s k).length _ rfl HOr.out _ (some ⟨wr.heap.size, 0, none⟩) 1 1 [k] rfl HN1.out (by omega) HLr.out ?_
                   intro v' W3 hown' hg'
                   rw [hfy, hfl] at hown'
                   have hne1 : ∀ q, q < w1.heap.size → some q ≠ Value.ownBlock _ := fun q hq e => by have := (HOr.out.lt q e.symm).1; omega
                   have HP3 := Lib.hid (HPr.out.grown hg' (hne1 gp HGB.out))
                   have HS3 := Lib.hid (HSr.out.grown hg' (hne1 gs HGS.out))
                   have HB3 := Lib.hid (show Below w.heap.size w W3 from HBr.out.grown hg' HBr.out.size fun q hq => by have h1 := (HOr.out.lt q hq).1; have h2 := HB.out.size; omega)
                   have HL3 := Lib.hid (Nat.le_trans HLr.out hg'.size)
                   have HO3 := Lib.hid hown'; clear hown' hg' hne1)
      have hx : Calls Try.prog 35 #[.pointer (some ⟨gp, 0, none⟩), .pointer (some ⟨gs, 0, none⟩)] W3 fun e w' => ∃ x ok, e = .returned (.tuple #[x, ok]) ∧ FreeI s w1 w gp gs (.slice a 256 c) v' x ok w' ∧ ∀ j : Nat, x = .int .i64 j → ok = .bool true → k < j := by
        rcases first_from (fun k => mkT s k = 0) (k + 1) 256 with ⟨j, hj, hj2, hz, hbefore⟩ | hall
        · refine (spNext_some gp gs w.heap.size a 256 c s (k + 1) j W3 HP3.out HS3.out HNE.out (HA.out.below HB3.out) HG.out hj hj2 hz hbefore).mono ?_
          rintro e w2 ⟨rfl, hg, hp2⟩
          have e0 : freeTo s j = freeTo s (k + 1) := freeTo_same hj hbefore
          obtain ⟨i1, i2, i3, i4⟩ := FreeI.next (s := s) (p := k + 1) HB3.out HL3.out HS3.out HNE.out HG.out HGB.out HO3.out hg
          exact ⟨_, _, rfl, ⟨i1, i2, i3, .inl ⟨j, hj2, hz, rfl, rfl, hp2, by rw [e0]; exact i4⟩⟩, fun j' h1 _ => by injection h1; omega⟩
        · refine (spNext_none gp gs w.heap.size a 256 c s (k + 1) W3 HP3.out HS3.out HNE.out (HA.out.below HB3.out) HG.out (by omega) hall).mono ?_
          rintro e w2 ⟨rfl, hg, hp2⟩
          have e0 : freeTo s 256 = freeTo s (k + 1) := freeTo_same (by omega) hall
          obtain ⟨i1, i2, i3, i4⟩ := FreeI.next (s := s) (p := k + 1) HB3.out HL3.out HS3.out HNE.out HG.out HGB.out HO3.out hg
          exact ⟨_, _, rfl, ⟨i1, i2, i3, .inr ⟨rfl, rfl, by rw [e0]; exact i4⟩⟩, fun _ _ h2 => (by cases h2)⟩
      have HX := Lib.hid hx
      clear hx
      refine HX.out.mono ?_
      rintro e w4 ⟨x', ok', rfl, hI, hM⟩
      have HI := Lib.hid hI
      have HMM := Lib.hid hM
      clear hI hM
      go_wp2_with fail
      go_roundw
      case rel => exact HI.out
      case measure =>
        rcases HI.out.2.2.2 with ⟨j, hj, _, rfl, rfl, _⟩ | ⟨rfl, rfl, _⟩
        · have := HMM.out j rfl rfl
          simp [intOf]; omega
        · simp [intOf]; omega
    · have HO := Lib.hid (own_mono ho HB.out.size)
      have HB2 := Lib.hid hb
      clear ho hb hB hs
      go_wp2_with fail
      go_ret2
      exact ⟨_, rfl, HO.out, HB2.out⟩
end Go.Proofs.Ytiekbgfglmfbkaa
