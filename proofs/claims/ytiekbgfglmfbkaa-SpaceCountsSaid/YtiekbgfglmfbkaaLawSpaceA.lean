/-
  What layer 12's statements call beside space: alive, spoil, counted; and what program and document answer alike.
-/
import Derived.Test.YtiekbgfglmfbkaaSpCalls
import Derived.Test.YtiekbgfglmfbkaaSpFree
namespace Go.Proofs.Ytiekbgfglmfbkaa
open Go.RowKit Go.Shelf
set_option maxRecDepth 100000

theorem newTo_first : mkT (newTo 12) 12 = 0 ∧ ∀ i, i < 12 → mkT (newTo 12) i ≠ 0 := by
  refine ⟨by rw [newTo_mk 12 (by omega)]; rfl, fun i hi => ?_⟩
  rw [newTo_mk i (by omega), if_pos hi]
  omega
theorem takenNew_may : MayT ((newTo 12).set 12 1) := set_may new_may (by omega) (by omega) 1 (by decide)
theorem takenNew_mk : mkT ((newTo 12).set 12 1) 12 = 1 := by
  rw [mkT_set _ _ _ _ (by rw [newTo_length (by omega)]; omega), if_pos rfl]
  rfl
/-- The first one is taken. -/
theorem spAlive_any (w : World) : Calls Try.prog 13 #[] w fun e w' => e = .returned (.bool true) ∧ Below w.heap.size w w' := by
  have HN := Lib.hid (spNew_any w)
  have hl : ((newTo 12).set 12 1).length = 256 := takenNew_may.1
  have HL := Lib.hid hl
  clear hl
  go_enter Try.func13, Try.ntmps13
  go_wp2_with fail
  refine HN.out.mono ?_
  rintro e w1 ⟨v, rfl, ho, b1⟩
  obtain ⟨a, c, rfl⟩ := own_slice ho
  have HT := Lib.hid (spTake_ok a 256 c _ 12 w1 (own_bsl ho) new_may (by omega) newTo_first.1 newTo_first.2)
  have HB := Lib.hid b1
  clear ho b1
  go_wp2_with fail
  refine HT.out.mono ?_
  rintro e w2 ⟨v2, rfl, ho, b2⟩
  rw [HL.out] at ho
  obtain ⟨g, c2, rfl⟩ := own_at ho (by omega)
  have hc := own_mk ho 12 (by omega)
  rw [takenNew_mk] at hc
  have HB2 := Lib.hid (HB.out.trans (b2.mono HB.out.size))
  clear ho b2
  go_wp2_with fail
  go_ret
  exact ⟨rfl, HB2.out⟩
set_option maxHeartbeats 1000000 in
/-- All bytes of a row of one's own are turned: nothing else is written. -/
theorem spoil_any (B n : Nat) (v : Value) (s : List UInt8) (w : World) (h : w.ownsRow B 5 1 v n (vals s)) (hn : n ≤ 100000) :
    Calls Try.prog 22 #[v] w fun e w' => e = .returned (.tuple #[]) ∧ w.grownBy w' v.ownBlock := by
  rcases Nat.eq_zero_or_pos n with h0 | h0
  · subst h0
    obtain ⟨a, c, rfl⟩ := own_slice h
    have HG := Lib.hid (World.grownBy.refl w (Value.ownBlock (.slice a 0 c)))
    clear h
    go_enter Try.func22, Try.ntmps22
    go_wp2_with fail
    go_loop [2] (fun i => i = .int .i64 0) (fun _ => 0)
    case atStart => rfl
    case round =>
      obtain rfl := hrel
      go_wp2_with fail
      refine bodyPost_end (results_none rfl _ _ _) rfl ?_
      exact ⟨rfl, HG.out⟩
  · obtain ⟨g, c, rfl⟩ := own_at h h0
    have HO := Lib.hid h
    have n0 : (0 : Int) ≤ n := by omega
    have n1 : (n : Int) ≤ 100000 := by omega
    clear h
    go_enter Try.func22, Try.ntmps22
    go_wp2_with fail
    go_loopw [2] (fun i wr => ∃ k : Nat, k ≤ n ∧ i = .int .i64 k ∧ (∃ t, wr.ownsRow B 5 1 (.slice (some ⟨g, 0, none⟩) n c) n (vals t)) ∧ w.grownBy wr (some g)) (fun i _ => n - (intOf i).toNat)
    case atStart => exact ⟨0, Nat.zero_le _, rfl, ⟨s, HO.out⟩, World.grownBy.refl _ _⟩
    case round =>
      obtain ⟨k, hk, rfl, ⟨t, ho⟩, hg⟩ := hrel
      have k0 : (0 : Int) ≤ k := by omega
      by_cases hlt : k < n
      · have k1 : (k : Int) < n := by omega
        have hc := own_mk ho k hlt
        obtain ⟨x, hx⟩ : ∃ x : Nat, mkT t k = x := ⟨_, rfl⟩
        have hxl : x < 256 := by rw [← hx]; exact mkT_lt t k
        rw [hx] at hc
        obtain ⟨y, hy⟩ : ∃ y : UInt8, IntKind.u8.wrap ((x : Int) + 1) = (y.toNat : Int) := ⟨UInt8.ofNat ((x + 1) % 256), by simp [IntKind.wrap, IntKind.bits, IntKind.signed]⟩
        have hw := own_set ho k hlt y
        have hf : wr.frozen? ⟨g, k, none⟩ = false := by
          obtain ⟨cs, hbk⟩ := own_blk ho
          exact hbk.frozen k
        have hg2 := only_setCell hg (p := ⟨g, k, none⟩) (.inl rfl) (.int .u8 (y.toNat : Int))
        obtain ⟨z, hz⟩ : ∃ z : Int, (y.toNat : Int) = z := ⟨_, rfl⟩
        rw [hz] at hy hw hg2
        have HO2 := Lib.hid hw
        have HG2 := Lib.hid hg2
        clear ho hg hw hg2 hx hz
        go_wp2_with fail
        go_roundw
        case rel => exact ⟨k + 1, by omega, by go_num, ⟨_, HO2.out⟩, HG2.out⟩
        case measure => simp [intOf]; omega
      · have hkk : k = n := by omega
        have k3 : (n : Int) ≤ k := by omega
        have HG2 := Lib.hid hg
        clear ho hg hkk hlt hk
        go_wp2_with fail
        refine bodyPost_end (results_none rfl _ _ _) rfl ?_
        exact ⟨rfl, HG2.out⟩
/-- How many blocks of a table have each mark. -/
def cntV (s : List UInt8) : Value := .agg #[.int .i64 (cntTo s 0 256 : Nat), .int .i64 (cntTo s 1 256 : Nat), .int .i64 (cntTo s 2 256 : Nat)]
set_option maxHeartbeats 2000000 in
theorem counted_any (a : Option Addr) (n c : Nat) (s : List UInt8) (w : World) (hA : Bsl w w.heap.size a n c s) (h : MayT s) :
    Calls Try.prog 23 #[.slice a n c] w fun e w' => e = .returned (cntV s) ∧ Below w.heap.size w w' := by
  have hn := h.len_of hA
  subst hn
  obtain ⟨b, off, rfl, _⟩ := hA.at_ (by omega)
  have b1 := (Below.refl w.heap.size w).alloc (Nat.le_refl _) (.cells #[.int .i64 0, .int .i64 0, .int .i64 0] 47)
  have b2 := b1.alloc b1.size (.cells #[.int .i64 0, .int .i64 0, .int .i64 0] 47)
  have z1 := (Blk.new w 47 #[.int .i64 0, .int .i64 0, .int .i64 0]).alloc (.cells #[.int .i64 0, .int .i64 0, .int .i64 0] 47)
  have z2 := Blk.new (w.alloc (.cells #[.int .i64 0, .int .i64 0, .int .i64 0] 47)) 47 #[.int .i64 0, .int .i64 0, .int .i64 0]
  rw [World.size_alloc] at z2
  have HB := Lib.hid b2
  have HZ1 := Lib.hid z1
  have HZ2 := Lib.hid z2
  have HA := Lib.hid hA
  have HM := Lib.hid h
  clear b1 b2 z1 z2 hA h
  go_enter Try.func23, Try.ntmps23
  go_wp2_with fail
  obtain ⟨g1, hg1⟩ : ∃ g1, w.heap.size = g1 := ⟨_, rfl⟩
  obtain ⟨g2, hg2⟩ : ∃ g2, g1 + 1 = g2 := ⟨_, rfl⟩
  rw [hg1] at HB HZ1 HZ2 HA ⊢
  rw [hg2] at HZ2 ⊢
  have HG := Lib.hid hg2
  have HG1 := Lib.hid hg1
  clear hg1 hg2
  go_loopw [4] (fun i wr => ∃ k : Nat, k ≤ 256 ∧ i = .int .i64 k ∧ Below g1 w wr ∧ Blk wr g1 47 #[.int .i64 0, .int .i64 0, .int .i64 0] ∧ Blk wr g2 47 #[.int .i64 (cntTo s 0 k : Nat), .int .i64 (cntTo s 1 k : Nat), .int .i64 (cntTo s 2 k : Nat)]) (fun i _ => 256 - (intOf i).toNat)
  case atStart => exact ⟨0, Nat.zero_le _, rfl, HB.out, HZ1.out, HZ2.out⟩
  case round =>
    obtain ⟨k, hk, rfl, hb, z1, z2⟩ := hrel
    have k0 : (0 : Int) ≤ k := by omega
    obtain ⟨c0, h0⟩ : ∃ x, cntTo s 0 k = x := ⟨_, rfl⟩
    obtain ⟨c1, h1⟩ : ∃ x, cntTo s 1 k = x := ⟨_, rfl⟩
    obtain ⟨c2, h2⟩ : ∃ x, cntTo s 2 k = x := ⟨_, rfl⟩
    have l0 := cntTo_le s 0 k
    have l1 := cntTo_le s 1 k
    have l2 := cntTo_le s 2 k
    rw [h0] at l0 z2
    rw [h1] at l1 z2
    rw [h2] at l2 z2
    have hfz := fun i => z2.frozen i
    have d0 := z2.cell 0
    have d1 := z2.cell 1
    have d2 := z2.cell 2
    by_cases hlt : k < 256
    · have k1 : (k : Int) < 256 := by omega
      have hc := (HA.out.below hb).mk k hlt
      have hm := HM.out.2.1 k hlt
      have e0 : cntTo s 0 (k + 1) = c0 + if mkT s k = 0 then 1 else 0 := by rw [cntTo, h0]
      have e1 : cntTo s 1 (k + 1) = c1 + if mkT s k = 1 then 1 else 0 := by rw [cntTo, h1]
      have e2 : cntTo s 2 (k + 1) = c2 + if mkT s k = 2 then 1 else 0 := by rw [cntTo, h2]
      have w0 : IntKind.i64.wrap ((c0 : Int) + 1) = (c0 : Int) + 1 := IntWalk.i64_in _ (by omega)
      have w1 : IntKind.i64.wrap ((c1 : Int) + 1) = (c1 : Int) + 1 := IntWalk.i64_in _ (by omega)
      have w2 : IntKind.i64.wrap ((c2 : Int) + 1) = (c2 : Int) + 1 := IntWalk.i64_in _ (by omega)
      have hgb : g1 ≤ g2 := by have := HG.out; omega
      have hgn : g1 ≠ g2 := by have := HG.out; omega
      have H0 := Lib.hid e0
      have H1 := Lib.hid e1
      have H2 := Lib.hid e2
      clear h0 h1 h2 e0 e1 e2
      rcases (show mkT s k = 0 ∨ mkT s k = 1 ∨ mkT s k = 2 by omega) with e | e | e
      · rw [e] at hc H0 H1 H2
        have HZ := Lib.hid (z2.set_ 0 (.int .i64 ((c0 : Int) + 1)))
        have HY := Lib.hid (z1.far (p := ⟨g2, 0, none⟩) hgn (.int .i64 ((c0 : Int) + 1)))
        have HBr := Lib.hid (hb.setCell (p := ⟨g2, 0, none⟩) hgb (.int .i64 ((c0 : Int) + 1)))
        clear z1 z2 hb e hm
        go_wp2_with fail
        go_roundw
        case rel => exact ⟨k + 1, by omega, by go_num, HBr.out, HY.out, by rw [H0.out, H1.out, H2.out]; exact HZ.out⟩
        case measure => simp [intOf]; omega
      · rw [e] at hc H0 H1 H2
        have HZ := Lib.hid (z2.set_ 1 (.int .i64 ((c1 : Int) + 1)))
        have HY := Lib.hid (z1.far (p := ⟨g2, 1, none⟩) hgn (.int .i64 ((c1 : Int) + 1)))
        have HBr := Lib.hid (hb.setCell (p := ⟨g2, 1, none⟩) hgb (.int .i64 ((c1 : Int) + 1)))
        clear z1 z2 hb e hm
        go_wp2_with fail
        go_roundw
        case rel => exact ⟨k + 1, by omega, by go_num, HBr.out, HY.out, by rw [H0.out, H1.out, H2.out]; exact HZ.out⟩
        case measure => simp [intOf]; omega
      · rw [e] at hc H0 H1 H2
        have HZ := Lib.hid (z2.set_ 2 (.int .i64 ((c2 : Int) + 1)))
        have HY := Lib.hid (z1.far (p := ⟨g2, 2, none⟩) hgn (.int .i64 ((c2 : Int) + 1)))
        have HBr := Lib.hid (hb.setCell (p := ⟨g2, 2, none⟩) hgb (.int .i64 ((c2 : Int) + 1)))
        clear z1 z2 hb e hm
        go_wp2_with fail
        go_roundw
        case rel => exact ⟨k + 1, by omega, by go_num, HBr.out, HY.out, by rw [H0.out, H1.out, H2.out]; exact HZ.out⟩
        case measure => simp [intOf]; omega
    · have hkk : k = 256 := by omega
      rw [hkk] at h0 h1 h2
      have k3 : (256 : Int) ≤ k := by omega
      have f1 := fun i => z1.frozen i
      have d3 := z1.cell 0
      have d4 := z1.cell 1
      have d5 := z1.cell 2
      have hy := ((z1.set_ 0 (.int .i64 (c0 : Int))).set_ 1 (.int .i64 (c1 : Int))).set_ 2 (.int .i64 (c2 : Int))
      have hbb := ((hb.setCell (p := ⟨g1, 0, none⟩) (Nat.le_refl _) (.int .i64 (c0 : Int))).setCell (p := ⟨g1, 1, none⟩) (Nat.le_refl _) (.int .i64 (c1 : Int))).setCell (p := ⟨g1, 2, none⟩) (Nat.le_refl _) (.int .i64 (c2 : Int))
      have HY := Lib.hid hy
      have HBr := Lib.hid hbb
      have H0 := Lib.hid h0
      have H1 := Lib.hid h1
      have H2 := Lib.hid h2
      clear z1 z2 hb hkk hlt hk hy hbb h0 h1 h2
      go_wp2_with fail
      have e0 := HY.out.cell 0
      have e1 := HY.out.cell 1
      have e2 := HY.out.cell 2
      refine bodyPost_ret (v := .agg #[.int .i64 (c0 : Int), .int .i64 (c1 : Int), .int .i64 (c2 : Int)]) (by simp [results, Try.f23, go_sem, e0, e1, e2]) rfl ?_
      exact ⟨by rw [cntV, H0.out, H1.out, H2.out], by rw [HG1.out]; exact HBr.out⟩
end Go.Proofs.Ytiekbgfglmfbkaa
