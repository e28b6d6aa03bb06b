/-
  dev.lastOnes tells for each block which is the last one of the writes whose mark is true.
-/
import Derived.Test.YtgpojnhhcobcbaaDevMay
import Derived.Test.YtgpojnhhcobcbaaMapI
namespace Go.Proofs.Ytgpojnhhcobcbaa
open Go.RowKit Go.Shelf
set_option maxRecDepth 100000

/-- A new map that tells of each block its last one among the first m. -/
def LastPost (ws : WrL) (mk : Nat → Bool) (m : Nat) (w : World) (e : Ending) (w' : World) : Prop :=
  ∃ g, e = .returned (.map (some g)) ∧ w.heap.size ≤ g ∧ MapI w' g m (fun p => lastTo ws mk p m) ∧ Below w.heap.size w w'
theorem lastTo_put {ws : WrL} {mk : Nat → Bool} {k : Nat} {p : Int} {s : List UInt8} (h : wr_ ws k = (p, s)) (hm : mk k = true) (q : Int) : (if q = p then some k else lastTo ws mk q k) = lastTo ws mk q (k + 1) := by
  rw [lastTo, h]
  by_cases e : q = p
  · rw [if_pos e, if_pos ⟨hm, e.symm⟩]
  · rw [if_neg e, if_neg (fun h => e h.2.symm)]
theorem lastTo_skip {ws : WrL} {mk : Nat → Bool} {k : Nat} (hm : mk k = false) (q : Int) : lastTo ws mk q k = lastTo ws mk q (k + 1) := by
  rw [lastTo, if_neg (fun h => by rw [hm] at h; cases h.1)]
set_option maxHeartbeats 1000000 in
theorem dLast0_any (a : Option Addr) (m c : Nat) (ws : WrL) (mk : Nat → Bool) (w : World) (hW : Wts w w.heap.size a m c ws)
    (hF : ∀ W, Below w.heap.size w W → ∀ i, i < m → Calls Try.prog 41 #[.int .i64 (i : Nat)] W fun e w' => e = .returned (.bool (mk i)) ∧ Below W.heap.size W w') :
    Calls Try.prog 42 #[.slice a m c, .func (.func 41) #[] #[]] w (LastPost ws mk m w) := by
  have hmm := @run_makeMap Try.prog
  have m0 : (0 : Int) ≤ m := by omega
  have m1 := hW.len_le
  obtain ⟨g, hg⟩ : ∃ g, w.heap.size = g := ⟨_, rfl⟩
  obtain ⟨w0, hw0⟩ : ∃ w0, w.alloc (.map #[] 0) = w0 := ⟨_, rfl⟩
  have hM := mapI_made w
  have hb0 : Below w.heap.size w w0 := by rw [← hw0]; exact (Below.refl _ w).alloc (Nat.le_refl _) _
  rw [hw0, hg] at hM
  rw [hg] at hb0
  have hM0 : MapI w0 g 0 (fun p => lastTo ws mk p 0) := hM
  have HW := Lib.hid hW
  have HF := Lib.hid hF
  have HG := Lib.hid hg
  have HM0 := Lib.hid hM0
  have HB0 := Lib.hid hb0
  clear hW hF hM hM0 hb0
  go_enter Try.func42, Try.ntmps42
  go_wp2_with fail
  clear hg hw0
  go_loopw [11] (fun i wr => ∃ k : Nat, k ≤ m ∧ i = .int .i64 k ∧ Hid (MapI wr g k (fun p => lastTo ws mk p k)) ∧ Hid (Below g w wr)) (fun i _ => m - (intOf i).toNat)
  case atStart => exact ⟨0, Nat.zero_le _, rfl, HM0, HB0⟩
  case round =>
    obtain ⟨k, hk, rfl, HM, HB⟩ := hrel
    have k0 : (0 : Int) ≤ k := by omega
    by_cases hlt : k < m
    · have k1 : (k : Int) < m := by omega
      obtain ⟨b, off, p, A, l, c', s, rfl, hlb, hl, hwf, hc, hd, hA⟩ := HW.out.at_ hlt
      rw [HG.out] at hlb
      have c1 := (HB.out.cell (p := ⟨b, off + k * 2, none⟩) hlb).trans hc
      have c2 := (HB.out.cell (p := ⟨b, off + k * 2 + 1, none⟩) hlb).trans hd
      have hx := Blk.new wr 55 #[.int .i64 p, .slice A l c']
      have ba := (Below.refl wr.heap.size wr).alloc (Nat.le_refl _) (.cells #[.int .i64 p, .slice A l c'] 55)
      have hgr : g < wr.heap.size := HM.out.lt
      have ha := HM.out.below ba hgr
      have hb := HB.out.trans (ba.mono (Nat.le_of_lt hgr))
      have hcl := HF.out _ (by rw [HG.out]; exact hb) k hlt
      obtain ⟨wa, hwa⟩ : ∃ wa, wr.alloc (.cells #[.int .i64 p, .slice A l c'] 55) = wa := ⟨_, rfl⟩
      obtain ⟨gt, hgt⟩ : ∃ gt, wr.heap.size = gt := ⟨_, rfl⟩
      rw [hwa, hgt] at hx
      rw [hwa] at ha hb hcl
      rw [hgt] at hgr
      have HX := Lib.hid hx
      have HA := Lib.hid ha
      have HBa := Lib.hid hb
      have HC := Lib.hid hcl
      have HL := Lib.hid hl
      have HWF := Lib.hid hwf
      clear hc hd hA ba hx ha hb hcl HM HB hl hwf
      go_wp2_with fail
      refine HC.out.mono ?_
      rintro e w1 ⟨rfl, b1⟩
      have hgw := HA.out.lt
      have HB1 := Lib.hid (HBa.out.trans (b1.mono (by omega)))
      have HM1 := Lib.hid (HA.out.below b1 hgw)
      have d0 := (HX.out.below b1 HX.out.lt).cell 0
      clear b1 hgt hwa c1 c2 HC HA HBa HX hgw hgr
      by_cases hm : mk k = true
      · have HMK := Lib.hid hm
        go_wp2_with (at_mapUpdate; refine wpList_mapI_put rfl (.tmp 19) (.tmp 21) (.tmp 22) rfl g k _ rfl HM1.out (by unfold maxLen; omega) p k HWF.out (by omega) rfl rfl ?_
                     intro w2 hm2 hg2
                     have HM2 := Lib.hid (hm2.congr (lastTo_put HL.out HMK.out))
                     have HB2 := Lib.hid (HB1.out.grown hg2 (by have := HM1.out.lt; omega) (fun j e => by cases e; exact Nat.le_refl _))
                     clear hm2 hg2)
        go_roundw
        case rel => exact ⟨k + 1, by omega, by go_num, HM2, HB2⟩
        case measure => simp [intOf]; omega
      · have hm' : mk k = false := by simpa using hm
        have HM2 := Lib.hid ((HM1.out.congr (lastTo_skip hm')))
        clear hm
        go_wp2_with fail
        go_roundw
        case rel =>
          obtain ⟨D, h1, h2⟩ := HM2.out
          exact ⟨k + 1, by omega, by go_num, Lib.hid ⟨D, h1.mono (Nat.le_succ _), h2⟩, HB1⟩
        case measure => simp [intOf]; omega
    · obtain rfl : k = m := by omega
      go_wp2_with fail
      go_ret
      exact ⟨g, rfl, by rw [HG.out]; exact Nat.le_refl _, HM.out, by rw [HG.out]; exact HB.out⟩
set_option maxHeartbeats 1000000 in
theorem dLast1_any (a : Option Addr) (m c : Nat) (ws : WrL) (mk : Nat → Bool) (pa : Addr) (w : World) (hW : Wts w w.heap.size a m c ws)
    (hF : ∀ W, Below w.heap.size w W → ∀ i, i < m → Calls Try.prog 46 #[.int .i64 (i : Nat), .pointer (some pa)] W fun e w' => e = .returned (.bool (mk i)) ∧ Below W.heap.size W w') :
    Calls Try.prog 42 #[.slice a m c, .func (.func 46) #[] #[.pointer (some pa)]] w (LastPost ws mk m w) := by
  have hmm := @run_makeMap Try.prog
  have m0 : (0 : Int) ≤ m := by omega
  have m1 := hW.len_le
  obtain ⟨g, hg⟩ : ∃ g, w.heap.size = g := ⟨_, rfl⟩
  obtain ⟨w0, hw0⟩ : ∃ w0, w.alloc (.map #[] 0) = w0 := ⟨_, rfl⟩
  have hM := mapI_made w
  have hb0 : Below w.heap.size w w0 := by rw [← hw0]; exact (Below.refl _ w).alloc (Nat.le_refl _) _
  rw [hw0, hg] at hM
  rw [hg] at hb0
  have hM0 : MapI w0 g 0 (fun p => lastTo ws mk p 0) := hM
  have HW := Lib.hid hW
  have HF := Lib.hid hF
  have HG := Lib.hid hg
  have HM0 := Lib.hid hM0
  have HB0 := Lib.hid hb0
  clear hW hF hM hM0 hb0
  go_enter Try.func42, Try.ntmps42
  go_wp2_with fail
  clear hg hw0
  go_loopw [11] (fun i wr => ∃ k : Nat, k ≤ m ∧ i = .int .i64 k ∧ Hid (MapI wr g k (fun p => lastTo ws mk p k)) ∧ Hid (Below g w wr)) (fun i _ => m - (intOf i).toNat)
  case atStart => exact ⟨0, Nat.zero_le _, rfl, HM0, HB0⟩
  case round =>
    obtain ⟨k, hk, rfl, HM, HB⟩ := hrel
    have k0 : (0 : Int) ≤ k := by omega
    by_cases hlt : k < m
    · have k1 : (k : Int) < m := by omega
      obtain ⟨b, off, p, A, l, c', s, rfl, hlb, hl, hwf, hc, hd, hA⟩ := HW.out.at_ hlt
      rw [HG.out] at hlb
      have c1 := (HB.out.cell (p := ⟨b, off + k * 2, none⟩) hlb).trans hc
      have c2 := (HB.out.cell (p := ⟨b, off + k * 2 + 1, none⟩) hlb).trans hd
      have hx := Blk.new wr 55 #[.int .i64 p, .slice A l c']
      have ba := (Below.refl wr.heap.size wr).alloc (Nat.le_refl _) (.cells #[.int .i64 p, .slice A l c'] 55)
      have hgr : g < wr.heap.size := HM.out.lt
      have ha := HM.out.below ba hgr
      have hb := HB.out.trans (ba.mono (Nat.le_of_lt hgr))
      have hcl := HF.out _ (by rw [HG.out]; exact hb) k hlt
      obtain ⟨wa, hwa⟩ : ∃ wa, wr.alloc (.cells #[.int .i64 p, .slice A l c'] 55) = wa := ⟨_, rfl⟩
      obtain ⟨gt, hgt⟩ : ∃ gt, wr.heap.size = gt := ⟨_, rfl⟩
      rw [hwa, hgt] at hx
      rw [hwa] at ha hb hcl
      rw [hgt] at hgr
      have HX := Lib.hid hx
      have HA := Lib.hid ha
      have HBa := Lib.hid hb
      have HC := Lib.hid hcl
      have HL := Lib.hid hl
      have HWF := Lib.hid hwf
      clear hc hd hA ba hx ha hb hcl HM HB hl hwf
      go_wp2_with fail
      refine HC.out.mono ?_
      rintro e w1 ⟨rfl, b1⟩
      have hgw := HA.out.lt
      have HB1 := Lib.hid (HBa.out.trans (b1.mono (by omega)))
      have HM1 := Lib.hid (HA.out.below b1 hgw)
      have d0 := (HX.out.below b1 HX.out.lt).cell 0
      clear b1 hgt hwa c1 c2 HC HA HBa HX hgw hgr
      by_cases hm : mk k = true
      · have HMK := Lib.hid hm
        go_wp2_with (at_mapUpdate; refine wpList_mapI_put rfl (.tmp 19) (.tmp 21) (.tmp 22) rfl g k _ rfl HM1.out (by unfold maxLen; omega) p k HWF.out (by omega) rfl rfl ?_
                     intro w2 hm2 hg2
                     have HM2 := Lib.hid (hm2.congr (lastTo_put HL.out HMK.out))
                     have HB2 := Lib.hid (HB1.out.grown hg2 (by have := HM1.out.lt; omega) (fun j e => by cases e; exact Nat.le_refl _))
                     clear hm2 hg2)
        go_roundw
        case rel => exact ⟨k + 1, by omega, by go_num, HM2, HB2⟩
        case measure => simp [intOf]; omega
      · have hm' : mk k = false := by simpa using hm
        have HM2 := Lib.hid ((HM1.out.congr (lastTo_skip hm')))
        clear hm
        go_wp2_with fail
        go_roundw
        case rel =>
          obtain ⟨D, h1, h2⟩ := HM2.out
          exact ⟨k + 1, by omega, by go_num, Lib.hid ⟨D, h1.mono (Nat.le_succ _), h2⟩, HB1⟩
        case measure => simp [intOf]; omega
    · obtain rfl : k = m := by omega
      go_wp2_with fail
      go_ret
      exact ⟨g, rfl, by rw [HG.out]; exact Nat.le_refl _, HM.out, by rw [HG.out]; exact HB.out⟩
set_option maxHeartbeats 1000000 in
theorem dLast2_any (a : Option Addr) (m c : Nat) (ws : WrL) (mk : Nat → Bool) (pa pb : Addr) (w : World) (hW : Wts w w.heap.size a m c ws)
    (hF : ∀ W, Below w.heap.size w W → ∀ i, i < m → Calls Try.prog 43 #[.int .i64 (i : Nat), .pointer (some pa), .pointer (some pb)] W fun e w' => e = .returned (.bool (mk i)) ∧ Below W.heap.size W w') :
    Calls Try.prog 42 #[.slice a m c, .func (.func 43) #[] #[.pointer (some pa), .pointer (some pb)]] w (LastPost ws mk m w) := by
  have hmm := @run_makeMap Try.prog
  have m0 : (0 : Int) ≤ m := by omega
  have m1 := hW.len_le
  obtain ⟨g, hg⟩ : ∃ g, w.heap.size = g := ⟨_, rfl⟩
  obtain ⟨w0, hw0⟩ : ∃ w0, w.alloc (.map #[] 0) = w0 := ⟨_, rfl⟩
  have hM := mapI_made w
  have hb0 : Below w.heap.size w w0 := by rw [← hw0]; exact (Below.refl _ w).alloc (Nat.le_refl _) _
  rw [hw0, hg] at hM
  rw [hg] at hb0
  have hM0 : MapI w0 g 0 (fun p => lastTo ws mk p 0) := hM
  have HW := Lib.hid hW
  have HF := Lib.hid hF
  have HG := Lib.hid hg
  have HM0 := Lib.hid hM0
  have HB0 := Lib.hid hb0
  clear hW hF hM hM0 hb0
  go_enter Try.func42, Try.ntmps42
  go_wp2_with fail
  clear hg hw0
  go_loopw [11] (fun i wr => ∃ k : Nat, k ≤ m ∧ i = .int .i64 k ∧ Hid (MapI wr g k (fun p => lastTo ws mk p k)) ∧ Hid (Below g w wr)) (fun i _ => m - (intOf i).toNat)
  case atStart => exact ⟨0, Nat.zero_le _, rfl, HM0, HB0⟩
  case round =>
    obtain ⟨k, hk, rfl, HM, HB⟩ := hrel
    have k0 : (0 : Int) ≤ k := by omega
    by_cases hlt : k < m
    · have k1 : (k : Int) < m := by omega
      obtain ⟨b, off, p, A, l, c', s, rfl, hlb, hl, hwf, hc, hd, hA⟩ := HW.out.at_ hlt
      rw [HG.out] at hlb
      have c1 := (HB.out.cell (p := ⟨b, off + k * 2, none⟩) hlb).trans hc
      have c2 := (HB.out.cell (p := ⟨b, off + k * 2 + 1, none⟩) hlb).trans hd
      have hx := Blk.new wr 55 #[.int .i64 p, .slice A l c']
      have ba := (Below.refl wr.heap.size wr).alloc (Nat.le_refl _) (.cells #[.int .i64 p, .slice A l c'] 55)
      have hgr : g < wr.heap.size := HM.out.lt
      have ha := HM.out.below ba hgr
      have hb := HB.out.trans (ba.mono (Nat.le_of_lt hgr))
      have hcl := HF.out _ (by rw [HG.out]; exact hb) k hlt
      obtain ⟨wa, hwa⟩ : ∃ wa, wr.alloc (.cells #[.int .i64 p, .slice A l c'] 55) = wa := ⟨_, rfl⟩
      obtain ⟨gt, hgt⟩ : ∃ gt, wr.heap.size = gt := ⟨_, rfl⟩
      rw [hwa, hgt] at hx
      rw [hwa] at ha hb hcl
      rw [hgt] at hgr
      have HX := Lib.hid hx
      have HA := Lib.hid ha
      have HBa := Lib.hid hb
      have HC := Lib.hid hcl
      have HL := Lib.hid hl
      have HWF := Lib.hid hwf
      clear hc hd hA ba hx ha hb hcl HM HB hl hwf
      go_wp2_with fail
      refine HC.out.mono ?_
      rintro e w1 ⟨rfl, b1⟩
      have hgw := HA.out.lt
      have HB1 := Lib.hid (HBa.out.trans (b1.mono (by omega)))
      have HM1 := Lib.hid (HA.out.below b1 hgw)
      have d0 := (HX.out.below b1 HX.out.lt).cell 0
      clear b1 hgt hwa c1 c2 HC HA HBa HX hgw hgr
      by_cases hm : mk k = true
      · have HMK := Lib.hid hm
        go_wp2_with (at_mapUpdate; refine wpList_mapI_put rfl (.tmp 19) (.tmp 21) (.tmp 22) rfl g k _ rfl HM1.out (by unfold maxLen; omega) p k HWF.out (by omega) rfl rfl ?_
                     intro w2 hm2 hg2
                     have HM2 := Lib.hid (hm2.congr (lastTo_put HL.out HMK.out))
                     have HB2 := Lib.hid (HB1.out.grown hg2 (by have := HM1.out.lt; omega) (fun j e => by cases e; exact Nat.le_refl _))
                     clear hm2 hg2)
        go_roundw
        case rel => exact ⟨k + 1, by omega, by go_num, HM2, HB2⟩
        case measure => simp [intOf]; omega
      · have hm' : mk k = false := by simpa using hm
        have HM2 := Lib.hid ((HM1.out.congr (lastTo_skip hm')))
        clear hm
        go_wp2_with fail
        go_roundw
        case rel =>
          obtain ⟨D, h1, h2⟩ := HM2.out
          exact ⟨k + 1, by omega, by go_num, Lib.hid ⟨D, h1.mono (Nat.le_succ _), h2⟩, HB1⟩
        case measure => simp [intOf]; omega
    · obtain rfl : k = m := by omega
      go_wp2_with fail
      go_ret
      exact ⟨g, rfl, by rw [HG.out]; exact Nat.le_refl _, HM.out, by rw [HG.out]; exact HB.out⟩
end Go.Proofs.Ytgpojnhhcobcbaa
