/-
  What the document's own Unwrap answers is what wrap.Unwrap answers: the key that would be in the bytes, wrapped anew, is these bytes just if their tag is right.
-/
import Derived.Test.YtmlmgnifgcbehaaWrapRefB
namespace Go.Proofs.Ytmlmgnifgcbehaa
open Go.RowKit Go.Shelf
set_option maxRecDepth 100000

theorem right_iff (p s : List UInt8) (hs : s.length = 24) : wrapL p (keyOf p s) (s.take 4) = s ↔ Right p s := by
  constructor
  · intro h
    have := wrapL_right p (keyOf p s) (s.take 4) (keyOf_length p s hs) (by simp; omega)
    rwa [h] at this
  · exact wrapL_keyOf p s hs

set_option maxHeartbeats 4000000 in
theorem rUnwrap_fit (p : ByteArray) (hp : (p.size : Int) ≤ 64) (a : Option Addr) (cap : Nat) (s : List UInt8) (r : Bool) (hr : decide (s.drop 20 = tagL (stOf (strB p) s) (s.take 20)) = r) (w : World) (hA : Bsl w w.heap.size a 24 cap s) :
    Calls Try.prog 14 #[.string p, .slice a 24 cap] w (UnPost r (keyOf (strB p) s) w) := by
  have hmx : Try.prog.follows Departure.mixedOrders = true := by kernel_rfl
  have hs := hA.1
  have hcap := hA.2.1
  have hp0 : (0 : Int) ≤ p.size := by omega
  obtain ⟨b, off, rfl, hblt, _⟩ := hA.2.2.2.2 (by omega)
  have s1 : ∀ W : World, (Instr.slice 22 (.slice (some ⟨b, off, none⟩) 24 cap) none (some (.int .i64 4)) none).run Try.prog W = .ok (.slice (some ⟨b, off, none⟩) 4 cap) W := fun W => slice_to W _ 24 cap 4 (by omega)
  have s4 : ∀ W : World, (Instr.slice 22 (.slice (some ⟨b, off, none⟩) 24 cap) (some (.int .i64 4)) (some (.int .i64 20)) none).run Try.prog W = .ok (.slice (some ⟨b, off + 4, none⟩) 16 (cap - 4)) W := fun W => slice_lh W b off 24 cap 4 16 (by omega) (by omega)
  obtain ⟨n, hn⟩ : ∃ n, leN (s.take 4) = n := ⟨_, rfl⟩
  have h4 : (s.take 4).length = 4 := by simp; omega
  have hnl : n < 4294967296 := by
    have := leN_lt (s.take 4)
    rw [h4, hn] at this
    exact this
  have hle : leB 4 n = s.take 4 := by rw [← hn]; have := leB_leN (s.take 4); rwa [h4] at this
  have num := number_any b off 4 cap (s.take 4) h4 (by omega) w (by
    obtain ⟨b', off', e, _, hc⟩ := (hA.pre 4 (by omega)).2.2.2.2 (by omega)
    cases e
    exact hc)
  rw [hn] at num
  have HN := Lib.hid num; clear num
  have HLE := Lib.hid hle; clear hle hn h4
  have n0 : (0 : Int) ≤ n := by omega
  have n1 : (n : Int) ≤ 4294967295 := by omega
  have un : IntKind.u32.wrap (n : Int) = n := by simp [IntKind.wrap, IntKind.bits, IntKind.signed]; omega
  have hq : ((strOf (wrapL (strB p) (keyOf (strB p) s) (leB 4 n))).toList == (strOf s).toList) = r := by
    rw [HLE.out, strOf_toList, strOf_toList, ← hr]
    by_cases h : s.drop 20 = tagL (stOf (strB p) s) (s.take 20)
    · rw [(right_iff (strB p) s hs).2 h, decide_eq_true h]; simp
    · rw [decide_eq_false h, beq_eq_false_iff_ne.2 (fun e => h ((right_iff (strB p) s hs).1 e))]
  clear hr
  have HA := Lib.hid hA; clear hA
  have HS := Lib.hid hs; clear hs
  have HCAP := Lib.hid hcap; clear hcap hblt
  go_enter Try.func14, Try.ntmps14
  go_wp2_with fail
  refine HN.out.mono ?_
  rintro e w1 ⟨rfl, q, hw1⟩
  have b1 : Below w.heap.size w w1 := by rw [hw1]; exact below_drewN (Below.refl _ w) q
  have HA1 := Lib.hid (HA.out.step b1)
  have HB1 := Lib.hid b1; clear b1 hw1 HN HA
  go_wp2_with fail
  go_cut [7] from 18 to 23 (fun v wx => ∃ g c, v = .slice (some ⟨g, 0, none⟩) 16 c ∧ w.heap.size ≤ g ∧ Bsl wx wx.heap.size (some ⟨g, 0, none⟩) 16 c (keyOf (strB p) s) ∧ Below w1.heap.size w1 wx)
  case first =>
    have b2 : Below w1.heap.size w1 w1.drew := (Below.refl _ w1).drew
    obtain ⟨w2, hw2⟩ : ∃ w2, w1.drew = w2 := ⟨_, rfl⟩
    rw [hw2] at b2
    have HA2 := Lib.hid ((HA1.out.step b2).win 4 16 (by omega))
    have HB2 := Lib.hid b2; clear b2
    have HW2 := Lib.hid hw2; clear hw2
    have st := rstretched_any p (by omega) n hnl w2
    have HST := Lib.hid st; clear st
    refine wpS_start [0, 1, 2, 3, 4, 5, 6] hmx rfl HW2.out ?_
    refine wpS_read (v := ?_) rfl (by kernel_rfl) (by kernel_rfl) (by kernel_rfl) (fun _ _ _ h => h) (.inl ⟨by rfl, ?_⟩) ?_
    rotate_left
    · intro W hW
      go_simp
      with_reducible rfl
    try simp only [Act.put, List.setIfInBounds_toArray, List.set_cons_zero, List.set_cons_succ]
    refine wpS_read (v := ?_) rfl (by kernel_rfl) (by kernel_rfl) (by kernel_rfl) (fun _ _ _ h => h) (.inl ⟨by rfl, ?_⟩) ?_
    rotate_left
    · intro W hW
      go_simp
      with_reducible rfl
    try simp only [Act.put, List.setIfInBounds_toArray, List.set_cons_zero, List.set_cons_succ]
    refine wpS_read (v := ?_) rfl (by kernel_rfl) (by kernel_rfl) (by kernel_rfl) (fun _ _ _ h => h) (.inl ⟨by rfl, ?_⟩) ?_
    rotate_left
    · intro W hW
      go_simp
      with_reducible rfl
    try simp only [Act.put, List.setIfInBounds_toArray, List.set_cons_zero, List.set_cons_succ]
    refine wpS_read (v := ?_) rfl (by kernel_rfl) (by kernel_rfl) (by kernel_rfl) (fun _ _ _ h => h) (.inl ⟨by rfl, ?_⟩) ?_
    rotate_left
    · intro W hW
      go_simp
      with_reducible rfl
    try simp only [Act.put, List.setIfInBounds_toArray, List.set_cons_zero, List.set_cons_succ]
    refine wpS_lone rfl (by kernel_rfl) (fun K hK => ?_)
    go_simp
    refine HST.out.mono ?_
    rintro e w3 ⟨g3, c3, rfl, _, h3, b3⟩
    refine hK _ _ (Stays.of_below b3) ?_
    clear hK K
    have tr := rturned_any _ _ _ _ _ _ w3 (HA2.out.step b3) h3
    have HTR := Lib.hid tr; clear tr h3
    have HB3 := Lib.hid (HB2.out.trans (b3.mono HB2.out.size)); clear b3
    try simp only [Act.put, List.setIfInBounds_toArray, List.set_cons_zero, List.set_cons_succ]
    refine wpS_lone rfl (by kernel_rfl) (fun K hK => ?_)
    go_simp
    refine HTR.out.mono ?_
    rintro e w4 ⟨g4, c4, rfl, hle4, h4, b4⟩
    refine hK _ _ (Stays.of_below b4) ?_
    clear hK K
    have HB4 := Lib.hid (HB3.out.trans (b4.mono HB3.out.size)); clear b4
    have HL4 := Lib.hid (Nat.le_trans (Nat.le_trans HB1.out.size HB3.out.size) hle4); clear hle4
    have h4' : Bsl w4 w4.heap.size (some ⟨g4, 0, none⟩) 16 c4 (keyOf (strB p) s) := by
      unfold keyOf stOf
      rw [← HLE.out]
      exact h4
    have H4 := Lib.hid h4'; clear h4 h4'
    try simp only [Act.put, List.setIfInBounds_toArray, List.set_cons_zero, List.set_cons_succ]
    refine wpS_lone rfl (by kernel_rfl) (fun K hK => ?_)
    go_simp
    refine hK _ _ (Stays.refl _) ?_
    clear hK K
    try simp only [Act.put, List.setIfInBounds_toArray, List.set_cons_zero, List.set_cons_succ]
    refine wpS_done (by kernel_rfl) ?_
    go_wp2_with fail
    go_meet
    exact ⟨g4, c4, rfl, HL4.out, H4.out, HB4.out⟩
  case rest =>
    obtain ⟨g, c, rfl, hle5, h5, b5⟩ := hcut
    have HA5 := Lib.hid (HA1.out.step b5)
    have HB5 := Lib.hid (HB1.out.trans (b5.mono HB1.out.size)); clear b5
    have H5 := Lib.hid h5; clear h5
    have HL5 := Lib.hid hle5; clear hle5
    clear HA1 HB1
    go_wp2_with fail
    go_cut [31] from 24 to 31 (fun v wx => v = .bool (!r) ∧ Below wc.heap.size wc wx)
    case first =>
      obtain ⟨w6, hw6⟩ : ∃ w6, wc.drew = w6 := ⟨_, rfl⟩
      have b6 : Below wc.heap.size wc w6 := hw6 ▸ (Below.refl _ wc).drew
      have hA6 := HA5.out.step b6
      have VB := fun W (hW : Below w6.heap.size w6 W) => (hA6.step hW).conv
      have bw := Below.refl w6.heap.size w6
      have md := rmade_any p (by omega) (some ⟨g, 0, none⟩) c (keyOf (strB p) s) n hnl w6 (H5.out.step b6)
      have HMD := Lib.hid md; clear md hA6
      have HB6 := Lib.hid b6; clear b6
      have HW6 := Lib.hid hw6; clear hw6
      refine wpS_start [0, 1, 2, 5, 6, 3, 4, 7] hmx rfl HW6.out ?_
      refine wpS_read (v := ?_) rfl (by kernel_rfl) (by kernel_rfl) (by kernel_rfl) (fun _ _ _ h => h) (.inl ⟨by rfl, ?_⟩) ?_
      rotate_left
      · intro W hW
        have hWa := hW _ bw
        go_simp
        with_reducible rfl
      try simp only [Act.put, List.setIfInBounds_toArray, List.set_cons_zero, List.set_cons_succ]
      refine wpS_read (v := ?_) rfl (by kernel_rfl) (by kernel_rfl) (by kernel_rfl) (fun _ _ _ h => h) (.inl ⟨by rfl, ?_⟩) ?_
      rotate_left
      · intro W hW
        have hWa := hW _ bw
        go_simp
        with_reducible rfl
      try simp only [Act.put, List.setIfInBounds_toArray, List.set_cons_zero, List.set_cons_succ]
      refine wpS_read (v := ?_) rfl (by kernel_rfl) (by kernel_rfl) (by kernel_rfl) (fun _ _ _ h => h) (.inl ⟨by rfl, ?_⟩) ?_
      rotate_left
      · intro W hW
        have hWa := hW _ bw
        go_simp
        with_reducible rfl
      try simp only [Act.put, List.setIfInBounds_toArray, List.set_cons_zero, List.set_cons_succ]
      refine wpS_read (v := ?_) rfl (by kernel_rfl) (by kernel_rfl) (by kernel_rfl) (fun _ _ _ h => h) (.inl ⟨by rfl, ?_⟩) ?_
      rotate_left
      · intro W hW
        have hWa := hW _ bw
        go_simp
        with_reducible rfl
      try simp only [Act.put, List.setIfInBounds_toArray, List.set_cons_zero, List.set_cons_succ]
      refine wpS_read (v := ?_) rfl (by kernel_rfl) (by kernel_rfl) (by kernel_rfl) (fun _ _ _ h => h) (.inl ⟨by rfl, ?_⟩) ?_
      rotate_left
      · intro W hW
        have hWa := hW _ bw
        go_simp
        with_reducible rfl
      try simp only [Act.put, List.setIfInBounds_toArray, List.set_cons_zero, List.set_cons_succ]
      refine wpS_lone rfl (by kernel_rfl) (fun K hK => ?_)
      go_simp
      refine HMD.out.mono ?_
      rintro e w7 ⟨g7, c7, rfl, _, h7, b7⟩
      refine hK _ _ (Stays.of_below b7) ?_
      clear hK K
      have VM := fun W (hW : Below w7.heap.size w7 W) => (h7.step hW).conv
      have bm := Below.refl w7.heap.size w7
      have HB7 := Lib.hid (HB6.out.trans (b7.mono HB6.out.size)); clear b7 h7 VB
      try simp only [Act.put, List.setIfInBounds_toArray, List.set_cons_zero, List.set_cons_succ]
      refine wpS_read (v := ?_) rfl (by kernel_rfl) (by kernel_rfl) (by kernel_rfl) (fun _ _ _ h => h) (.inl ⟨by rfl, ?_⟩) ?_
      rotate_left
      · intro W hW
        have hWa := hW _ bm
        go_simp
        with_reducible rfl
      try simp only [Act.put, List.setIfInBounds_toArray, List.set_cons_zero, List.set_cons_succ]
      refine wpS_read (v := ?_) rfl (by kernel_rfl) (by kernel_rfl) (by kernel_rfl) (fun _ _ _ h => h) (.inl ⟨by rfl, ?_⟩) ?_
      rotate_left
      · intro W hW
        go_simp
        with_reducible rfl
      try simp only [Act.put, List.setIfInBounds_toArray, List.set_cons_zero, List.set_cons_succ]
      refine wpS_done (by kernel_rfl) ?_
      go_wp2_with fail
      go_meet
      exact ⟨rfl, HB7.out⟩
    case rest =>
      obtain ⟨rfl, hb⟩ := hcut
      have H8 := Lib.hid (H5.out.step hb)
      have HB8 := Lib.hid (HB5.out.trans (hb.mono HB5.out.size)); clear hb
      clear H5 HB5 HA5 hq
      cases r with
      | false =>
        go_wp2_with fail
        go_ret2
        exact ⟨fun h => (by cases h), fun _ => ⟨rfl, HB8.out⟩⟩
      | true =>
        go_wp2_with fail
        go_ret2
        exact ⟨fun _ => ⟨g, c, rfl, HL5.out, H8.out, HB8.out⟩, fun h => (by cases h)⟩
end Go.Proofs.Ytmlmgnifgcbehaa
