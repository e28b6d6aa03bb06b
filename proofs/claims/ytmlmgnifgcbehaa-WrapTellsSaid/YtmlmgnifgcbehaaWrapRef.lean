/-
  The document's own stretched, turned and Made: the passphrase stretched, sixteen bytes turned by the mask, the wrapped key.
-/
import Derived.Test.YtmlmgnifgcbehaaKeyArr
import Derived.Test.YtmlmgnifgcbehaaMasked
import Derived.Test.YtmlmgnifgcbehaaStrRow
import Derived.Test.YtmlmgnifgcbehaaRefA
import Derived.Test.YtmlmgnifgcbehaaMacRef
import Derived.Test.YtmlmgnifgcbehaaMovA
namespace Go.Proofs.Ytmlmgnifgcbehaa
open Go.RowKit Go.Shelf
set_option maxRecDepth 100000

theorem own_newL {w w' : World} {v : Value} {n : Nat} {s : List UInt8} {e : Ending} (he : e = .returned v) (ho : w'.ownsRow w.heap.size 5 1 v n (vals s)) (hn : 0 < n) (hb : Below w.heap.size w w') : NewL n s w e w' := by
  obtain ⟨g, cap, rfl, h1, h2, h3, h4, h5, h6⟩ := bsl_of_own ho hn
  exact ⟨g, cap, he, h1, bsl_of_holds h5 h3 h4 h2 h6, hb⟩

set_option maxHeartbeats 4000000 in
theorem rstretched_any (p : ByteArray) (hp : p.size ≤ 10000) (n : Nat) (hn : n < 4294967296) (w : World) :
    Calls Try.prog 22 #[.string p, .int .u32 n] w (NewL 16 (stretchN (strB p) (leB 4 n) 32) w) := by
  obtain ⟨G, w1, cv, hP, b1⟩ := str_row w p (by omega)
  have by1 := bytes_any n 4 (by omega) (by omega) (by omega) w1
  have HBY := Lib.hid by1; clear by1
  have HP := Lib.hid hP; clear hP
  have HB1 := Lib.hid b1; clear b1
  obtain ⟨g1, hg1⟩ : ∃ g1, w.heap.size = g1 := ⟨_, rfl⟩
  have HG := Lib.hid hg1
  rw [hg1] at cv HP
  have n0 : (0 : Int) ≤ n := by omega
  have n1 : (n : Int) ≤ 4294967295 := by omega
  clear hg1
  go_enter Try.func22, Try.ntmps22
  go_wp2_with fail
  refine HBY.out.mono ?_
  rintro e w2 ⟨rfl, h2, b2, s2⟩
  have HP2 := Lib.hid (HP.out.below b2 HP.out.lt)
  have HT2 := Lib.hid (bsl_of_holds (cap := 4) (leB_length 4 n) (Nat.le_refl _) (by unfold maxLen; omega) s2 h2)
  have HB2 := Lib.hid (HB1.out.trans (b2.mono HB1.out.size)); clear b2 h2
  go_wp2_with (at_builtin
               refine wpList_append_strRow rfl (.tmp 9) (.tmp 12) rfl g1 p.size G _ rfl HP2.out w2.heap.size (some ⟨w1.heap.size, 0, none⟩) 4 4 (leB 4 n) rfl HT2.out (by omega) (by omega) ?_
               intro g3 c3 w3 h3 hgr3
               have HB3 := Lib.hid (HB2.out.grown hgr3 HB2.out.size (fun k e => by injection e with e; have := HG.out; omega)); clear hgr3
               have H3 := Lib.hid h3; clear h3)
  have k3 := rkey_own _ _ _ _ w3 H3.out (by omega)
  have HK3 := Lib.hid k3; clear k3
  go_wp2_with fail
  refine HK3.out.mono ?_
  rintro e w4 ⟨v4, rfl, o4, b4⟩
  have HO4 := Lib.hid (own_base o4 HB3.out.size); clear o4
  have HB4 := Lib.hid (HB3.out.trans (b4.mono HB3.out.size)); clear b4
  clear HK3 H3 HB3 HB2 HP2 HT2 HBY HP HB1
  go_wp2_with fail
  go_loopw [6, 7] (fun v i wr => ∃ j : Nat, j ≤ 32 ∧ i = .int .i64 j ∧ wr.ownsRow w.heap.size 5 1 v 16 (vals (stretchN (strB p) (leB 4 n) j)) ∧ Below w.heap.size w wr) (fun _ i _ => 32 - (intOf i).toNat)
  case atStart => exact ⟨0, by omega, rfl, HO4.out, HB4.out⟩
  case round =>
    obtain ⟨j, hj, rfl, ho, hb⟩ := hrel
    have HO := Lib.hid ho; clear ho
    have HB := Lib.hid hb; clear hb
    clear HO4 HB4
    by_cases hlt : j < 32
    · have j0 : (0 : Int) ≤ j := by omega
      have j1 : (j : Int) < 32 := by omega
      have e8 := wrapU8 j (by omega)
      have e1 : ((UInt8.ofNat j).toNat : Int) = j := by simp; omega
      have o1 := one_bsl wr (UInt8.ofNat j)
      rw [e1] at o1
      have HE1 := Lib.hid o1; clear o1 e1
      have HOA := Lib.hid (HO.out.alloc (.cells #[.int .u8 (j : Int)] 5))
      have HBA := Lib.hid (HB.out.alloc HB.out.size (.cells #[.int .u8 (j : Int)] 5))
      obtain ⟨vo, hvo⟩ : ∃ vo : Value, u6 = vo := ⟨_, rfl⟩
      rw [hvo] at HO HOA ⊢
      clear hvo HO HB
      have tok1 : True := trivial
      have tok2 : True := trivial
      go_wp2_with (first
        | (at_builtin
           have _t := tok1
           clear _t tok1
           refine wpList_append_bsl rfl (.tmp 20) (.tmp 23) rfl w.heap.size vo 16 _ rfl HOA.out _ (some ⟨wr.heap.size, 0, none⟩) 1 1 [UInt8.ofNat j] rfl HE1.out (by omega) HBA.out.size ?_
           intro v5 w5 hown5 hgr5
           have HB5 := Lib.hid (app_below HBA.out HOA.out hgr5 HBA.out.size); clear hgr5
           have HO5 := Lib.hid hown5; clear hown5)
        | (at_builtin
           have _t := tok2
           clear _t tok2
           refine wpList_append_str rfl (.tmp 25) (.tmp 26) rfl w.heap.size v5 (16 + 1) _ rfl HO5.out p rfl (by omega) HB5.out.size ?_
           intro v6 w6 hown6 hgr6
           have HB6 := Lib.hid (app_below HB5.out HO5.out hgr6 HB5.out.size); clear hgr6
           obtain ⟨g7, c7, rfl, hgb, hgl, hgc, hgm, hgs, hgh⟩ := bsl_of_own hown6 (by omega)
           clear hown6
           have H6 := Lib.hid (bsl_of_holds hgs hgc hgm hgl hgh); clear hgh))
      have k6 := rkey_own _ _ _ _ w6 H6.out (by omega)
      rw [List.append_assoc] at k6
      have HK6 := Lib.hid k6; clear k6
      refine HK6.out.mono ?_
      rintro e w8 ⟨v8, rfl, o8, b8⟩
      have HO8 := Lib.hid (own_base o8 HB6.out.size); clear o8
      have HB8 := Lib.hid (HB6.out.trans (b8.mono HB6.out.size)); clear b8
      go_wp2_with fail
      go_roundw
      case rel => exact ⟨j + 1, by omega, by go_num, HO8.out, HB8.out⟩
      case measure => simp [intOf]; omega
    · obtain rfl : j = 32 := by omega
      go_wp2_with fail
      go_ret
      exact own_newL rfl HO.out (by omega) HB.out

theorem xorL_take (k m : List UInt8) (hk : k.length = 16) (hm : m.length = 16) (j : Nat) (hj : j < 16) : (xorL k m).take (j + 1) = (xorL k m).take j ++ [k.getD j 0 ^^^ m.getD j 0] := by
  rw [List.take_succ_eq_append_getElem (by rw [xorL_length k m hk hm]; exact hj)]
  congr 2
  simp only [xorL, List.getElem_zipWith]
  rw [List.getD_eq_getElem?_getD, List.getD_eq_getElem?_getD, List.getElem?_eq_getElem (by omega), List.getElem?_eq_getElem (by omega)]
  rfl

set_option maxHeartbeats 4000000 in
theorem rturned_any (b : Option Addr) (cb : Nat) (k : List UInt8) (a : Option Addr) (ca : Nat) (st : List UInt8) (w : World) (hB : Bsl w w.heap.size b 16 cb k) (hA : Bsl w w.heap.size a 16 ca st) :
    Calls Try.prog 25 #[.slice b 16 cb, .slice a 16 ca] w (NewL 16 (xorL k (maskL st)) w) := by
  have hmx : Try.prog.follows Departure.mixedOrders = true := by kernel_rfl
  have hk := hB.1
  obtain ⟨bb, off, rfl, _, _⟩ := hB.2.2.2.2 (by omega)
  have HA := Lib.hid hA; clear hA
  have HBB := Lib.hid hB; clear hB
  have HK := Lib.hid hk; clear hk
  have tok1 : True := trivial
  have tok2 : True := trivial
  go_enter Try.func25, Try.ntmps25
  go_wp2_with (first
    | (at_builtin
       have _t := tok1
       clear _t tok1
       refine wpList_append_bsl rfl (.tmp 9) (.tmp 10) rfl w.heap.size (.slice none 0 0) 0 [] rfl (own_nil _ _) w.heap.size a 16 ca st rfl HA.out (by omega) (Nat.le_refl _) ?_
       intro v1 w1 hown1 hgr1
       simp only [Nat.zero_add, List.nil_append] at hown1
       have HB1 := Lib.hid (app_below (Below.refl _ w) (own_nil _ _) hgr1 (Nat.le_refl _)); clear hgr1
       have HO1 := Lib.hid (hown1.alloc (.cells #[.int .u8 ((1 : UInt8).toNat : Int)] 5)); clear hown1
       have HE1 := Lib.hid (one_bsl w1 1)
       have HB2 := Lib.hid (HB1.out.alloc HB1.out.size (.cells #[.int .u8 ((1 : UInt8).toNat : Int)] 5)))
    | (at_builtin
       have _t := tok2
       clear _t tok2
       refine wpList_append_bsl rfl (.tmp 12) (.tmp 13) rfl w.heap.size v1 16 _ rfl HO1.out _ (some ⟨w1.heap.size, 0, none⟩) 1 1 [1] rfl HE1.out (by omega) HB2.out.size ?_
       intro v2 w2 hown2 hgr2
       have HB3 := Lib.hid (app_below HB2.out HO1.out hgr2 HB2.out.size); clear hgr2
       obtain ⟨g3, c3, rfl, hgb, hgl, hgc, hgm, hgs, hgh⟩ := bsl_of_own hown2 (by omega)
       clear hown2
       have H3 := Lib.hid (bsl_of_holds hgs hgc hgm hgl hgh); clear hgh))
  have k2 := rkey_any _ _ _ _ w2 H3.out (by omega)
  have HK2 := Lib.hid k2; clear k2
  refine HK2.out.mono ?_
  rintro e w4 k4
  obtain ⟨g4, c4, rfl, _, h4, b4⟩ := KeyPost.newL k4
  clear k4
  have HB4 := Lib.hid (HB3.out.trans (b4.mono HB3.out.size)); clear b4
  obtain ⟨m, hm⟩ : ∃ m, bytesW (fourW (st ++ [1])) 4 = m := ⟨_, rfl⟩
  rw [hm] at h4
  have HM := Lib.hid (show maskL st = m from hm); clear hm
  have hml := h4.1
  have HML := Lib.hid hml; clear hml
  have H4 := Lib.hid h4; clear h4
  clear HK2 H3 HB3 HB2 HE1 HO1 HB1 HA
  go_wp2_with fail
  go_loopw [7, 8] (fun v i wr => ∃ j : Nat, j ≤ 16 ∧ i = .int .i64 j ∧ wr.ownsRow w4.heap.size 5 1 v j (vals ((xorL k m).take j)) ∧ Below w4.heap.size w4 wr) (fun _ i _ => 16 - (intOf i).toNat)
  case atStart => exact ⟨0, by omega, rfl, own_nil _ _, Below.refl _ _⟩
  case round =>
    obtain ⟨j, hj, rfl, ho, hb⟩ := hrel
    have HO := Lib.hid ho; clear ho
    have HB := Lib.hid hb; clear hb
    by_cases hlt : j < 16
    · have j0 : (0 : Int) ≤ j := by omega
      have j1 : (j : Int) < 16 := by omega
      obtain ⟨w5, hw5⟩ : ∃ w5, wr.drew = w5 := ⟨_, rfl⟩
      have hb5 : Below w4.heap.size w4 w5 := hw5 ▸ HB.out.drew
      have ho5 : w5.ownsRow w4.heap.size 5 1 u7 j (vals ((xorL k m).take j)) := hw5 ▸ HO.out.drew
      have cb := fun W (hW : Below w5.heap.size w5 W) => ((HBB.out.step (HB4.out.trans (hb5.mono HB4.out.size))).step hW).cellD j hlt
      have cm := fun W (hW : Below w5.heap.size w5 W) => ((H4.out.step hb5).step hW).cellD j hlt
      have bw := Below.refl w5.heap.size w5
      simp only [Nat.zero_add] at cm
      have xr := xor8 (k.getD j 0) (m.getD j 0)
      have hts := xorL_take k m HK.out HML.out j hlt
      obtain ⟨x, hx⟩ : ∃ x, k.getD j 0 = x := ⟨_, rfl⟩
      obtain ⟨y, hy⟩ : ∃ y, m.getD j 0 = y := ⟨_, rfl⟩
      rw [hx, hy] at xr hts
      simp only [hx] at cb
      simp only [hy] at cm
      obtain ⟨z, hz⟩ : ∃ z, x ^^^ y = z := ⟨_, rfl⟩
      rw [hz] at xr hts
      have HTS := Lib.hid hts; clear hts hx hy hz
      have HW5 := Lib.hid hw5; clear hw5
      have HB5 := Lib.hid hb5
      have HOA := Lib.hid (ho5.alloc (.cells #[.int .u8 (z.toNat : Int)] 5))
      have HBA := Lib.hid (hb5.alloc hb5.size (.cells #[.int .u8 (z.toNat : Int)] 5))
      have HE1 := Lib.hid (one_bsl w5 z)
      clear ho5 hb5 HO HB
      obtain ⟨vo, hvo⟩ : ∃ vo : Value, u7 = vo := ⟨_, rfl⟩
      rw [hvo] at HOA ⊢
      clear hvo
      go_wp2_with fail
      refine wpS_start [0, 1, 2, 3, 4, 5, 6, 7, 8, 9, 10, 11, 12] hmx rfl HW5.out ?_
      refine wpS_read (v := ?_) rfl (by kernel_rfl) (by kernel_rfl) (by kernel_rfl) (fun _ _ _ h => h) (.inl ⟨by rfl, ?_⟩) ?_
      rotate_left
      · intro W hW
        have hWa := hW _ bw
        go_simp
        with_reducible rfl
      try simp only [Act.put, List.setIfInBounds_toArray, List.set_cons_zero, List.set_cons_succ]
      refine wpS_read (v := ?_) rfl (by kernel_rfl) (by kernel_rfl) (by kernel_rfl) (fun _ _ _ h => h) (.inl ⟨by rfl, ?_⟩) ?_
      rotate_left
      · intro W hW
        have hWa := hW _ bw
        go_simp
        with_reducible rfl
      try simp only [Act.put, List.setIfInBounds_toArray, List.set_cons_zero, List.set_cons_succ]
      refine wpS_read (v := ?_) rfl (by kernel_rfl) (by kernel_rfl) (by kernel_rfl) (fun _ _ _ h => h) (.inl ⟨by rfl, ?_⟩) ?_
      rotate_left
      · intro W hW
        have hWa := hW _ bw
        go_simp
        with_reducible rfl
      try simp only [Act.put, List.setIfInBounds_toArray, List.set_cons_zero, List.set_cons_succ]
      refine wpS_read (v := ?_) rfl (by kernel_rfl) (by kernel_rfl) (by kernel_rfl) (fun _ _ _ h => h) (.inl ⟨by rfl, ?_⟩) ?_
      rotate_left
      · intro W hW
        have hWa := hW _ bw
        go_simp
        with_reducible rfl
      try simp only [Act.put, List.setIfInBounds_toArray, List.set_cons_zero, List.set_cons_succ]
      refine wpS_read (v := ?_) rfl (by kernel_rfl) (by kernel_rfl) (by kernel_rfl) (fun _ _ _ h => h) (.inl ⟨by rfl, ?_⟩) ?_
      rotate_left
      · intro W hW
        have hWa := hW _ bw
        go_simp
        with_reducible rfl
      try simp only [Act.put, List.setIfInBounds_toArray, List.set_cons_zero, List.set_cons_succ]
      refine wpS_read (v := ?_) rfl (by kernel_rfl) (by kernel_rfl) (by kernel_rfl) (fun _ _ _ h => h) (.inl ⟨by rfl, ?_⟩) ?_
      rotate_left
      · intro W hW
        have hWa := hW _ bw
        go_simp
        with_reducible rfl
      try simp only [Act.put, List.setIfInBounds_toArray, List.set_cons_zero, List.set_cons_succ]
      refine wpS_read (v := ?_) rfl (by kernel_rfl) (by kernel_rfl) (by kernel_rfl) (fun _ _ _ h => h) (.inl ⟨by rfl, ?_⟩) ?_
      rotate_left
      · intro W hW
        have hWa := hW _ bw
        go_simp
        with_reducible rfl
      try simp only [Act.put, List.setIfInBounds_toArray, List.set_cons_zero, List.set_cons_succ]
      refine wpS_read (v := ?_) rfl (by kernel_rfl) (by kernel_rfl) (by kernel_rfl) (fun _ _ _ h => h) (.inl ⟨by rfl, ?_⟩) ?_
      rotate_left
      · intro W hW
        have hWa := hW _ bw
        go_simp
        with_reducible rfl
      try simp only [Act.put, List.setIfInBounds_toArray, List.set_cons_zero, List.set_cons_succ]
      refine wpS_read (v := ?_) rfl (by kernel_rfl) (by kernel_rfl) (by kernel_rfl) (fun _ _ _ h => h) (.inl ⟨by rfl, ?_⟩) ?_
      rotate_left
      · intro W hW
        have hWa := hW _ bw
        go_simp
        with_reducible rfl
      try simp only [Act.put, List.setIfInBounds_toArray, List.set_cons_zero, List.set_cons_succ]
      refine wpS_read (v := ?_) rfl (by kernel_rfl) (by kernel_rfl) (by kernel_rfl) (fun _ _ _ h => h) (.inl ⟨by rfl, ?_⟩) ?_
      rotate_left
      · intro W hW
        have hWa := hW _ bw
        go_simp
        with_reducible rfl
      try simp only [Act.put, List.setIfInBounds_toArray, List.set_cons_zero, List.set_cons_succ]
      refine wpS_lone rfl (by kernel_rfl) (fun K hK => ?_)
      go_simp
      refine hK _ _ (Stays.of_below ((Below.refl _ w5).alloc (Nat.le_refl _) _)) ?_
      clear hK K
      try simp only [Act.put, List.setIfInBounds_toArray, List.set_cons_zero, List.set_cons_succ]
      refine wpS_append rfl (by kernel_rfl) (by kernel_rfl) rfl (.tmp 20) (.tmp 30) rfl w4.heap.size vo j _ rfl HOA.out _ (some ⟨w5.heap.size, 0, none⟩) 1 1 [z] rfl HE1.out (by omega) (by omega) HBA.out.size ?_
      intro v6 w6 hown6 hgr6
      have HB6 := Lib.hid (app_below HBA.out HOA.out hgr6 HBA.out.size); clear hgr6
      have HO6 := Lib.hid hown6; clear hown6
      try simp only [Act.put, List.setIfInBounds_toArray, List.set_cons_zero, List.set_cons_succ]
      refine wpS_lone rfl (by kernel_rfl) (fun K hK => ?_)
      go_simp
      refine hK _ _ (Stays.refl _) ?_
      clear hK K
      try simp only [Act.put, List.setIfInBounds_toArray, List.set_cons_zero, List.set_cons_succ]
      refine wpS_done (by kernel_rfl) ?_
      go_wp2_with fail
      go_roundw
      case rel => exact ⟨j + 1, by omega, by go_num, by rw [HTS.out]; exact HO6.out, HB6.out⟩
      case measure => simp [intOf]; omega
    · obtain rfl : j = 16 := by omega
      rw [List.take_of_length_le (by rw [xorL_length k m HK.out HML.out]; exact Nat.le_refl _), ← HM.out] at HO
      go_wp2_with fail
      go_ret
      exact own_newL rfl (own_base HO.out HB4.out.size) (by omega) (HB4.out.trans (HB.out.mono HB4.out.size))
end Go.Proofs.Ytmlmgnifgcbehaa
