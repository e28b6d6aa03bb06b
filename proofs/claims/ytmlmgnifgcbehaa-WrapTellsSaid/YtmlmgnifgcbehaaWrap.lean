/-
  wrap.Stretch and wrap.Wrap, whatever they are handed, answer the passphrase stretched, the key wrapped, or the error that is due; nothing that was there is written.
-/
import Derived.Test.YtmlmgnifgcbehaaStretch
import Derived.Test.YtmlmgnifgcbehaaMasked
import Derived.Test.YtmlmgnifgcbehaaMovA
import Derived.Deep.CutRange
import Derived.Deep.DeepCutAuto
namespace Go.Proofs.Ytmlmgnifgcbehaa
open Go.RowKit Go.Shelf
set_option maxRecDepth 100000

/-- A new list that holds s, and no error. -/
def NewT (n : Nat) (s : List UInt8) (w : World) (e : Ending) (w' : World) : Prop :=
  ∃ g cap, e = .returned (.tuple #[.slice (some ⟨g, 0, none⟩) n cap, .int .i64 0]) ∧ w.heap.size ≤ g ∧ Bsl w' w'.heap.size (some ⟨g, 0, none⟩) n cap s ∧ Below w.heap.size w w'
/-- Nothing, and an error. -/
def Err (c : Int) (w : World) (e : Ending) (w' : World) : Prop := e = .returned (.tuple #[.slice none 0 0, .int .i64 c]) ∧ Below w.heap.size w w'

theorem wStretch_bad (p : ByteArray) (hp : (64 : Int) < p.size) (hm : (p.size : Int) ≤ 9223372036854775807) (v : Value) (w : World) : Calls Try.prog 11 #[.string p, v] w (Err 3 w) := by
  go_enter Try.func11, Try.ntmps11
  go_wp2_with (go_at_call 15; refine (isPass_no _ hp hm _).mono ?_; rintro e w' ⟨rfl, rfl⟩)
  go_ret2
  exact ⟨rfl, Below.refl _ _⟩
theorem wWrap_pass (p : ByteArray) (hp : (64 : Int) < p.size) (hm : (p.size : Int) ≤ 9223372036854775807) (v u : Value) (w : World) : Calls Try.prog 8 #[.string p, v, u] w (Err 3 w) := by
  go_enter Try.func8, Try.ntmps8
  go_wp2_with (go_at_call 15; refine (isPass_no _ hp hm _).mono ?_; rintro e w' ⟨rfl, rfl⟩)
  go_ret2
  exact ⟨rfl, Below.refl _ _⟩
theorem wWrap_key (p : ByteArray) (hp : (p.size : Int) ≤ 64) (a : Option Addr) (len cap : Nat) (hl : len ≠ 16) (u : Value) (w : World) : Calls Try.prog 8 #[.string p, .slice a len cap, u] w (Err 2 w) := by
  have h1 : ((len : Int) == 16) = false := by simp; omega
  go_enter Try.func8, Try.ntmps8
  go_wp2_with (go_at_call 15; refine (isPass_yes _ hp _).mono ?_; rintro e w' ⟨rfl, rfl⟩)
  go_ret2
  exact ⟨rfl, Below.refl _ _⟩

set_option maxHeartbeats 2000000 in
theorem wStretch_ok (p : ByteArray) (hp : (p.size : Int) ≤ 64) (n : Nat) (hn : n < 4294967296) (w : World) :
    Calls Try.prog 11 #[.string p, .int .u32 n] w (NewT 16 (stretchN (strB p) (leB 4 n) 32) w) := by
  have hz := zeroA
  have sl := sliceAtA
  go_enter Try.func11, Try.ntmps11
  go_wp2_with (go_at_call 15; refine (isPass_yes _ hp _).mono ?_; rintro e w' ⟨rfl, rfl⟩)
  refine (wput_any n hn w).mono ?_
  rintro e w1 ⟨g1, c1, rfl, _, h1, b1⟩
  have HB1 := Lib.hid b1; clear b1
  have st := wstretch_any p (by omega) _ _ _ w1 h1
  have HST := Lib.hid st; clear st h1
  go_wp2_with fail
  refine HST.out.mono ?_
  rintro e w2 ⟨rfl, b2⟩
  have HB2 := Lib.hid (HB1.out.trans (b2.mono HB1.out.size)); clear b2
  have HY2 := Lib.hid (Blk.new w2 41 (ar zs))
  have hs2 := HB2.out.size
  have HS2 := Lib.hid hs2; clear hs2
  have HB3 := Lib.hid (HB2.out.alloc HB2.out.size (.cells (ar zs) 41))
  go_wp2_with (with_reducible refine at_store ?_
               refine wpList_store_ar rfl (.tmp 6) (.tmp 13) rfl w2.heap.size _ zs rfl rfl (stretchN_length _ _ _) HY2.out zs_length ?_
               intro w3 hx3 hg3
               have H3 := Lib.hid (hx3.bsl (stretchN_length _ _ _) (by omega)); clear hx3
               have HB4 := Lib.hid (HB3.out.grown hg3 HB3.out.size (fun k e => by injection e with e; have := HS2.out; omega)); clear hg3)
  go_ret2
  exact ⟨_, _, rfl, HS2.out, H3.out, HB4.out⟩

set_option maxHeartbeats 4000000 in
theorem wWrap_ok (p : ByteArray) (hp : (p.size : Int) ≤ 64) (a : Option Addr) (cap : Nat) (k : List UInt8) (n : Nat) (hn : n < 4294967296) (w : World) (hA : Bsl w w.heap.size a 16 cap k) :
    Calls Try.prog 8 #[.string p, .slice a 16 cap, .int .u32 n] w (NewT 24 (wrapL (strB p) k (leB 4 n)) w) := by
  have hmx : Try.prog.follows Departure.mixedOrders = true := by kernel_rfl
  have hz := zeroA
  have sl := sliceAtA
  have ap := arrayAtA
  have hk := hA.1
  obtain ⟨b, off, rfl, _, _⟩ := hA.2.2.2.2 (by omega)
  have HA := Lib.hid hA; clear hA
  have HK := Lib.hid hk; clear hk
  go_enter Try.func8, Try.ntmps8
  go_wp2_with (go_at_call 15; refine (isPass_yes _ hp _).mono ?_; rintro e w' ⟨rfl, rfl⟩)
  refine (wput_any n hn w).mono ?_
  rintro e w1 ⟨g1, c1, rfl, _, h1, b1⟩
  have HA1 := Lib.hid (HA.out.step b1)
  have HB1 := Lib.hid b1; clear b1
  have st := wstretch_any p (by omega) _ _ _ w1 h1
  have HST := Lib.hid st; clear st
  have HS1 := Lib.hid h1; clear h1
  go_wp2_with fail
  refine HST.out.mono ?_
  rintro e w2 ⟨rfl, b2⟩
  obtain ⟨st, hst⟩ : ∃ st, stretchN (strB p) (leB 4 n) 32 = st := ⟨_, rfl⟩
  have hstl : st.length = 16 := by rw [← hst]; exact stretchN_length _ _ _
  rw [hst]
  have HSTE := Lib.hid hst; clear hst
  have HSTL := Lib.hid hstl; clear hstl
  have HA2 := Lib.hid (HA1.out.step b2)
  have HS2 := Lib.hid (HS1.out.step b2)
  have HB2 := Lib.hid (HB1.out.trans (b2.mono HB1.out.size)); clear b2
  have HY2 := Lib.hid (Blk.new w2 41 (ar zs))
  have HZ2 := Lib.hid ((Below.refl w2.heap.size w2).alloc (Nat.le_refl _) (.cells (ar zs) 41))
  clear HA1 HS1 HB1 HST HA
  go_wp2_with (with_reducible refine at_store ?_
               refine wpList_store_ar rfl (.tmp 9) (.tmp 22) rfl w2.heap.size _ zs rfl rfl HSTL.out HY2.out zs_length ?_
               intro w3 hx3 hg3
               have HX3 := Lib.hid hx3; clear hx3
               have b3 := HZ2.out.grown hg3 HZ2.out.size (fun k e => by injection e with e; omega)
               have HA3 := Lib.hid (HA2.out.step b3)
               have HS3 := Lib.hid (HS2.out.step b3)
               have HB3 := Lib.hid (HB2.out.trans (b3.mono HB2.out.size)); clear b3 hg3)
  clear HA2 HS2 HB2 HY2 HZ2
  generalize w2.heap.size = g9 at *
  simp only [Act.put]
  have HXL := Lib.hid (xorL_length k (maskL st) HK.out (maskL_length _))
  go_cut [10] from 23 to 27 (fun v wx => ∃ g, v = .pointer (some ⟨g, 0, none⟩) ∧ Blk wx g 41 (ar (xorL k (maskL st))) ∧ Below w3.heap.size w3 wx)
  case first =>
    have b4 : Below w3.heap.size w3 w3.drew := (Below.refl _ w3).drew
    obtain ⟨w4, hw4⟩ : ∃ w4, w3.drew = w4 := ⟨_, rfl⟩
    rw [hw4] at b4
    have HA4 := Lib.hid (HA3.out.step b4)
    have HX4 := Lib.hid ((HX3.out.bsl HSTL.out (by omega)).step b4)
    have HB4 := Lib.hid b4; clear b4
    have HW4 := Lib.hid hw4; clear hw4
    have HM4 := Lib.hid (masked_any k st HK.out HSTL.out)
    refine wpS_start [0, 1, 2, 3, 4, 5, 6] hmx rfl HW4.out ?_
    refine wpS_read (v := ?_) rfl (by kernel_rfl) (by kernel_rfl) (by kernel_rfl) (fun _ _ _ h => h) (.inl ⟨by rfl, ?_⟩) ?_
    rotate_left
    · intro W hW
      go_simp
      with_reducible rfl
    try simp only [Act.put, List.setIfInBounds_toArray, List.set_cons_zero, List.set_cons_succ]
    refine wpS_read (v := ?_) rfl (by kernel_rfl) (by kernel_rfl) (by kernel_rfl) (fun _ _ _ h => h) (.inl ⟨by rfl, ?_⟩) ?_
    rotate_left
    · intro W hW
      go_simp
      with_reducible rfl
    try simp only [Act.put, List.setIfInBounds_toArray, List.set_cons_zero, List.set_cons_succ]
    refine wpS_load_bsl k rfl (by kernel_rfl) (by kernel_rfl) (by kernel_rfl) (fun _ _ _ h => h) rfl (.tmp 24) rfl b off cap rfl HA4.out ?_
    try simp only [Act.put, List.setIfInBounds_toArray, List.set_cons_zero, List.set_cons_succ]
    refine wpS_load_bsl st rfl (by kernel_rfl) (by kernel_rfl) (by kernel_rfl) (fun _ _ _ h => h) rfl (.tmp 9) rfl g9 0 16 rfl HX4.out ?_
    try simp only [Act.put, List.setIfInBounds_toArray, List.set_cons_zero, List.set_cons_succ]
    refine wpS_fork rfl rfl (by kernel_rfl) (fun K hK => ?_) (fun K hK => ?_)
    · go_simp
      refine (HM4.out w4).mono ?_
      rintro e w5 ⟨rfl, b5⟩
      refine hK _ _ (Stays.of_below b5) ?_
      clear hK K
      have b6 := b5.alloc b5.size (.cells (ar zs) 41)
      have HB6 := Lib.hid (HB4.out.trans (b6.mono HB4.out.size))
      have HY6 := Lib.hid (Blk.new w5 41 (ar zs))
      have hle := Nat.le_trans HB4.out.size b5.size
      have HLE := Lib.hid hle; clear hle b5 b6
      try simp only [Act.put, List.setIfInBounds_toArray, List.set_cons_zero, List.set_cons_succ]
      refine wpS_lone rfl (by kernel_rfl) (fun K hK => ?_)
      go_simp
      refine hK _ _ (Stays.of_below ((Below.refl _ w5).alloc (Nat.le_refl _) _)) ?_
      clear hK K
      try simp only [Act.put, List.setIfInBounds_toArray, List.set_cons_zero, List.set_cons_succ]
      refine wpS_store_ar rfl (by kernel_rfl) (by kernel_rfl) rfl (.tmp 10) (.tmp 27) rfl w5.heap.size (xorL k (maskL st)) zs rfl rfl HXL.out HY6.out zs_length ?_
      intro w7 hx7 hg7
      refine wpS_done (by kernel_rfl) ?_
      have HX7 := Lib.hid hx7; clear hx7
      have HB7 := Lib.hid (HB6.out.grown hg7 HB6.out.size (fun k e => by injection e with e; have := HLE.out; omega)); clear hg7
      go_wp2_with fail
      go_meet
      exact ⟨_, rfl, HX7.out, HB7.out⟩
    · go_simp
      refine hK _ _ (Stays.of_below ((Below.refl _ w4).alloc (Nat.le_refl _) _)) ?_
      clear hK K
      have b5 := (Below.refl w4.heap.size w4).alloc (Nat.le_refl _) (.cells (ar zs) 41)
      have HB5 := Lib.hid (HB4.out.trans (b5.mono HB4.out.size)); clear b5
      have HY5 := Lib.hid (Blk.new w4 41 (ar zs))
      try simp only [Act.put, List.setIfInBounds_toArray, List.set_cons_zero, List.set_cons_succ]
      refine wpS_lone rfl (by kernel_rfl) (fun K hK => ?_)
      go_simp
      refine (HM4.out _).mono ?_
      rintro e w6 ⟨rfl, b6⟩
      refine hK _ _ (Stays.of_below b6) ?_
      clear hK K
      have HB6 := Lib.hid (HB5.out.trans (b6.mono HB5.out.size))
      have HY6 := Lib.hid (HY5.out.below b6 HY5.out.lt); clear b6
      try simp only [Act.put, List.setIfInBounds_toArray, List.set_cons_zero, List.set_cons_succ]
      refine wpS_store_ar rfl (by kernel_rfl) (by kernel_rfl) rfl (.tmp 10) (.tmp 27) rfl w4.heap.size (xorL k (maskL st)) zs rfl rfl HXL.out HY6.out zs_length ?_
      intro w7 hx7 hg7
      refine wpS_done (by kernel_rfl) ?_
      have HX7 := Lib.hid hx7; clear hx7
      have HB7 := Lib.hid (HB6.out.grown hg7 HB6.out.size (fun k e => by injection e with e; have := HB4.out.size; omega)); clear hg7
      go_wp2_with fail
      go_meet
      exact ⟨_, rfl, HX7.out, HB7.out⟩
  case rest =>
    obtain ⟨g10, rfl, hx, hb⟩ := hcut
    have hS := HS3.out.step hb
    have hX := HX3.out.below hb HX3.out.lt
    have hB := HB3.out.trans (hb.mono HB3.out.size)
    have cc := concat2 wc _ _ _ _ _ _ _ _ hS (hx.bsl HXL.out (by omega)) (by omega) (by omega)
    have HCC := Lib.hid cc; clear cc hS
    have HX5 := Lib.hid hX; clear hX hx
    have HB5 := Lib.hid hB; clear hB hb
    clear HS3 HX3 HB3 HA3
    go_wp2_with fail
    refine HCC.out.mono ?_
    rintro e w6 ⟨g6, c6, rfl, _, h6, b6⟩
    have HX6 := Lib.hid (HX5.out.below b6 HX5.out.lt)
    have HB6 := Lib.hid (HB5.out.trans (b6.mono HB5.out.size)); clear b6
    have tg := wtag_any st HSTL.out _ _ _ _ w6 h6 (by omega)
    have HTG := Lib.hid tg; clear tg
    have H6 := Lib.hid h6; clear h6 HCC HX5 HB5
    go_wp2_with (with_reducible refine at_load ?_
                 refine wpList_load_ar rfl (.tmp 9) rfl g9 _ rfl HX6.out HSTL.out ?_)
    refine HTG.out.mono ?_
    rintro e w7 ⟨g7, c7, rfl, _, h7, b7⟩
    have H67 := H6.out.step b7
    have HB7 := Lib.hid (HB6.out.trans (b7.mono HB6.out.size)); clear b7
    have cc := concat2 w7 _ _ _ _ _ _ _ _ H67 h7 (by omega) (by omega)
    have HCC := Lib.hid cc; clear cc H67 h7 HTG HB6
    go_wp2_with fail
    refine HCC.out.mono ?_
    rintro e w8 ⟨g8, c8, rfl, hle, h8, b8⟩
    have HB8 := Lib.hid (HB7.out.trans (b8.mono HB7.out.size)); clear b8
    have H8 := Lib.hid h8; clear h8
    have HLE := Lib.hid (Nat.le_trans HB7.out.size hle); clear hle
    go_wp2_with fail
    go_ret2
    refine ⟨g8, c8, rfl, HLE.out, ?_, HB8.out⟩
    unfold wrapL aheadL
    rw [HSTE.out]
    exact H8.out
end Go.Proofs.Ytmlmgnifgcbehaa
