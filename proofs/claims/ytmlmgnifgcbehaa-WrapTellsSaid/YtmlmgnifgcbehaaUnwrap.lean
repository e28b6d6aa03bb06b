/-
  wrap.Unwrap, whatever it is handed, answers the key that was wrapped, or the error that is due; nothing that was there is written.
-/
import Derived.Test.YtmlmgnifgcbehaaWrap
namespace Go.Proofs.Ytmlmgnifgcbehaa
open Go.RowKit Go.Shelf
set_option maxRecDepth 100000

/-- The first bytes of a list; a part of it. -/
theorem Bsl.pre {w : World} {B len cap : Nat} {a : Option Addr} {s : List UInt8} (h : Bsl w B a len cap s) (k : Nat) (hk : k ≤ len) : Bsl w B a k cap (s.take k) := by
  obtain ⟨h1, h2, h3, h4, h5⟩ := h
  refine ⟨by simp; omega, by omega, h3, h4, fun h0 => ?_⟩
  obtain ⟨b, off, e, hb, hc⟩ := h5 (by omega)
  refine ⟨b, off, e, hb, fun i hi => ?_⟩
  have hi' : i < s.length := by simp at hi; omega
  rw [hc i hi', List.getElem_take]
theorem Bsl.win {w : World} {B b off len cap : Nat} {s : List UInt8} (h : Bsl w B (some ⟨b, off, none⟩) len cap s) (l k : Nat) (hk : l + k ≤ len) : Bsl w B (some ⟨b, off + l, none⟩) k (cap - l) ((s.drop l).take k) := by
  obtain ⟨h1, h2, h3, h4, h5⟩ := h
  refine ⟨by simp; omega, by omega, by omega, fun e => (by cases e), fun h0 => ?_⟩
  obtain ⟨b', off', e, hb, hc⟩ := h5 (by omega)
  cases e
  refine ⟨b, off + l, rfl, hb, fun i hi => ?_⟩
  have hi' : l + i < s.length := by simp at hi; omega
  rw [Nat.add_assoc, hc (l + i) hi', List.getElem_take, List.getElem_drop]

theorem equal_any (a : Option Addr) (la ca : Nat) (s : List UInt8) (b : Option Addr) (lb cb : Nat) (t : List UInt8) (w : World) (hA : Bsl w w.heap.size a la ca s) (hB : Bsl w w.heap.size b lb cb t) :
    Calls Try.prog 21 #[.slice a la ca, .slice b lb cb] w fun e w' => e = .returned (.bool (decide (s = t))) ∧ w = w' := by
  have c1 := hA.conv
  have c2 := hB.conv
  have eq : ((strOf s).toList == (strOf t).toList) = decide (s = t) := by
    rw [strOf_toList, strOf_toList]
    by_cases h : s = t <;> simp [h]
  have HE := Lib.hid eq; clear eq hA hB
  go_enter Try.func21, Try.ntmps21
  go_wp2_with fail
  go_ret
  exact ⟨by rw [← HE.out]; rfl, rfl⟩

theorem wUnwrap_pass (p : ByteArray) (hp : (64 : Int) < p.size) (hm : (p.size : Int) ≤ 9223372036854775807) (v : Value) (w : World) : Calls Try.prog 9 #[.string p, v] w (Err 3 w) := by
  go_enter Try.func9, Try.ntmps9
  go_wp2_with (go_at_call 15; refine (isPass_no _ hp hm _).mono ?_; rintro e w' ⟨rfl, rfl⟩)
  go_ret2
  exact ⟨rfl, Below.refl _ _⟩
theorem wUnwrap_len (p : ByteArray) (hp : (p.size : Int) ≤ 64) (a : Option Addr) (len cap : Nat) (hl : len ≠ 24) (w : World) : Calls Try.prog 9 #[.string p, .slice a len cap] w (Err 8 w) := by
  have h1 : ((len : Int) == 24) = false := by simp; omega
  go_enter Try.func9, Try.ntmps9
  go_wp2_with (go_at_call 15; refine (isPass_yes _ hp _).mono ?_; rintro e w' ⟨rfl, rfl⟩)
  go_ret2
  exact ⟨rfl, Below.refl _ _⟩
/-- The key, if the tag is right, else an error. -/
def UnPost (r : Bool) (k : List UInt8) (w : World) (e : Ending) (w' : World) : Prop := (r = true → NewT 16 k w e w') ∧ (r = false → Err 201 w e w')

set_option maxHeartbeats 4000000 in
theorem wUnwrap_fit (p : ByteArray) (hp : (p.size : Int) ≤ 64) (a : Option Addr) (cap : Nat) (s : List UInt8) (r : Bool) (hr : decide (s.drop 20 = tagL (stOf (strB p) s) (s.take 20)) = r) (w : World) (hA : Bsl w w.heap.size a 24 cap s) :
    Calls Try.prog 9 #[.string p, .slice a 24 cap] w (UnPost r (keyOf (strB p) s) w) := by
  have hmx : Try.prog.follows Departure.mixedOrders = true := by kernel_rfl
  have hz := zeroA
  have sl := sliceAtA
  have ap := arrayAtA
  have hs := hA.1
  have hcap := hA.2.1
  obtain ⟨b, off, rfl, _, _⟩ := hA.2.2.2.2 (by omega)
  have s1 : ∀ W : World, (Instr.slice 22 (.slice (some ⟨b, off, none⟩) 24 cap) none (some (.int .i64 4)) none).run Try.prog W = .ok (.slice (some ⟨b, off, none⟩) 4 cap) W := fun W => slice_to W _ 24 cap 4 (by omega)
  have s2 : ∀ W : World, (Instr.slice 22 (.slice (some ⟨b, off, none⟩) 24 cap) none (some (.int .i64 20)) none).run Try.prog W = .ok (.slice (some ⟨b, off, none⟩) 20 cap) W := fun W => slice_to W _ 24 cap 20 (by omega)
  have s3 : ∀ W : World, (Instr.slice 22 (.slice (some ⟨b, off, none⟩) 24 cap) (some (.int .i64 20)) none none).run Try.prog W = .ok (.slice (some ⟨b, off + 20, none⟩) 4 (cap - 20)) W := by
    obtain ⟨A', h1, h2⟩ := slice_from (some ⟨b, off, none⟩) 24 cap 20 (by omega) hcap
    intro W
    have := h1 W
    rw [h2 (by omega) b off rfl] at this
    exact this
  have s4 : ∀ W : World, (Instr.slice 22 (.slice (some ⟨b, off, none⟩) 24 cap) (some (.int .i64 4)) (some (.int .i64 20)) none).run Try.prog W = .ok (.slice (some ⟨b, off + 4, none⟩) 16 (cap - 4)) W := fun W => slice_lh W b off 24 cap 4 16 (by omega) (by omega)
  have HCAP := Lib.hid hcap; clear hcap
  obtain ⟨st, hst⟩ : ∃ st, stOf (strB p) s = st := ⟨_, rfl⟩
  have hstl : st.length = 16 := by rw [← hst]; exact stretchN_length _ _ _
  have sx := wstretch_any p (by omega) (some ⟨b, off, none⟩) cap (s.take 4) w (hA.pre 4 (by omega))
  rw [show stretchN (strB p) (s.take 4) 32 = st from hst] at sx
  rw [hst] at hr
  have HSX := Lib.hid sx; clear sx
  have HR := Lib.hid hr; clear hr
  have HST := Lib.hid hst; clear hst
  have HSTL := Lib.hid hstl; clear hstl
  have HA := Lib.hid hA; clear hA
  have HS := Lib.hid hs; clear hs
  go_enter Try.func9, Try.ntmps9
  go_wp2_with (go_at_call 15; refine (isPass_yes _ hp _).mono ?_; rintro e w' ⟨rfl, rfl⟩)
  refine HSX.out.mono ?_
  rintro e w2 ⟨rfl, b2⟩
  have HA2 := Lib.hid (HA.out.step b2)
  have HB2 := Lib.hid b2; clear b2
  have HY2 := Lib.hid (Blk.new w2 41 (ar zs))
  have HZ2 := Lib.hid ((Below.refl w2.heap.size w2).alloc (Nat.le_refl _) (.cells (ar zs) 41))
  clear HA HSX
  go_wp2_with (with_reducible refine at_store ?_
               refine wpList_store_ar rfl (.tmp 6) (.tmp 17) rfl w2.heap.size _ zs rfl rfl HSTL.out HY2.out zs_length ?_
               intro w3 hx3 hg3
               have HX3 := Lib.hid hx3; clear hx3
               have b3 := HZ2.out.grown hg3 HZ2.out.size (fun k e => by injection e with e; omega)
               have HA3 := Lib.hid (HA2.out.step b3)
               have HB3 := Lib.hid (HB2.out.trans (b3.mono HB2.out.size)); clear b3 hg3)
  clear HA2 HB2 HY2 HZ2
  generalize w2.heap.size = g6 at *
  simp only [Act.put]
  go_cut [25] from 18 to 25 (fun v wx => v = .bool (!r) ∧ Below w3.heap.size w3 wx)
  case first =>
    have b4 : Below w3.heap.size w3 w3.drew := (Below.refl _ w3).drew
    obtain ⟨w4, hw4⟩ : ∃ w4, w3.drew = w4 := ⟨_, rfl⟩
    rw [hw4] at b4
    have hA4 := HA3.out.step b4
    have HX4 := Lib.hid ((HX3.out.bsl HSTL.out (by omega)).step b4)
    have HB4 := Lib.hid b4; clear b4
    have HW4 := Lib.hid hw4; clear hw4
    have hwin := hA4.win 20 4 (by omega)
    rw [List.take_of_length_le (by rw [List.length_drop, HS.out]; omega)] at hwin
    have HWN := Lib.hid hwin; clear hwin
    have tg := wtag_any st HSTL.out _ 20 cap (s.take 20) w4 (hA4.pre 20 (by omega)) (by omega)
    have HTG := Lib.hid tg; clear tg hA4
    refine wpS_start [0, 1, 2, 3, 4, 5, 6, 7] hmx rfl HW4.out ?_
    refine wpS_read (v := ?_) rfl (by kernel_rfl) (by kernel_rfl) (by kernel_rfl) (fun _ _ _ h => h) (.inl ⟨by rfl, ?_⟩) ?_
    rotate_left
    · intro W hW
      go_simp
      with_reducible rfl
    try simp only [Act.put, List.setIfInBounds_toArray, List.set_cons_zero, List.set_cons_succ]
    refine wpS_read (v := ?_) rfl (by kernel_rfl) (by kernel_rfl) (by kernel_rfl) (fun _ _ _ h => h) (.inl ⟨by rfl, ?_⟩) ?_
    rotate_left
    · intro W hW
      go_simp
      with_reducible rfl
    try simp only [Act.put, List.setIfInBounds_toArray, List.set_cons_zero, List.set_cons_succ]
    refine wpS_load_bsl st rfl (by kernel_rfl) (by kernel_rfl) (by kernel_rfl) (fun _ _ _ h => h) rfl (.tmp 6) rfl g6 0 16 rfl HX4.out ?_
    try simp only [Act.put, List.setIfInBounds_toArray, List.set_cons_zero, List.set_cons_succ]
    refine wpS_read (v := ?_) rfl (by kernel_rfl) (by kernel_rfl) (by kernel_rfl) (fun _ _ _ h => h) (.inl ⟨by rfl, ?_⟩) ?_
    rotate_left
    · intro W hW
      go_simp
      with_reducible rfl
    try simp only [Act.put, List.setIfInBounds_toArray, List.set_cons_zero, List.set_cons_succ]
    refine wpS_read (v := ?_) rfl (by kernel_rfl) (by kernel_rfl) (by kernel_rfl) (fun _ _ _ h => h) (.inl ⟨by rfl, ?_⟩) ?_
    rotate_left
    · intro W hW
      go_simp
      with_reducible rfl
    try simp only [Act.put, List.setIfInBounds_toArray, List.set_cons_zero, List.set_cons_succ]
    refine wpS_lone rfl (by kernel_rfl) (fun K hK => ?_)
    go_simp
    refine HTG.out.mono ?_
    rintro e w5 ⟨g5, c5, rfl, _, h5, b5⟩
    refine hK _ _ (Stays.of_below b5) ?_
    clear hK K
    have eq := equal_any _ _ _ _ _ _ _ _ w5 (HWN.out.step b5) h5
    rw [HR.out] at eq
    have HEQ := Lib.hid eq; clear eq h5
    have HB5 := Lib.hid (HB4.out.trans (b5.mono HB4.out.size)); clear b5
    try simp only [Act.put, List.setIfInBounds_toArray, List.set_cons_zero, List.set_cons_succ]
    refine wpS_lone rfl (by kernel_rfl) (fun K hK => ?_)
    go_simp
    refine HEQ.out.mono ?_
    rintro e w6 ⟨rfl, e6⟩
    refine hK _ _ (Stays.same e6.symm) ?_
    clear hK K
    have HB6 := Lib.hid (show Below w3.heap.size w3 w6 from e6 ▸ HB5.out); clear e6
    try simp only [Act.put, List.setIfInBounds_toArray, List.set_cons_zero, List.set_cons_succ]
    refine wpS_read (v := ?_) rfl (by kernel_rfl) (by kernel_rfl) (by kernel_rfl) (fun _ _ _ h => h) (.inl ⟨by rfl, ?_⟩) ?_
    rotate_left
    · intro W hW
      go_simp
      with_reducible rfl
    try simp only [Act.put, List.setIfInBounds_toArray, List.set_cons_zero, List.set_cons_succ]
    refine wpS_done (by kernel_rfl) ?_
    go_wp2_with fail
    go_meet
    exact ⟨rfl, HB6.out⟩
  case rest =>
    obtain ⟨rfl, hb⟩ := hcut
    have hA5 := HA3.out.step hb
    have HX5 := Lib.hid (HX3.out.below hb HX3.out.lt)
    have HB5 := Lib.hid (HB3.out.trans (hb.mono HB3.out.size)); clear hb
    have HA5 := Lib.hid hA5; clear hA5
    clear HX3 HB3 HA3
    cases r with
    | false =>
      go_wp2_with fail
      go_ret2
      exact ⟨fun h => (by cases h), fun _ => ⟨rfl, HB5.out⟩⟩
    | true =>
      have HXL := Lib.hid (xorL_length ((s.drop 4).take 16) (maskL st) (by simp [HS.out]) (maskL_length _))
      go_wp2_with fail
      go_cut [7] from 26 to 31 (fun v wx => ∃ g, v = .pointer (some ⟨g, 0, none⟩) ∧ w.heap.size ≤ g ∧ Blk wx g 41 (ar (xorL ((s.drop 4).take 16) (maskL st))) ∧ Below w.heap.size w wx)
      case first =>
        have b4 : Below wc.heap.size wc wc.drew := (Below.refl _ wc).drew
        obtain ⟨w4, hw4⟩ : ∃ w4, wc.drew = w4 := ⟨_, rfl⟩
        rw [hw4] at b4
        have HA4 := Lib.hid ((HA5.out.win 4 16 (by omega)).step b4)
        have HX4 := Lib.hid ((HX5.out.bsl HSTL.out (by omega)).step b4)
        have HB4 := Lib.hid (HB5.out.trans (b4.mono HB5.out.size)); clear b4
        have HW4 := Lib.hid hw4; clear hw4
        have HM4 := Lib.hid (masked_any ((s.drop 4).take 16) st HA4.out.1 HSTL.out)
        refine wpS_start [0, 1, 2, 3, 4, 5, 6, 7] hmx rfl HW4.out ?_
        refine wpS_read (v := ?_) rfl (by kernel_rfl) (by kernel_rfl) (by kernel_rfl) (fun _ _ _ h => h) (.inl ⟨by rfl, ?_⟩) ?_
        rotate_left
        · intro W hW
          go_simp
          with_reducible rfl
        try simp only [Act.put, List.setIfInBounds_toArray, List.set_cons_zero, List.set_cons_succ]
        refine wpS_read (v := ?_) rfl (by kernel_rfl) (by kernel_rfl) (by kernel_rfl) (fun _ _ _ h => h) (.inl ⟨by rfl, ?_⟩) ?_
        rotate_left
        · intro W hW
          go_simp
          with_reducible rfl
        try simp only [Act.put, List.setIfInBounds_toArray, List.set_cons_zero, List.set_cons_succ]
        refine wpS_read (v := ?_) rfl (by kernel_rfl) (by kernel_rfl) (by kernel_rfl) (fun _ _ _ h => h) (.inl ⟨by rfl, ?_⟩) ?_
        rotate_left
        · intro W hW
          go_simp
          with_reducible rfl
        try simp only [Act.put, List.setIfInBounds_toArray, List.set_cons_zero, List.set_cons_succ]
        refine wpS_load_bsl ((s.drop 4).take 16) rfl (by kernel_rfl) (by kernel_rfl) (by kernel_rfl) (fun _ _ _ h => h) rfl (.tmp 28) rfl b (off + 4) (cap - 4) rfl HA4.out ?_
        try simp only [Act.put, List.setIfInBounds_toArray, List.set_cons_zero, List.set_cons_succ]
        refine wpS_load_bsl st rfl (by kernel_rfl) (by kernel_rfl) (by kernel_rfl) (fun _ _ _ h => h) rfl (.tmp 6) rfl g6 0 16 rfl HX4.out ?_
        try simp only [Act.put, List.setIfInBounds_toArray, List.set_cons_zero, List.set_cons_succ]
        refine wpS_fork rfl rfl (by kernel_rfl) (fun K hK => ?_) (fun K hK => ?_)
        · go_simp
          refine (HM4.out w4).mono ?_
          rintro e w5 ⟨rfl, b5⟩
          refine hK _ _ (Stays.of_below b5) ?_
          clear hK K
          have b6 := b5.alloc b5.size (.cells (ar zs) 41)
          have HB6 := Lib.hid (HB4.out.trans (b6.mono HB4.out.size))
          have HY6 := Lib.hid (Blk.new w5 41 (ar zs))
          have hle := Nat.le_trans HB4.out.size b5.size
          have HLE := Lib.hid hle; clear hle b5 b6
          try simp only [Act.put, List.setIfInBounds_toArray, List.set_cons_zero, List.set_cons_succ]
          refine wpS_lone rfl (by kernel_rfl) (fun K hK => ?_)
          go_simp
          refine hK _ _ (Stays.of_below ((Below.refl _ w5).alloc (Nat.le_refl _) _)) ?_
          clear hK K
          try simp only [Act.put, List.setIfInBounds_toArray, List.set_cons_zero, List.set_cons_succ]
          refine wpS_store_ar rfl (by kernel_rfl) (by kernel_rfl) rfl (.tmp 7) (.tmp 31) rfl w5.heap.size (xorL ((s.drop 4).take 16) (maskL st)) zs rfl rfl HXL.out HY6.out zs_length ?_
          intro w7 hx7 hg7
          refine wpS_done (by kernel_rfl) ?_
          have HX7 := Lib.hid hx7; clear hx7
          have HB7 := Lib.hid (HB6.out.grown hg7 HB6.out.size (fun k e => by injection e with e; have := HLE.out; omega)); clear hg7
          go_wp2_with fail
          go_meet
          exact ⟨_, rfl, HLE.out, HX7.out, HB7.out⟩
        · go_simp
          refine hK _ _ (Stays.of_below ((Below.refl _ w4).alloc (Nat.le_refl _) _)) ?_
          clear hK K
          have b5 := (Below.refl w4.heap.size w4).alloc (Nat.le_refl _) (.cells (ar zs) 41)
          have HB5 := Lib.hid (HB4.out.trans (b5.mono HB4.out.size)); clear b5
          have HY5 := Lib.hid (Blk.new w4 41 (ar zs))
          try simp only [Act.put, List.setIfInBounds_toArray, List.set_cons_zero, List.set_cons_succ]
          refine wpS_lone rfl (by kernel_rfl) (fun K hK => ?_)
          go_simp
          refine (HM4.out _).mono ?_
          rintro e w6 ⟨rfl, b6⟩
          refine hK _ _ (Stays.of_below b6) ?_
          clear hK K
          have HB6 := Lib.hid (HB5.out.trans (b6.mono HB5.out.size))
          have HY6 := Lib.hid (HY5.out.below b6 HY5.out.lt); clear b6
          try simp only [Act.put, List.setIfInBounds_toArray, List.set_cons_zero, List.set_cons_succ]
          refine wpS_store_ar rfl (by kernel_rfl) (by kernel_rfl) rfl (.tmp 7) (.tmp 31) rfl w4.heap.size (xorL ((s.drop 4).take 16) (maskL st)) zs rfl rfl HXL.out HY6.out zs_length ?_
          intro w7 hx7 hg7
          refine wpS_done (by kernel_rfl) ?_
          have HX7 := Lib.hid hx7; clear hx7
          have HB7 := Lib.hid (HB6.out.grown hg7 HB6.out.size (fun k e => by injection e with e; have := HB4.out.size; omega)); clear hg7
          go_wp2_with fail
          go_meet
          exact ⟨_, rfl, HB4.out.size, HX7.out, HB7.out⟩
      case rest =>
        obtain ⟨g7, rfl, hle, hx, hb⟩ := hcut
        have H7 := Lib.hid (hx.bsl HXL.out (by omega))
        have HB7 := Lib.hid hb; clear hb hx
        have HLE := Lib.hid hle; clear hle
        go_wp2_with fail
        go_ret2
        refine ⟨fun _ => ⟨g7, 16, rfl, HLE.out, ?_, HB7.out⟩, fun h => (by cases h)⟩
        unfold keyOf
        rw [HST.out]
        exact H7.out

theorem wUnwrap_ok (p : ByteArray) (hp : (p.size : Int) ≤ 64) (a : Option Addr) (cap : Nat) (s : List UInt8) (hr : Right (strB p) s) (w : World) (hA : Bsl w w.heap.size a 24 cap s) :
    Calls Try.prog 9 #[.string p, .slice a 24 cap] w (NewT 16 (keyOf (strB p) s) w) :=
  (wUnwrap_fit p hp a cap s true (decide_eq_true hr) w hA).mono fun _ _ h => h.1 rfl
theorem wUnwrap_no (p : ByteArray) (hp : (p.size : Int) ≤ 64) (a : Option Addr) (cap : Nat) (s : List UInt8) (hr : ¬ Right (strB p) s) (w : World) (hA : Bsl w w.heap.size a 24 cap s) :
    Calls Try.prog 9 #[.string p, .slice a 24 cap] w (Err 201 w) :=
  (wUnwrap_fit p hp a cap s false (decide_eq_false hr) w hA).mono fun _ _ h => h.2 rfl
end Go.Proofs.Ytmlmgnifgcbehaa
