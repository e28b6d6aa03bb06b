/-
  What the document's own Bytes, Stream, Turned and Turn of layer 5 answer: the stream, the bytes turned by it, the errors.
-/
import Derived.Test.YtomobnecdkachaaCipher
import Derived.Test.YtomobnecdkachaaMixRefC
import Derived.Test.YtomobnecdkachaaMovB
import Derived.Test.YtomobnecdkachaaRefA
namespace Go.Proofs.Ytomobnecdkachaa
open Go.RowKit Go.Shelf
set_option maxRecDepth 100000

/-- A list that reads as s. -/
def Lst (n : Nat) (s : List UInt8) (w : World) (e : Ending) (w' : World) : Prop :=
  ∃ a cap, e = .returned (.slice a n cap) ∧ Bsl w' w'.heap.size a n cap s ∧ Below w.heap.size w w'

set_option maxHeartbeats 2000000 in
theorem rstream_any (A : Option Addr) (cap : Nat) (k : List UInt8) (iv n : Nat) (hiv : iv < 4294967296) (hn : n ≤ 4096) (w : World) (hA : Bsl w w.heap.size A 16 cap k) :
    Calls Try.prog 22 #[.slice A 16 cap, .int .u32 iv, .int .i64 n] w (Lst n (stW k iv n) w) := by
  have n0 : (0 : Int) ≤ n := by omega
  have n1 : (n : Int) ≤ 4096 := by omega
  have v0 : (0 : Int) ≤ iv := by omega
  have v1 : (iv : Int) ≤ 4294967295 := by omega
  have HA := Lib.hid hA; clear hA
  have ON := Lib.hid (own_nil w w.heap.size)
  have HB := Lib.hid (Below.refl w.heap.size w)
  go_enter Try.func22, Try.ntmps22
  go_wp2_with fail
  go_loopw [7, 8] (fun v i wr => ∃ m : Nat, 16 * m < n + 16 ∧ i = .int .i64 m ∧ Hid (wr.ownsRow w.heap.size 5 1 v (16 * m) (vals (piecesW k iv m))) ∧ Hid (Below w.heap.size w wr)) (fun _ i _ => n - (intOf i).toNat)
  case atStart => exact ⟨0, by omega, rfl, ON, HB⟩
  case round =>
    obtain ⟨m, hm, rfl, HOr, HBr⟩ := hrel
    have m0 : (0 : Int) ≤ m := by omega
    have m1 : (m : Int) ≤ 5000 := by omega
    by_cases hlt : 16 * m < n
    · have m2 : (16 : Int) * m < n := by omega
      have HAr := Lib.hid ((HA.out.below HBr.out).more HBr.out.size)
      have HO0 := Lib.hid (own_nil wr wr.heap.size)
      go_wp2_with (at_builtin; refine wpList_append_bsl rfl (.tmp 16) (.tmp 17) rfl wr.heap.size (.slice none 0 0) 0 [] rfl HO0.out wr.heap.size A 16 cap k rfl HAr.out (by omega) (Nat.le_refl _) ?_; intro va W1 ho1 hg1)
      have b1 := app_below (Below.refl wr.heap.size wr) HO0.out hg1 (Nat.le_refl _)
      have HO1 := Lib.hid (show W1.ownsRow wr.heap.size 5 1 va 16 (vals k) from ho1)
      have HB1 := Lib.hid b1; clear ho1 hg1 b1 HO0
      refine (bytes_any iv 4 (by omega) (by omega) (by omega) W1).mono ?_
      rintro e W2 ⟨rfl, h2, b2, z2⟩
      have HO2 := Lib.hid (own_below HO1.out b2)
      have HB2 := Lib.hid (HB1.out.trans (b2.mono HB1.out.size))
      have HS2 := Lib.hid (bsl_of_holds (cap := 4) (leB_length 4 iv) (Nat.le_refl _) (by unfold maxLen; omega) z2 h2)
      clear h2 b2 z2 HO1
      go_wp2_with (at_builtin; refine wpList_append_bsl rfl (.tmp 19) (.tmp 22) rfl wr.heap.size va 16 k rfl HO2.out W2.heap.size _ 4 4 (leB 4 iv) rfl HS2.out (by omega) HB2.out.size ?_; intro vb W3 ho3 hg3)
      have HB3 := Lib.hid (app_below HB2.out HO2.out hg3 HB2.out.size)
      have HO3 := Lib.hid (show W3.ownsRow wr.heap.size 5 1 vb 20 (vals (k ++ leB 4 iv)) from ho3)
      clear ho3 hg3 HO2 HS2
      refine (bytes_any m 4 (by omega) (by omega) (by omega) W3).mono ?_
      rintro e W4 ⟨rfl, h4, b4, z4⟩
      have HO4 := Lib.hid (own_below HO3.out b4)
      have HB4 := Lib.hid (HB3.out.trans (b4.mono HB3.out.size))
      have HS4 := Lib.hid (bsl_of_holds (cap := 4) (leB_length 4 m) (Nat.le_refl _) (by unfold maxLen; omega) z4 h4)
      clear h4 b4 z4 HO3
      go_wp2_with (at_builtin; refine wpList_append_bsl rfl (.tmp 24) (.tmp 26) rfl wr.heap.size vb 20 _ rfl HO4.out W4.heap.size _ 4 4 (leB 4 m) rfl HS4.out (by omega) HB4.out.size ?_; intro vc W5 ho5 hg5; obtain ⟨gc, cc, rfl, hc1, hc2, hc3, hc4, hc5, hc6⟩ := bsl_of_own ho5 (by omega))
      have HB5 := Lib.hid (app_below HB4.out HO4.out hg5 HB4.out.size)
      have hs5 : Bsl W5 W5.heap.size (some ⟨gc, 0, none⟩) 24 cc (k ++ leB 4 iv ++ leB 4 m) := bsl_of_holds hc5 hc3 hc4 hc2 hc6
      have kk := rkey_any _ 24 cc _ W5 hs5 (by omega)
      have HK := Lib.hid kk; clear kk hs5 hc1 hc2 hc3 hc4 hc5 hc6 ho5 hg5 HO4 HS4
      refine HK.out.mono ?_
      rintro e W6 h6
      obtain ⟨g6, c6, rfl, _, h6, b6⟩ := KeyPost.newL h6
      have b06 := HB5.out.trans (b6.mono HB5.out.size)
      have HO6 := Lib.hid (own_below HOr.out b06)
      have HB6 := Lib.hid (HBr.out.trans (b06.mono HBr.out.size))
      have HS6 := Lib.hid (show Bsl W6 W6.heap.size (some ⟨g6, 0, none⟩) 16 c6 (pieceW k iv m) from h6)
      clear b6 b06 h6 HK HB5
      go_wp2_with (at_builtin; refine wpList_append_bsl rfl (.tmp 28) (.tmp 30) rfl w.heap.size u7 (16 * m) _ rfl HO6.out W6.heap.size _ 16 c6 _ rfl HS6.out (by omega) HB6.out.size ?_; intro vd W7 ho7 hg7)
      have HB7 := Lib.hid (app_below HB6.out HO6.out hg7 HB6.out.size)
      have HO7 := Lib.hid (show W7.ownsRow w.heap.size 5 1 vd (16 * (m + 1)) (vals (piecesW k iv (m + 1))) from ho7)
      clear ho7 hg7
      go_roundw
      case rel => exact ⟨m + 1, by omega, by go_num, HO7, HB7⟩
      case measure => simp [intOf]; omega
    · have m2 : ¬ (16 : Int) * m < n := by omega
      have hcase : ∃ a c, u7 = .slice a (16 * m) c := by
        obtain ⟨_, ⟨h, h'⟩ | ⟨g, c, _, h, _⟩⟩ := HOr.out
        · exact ⟨none, 0, by rw [h', h]⟩
        · exact ⟨_, _, h⟩
      obtain ⟨a, c, rfl⟩ := hcase
      have hb := own_bsl HOr.out
      have hto := fun W => slice_to W a (16 * m) c n (by have := hb.2.1; omega)
      have hs := hb.pre n (by omega)
      rw [stW_of k iv m n (by omega)] at hs
      have HS := Lib.hid hs; clear hs hb
      go_wp2_with fail
      go_ret
      exact ⟨_, _, rfl, HS.out, HBr.out⟩

set_option maxHeartbeats 2000000 in
set_option linter.unusedSimpArgs false in
theorem rturned_any (A : Option Addr) (cap : Nat) (k : List UInt8) (iv : Nat) (hiv : iv < 4294967296) (b : Option Addr) (len capb : Nat) (s : List UInt8) (hn : len ≤ 4096) (w : World) (hA : Bsl w w.heap.size A 16 cap k) (hS : Bsl w w.heap.size b len capb s) :
    Calls Try.prog 16 #[.slice A 16 cap, .int .u32 iv, .slice b len capb] w (Lst len (turnW' k iv s) w) := by
  have hmx : Try.prog.follows Departure.mixedOrders = true := by kernel_rfl
  have h0 : (0 : Int) ≤ len := by omega
  have h1 : (len : Int) ≤ 4096 := by omega
  have hl := hS.1
  have HR := Lib.hid (rstream_any A cap k iv len hiv hn w hA)
  have HBS := Lib.hid hS; clear hS hA
  have HL := Lib.hid hl; clear hl
  go_enter Try.func16, Try.ntmps16
  go_wp2_with fail
  refine HR.out.mono ?_
  rintro e w1 ⟨a1, c1, rfl, h1', b1⟩
  have HS1 := Lib.hid h1'
  have HB1 := Lib.hid b1
  have ON := Lib.hid (own_nil w1 w1.heap.size)
  clear h1' b1 HR
  go_wp2_with fail
  go_loopw [8, 9] (fun v i wr => ∃ j : Nat, j ≤ len ∧ i = .int .i64 j ∧ Hid (wr.ownsRow w1.heap.size 5 1 v j (vals ((turnW' k iv s).take j))) ∧ Hid (Below w1.heap.size w1 wr)) (fun _ i _ => len - (intOf i).toNat)
  case atStart => exact ⟨0, Nat.zero_le _, rfl, ON, Lib.hid (Below.refl _ _)⟩
  case round =>
    obtain ⟨j, hj, rfl, HOr, HBr⟩ := hrel
    by_cases hlt : j < len
    · have j0 : (0 : Int) ≤ j := by omega
      have j1 : (j : Int) < len := by omega
      obtain ⟨bb, bo, rfl, _, _⟩ := HBS.out.2.2.2.2 (by omega)
      obtain ⟨sb, so, rfl, _, _⟩ := HS1.out.2.2.2.2 (by omega)
      have cb := (HBS.out.below (HB1.out.trans (HBr.out.mono HB1.out.size))).cellD j hlt
      have cs := (HS1.out.below HBr.out).cellD j hlt
      have xr := xor8 (s.getD j 0) ((stW k iv len).getD j 0)
      have hjs : j < s.length := by rw [HL.out]; exact hlt
      have e1 : s.getD j 0 ^^^ (stW k iv len).getD j 0 = (turnW' k iv s)[j]'(by rw [turnW'_length]; exact hjs) := by
        have hst : j < (stW k iv len).length := by rw [stW_length]; exact hlt
        have e2 : (stW k iv s.length)[j]'(by rw [stW_length]; exact hjs) = (stW k iv len).getD j 0 := by
          rw [List.getD_eq_getElem?_getD, List.getElem?_eq_getElem hst]
          simp [HL.out]
        rw [turnW'_get k iv s j hjs, e2, List.getD_eq_getElem?_getD (l := s), List.getElem?_eq_getElem hjs, UInt8.xor_comm]
        rfl
      have e3 : (turnW' k iv s).take (j + 1) = (turnW' k iv s).take j ++ [s.getD j 0 ^^^ (stW k iv len).getD j 0] := by
        rw [e1, List.take_succ_eq_append_getElem]
      obtain ⟨x, hx⟩ : ∃ x, s.getD j 0 = x := ⟨_, rfl⟩
      obtain ⟨y, hy⟩ : ∃ y, (stW k iv len).getD j 0 = y := ⟨_, rfl⟩
      rw [hx, hy] at xr e3
      rw [hx] at cb
      rw [hy] at cs
      clear e1 hx hy hjs
      obtain ⟨z, hz⟩ : ∃ z, x ^^^ y = z := ⟨_, rfl⟩
      rw [hz] at xr e3
      clear hz
      have HE := Lib.hid e3; clear e3
      obtain ⟨w2, hw2⟩ : ∃ w2, wr.drew = w2 := ⟨_, rfl⟩
      have b2 : Below wr.heap.size wr w2 := hw2 ▸ (Below.refl _ wr).drew
      have d1 := (b2.cell (World.block_lt_of_cell? wr _ cb)).trans cb
      have d2 := (b2.cell (World.block_lt_of_cell? wr _ cs)).trans cs
      have D1 := fun X (hX : Below w2.heap.size w2 X) => (hX.cell (World.block_lt_of_cell? w2 _ d1)).trans d1
      have D2 := fun X (hX : Below w2.heap.size w2 X) => (hX.cell (World.block_lt_of_cell? w2 _ d2)).trans d2
      have bw : Below w2.heap.size w2 w2 := Below.refl _ _
      have HOB := Lib.hid (own_below (own_below HOr.out b2) ((Below.refl _ w2).alloc (Nat.le_refl _) (.cells #[.int .u8 (z.toNat : Int)] 5)))
      have HBB := Lib.hid ((HBr.out.trans (b2.mono HBr.out.size)).trans (((Below.refl _ w2).alloc (Nat.le_refl _) (.cells #[.int .u8 (z.toNat : Int)] 5)).mono (Nat.le_trans HBr.out.size b2.size)))
      have HZ := Lib.hid (one_bsl w2 z)
      have HW2 := Lib.hid hw2; clear hw2 b2 cb cs d1 d2
      go_wp2_with fail
      refine wpS_start [0, 1, 2, 3, 4, 5, 6, 7, 8, 9, 10, 11, 12] hmx rfl HW2.out ?_
      refine wpS_read (v := ?_) rfl (by kernel_rfl) (by kernel_rfl) (by kernel_rfl) (fun _ _ _ h => h) (.inl ⟨by rfl, ?_⟩) ?_
      rotate_left
      · intro X hX
        go_simp
        with_reducible rfl
      try simp only [Act.put, List.setIfInBounds_toArray, List.set_cons_zero, List.set_cons_succ]
      refine wpS_read (v := ?_) rfl (by kernel_rfl) (by kernel_rfl) (by kernel_rfl) (fun _ _ _ h => h) (.inl ⟨by rfl, ?_⟩) ?_
      rotate_left
      · intro X hX
        go_simp
        with_reducible rfl
      try simp only [Act.put, List.setIfInBounds_toArray, List.set_cons_zero, List.set_cons_succ]
      refine wpS_read (v := ?_) rfl (by kernel_rfl) (by kernel_rfl) (by kernel_rfl) (fun _ _ _ h => h) (.inl ⟨by rfl, ?_⟩) ?_
      rotate_left
      · intro X hX
        go_simp
        with_reducible rfl
      try simp only [Act.put, List.setIfInBounds_toArray, List.set_cons_zero, List.set_cons_succ]
      refine wpS_read (v := ?_) rfl (by kernel_rfl) (by kernel_rfl) (by kernel_rfl) (fun _ _ _ h => h) (.inl ⟨by rfl, ?_⟩) ?_
      rotate_left
      · intro X hX
        go_simp
        with_reducible rfl
      try simp only [Act.put, List.setIfInBounds_toArray, List.set_cons_zero, List.set_cons_succ]
      refine wpS_read (v := ?_) rfl (by kernel_rfl) (by kernel_rfl) (by kernel_rfl) (fun _ _ _ h => h) (.inl ⟨by rfl, ?_⟩) ?_
      rotate_left
      · intro X hX
        have hXa := hX _ bw
        go_simp
        with_reducible rfl
      try simp only [Act.put, List.setIfInBounds_toArray, List.set_cons_zero, List.set_cons_succ]
      refine wpS_read (v := ?_) rfl (by kernel_rfl) (by kernel_rfl) (by kernel_rfl) (fun _ _ _ h => h) (.inl ⟨by rfl, ?_⟩) ?_
      rotate_left
      · intro X hX
        go_simp
        with_reducible rfl
      try simp only [Act.put, List.setIfInBounds_toArray, List.set_cons_zero, List.set_cons_succ]
      refine wpS_read (v := ?_) rfl (by kernel_rfl) (by kernel_rfl) (by kernel_rfl) (fun _ _ _ h => h) (.inl ⟨by rfl, ?_⟩) ?_
      rotate_left
      · intro X hX
        go_simp
        with_reducible rfl
      try simp only [Act.put, List.setIfInBounds_toArray, List.set_cons_zero, List.set_cons_succ]
      refine wpS_read (v := ?_) rfl (by kernel_rfl) (by kernel_rfl) (by kernel_rfl) (fun _ _ _ h => h) (.inl ⟨by rfl, ?_⟩) ?_
      rotate_left
      · intro X hX
        go_simp
        with_reducible rfl
      try simp only [Act.put, List.setIfInBounds_toArray, List.set_cons_zero, List.set_cons_succ]
      refine wpS_read (v := ?_) rfl (by kernel_rfl) (by kernel_rfl) (by kernel_rfl) (fun _ _ _ h => h) (.inl ⟨by rfl, ?_⟩) ?_
      rotate_left
      · intro X hX
        have hXa := hX _ bw
        go_simp
        with_reducible rfl
      try simp only [Act.put, List.setIfInBounds_toArray, List.set_cons_zero, List.set_cons_succ]
      refine wpS_read (v := ?_) rfl (by kernel_rfl) (by kernel_rfl) (by kernel_rfl) (fun _ _ _ h => h) (.inl ⟨by rfl, ?_⟩) ?_
      rotate_left
      · intro X hX
        go_simp
        with_reducible rfl
      try simp only [Act.put, List.setIfInBounds_toArray, List.set_cons_zero, List.set_cons_succ]
      refine wpS_lone rfl (by kernel_rfl) (fun K hK => ?_)
      go_simp
      refine hK _ _ (Stays.of_below ((Below.refl _ w2).alloc (Nat.le_refl _) _)) ?_
      clear hK K
      try simp only [Act.put, List.setIfInBounds_toArray, List.set_cons_zero, List.set_cons_succ]
      refine wpS_append rfl (by kernel_rfl) (by kernel_rfl) rfl (.tmp 21) (.tmp 31) rfl w1.heap.size u8 j _ rfl HOB.out _ (some ⟨w2.heap.size, 0, none⟩) 1 1 [z] rfl HZ.out (by omega) (by omega) HBB.out.size ?_
      intro vd W7 ho7 hg7
      try simp only [Act.put, List.setIfInBounds_toArray, List.set_cons_zero, List.set_cons_succ]
      refine wpS_read (v := ?_) rfl (by kernel_rfl) (by kernel_rfl) (by kernel_rfl) (fun _ _ _ h => h) (.inl ⟨by rfl, ?_⟩) ?_
      rotate_left
      · intro X hX
        go_simp
        with_reducible rfl
      try simp only [Act.put, List.setIfInBounds_toArray, List.set_cons_zero, List.set_cons_succ]
      refine wpS_done (by kernel_rfl) ?_
      have HB7 := Lib.hid (app_below HBB.out HOB.out hg7 HBB.out.size)
      rw [← HE.out] at ho7
      have HO7 := Lib.hid ho7
      clear ho7 hg7
      go_wp2_with fail
      go_roundw
      case rel => exact ⟨j + 1, by omega, by go_num, HO7, HB7⟩
      case measure => simp [intOf]; omega
    · obtain rfl : j = len := by omega
      rw [List.take_of_length_le (by rw [turnW'_length, HL.out]; exact Nat.le_refl _)] at HOr
      have hcase : ∃ a c, u8 = .slice a j c := by
        obtain ⟨_, ⟨h, h'⟩ | ⟨g, c, _, h, _⟩⟩ := HOr.out
        · exact ⟨none, 0, by rw [h', h]⟩
        · exact ⟨_, _, h⟩
      obtain ⟨a, c, rfl⟩ := hcase
      have HS := Lib.hid (own_bsl HOr.out)
      go_wp2_with fail
      go_ret
      exact ⟨_, _, rfl, HS.out, HB1.out.trans (HBr.out.mono HB1.out.size)⟩

/-- A list that reads as s, and an error's number. -/
def Out' (c : Int) (n : Nat) (s : List UInt8) (w : World) (e : Ending) (w' : World) : Prop :=
  ∃ a cap, e = .returned (.tuple #[.slice a n cap, .int .i64 c]) ∧ Bsl w' w'.heap.size a n cap s ∧ Below w.heap.size w w'
theorem out'_err (c : Int) (w : World) : Out' c 0 [] w (.returned (.tuple #[.slice none 0 0, .int .i64 c])) w := ⟨none, 0, rfl, bsl_nil w, Below.refl _ _⟩
theorem Out.out' {c : Int} {n : Nat} {s : List UInt8} {w w' : World} {e : Ending} (h : Out c n s w e w') : Out' c n s w e w' :=
  let ⟨a, cap, he, ho, hb⟩ := h; ⟨a, cap, he, own_bsl ho, hb⟩

end Go.Proofs.Ytomobnecdkachaa
