/-
  Layer 9's own words of the law: a block of one byte; the first byte of a block that is written twice; alive.
-/
import Derived.Test.YtgpojnhhcobcbaaDevNew
import Derived.Test.YtgpojnhhcobcbaaDevRead
import Derived.Test.YtgpojnhhcobcbaaDevWrite
import Derived.Test.YtgpojnhhcobcbaaMovF
namespace Go.Proofs.Ytgpojnhhcobcbaa
open Go.RowKit Go.Shelf
set_option maxRecDepth 100000

theorem repl_succ (k : Nat) (u : UInt8) : List.replicate k u ++ [u] = List.replicate (k + 1) u := by rw [List.replicate_succ']
def slN : Value → Nat
  | .slice _ n _ => n
  | _ => 0
set_option maxHeartbeats 1000000 in
theorem of_any (u : UInt8) (w : World) : Calls Try.prog 14 #[.int .u8 (u.toNat : Int)] w (fun e w' => ∃ v, e = .returned v ∧ w'.ownsRow w.heap.size 5 1 v 256 (vals (List.replicate 256 u)) ∧ Below w.heap.size w w') := by
  go_enter Try.func14, Try.ntmps14
  go_wp2_with fail
  go_loopw [3] (fun v wr => ∃ k : Nat, k ≤ 256 ∧ Hid (wr.ownsRow w.heap.size 5 1 v k (vals (List.replicate k u))) ∧ Hid (Below w.heap.size w wr)) (fun v _ => 256 - slN v)
  case atStart => exact ⟨0, Nat.zero_le _, Lib.hid (own_nil _ _), Lib.hid (Below.refl _ _)⟩
  case round =>
    obtain ⟨k, hk, HO, HB⟩ := hrel
    obtain ⟨A, c, rfl⟩ := own_slice HO.out
    have k0 : (0 : Int) ≤ k := by omega
    by_cases hlt : k < 256
    · have k1 : (k : Int) < 256 := by omega
      obtain ⟨w1, hw1⟩ : ∃ w1, wr.alloc (.cells #[.int .u8 (u.toNat : Int)] 5) = w1 := ⟨_, rfl⟩
      have b1 : Below wr.heap.size wr w1 := by rw [← hw1]; exact (Below.refl _ _).alloc (Nat.le_refl _) _
      have x1 : Blk w1 wr.heap.size 5 (ar [u]) := by rw [← hw1]; exact Blk.new wr 5 (ar [u])
      have HO1 := Lib.hid (own_below HO.out b1)
      have HB1 := Lib.hid (HB.out.trans (b1.mono HB.out.size))
      have HN := Lib.hid (show Bsl w1 w1.heap.size (some ⟨wr.heap.size, 0, none⟩) 1 1 [u] from ⟨rfl, Nat.le_refl _, by unfold maxLen; omega, fun e => (by cases e), fun _ => ⟨wr.heap.size, 0, rfl, x1.lt, fun i hi => by rw [Nat.zero_add, x1.cell, ar_get [u] i hi]⟩⟩)
      clear b1 x1
      go_wp2_with (at_builtin
                   refine wpList_append_big rfl (.tmp 7) (.tmp 9) rfl w.heap.size (.slice A k c) k (List.replicate k u) rfl HO1.out _ (some ⟨wr.heap.size, 0, none⟩) 1 1 [u] rfl HN.out (by omega) HB1.out.size ?_
                   intro v2 w2 ho2 hg2
                   rw [repl_succ] at ho2
                   have HB2 := Lib.hid (app_below HB1.out HO1.out hg2 HB1.out.size)
                   have HO2 := Lib.hid ho2
                   clear ho2 hg2)
      obtain ⟨A2, c2, rfl⟩ := own_slice HO2.out
      go_roundw
      case rel => exact ⟨k + 1, by omega, HO2, HB2⟩
      case measure => simp [slN]; omega
    · obtain rfl : k = 256 := by omega
      go_wp2_with fail
      go_ret
      exact ⟨_, rfl, HO.out, HB.out⟩
theorem write_ok {D : DkL} {p : Int} {s : List UInt8} (hm : MayD D) (hp : 0 ≤ p ∧ p < 256) (hs : s.length = 256) (hn : D.2.length ≠ 4096) : writeO D p s = (withD D p s, 0) := by
  rw [writeO, if_pos hm, if_pos hp, if_pos hs, if_neg hn]
theorem crash_ok {D : DkL} {ks : List Bool} (hm : MayD D) (hl : ks.length = D.2.length) : crashO D ks = (keptD D (fun i => ks.getD i false), 0) := by
  rw [crashO, if_pos hm, if_pos hl]
theorem read_ok {D : DkL} {p : Nat} (hm : MayD D) (hp : p < 256) : readO D p = (leftD D (fun _ => true) p, 0) := by
  rw [readO, if_pos hm, if_pos (by omega), Int.toNat_natCast]
/-- Where none waits, a block is as it lasts. -/
theorem left_still {D : DkL} (h : D.2 = []) (mk : Nat → Bool) (p : Nat) : leftD D mk p = D.1.getD p [] := by
  unfold leftD
  rw [h]
  rfl
theorem of_len (u : UInt8) : (List.replicate 256 u).length = 256 := List.length_replicate ..
theorem OutD.far {w : World} {lo g : Nat} {x : DAt} {D : DkL} (h : OutD w lo x D) (hg : g < lo) (u v : Value) : OutD ((w.setCell ⟨g, 0, none⟩ u).setCell ⟨g, 1, none⟩ v) lo x D := by
  rcases h with h | h
  · exact .inl h
  · exact .inr (laid_far h hg (Nat.le_refl _) u v)
/-- What first sees. -/
def seenF (one two : Bool) : UInt8 := if two then 8 else if one then 7 else 0
theorem first_left (one two : Bool) : leftD (withD (withD newD 20 (List.replicate 256 7)) 20 (List.replicate 256 8)) (fun i => [one, two].getD i false) 20 = List.replicate 256 (seenF one two) := by
  cases one <;> cases two <;> rfl
set_option maxHeartbeats 2000000 in
theorem first_any (one two : Bool) (w : World) : Calls Try.prog 47 #[.bool one, .bool two] w (fun e w' => e = .returned (.int .u8 ((seenF one two).toNat : Int)) ∧ Below w.heap.size w w') := by
  have hmx : Try.prog.follows Departure.mixedOrders = true := by kernel_rfl
  have hn := dNew_any w
  obtain ⟨D1, hD1⟩ : ∃ D1, withD newD 20 (List.replicate 256 7) = D1 := ⟨_, rfl⟩
  obtain ⟨D2, hD2⟩ : ∃ D2, withD D1 20 (List.replicate 256 8) = D2 := ⟨_, rfl⟩
  have hm1 : MayD D1 := by rw [← hD1]; exact with_may newD_may (by omega) (of_len 7) (by decide)
  have hm2 : MayD D2 := by rw [← hD2]; exact with_may hm1 (by omega) (of_len 8) (by rw [← hD1]; decide)
  have hl2 : [one, two].length = D2.2.length := by rw [← hD2, ← hD1]; rfl
  obtain ⟨D3, hD3⟩ : ∃ D3, keptD D2 (fun i => [one, two].getD i false) = D3 := ⟨_, rfl⟩
  have hm3 : MayD D3 := by rw [← hD3]; exact keptD_may hm2 _
  have hr : leftD D3 (fun _ => true) 20 = List.replicate 256 (seenF one two) := by
    rw [left_still (by rw [← hD3]; rfl), ← hD3, keptD_get _ _ _ (by omega), ← hD2, ← hD1]
    exact first_left one two
  have hw1 : ∀ (x : DAt) (a : Option Addr) (c : Nat) (W : World), Dsk W W.heap.size x newD → Bsl W W.heap.size a 256 c (List.replicate 256 7) → Calls Try.prog 12 #[dval x newD, .int .i64 20, .slice a 256 c] W (ToldD (D1, 0) W) := fun x a c W h1 h2 => by
    have := dWrite_any x newD 20 a 256 c (List.replicate 256 7) W h1 h2
    rwa [write_ok newD_may (by omega) (of_len 7) (by decide), hD1] at this
  have hw2 : ∀ (x : DAt) (a : Option Addr) (c : Nat) (W : World), Dsk W W.heap.size x D1 → Bsl W W.heap.size a 256 c (List.replicate 256 8) → Calls Try.prog 12 #[dval x D1, .int .i64 20, .slice a 256 c] W (ToldD (D2, 0) W) := fun x a c W h1 h2 => by
    have := dWrite_any x D1 20 a 256 c (List.replicate 256 8) W h1 h2
    rwa [write_ok hm1 (by omega) (of_len 8) (by rw [← hD1]; decide), hD2] at this
  have hc : ∀ (x : DAt) (a : Option Addr) (W : World), Dsk W W.heap.size x D2 → Mks W W.heap.size a 2 2 [one, two] → Calls Try.prog 18 #[dval x D2, .slice a 2 2] W (ToldD (D3, 0) W) := fun x a W h1 h2 => by
    have := dCrash_any x D2 a 2 2 [one, two] W h1 h2
    rwa [crash_ok hm2 hl2, hD3] at this
  have hrd : ∀ (x : DAt) (W : World), Dsk W W.heap.size x D3 → Calls Try.prog 17 #[dval x D3, .int .i64 20] W (ToldL (List.replicate 256 (seenF one two), 0) W) := fun x W h1 => by
    have := dRead_any x D3 (20 : Nat) W h1
    rwa [read_ok hm3 (by omega), hr] at this
  obtain ⟨r, hr'⟩ : ∃ r, seenF one two = r := ⟨_, rfl⟩
  rw [hr'] at hrd ⊢
  obtain ⟨r7, hr7⟩ : ∃ s : List UInt8, List.replicate 256 7 = s := ⟨_, rfl⟩
  obtain ⟨r8, hr8⟩ : ∃ s : List UInt8, List.replicate 256 8 = s := ⟨_, rfl⟩
  have ho7 : ∀ W, Calls Try.prog 14 #[.int .u8 7] W (fun e w' => ∃ v, e = .returned v ∧ w'.ownsRow W.heap.size 5 1 v 256 (vals r7) ∧ Below W.heap.size W w') := fun W => by have := of_any 7 W; rwa [hr7] at this
  have ho8 : ∀ W, Calls Try.prog 14 #[.int .u8 8] W (fun e w' => ∃ v, e = .returned v ∧ w'.ownsRow W.heap.size 5 1 v 256 (vals r8) ∧ Below W.heap.size W w') := fun W => by have := of_any 8 W; rwa [hr8] at this
  rw [hr7] at hw1
  rw [hr8] at hw2
  simp only [dval] at hw1 hw2 hc hrd
  have HN := Lib.hid hn
  have HW1 := Lib.hid hw1
  have HW2 := Lib.hid hw2
  have HC := Lib.hid hc
  have HR := Lib.hid hrd
  have HO7 := Lib.hid ho7
  have HO8 := Lib.hid ho8
  clear hn hw1 hw2 hc hrd ho7 ho8 hr hm1 hm2 hm3 hl2 hD1 hD2 hD3 hr7 hr8 hr'
  go_enter Try.func47, Try.ntmps47
  go_wp2_with fail
  refine HN.out.mono ?_
  rintro e w1 ⟨x1, rfl, hl1, b1⟩
  have HD1 := Lib.hid hl1.dsk
  have HB1 := Lib.hid b1
  clear hl1 b1
  go_wp2_with fail
  refine (HO7.out w1).mono ?_
  rintro e w2 ⟨v2, rfl, ho2, b2⟩
  obtain ⟨A2, c2, rfl⟩ := own_slice ho2
  have HS2 := Lib.hid (own_bsl ho2)
  have HD2 := Lib.hid (HD1.out.step b2)
  have HB2 := Lib.hid (HB1.out.trans (b2.mono HB1.out.size))
  clear ho2 b2 HD1 HB1
  simp only [dval]
  go_wp2_with fail
  refine (HW1.out x1 A2 c2 w2 HD2.out HS2.out).mono ?_
  rintro e w3 ⟨x3, rfl, ho3, b3⟩
  have HD3 := Lib.hid ho3.dsk
  have HB3 := Lib.hid (HB2.out.trans (b3.mono HB2.out.size))
  clear ho3 b3 HD2 HB2 HS2
  simp only [dval]
  obtain ⟨g, hg⟩ : ∃ g, w3.heap.size = g := ⟨_, rfl⟩
  obtain ⟨n1, hn1⟩ : ∃ n, D1.1.length = n := ⟨_, rfl⟩
  obtain ⟨m1, hm1⟩ : ∃ n, D1.2.length = n := ⟨_, rfl⟩
  rw [hn1, hm1]
  obtain ⟨w4, hw4⟩ : ∃ w4, w3.alloc (.cells #[.slice x3.ba n1 x3.bc, .slice x3.wa m1 x3.wc] 25) = w4 := ⟨_, rfl⟩
  obtain ⟨wd, hwd⟩ : ∃ wd, w4.drew = wd := ⟨_, rfl⟩
  have b4 : Below w3.heap.size w3 wd := by rw [← hwd, ← hw4]; exact ((Below.refl _ _).alloc (Nat.le_refl _) _).drew
  have x4 : Blk wd g 25 #[.slice x3.ba n1 x3.bc, .slice x3.wa m1 x3.wc] := by rw [← hwd, ← hw4, ← hg]; exact (Blk.new w3 _ _).drew
  have hgl : w.heap.size ≤ g := by rw [← hg]; exact HB3.out.size
  have HD4 := Lib.hid (HD3.out.step b4)
  have HB4 := Lib.hid (HB3.out.trans (b4.mono HB3.out.size))
  have HX4 := Lib.hid x4
  have HGL := Lib.hid hgl
  have HE1 := Lib.hid (And.intro hn1 hm1)
  have c0 := x4.cell 0
  have c1 := x4.cell 1
  have C0 := fun X (hX : Below wd.heap.size wd X) => (hX.cell (p := ⟨g, 0, none⟩) (World.block_lt_of_cell? wd _ c0)).trans c0
  have C1 := fun X (hX : Below wd.heap.size wd X) => (hX.cell (p := ⟨g, 1, none⟩) (World.block_lt_of_cell? wd _ c1)).trans c1
  have hS : Below wd.heap.size wd wd := Below.refl _ _
  clear x4 b4 c0 c1 HD3 HB3 hgl hn1 hm1
  go_wp2_with fail
  clear hw4 hg
  refine wpF_start (fun k => k == 5) [0, 1, 2, 3, 4, 5, 6, 7] hmx rfl hwd ?_
  clear hwd
  refine wpF_read (v := ?_) rfl rfl (by kernel_rfl) (by kernel_rfl) (by kernel_rfl) (fun _ _ _ h => h) (.inl ⟨by rfl, ?_⟩) ?_
  rotate_left
  · intro X hX
    have hXa := C0 X (hX _ hS)
    have hXb := C1 X (hX _ hS)
    clear hX
    go_simp
    with_reducible rfl
  try simp only [Act.put, List.setIfInBounds_toArray, List.set_cons_zero, List.set_cons_succ]
  clear C0 C1 hS
  refine wpF_lone rfl (by kernel_rfl) (fun K hK => ?_)
  go_simp
  refine (HO8.out wd).mono ?_
  rintro e w5 ⟨v5, rfl, ho5, b5⟩
  obtain ⟨A5, c5, rfl⟩ := own_slice ho5
  refine hK _ _ (Stays.of_below b5) ?_
  clear hK K
  have HS5 := Lib.hid (own_bsl ho5)
  have HD5 := Lib.hid (HD4.out.step b5)
  have HB5 := Lib.hid (HB4.out.trans (b5.mono HB4.out.size))
  have HX5 := Lib.hid (HX4.out.below b5 HX4.out.lt)
  clear ho5 b5 HD4 HB4 HX4
  try simp only [Act.put, List.setIfInBounds_toArray, List.set_cons_zero, List.set_cons_succ]
  refine wpF_lone rfl (by kernel_rfl) (fun K hK => ?_)
  have HC5 := HW2.out x3 A5 c5 w5 HD5.out HS5.out
  rw [HE1.out.1, HE1.out.2] at HC5
  go_simp
  refine HC5.mono ?_
  rintro e w6 ⟨x6, rfl, ho6, b6⟩
  refine hK _ _ (Stays.of_below b6) ?_
  clear hK K HC5
  have y6 := HX5.out.below b6 HX5.out.lt
  simp only [dval]
  obtain ⟨n2, hn2⟩ : ∃ n, D2.1.length = n := ⟨_, rfl⟩
  obtain ⟨m2, hm2⟩ : ∃ n, D2.2.length = n := ⟨_, rfl⟩
  have hl5 := HX5.out.lt
  have HO6 := Lib.hid (ho6.far hl5 (.slice x6.ba n2 x6.bc) (.slice x6.wa m2 x6.wc))
  have HB6 := Lib.hid (((HB5.out.trans (b6.mono HB5.out.size)).setCell (p := ⟨g, 0, none⟩) HGL.out (.slice x6.ba n2 x6.bc)).setCell (p := ⟨g, 1, none⟩) HGL.out (.slice x6.wa m2 x6.wc))
  have HX6 := Lib.hid ((y6.set_ 0 (.slice x6.ba n2 x6.bc)).set_ 1 (.slice x6.wa m2 x6.wc))
  have HE2 := Lib.hid (And.intro hn2 hm2)
  have d0 := y6.cell 0
  have d1 := y6.cell 1
  have hf0 := y6.frozen 0
  have hf1 := y6.frozen 1
  rw [hn2, hm2]
  clear ho6 b6 y6 hn2 hm2 hl5 HB5 HD5 HS5 HX5
  iterate 2 (
    refine wpF_read (v := ?_) rfl rfl (by kernel_rfl) (by kernel_rfl) (by kernel_rfl) (fun _ _ _ h => h) (.inl ⟨by rfl, ?_⟩) ?_
    rotate_left
    · intro X hX
      clear hX
      go_simp
      with_reducible rfl
    try simp only [Act.put, List.setIfInBounds_toArray, List.set_cons_zero, List.set_cons_succ])
  refine wpF_pure (v := ?_) rfl (by kernel_rfl) (by kernel_rfl) (by kernel_rfl) (fun _ _ _ h => h) (.inl ⟨by rfl, ?_⟩) ?_
  rotate_left
  · intro X _
    go_simp
    with_reducible rfl
  try simp only [Act.put, List.setIfInBounds_toArray, List.set_cons_zero, List.set_cons_succ]
  refine wpF_last rfl (by kernel_rfl) (by kernel_rfl) (fun K hK => ?_)
  go_simp
  refine hK _ _ ?_
  clear hK K d0 d1 hf0 hf1
  try simp only [Act.put, List.setIfInBounds_toArray, List.set_cons_zero, List.set_cons_succ]
  refine wpF_read (v := ?_) rfl rfl (by kernel_rfl) (by kernel_rfl) (by kernel_rfl) (fun _ _ _ h => h) (.inl ⟨by rfl, ?_⟩) ?_
  rotate_left
  · intro X hX
    clear hX
    go_simp
    with_reducible rfl
  try simp only [Act.put, List.setIfInBounds_toArray, List.set_cons_zero, List.set_cons_succ]
  refine wpF_done (by kernel_rfl) ?_
  obtain ⟨w7, hw7⟩ : ∃ w7, ((w6.setCell ⟨g, 0, none⟩ (.slice x6.ba n2 x6.bc)).setCell ⟨g, 1, none⟩ (.slice x6.wa m2 x6.wc)) = w7 := ⟨_, rfl⟩
  rw [hw7] at HO6 HB6 HX6 ⊢
  clear hw7
  have c0 := HX6.out.cell 0
  have c1 := HX6.out.cell 1
  have HD7 := Lib.hid HO6.out.dsk
  obtain ⟨wm, hwm⟩ : ∃ wm, w7.alloc (.cells #[.bool one, .bool two] 4) = wm := ⟨_, rfl⟩
  have b8 : Below w7.heap.size w7 wm := by rw [← hwm]; exact (Below.refl _ _).alloc (Nat.le_refl _) _
  have x8 : Blk wm w7.heap.size 4 #[.bool one, .bool two] := by rw [← hwm]; exact Blk.new w7 _ _
  have HM8 := Lib.hid (show Mks wm wm.heap.size (some ⟨w7.heap.size, 0, none⟩) 2 2 [one, two] from ⟨rfl, Nat.le_refl _, by unfold maxLen; omega, fun _ => ⟨w7.heap.size, 0, rfl, x8.lt, fun i hi => by
    rw [x8.cell]
    rcases i with _ | _ | i
    · rfl
    · rfl
    · omega⟩⟩)
  have HD8 := Lib.hid (HD7.out.step b8)
  have HB8 := Lib.hid (HB6.out.trans (b8.mono HB6.out.size))
  have hc8 := HC.out x6 (some ⟨w7.heap.size, 0, none⟩) wm HD8.out HM8.out
  rw [HE2.out.1, HE2.out.2] at hc8
  have HC8 := Lib.hid hc8
  clear b8 x8 hc8 HM8 HO6 HX6 HD7 HB6 HC HW1 HW2 HO7 HO8 HN
  go_wp2_with fail
  clear hwm c0 c1
  refine HC8.out.mono ?_
  rintro e w9 ⟨x9, rfl, ho9, b9⟩
  have HD9 := Lib.hid ho9.dsk
  have HB9 := Lib.hid (HB8.out.trans (b9.mono HB8.out.size))
  clear ho9 b9 HC8 HD8 HB8
  simp only [dval]
  obtain ⟨n3, hn3⟩ : ∃ n, D3.1.length = n := ⟨_, rfl⟩
  obtain ⟨m3, hm3⟩ : ∃ n, D3.2.length = n := ⟨_, rfl⟩
  rw [hn3, hm3]
  obtain ⟨wa, hwa⟩ : ∃ wa, w9.alloc (.cells #[.slice x9.ba n3 x9.bc, .slice x9.wa m3 x9.wc] 25) = wa := ⟨_, rfl⟩
  have b10 : Below w9.heap.size w9 wa := by rw [← hwa]; exact (Below.refl _ _).alloc (Nat.le_refl _) _
  have x10 : Blk wa w9.heap.size 25 #[.slice x9.ba n3 x9.bc, .slice x9.wa m3 x9.wc] := by rw [← hwa]; exact Blk.new w9 _ _
  have hr10 := HR.out x9 wa (HD9.out.step b10)
  rw [hn3, hm3] at hr10
  have HB10 := Lib.hid (HB9.out.trans (b10.mono HB9.out.size))
  have c0 := x10.cell 0
  have c1 := x10.cell 1
  have HR10 := Lib.hid hr10
  clear b10 x10 hr10 HD9 HB9 hn3 hm3 HR
  go_wp2_with fail
  clear hwa c0 c1
  refine HR10.out.mono ?_
  rintro e w11 ⟨v, rfl, ho, b11⟩
  simp only [of_len] at ho
  obtain ⟨A, c, rfl⟩ := own_slice ho
  have hbs := own_bsl ho
  have HB11 := Lib.hid (HB10.out.trans (b11.mono HB10.out.size))
  obtain ⟨b, off, rfl, _, hce⟩ := hbs.2.2.2.2 (by omega)
  have h0 := hce 0 (by simp)
  simp only [List.getElem_replicate, Nat.add_zero] at h0
  clear ho b11 hbs hce
  go_wp2_with fail
  go_ret
  exact ⟨rfl, HB11.out⟩
theorem alive_any (w : World) : Calls Try.prog 19 #[] w (fun e w' => e = .returned (.bool true) ∧ Below w.heap.size w w') := by
  have h1 : ∀ W, Calls Try.prog 47 #[.bool true, .bool false] W (fun e w' => e = .returned (.int .u8 7) ∧ Below W.heap.size W w') := fun W => first_any true false W
  have h2 : ∀ W, Calls Try.prog 47 #[.bool true, .bool true] W (fun e w' => e = .returned (.int .u8 8) ∧ Below W.heap.size W w') := fun W => first_any true true W
  have h3 : ∀ W, Calls Try.prog 47 #[.bool false, .bool false] W (fun e w' => e = .returned (.int .u8 0) ∧ Below W.heap.size W w') := fun W => first_any false false W
  have H1 := Lib.hid h1
  have H2 := Lib.hid h2
  have H3 := Lib.hid h3
  clear h1 h2 h3
  go_enter Try.func19, Try.ntmps19
  go_wp2_with fail
  refine (H1.out _).mono ?_
  rintro e w1 ⟨rfl, b1⟩
  have HB1 := Lib.hid b1
  clear b1
  go_wp2_with fail
  refine (H2.out _).mono ?_
  rintro e w2 ⟨rfl, b2⟩
  have HB2 := Lib.hid (HB1.out.trans (b2.mono HB1.out.size))
  clear b2
  go_wp2_with fail
  refine (H3.out _).mono ?_
  rintro e w3 ⟨rfl, b3⟩
  have HB3 := Lib.hid (HB2.out.trans (b3.mono HB2.out.size))
  clear b3
  go_wp2_with fail
  go_ret
  exact ⟨rfl, HB3.out⟩
end Go.Proofs.Ytgpojnhhcobcbaa
