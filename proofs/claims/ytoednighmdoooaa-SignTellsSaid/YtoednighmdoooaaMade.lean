/-
  chain's own: digits of a number, digits of a text, slices.Clone, keys of bytes with numbers behind them, values taken on.
-/
import Derived.Test.YtoednighmdoooaaVal
namespace Go.Proofs.Ytoednighmdoooaa
open Go.RowKit Go.Shelf
set_option maxRecDepth 100000

theorem isSeed_yes (a : Option Addr) (cap : Nat) (w : World) : Calls Try.prog 43 #[.slice a 16 cap] w fun e w' => e = .returned (.bool true) ∧ w = w' := by
  go_enter Try.func43, Try.ntmps43
  go_wp2_with fail
  go_ret
  exact ⟨rfl, rfl⟩
theorem isSeed_no (a : Option Addr) (len cap : Nat) (h : len ≠ 16) (w : World) : Calls Try.prog 43 #[.slice a len cap] w fun e w' => e = .returned (.bool false) ∧ w = w' := by
  go_enter Try.func43, Try.ntmps43
  go_wp2_with fail
  go_ret
  exact ⟨by simp; omega, rfl⟩
theorem isLeaf_yes (l : Nat) (h : l < 8) (w : World) : Calls Try.prog 44 #[.int .i64 l] w fun e w' => e = .returned (.bool true) ∧ w = w' := by
  have h0 : (0 : Int) ≤ l := by omega
  have h1 : (l : Int) < 8 := by omega
  go_enter Try.func44, Try.ntmps44
  go_wp2_with fail
  go_ret
  exact ⟨rfl, rfl⟩
theorem isLeaf_no (l : Int) (h : l < 0 ∨ 7 < l) (w : World) : Calls Try.prog 44 #[.int .i64 l] w fun e w' => e = .returned (.bool false) ∧ w = w' := by
  rcases h with h | h
  · go_enter Try.func44, Try.ntmps44
    go_wp2_with fail
    go_ret
    exact ⟨rfl, rfl⟩
  · have h0 : 0 ≤ l := by omega
    go_enter Try.func44, Try.ntmps44
    go_wp2_with fail
    go_ret
    exact ⟨by simp; omega, rfl⟩

set_option maxHeartbeats 2000000 in
theorem lowest_any (x : Nat) (hx : x < 4294967296) (n : Nat) (hn : n ≤ 10) (w : World) :
    Calls Try.prog 56 #[.int .u32 x, .int .i64 n] w (NewN n (lowD x n) w) := by
  have hmk : ∀ W : World, (Instr.makeSlice 66 (.int .i64 0) (.int .i64 10)).run Try.prog W = .ok (.slice (some ⟨W.heap.size, 0, none⟩) 0 10) (W.alloc (.cells (Array.replicate 10 (.int .i64 0)) 3)) := fun W => by kernel_rfl
  have hown : (w.alloc (.cells (Array.replicate 10 (.int .i64 0)) 3)).ownsRow w.heap.size 3 1 (.slice (some ⟨w.heap.size, 0, none⟩) 0 10) 0 (valsN []) :=
    ⟨rfl, .inr ⟨w.heap.size, 10, _, rfl, Nat.le_refl _, heap_alloc_new w _, Nat.zero_le _, by unfold maxLen; omega, rfl, rfl⟩⟩
  have HO := Lib.hid hown; clear hown
  have HB := Lib.hid ((Below.refl _ w).alloc (Nat.le_refl _) (.cells (Array.replicate 10 (.int .i64 0)) 3))
  have hn' : (n : Int) ≤ 10 := by omega
  go_enter Try.func56, Try.ntmps56
  go_wp2_with fail
  go_loopw [0, 5, 8] (fun y v i wr => ∃ k : Nat, k ≤ n ∧ i = .int .i64 k ∧ y = .int .u32 ((x / 16 ^ k : Nat) : Int) ∧ wr.ownsRow w.heap.size 3 1 v k (valsN (lowD x k)) ∧ Below w.heap.size w wr) (fun _ _ i _ => n - (intOf i).toNat)
  case atStart => exact ⟨0, by omega, rfl, by simp, HO.out, HB.out⟩
  case round =>
    obtain ⟨k, hk, rfl, rfl, ho, hb⟩ := hrel
    obtain ⟨m, hm⟩ : ∃ m : Nat, x / 16 ^ k = m := ⟨_, rfl⟩
    have hml : m < 4294967296 := by rw [← hm]; exact Nat.lt_of_le_of_lt (Nat.div_le_self _ _) hx
    have hs : lowD x (k + 1) = lowD x k ++ [m % 16] := by rw [lowD, hm]
    have hd : x / 16 ^ (k + 1) = m / 16 := by rw [Nat.pow_succ, ← Nat.div_div_eq_div_mul, hm]
    rw [hm]
    have m0 : (0 : Int) ≤ m := by omega
    have m1 : (m : Int) ≤ 4294967295 := by omega
    have k0 : (0 : Int) ≤ k := by omega
    have HS := Lib.hid hs; clear hs hm
    have HD := Lib.hid hd; clear hd
    by_cases hlt : k < n
    · have k2 : (k : Int) < n := by omega
      have o1 := one_nsl wr (m % 16)
      have e1 : ((m % 16 : Nat) : Int) = (m : Int) % 16 := by omega
      rw [e1] at o1
      have HN := Lib.hid o1; clear o1
      have HOr := Lib.hid (ho.alloc (.cells #[.int .i64 ((m : Int) % 16)] 3)); clear ho
      have HBr := Lib.hid (hb.alloc hb.size (.cells #[.int .i64 ((m : Int) % 16)] 3)); clear hb e1
      go_wp2_with (at_builtin
                   refine wpList_append_nsl rfl (.tmp 10) (.tmp 14) rfl w.heap.size _ k _ rfl HOr.out _ (some ⟨wr.heap.size, 0, none⟩) 1 1 [m % 16] rfl HN.out (by omega) HBr.out.size ?_
                   intro v' W3 hown' hg'
                   have HB3 := Lib.hid (app_below HBr.out HOr.out hg' HBr.out.size); clear hg'
                   have HO3 := Lib.hid hown'; clear hown')
      go_roundw
      case rel => exact ⟨k + 1, by omega, by go_num, by rw [HD.out]; congr 1, by rw [HS.out]; exact HO3.out, HB3.out⟩
      case measure => simp [intOf]; omega
    · obtain rfl : k = n := by omega
      have HOr := Lib.hid ho; clear ho
      have HBr := Lib.hid hb; clear hb
      go_wp2_with fail
      go_ret
      exact ⟨_, rfl, HOr.out, HBr.out⟩

set_option maxHeartbeats 4000000 in
theorem digits_any (a : Option Addr) (len cap : Nat) (s : List UInt8) (w : World) (hA : Bsl w w.heap.size a len cap s) (hlen : len ≤ 4294967295) :
    Calls Try.prog 46 #[.slice a len cap] w (NewN 10 (digL (fourW s).a.toNat) w) := by
  obtain ⟨x, hx⟩ : ∃ x, (fourW s).a.toNat = x := ⟨_, rfl⟩
  have hxl : x < 4294967296 := by rw [← hx]; exact (fourW s).a.isLt
  have hf := sum_any a len cap s w hA hlen
  rw [hx] at hf ⊢
  have HF := Lib.hid hf; clear hf hA hx
  obtain ⟨D, hD⟩ : ∃ D, lowD x 8 = D := ⟨_, rfl⟩
  have hDl : D.length = 8 := by rw [← hD]; exact lowD_length _ _
  have hD15 : ∀ i, i < 8 → D.getD i 0 ≤ 15 := fun i hi => by rw [← hD, lowD_get _ _ _ hi]; omega
  have hdig : digL x = D ++ lowD (lackN D 8) 2 := by rw [digL, hD]
  rw [hdig]
  have HDL := Lib.hid hDl; clear hDl hdig
  have H15 := Lib.hid hD15; clear hD15
  have x0 : (0 : Int) ≤ x := by omega
  have x1 : (x : Int) ≤ 4294967295 := by omega
  have HD := Lib.hid hD; clear hD
  go_enter Try.func46, Try.ntmps46
  go_wp2_with fail
  refine HF.out.mono ?_
  rintro e w1 ⟨rfl, b1⟩
  have HB1 := Lib.hid b1; clear b1 HF
  go_wp2_with fail
  refine (lowest_any x hxl 8 (by omega) w1).mono ?_
  rintro e w2 ⟨v2, rfl, ho2, b2⟩
  rw [HD.out] at ho2
  have HB2 := Lib.hid (HB1.out.trans (b2.mono HB1.out.size)); clear b2
  have HO2 := Lib.hid (own_mono ho2 HB1.out.size); clear ho2
  obtain ⟨g, cg, rfl, hgb, hgl, hN2⟩ := nsl_of_own HO2.out (by omega)
  have HN2 := Lib.hid hN2; clear hN2
  have HG := Lib.hid hgb; clear hgb
  have HGL := Lib.hid hgl; clear hgl HB1
  go_wp2_with fail
  go_loop [4, 12] (fun y i => ∃ k : Nat, k ≤ 8 ∧ i = .int .i64 k ∧ y = .int .u32 ((lackN D k : Nat) : Int)) (fun _ i => 8 - (intOf i).toNat)
  case atStart => exact ⟨0, by omega, rfl, rfl⟩
  case round =>
    obtain ⟨k, hk, rfl, rfl⟩ := hrel
    obtain ⟨m, hm⟩ : ∃ m : Nat, lackN D k = m := ⟨_, rfl⟩
    have hml : m ≤ 120 := by rw [← hm]; have := lackN_le D k; omega
    have hs : lackN D (k + 1) = m + (15 - D.getD k 0) := by rw [lackN, hm]
    rw [hm]
    have m0 : (0 : Int) ≤ m := by omega
    have m1 : (m : Int) ≤ 120 := by omega
    have k0 : (0 : Int) ≤ k := by omega
    have HS := Lib.hid hs; clear hs
    have HM := Lib.hid hm; clear hm
    by_cases hlt : k < 8
    · have k2 : (k : Int) < 8 := by omega
      have hc := HN2.out.cell0 k hlt
      have h15 := H15.out k hlt
      obtain ⟨d, hd⟩ : ∃ d, D.getD k 0 = d := ⟨_, rfl⟩
      rw [hd] at hc h15
      rw [hd] at HS
      clear hd
      have d0 : (0 : Int) ≤ d := by omega
      have d1 : (d : Int) ≤ 15 := by omega
      have hw : IntKind.u32.wrap (15 - (d : Int)) = 15 - d := by simp [IntKind.wrap, IntKind.bits, IntKind.signed]; omega
      have hw2 : IntKind.u32.wrap ((m : Int) + (15 - d)) = m + (15 - d) := by simp [IntKind.wrap, IntKind.bits, IntKind.signed]; omega
      go_wp2_with fail
      go_round
      case rel => exact ⟨k + 1, by omega, by go_num, by rw [HS.out]; go_num⟩
      case measure => simp [intOf]; omega
    · obtain rfl : k = 8 := by omega
      go_wp2_with fail
      refine (lowest_any m (by omega) 2 (by omega) w2).mono ?_
      rintro e w3 ⟨v3, rfl, ho3, b3⟩
      have HB3 := Lib.hid (HB2.out.trans (b3.mono HB2.out.size))
      have HO3 := Lib.hid (own_below HO2.out b3)
      obtain ⟨g4, cg4, rfl, _, _, hN3⟩ := nsl_of_own ho3 (by omega)
      have HN3 := Lib.hid hN3; clear hN3 ho3 b3
      go_wp2_with (at_builtin
                   refine wpList_append_nsl rfl (.tmp 22) (.tmp 24) rfl w.heap.size _ 8 _ rfl HO3.out _ (some ⟨g4, 0, none⟩) 2 cg4 _ rfl HN3.out (by omega) HB3.out.size ?_
                   intro v' W3 hown' hg'
                   have HB4 := Lib.hid (app_below HB3.out HO3.out hg' HB3.out.size); clear hg'
                   have HO4 := Lib.hid hown'; clear hown')
      go_ret
      exact ⟨_, rfl, by rw [HM.out]; exact HO4.out, HB4.out⟩

/-- slices.Clone: of nil nil; of a list one of the call's own. -/
theorem clone_any (a : Option Addr) (len cap : Nat) (s : List UInt8) (w : World) (hA : Bsl w w.heap.size a len cap s) (hlen : len ≤ 20000) :
    Calls Try.prog 17 #[.slice a len cap] w fun e w' => ∃ v, e = .returned v ∧ w'.ownsRow w.heap.size 5 1 v len (vals s) ∧ Below w.heap.size w w' := by
  have q22 : ∀ (w : World) (a : Option Addr) (n c n' c' : Nat), (binOp .eql 22 (.slice a n c) (.slice none n' c')).run Try.prog w = .ok (.bool a.isNone) w := fun w a n c n' c' => Lib.run_eql_slice_nil w _ _ a n c n' c' Try.underlying22
  obtain ⟨h1, h2, h3, h4, h5⟩ := hA
  cases a with
  | none =>
    have hc := h4 rfl
    have hl : len = 0 := by omega
    subst hl; subst hc
    obtain rfl : s = [] := List.eq_nil_of_length_eq_zero h1
    go_enter Try.func17, Try.ntmps17
    go_wp2_with fail
    go_ret
    exact ⟨_, rfl, own_nil _ _, Below.refl _ _⟩
  | some ad =>
    have hA : Bsl w w.heap.size (some ad) len cap s := ⟨h1, h2, h3, h4, h5⟩
    have b1 : Below w.heap.size w (w.alloc (.cells #[] 5)) := (Below.refl _ w).alloc (Nat.le_refl _) _
    have HA1 := Lib.hid (hA.step b1); clear hA
    have HB1 := Lib.hid b1; clear b1
    have HO1 := Lib.hid (own_empty w)
    clear h1 h2 h3 h4 h5
    go_enter Try.func17, Try.ntmps17
    go_wp2_with (at_builtin
                 refine wpList_append_bsl rfl (.tmp 5) (.tmp 6) rfl w.heap.size _ 0 _ rfl HO1.out _ (some ad) len cap s rfl HA1.out (by omega) HB1.out.size ?_
                 intro v' W3 hown' hg'
                 have HB3 := Lib.hid (app_below HB1.out HO1.out hg' HB1.out.size); clear hg'
                 have HO3 := Lib.hid hown'; clear hown')
    go_ret
    refine ⟨_, rfl, ?_, HB3.out⟩
    have := HO3.out
    rwa [Nat.zero_add, List.nil_append] at this

set_option maxHeartbeats 4000000 in
/-- made: the key of bytes with numbers behind them. -/
theorem made_any (a : Option Addr) (len cap : Nat) (s : List UInt8) (gn off m cm : Nat) (ns : List Nat) (w : World) (hA : Bsl w w.heap.size a len cap s) (hlen : len ≤ 20000) (hN : Nsl w w.heap.size (some ⟨gn, off, none⟩) m cm ns) (h0 : 0 < m) (hm : m ≤ 100) (hns : ∀ i, i < m → ns.getD i 0 < 256) :
    Calls Try.prog 55 #[.slice a len cap, .slice (some ⟨gn, off, none⟩) m cm] w fun e w' => e = .returned (.agg (ar (keyL (s ++ u8s ns)))) ∧ Below w.heap.size w w' := by
  have hz := zeroV
  have ap := arrayAtV
  have b1 : Below w.heap.size w (w.alloc (.cells (ar zs) 72)) := (Below.refl _ w).alloc (Nat.le_refl _) _
  have x1 := Blk.new w 72 (ar zs)
  obtain ⟨w1, hw1⟩ : ∃ w1, w.alloc (.cells (ar zs) 72) = w1 := ⟨_, rfl⟩
  obtain ⟨g4, hg4⟩ : ∃ g4, w.heap.size = g4 := ⟨_, rfl⟩
  have hA1 := hA.step b1
  have hN1 := hN.step b1
  rw [hw1] at b1 x1 hA1 hN1
  rw [hg4] at x1 b1
  have hnl := hN.1
  have hl := hA.1
  have hc1 := clone_any a len cap s w1 hA1 hlen
  have HC1 := Lib.hid hc1; clear hc1
  have HN1 := Lib.hid hN1; clear hN1 hN
  have HX1 := Lib.hid x1; clear x1
  have HB1 := Lib.hid b1; clear b1 hA hA1
  have HNL := Lib.hid hnl; clear hnl
  have HL := Lib.hid hl; clear hl
  have HNS := Lib.hid hns; clear hns
  have HG := Lib.hid hg4; clear hg4
  have m0 : (0 : Int) ≤ m := by omega
  have m1 : (m : Int) ≤ 100 := by omega
  go_enter Try.func55, Try.ntmps55
  go_wp2_with fail
  refine HC1.out.mono ?_
  rintro e w2 ⟨v2, rfl, ho2, b2⟩
  have HO2 := Lib.hid ho2; clear ho2
  have HB2 := Lib.hid b2; clear b2 HC1
  go_wp2_with fail
  go_loopw [5, 12] (fun v i wr => ∃ k : Nat, k ≤ m ∧ i = .int .i64 k ∧ wr.ownsRow w1.heap.size 5 1 v (len + k) (vals (s ++ u8s (ns.take k))) ∧ Below w1.heap.size w1 wr) (fun _ i _ => m - (intOf i).toNat)
  case atStart => exact ⟨0, by omega, rfl, by simpa [u8s] using HO2.out, HB2.out⟩
  case round =>
    obtain ⟨k, hk, rfl, ho, hb⟩ := hrel
    have k0 : (0 : Int) ≤ k := by omega
    by_cases hlt : k < m
    · have k2 : (k : Int) < m := by omega
      have hc := (HN1.out.below hb).cellD k hlt
      have h15 := HNS.out k hlt
      have hs := u8s_take ns k (by rw [HNL.out]; exact hlt)
      obtain ⟨d, hd⟩ : ∃ d, ns.getD k 0 = d := ⟨_, rfl⟩
      rw [hd] at hc h15 hs
      clear hd
      have HS := Lib.hid hs; clear hs
      have e8 := wrapU8 d h15
      have e1 : ((UInt8.ofNat d).toNat : Int) = d := by simp; omega
      have o1 := one_bsl wr (UInt8.ofNat d)
      rw [e1] at o1
      have HN := Lib.hid o1; clear o1
      have HOr := Lib.hid (ho.alloc (.cells #[.int .u8 (d : Int)] 5)); clear ho
      have HBr := Lib.hid (hb.alloc hb.size (.cells #[.int .u8 (d : Int)] 5)); clear hb e1
      go_wp2_with (at_builtin
                   refine wpList_append_bsl rfl (.tmp 16) (.tmp 19) rfl w1.heap.size _ (len + k) _ rfl HOr.out _ (some ⟨wr.heap.size, 0, none⟩) 1 1 [UInt8.ofNat d] rfl HN.out (by omega) HBr.out.size ?_
                   intro v' W3 hown' hg'
                   have HB3 := Lib.hid (app_below HBr.out HOr.out hg' HBr.out.size); clear hg'
                   have HO3 := Lib.hid hown'; clear hown')
      go_roundw
      case rel => exact ⟨k + 1, by omega, by go_num, by rw [HS.out, ← List.append_assoc]; exact HO3.out, HB3.out⟩
      case measure => simp [intOf]; omega
    · obtain rfl : k = m := by omega
      rw [List.take_of_length_le (by rw [HNL.out]; exact Nat.le_refl _)] at ho
      obtain ⟨g5, c5, rfl, _, hg5, hn5, hm5, hl5, hh5⟩ := bsl_of_own ho (by omega)
      have hB5 := bsl_of_holds hl5 hn5 hm5 hg5 hh5
      have hk := key_any _ _ _ _ wr hB5 (by omega)
      have HK := Lib.hid hk; clear hk hB5 hh5 ho hl5 hn5 hm5 hg5
      have HXr := Lib.hid (HX1.out.below hb HX1.out.lt)
      have HBr := Lib.hid ((show Below g4 w w1 from HB1.out).trans (hb.mono (by have := HX1.out.lt; omega))); clear hb
      go_wp2_with fail
      refine HK.out.mono ?_
      rintro e w3 k3
      obtain ⟨g3, c3, rfl, _, h3, b3⟩ := KeyPost.newL k3
      have HX3 := Lib.hid (HXr.out.below b3 HXr.out.lt)
      have HB3 := Lib.hid (HBr.out.trans (b3.mono (by have := HXr.out.lt; omega))); clear b3 k3
      have HC3 := Lib.hid h3; clear h3
      go_wp2_with (first
        | (with_reducible refine at_load ?_
           refine wpList_load_bsl rfl (.tmp 24) rfl g3 0 c3 _ _ rfl HC3.out ?_)
        | (with_reducible refine at_store ?_
           rw [HG.out]
           refine wpList_store_ar rfl (.tmp 4) (.tmp 25) rfl g4 _ zs rfl rfl (keyL_length _) HX3.out zs_length ?_
           intro w5 hx5 hg5
           have HX5 := Lib.hid hx5; clear hx5
           have HB5 := Lib.hid (HB3.out.grown hg5 (Nat.le_of_lt HX3.out.lt) (fun k e => by injection e with e; omega)); clear hg5))
      exact bodyPost_ret (v := .agg (ar (keyL (s ++ u8s ns)))) (resultV Try.results55 _ _ g4 _ rfl HX5.out (keyL_length _)) rfl ⟨rfl, by rw [HG.out]; exact HB5.out⟩

theorem three_nsl (w : World) (x y z : Nat) : Nsl (w.alloc (.cells #[.int .i64 (x : Int), .int .i64 (y : Int), .int .i64 (z : Int)] 3)) (w.alloc (.cells #[.int .i64 (x : Int), .int .i64 (y : Int), .int .i64 (z : Int)] 3)).heap.size (some ⟨w.heap.size, 0, none⟩) 3 3 [x, y, z] :=
  nsl_blk (s := [x, y, z]) (Blk.new w _ _) (by simp)
theorem two_nsl (w : World) (x y : Nat) : Nsl (w.alloc (.cells #[.int .i64 (x : Int), .int .i64 (y : Int)] 3)) (w.alloc (.cells #[.int .i64 (x : Int), .int .i64 (y : Int)] 3)).heap.size (some ⟨w.heap.size, 0, none⟩) 2 2 [x, y] :=
  nsl_blk (s := [x, y]) (Blk.new w _ _) (by simp)
set_option maxHeartbeats 4000000 in
/-- on: so many steps on. -/
theorem on_any (l p n st : Nat) (hl : l < 8) (hp : p < 10) (hn : n + st ≤ 15) (v : List UInt8) (hv : v.length = 16) (w : World) :
    Calls Try.prog 48 #[.agg (ar v), .int .i64 l, .int .i64 p, .int .i64 n, .int .i64 st] w fun e w' => e = .returned (.agg (ar (onL l p n v st))) ∧ Below w.heap.size w w' := by
  have hz := zeroV
  have sl := sliceAtV
  obtain ⟨g5, hg5⟩ : ∃ g5, w.heap.size = g5 := ⟨_, rfl⟩
  obtain ⟨w2, hw2⟩ : ∃ w2, (w.alloc (.cells (ar v) 72)).alloc (.cells (ar zs) 72) = w2 := ⟨_, rfl⟩
  have x5 : Blk w2 g5 72 (ar v) := by rw [← hw2, ← hg5]; exact (Blk.new w _ _).alloc _
  have x10 : Blk w2 (g5 + 1) 72 (ar zs) := by
    have := Blk.new (w.alloc (.cells (ar v) 72)) 72 (ar zs)
    rw [hw2, World.size_alloc, hg5] at this
    exact this
  have b2 : Below g5 w w2 := by rw [← hw2, ← hg5]; exact ((Below.refl _ w).alloc (Nat.le_refl _) _).alloc (by simp) _
  have HX5 := Lib.hid x5; clear x5
  have HX10 := Lib.hid x10; clear x10
  have HB2 := Lib.hid b2; clear b2
  have HV := Lib.hid hv; clear hv
  have HG := Lib.hid hg5; clear hg5
  have l0 : (0 : Int) ≤ l := by omega
  have l1 : (l : Int) < 8 := by omega
  have p0 : (0 : Int) ≤ p := by omega
  have p1 : (p : Int) < 10 := by omega
  have n0 : (0 : Int) ≤ n := by omega
  have n1 : (n : Int) ≤ 15 := by omega
  have s0 : (0 : Int) ≤ st := by omega
  have s1 : (st : Int) ≤ 15 := by omega
  go_enter Try.func48, Try.ntmps48
  go_wp2_with fail
  rw [HG.out]
  go_loopw [13] (fun i wr => ∃ k : Nat, k ≤ st ∧ i = .int .i64 k ∧ Blk wr g5 72 (ar (onL l p n v k)) ∧ Blk wr (g5 + 1) 72 (ar zs) ∧ Below g5 w wr) (fun i _ => st - (intOf i).toNat)
  case atStart => exact ⟨0, by omega, rfl, HX5.out, HX10.out, HB2.out⟩
  case round =>
    obtain ⟨k, hk, rfl, hx, hy, hb⟩ := hrel
    have k0 : (0 : Int) ≤ k := by omega
    have hgs := hx.lt
    by_cases hlt : k < st
    · have k2 : (k : Int) < st := by omega
      have k3 : (n : Int) + k ≤ 15 := by omega
      have o1 := three_nsl wr l p (n + k)
      have e1 : ((n + k : Nat) : Int) = (n : Int) + k := by omega
      rw [e1] at o1
      obtain ⟨w3, hw3⟩ : ∃ w3, wr.alloc (.cells #[.int .i64 (l : Int), .int .i64 (p : Int), .int .i64 ((n : Int) + k)] 3) = w3 := ⟨_, rfl⟩
      have b3 : Below wr.heap.size wr w3 := by rw [← hw3]; exact (Below.refl _ wr).alloc (Nat.le_refl _) _
      have q1 := (hx.bsl (onL_length _ _ _ _ HV.out _) (by omega)).step b3
      rw [hw3] at o1
      have hmd := made_any _ 16 16 _ _ 0 3 3 _ w3 q1 (by omega) o1 (by omega) (by omega) (fun i hi => by
        have : i = 0 ∨ i = 1 ∨ i = 2 := by omega
        rcases this with rfl | rfl | rfl
        · show l < 256; omega
        · show p < 256; omega
        · show n + k < 256; omega)
      have HM := Lib.hid hmd; clear hmd o1 q1
      have hs3 := b3.size
      have HX3 := Lib.hid (hx.below b3 hgs)
      have HY3 := Lib.hid (hy.below b3 hy.lt)
      have HB3 := Lib.hid (hb.trans (b3.mono (Nat.le_of_lt hgs))); clear hb b3 hx hy e1
      go_wp2_with fail
      clear hw3
      refine HM.out.mono ?_
      rintro e w4 ⟨rfl, b4⟩
      have HX4 := Lib.hid (HX3.out.below b4 HX3.out.lt)
      have HY4 := Lib.hid (HY3.out.below b4 HY3.out.lt)
      have HB4 := Lib.hid (HB3.out.trans (b4.mono (Nat.le_of_lt HX3.out.lt))); clear b4 HM
      go_wp2_with (with_reducible refine at_store ?_
                   refine wpList_store_ar rfl (.tmp 5) (.tmp 23) rfl g5 _ _ rfl rfl (keyL_length _) HX4.out (onL_length _ _ _ _ HV.out _) ?_
                   intro w9 hx9 hg9
                   have HX9 := Lib.hid hx9; clear hx9
                   have HY9 := Lib.hid (HY4.out.grown hg9 (fun e => by injection e with e; omega))
                   have HB9 := Lib.hid (HB4.out.grown hg9 (Nat.le_of_lt HX4.out.lt) (fun k e => by injection e with e; omega)); clear hg9)
      go_roundw
      case rel => exact ⟨k + 1, by omega, by go_num, HX9.out, HY9.out, HB9.out⟩
      case measure => simp [intOf]; omega
    · obtain rfl : k = st := by omega
      have HXr := Lib.hid hx; clear hx
      have HYr := Lib.hid hy; clear hy
      have HBr := Lib.hid hb; clear hb
      go_wp2_with (first
        | (with_reducible refine at_load ?_
           refine wpList_load_ar rfl (.tmp 5) rfl g5 _ HXr.out (onL_length _ _ _ _ HV.out _) ?_)
        | (with_reducible refine at_load ?_
           refine wpList_load_ar rfl (.tmp 5) rfl g5 _ rfl HXr.out (onL_length _ _ _ _ HV.out _) ?_)
        | (with_reducible refine at_store ?_
           refine wpList_store_ar rfl (.tmp 10) (.tmp 25) rfl (g5 + 1) _ zs rfl rfl (onL_length _ _ _ _ HV.out _) HYr.out zs_length ?_
           intro w9 hx9 hg9
           have HX9 := Lib.hid hx9; clear hx9
           have HB9 := Lib.hid (HBr.out.grown hg9 (Nat.le_of_lt hgs) (fun k e => by injection e with e; omega)); clear hg9))
      exact bodyPost_ret (v := .agg (ar (onL l p n v k))) (resultV Try.results48 _ _ (g5 + 1) _ rfl HX9.out (onL_length _ _ _ _ HV.out _)) rfl ⟨rfl, by rw [HG.out]; exact HB9.out⟩
end Go.Proofs.Ytoednighmdoooaa
