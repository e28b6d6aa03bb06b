/-
  The document's own Digits, next, Value, Made, Same for layer 7.
-/
import Derived.Test.YtoednighmdoooaaVal
import Derived.Test.YtoednighmdoooaaMixRefC
namespace Go.Proofs.Ytoednighmdoooaa
open Go.RowKit Go.Shelf
set_option maxRecDepth 100000

set_option maxHeartbeats 4000000 in
theorem rdigits_any (a : Option Addr) (len cap : Nat) (s : List UInt8) (w : World) (hA : Bsl w w.heap.size a len cap s) (hlen : len ≤ 100000) :
    Calls Try.prog 38 #[.slice a len cap] w (NewN 10 (digL (fourW s).a.toNat) w) := by
  obtain ⟨x, hx⟩ : ∃ x, (fourW s).a.toNat = x := ⟨_, rfl⟩
  have hxl : x < 4294967296 := by rw [← hx]; exact (fourW s).a.isLt
  have hf := rsum_any a len cap s w hA hlen
  rw [hx] at hf ⊢
  have HF := Lib.hid hf; clear hf hA hx
  obtain ⟨D, hD⟩ : ∃ D, lowD x 8 = D := ⟨_, rfl⟩
  have hDg : ∀ k, k < 8 → D.getD k 0 = x / 16 ^ k % 16 := fun k hk => by rw [← hD, lowD_get _ _ _ hk]
  obtain ⟨L, hL⟩ : ∃ L, lackN D 8 = L := ⟨_, rfl⟩
  have hLl : L ≤ 120 := by rw [← hL]; have := lackN_le D 8; omega
  have hdig : digL x = (D ++ [L % 16]) ++ [L / 16] := by
    rw [digL, hD, hL, List.append_assoc]
    congr 1
    show [] ++ [L / 16 ^ 0 % 16] ++ [L / 16 ^ 1 % 16] = _
    rw [Nat.pow_zero, Nat.div_one, Nat.pow_one, Nat.mod_eq_of_lt (show L / 16 < 16 by omega)]
    rfl
  rw [hdig]
  clear hdig
  have HDG := Lib.hid hDg; clear hDg
  have HD := Lib.hid hD; clear hD
  have HL := Lib.hid hL; clear hL
  have x0 : (0 : Int) ≤ x := by omega
  have x1 : (x : Int) ≤ 4294967295 := by omega
  have L0 : (0 : Int) ≤ L := by omega
  have L1 : (L : Int) ≤ 120 := by omega
  go_enter Try.func38, Try.ntmps38
  go_wp2_with fail
  refine HF.out.mono ?_
  rintro e w1 ⟨rfl, b1⟩
  have HB1 := Lib.hid b1; clear b1 HF
  go_wp2_with fail
  go_loopw [3, 4, 5, 6] (fun n v lf i wr => ∃ k : Nat, k ≤ 8 ∧ i = .int .i64 k ∧ n = .int .i64 ((x / 16 ^ k : Nat) : Int) ∧ lf = .int .i64 ((15 * (8 - k) + lackN D k : Nat) : Int) ∧ wr.ownsRow w.heap.size 3 1 v k (valsN (lowD x k)) ∧ Below w.heap.size w wr) (fun _ _ _ i _ => 8 - (intOf i).toNat)
  case atStart => exact ⟨0, by omega, rfl, by simp, rfl, World.ownsRow_nil _ _ _ _, HB1.out⟩
  case round =>
    obtain ⟨k, hk, rfl, rfl, rfl, ho, hb⟩ := hrel
    obtain ⟨m, hm⟩ : ∃ m : Nat, x / 16 ^ k = m := ⟨_, rfl⟩
    have hml : m < 4294967296 := by rw [← hm]; exact Nat.lt_of_le_of_lt (Nat.div_le_self _ _) hxl
    have hs : lowD x (k + 1) = lowD x k ++ [m % 16] := by rw [lowD, hm]
    have hd : x / 16 ^ (k + 1) = m / 16 := by rw [Nat.pow_succ, ← Nat.div_div_eq_div_mul, hm]
    have hlk := lackN_le D k
    obtain ⟨q, hq⟩ : ∃ q : Nat, 15 * (8 - k) + lackN D k = q := ⟨_, rfl⟩
    have hq2 : k < 8 → 15 * (8 - (k + 1)) + lackN D (k + 1) = q - m % 16 := fun h => by rw [lackN, HDG.out k h, hm]; omega
    have hq15 : k < 8 → 15 ≤ q := fun h => by omega
    have hq3 : q ≤ 120 + 120 := by omega
    rw [hm, hq]
    have m0 : (0 : Int) ≤ m := by omega
    have m1 : (m : Int) ≤ 4294967295 := by omega
    have q0 : (0 : Int) ≤ q := by omega
    have q1 : (q : Int) ≤ 240 := by omega
    have k0 : (0 : Int) ≤ k := by omega
    have HS := Lib.hid hs; clear hs hm hlk hq3
    have HD' := Lib.hid hd; clear hd
    have HQ := Lib.hid hq; clear hq
    have HQ2 := Lib.hid hq2; clear hq2
    by_cases hlt : k < 8
    · have k2 : (k : Int) < 8 := by omega
      have q15 := hq15 hlt
      have q16 : (15 : Int) ≤ q := by omega
      clear hq15
      have o1 := one_nsl wr (m % 16)
      have e1 : ((m % 16 : Nat) : Int) = (m : Int) % 16 := by omega
      rw [e1] at o1
      have HN := Lib.hid o1; clear o1
      have HOr := Lib.hid (ho.alloc (.cells #[.int .i64 ((m : Int) % 16)] 3)); clear ho
      have HBr := Lib.hid (hb.alloc hb.size (.cells #[.int .i64 ((m : Int) % 16)] 3)); clear hb e1
      go_wp2_with (at_builtin
                   refine wpList_append_nsl rfl (.tmp 14) (.tmp 17) rfl w.heap.size _ k _ rfl HOr.out _ (some ⟨wr.heap.size, 0, none⟩) 1 1 [m % 16] rfl HN.out (by omega) HBr.out.size ?_
                   intro v' W3 hown' hg'
                   have HB3 := Lib.hid (app_below HBr.out HOr.out hg' HBr.out.size); clear hg'
                   have HO3 := Lib.hid hown'; clear hown')
      go_roundw
      case rel => exact ⟨k + 1, by omega, by go_num, by rw [HD'.out]; go_num, by rw [HQ2.out hlt]; go_num, by rw [HS.out]; exact HO3.out, HB3.out⟩
      case measure => simp [intOf]; omega
    · obtain rfl : k = 8 := by omega
      have hqL : q = L := by rw [← HQ.out, HL.out]; omega
      subst hqL
      rw [HD.out] at ho
      have o1 := one_nsl wr (q % 16)
      have e1 : ((q % 16 : Nat) : Int) = (q : Int) % 16 := by omega
      rw [e1] at o1
      have HN := Lib.hid o1; clear o1
      have HOr := Lib.hid (ho.alloc (.cells #[.int .i64 ((q : Int) % 16)] 3)); clear ho
      have HBr := Lib.hid (hb.alloc hb.size (.cells #[.int .i64 ((q : Int) % 16)] 3)); clear hb e1 hq15
      go_wp2_with (first
        | (at_builtin
           refine wpList_append_nsl rfl (.tmp 25) (.tmp 28) rfl w.heap.size _ 8 _ rfl HOr.out _ (some ⟨wr.heap.size, 0, none⟩) 1 1 [q % 16] rfl HN.out (by omega) HBr.out.size ?_
           intro v' W3 hown' hg'
           have HB3 := Lib.hid (app_below HBr.out HOr.out hg' HBr.out.size); clear hg'
           have HO3 := Lib.hid (hown'.alloc (.cells #[.int .i64 ((q : Int) / 16)] 3))
           have HB4 := Lib.hid (HB3.out.alloc HB3.out.size (.cells #[.int .i64 ((q : Int) / 16)] 3))
           have o2 := one_nsl W3 (q / 16)
           have HN2 := Lib.hid (show Nsl (W3.alloc (.cells #[.int .i64 ((q : Int) / 16)] 3)) (W3.alloc (.cells #[.int .i64 ((q : Int) / 16)] 3)).heap.size (some ⟨W3.heap.size, 0, none⟩) 1 1 [q / 16] from o2)
           clear o2 hown')
        | (at_builtin
           refine wpList_append_nsl rfl (.tmp 30) (.tmp 33) rfl w.heap.size _ (8 + 1) _ rfl HO3.out _ (some ⟨W3.heap.size, 0, none⟩) 1 1 [q / 16] rfl HN2.out (by omega) HB4.out.size ?_
           intro v'' W5 hown5 hg5
           have HB5 := Lib.hid (app_below HB4.out HO3.out hg5 HB4.out.size); clear hg5
           have HO5 := Lib.hid hown5; clear hown5))
      go_ret
      exact ⟨_, rfl, HO5.out, HB5.out⟩
theorem three_bsl (w : World) (x y z : Nat) (hx : x < 256) (hy : y < 256) (hz : z < 256) : Bsl (w.alloc (.cells #[.int .u8 (x : Int), .int .u8 (y : Int), .int .u8 (z : Int)] 5)) (w.alloc (.cells #[.int .u8 (x : Int), .int .u8 (y : Int), .int .u8 (z : Int)] 5)).heap.size (some ⟨w.heap.size, 0, none⟩) 3 3 (u8s [x, y, z]) := by
  have h := Blk.bsl (n := 3) (Blk.new w 5 (ar (u8s [x, y, z]))) rfl (by omega)
  have e : ar (u8s [x, y, z]) = #[.int .u8 (x : Int), .int .u8 (y : Int), .int .u8 (z : Int)] := by
    simp [ar, vals, u8s]; omega
  rw [e] at h
  exact h
theorem two_bsl (w : World) (x y : Nat) (hx : x < 256) (hy : y < 256) : Bsl (w.alloc (.cells #[.int .u8 (x : Int), .int .u8 (y : Int)] 5)) (w.alloc (.cells #[.int .u8 (x : Int), .int .u8 (y : Int)] 5)).heap.size (some ⟨w.heap.size, 0, none⟩) 2 2 (u8s [x, y]) := by
  have h := Blk.bsl (n := 2) (Blk.new w 5 (ar (u8s [x, y]))) rfl (by omega)
  have e : ar (u8s [x, y]) = #[.int .u8 (x : Int), .int .u8 (y : Int)] := by
    simp [ar, vals, u8s]; omega
  rw [e] at h
  exact h
theorem uno_bsl (w : World) (x : Nat) (hx : x < 256) : Bsl (w.alloc (.cells #[.int .u8 (x : Int)] 5)) (w.alloc (.cells #[.int .u8 (x : Int)] 5)).heap.size (some ⟨w.heap.size, 0, none⟩) 1 1 (u8s [x]) := by
  have h := Blk.bsl (n := 1) (Blk.new w 5 (ar (u8s [x]))) rfl (by omega)
  have e : ar (u8s [x]) = #[.int .u8 (x : Int)] := by
    simp [ar, vals, u8s]; omega
  rw [e] at h
  exact h
/-- A list of the call's own. -/
def OwnV (n : Nat) (s : List UInt8) (w : World) (e : Ending) (w' : World) : Prop := ∃ v, e = .returned v ∧ w'.ownsRow w.heap.size 5 1 v n (vals s) ∧ Below w.heap.size w w'
theorem own_to {w : World} {B n : Nat} {v : Value} {s : List UInt8} (h : w.ownsRow B 5 1 v n (vals s)) : ∃ a cap, v = .slice a n cap ∧ Bsl w w.heap.size a n cap s := by
  obtain ⟨a, cap, rfl⟩ := own_slice h
  exact ⟨a, cap, rfl, own_bsl h⟩

set_option maxHeartbeats 2000000 in
theorem rnext_any (a : Option Addr) (len cap : Nat) (s : List UInt8) (l p n : Nat) (hl : l < 8) (hp : p < 10) (hn : n < 16) (w : World) (hA : Bsl w w.heap.size a len cap s) (hlen : len ≤ 20000) :
    Calls Try.prog 40 #[.slice a len cap, .int .i64 l, .int .i64 p, .int .i64 n] w (OwnV 16 (keyL (s ++ u8s [l, p, n])) w) := by
  have e1 := wrapU8 l (by omega)
  have e2 := wrapU8 p (by omega)
  have e3 := wrapU8 n (by omega)
  have l0 : (0 : Int) ≤ l := by omega
  have p0 : (0 : Int) ≤ p := by omega
  have n0 : (0 : Int) ≤ n := by omega
  have hlp : l < 256 ∧ p < 256 ∧ n < 256 := by omega
  have HLP := Lib.hid hlp; clear hlp
  have HA := Lib.hid hA; clear hA
  have HO0 := Lib.hid (own_nil w w.heap.size)
  have HB0 := Lib.hid (Below.refl w.heap.size w)
  go_enter Try.func40, Try.ntmps40
  go_wp2_with (first
    | (at_builtin
       refine wpList_append_bsl rfl (.tmp 10) (.tmp 11) rfl w.heap.size _ 0 _ rfl HO0.out _ a len cap s rfl HA.out (by omega) HB0.out.size ?_
       intro v1 W1 hown1 hg1
       rw [Nat.zero_add, List.nil_append] at hown1
       have HB1 := Lib.hid ((app_below HB0.out HO0.out hg1 HB0.out.size).alloc hg1.size (.cells #[.int .u8 (l : Int), .int .u8 (p : Int), .int .u8 (n : Int)] 5)); clear hg1
       have HO1 := Lib.hid (hown1.alloc (.cells #[.int .u8 (l : Int), .int .u8 (p : Int), .int .u8 (n : Int)] 5)); clear hown1
       have HN1 := Lib.hid (three_bsl W1 l p n HLP.out.1 HLP.out.2.1 HLP.out.2.2))
    | (at_builtin
       refine wpList_append_bsl rfl (.tmp 13) (.tmp 20) rfl w.heap.size _ len _ rfl HO1.out _ (some ⟨W1.heap.size, 0, none⟩) 3 3 _ rfl HN1.out (by omega) HB1.out.size ?_
       intro v2 W2 hown2 hg2
       have HB2 := Lib.hid (app_below HB1.out HO1.out hg2 HB1.out.size); clear hg2
       have HO2 := Lib.hid hown2; clear hown2
       obtain ⟨a3, c3, ev, hb3⟩ := own_to HO2.out
       subst ev
       have HT2 := Lib.hid hb3; clear hb3))
  have hk := rkey_own _ _ _ _ W2 HT2.out (by omega)
  have HK := Lib.hid hk; clear hk
  refine HK.out.mono ?_
  rintro e w3 ⟨v3, rfl, ho3, b3⟩
  have HB3 := Lib.hid (HB2.out.trans (b3.mono HB2.out.size))
  have HO3 := Lib.hid (own_mono ho3 HB2.out.size); clear ho3 b3 HK
  go_wp2_with fail
  go_ret
  exact ⟨_, rfl, HO3.out, HB3.out⟩

set_option maxHeartbeats 2000000 in
theorem rmade_any (a : Option Addr) (len cap : Nat) (s : List UInt8) (l : Nat) (hl : l < 8) (w : World) (hA : Bsl w w.heap.size a len cap s) (hlen : len ≤ 20000) :
    Calls Try.prog 41 #[.slice a len cap, .int .i64 l] w (OwnV 16 (pubL l s) w) := by
  have e1 := wrapU8 l (by omega)
  have l0 : (0 : Int) ≤ l := by omega
  have hlp : l < 256 := by omega
  have HLP := Lib.hid hlp; clear hlp
  have HA := Lib.hid hA; clear hA
  have HO0 := Lib.hid (own_nil w w.heap.size)
  have HB0 := Lib.hid (Below.refl w.heap.size w)
  go_enter Try.func41, Try.ntmps41
  go_wp2_with (first
    | (at_builtin
       refine wpList_append_bsl rfl (.tmp 6) (.tmp 7) rfl w.heap.size _ 0 _ rfl HO0.out _ a len cap s rfl HA.out (by omega) HB0.out.size ?_
       intro v1 W1 hown1 hg1
       rw [Nat.zero_add, List.nil_append] at hown1
       have HB1 := Lib.hid ((app_below HB0.out HO0.out hg1 HB0.out.size).alloc hg1.size (.cells #[.int .u8 (l : Int)] 5)); clear hg1
       have HO1 := Lib.hid (hown1.alloc (.cells #[.int .u8 (l : Int)] 5)); clear hown1
       have HN1 := Lib.hid (uno_bsl W1 l HLP.out))
    | (at_builtin
       refine wpList_append_bsl rfl (.tmp 9) (.tmp 12) rfl w.heap.size _ len _ rfl HO1.out _ (some ⟨W1.heap.size, 0, none⟩) 1 1 _ rfl HN1.out (by omega) HB1.out.size ?_
       intro v2 W2 hown2 hg2
       have HB2 := Lib.hid (app_below HB1.out HO1.out hg2 HB1.out.size); clear hg2
       have HO2 := Lib.hid hown2; clear hown2
       obtain ⟨a3, c3, ev, hb3⟩ := own_to HO2.out
       subst ev
       have HT2 := Lib.hid hb3; clear hb3))
  have hk := rkey_own _ _ _ _ W2 HT2.out (by omega)
  have HK := Lib.hid hk; clear hk
  refine HK.out.mono ?_
  rintro e w3 ⟨v3, rfl, ho3, b3⟩
  have HB3 := Lib.hid (HB2.out.trans (b3.mono HB2.out.size))
  have HO3 := Lib.hid (own_mono ho3 HB2.out.size); clear ho3 b3 HK
  go_wp2_with fail
  go_ret
  exact ⟨_, rfl, HO3.out, HB3.out⟩

set_option maxHeartbeats 2000000 in
theorem rvalue_any (a : Option Addr) (cap : Nat) (sd : List UInt8) (l p : Nat) (hl : l < 8) (hp : p < 10) : ∀ (n : Nat), n ≤ 15 → ∀ w : World, Bsl w w.heap.size a 16 cap sd →
    Calls Try.prog 39 #[.slice a 16 cap, .int .i64 l, .int .i64 p, .int .i64 n] w (OwnV 16 (valL sd l p n) w)
  | 0, _, w, hA => by
    have e1 := wrapU8 l (by omega)
    have e2 := wrapU8 p (by omega)
    have l0 : (0 : Int) ≤ l := by omega
    have p0 : (0 : Int) ≤ p := by omega
    have hlp : l < 256 ∧ p < 256 := by omega
    have HLP := Lib.hid hlp; clear hlp
    have HA := Lib.hid hA; clear hA
    have HO0 := Lib.hid (own_nil w w.heap.size)
    have HB0 := Lib.hid (Below.refl w.heap.size w)
    go_enter Try.func39, Try.ntmps39
    go_wp2_with (first
      | (at_builtin
         refine wpList_append_bsl rfl (.tmp 12) (.tmp 13) rfl w.heap.size _ 0 _ rfl HO0.out _ a 16 cap sd rfl HA.out (by omega) HB0.out.size ?_
         intro v1 W1 hown1 hg1
         rw [Nat.zero_add, List.nil_append] at hown1
         have HB1 := Lib.hid ((app_below HB0.out HO0.out hg1 HB0.out.size).alloc hg1.size (.cells #[.int .u8 (l : Int), .int .u8 (p : Int)] 5)); clear hg1
         have HO1 := Lib.hid (hown1.alloc (.cells #[.int .u8 (l : Int), .int .u8 (p : Int)] 5)); clear hown1
         have HN1 := Lib.hid (two_bsl W1 l p HLP.out.1 HLP.out.2))
      | (at_builtin
         refine wpList_append_bsl rfl (.tmp 15) (.tmp 20) rfl w.heap.size _ 16 _ rfl HO1.out _ (some ⟨W1.heap.size, 0, none⟩) 2 2 _ rfl HN1.out (by omega) HB1.out.size ?_
         intro v2 W2 hown2 hg2
         have HB2 := Lib.hid (app_below HB1.out HO1.out hg2 HB1.out.size); clear hg2
         have HO2 := Lib.hid (show W2.ownsRow w.heap.size 5 1 v2 18 _ from hown2); clear hown2
         obtain ⟨a3, c3, ev, hb3⟩ := own_to HO2.out
         subst ev
         have HT2 := Lib.hid hb3; clear hb3))
    have hk := rkey_own _ _ _ _ W2 HT2.out (by omega)
    have HK := Lib.hid hk; clear hk
    refine HK.out.mono ?_
    rintro e w3 ⟨v3, rfl, ho3, b3⟩
    have HB3 := Lib.hid (HB2.out.trans (b3.mono HB2.out.size))
    have HO3 := Lib.hid (own_mono ho3 HB2.out.size); clear ho3 b3 HK
    go_wp2_with fail
    go_ret
    exact ⟨_, rfl, HO3.out, HB3.out⟩
  | n + 1, hn, w, hA => by
    have ih := rvalue_any a cap sd l p hl hp n (by omega) w hA
    obtain ⟨V, hV⟩ : ∃ V, valL sd l p n = V := ⟨_, rfl⟩
    have hVn : valL sd l p (n + 1) = keyL (V ++ u8s [l, p, n]) := by
      rw [← hV, valL, onL, Nat.zero_add]
      rfl
    rw [hV] at ih
    rw [hVn]
    clear hVn hV
    have h2 : (((n + 1 : Nat) : Int) == 0) = false := by simp; omega
    obtain ⟨m, hm⟩ : ∃ m : Int, ((n + 1 : Nat) : Int) = m := ⟨_, rfl⟩
    have hmk : m - 1 = (n : Int) := by omega
    rw [hm] at h2 ⊢
    have hm1 : 1 ≤ m := by omega
    have hm5 : m ≤ 15 := by omega
    rw [← hmk] at ih
    have HI := Lib.hid ih; clear ih hA
    have HM := Lib.hid hmk; clear hmk hm
    go_enter Try.func39, Try.ntmps39
    go_wp2_with fail
    refine HI.out.mono ?_
    rintro e w1 ⟨v1, rfl, ho1, b1⟩
    obtain ⟨a1, c1, rfl, hb1⟩ := own_to ho1
    have hx := rnext_any a1 16 c1 V l p n hl hp (by omega) w1 hb1 (by omega)
    rw [← HM.out] at hx
    have HX := Lib.hid hx; clear hx hb1 ho1 HI
    have HB1 := Lib.hid b1; clear b1
    go_wp2_with fail
    refine HX.out.mono ?_
    rintro e w3 ⟨v3, rfl, ho3, b3⟩
    have HB3 := Lib.hid (HB1.out.trans (b3.mono HB1.out.size))
    have HO3 := Lib.hid (own_mono ho3 HB1.out.size); clear ho3 b3 HX
    go_wp2_with fail
    go_ret
    exact ⟨_, rfl, HO3.out, HB3.out⟩

end Go.Proofs.Ytoednighmdoooaa
