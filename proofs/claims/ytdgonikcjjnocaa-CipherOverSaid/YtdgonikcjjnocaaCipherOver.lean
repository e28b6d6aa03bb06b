/-
  CipherOverSaid: for any key, number and two texts (where the key is none, the first text beyond 4,096 bytes or the second of another length the law itself answers what its example answers): what was turned of both texts together, byte by byte by exclusive or, is what was turned of the one, and the other one; unlike texts are turned into unlike ones. No condition.
-/
import Derived.Test.YtdgonikcjjnocaaRows
import Derived.Test.YtdgonikcjjnocaaCipherAll
import Derived.Test.YtdgonikcjjnocaaArr
import Derived.BigQuiet
namespace Go.Proofs.Ytdgonikcjjnocaa
open Go.RowKit Go.Shelf
set_option maxRecDepth 100000

/-- Two texts together; the first bytes of them. -/
def ovW (a b : List UInt8) : List UInt8 := List.zipWith (· ^^^ ·) a b
theorem ovW_length (a b : List UInt8) (h : b.length = a.length) : (ovW a b).length = a.length := by simp [ovW, h]
theorem ovW_get (a b : List UInt8) (i : Nat) (h1 : i < a.length) (h : b.length = a.length) : (ovW a b).getD i 0 = a.getD i 0 ^^^ b.getD i 0 := by
  have h2 : i < b.length := by omega
  have h3 : i < (ovW a b).length := by rw [ovW_length a b h]; exact h1
  rw [List.getD_eq_getElem?_getD, List.getD_eq_getElem?_getD, List.getD_eq_getElem?_getD, List.getElem?_eq_getElem h1, List.getElem?_eq_getElem h2, List.getElem?_eq_getElem h3]
  simp [ovW]
def ovTo (a b : List UInt8) : Nat → List UInt8
  | 0 => List.replicate a.length 0
  | n + 1 => (ovTo a b n).set n (a.getD n 0 ^^^ b.getD n 0)
theorem ovTo_length (a b : List UInt8) : ∀ n, (ovTo a b n).length = a.length
  | 0 => by simp [ovTo]
  | n + 1 => by rw [ovTo, List.length_set, ovTo_length a b n]
theorem ovTo_get (a b : List UInt8) : ∀ n i, i < a.length → i < n → (ovTo a b n).getD i 0 = a.getD i 0 ^^^ b.getD i 0
  | 0, _, _, h => by omega
  | n + 1, i, hi, h => by
    have hl : i < (ovTo a b n).length := by rw [ovTo_length]; exact hi
    rw [ovTo, List.getD_eq_getElem?_getD, List.getElem?_set]
    by_cases e : n = i
    · subst e; rw [if_pos rfl, if_pos hl]; rfl
    · rw [if_neg e, ← List.getD_eq_getElem?_getD]
      exact ovTo_get a b n i hi (by omega)
theorem ovTo_all (a b : List UInt8) (h : b.length = a.length) : ovTo a b a.length = ovW a b := by
  apply List.ext_getElem
  · rw [ovTo_length, ovW_length a b h]
  · intro i h1 h2
    have hi : i < a.length := by rw [ovTo_length] at h1; exact h1
    have e1 := ovTo_get a b a.length i hi hi
    rw [← ovW_get a b i hi h, List.getD_eq_getElem?_getD, List.getD_eq_getElem?_getD, List.getElem?_eq_getElem h1, List.getElem?_eq_getElem h2] at e1
    exact e1
theorem turnW'_getD (k : List UInt8) (iv : Nat) (s : List UInt8) (i : Nat) (h : i < s.length) : (turnW' k iv s).getD i 0 = (stW k iv s.length).getD i 0 ^^^ s.getD i 0 := by
  have h1 : i < (turnW' k iv s).length := by rw [turnW'_length]; exact h
  have h2 : i < (stW k iv s.length).length := by rw [stW_length]; exact h
  rw [List.getD_eq_getElem?_getD, List.getD_eq_getElem?_getD, List.getD_eq_getElem?_getD, List.getElem?_eq_getElem h1, List.getElem?_eq_getElem h2, List.getElem?_eq_getElem h]
  exact turnW'_get k iv s i h
/-- Both texts together, turned, is the one turned, and the other one. -/
theorem over_getD (k : List UInt8) (iv : Nat) (a b : List UInt8) (i : Nat) (hi : i < a.length) (h : b.length = a.length) : (turnW' k iv (ovW a b)).getD i 0 = (turnW' k iv a).getD i 0 ^^^ b.getD i 0 := by
  rw [turnW'_getD k iv _ i (by rw [ovW_length a b h]; exact hi), turnW'_getD k iv a i hi, ovW_get a b i hi h, ovW_length a b h, UInt8.xor_assoc]
theorem over_eq (k : List UInt8) (iv : Nat) (a b : List UInt8) : ((strOf (turnW' k iv a)).toList == (strOf (turnW' k iv b)).toList) = ((strOf a).toList == (strOf b).toList) := by
  rw [strOf_toList, strOf_toList, strOf_toList, strOf_toList]
  by_cases h : a = b
  · subst h; simp
  · have : turnW' k iv a ≠ turnW' k iv b := fun e => h (turnW'_inj k iv e)
    rw [beq_eq_false_iff_ne.2 this, beq_eq_false_iff_ne.2 h]

theorem RowI.drew {W : World} {g len cap : Nat} {t : List UInt8} (h : RowI W g len cap t) : RowI W.drew g len cap t := by
  obtain ⟨cur, h1, h2⟩ := h
  exact ⟨cur, h1.drew, h2⟩

theorem cipherOver_far (k : Option Addr) (lk ck : Nat) (u : Value) (a : Option Addr) (la ca : Nat) (b : Option Addr) (lb cb : Nat) (w : World) (hla : (la : Int) ≤ 9223372036854775807) (hlb : (lb : Int) ≤ 9223372036854775807) (h : lk ≠ 16 ∨ (lk = 16 ∧ (4096 : Int) < la) ∨ (lk = 16 ∧ (la : Int) ≤ 4096 ∧ lb ≠ la)) :
    Calls Try.prog 6 #[.slice k lk ck, u, .slice a la ca, .slice b lb cb] w fun e w' => e = .returned (.bool true) ∧ Below w.heap.size w w' := by
  have i1 : (0 : Int) ≤ la := by omega
  have i2 : (0 : Int) ≤ lb := by omega
  rcases h with h | ⟨rfl, h⟩ | ⟨rfl, h1, h⟩
  · have hk : ((lk : Int) != 16) = true := by simp; omega
    go_enter Try.func6, Try.ntmps6
    go_wp2_with fail
    refine (alive_cipher _).mono ?_
    rintro e w1 ⟨rfl, b1⟩
    have HB1 := Lib.hid b1; clear b1
    go_wp2_with fail
    go_ret
    exact ⟨rfl, HB1.out⟩
  · go_enter Try.func6, Try.ntmps6
    go_wp2_with fail
    refine (alive_cipher _).mono ?_
    rintro e w1 ⟨rfl, b1⟩
    have HB1 := Lib.hid b1; clear b1
    go_wp2_with fail
    go_ret
    exact ⟨rfl, HB1.out⟩
  · have hk : ((lb : Int) != la) = true := by simp; omega
    go_enter Try.func6, Try.ntmps6
    go_wp2_with fail
    refine (alive_cipher _).mono ?_
    rintro e w1 ⟨rfl, b1⟩
    have HB1 := Lib.hid b1; clear b1
    go_wp2_with fail
    go_ret
    exact ⟨rfl, HB1.out⟩

set_option maxHeartbeats 8000000 in
theorem cipherOver_near (A : Option Addr) (ca : Nat) (k : List UInt8) (iv : Nat) (hiv : iv < 4294967296) (a : Option Addr) (len ka : Nat) (s : List UInt8) (b : Option Addr) (kb : Nat) (t : List UInt8) (w : World) (hl : len ≤ 4096) (hK : Bsl w w.heap.size A 16 ca k) (hA : Bsl w w.heap.size a len ka s) (hB : Bsl w w.heap.size b len kb t) :
    Calls Try.prog 6 #[.slice A 16 ca, .int .u32 iv, .slice a len ka, .slice b len kb] w fun e w' => e = .returned (.bool true) ∧ Below w.heap.size w w' := by
  have hmx : Try.prog.follows Departure.mixedOrders = true := by kernel_rfl
  have i1 : (0 : Int) ≤ len := by omega
  have i2 : (len : Int) ≤ 4096 := by omega
  have hs := hA.1
  have ht := hB.1
  have hst : t.length = s.length := by omega
  have HS := Lib.hid hs; clear hs
  have HT := Lib.hid ht; clear ht
  have HST := Lib.hid hst; clear hst
  have HK := Lib.hid hK; clear hK
  have HA := Lib.hid hA; clear hA
  have HB := Lib.hid hB; clear hB
  go_enter Try.func6, Try.ntmps6
  go_wp2_with fail
  refine (alive_cipher _).mono ?_
  rintro e w1 ⟨rfl, b1⟩
  have HK1 := Lib.hid (HK.out.step b1)
  have HA1 := Lib.hid (HA.out.step b1)
  have HB1 := Lib.hid (HB.out.step b1)
  have HE1 := Lib.hid b1; clear b1 HK HA HB
  obtain ⟨g, hg⟩ : ∃ g, w1.heap.size = g := ⟨_, rfl⟩
  obtain ⟨w5, hw5⟩ : ∃ w5, w1.alloc (.cells (Array.replicate len (.int .u8 0)) 5) = w5 := ⟨_, rfl⟩
  have b5 := (Below.refl w1.heap.size w1).alloc (Nat.le_refl _) (.cells (Array.replicate len (.int .u8 0)) 5)
  have m5 : (Instr.makeSlice 22 (.int .i64 len) (.int .i64 len)).run Try.prog w1 = .ok (.slice (some ⟨g, 0, none⟩) len len) w5 := by rw [← hw5, ← hg]; exact make_noughts len (by omega) w1
  have r5 : RowI w5 g len len (ovTo s t 0) := by
    rw [← hw5, ← hg]
    exact ⟨_, Blk.new w1 _ _, by simp, by simp [ovTo, HS.out], Nat.le_refl _, by simp [ovTo, HS.out, vals]⟩
  rw [hw5, hg] at b5
  clear hw5
  have HG := Lib.hid hg; clear hg
  have HR5 := Lib.hid r5; clear r5
  have HE5 := Lib.hid b5; clear b5
  go_wp2_with fail
  go_loopw [11] (fun i wr => ∃ j : Nat, j ≤ len ∧ i = .int .i64 j ∧ Hid (RowI wr g len len (ovTo s t j)) ∧ Hid (Below g w1 wr)) (fun i _ => len - (intOf i).toNat)
  case atStart => exact ⟨0, Nat.zero_le _, rfl, HR5, HE5⟩
  case round =>
    obtain ⟨j, hj, rfl, HRr, HBr⟩ := hrel
    have j0 : (0 : Int) ≤ j := by omega
    by_cases hlt : j < len
    · have j1 : (j : Int) < len := by omega
      obtain ⟨ab, ao, rfl, _, _⟩ := HA1.out.2.2.2.2 (by omega)
      obtain ⟨bb, bo, rfl, _, _⟩ := HB1.out.2.2.2.2 (by omega)
      have ca' := (HA1.out.below (HG.out ▸ HBr.out)).cellD j hlt
      have cb' := (HB1.out.below (HG.out ▸ HBr.out)).cellD j hlt
      obtain ⟨u0, cg⟩ := HRr.out.get hlt
      have fg : wr.frozen? ⟨g, j, none⟩ = false := by obtain ⟨cur, hc, _⟩ := HRr.out; exact hc.frozen j
      have xr := xor8 (s.getD j 0) (t.getD j 0)
      have nx := HRr.out.set_ hlt (s.getD j 0 ^^^ t.getD j 0)
      have HNX := Lib.hid (show RowI _ g len len (ovTo s t (j + 1)) from nx); clear nx
      have HBX := Lib.hid (HBr.out.setCell (p := ⟨g, j, none⟩) (Nat.le_refl _) (.int .u8 ((s.getD j 0 ^^^ t.getD j 0).toNat : Int)))
      obtain ⟨x, hx⟩ : ∃ x, s.getD j 0 = x := ⟨_, rfl⟩
      obtain ⟨y, hy⟩ : ∃ y, t.getD j 0 = y := ⟨_, rfl⟩
      rw [hx] at ca' xr HNX HBX
      rw [hy] at cb' xr HNX HBX
      obtain ⟨z, hz⟩ : ∃ z, x ^^^ y = z := ⟨_, rfl⟩
      rw [hz] at xr HNX HBX
      clear hx hy hz HRr HBr HR5 HE5 m5
      go_wp2_with fail
      refine region_tail 12 hmx (by kernel_rfl) rfl ?_
      simp only [List.take_succ_cons, List.take_zero, List.drop_succ_cons, List.drop_zero]
      repeat still_step
      refine wpStill_nil ?_
      go_wp2
      go_roundw
      case rel => exact ⟨j + 1, by omega, by go_num, Lib.hid HNX.out.drew, Lib.hid HBX.out.drew⟩
      case measure => simp [intOf]; omega
    · obtain rfl : j = len := by omega
      have eo : ovTo s t j = ovW s t := by have := ovTo_all s t HST.out; rwa [HS.out] at this
      have ho := rowI_own (B := g) HRr.out (Nat.le_refl _) (by unfold maxLen; omega)
      rw [eo] at ho
      have HO6 := Lib.hid (own_bsl ho)
      have hb6 : Below w1.heap.size w1 wr := HG.out ▸ HBr.out
      have HK6 := Lib.hid (HK1.out.step hb6)
      have HA6 := Lib.hid (HA1.out.step hb6)
      have HB6 := Lib.hid (HB1.out.step hb6)
      have HE6 := Lib.hid (HE1.out.trans (hb6.mono HE1.out.size))
      clear hb6 ho eo HRr HBr HK1 HA1 HB1 HE1 m5 HE5 HR5
      go_wp2_with fail
      refine (Turn_ok A ca k iv hiv a j ka s hl wr HK6.out HA6.out).mono ?_
      rintro e w7 ⟨a7, c7, rfl, h7, b7⟩
      have HK7 := Lib.hid (HK6.out.step b7)
      have HA7 := Lib.hid (HA6.out.step b7)
      have HB7 := Lib.hid (HB6.out.step b7)
      have HO7 := Lib.hid (HO6.out.step b7)
      have HX7 := Lib.hid (own_bsl h7)
      have HE7 := Lib.hid (HE6.out.trans (b7.mono HE6.out.size)); clear b7 h7 HK6 HA6 HB6 HO6 HE6
      go_wp2_with fail
      refine (Turn_ok A ca k iv hiv b j kb t hl w7 HK7.out HB7.out).mono ?_
      rintro e w8 ⟨a8, c8, rfl, h8, b8⟩
      have HK8 := Lib.hid (HK7.out.step b8)
      have HA8 := Lib.hid (HA7.out.step b8)
      have HB8 := Lib.hid (HB7.out.step b8)
      have HO8 := Lib.hid (HO7.out.step b8)
      have HX8 := Lib.hid (HX7.out.step b8)
      have HY8 := Lib.hid (own_bsl h8)
      have HE8 := Lib.hid (HE7.out.trans (b8.mono HE7.out.size)); clear b8 h8 HK7 HA7 HB7 HO7 HX7 HE7
      go_wp2_with fail
      refine (Turn_ok A ca k iv hiv _ j j _ hl w8 HK8.out HO8.out).mono ?_
      rintro e w9 ⟨a9, c9, rfl, h9, b9⟩
      have v1 := (HX8.out.step b9).conv
      have v2 := (HY8.out.step b9).conv
      have v3 := (HA8.out.step b9).conv
      have v4 := (HB8.out.step b9).conv
      have HX9 := Lib.hid (HX8.out.step b9)
      have HB9 := Lib.hid (HB8.out.step b9)
      have HZ9 := Lib.hid (own_bsl h9)
      have HE9 := Lib.hid (HE8.out.trans (b9.mono HE8.out.size)); clear b9 h9 HK8 HA8 HB8 HO8 HX8 HY8 HE8
      have q := over_eq k iv s t
      obtain ⟨r, hr⟩ : ∃ r, ((strOf s).toList == (strOf t).toList) = r := ⟨_, rfl⟩
      rw [hr] at q
      have qr : (r != r) = false := by cases r <;> rfl
      go_wp2_with fail
      clear v1 v2 v3 v4 q qr hr
      go_loopw [18] (fun i wr => ∃ n : Nat, n ≤ j ∧ i = .int .i64 n ∧ Hid (Below w9.heap.size w9 wr)) (fun i _ => j - (intOf i).toNat)
      case atStart => exact ⟨0, Nat.zero_le _, rfl, Lib.hid (Below.refl _ _)⟩
      case round =>
        obtain ⟨n, hn, rfl, HBr⟩ := hrel
        have n0 : (0 : Int) ≤ n := by omega
        by_cases hlt : n < j
        · have n1 : (n : Int) < j := by omega
          obtain ⟨xb, xo, rfl, _, _⟩ := HX9.out.2.2.2.2 (by omega)
          obtain ⟨bb, bo, rfl, _, _⟩ := HB9.out.2.2.2.2 (by omega)
          obtain ⟨zb, zo, rfl, _, _⟩ := HZ9.out.2.2.2.2 (by omega)
          have cx := (HX9.out.below HBr.out).cellD n hlt
          have cb' := (HB9.out.below HBr.out).cellD n hlt
          have cz := (HZ9.out.below HBr.out).cellD n hlt
          rw [over_getD k iv s t n (by rw [HS.out]; exact hlt) HST.out] at cz
          have xr := xor8 ((turnW' k iv s).getD n 0) (t.getD n 0)
          obtain ⟨x, hx⟩ : ∃ x, (turnW' k iv s).getD n 0 = x := ⟨_, rfl⟩
          obtain ⟨y, hy⟩ : ∃ y, t.getD n 0 = y := ⟨_, rfl⟩
          rw [hx] at cx cz xr
          rw [hy] at cb' cz xr
          obtain ⟨z, hz⟩ : ∃ z, x ^^^ y = z := ⟨_, rfl⟩
          rw [hz] at xr cz
          clear hx hy hz
          go_wp2_with fail
          go_quiet (fail)
          go_wp2_with fail
          go_roundw
          case rel => exact ⟨n + 1, by omega, by go_num, Lib.hid (below_drewN HBr.out _)⟩
          case measure => simp [intOf]; omega
        · obtain rfl : n = j := by omega
          go_wp2_with fail
          go_ret
          exact ⟨rfl, HE9.out.trans (HBr.out.mono HE9.out.size)⟩
theorem cipherOver_walk (a0 : Option Addr) (len0 cap0 : Nat) (s0 : List UInt8) (a1 : Int) (a2 : Option Addr) (len2 cap2 : Nat) (s2 : List UInt8) (a3 : Option Addr) (len3 cap3 : Nat) (s3 : List UInt8) (w : World) (h0 : Bsl w w.heap.size a0 len0 cap0 s0) (w1 : (Lit.int .u32 a1).wf = true) (h2 : Bsl w w.heap.size a2 len2 cap2 s2) (h3 : Bsl w w.heap.size a3 len3 cap3 s3) :
    Calls Try.prog 6 #[.slice a0 len0 cap0, .int .u32 a1, .slice a2 len2 cap2, .slice a3 len3 cap3] w fun e w' => e = .returned (.bool true) ∧ Below w.heap.size w w' := by
  obtain ⟨g1, g2⟩ := u32_of_wf w1
  obtain ⟨iv, rfl⟩ := Int.eq_ofNat_of_zero_le g1
  have ha : (len2 : Int) ≤ 9223372036854775807 := by have h5 := h2.2.1; have h4 := h2.2.2.1; unfold maxLen at h4; omega
  have hb : (len3 : Int) ≤ 9223372036854775807 := by have h5 := h3.2.1; have h4 := h3.2.2.1; unfold maxLen at h4; omega
  by_cases k : len0 = 16 ∧ len2 ≤ 4096 ∧ len3 = len2
  · obtain ⟨rfl, k2, rfl⟩ := k
    exact cipherOver_near a0 cap0 s0 iv (by omega) a2 len3 cap2 s2 a3 cap3 s3 w k2 h0 h2 h3
  · exact cipherOver_far a0 len0 cap0 _ a2 len2 cap2 a3 len3 cap3 w ha hb (by omega)
end Go.Proofs.Ytdgonikcjjnocaa

namespace Go.Proofs.Ytdgonikcjjnocaa.cipherOver
open Go.ChangeShapes Go.WideShapes Go.ChangeAt Go.RowKit
set_option linter.unusedVariables false

theorem own : ownKnob Try.prog.godebug = none := by kernel_rfl
theorem laidOut : laidOutB Try.prog = true := by kernel_rfl

set_option maxRecDepth 100000 in
theorem lifted (os : Os) (started : os.Started) (H : Type) (enc : TypeId × Value → H) :
    ReturnsInHanded {} Try.checked os 6 .any (Rows.cipherOverSpec.pre6 enc Try.prog Try.f6 Rows.cipherOverRow.domain false) (Rows.cipherOverSpec.post enc Try.prog Try.f6 false true false false) := by
  refine returnsInHanded_of_change (C := Try.checked) own started (by kernel_rfl) Try.func6
    (ChangeSpec.witness6 (enc := enc) (C := Try.checked) false ⟨#[], #[.slice none 0 0, .int .u32 0, .slice none 0 0, .slice none 0 0], []⟩ 8 (by kernel_rfl) (by kernel_rfl) (by kernel_rfl) (by kernel_rfl)) ?_
  intro W base args ds gs before hval0 hW hcnd _
  have hval : ∀ (j : Nat) t v, Try.f6.params[j]? = some t → args[j]? = some v → Value.okWide Try.prog W .any base t v := hval0
  have hW' := hW
  obtain ⟨p, q, hA0, hV, rfl, hfz, hnd⟩ := hW
  have hA : DataW.TrodAll enc Try.prog W 0 (fun _ => true) true Try.f6.params.toList args.toList ds p := hA0
  rw [Try.params6] at hA hval
  obtain ⟨v0, vs0, d0, ds0, p0, q0, hargs, rfl, rfl, h0, r0⟩ := trodAll_cons hA
  obtain ⟨v1, vs1, d1, ds1, p1, q1, rfl, rfl, rfl, h1, r1⟩ := trodAll_cons r0
  obtain ⟨v2, vs2, d2, ds2, p2, q2, rfl, rfl, rfl, h2, r2⟩ := trodAll_cons r1
  obtain ⟨v3, vs3, d3, ds3, p3, q3, rfl, rfl, rfl, h3, r3⟩ := trodAll_cons r2
  obtain ⟨rfl, rfl, rfl⟩ := trodAll_nil r3
  obtain rfl : args = #[v0, v1, v2, v3] := by cases args; simp_all
  obtain ⟨rfl, rfl⟩ := trodVars_none hV
  obtain ⟨a0, len0, cap0, rfl⟩ := okWide_slice Try.underlying22 (hval 0 22 v0 rfl rfl)
  have k0 := h0
  have lt0 : ∀ x ∈ p0, x.block < W.heap.size := by obtain ⟨m, hm⟩ := k0; exact DataW.trod_lt m _ _ _ hm
  obtain ⟨z0, w0⟩ : ∃ zs, IsRow .u8 W a0 len0 cap0 zs := by
    obtain ⟨fuel, hf⟩ := h0
    rcases open_ints Try.underlying22 Try.underlying5 (by kernel_rfl) hf with ⟨hcs, _⟩ | ⟨x, l, c, zs, hcs, _, hl, hm, hz, _, hcell, hwz⟩
    · simp [Value.cells] at hcs
      obtain ⟨rfl, rfl, rfl⟩ := hcs
      exact ⟨[], .inl ⟨rfl, rfl, rfl, rfl⟩⟩
    · simp [Value.cells] at hcs
      obtain ⟨rfl, rfl, rfl⟩ := hcs
      exact ⟨zs, .inr ⟨_, rfl, hl, hm, by simpa using hz, hcell, hwz⟩⟩
  obtain ⟨a1, rfl, rfl, rfl, w1⟩ := open_int Try.underlying26 (hval 1 26 v1 rfl rfl) h1
  obtain ⟨a2, len2, cap2, rfl⟩ := okWide_slice Try.underlying22 (hval 2 22 v2 rfl rfl)
  have k2 := h2
  have lt2 : ∀ x ∈ p2, x.block < W.heap.size := by obtain ⟨m, hm⟩ := k2; exact DataW.trod_lt m _ _ _ hm
  obtain ⟨z2, w2⟩ : ∃ zs, IsRow .u8 W a2 len2 cap2 zs := by
    obtain ⟨fuel, hf⟩ := h2
    rcases open_ints Try.underlying22 Try.underlying5 (by kernel_rfl) hf with ⟨hcs, _⟩ | ⟨x, l, c, zs, hcs, _, hl, hm, hz, _, hcell, hwz⟩
    · simp [Value.cells] at hcs
      obtain ⟨rfl, rfl, rfl⟩ := hcs
      exact ⟨[], .inl ⟨rfl, rfl, rfl, rfl⟩⟩
    · simp [Value.cells] at hcs
      obtain ⟨rfl, rfl, rfl⟩ := hcs
      exact ⟨zs, .inr ⟨_, rfl, hl, hm, by simpa using hz, hcell, hwz⟩⟩
  obtain ⟨a3, len3, cap3, rfl⟩ := okWide_slice Try.underlying22 (hval 3 22 v3 rfl rfl)
  have k3 := h3
  have lt3 : ∀ x ∈ p3, x.block < W.heap.size := by obtain ⟨m, hm⟩ := k3; exact DataW.trod_lt m _ _ _ hm
  obtain ⟨z3, w3⟩ : ∃ zs, IsRow .u8 W a3 len3 cap3 zs := by
    obtain ⟨fuel, hf⟩ := h3
    rcases open_ints Try.underlying22 Try.underlying5 (by kernel_rfl) hf with ⟨hcs, _⟩ | ⟨x, l, c, zs, hcs, _, hl, hm, hz, _, hcell, hwz⟩
    · simp [Value.cells] at hcs
      obtain ⟨rfl, rfl, rfl⟩ := hcs
      exact ⟨[], .inl ⟨rfl, rfl, rfl, rfl⟩⟩
    · simp [Value.cells] at hcs
      obtain ⟨rfl, rfl, rfl⟩ := hcs
      exact ⟨zs, .inr ⟨_, rfl, hl, hm, by simpa using hz, hcell, hwz⟩⟩
  clear hA0 hval0
  refine (cipherOver_walk a0 len0 cap0 _ a1 a2 len2 cap2 _ a3 len3 cap3 _ W (bsl_of_row w0) w1 (bsl_of_row w2) (bsl_of_row w3)).mono fun e W' ⟨he, bel⟩ => ?_
  subst he
  exact ⟨_, rfl, _, _, _, [], _, [], hW', trodAll_mk1 (shut_bool Try.underlying4 _), (trodAll_cons_mk (Below.trod laidOut (by kernel_rfl) (of_decide_eq_true (by kernel_rfl)) k0 bel lt0) (trodAll_cons_mk (shut_int Try.underlying26 w1) (trodAll_cons_mk (Below.trod laidOut (by kernel_rfl) (of_decide_eq_true (by kernel_rfl)) k2 bel lt2) (trodAll_cons_mk (Below.trod laidOut (by kernel_rfl) (of_decide_eq_true (by kernel_rfl)) k3 bel lt3) trodAll_mk0)))), rfl, bel.frame _, fun h => by cases h⟩

theorem over : Rows.cipherOverRow.holds Try.pinned (OpenSpec.ofChange Rows.cipherOverSpec) :=
  OpenClaim.holds_of_wide 6 Try.f6 rfl rfl rfl rfl rfl rfl rfl ⟨rfl, rfl, rfl, rfl, rfl⟩ rfl rfl rfl rfl rfl (by kernel_rfl) Try.func6 (by kernel_rfl)
    (of_decide_eq_true (by kernel_rfl)) (by unfold Func.isWrapper; first | (rw [if_pos (by decide +kernel)]; kernel_rfl) | (rw [if_neg (by decide +kernel)]; exact ⟨rfl, rfl⟩))
    (fun os started H enc _ => lifted os started H enc)

/-- The statement. -/
theorem proved : Rows.CipherOverSaid := over
end Go.Proofs.Ytdgonikcjjnocaa.cipherOver
