/-
  DevLeavesSaid: for any disk, marks, place and byte (of a disk that is great, or more than 5,000 marks, nothing is asked) what all that wait, and what those whose mark is true, leave, and a byte that is turned, are as the document's own answer says; the disk shares no memory with what is answered. No condition.
-/
import Derived.Test.YtgpojnhhcobcbaaRows
import Derived.Test.YtgpojnhhcobcbaaDiskOpen
import Derived.Test.YtgpojnhhcobcbaaDevLawC
namespace Go.Proofs.Ytgpojnhhcobcbaa
open Go.RowKit Go.Shelf
set_option maxRecDepth 100000

set_option maxHeartbeats 8000000 in
theorem devLeaves_at (x : DAt) (D : DkL) (a : Option Addr) (n c : Nat) (s : List Bool) (p q : Int) (v : UInt8) (w : World) (h : Dsk w w.heap.size x D) (hnear : Near D) (hs : Mks w w.heap.size a n c s) :
    Calls Try.prog 5 #[dval x D, .slice a n c, .int .i64 p, .int .i64 q, .int .u8 (v.toNat : Int)] w fun e w' => e = .returned (.bool true) ∧ Below w.heap.size w w' := by
  have n0 : (0 : Int) ≤ n := by omega
  have n1 : (n : Int) ≤ 9223372036854775807 := by have h1 := hs.2.1; have h2 := hs.2.2.1; unfold maxLen at h2; omega
  have hL0 := lawL_box w x D h
  have hs0 := hs.step (alloc_b w (.cells #[.slice x.ba D.1.length x.bc, .slice x.wa D.2.length x.wc] 25))
  obtain ⟨w0, hw0⟩ : ∃ w0, w.alloc (.cells #[.slice x.ba D.1.length x.bc, .slice x.wa D.2.length x.wc] 25) = w0 := ⟨_, rfl⟩
  rw [hw0] at hL0 hs0
  obtain ⟨B, hB⟩ : ∃ B, w.heap.size = B := ⟨_, rfl⟩
  rw [hB] at hL0 ⊢
  have c0 := hL0.c0
  have c1 := hL0.c1
  have HL := Lib.hid hL0
  have HS := Lib.hid hs0
  have HBB := Lib.hid hB
  have HG := Lib.hid (rdGreat_any x D w0 hL0.dsk hnear)
  simp only [dval] at HG ⊢
  clear h hs hL0 hs0 hnear
  go_enter Try.func5, Try.ntmps5
  go_wp2_with fail
  clear hw0 hB c0 c1
  refine HG.out.mono ?_
  rintro e w1 ⟨b, rfl, hsm, b1⟩
  have HL1 := Lib.hid (HL.out.step b1)
  have HS1 := Lib.hid (HS.out.step b1)
  clear b1 HL HS HG
  cases b with
  | true =>
    go_wp2_with fail
    go_ret
    exact ⟨rfl, by rw [← HBB.out]; exact HL1.out.bel⟩
  | false =>
    have hsml := hsm rfl
    clear hsm
    by_cases hk5 : (5000 : Int) < n
    · go_wp2_with fail
      go_ret
      exact ⟨rfl, by rw [← HBB.out]; exact HL1.out.bel⟩
    · have c0 := HL1.out.c0
      have c1 := HL1.out.c1
      have HT := Lib.hid (rdTwin_any x D w1 HL1.out.dsk (small_fits hsml))
      have HSM := Lib.hid hsml
      simp only [dval] at HT
      clear hsml
      go_wp2_with fail
      clear c0 c1
      refine HT.out.mono ?_
      rintro e w2 ⟨y, rfl, hty, b2⟩
      have hL2 := HL1.out.step b2
      have hs2 := HS1.out.step b2
      have hy2 := hL2.put hty.dsk
      have ba2 := alloc_b w2 (.cells #[.slice y.ba D.1.length y.bc, .slice y.wa D.2.length y.wc] 25)
      have hL3 := hL2.step ba2
      have hs3 := hs2.step ba2
      obtain ⟨w3, hw3⟩ : ∃ w3, w2.alloc (.cells #[.slice y.ba D.1.length y.bc, .slice y.wa D.2.length y.wc] 25) = w3 := ⟨_, rfl⟩
      obtain ⟨g, hg⟩ : ∃ g, w2.heap.size = g := ⟨_, rfl⟩
      rw [hw3, hg] at hy2
      rw [hw3] at hL3 hs3
      have HD3 := Lib.hid (show LawL w (g + 1) B x D w3 from ⟨hL3.1, hL3.2.1, by have := hL3.2.2.1; have := hL2.2.2.2.1; omega, hy2.2.2.2.1, hL3.2.2.2.2.1.moreL (by have := hL2.2.2.2.1; omega), hL3.2.2.2.2.2⟩)
      have HO3 := Lib.hid hy2
      have HS3 := Lib.hid hs3
      have c0 := hy2.c0
      have c1 := hy2.c1
      have d0 := hL3.c0
      have d1 := hL3.c1
      have HR := Lib.hid (dFlush_any y D w3 hy2.dsk)
      simp only [dval] at HR ⊢
      clear b2 hty hL2 hs2 hy2 ba2 hL3 hs3 HL1 HS1 HT
      obtain ⟨K, ke, hfo⟩ : ∃ K ke, flushO D = (K, ke) := ⟨_, _, rfl⟩
      obtain ⟨M, me, hco⟩ : ∃ K ke, crashO D s = (K, ke) := ⟨_, _, rfl⟩
      obtain ⟨T, te, hto⟩ : ∃ K ke, tamperO D p q v = (K, ke) := ⟨_, _, rfl⟩
      rw [hfo] at HR
      go_wp2_with fail
      clear hw3 hg c0 c1 d0 d1
      refine HR.out.mono ?_
      rintro e w4 ⟨zK, rfl, ho, b4⟩
      have hlo := b4.size
      obtain ⟨rowK, hZ⟩ := mineR_put ho hlo
      have ba := alloc_b w4 (.cells #[.slice zK.ba K.1.length zK.bc, .slice zK.wa K.2.length zK.wc] 25)
      have bb := b4.trans (ba.mono b4.size)
      obtain ⟨w5, hw5⟩ : ∃ w5, w4.alloc (.cells #[.slice zK.ba K.1.length zK.bc, .slice zK.wa K.2.length zK.wc] 25) = w5 := ⟨_, rfl⟩
      obtain ⟨gK, hgK⟩ : ∃ g, w4.heap.size = g := ⟨_, rfl⟩
      rw [hw5, hgK] at hZ
      rw [hw5] at bb
      obtain ⟨loK, hloK⟩ : ∃ g, w3.heap.size = g := ⟨_, rfl⟩
      rw [hloK] at hZ
      have HLOK := Lib.hid (show g + 1 ≤ loK by rw [← hloK]; exact HD3.out.2.2.2.1)
      have HD5 := Lib.hid (HD3.out.step bb)
      have HO5 := Lib.hid (HO3.out.step bb)
      have HS5 := Lib.hid (HS3.out.step bb)
      have HZK5 := Lib.hid hZ
      clear ba bb b4 hZ ho hlo hloK HD3 HO3 HS3 HR
      have HR1 := Lib.hid (rdFlush_any x D w5 HD5.out.dsk)
      have c0 := HD5.out.c0
      have c1 := HD5.out.c1
      simp only [dval] at HR1 ⊢
      rw [hfo] at HR1
      go_wp2_with fail
      clear hw5 hgK c0 c1
      refine HR1.out.mono ?_
      rintro e w6 ⟨uK, rfl, ho, b6⟩
      have hZ := (HD5.out.step b6).put ho
      have ba := alloc_b w6 (.cells #[.slice uK.ba K.1.length uK.bc, .slice uK.wa K.2.length uK.wc] 25)
      have bb := b6.trans (ba.mono b6.size)
      obtain ⟨w7, hw7⟩ : ∃ w7, w6.alloc (.cells #[.slice uK.ba K.1.length uK.bc, .slice uK.wa K.2.length uK.wc] 25) = w7 := ⟨_, rfl⟩
      obtain ⟨hK, hhK⟩ : ∃ g, w6.heap.size = g := ⟨_, rfl⟩
      rw [hw7, hhK] at hZ
      rw [hw7] at bb
      have HD7 := Lib.hid (HD5.out.step bb)
      have HO7 := Lib.hid (HO5.out.step bb)
      have HS7 := Lib.hid (HS5.out.step bb)
      have HZK7 := Lib.hid (HZK5.out.step bb)
      have HPK7 := Lib.hid hZ
      clear ba bb b6 hZ ho  HD5 HO5 HS5 HZK5 HR1
      have HR2 := Lib.hid (dCrash_any y D a n c s w7 HO7.out.dsk HS7.out)
      have c0 := HO7.out.c0
      have c1 := HO7.out.c1
      simp only [dval] at HR2 ⊢
      rw [hco] at HR2
      go_wp2_with fail
      clear hw7 hhK c0 c1
      refine HR2.out.mono ?_
      rintro e w8 ⟨zM, rfl, ho, b8⟩
      have hlo := b8.size
      obtain ⟨rowM, hZ⟩ := mineR_put ho hlo
      have ba := alloc_b w8 (.cells #[.slice zM.ba M.1.length zM.bc, .slice zM.wa M.2.length zM.wc] 25)
      have bb := b8.trans (ba.mono b8.size)
      obtain ⟨w9, hw9⟩ : ∃ w9, w8.alloc (.cells #[.slice zM.ba M.1.length zM.bc, .slice zM.wa M.2.length zM.wc] 25) = w9 := ⟨_, rfl⟩
      obtain ⟨gM, hgM⟩ : ∃ g, w8.heap.size = g := ⟨_, rfl⟩
      rw [hw9, hgM] at hZ
      rw [hw9] at bb
      obtain ⟨loM, hloM⟩ : ∃ g, w7.heap.size = g := ⟨_, rfl⟩
      rw [hloM] at hZ
      have HLOM := Lib.hid (show g + 1 ≤ loM by rw [← hloM]; exact HD7.out.2.2.2.1)
      have HBKM := Lib.hid (show gK < loM by rw [← hloM]; exact HZK7.out.1.lt)
      have HD9 := Lib.hid (HD7.out.step bb)
      have HO9 := Lib.hid (HO7.out.step bb)
      have HS9 := Lib.hid (HS7.out.step bb)
      have HZK9 := Lib.hid (HZK7.out.step bb)
      have HPK9 := Lib.hid (HPK7.out.step bb)
      have HZM9 := Lib.hid hZ
      clear ba bb b8 hZ ho hlo hloM HD7 HO7 HS7 HZK7 HPK7 HR2
      have HR3 := Lib.hid (rdCrash_any x D a n c s w9 HD9.out.dsk HS9.out)
      have c0 := HD9.out.c0
      have c1 := HD9.out.c1
      simp only [dval] at HR3 ⊢
      rw [hco] at HR3
      go_wp2_with fail
      clear hw9 hgM c0 c1
      refine HR3.out.mono ?_
      rintro e w10 ⟨uM, rfl, ho, b10⟩
      have hZ := (HD9.out.step b10).put ho
      have ba := alloc_b w10 (.cells #[.slice uM.ba M.1.length uM.bc, .slice uM.wa M.2.length uM.wc] 25)
      have bb := b10.trans (ba.mono b10.size)
      obtain ⟨w11, hw11⟩ : ∃ w11, w10.alloc (.cells #[.slice uM.ba M.1.length uM.bc, .slice uM.wa M.2.length uM.wc] 25) = w11 := ⟨_, rfl⟩
      obtain ⟨hM, hhM⟩ : ∃ g, w10.heap.size = g := ⟨_, rfl⟩
      rw [hw11, hhM] at hZ
      rw [hw11] at bb
      have HD11 := Lib.hid (HD9.out.step bb)
      have HO11 := Lib.hid (HO9.out.step bb)
      have HS11 := Lib.hid (HS9.out.step bb)
      have HZK11 := Lib.hid (HZK9.out.step bb)
      have HPK11 := Lib.hid (HPK9.out.step bb)
      have HZM11 := Lib.hid (HZM9.out.step bb)
      have HPM11 := Lib.hid hZ
      clear ba bb b10 hZ ho  HD9 HO9 HS9 HZK9 HPK9 HZM9 HR3
      have HR4 := Lib.hid (dTamper_any y D p q v w11 HO11.out.dsk)
      have c0 := HO11.out.c0
      have c1 := HO11.out.c1
      simp only [dval] at HR4 ⊢
      rw [hto] at HR4
      go_wp2_with fail
      clear hw11 hhM c0 c1
      refine HR4.out.mono ?_
      rintro e w12 ⟨zT, rfl, ho, b12⟩
      have hlo := b12.size
      obtain ⟨rowT, hZ⟩ := mineR_put ho hlo
      have ba := alloc_b w12 (.cells #[.slice zT.ba T.1.length zT.bc, .slice zT.wa T.2.length zT.wc] 25)
      have bb := b12.trans (ba.mono b12.size)
      obtain ⟨w13, hw13⟩ : ∃ w13, w12.alloc (.cells #[.slice zT.ba T.1.length zT.bc, .slice zT.wa T.2.length zT.wc] 25) = w13 := ⟨_, rfl⟩
      obtain ⟨gT, hgT⟩ : ∃ g, w12.heap.size = g := ⟨_, rfl⟩
      rw [hw13, hgT] at hZ
      rw [hw13] at bb
      obtain ⟨loT, hloT⟩ : ∃ g, w11.heap.size = g := ⟨_, rfl⟩
      rw [hloT] at hZ
      have HLOT := Lib.hid (show g + 1 ≤ loT by rw [← hloT]; exact HD11.out.2.2.2.1)
      have HBKT := Lib.hid (show gK < loT by rw [← hloT]; exact HZK11.out.1.lt)
      have HBMT := Lib.hid (show gM < loT by rw [← hloT]; exact HZM11.out.1.lt)
      have HD13 := Lib.hid (HD11.out.step bb)
      have HO13 := Lib.hid (HO11.out.step bb)
      have HS13 := Lib.hid (HS11.out.step bb)
      have HZK13 := Lib.hid (HZK11.out.step bb)
      have HPK13 := Lib.hid (HPK11.out.step bb)
      have HZM13 := Lib.hid (HZM11.out.step bb)
      have HPM13 := Lib.hid (HPM11.out.step bb)
      have HZT13 := Lib.hid hZ
      clear ba bb b12 hZ ho hlo hloT HD11 HO11 HS11 HZK11 HPK11 HZM11 HPM11 HR4
      have HR5 := Lib.hid (rdTamper_any x D p q v w13 HD13.out.dsk)
      have c0 := HD13.out.c0
      have c1 := HD13.out.c1
      simp only [dval] at HR5 ⊢
      rw [hto] at HR5
      go_wp2_with fail
      clear hw13 hgT c0 c1
      refine HR5.out.mono ?_
      rintro e w14 ⟨uT, rfl, ho, b14⟩
      have hZ := (HD13.out.step b14).put ho
      have ba := alloc_b w14 (.cells #[.slice uT.ba T.1.length uT.bc, .slice uT.wa T.2.length uT.wc] 25)
      have bb := b14.trans (ba.mono b14.size)
      obtain ⟨w15, hw15⟩ : ∃ w15, w14.alloc (.cells #[.slice uT.ba T.1.length uT.bc, .slice uT.wa T.2.length uT.wc] 25) = w15 := ⟨_, rfl⟩
      obtain ⟨hT, hhT⟩ : ∃ g, w14.heap.size = g := ⟨_, rfl⟩
      rw [hw15, hhT] at hZ
      rw [hw15] at bb
      have HD15 := Lib.hid (HD13.out.step bb)
      have HO15 := Lib.hid (HO13.out.step bb)
      have HS15 := Lib.hid (HS13.out.step bb)
      have HZK15 := Lib.hid (HZK13.out.step bb)
      have HPK15 := Lib.hid (HPK13.out.step bb)
      have HZM15 := Lib.hid (HZM13.out.step bb)
      have HPM15 := Lib.hid (HPM13.out.step bb)
      have HZT15 := Lib.hid (HZT13.out.step bb)
      have HPT15 := Lib.hid hZ
      clear ba bb b14 hZ ho  HD13 HO13 HS13 HZK13 HPK13 HZM13 HPM13 HZT13 HR5
      have hlen : ∀ {E : DkL} {e : Int} {F : DkL × Int}, F = (E, e) → F.1.1.length ≤ 1000000 ∧ F.1.2.length ≤ 1000000 → E.1.length ≤ 1000000 ∧ E.2.length ≤ 1000000 := by
        rintro E e F rfl h
        exact h
      have h1 := HSM.out.1
      have h2 := HSM.out.2.2.1
      have hKl := hlen hfo (by
        unfold flushO
        split
        · exact ⟨by rw [keptD_length]; omega, Nat.zero_le _⟩
        · exact ⟨Nat.zero_le _, Nat.zero_le _⟩)
      have hMl := hlen hco (by
        unfold crashO
        split
        · split
          · exact ⟨by rw [keptD_length]; omega, Nat.zero_le _⟩
          · exact ⟨Nat.zero_le _, Nat.zero_le _⟩
        · exact ⟨Nat.zero_le _, Nat.zero_le _⟩)
      have hTl := hlen hto (by
        unfold tamperO
        split
        · split
          · exact ⟨by rw [show (turnedD D p.toNat q.toNat v, (0 : Int)).1.1.length = D.1.length from List.length_set ..]; omega, by show D.2.length ≤ _; omega⟩
          · exact ⟨Nat.zero_le _, Nat.zero_le _⟩
        · exact ⟨Nat.zero_le _, Nat.zero_le _⟩)
      have HKL := Lib.hid hKl
      have HML := Lib.hid hMl
      have HTL := Lib.hid hTl
      clear hlen h1 h2 hKl hMl hTl hfo hco hto
      have HQK := Lib.hid (rdSame_any zK K uK K w15 HZK15.out.dsk HPK15.out.dsk HKL.out true ⟨fun _ => rfl, fun _ => rfl⟩)
      have c0 := HZK15.out.c0
      have c1 := HZK15.out.c1
      have d0 := HPK15.out.c0
      have d1 := HPK15.out.c1
      simp only [dval] at HQK ⊢
      go_wp2_with fail
      clear c0 c1 d0 d1 hw15 hhT
      refine HQK.out.mono ?_
      rintro e w16 ⟨rfl, bb⟩
      have HD16 := Lib.hid (HD15.out.step bb)
      have HO16 := Lib.hid (HO15.out.step bb)
      have HS16 := Lib.hid (HS15.out.step bb)
      have HZK16 := Lib.hid (HZK15.out.step bb)
      have HPK16 := Lib.hid (HPK15.out.step bb)
      have HZM16 := Lib.hid (HZM15.out.step bb)
      have HPM16 := Lib.hid (HPM15.out.step bb)
      have HZT16 := Lib.hid (HZT15.out.step bb)
      have HPT16 := Lib.hid (HPT15.out.step bb)
      clear bb HQK HD15 HO15 HS15 HZK15 HPK15 HZM15 HPM15 HZT15 HPT15
      have HQM := Lib.hid (rdSame_any zM M uM M w16 HZM16.out.dsk HPM16.out.dsk HML.out true ⟨fun _ => rfl, fun _ => rfl⟩)
      have c0 := HZM16.out.c0
      have c1 := HZM16.out.c1
      have d0 := HPM16.out.c0
      have d1 := HPM16.out.c1
      simp only [dval] at HQM
      go_wp2_with fail
      clear c0 c1 d0 d1
      refine HQM.out.mono ?_
      rintro e w17 ⟨rfl, bb⟩
      have HD17 := Lib.hid (HD16.out.step bb)
      have HO17 := Lib.hid (HO16.out.step bb)
      have HS17 := Lib.hid (HS16.out.step bb)
      have HZK17 := Lib.hid (HZK16.out.step bb)
      have HPK17 := Lib.hid (HPK16.out.step bb)
      have HZM17 := Lib.hid (HZM16.out.step bb)
      have HPM17 := Lib.hid (HPM16.out.step bb)
      have HZT17 := Lib.hid (HZT16.out.step bb)
      have HPT17 := Lib.hid (HPT16.out.step bb)
      clear bb HQM HD16 HO16 HS16 HZK16 HPK16 HZM16 HPM16 HZT16 HPT16
      have HQT := Lib.hid (rdSame_any zT T uT T w17 HZT17.out.dsk HPT17.out.dsk HTL.out true ⟨fun _ => rfl, fun _ => rfl⟩)
      have c0 := HZT17.out.c0
      have c1 := HZT17.out.c1
      have d0 := HPT17.out.c0
      have d1 := HPT17.out.c1
      simp only [dval] at HQT
      go_wp2_with fail
      clear c0 c1 d0 d1
      refine HQT.out.mono ?_
      rintro e w18 ⟨rfl, bb⟩
      have HD18 := Lib.hid (HD17.out.step bb)
      have HO18 := Lib.hid (HO17.out.step bb)
      have HS18 := Lib.hid (HS17.out.step bb)
      have HZK18 := Lib.hid (HZK17.out.step bb)
      have HPK18 := Lib.hid (HPK17.out.step bb)
      have HZM18 := Lib.hid (HZM17.out.step bb)
      have HPM18 := Lib.hid (HPM17.out.step bb)
      have HZT18 := Lib.hid (HZT17.out.step bb)
      have HPT18 := Lib.hid (HPT17.out.step bb)
      clear bb HQT HD17 HO17 HS17 HZK17 HPK17 HZM17 HPM17 HZT17 HPT17
      have HWPK := Lib.hid (wipe_row loK rowK zK K w18 HZK18.out.2.2.1)
      have c0 := HZK18.out.c0
      have c1 := HZK18.out.c1
      simp only [dval] at HWPK
      go_wp2_with fail
      clear c0 c1
      refine HWPK.out.mono ?_
      rintro e w19 ⟨rfl, gg⟩
      have hrK := HZK18.out.2.2.2
      have HD19 := Lib.hid (HD18.out.rows gg fun r e => Nat.le_trans HLOK.out (hrK r e).1)
      have HO19 := Lib.hid (HO18.out.rows gg fun r e => Nat.le_trans HLOK.out (hrK r e).1)
      have HZM19 := Lib.hid (HZM18.out.beside gg fun b e => Nat.lt_trans (hrK b e).2 HBKM.out)
      have HZT19 := Lib.hid (HZT18.out.beside gg fun b e => Nat.lt_trans (hrK b e).2 HBKT.out)
      clear gg hrK HWPK
      have HWPM := Lib.hid (wipe_row loM rowM zM M w19 HZM19.out.2.2.1)
      have c0 := HZM19.out.c0
      have c1 := HZM19.out.c1
      simp only [dval] at HWPM
      go_wp2_with fail
      clear c0 c1
      refine HWPM.out.mono ?_
      rintro e w20 ⟨rfl, gg⟩
      have hrM := HZM19.out.2.2.2
      have HD20 := Lib.hid (HD19.out.rows gg fun r e => Nat.le_trans HLOM.out (hrM r e).1)
      have HO20 := Lib.hid (HO19.out.rows gg fun r e => Nat.le_trans HLOM.out (hrM r e).1)
      have HZT20 := Lib.hid (HZT19.out.beside gg fun b e => Nat.lt_trans (hrM b e).2 HBMT.out)
      clear gg hrM HWPM
      have HWPT := Lib.hid (wipe_row loT rowT zT T w20 HZT20.out.2.2.1)
      have c0 := HZT20.out.c0
      have c1 := HZT20.out.c1
      simp only [dval] at HWPT
      go_wp2_with fail
      clear c0 c1
      refine HWPT.out.mono ?_
      rintro e w21 ⟨rfl, gg⟩
      have hrT := HZT20.out.2.2.2
      have HD21 := Lib.hid (HD20.out.rows gg fun r e => Nat.le_trans HLOT.out (hrT r e).1)
      have HO21 := Lib.hid (HO20.out.rows gg fun r e => Nat.le_trans HLOT.out (hrT r e).1)
      clear gg hrT HWPT
      have HSF := Lib.hid (rdSame_any y D x D w21 HO21.out.dsk HD21.out.dsk ⟨by have := HSM.out.1; omega, by have := HSM.out.2.2.1; omega⟩ true ⟨fun _ => rfl, fun _ => rfl⟩)
      have s0 := HO21.out.c0
      have s1 := HO21.out.c1
      have s2 := HD21.out.c0
      have s3 := HD21.out.c1
      simp only [dval] at HSF
      go_wp2_with fail
      clear s0 s1 s2 s3
      refine HSF.out.mono ?_
      rintro e w22 ⟨rfl, bg⟩
      have HDg := Lib.hid (HD21.out.step bg)
      clear bg
      go_wp2_with fail
      go_ret
      exact ⟨rfl, by rw [← HBB.out]; exact HDg.out.bel⟩
theorem devLeaves_walk (x : DAt) (D : DkL) (a : Option Addr) (n c : Nat) (s : List Bool) (p q b : Int) (w : World) (h : Dsk w w.heap.size x D) (hnear : Near D) (hs : Mks w w.heap.size a n c s) (_hp : (Lit.int .i64 p).wf = true) (_hq : (Lit.int .i64 q).wf = true) (hb : (Lit.int .u8 b).wf = true) :
    Calls Try.prog 5 #[dval x D, .slice a n c, .int .i64 p, .int .i64 q, .int .u8 b] w fun e w' => e = .returned (.bool true) ∧ Below w.heap.size w w' := by
  obtain ⟨v, rfl⟩ := u8_of hb
  exact devLeaves_at x D a n c s p q v w h hnear hs
end Go.Proofs.Ytgpojnhhcobcbaa
namespace Go.Proofs.Ytgpojnhhcobcbaa.devLeaves
open Go.ChangeShapes Go.WideShapes Go.ChangeAt Go.RowKit
set_option linter.unusedVariables false

theorem own : ownKnob Try.prog.godebug = none := by kernel_rfl
theorem laidOut : laidOutB Try.prog = true := by kernel_rfl

set_option maxRecDepth 100000 in
theorem lifted (os : Os) (started : os.Started) (H : Type) (enc : TypeId × Value → H) :
    ReturnsInHanded {} Try.checked os 5 .any (Rows.devLeavesSpec.pre6 enc Try.prog Try.f5 Rows.devLeavesRow.domain false) (Rows.devLeavesSpec.post enc Try.prog Try.f5 false true false false) := by
  refine returnsInHanded_of_change_sized (C := Try.checked) own started (by kernel_rfl) Try.func5
    (ChangeSpec.witness6 (enc := enc) (C := Try.checked) false ⟨#[], #[.agg #[.slice none 0 0, .slice none 0 0], .slice none 0 0, .int .i64 0, .int .i64 0, .int .u8 0], []⟩ 8 (by kernel_rfl) (by kernel_rfl) (by kernel_rfl) (by kernel_rfl)) ?_
  intro W base args ds gs before hval0 hW hcnd hsz _
  have hval : ∀ (j : Nat) t v, Try.f5.params[j]? = some t → args[j]? = some v → Value.okWide Try.prog W .any base t v := hval0
  have hW' := hW
  obtain ⟨p, q, hA0, hV, rfl, hfz, hnd⟩ := hW
  have hA : DataW.TrodAll enc Try.prog W 0 (fun _ => true) true Try.f5.params.toList args.toList ds p := hA0
  rw [Try.params5] at hA hval
  obtain ⟨v0, vs0, d0, ds0, p0, q0, hargs, rfl, rfl, h0, r0⟩ := trodAll_cons hA
  obtain ⟨v1, vs1, d1, ds1, p1, q1, rfl, rfl, rfl, h1, r1⟩ := trodAll_cons r0
  obtain ⟨v2, vs2, d2, ds2, p2, q2, rfl, rfl, rfl, h2, r2⟩ := trodAll_cons r1
  obtain ⟨v3, vs3, d3, ds3, p3, q3, rfl, rfl, rfl, h3, r3⟩ := trodAll_cons r2
  obtain ⟨v4, vs4, d4, ds4, p4, q4, rfl, rfl, rfl, h4, r4⟩ := trodAll_cons r3
  obtain ⟨rfl, rfl, rfl⟩ := trodAll_nil r4
  obtain rfl : args = #[v0, v1, v2, v3, v4] := by cases args; simp_all
  obtain ⟨rfl, rfl⟩ := trodVars_none hV
  have k0 := h0
  have lt0 : ∀ x ∈ p0, x.block < W.heap.size := by obtain ⟨m, hm⟩ := k0; exact DataW.trod_lt m _ _ _ hm
  obtain ⟨x0, D0, rfl, w0, m0⟩ := open_disk (hval 0 25 v0 rfl rfl) h0 (fun n hn => by
    have := List.all_eq_true.1 hsz n (DataW.weights_mem_each (j := 0) (t := 25) (by kernel_rfl) rfl n hn)
    simpa using this)
  obtain ⟨a1, len1, cap1, rfl⟩ := okWide_slice Try.underlying49 (hval 1 49 v1 rfl rfl)
  have k1 := h1
  have lt1 : ∀ x ∈ p1, x.block < W.heap.size := by obtain ⟨m, hm⟩ := k1; exact DataW.trod_lt m _ _ _ hm
  obtain ⟨s1, w1⟩ := open_marks h1
  obtain ⟨a2, rfl, rfl, rfl, w2⟩ := open_int Try.underlying3 (hval 2 3 v2 rfl rfl) h2
  obtain ⟨a3, rfl, rfl, rfl, w3⟩ := open_int Try.underlying3 (hval 3 3 v3 rfl rfl) h3
  obtain ⟨a4, rfl, rfl, rfl, w4⟩ := open_int Try.underlying5 (hval 4 5 v4 rfl rfl) h4
  clear hA0 hval0
  refine (devLeaves_walk x0 D0 a1 len1 cap1 s1 a2 a3 a4 W w0 m0 w1 w2 w3 w4).mono fun e W' ⟨he, bel⟩ => ?_
  subst he
  exact ⟨_, rfl, _, _, _, [], _, [], hW', trodAll_mk1 (shut_bool Try.underlying4 _), (trodAll_cons_mk (Below.trod laidOut (by kernel_rfl) (of_decide_eq_true (by kernel_rfl)) k0 bel lt0) (trodAll_cons_mk (Below.trod laidOut (by kernel_rfl) (of_decide_eq_true (by kernel_rfl)) k1 bel lt1) (trodAll_cons_mk (shut_int Try.underlying3 w2) (trodAll_cons_mk (shut_int Try.underlying3 w3) (trodAll_cons_mk (shut_int Try.underlying5 w4) trodAll_mk0))))), rfl, bel.frame _, fun h => by cases h⟩

theorem over : Rows.devLeavesRow.holds Try.pinned (OpenSpec.ofChange Rows.devLeavesSpec) :=
  OpenClaim.holds_of_wide 5 Try.f5 rfl rfl rfl rfl rfl rfl rfl ⟨rfl, rfl, rfl, rfl, rfl⟩ rfl rfl rfl rfl rfl (by kernel_rfl) Try.func5 (by kernel_rfl)
    (of_decide_eq_true (by kernel_rfl)) (by unfold Func.isWrapper; first | (rw [if_pos (by decide +kernel)]; kernel_rfl) | (rw [if_neg (by decide +kernel)]; exact ⟨rfl, rfl⟩))
    (fun os started H enc _ => lifted os started H enc)

/-- The statement. -/
theorem proved : Rows.DevLeavesSaid := over
end Go.Proofs.Ytgpojnhhcobcbaa.devLeaves
