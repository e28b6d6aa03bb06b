/-
  dev.Read: what it answers, whatever disk and place it is handed.
-/
import Derived.Test.YtgpojnhhcobcbaaDevTop
namespace Go.Proofs.Ytgpojnhhcobcbaa
open Go.RowKit Go.Shelf
set_option maxRecDepth 100000

/-- bytes.Clone: a list of the call's own. -/
theorem dClone_any (B : Nat) (a : Option Addr) (len cap : Nat) (s : List UInt8) (w : World) (hB : B ≤ w.heap.size) (hA : Bsl w B a len cap s) (hlen : len ≤ 1000000000000) :
    Calls Try.prog 44 #[.slice a len cap] w (OwnV len s w) := by
  have q22 : ∀ (w : World) (a : Option Addr) (n c n' c' : Nat), (binOp .eql 30 (.slice a n c) (.slice none n' c')).run Try.prog w = .ok (.bool a.isNone) w := fun w a n c n' c' => Lib.run_eql_slice_nil w _ _ a n c n' c' Try.underlying30
  obtain ⟨h1, h2, h3, h4, h5⟩ := hA
  cases a with
  | none =>
    have hc := h4 rfl
    have hl : len = 0 := by omega
    subst hl; subst hc
    obtain rfl : s = [] := List.eq_nil_of_length_eq_zero h1
    go_enter Try.func44, Try.ntmps44
    go_wp2_with fail
    go_ret
    exact ⟨_, rfl, own_nil _ _, Below.refl _ _⟩
  | some ad =>
    have hA : Bsl w B (some ad) len cap s := ⟨h1, h2, h3, h4, h5⟩
    have b1 : Below w.heap.size w (w.alloc (.cells #[] 5)) := (Below.refl _ w).alloc (Nat.le_refl _) _
    have HA1 := Lib.hid (hA.below (b1.mono hB)); clear hA
    have HB1 := Lib.hid b1; clear b1
    have HO1 := Lib.hid (own_empty w)
    clear h1 h2 h3 h4 h5
    go_enter Try.func44, Try.ntmps44
    go_wp2_with (at_builtin
                 refine wpList_append_big rfl (.tmp 5) (.tmp 6) rfl w.heap.size _ 0 _ rfl HO1.out _ (some ad) len cap s rfl HA1.out (by omega) HB1.out.size ?_
                 intro v' W3 hown' hg'
                 have HB3 := Lib.hid (app_below HB1.out HO1.out hg' HB1.out.size); clear hg'
                 have HO3 := Lib.hid hown'; clear hown')
    go_ret
    refine ⟨_, rfl, ?_, HB3.out⟩
    have := HO3.out
    rwa [Nat.zero_add, List.nil_append] at this
/-- A list of the call's own, and an error's number. -/
def ToldL (o : List UInt8 × Int) (w : World) (e : Ending) (w' : World) : Prop := ∃ v, e = .returned (.tuple #[v, .int .i64 o.2]) ∧ w'.ownsRow w.heap.size 5 1 v o.1.length (vals o.1) ∧ Below w.heap.size w w'
def readO (D : DkL) (p : Int) : List UInt8 × Int := if MayD D then (if 0 ≤ p ∧ p < 256 then (leftD D (fun _ => true) p.toNat, 0) else ([], 2)) else ([], 8)
theorem leftD_goes (D : DkL) (p : Nat) : leftD D (fun i => decide ((wr_ D.2 i).1 = (p : Int))) p = leftD D (fun _ => true) p := by
  have : lastTo D.2 (fun i => decide ((wr_ D.2 i).1 = (p : Int))) (p : Int) D.2.length = lastTo D.2 (fun _ => true) (p : Int) D.2.length := lastTo_congr fun i _ => by simp
  unfold leftD
  rw [this]
theorem read_boxes (w : World) (u v k : Value) : ∃ w0, (w.alloc (.cells #[u, v] 25)).alloc (.cells #[k] 3) = w0 ∧ Below w.heap.size w w0 ∧ w0.heap.size = w.heap.size + 2 ∧ Blk w0 w.heap.size 25 #[u, v] ∧ Blk w0 (w.heap.size + 1) 3 #[k] := by
  refine ⟨_, rfl, ((Below.refl _ w).alloc (Nat.le_refl _) _).alloc (by simp) _, by simp, (Blk.new w _ _).alloc _, ?_⟩
  have := Blk.new (w.alloc (.cells #[u, v] 25)) 3 #[k]
  rw [World.size_alloc] at this
  exact this
set_option maxHeartbeats 2000000 in
theorem dRead_any (x : DAt) (D : DkL) (p : Int) (w : World) (h : Dsk w w.heap.size x D) : Calls Try.prog 17 #[dval x D, .int .i64 p] w (ToldL (readO D p) w) := by
  obtain ⟨w0, hw0, b0, z0, x0, xp⟩ := read_boxes w (.slice x.ba D.1.length x.bc) (.slice x.wa D.2.length x.wc) (.int .i64 p)
  have h0 := h.step b0
  have c0 := x0.cell 0
  have c1 := x0.cell 1
  have cp := xp.cell 0
  have HX0 := Lib.hid x0
  have HXp := Lib.hid xp
  have HB := Lib.hid b0
  have HZ := Lib.hid z0
  have HD := Lib.hid h0
  unfold readO
  by_cases hm : MayD D
  · rw [if_pos hm]
    have HC := Lib.hid (dMay_yes x D _ h0 hm)
    simp only [dval] at HC ⊢
    have hbk := dIsBlock_any p
    have HM := Lib.hid hm
    by_cases hp : 0 ≤ p ∧ p < 256
    · rw [if_pos hp]
      simp only [decide_eq_true hp] at hbk
      obtain ⟨q, rfl⟩ := Int.eq_ofNat_of_zero_le hp.1
      have hq : q < 256 := by omega
      have HBK := Lib.hid hbk
      have hll := leftD_length hm (fun _ => true) hq
      have e2 : ((q : Int).toNat) = q := by simp
      obtain ⟨s, hs⟩ : ∃ s, leftD D (fun _ => true) q = s := ⟨_, rfl⟩
      rw [hs] at hll
      rw [e2, hs]
      have HLL := Lib.hid hll
      have HS := Lib.hid hs
      clear e2 hs b0 h0 h hm x0 xp z0 hbk hp hll
      go_enter Try.func17, Try.ntmps17
      go_wp2_with fail
      clear hw0 c0 c1 cp
      refine HC.out.mono ?_
      rintro e w1 ⟨rfl, b1⟩
      have cp := (HXp.out.below b1 HXp.out.lt).cell 0
      have HB1 := Lib.hid b1
      clear b1
      go_wp2_with fail
      refine (HBK.out _).mono ?_
      rintro e w1' ⟨rfl, rfl⟩
      have b1 := HB1.out
      have x01 := HX0.out.below b1 HX0.out.lt
      have xp1 := HXp.out.below b1 HXp.out.lt
      have hD1 := HD.out.step b1
      have c0 := x01.cell 0
      have c1 := x01.cell 1
      have hl := dLast2_any x.wa D.2.length x.wc D.2 (fun i => decide ((wr_ D.2 i).1 = (q : Int))) ⟨w.heap.size, 0, none⟩ ⟨w.heap.size + 1, 0, none⟩ w1 hD1.2 (fun W hW i hi => dGoes_any w1.heap.size x D w.heap.size (w.heap.size + 1) (q : Int) i W ⟨hD1.1.below hW, hD1.2.below hW⟩ (x01.below hW x01.lt) ((xp1.below hW xp1.lt).cell 0) hi)
      have HL := Lib.hid hl
      have HX1 := Lib.hid x01
      have HXp1 := Lib.hid xp1
      have HD1 := Lib.hid hD1
      have HBw := Lib.hid (HB.out.trans (b1.mono HB.out.size))
      clear b1 x01 xp1 hD1 hl HB1 HC HBK HX0 HXp HB HD
      go_wp2_with fail
      clear c0 c1 cp
      refine HL.out.mono ?_
      rintro e w2 ⟨g, rfl, hge, hM, b2⟩
      have c0 := (HX1.out.below b2 HX1.out.lt).cell 0
      have c1 := (HX1.out.below b2 HX1.out.lt).cell 1
      have cp := (HXp1.out.below b2 HXp1.out.lt).cell 0
      have hle := dLeft_any w2.heap.size x D g D.2.length (fun i => decide ((wr_ D.2 i).1 = (q : Int))) q w2 (Nat.le_refl _) (HD1.out.step b2) hM (by rw [HM.out.1.1]; exact hq)
      rw [leftD_goes] at hle
      simp only [dval] at hle
      rw [HS.out] at hle
      have HLE := Lib.hid hle
      have HB2 := Lib.hid (HBw.out.trans (b2.mono HBw.out.size))
      clear hle b2 hM hge HL
      go_wp2_with fail
      clear c0 c1 cp
      refine HLE.out.mono ?_
      rintro e w3 ⟨A, c, rfl, h3, b3⟩
      have HCL := Lib.hid (dClone_any w2.heap.size A s.length c s w3 b3.size h3 (by rw [HLL.out]; omega))
      have HB3 := Lib.hid (HB2.out.trans (b3.mono HB2.out.size))
      clear h3 b3 HLE
      go_wp2_with fail
      refine HCL.out.mono ?_
      rintro e w4 ⟨v4, rfl, h4, b4⟩
      have HO := Lib.hid (own_mono h4 HB3.out.size)
      have HB4 := Lib.hid (HB3.out.trans (b4.mono HB3.out.size))
      clear h4 b4
      go_wp2_with fail
      go_ret2
      exact ⟨v4, rfl, HO.out, HB4.out⟩
    · rw [if_neg hp]
      simp only [decide_eq_false hp] at hbk
      have HBK := Lib.hid hbk
      clear b0 h0 h hm x0 xp z0 hbk hp
      go_enter Try.func17, Try.ntmps17
      go_wp2_with fail
      clear hw0 c0 c1 cp
      refine HC.out.mono ?_
      rintro e w1 ⟨rfl, b1⟩
      have cp := (HXp.out.below b1 HXp.out.lt).cell 0
      have HB1 := Lib.hid (HB.out.trans (b1.mono HB.out.size))
      clear b1
      go_wp2_with fail
      refine (HBK.out _).mono ?_
      rintro e w1' ⟨rfl, rfl⟩
      go_wp2_with fail
      go_ret2
      exact ⟨_, rfl, own_nil _ _, HB1.out⟩
  · rw [if_neg hm]
    have HC := Lib.hid (dMay_no x D _ h0 hm)
    simp only [dval] at HC ⊢
    clear b0 h0 h hm x0 xp z0
    go_enter Try.func17, Try.ntmps17
    go_wp2_with fail
    clear hw0 c0 c1 cp
    refine HC.out.mono ?_
    rintro e w1 ⟨rfl, b1⟩
    have HB1 := Lib.hid (HB.out.trans (b1.mono HB.out.size))
    clear b1
    go_wp2_with fail
    go_ret2
    exact ⟨_, rfl, own_nil _ _, HB1.out⟩
end Go.Proofs.Ytgpojnhhcobcbaa
