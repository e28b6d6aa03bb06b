/-
  Texts of one seat, one behind the other.
-/
import Derived.Lib.AppendZeros
import Derived.RangeFuncNested
import Derived.Deep.CutRange
import Derived.Deep.DeepCutAuto
import Derived.OwnWalk
import Derived.Test.YtjdjbonljohnbaaGreatDoorPkDB2
/-
  dev.Read: what it answers, whatever disk and place it is handed.
-/
namespace Go.Proofs.YtjdjbonljohnbaaGreatDoor
open Go.RowKit Go.Shelf
set_option maxRecDepth 100000

/-- bytes.Clone: a list of the call's own. -/
theorem dClone_any (B : Nat) (a : Option Addr) (len cap : Nat) (s : List UInt8) (w : World) (hB : B ≤ w.heap.size) (hA : Bsl w B a len cap s) (hlen : len ≤ 1000000000000) :
    Calls Tryz.prog 36 #[.slice a len cap] w (OwnV len s w) := by
  have q22 : ∀ (w : World) (a : Option Addr) (n c n' c' : Nat), (binOp .eql 26 (.slice a n c) (.slice none n' c')).run Tryz.prog w = .ok (.bool a.isNone) w := fun w a n c n' c' => Lib.run_eql_slice_nil w _ _ a n c n' c' Tryz.underlying26
  obtain ⟨h1, h2, h3, h4, h5⟩ := hA
  cases a with
  | none =>
    have hc := h4 rfl
    have hl : len = 0 := by omega
    subst hl; subst hc
    obtain rfl : s = [] := List.eq_nil_of_length_eq_zero h1
    go_enter Tryz.func36, Tryz.ntmps36
    go_wp2_with fail
    go_ret
    exact ⟨_, rfl, own_nil _ _, Below.refl _ _⟩
  | some ad =>
    have hA : Bsl w B (some ad) len cap s := ⟨h1, h2, h3, h4, h5⟩
    have b1 : Below w.heap.size w (w.alloc (.cells #[] 5)) := (Below.refl _ w).alloc (Nat.le_refl _) _
    have HA1 := Lib.hid (hA.below (b1.mono hB)); clear hA
    have HB1 := Lib.hid b1; clear b1
    have HO1 := Lib.hid (own_empty w)
    clear h1 h2 h3 h4 h5
    go_enter Tryz.func36, Tryz.ntmps36
    go_wp2_with (at_builtin
                 refine wpList_append_big rfl (.tmp 5) (.tmp 6) rfl w.heap.size _ 0 _ rfl HO1.out _ (some ad) len cap s rfl HA1.out (by omega) HB1.out.size ?_
                 intro v' W3 hown' hg'
                 have HB3 := Lib.hid (app_below HB1.out HO1.out hg' HB1.out.size); clear hg'
                 have HO3 := Lib.hid hown'; clear hown')
    go_ret
    refine ⟨_, rfl, ?_, HB3.out⟩
    have := HO3.out
    rwa [Nat.zero_add, List.nil_append] at this
/-- A list of the call's own, and an error's number. -/
def ToldL (o : List UInt8 × Int) (w : World) (e : Ending) (w' : World) : Prop := ∃ v, e = .returned (.tuple #[v, .int .i64 o.2]) ∧ w'.ownsRow w.heap.size 5 1 v o.1.length (vals o.1) ∧ Below w.heap.size w w'
def readO (D : DkL) (p : Int) : List UInt8 × Int := if MayD D then (if 0 ≤ p ∧ p < 256 then (leftD D (fun _ => true) p.toNat, 0) else ([], 2)) else ([], 8)
theorem leftD_goes (D : DkL) (p : Nat) : leftD D (fun i => decide ((wr_ D.2 i).1 = (p : Int))) p = leftD D (fun _ => true) p := by
  have : lastTo D.2 (fun i => decide ((wr_ D.2 i).1 = (p : Int))) (p : Int) D.2.length = lastTo D.2 (fun _ => true) (p : Int) D.2.length := lastTo_congr fun i _ => by simp
  unfold leftD
  rw [this]
theorem read_boxes (w : World) (u v k : Value) : ∃ w0, (w.alloc (.cells #[u, v] 25)).alloc (.cells #[k] 3) = w0 ∧ Below w.heap.size w w0 ∧ w0.heap.size = w.heap.size + 2 ∧ Blk w0 w.heap.size 25 #[u, v] ∧ Blk w0 (w.heap.size + 1) 3 #[k] := by
  refine ⟨_, rfl, ((Below.refl _ w).alloc (Nat.le_refl _) _).alloc (by simp) _, by simp, (Blk.new w _ _).alloc _, ?_⟩
  have := Blk.new (w.alloc (.cells #[u, v] 25)) 3 #[k]
  rw [World.size_alloc] at this
  exact this
set_option maxHeartbeats 2000000 in
theorem dRead_any (x : DAt) (D : DkL) (p : Int) (w : World) (h : Dsk w w.heap.size x D) : Calls Tryz.prog 93 #[dval x D, .int .i64 p] w (ToldL (readO D p) w) := by
  obtain ⟨w0, hw0, b0, z0, x0, xp⟩ := read_boxes w (.slice x.ba D.1.length x.bc) (.slice x.wa D.2.length x.wc) (.int .i64 p)
  have h0 := h.step b0
  have c0 := x0.cell 0
  have c1 := x0.cell 1
  have cp := xp.cell 0
  have HX0 := Lib.hid x0
  have HXp := Lib.hid xp
  have HB := Lib.hid b0
  have HZ := Lib.hid z0
  have HD := Lib.hid h0
  unfold readO
  by_cases hm : MayD D
  · rw [if_pos hm]
    have HC := Lib.hid (dMay_yes x D _ h0 hm)
    simp only [dval] at HC ⊢
    have hbk := dIsBlock_any p
    have HM := Lib.hid hm
    by_cases hp : 0 ≤ p ∧ p < 256
    · rw [if_pos hp]
      simp only [decide_eq_true hp] at hbk
      obtain ⟨q, rfl⟩ := Int.eq_ofNat_of_zero_le hp.1
      have hq : q < 256 := by omega
      have HBK := Lib.hid hbk
      have hll := leftD_length hm (fun _ => true) hq
      have e2 : ((q : Int).toNat) = q := by simp
      obtain ⟨s, hs⟩ : ∃ s, leftD D (fun _ => true) q = s := ⟨_, rfl⟩
      rw [hs] at hll
      rw [e2, hs]
      have HLL := Lib.hid hll
      have HS := Lib.hid hs
      clear e2 hs b0 h0 h hm x0 xp z0 hbk hp hll
      go_enter Tryz.func93, Tryz.ntmps93
      go_wp2_with fail
      clear hw0 c0 c1 cp
      refine HC.out.mono ?_
      rintro e w1 ⟨rfl, b1⟩
      have cp := (HXp.out.below b1 HXp.out.lt).cell 0
      have HB1 := Lib.hid b1
      clear b1
      go_wp2_with fail
      refine (HBK.out _).mono ?_
      rintro e w1' ⟨rfl, rfl⟩
      have b1 := HB1.out
      have x01 := HX0.out.below b1 HX0.out.lt
      have xp1 := HXp.out.below b1 HXp.out.lt
      have hD1 := HD.out.step b1
      have c0 := x01.cell 0
      have c1 := x01.cell 1
      have hl := dLast2_any x.wa D.2.length x.wc D.2 (fun i => decide ((wr_ D.2 i).1 = (q : Int))) ⟨w.heap.size, 0, none⟩ ⟨w.heap.size + 1, 0, none⟩ w1 hD1.2 (fun W hW i hi => dGoes_any w1.heap.size x D w.heap.size (w.heap.size + 1) (q : Int) i W ⟨hD1.1.below hW, hD1.2.below hW⟩ (x01.below hW x01.lt) ((xp1.below hW xp1.lt).cell 0) hi)
      have HL := Lib.hid hl
      have HX1 := Lib.hid x01
      have HXp1 := Lib.hid xp1
      have HD1 := Lib.hid hD1
      have HBw := Lib.hid (HB.out.trans (b1.mono HB.out.size))
      clear b1 x01 xp1 hD1 hl HB1 HC HBK HX0 HXp HB HD
      go_wp2_with fail
      clear c0 c1 cp
      refine HL.out.mono ?_
      rintro e w2 ⟨g, rfl, hge, hM, b2⟩
      have c0 := (HX1.out.below b2 HX1.out.lt).cell 0
      have c1 := (HX1.out.below b2 HX1.out.lt).cell 1
      have cp := (HXp1.out.below b2 HXp1.out.lt).cell 0
      have hle := dLeft_any w2.heap.size x D g D.2.length (fun i => decide ((wr_ D.2 i).1 = (q : Int))) q w2 (Nat.le_refl _) (HD1.out.step b2) hM (by rw [HM.out.1.1]; exact hq)
      rw [leftD_goes] at hle
      simp only [dval] at hle
      rw [HS.out] at hle
      have HLE := Lib.hid hle
      have HB2 := Lib.hid (HBw.out.trans (b2.mono HBw.out.size))
      clear hle b2 hM hge HL
      go_wp2_with fail
      clear c0 c1 cp
      refine HLE.out.mono ?_
      rintro e w3 ⟨A, c, rfl, h3, b3⟩
      have HCL := Lib.hid (dClone_any w2.heap.size A s.length c s w3 b3.size h3 (by rw [HLL.out]; omega))
      have HB3 := Lib.hid (HB2.out.trans (b3.mono HB2.out.size))
      clear h3 b3 HLE
      go_wp2_with fail
      refine HCL.out.mono ?_
      rintro e w4 ⟨v4, rfl, h4, b4⟩
      have HO := Lib.hid (own_mono h4 HB3.out.size)
      have HB4 := Lib.hid (HB3.out.trans (b4.mono HB3.out.size))
      clear h4 b4
      go_wp2_with fail
      go_ret2
      exact ⟨v4, rfl, HO.out, HB4.out⟩
    · rw [if_neg hp]
      simp only [decide_eq_false hp] at hbk
      have HBK := Lib.hid hbk
      clear b0 h0 h hm x0 xp z0 hbk hp
      go_enter Tryz.func93, Tryz.ntmps93
      go_wp2_with fail
      clear hw0 c0 c1 cp
      refine HC.out.mono ?_
      rintro e w1 ⟨rfl, b1⟩
      have cp := (HXp.out.below b1 HXp.out.lt).cell 0
      have HB1 := Lib.hid (HB.out.trans (b1.mono HB.out.size))
      clear b1
      go_wp2_with fail
      refine (HBK.out _).mono ?_
      rintro e w1' ⟨rfl, rfl⟩
      go_wp2_with fail
      go_ret2
      exact ⟨_, rfl, own_nil _ _, HB1.out⟩
  · rw [if_neg hm]
    have HC := Lib.hid (dMay_no x D _ h0 hm)
    simp only [dval] at HC ⊢
    clear b0 h0 h hm x0 xp z0
    go_enter Tryz.func93, Tryz.ntmps93
    go_wp2_with fail
    clear hw0 c0 c1 cp
    refine HC.out.mono ?_
    rintro e w1 ⟨rfl, b1⟩
    have HB1 := Lib.hid (HB.out.trans (b1.mono HB.out.size))
    clear b1
    go_wp2_with fail
    go_ret2
    exact ⟨_, rfl, own_nil _ _, HB1.out⟩
end Go.Proofs.YtjdjbonljohnbaaGreatDoor
/-
  The document's own ask, last, left, Seen for layer 9.
-/
namespace Go.Proofs.YtjdjbonljohnbaaGreatDoor
open Go.RowKit Go.Shelf
set_option maxRecDepth 100000

/-- Which writes count: all, where there are no marks. -/
def markF (ks : List Bool) (i : Nat) : Bool := ks.length == 0 || ks.getD i false
/-- The place of a block's last write; -1: there is none. -/
def lastN (ws : WrL) (mk : Nat → Bool) (p : Int) : Int := match lastTo ws mk p ws.length with
  | some i => (i : Nat)
  | none => -1
set_option maxHeartbeats 2000000 in
theorem rdLast_any (x : DAt) (D : DkL) (a : Option Addr) (n c : Nat) (ks : List Bool) (p : Int) (w : World) (h : Dsk w w.heap.size x D) (hk : Mks w w.heap.size a n c ks) (hn : n = 0 ∨ n = D.2.length) :
    Calls Tryz.prog 132 #[dval x D, .slice a n c, .int .i64 p] w fun e w' => e = .returned (.int .i64 (lastN D.2 (markF ks) p)) ∧ Below w.heap.size w w' := by
  obtain ⟨ba, bc, wa, wc⟩ := x
  simp only [dval]
  have l2 := h.2.len_le
  obtain ⟨r, hr⟩ : ∃ r, lastN D.2 (markF ks) p = r := ⟨_, rfl⟩
  rw [hr]
  obtain ⟨m, hm⟩ : ∃ m, D.2.length = m := ⟨_, rfl⟩
  obtain ⟨q, hq⟩ : ∃ q, D.1.length = q := ⟨_, rfl⟩
  rw [hm] at l2 hn
  have m0 : (0 : Int) ≤ m := by omega
  have b0 := (Below.refl w.heap.size w).alloc (Nat.le_refl _) (.cells #[.slice ba D.1.length bc, .slice wa D.2.length wc] 25)
  have x0 := Blk.new w 25 #[.slice ba D.1.length bc, .slice wa D.2.length wc]
  have h0 := h.step b0
  have hk0 := hk.step b0
  rw [hm, hq] at b0 x0 h0 hk0 ⊢
  obtain ⟨w0, hw0⟩ : ∃ w0, w.alloc (.cells #[.slice ba q bc, .slice wa m wc] 25) = w0 := ⟨_, rfl⟩
  rw [hw0] at b0 x0 h0 hk0
  have c0 := x0.cell 0
  have c1 := x0.cell 1
  obtain ⟨_, hW⟩ := h0
  simp only [hm] at hW
  have hkl := hk.1
  have HW := Lib.hid hW
  have HK := Lib.hid hk0
  have HB := Lib.hid b0
  have HM := Lib.hid hm
  have HR := Lib.hid hr
  have HKL := Lib.hid hkl
  have HNM := Lib.hid hn
  clear h hk b0 x0 hW hk0 hm hr hkl hq hn
  go_enter Tryz.func132, Tryz.ntmps132
  go_wp2_with fail
  clear hw0
  go_loop [7] (fun i => ∃ j : Nat, j ≤ m ∧ i = .int .i64 ((j : Int) - 1) ∧ Hid (∀ t, j ≤ t → t < m → ¬ (markF ks t = true ∧ (wr_ D.2 t).1 = p))) (fun i => (intOf i + 1).toNat)
  case atStart => exact ⟨m, Nat.le_refl _, rfl, Lib.hid (fun t h1 h2 => by omega)⟩
  case round =>
    obtain ⟨j, hj, rfl, HA⟩ := hrel
    rcases j with _ | k
    · have hr : r = -1 := by
        rw [← HR.out, lastN, HM.out, lastTo_no (fun t ht => HA.out t (Nat.zero_le _) ht)]
      subst hr
      have e0 : ((0 : Nat) : Int) - 1 = -1 := by omega
      rw [e0]
      have hneg : ¬ (0 : Int) ≤ -1 := by omega
      go_wp2_with fail
      go_ret
      exact ⟨rfl, HB.out⟩
    · have e1 : ((k + 1 : Nat) : Int) - 1 = (k : Int) := by omega
      rw [e1]
      have k0 : (0 : Int) ≤ k := by omega
      have k1 : (k : Int) < m := by omega
      obtain ⟨b, off, pk, A, l, c', s, rfl, _, hl, _, hc, _, hA⟩ := HW.out.at_ (show k < m by omega)
      clear e1
      have hskip : ¬ (markF ks k = true ∧ pk = p) → Hid (∀ t, k ≤ t → t < m → ¬ (markF ks t = true ∧ (wr_ D.2 t).1 = p)) := fun hno => Lib.hid fun t h1 h2 => by
        rcases Nat.eq_or_lt_of_le h1 with h3 | h3
        · subst h3
          rw [hl]
          exact hno
        · exact HA.out t h3 h2
      have hfound : markF ks k = true ∧ pk = p → r = (k : Int) := fun hyes => by
        rw [← HR.out, lastN, HM.out, lastTo_behind (i := k) (by omega) (by rw [hl]; exact hyes) (fun t h1 h2 => HA.out t h1 h2)]
      have HSK := Lib.hid hskip
      have HFO := Lib.hid hfound
      clear hskip hfound hl hA
      by_cases hpp : pk = p
      · subst hpp
        have hpb : (pk == pk) = true := by simp
        by_cases hn0 : n = 0
        · have hr := HFO.out ⟨by unfold markF; rw [HKL.out, hn0]; rfl, rfl⟩
          subst hr
          subst hn0
          have hz : (((0 : Nat) : Int) == 0) = true := by decide
          go_wp2_with fail
          go_ret
          exact ⟨rfl, HB.out⟩
        · have hz : ((n : Int) == 0) = false := by simp; omega
          have hnm : n = m := HNM.out.resolve_left hn0
          subst hnm
          obtain ⟨bk, ok, rfl, _, hck⟩ := HK.out.2.2.2 (by omega)
          have ck := hck k (by omega)
          have hmk : markF ks k = ks.getD k false := by
            unfold markF
            have : (ks.length == 0) = false := by rw [HKL.out]; simpa using hn0
            rw [this]
            rfl
          obtain ⟨v, hv⟩ : ∃ v, ks.getD k false = v := ⟨_, rfl⟩
          rw [hv] at ck hmk
          have HMK := Lib.hid hmk
          clear hck hn0 hmk hv
          cases v with
          | true =>
            have hr := HFO.out ⟨HMK.out, rfl⟩
            subst hr
            go_wp2_with fail
            go_ret
            exact ⟨rfl, HB.out⟩
          | false =>
            have HS := HSK.out (fun hh => by rw [HMK.out] at hh; cases hh.1)
            go_wp2_with fail
            go_round
            case rel => exact ⟨k, by omega, rfl, HS⟩
            case measure => simp [intOf]
      · have hpb : (pk == p) = false := by simpa using hpp
        have HS := HSK.out (fun hh => hpp hh.2)
        clear hpp
        go_wp2_with fail
        go_round
        case rel => exact ⟨k, by omega, rfl, HS⟩
        case measure => simp [intOf]
/-- A list of the call's own that reads as s. -/
def OwnS (s : List UInt8) (w : World) (e : Ending) (w' : World) : Prop := ∃ v, e = .returned v ∧ w'.ownsRow w.heap.size 5 1 v s.length (vals s) ∧ Below w.heap.size w w'
set_option maxHeartbeats 2000000 in
theorem rdLeft_any (x : DAt) (D : DkL) (a : Option Addr) (n c : Nat) (ks : List Bool) (p : Nat) (w : World) (h : Dsk w w.heap.size x D) (hk : Mks w w.heap.size a n c ks) (hn : n = 0 ∨ n = D.2.length) (hp : p < D.1.length) (hlen : (leftD D (markF ks) p).length ≤ 1000000000000) :
    Calls Tryz.prog 118 #[dval x D, .slice a n c, .int .i64 p] w (OwnS (leftD D (markF ks) p) w) := by
  have b0 := (Below.refl w.heap.size w).alloc (Nat.le_refl _) (.cells #[.slice x.ba D.1.length x.bc, .slice x.wa D.2.length x.wc] 25)
  have x0 := Blk.new w 25 #[.slice x.ba D.1.length x.bc, .slice x.wa D.2.length x.wc]
  have h0 := h.step b0
  have hla := rdLast_any x D a n c ks (p : Int) _ h0 (hk.step b0) hn
  have c0 := x0.cell 0
  have c1 := x0.cell 1
  have l1 := h.1.len_le
  have l2 := h.2.len_le
  simp only [dval] at hla ⊢
  have HX := Lib.hid x0
  have HB := Lib.hid b0
  have HD := Lib.hid h0
  unfold leftD at hlen ⊢
  unfold lastN at hla
  cases hlt : lastTo D.2 (markF ks) (p : Int) D.2.length with
  | some i =>
    rw [hlt] at hlen hla
    simp only at hlen hla ⊢
    have hi := (lastTo_lt hlt).1
    have HL := Lib.hid hla
    have i0 : (0 : Int) ≤ i := by omega
    have i1 : (i : Int) < D.2.length := by omega
    have i2 : ¬ (i : Int) < 0 := by omega
    obtain ⟨s, hs⟩ : ∃ s, (wr_ D.2 i).2 = s := ⟨_, rfl⟩
    rw [hs] at hlen ⊢
    have HS := Lib.hid hs
    have HI := Lib.hid hi
    clear h hk hla b0 x0 h0 hlt hs hi
    go_enter Tryz.func118, Tryz.ntmps118
    go_wp2_with fail
    clear c0 c1
    refine HL.out.mono ?_
    rintro e w1 ⟨rfl, b1⟩
    obtain ⟨b, off, q, A, l, c', s', hbe, hlb, hl, _, hc, hd, hA⟩ := (HD.out.step b1).2.at_ HI.out
    have c0 := (HX.out.below b1 HX.out.lt).cell 0
    have c1 := (HX.out.below b1 HX.out.lt).cell 1
    obtain ⟨ba, bc, wa, wc⟩ := x
    obtain rfl : wa = some ⟨b, off, none⟩ := hbe
    simp only at c0 c1 ⊢
    obtain rfl : s' = s := by have := HS.out; rw [hl] at this; exact this
    have HA := Lib.hid hA
    have HO := Lib.hid (own_nil w1 w.heap.size)
    have HB1 := Lib.hid (HB.out.trans (b1.mono HB.out.size))
    have hls := hA.1
    have HLS := Lib.hid hls
    clear hl hA b1 hls HL
    go_wp2_with (at_builtin
                 refine wpList_append_big rfl (.const (.slice none 0 0)) (.tmp 25) rfl w.heap.size (.slice none 0 0) 0 [] rfl HO.out _ A l c' s' rfl HA.out (by have := HLS.out; omega) HB1.out.size ?_
                 intro v7 w7 ho7 hg7
                 rw [Nat.zero_add, List.nil_append] at ho7
                 have HB7 := Lib.hid (app_below HB1.out HO.out hg7 HB1.out.size)
                 have HO7 := Lib.hid ho7
                 clear ho7 hg7)
    go_ret
    exact ⟨v7, rfl, by rw [HLS.out]; exact HO7.out, HB7.out⟩
  | none =>
    rw [hlt] at hlen hla
    simp only at hlen hla ⊢
    have HL := Lib.hid hla
    have i0 : (0 : Int) ≤ p := by omega
    have i1 : (p : Int) < D.1.length := by omega
    obtain ⟨s, hs⟩ : ∃ s, D.1.getD p [] = s := ⟨_, rfl⟩
    rw [hs] at hlen ⊢
    have HS := Lib.hid hs
    clear h hk hla b0 x0 h0 hlt hs
    go_enter Tryz.func118, Tryz.ntmps118
    go_wp2_with fail
    clear c0 c1
    refine HL.out.mono ?_
    rintro e w1 ⟨rfl, b1⟩
    obtain ⟨b, off, A, l, c', s', hbe, hlb, hl, hc, hA⟩ := (HD.out.step b1).1.at_ hp
    have c0 := (HX.out.below b1 HX.out.lt).cell 0
    have c1 := (HX.out.below b1 HX.out.lt).cell 1
    obtain ⟨ba, bc, wa, wc⟩ := x
    obtain rfl : ba = some ⟨b, off, none⟩ := hbe
    simp only at c0 c1 ⊢
    obtain rfl : s' = s := by have := HS.out; rw [hl] at this; exact this
    have HA := Lib.hid hA
    have HO := Lib.hid (own_nil w1 w.heap.size)
    have HB1 := Lib.hid (HB.out.trans (b1.mono HB.out.size))
    have hls := hA.1
    have HLS := Lib.hid hls
    clear hl hA b1 hls HL
    go_wp2_with (at_builtin
                 refine wpList_append_big rfl (.const (.slice none 0 0)) (.tmp 18) rfl w.heap.size (.slice none 0 0) 0 [] rfl HO.out _ A l c' s' rfl HA.out (by have := HLS.out; omega) HB1.out.size ?_
                 intro v7 w7 ho7 hg7
                 rw [Nat.zero_add, List.nil_append] at ho7
                 have HB7 := Lib.hid (app_below HB1.out HO.out hg7 HB1.out.size)
                 have HO7 := Lib.hid ho7
                 clear ho7 hg7)
    go_ret
    exact ⟨v7, rfl, by rw [HLS.out]; exact HO7.out, HB7.out⟩
theorem mks_nil (w : World) (B : Nat) : Mks w B none 0 0 [] := ⟨rfl, Nat.le_refl _, Nat.zero_le _, fun h => absurd h (Nat.lt_irrefl _)⟩
theorem markF_nil : markF [] = fun _ => true := by
  funext i
  rfl
theorem rdSeen_any (x : DAt) (D : DkL) (p : Nat) (w : World) (h : Dsk w w.heap.size x D) (hp : p < D.1.length) (hlen : (leftD D (fun _ => true) p).length ≤ 1000000000000) :
    Calls Tryz.prog 96 #[dval x D, .int .i64 p] w (OwnS (leftD D (fun _ => true) p) w) := by
  have b0 := (Below.refl w.heap.size w).alloc (Nat.le_refl _) (.cells #[.slice x.ba D.1.length x.bc, .slice x.wa D.2.length x.wc] 25)
  have x0 := Blk.new w 25 #[.slice x.ba D.1.length x.bc, .slice x.wa D.2.length x.wc]
  have hl := rdLeft_any x D none 0 0 [] p _ (h.step b0) (mks_nil _ _) (.inl rfl) hp (by rw [markF_nil]; exact hlen)
  rw [markF_nil] at hl
  have c0 := x0.cell 0
  have c1 := x0.cell 1
  simp only [dval] at hl ⊢
  have HL := Lib.hid hl
  have HB := Lib.hid b0
  obtain ⟨s, hs⟩ : ∃ s, leftD D (fun _ => true) p = s := ⟨_, rfl⟩
  rw [hs] at HL ⊢
  clear h hl x0 b0 hs hlen
  go_enter Tryz.func96, Tryz.ntmps96
  go_wp2_with fail
  refine HL.out.mono ?_
  rintro e w1 ⟨v, rfl, h1, b1⟩
  have HO := Lib.hid (own_mono h1 HB.out.size)
  have HB1 := Lib.hid (HB.out.trans (b1.mono HB.out.size))
  clear h1 b1
  go_wp2_with fail
  go_ret
  exact ⟨v, rfl, HO.out, HB1.out⟩
end Go.Proofs.YtjdjbonljohnbaaGreatDoor
/-
  The document's own Kept for layer 9: what those leave whose mark is true.
-/
namespace Go.Proofs.YtjdjbonljohnbaaGreatDoor
open Go.RowKit Go.Shelf
set_option maxRecDepth 100000

section
variable {l : List Oper} {Q : Exit → Act → World → Prop} {md : Region.Mode} {i : Nat} {σ : List Nat} {o : Oper} {listed : Array Bool} {a : Act} {w : World}
/-- append(writes, more...), at its own place in the order. -/
theorem wpS_append_wrow (hi : nthOp l i = some o) (hr : Region.ready md l.toArray listed = [i]) (hl : lastB md l.toArray i = true) (hgd : o.guard = none) (x y : Operand) (ho : o.op = .call { callee := .builtin .append, args := #[x, y], argTypes := #[23, 23] })
    (base : Nat) {C : Nat} (hC : C ≤ base) (v : Value) (ws : WrL) (hx : a.eval x = v) (hrw : WRowC w C base v ws) (ys : List Value) (ws' : WrL) (ad : Addr) (m c : Nat) (hy : a.eval y = .slice (some ad) m c) (hm : ws'.length = m) (hyl : ys.length = m * 2) (hcell : ∀ j u, ys[j]? = some u → w.cell? (ad.add j) = some u)
    (h3 : ∀ i, i < ws'.length → (Lit.int .i64 (wr_ ws' i).1).wf = true ∧ ys.getD (i * 2) undef = .int .i64 (wr_ ws' i).1 ∧ ∃ A c, ys.getD (i * 2 + 1) undef = .slice A (wr_ ws' i).2.length c ∧ BslO w C A (wr_ ws' i).2.length c (wr_ ws' i).2)
    (hn : ws.length + m ≤ 1000000) (hbase : base ≤ w.heap.size)
    (h : ∀ v' w', WRowC w' C base v' (ws ++ ws') → w.grownBy w' v.ownBlock → (∀ g, v.ownBlock = some g → base ≤ g ∧ ∃ t cs, Blk w g t cs ∧ t = 71) → wpS Tryz.prog md l Q σ (listed.setIfInBounds i true) (a.put o.dst v') w') : wpS Tryz.prog md l Q (i :: σ) listed a w :=
  wpS_last hi hr hl fun K hK => by
    rw [if_pos (by simp [Region.wanted, hgd])]
    have hty : ∀ g, v.ownBlock = some g → base ≤ g ∧ ∃ t cs, Blk w g t cs ∧ t = 71 := by
      obtain ⟨xs, h1, _⟩ := hrw
      intro g hg
      obtain ⟨_, ⟨rfl, _⟩ | ⟨g', cap, cur, rfl, h2, h3, _⟩⟩ := h1
      · cases hg
      · cases hg
        exact ⟨h2, _, _, h3, rfl⟩
    exact wp_append_wrowC x y ho base hC v ws hx hrw ys ws' ad m c hy hm hyl hcell h3 hn hbase fun v' w' h1 h2 _ => hK _ _ (h v' w' h1 h2 hty)
end
end Go.Proofs.YtjdjbonljohnbaaGreatDoor
/-
  slices.Grow of nil, and slices.Concat of slices of writes: a row of the call's own that holds them all, one behind the other.
-/
namespace Go.Proofs.YtjdjbonljohnbaaGreatDoor
open Go.RowKit Go.Shelf
set_option maxRecDepth 100000

set_option maxHeartbeats 1000000 in
theorem dGrow_any (n : Nat) (h0 : 0 < n) (hn : n ≤ 1000000) (w : World) : Calls Tryz.prog 108 #[.slice none 0 0, .int .i64 n] w fun e w' => ∃ v, e = .returned v ∧ WRow w' w.heap.size v [] ∧ Below w.heap.size w w' := by
  obtain ⟨i0, hi, hz0, hz1, hz2⟩ := info_parts infoWri
  have hr : ∀ ty, (Builtin.append_ #[23, 3] ty #[.slice none 0 0, .int .i64 n]).run Tryz.prog w =
      .ok (.slice (some ⟨w.heap.size, 0, none⟩) n (grownCap w n 0 71)) (w.drew.alloc (.cells (Builtin.zeroCells (Value.agg #[.int .i64 0, .slice none 0 0]).cells n ++ Builtin.zeroCells (Value.agg #[.int .i64 0, .slice none 0 0]).cells (grownCap w n 0 71 - n)) 71)) := fun ty =>
    Lib.run_append_nil_zeros w 23 3 ty 71 i0 (.agg #[.int .i64 0, .slice none 0 0]) .i64 .i64 Tryz.underlying23 Tryz.underlying3 hi hz0 n h0 (by omega) (by omega) (by rw [hz2]; omega)
  have hG1 : n ≤ grownCap w n 0 71 := grownCap_ge w _ _ _
  have hG2 : grownCap w n 0 71 ≤ maxLen := grownCap_le_maxLen w n 0 71 (by unfold maxLen; omega)
  obtain ⟨G, hG⟩ : ∃ G, grownCap w n 0 71 = G := ⟨_, rfl⟩
  rw [hG] at hr hG1 hG2
  obtain ⟨cs, hcs⟩ : ∃ cs, Builtin.zeroCells (Value.agg #[.int .i64 0, .slice none 0 0]).cells n ++ Builtin.zeroCells (Value.agg #[.int .i64 0, .slice none 0 0]).cells (G - n) = cs := ⟨_, rfl⟩
  have hsz : cs.size = G * 2 := by
    rw [← hcs]
    simp [Builtin.zeroCells, Value.cells]
    omega
  rw [hcs] at hr
  have z5 : ∀ w, (Go.sizeOf 71).run Tryz.prog w = .ok 2 w := fun w => by kernel_rfl
  have n1 : ¬ ((n : Int) < 0) := by omega
  have n2 : (0 : Int) < n := by omega
  have n3 : (n : Int) ≤ 1000000 := by omega
  have g0 : (G : Int) ≤ 9223372036854775807 := by unfold maxLen at hG2; omega
  have hown : (w.drew.alloc (.cells cs 71)).ownsRow w.heap.size 71 2 (.slice (some ⟨w.heap.size, 0, none⟩) 0 G) 0 [] :=
    ⟨rfl, .inr ⟨w.heap.size, G, cs, rfl, Nat.le_refl _, by have := heap_alloc_new w.drew (.cells cs 71); simpa using this, Nat.zero_le _, hG2, by omega, by simp⟩⟩
  have hrow : WRow (w.drew.alloc (.cells cs 71)) w.heap.size (.slice (some ⟨w.heap.size, 0, none⟩) 0 G) [] := ⟨[], hown, fun i h => absurd h (Nat.not_lt_zero _)⟩
  have hbel : Below w.heap.size w (w.drew.alloc (.cells cs 71)) := (Below.refl _ w).drew.alloc (by simp) _
  have HO := Lib.hid hrow; clear hown hrow
  have HB := Lib.hid hbel; clear hbel
  have HG2 := Lib.hid hG2; clear hG2
  clear hG hcs hsz hi hz0 hz1 hz2
  go_enter Tryz.func108, Tryz.ntmps108
  go_wp2_with (at_builtin; refine Lib.wpList_append_run _ rfl _ _ _ _ rfl _ _ rfl rfl _ _ (hr _) ?_)
  go_ret
  exact ⟨_, rfl, HO.out, HB.out⟩

/-- A slice of writes as it is handed in. -/
structure WPart where
  a : Option Addr
  len : Nat
  cap : Nat
  ws : WrL
def flatW (ps : List WPart) : WrL := ps.flatMap (·.ws)
theorem flatW_take_succ (ps : List WPart) (k : Nat) (h : k < ps.length) : flatW (ps.take (k + 1)) = flatW (ps.take k) ++ (ps[k]).ws := by
  unfold flatW
  rw [List.take_succ_eq_append_getElem h, List.flatMap_append]
  simp
theorem flatW_take_le (ps : List WPart) (k : Nat) : (flatW (ps.take k)).length ≤ (flatW ps).length := by
  have : flatW ps = flatW (ps.take k) ++ flatW (ps.drop k) := by
    unfold flatW
    rw [← List.flatMap_append, List.take_append_drop]
  rw [this, List.length_append]
  omega
/-- A row of the call's own that holds ws. -/
def WOwn (ws : WrL) (w : World) (e : Ending) (w' : World) : Prop := ∃ v, e = .returned v ∧ WRow w' w.heap.size v ws ∧ Below w.heap.size w w'
set_option maxHeartbeats 2000000 in
theorem dConcat_any (r c : Nat) (ps : List WPart) (w : World) (hr : r < w.heap.size) (hl : ps.length ≤ 1000)
    (hcell : ∀ i (h : i < ps.length), w.cell? ⟨r, i, none⟩ = some (.slice (ps[i]).a (ps[i]).len (ps[i]).cap)) (hb : ∀ i (h : i < ps.length), Wts w w.heap.size (ps[i]).a (ps[i]).len (ps[i]).cap (ps[i]).ws)
    (h0 : 0 < (flatW ps).length) (hm : (flatW ps).length ≤ 1000000) :
    Calls Tryz.prog 88 #[.slice (some ⟨r, 0, none⟩) ps.length c] w (WOwn (flatW ps) w) := by
  obtain ⟨n, hn⟩ : ∃ n, ps.length = n := ⟨_, rfl⟩
  have HN := Lib.hid hn
  rw [hn] at hl ⊢
  clear hn
  have n0 : (0 : Int) ≤ n := by omega
  have n1 : (n : Int) ≤ 1000 := by omega
  have HC := Lib.hid hcell; clear hcell
  have HB := Lib.hid hb; clear hb
  have HM := Lib.hid hm; clear hm
  have H0 := Lib.hid h0; clear h0
  go_enter Tryz.func88, Tryz.ntmps88
  go_wp2_with fail
  go_loop [3, 11] (fun z i => ∃ k : Nat, k ≤ n ∧ i = .int .i64 k ∧ z = .int .i64 ((flatW (ps.take k)).length : Nat)) (fun _ i => n - (intOf i).toNat)
  case atStart => exact ⟨0, Nat.zero_le _, rfl, rfl⟩
  case round =>
    obtain ⟨k, hk, rfl, rfl⟩ := hrel
    by_cases hlt : k < n
    · have hkp : k < ps.length := by rw [HN.out]; exact hlt
      have hce := HC.out k hkp
      have hbe := (HB.out k hkp).1
      have hsu := flatW_take_succ ps k hkp
      have hle := flatW_take_le ps (k + 1)
      rw [hsu, List.length_append, hbe] at hle
      have hsl : (flatW (ps.take (k + 1))).length = (flatW (ps.take k)).length + (ps[k]).len := by rw [hsu, List.length_append, hbe]
      obtain ⟨p, hp⟩ : ∃ p, ps[k] = p := ⟨_, rfl⟩
      rw [hp] at hce hle hsl
      obtain ⟨m, hm⟩ : ∃ m, (flatW (ps.take k)).length = m := ⟨_, rfl⟩
      rw [hm] at hle hsl ⊢
      obtain ⟨pa, pl, pc, pss⟩ := p
      dsimp only at hce hle hsl
      have hmm := HM.out
      have m0 : (0 : Int) ≤ (m : Int) := by omega
      have m1 : (m : Int) + (pl : Int) ≤ 1000000 := by omega
      have m2 : (0 : Int) ≤ (pl : Int) := by omega
      have m3 : ¬ ((m : Int) + (pl : Int) < 0) := by omega
      have k0 : (k : Int) < n := by omega
      have HSL := Lib.hid hsl; clear hsl
      clear hp hm hsu hbe hle hmm
      go_wp2_with fail
      go_round
      case rel => exact ⟨k + 1, by omega, by go_num, by rw [HSL.out]; go_num⟩
      case measure => simp [intOf]; omega
    · obtain rfl : k = n := by omega
      have ht : ps.take k = ps := List.take_of_length_le (by rw [HN.out]; exact Nat.le_refl _)
      rw [ht]
      obtain ⟨m, hm⟩ : ∃ m, (flatW ps).length = m := ⟨_, rfl⟩
      have gr := dGrow_any m (by rw [← hm]; exact H0.out) (by rw [← hm]; exact HM.out) w
      rw [hm]
      have GR := Lib.hid gr; clear gr
      clear hm ht
      go_wp2_with fail
      refine GR.out.mono ?_
      rintro e w1 ⟨v, rfl, ho, b1⟩
      have HO := Lib.hid ho; clear ho
      have HB1 := Lib.hid b1; clear b1
      go_wp2_with fail
      go_loopw [6, 27] (fun v i wr => ∃ j : Nat, j ≤ k ∧ i = .int .i64 j ∧ WRow wr w.heap.size v (flatW (ps.take j)) ∧ Below w.heap.size w wr) (fun _ i _ => k - (intOf i).toNat)
      case atStart => exact ⟨0, Nat.zero_le _, rfl, HO.out, HB1.out⟩
      case round =>
        obtain ⟨j, hj, rfl, ho2, hb2⟩ := hrel
        by_cases hlt2 : j < k
        · have hkp : j < ps.length := by rw [HN.out]; exact hlt2
          have hce := (hb2.cell (p := ⟨r, j, none⟩) hr).trans (HC.out j hkp)
          have hbs := (HB.out j hkp).below hb2
          have hbe := (HB.out j hkp).1
          have hsu := flatW_take_succ ps j hkp
          have hle := flatW_take_le ps (j + 1)
          rw [hsu, List.length_append, hbe] at hle
          obtain ⟨p, hp⟩ : ∃ p, ps[j] = p := ⟨_, rfl⟩
          rw [hp] at hce hle hsu hbs hbe
          obtain ⟨t, ht⟩ : ∃ t, flatW (ps.take j) = t := ⟨_, rfl⟩
          rw [ht] at hle hsu ho2
          obtain ⟨pa, pl, pc, pss⟩ := p
          dsimp only at hce hle hsu hbs hbe
          have hmm := HM.out
          have k0 : (j : Int) < k := by omega
          have hnm : t.length + pl ≤ 1000000 := by omega
          have HSU := Lib.hid hsu; clear hsu
          have HO2 := Lib.hid ho2; clear ho2
          have HB2 := Lib.hid hb2; clear hb2
          have HBS := Lib.hid hbs; clear hbs
          clear hp ht hle hmm hbe
          go_wp2_with (at_builtin; refine wpList_append_wrow rfl (.tmp 31) (.tmp 32) rfl w.heap.size u6 t rfl HO2.out w.heap.size pa pl pc pss rfl HBS.out (Nat.le_refl _) hnm HB2.out.size ?_; intro v' W3 hown' hg' hrow')
          have hb3 : Below w.heap.size w W3 := HB2.out.grown hg' HB2.out.size (fun k e => (hrow' k e).1)
          have HO3 := Lib.hid hown'; clear hown'
          have HB3 := Lib.hid hb3; clear hb3 hg' hrow'
          go_wp2_with fail
          go_roundw
          case rel => exact ⟨j + 1, by omega, by go_num, by rw [HSU.out]; exact HO3.out, HB3.out⟩
          case measure => simp [intOf]; omega
        · obtain rfl : j = k := by omega
          have ht : ps.take j = ps := List.take_of_length_le (by rw [HN.out]; exact Nat.le_refl _)
          rw [ht] at ho2
          have HO2 := Lib.hid ho2
          have HB2 := Lib.hid hb2; clear hb2
          clear ho2 ht
          go_wp2_with fail
          go_ret
          exact ⟨_, rfl, HO2.out, HB2.out⟩
end Go.Proofs.YtjdjbonljohnbaaGreatDoor
/-
  dev.Write: what it answers, whatever disk, place and bytes it is handed.
-/
namespace Go.Proofs.YtjdjbonljohnbaaGreatDoor
open Go.RowKit Go.Shelf
set_option maxRecDepth 100000

/-- A disk on which one more write waits. -/
def withD (D : DkL) (p : Int) (s : List UInt8) : DkL := (D.1, D.2 ++ [(p, s)])
def writeO (D : DkL) (p : Int) (s : List UInt8) : DkL × Int :=
  if MayD D then (if 0 ≤ p ∧ p < 256 then (if s.length = 256 then (if D.2.length = 4096 then (([], []), 9) else (withD D p s, 0)) else (([], []), 3)) else (([], []), 2)) else (([], []), 8)
theorem wr_with (ws : WrL) (p : Int) (s : List UInt8) : (∀ i, i < ws.length → wr_ (ws ++ [(p, s)]) i = wr_ ws i) ∧ wr_ (ws ++ [(p, s)]) ws.length = (p, s) := by
  unfold wr_
  refine ⟨fun i hi => ?_, ?_⟩
  · rw [List.getD_eq_getElem?_getD, List.getElem?_append_left hi, ← List.getD_eq_getElem?_getD]
  · rw [List.getD_eq_getElem?_getD, List.getElem?_append_right (Nat.le_refl _), Nat.sub_self]
    rfl
theorem with_may {D : DkL} {p : Int} {s : List UInt8} (h : MayD D) (hp : 0 ≤ p ∧ p < 256) (hs : s.length = 256) (hn : D.2.length ≠ 4096) : MayD (withD D p s) := by
  obtain ⟨h1, h2, h3⟩ := h
  obtain ⟨e1, e2⟩ := wr_with D.2 p s
  refine ⟨h1, by show (D.2 ++ [(p, s)]).length ≤ 4096; rw [List.length_append]; simp; omega, fun i hi => ?_⟩
  have hi' : i < D.2.length + 1 := by have : i < (D.2 ++ [(p, s)]).length := hi; rwa [List.length_append] at this
  show (0 ≤ (wr_ (D.2 ++ [(p, s)]) i).1 ∧ (wr_ (D.2 ++ [(p, s)]) i).1 < 256) ∧ (wr_ (D.2 ++ [(p, s)]) i).2.length = 256
  rcases Nat.lt_or_ge i D.2.length with h4 | h4
  · rw [e1 i h4]
    exact h3 i h4
  · obtain rfl : i = D.2.length := by omega
    rw [e2]
    exact ⟨hp, hs⟩
def WriteGoes (D : DkL) (p : Int) (s : List UInt8) : Prop := MayD D ∧ (0 ≤ p ∧ p < 256) ∧ s.length = 256 ∧ D.2.length ≠ 4096
/-- The ways that are refused. -/
theorem dWrite_no (x : DAt) (D : DkL) (p : Int) (a : Option Addr) (n c : Nat) (s : List UInt8) (w : World) (h : Dsk w w.heap.size x D) (hs : Bsl w w.heap.size a n c s) (hno : ¬ WriteGoes D p s) : Calls Tryz.prog 62 #[dval x D, .int .i64 p, .slice a n c] w (ToldD (writeO D p s) w) := by
  obtain ⟨w0, hw0, b0, z0, x0, x1⟩ := two_boxes w (.slice x.ba D.1.length x.bc) (.slice x.wa D.2.length x.wc)
  have h0 := h.step b0
  have c0 := x0.cell 0
  have c1 := x0.cell 1
  have HX0 := Lib.hid x0
  have HX1 := Lib.hid x1
  have HB := Lib.hid b0
  have hbk := dIsBlock_any p
  have hlg := dIsLong_any a n c
  have hsl := hs.1
  unfold writeO
  by_cases hm : MayD D
  · rw [if_pos hm]
    have HC := Lib.hid (dMay_yes x D _ h0 hm)
    simp only [dval] at HC ⊢
    by_cases hp : 0 ≤ p ∧ p < 256
    · rw [if_pos hp]
      simp only [decide_eq_true hp] at hbk
      have HBK := Lib.hid hbk
      by_cases hl : s.length = 256
      · have hf4 : D.2.length = 4096 := Classical.byContradiction fun hh => hno ⟨hm, hp, hl, hh⟩
        rw [if_pos hl, if_pos hf4]
        have hn : n = 256 := by omega
        simp only [decide_eq_true hn] at hlg
        have HLG := Lib.hid hlg
        rw [hf4] at hw0 HX0 c1 HC ⊢
        clear b0 h0 h hm x0 x1 z0 hbk hlg hno hp hl hsl hs hf4 hn
        go_enter Tryz.func62, Tryz.ntmps62
        go_wp2_with fail
        clear hw0 c0 c1
        refine HC.out.mono ?_
        rintro e w1 ⟨rfl, b1⟩
        have HX01 := Lib.hid (HX0.out.below b1 HX0.out.lt)
        have HY := Lib.hid (HX1.out.below b1 HX1.out.lt)
        have HB1 := Lib.hid (HB.out.trans (b1.mono HB.out.size))
        clear b1
        go_wp2_with fail
        refine (HBK.out _).mono ?_
        rintro e w1' ⟨rfl, rfl⟩
        go_wp2_with fail
        refine (HLG.out _).mono ?_
        rintro e w1' ⟨rfl, rfl⟩
        have c1 := HX01.out.cell 1
        have d0 := HY.out.cell 0
        have d1 := HY.out.cell 1
        have hf := fun i => HY.out.frozen i
        go_wp2_with fail
        clear c1
        have hBF := (HB1.out.setCell (p := ⟨w.heap.size + 1, 0, none⟩) (Nat.le_add_right _ _) (.slice none 0 0)).setCell (p := ⟨w.heap.size + 1, 1, none⟩) (Nat.le_add_right _ _) (.slice none 0 0)
        have hXF := (HY.out.set_ 0 (.slice none 0 0)).set_ 1 (.slice none 0 0)
        obtain ⟨wf, hwf⟩ : ∃ wf, ((w1.setCell ⟨w.heap.size + 1, 0, none⟩ (.slice none 0 0)).setCell ⟨w.heap.size + 1, 1, none⟩ (.slice none 0 0)) = wf := ⟨_, rfl⟩
        rw [hwf] at hBF hXF ⊢
        clear hwf d0 d1 hf
        have e0 := hXF.cell 0
        have e1 := hXF.cell 1
        exact bodyPost_ret (v := .tuple #[.agg #[.slice none 0 0, .slice none 0 0], .int .i64 9]) (by simp [results, Tryz.f62, go_sem, e0, e1]) rfl (toldD_no rfl hBF)
      · rw [if_neg hl]
        have hn : n ≠ 256 := by omega
        simp only [decide_eq_false hn] at hlg
        have HLG := Lib.hid hlg
        clear b0 h0 h hm x0 x1 z0 hbk hlg hno hp hl hsl hs hn
        go_enter Tryz.func62, Tryz.ntmps62
        go_wp2_with fail
        clear hw0 c0 c1
        refine HC.out.mono ?_
        rintro e w1 ⟨rfl, b1⟩
        have HX01 := Lib.hid (HX0.out.below b1 HX0.out.lt)
        have HY := Lib.hid (HX1.out.below b1 HX1.out.lt)
        have HB1 := Lib.hid (HB.out.trans (b1.mono HB.out.size))
        clear b1
        go_wp2_with fail
        refine (HBK.out _).mono ?_
        rintro e w1' ⟨rfl, rfl⟩
        go_wp2_with fail
        refine (HLG.out _).mono ?_
        rintro e w1' ⟨rfl, rfl⟩
        have c1 := HX01.out.cell 1
        have d0 := HY.out.cell 0
        have d1 := HY.out.cell 1
        have hf := fun i => HY.out.frozen i
        go_wp2_with fail
        clear c1
        have hBF := (HB1.out.setCell (p := ⟨w.heap.size + 1, 0, none⟩) (Nat.le_add_right _ _) (.slice none 0 0)).setCell (p := ⟨w.heap.size + 1, 1, none⟩) (Nat.le_add_right _ _) (.slice none 0 0)
        have hXF := (HY.out.set_ 0 (.slice none 0 0)).set_ 1 (.slice none 0 0)
        obtain ⟨wf, hwf⟩ : ∃ wf, ((w1.setCell ⟨w.heap.size + 1, 0, none⟩ (.slice none 0 0)).setCell ⟨w.heap.size + 1, 1, none⟩ (.slice none 0 0)) = wf := ⟨_, rfl⟩
        rw [hwf] at hBF hXF ⊢
        clear hwf d0 d1 hf
        have e0 := hXF.cell 0
        have e1 := hXF.cell 1
        exact bodyPost_ret (v := .tuple #[.agg #[.slice none 0 0, .slice none 0 0], .int .i64 3]) (by simp [results, Tryz.f62, go_sem, e0, e1]) rfl (toldD_no rfl hBF)
    · rw [if_neg hp]
      simp only [decide_eq_false hp] at hbk
      have HBK := Lib.hid hbk
      clear b0 h0 h hm x0 x1 z0 hbk hlg hno hp hsl hs
      go_enter Tryz.func62, Tryz.ntmps62
      go_wp2_with fail
      clear hw0 c0 c1
      refine HC.out.mono ?_
      rintro e w1 ⟨rfl, b1⟩
      have HX01 := Lib.hid (HX0.out.below b1 HX0.out.lt)
      have HY := Lib.hid (HX1.out.below b1 HX1.out.lt)
      have HB1 := Lib.hid (HB.out.trans (b1.mono HB.out.size))
      clear b1
      go_wp2_with fail
      refine (HBK.out _).mono ?_
      rintro e w1' ⟨rfl, rfl⟩
      have c1 := HX01.out.cell 1
      have d0 := HY.out.cell 0
      have d1 := HY.out.cell 1
      have hf := fun i => HY.out.frozen i
      go_wp2_with fail
      clear c1
      have hBF := (HB1.out.setCell (p := ⟨w.heap.size + 1, 0, none⟩) (Nat.le_add_right _ _) (.slice none 0 0)).setCell (p := ⟨w.heap.size + 1, 1, none⟩) (Nat.le_add_right _ _) (.slice none 0 0)
      have hXF := (HY.out.set_ 0 (.slice none 0 0)).set_ 1 (.slice none 0 0)
      obtain ⟨wf, hwf⟩ : ∃ wf, ((w1.setCell ⟨w.heap.size + 1, 0, none⟩ (.slice none 0 0)).setCell ⟨w.heap.size + 1, 1, none⟩ (.slice none 0 0)) = wf := ⟨_, rfl⟩
      rw [hwf] at hBF hXF ⊢
      clear hwf d0 d1 hf
      have e0 := hXF.cell 0
      have e1 := hXF.cell 1
      exact bodyPost_ret (v := .tuple #[.agg #[.slice none 0 0, .slice none 0 0], .int .i64 2]) (by simp [results, Tryz.f62, go_sem, e0, e1]) rfl (toldD_no rfl hBF)
  · rw [if_neg hm]
    have HC := Lib.hid (dMay_no x D _ h0 hm)
    simp only [dval] at HC ⊢
    clear b0 h0 h hm x0 x1 z0 hbk hlg hno hsl hs
    go_enter Tryz.func62, Tryz.ntmps62
    go_wp2_with fail
    clear hw0 c0 c1
    refine HC.out.mono ?_
    rintro e w1 ⟨rfl, b1⟩
    have HX01 := Lib.hid (HX0.out.below b1 HX0.out.lt)
    have HY := Lib.hid (HX1.out.below b1 HX1.out.lt)
    have HB1 := Lib.hid (HB.out.trans (b1.mono HB.out.size))
    clear b1
    have c1 := HX01.out.cell 1
    have d0 := HY.out.cell 0
    have d1 := HY.out.cell 1
    have hf := fun i => HY.out.frozen i
    go_wp2_with fail
    clear c1
    have hBF := (HB1.out.setCell (p := ⟨w.heap.size + 1, 0, none⟩) (Nat.le_add_right _ _) (.slice none 0 0)).setCell (p := ⟨w.heap.size + 1, 1, none⟩) (Nat.le_add_right _ _) (.slice none 0 0)
    have hXF := (HY.out.set_ 0 (.slice none 0 0)).set_ 1 (.slice none 0 0)
    obtain ⟨wf, hwf⟩ : ∃ wf, ((w1.setCell ⟨w.heap.size + 1, 0, none⟩ (.slice none 0 0)).setCell ⟨w.heap.size + 1, 1, none⟩ (.slice none 0 0)) = wf := ⟨_, rfl⟩
    rw [hwf] at hBF hXF ⊢
    clear hwf d0 d1 hf
    have e0 := hXF.cell 0
    have e1 := hXF.cell 1
    exact bodyPost_ret (v := .tuple #[.agg #[.slice none 0 0, .slice none 0 0], .int .i64 8]) (by simp [results, Tryz.f62, go_sem, e0, e1]) rfl (toldD_no rfl hBF)
set_option maxHeartbeats 4000000 in
theorem dWrite_yes (x : DAt) (D : DkL) (p : Int) (a : Option Addr) (c : Nat) (s : List UInt8) (w : World) (h : Dsk w w.heap.size x D) (hs : Bsl w w.heap.size a 256 c s) (hm : MayD D) (hp : 0 ≤ p ∧ p < 256) (hn : D.2.length ≠ 4096) : Calls Tryz.prog 62 #[dval x D, .int .i64 p, .slice a 256 c] w (ToldD (withD D p s, 0) w) := by
  obtain ⟨w0, hw0, b0, z0, x0, x1⟩ := two_boxes w (.slice x.ba D.1.length x.bc) (.slice x.wa D.2.length x.wc)
  have h0 := h.step b0
  have c0 := x0.cell 0
  have c1 := x0.cell 1
  have HX0 := Lib.hid x0
  have HX1 := Lib.hid x1
  have HB := Lib.hid b0
  have HZ := Lib.hid z0
  have HD := Lib.hid h0
  have HS0 := Lib.hid (hs.step b0)
  have HC := Lib.hid (dMay_yes x D _ h0 hm)
  have hbk := dIsBlock_any p
  simp only [decide_eq_true hp] at hbk
  have HBK := Lib.hid hbk
  have hlg := dIsLong_any a 256 c
  have HLG : Hid (∀ W, Calls Tryz.prog 87 #[.slice a 256 c] W fun e w' => e = .returned (.bool true) ∧ W = w') := Lib.hid hlg
  have HM := Lib.hid hm
  have HF := Lib.hid (may_fits (with_may hm hp hs.1 hn))
  obtain ⟨m, hm2⟩ : ∃ m, D.2.length = m := ⟨_, rfl⟩
  have m0 : m < 4096 := by have := hm.2.1; omega
  have m1 : ((m : Int) == 4096) = false := by simp; omega
  have HM2 := Lib.hid hm2
  have HP := Lib.hid hp
  simp only [dval] at HC ⊢
  rw [hm2] at HX0 hw0 c1 HC ⊢
  clear b0 h0 h hm x0 x1 z0 hbk hlg hs hn hp
  go_enter Tryz.func62, Tryz.ntmps62
  go_wp2_with fail
  clear hw0 c0 c1 hm2
  refine HC.out.mono ?_
  rintro e w1 ⟨rfl, b1⟩
  have x01 := HX0.out.below b1 HX0.out.lt
  have c0 := x01.cell 0
  have c1 := x01.cell 1
  have HX01 := Lib.hid x01
  have HX11 := Lib.hid (HX1.out.below b1 HX1.out.lt)
  have HB1 := Lib.hid (HB.out.trans (b1.mono HB.out.size))
  have HZ1 := Lib.hid (show w.heap.size + 2 ≤ w1.heap.size by have := b1.size; have := HZ.out; omega)
  have HD1 := Lib.hid (HD.out.step b1)
  have HS1 := Lib.hid (HS0.out.step b1)
  clear b1 x01 HX0 HX1 HB HD HS0
  go_wp2_with fail
  refine (HBK.out _).mono ?_
  rintro e w1' ⟨rfl, rfl⟩
  go_wp2_with fail
  refine (HLG.out _).mono ?_
  rintro e w1' ⟨rfl, rfl⟩
  go_wp2_with fail
  have hsz := HZ1.out
  have hD1 := HD1.out
  have hS1 := HS1.out
  have hp := HP.out
  obtain ⟨g1, hg1⟩ : ∃ g, w1.heap.size = g := ⟨_, rfl⟩
  obtain ⟨w2, hw2⟩ : ∃ w2, (w1.alloc (.cells #[.int .i64 p, .slice a 256 c] 71)).alloc (.cells #[.slice x.wa m x.wc, .slice (some ⟨g1, 0, none⟩) 1 1] 23) = w2 := ⟨_, rfl⟩
  have b2 : Below w1.heap.size w1 w2 := by rw [← hw2]; exact ((Below.refl _ w1).alloc (Nat.le_refl _) _).alloc (by simp) _
  have y1 : Blk w2 g1 71 #[.int .i64 p, .slice a 256 c] := by rw [← hw2, ← hg1]; exact (Blk.new w1 _ _).alloc _
  have y2 : Blk w2 (g1 + 1) 23 #[.slice x.wa m x.wc, .slice (some ⟨g1, 0, none⟩) 1 1] := by
    have := Blk.new (w1.alloc (.cells #[.int .i64 p, .slice a 256 c] 71)) 23 #[.slice x.wa m x.wc, .slice (some ⟨g1, 0, none⟩) 1 1]
    rw [World.size_alloc, hg1, hw2] at this
    exact this
  have hD2 := hD1.step b2
  have hS2 := hS1.step b2
  have hone : Wts w2 w2.heap.size (some ⟨g1, 0, none⟩) 1 1 [(p, s)] := by
    refine ⟨rfl, Nat.le_refl _, by unfold maxLen; omega, fun _ => ⟨g1, 0, rfl, y1.lt, fun i hi => ?_⟩⟩
    obtain rfl : i = 0 := by omega
    have hsl := hS2.1
    refine ⟨wf64 (p := p) (by omega) (by omega), y1.cell 0, a, c, ?_, ?_⟩
    · show w2.cell? ⟨g1, 1, none⟩ = some (.slice a s.length c)
      rw [hsl]
      exact y1.cell 1
    · show Bsl w2 _ a s.length c s
      rw [hsl]
      exact hS2
  have hcon := dConcat_any (g1 + 1) 2 [⟨x.wa, m, x.wc, D.2⟩, ⟨some ⟨g1, 0, none⟩, 1, 1, [(p, s)]⟩] w2 y2.lt (by simp) (fun i hi => by
    have : i = 0 ∨ i = 1 := by simp at hi; omega
    rcases this with rfl | rfl
    · exact y2.cell 0
    · exact y2.cell 1) (fun i hi => by
    have : i = 0 ∨ i = 1 := by simp at hi; omega
    rcases this with rfl | rfl
    · show Wts w2 w2.heap.size x.wa m x.wc D.2
      rw [← HM2.out]
      exact hD2.2
    · exact hone) (by simp [flatW]) (by simp [flatW, HM2.out]; omega)
  have hfl : flatW [⟨x.wa, m, x.wc, D.2⟩, ⟨some ⟨g1, 0, none⟩, 1, 1, [(p, s)]⟩] = D.2 ++ [(p, s)] := by simp [flatW]
  rw [hfl] at hcon
  have HCON := Lib.hid hcon
  have HX02 := Lib.hid (HX01.out.below b2 HX01.out.lt)
  have HX12 := Lib.hid (HX11.out.below b2 HX11.out.lt)
  have HB2 := Lib.hid (HB1.out.trans (b2.mono (by omega)))
  have HZ2 := Lib.hid (show w.heap.size + 2 ≤ w2.heap.size by have := b2.size; omega)
  have HD2 := Lib.hid hD2
  rw [hg1, hw2]
  clear hsz hD1 hS1 hp hg1 hw2 b2 y1 y2 hD2 hS2 hone hcon hfl HB1 HZ1 HD1 HS1 HX01 HX11 c0 c1
  refine HCON.out.mono ?_
  rintro e w3 ⟨v, rfl, hrow, b3⟩
  obtain ⟨wa3, wc3, rfl, hwts⟩ := hrow.wts
  have x03 := HX02.out.below b3 HX02.out.lt
  have c0 := x03.cell 0
  have c1 := x03.cell 1
  have hla := dLaid_any ⟨x.ba, x.bc, wa3, wc3⟩ (withD D p s) w3 ⟨(HD2.out.step b3).1, hwts⟩ HF.out
  have hw1 : (withD D p s).1 = D.1 := rfl
  have hw2 : (withD D p s).2 = D.2 ++ [(p, s)] := rfl
  simp only [hw1, hw2] at hla
  obtain ⟨L, hL⟩ : ∃ L, (D.2 ++ [(p, s)]).length = L := ⟨_, rfl⟩
  rw [hL] at hla ⊢
  have HLA := Lib.hid hla
  have HX2 := Lib.hid (HX12.out.below b3 HX12.out.lt)
  have HB1 := Lib.hid (HB2.out.trans (b3.mono HB2.out.size))
  have HZ1 := Lib.hid (show w.heap.size + 2 ≤ w3.heap.size by have := b3.size; have := HZ2.out; omega)
  have HW2 := Lib.hid (show (withD D p s).2.length = L from hL)
  clear hrow b3 hwts x03 hla hw1 hw2 hL HCON HX02 HX12 HB2 HZ2 HD2
  go_wp2_with fail
  refine HLA.out.mono ?_
  rintro e w4 ⟨x2, rfl, h2, b2⟩
  clear c0 c1
  have y2 := HX2.out.below b2 HX2.out.lt
  have d0 := y2.cell 0
  have d1 := y2.cell 1
  have hf := fun i => y2.frozen i
  have hz := HZ1.out
  have HK := Lib.hid (fun (u v : Value) => laid_far (g := w.heap.size + 1) (lo' := w.heap.size) h2 (by omega) (by omega) u v)
  have HBF := Lib.hid (fun (u v : Value) => ((HB1.out.trans (b2.mono (by omega))).setCell (p := ⟨w.heap.size + 1, 0, none⟩) (Nat.le_add_right _ _) u).setCell (p := ⟨w.heap.size + 1, 1, none⟩) (Nat.le_add_right _ _) v)
  have HXF := Lib.hid (fun (u v : Value) => (y2.set_ 0 u).set_ 1 v)
  obtain ⟨K, hK⟩ : ∃ K, withD D p s = K := ⟨_, rfl⟩
  rw [hK] at HK ⊢
  have HK0 := Lib.hid hK
  obtain ⟨ba2, bc2, wa2, wc2⟩ := x2
  clear h2 b2 y2 hz hK
  simp only [dval]
  go_wp2_with fail
  have hKD := HK.out (.slice ba2 K.1.length bc2) (.slice wa2 K.2.length wc2)
  have hBF := HBF.out (.slice ba2 K.1.length bc2) (.slice wa2 K.2.length wc2)
  have hXF := HXF.out (.slice ba2 K.1.length bc2) (.slice wa2 K.2.length wc2)
  obtain ⟨wf, hwf⟩ : ∃ wf, ((w4.setCell ⟨w.heap.size + 1, 0, none⟩ (.slice ba2 K.1.length bc2)).setCell ⟨w.heap.size + 1, 1, none⟩ (.slice wa2 K.2.length wc2)) = wf := ⟨_, rfl⟩
  rw [hwf] at hKD hBF hXF ⊢
  clear hwf d0 d1 hf
  have e0 := hXF.cell 0
  have e1 := hXF.cell 1
  refine bodyPost_ret (v := .tuple #[dval ⟨ba2, bc2, wa2, wc2⟩ K, .int .i64 0]) (by simp [results, Tryz.f62, go_sem, e0, e1, dval]) rfl ?_
  exact ⟨⟨ba2, bc2, wa2, wc2⟩, by rw [HK0.out], .inr (by rw [HK0.out]; exact hKD), hBF⟩
theorem dWrite_any (x : DAt) (D : DkL) (p : Int) (a : Option Addr) (n c : Nat) (s : List UInt8) (w : World) (h : Dsk w w.heap.size x D) (hs : Bsl w w.heap.size a n c s) : Calls Tryz.prog 62 #[dval x D, .int .i64 p, .slice a n c] w (ToldD (writeO D p s) w) := by
  by_cases hy : WriteGoes D p s
  · obtain ⟨h1, h2, h3, h4⟩ := hy
    rw [writeO, if_pos h1, if_pos h2, if_pos h3, if_neg h4]
    obtain rfl : n = 256 := by rw [← hs.1]; exact h3
    exact dWrite_yes x D p a c s w h hs h1 h2 h4
  · exact dWrite_no x D p a n c s w h hs hy
end Go.Proofs.YtjdjbonljohnbaaGreatDoor
/-
  The document's own With for layer 9, with the rows that it makes.
-/
namespace Go.Proofs.YtjdjbonljohnbaaGreatDoor
open Go.RowKit Go.Shelf
set_option maxRecDepth 100000

/-- A disk whose rows are rows: it stays where boxes of disks are written. -/
def DskR (w : World) (x : DAt) (D : DkL) : Prop := ∃ b1 b2, BRowC w 0 b1 (.slice x.ba D.1.length x.bc) D.1 ∧ WRowC w 0 b2 (.slice x.wa D.2.length x.wc) D.2
theorem DskR.dsk {w : World} {x : DAt} {D : DkL} (h : DskR w x D) : Dsk w w.heap.size x D := by
  obtain ⟨b1, b2, h1, h2⟩ := h
  exact rows_dsk h1 h2
theorem DskR.below {w w' : World} {x : DAt} {D : DkL} (h : DskR w x D) (hb : Below w.heap.size w w') : DskR w' x D := by
  obtain ⟨b1, b2, h1, h2⟩ := h
  exact ⟨b1, b2, h1.below hb, h2.below hb⟩
def RPost (D : DkL) (w : World) (e : Ending) (w' : World) : Prop := ∃ x', e = .returned (dval x' D) ∧ DskR w' x' D ∧ Below w.heap.size w w'
set_option maxHeartbeats 4000000 in
theorem rdWithR_any (x : DAt) (D : DkL) (p : Int) (a : Option Addr) (n c : Nat) (s : List UInt8) (w : World) (h : Dsk w w.heap.size x D) (hf : Fits D) (hp : (Lit.int .i64 p).wf = true) (hs : Bsl w w.heap.size a n c s) (hn : n ≤ 1000000) (hq : D.2.length ≤ 5000) :
    Calls Tryz.prog 67 #[dval x D, .int .i64 p, .slice a n c] w (RPost (withD D p s) w) := by
  have hmx : Tryz.prog.follows Departure.mixedOrders = true := by kernel_rfl
  obtain ⟨w0, hw0, b0, z0, x0, x1⟩ := two_boxes w (.slice x.ba D.1.length x.bc) (.slice x.wa D.2.length x.wc)
  obtain ⟨B, hB⟩ : ∃ B, w.heap.size = B := ⟨_, rfl⟩
  have h0 := h.step b0
  have hs0 := hs.step b0
  have c0 := x0.cell 0
  have c1 := x0.cell 1
  have ht := rdTwin_any x D w0 h0 hf
  rw [hB] at x0 x1 z0 b0 c0 c1
  simp only [dval] at ht ⊢
  have HT := Lib.hid ht
  have HX0 := Lib.hid x0
  have HX1 := Lib.hid x1
  have HB := Lib.hid b0
  have HZ := Lib.hid z0
  have HBB := Lib.hid hB
  have HS := Lib.hid hs0
  have HP := Lib.hid hp
  have HQ := Lib.hid hq
  clear ht x0 x1 b0 z0 h0 hs0 h hf hp hs hq
  go_enter Tryz.func67, Tryz.ntmps67
  go_wp2_with fail
  clear hw0 hB c0 c1
  refine HT.out.mono ?_
  rintro e w1 ⟨x', rfl, ht, b1⟩
  have hb1 := ht.brow 0
  have hw1 := ht.wrow 0
  obtain ⟨hb, hw, rfl, hle1, hle2, _⟩ := ht
  simp only [dval] at hb1 hw1 ⊢
  go_wp2_with fail
  have hls : n = s.length := HS.out.1.symm
  subst hls
  obtain ⟨gd, hgd⟩ : ∃ gd, w1.heap.size = gd := ⟨_, rfl⟩
  obtain ⟨w2, hw2⟩ : ∃ w2, w1.alloc (.cells #[.slice (some ⟨hb, 0, none⟩) D.1.length D.1.length, .slice (some ⟨hw, 0, none⟩) D.2.length D.2.length] 25) = w2 := ⟨_, rfl⟩
  obtain ⟨wd, hwd⟩ : ∃ wd, w2.drew = wd := ⟨_, rfl⟩
  have b2 : Below w1.heap.size w1 w2 := by rw [← hw2]; exact (Below.refl _ _).alloc (Nat.le_refl _) _
  have bd : Below w2.heap.size w2 wd := by rw [← hwd]; exact (Below.refl _ w2).drew
  have b12 : Below w1.heap.size w1 wd := b2.trans (bd.mono b2.size)
  have x2 : Blk wd gd 25 #[.slice (some ⟨hb, 0, none⟩) D.1.length D.1.length, .slice (some ⟨hw, 0, none⟩) D.2.length D.2.length] := by
    have := Blk.new w1 25 #[.slice (some ⟨hb, 0, none⟩) D.1.length D.1.length, .slice (some ⟨hw, 0, none⟩) D.2.length D.2.length]
    rw [hw2, hgd] at this
    exact this.below bd this.lt
  have y1 := HX1.out.below b1 HX1.out.lt
  have hzz := HZ.out
  have hgB : B + 2 ≤ gd := by have := b1.size; omega
  have y1d := y1.below b12 y1.lt
  have HBR := Lib.hid (hb1.below b12)
  have HWR := Lib.hid (hw1.below b12)
  have b0d : Below w0.heap.size w0 wd := b1.trans (b12.mono b1.size)
  have HSd := Lib.hid (HS.out.step b0d)
  have HBd := Lib.hid (HB.out.trans (b0d.mono (by omega)))
  have HY := Lib.hid y1d
  have HG := Lib.hid x2
  have HGB := Lib.hid hgB
  have HSZ := Lib.hid (show w0.heap.size ≤ wd.heap.size from b0d.size)
  rw [hgd, hw2]
  clear hw2 hgd b2 bd b12 y1 y1d b0d hb1 hw1 hzz b1
  have g1 := x2.cell 1
  have C0 := fun X (hX : Below wd.heap.size wd X) => (hX.cell (p := ⟨gd, 1, none⟩) (World.block_lt_of_cell? wd _ g1)).trans g1
  have hS : Below wd.heap.size wd wd := Below.refl _ _
  clear x2 g1
  go_wp2_with fail
  refine wpS_start [0, 1, 2, 3, 4, 5, 6, 7, 8, 9] hmx rfl hwd ?_
  clear hwd
  iterate 4 (
    refine wpS_read (v := ?_) rfl (by kernel_rfl) (by kernel_rfl) (by kernel_rfl) (fun _ _ _ h => h) (.inl ⟨by rfl, ?_⟩) ?_
    rotate_left
    · intro X hX
      have hXa := C0 X (hX _ hS)
      clear hX
      go_simp
      with_reducible rfl
    try simp only [Act.put, List.setIfInBounds_toArray, List.set_cons_zero, List.set_cons_succ])
  clear C0 hS
  refine wpS_append_new rfl (by kernel_rfl) rfl (.const (.slice none 0 0)) (.tmp 13) rfl rfl _ a s.length c s rfl HSd.out (by omega) ?_
  intro v3 w3 ho3 b3
  obtain ⟨A3, c3, rfl⟩ := own_slice ho3
  have hA0 : Below w3.heap.size w3 (w3.alloc (.cells #[.int .i64 p, .slice A3 s.length c3] 71)) := (Below.refl _ _).alloc (Nat.le_refl _) _
  have b34 : Below wd.heap.size wd (w3.alloc (.cells #[.int .i64 p, .slice A3 s.length c3] 71)) := b3.trans (hA0.mono b3.size)
  have HN4 := Lib.hid (Blk.new w3 71 #[.int .i64 p, .slice A3 s.length c3])
  have HO4 := Lib.hid ((BslO.own ho3 0).below hA0)
  have HBR4 := Lib.hid (HBR.out.below b34)
  have HWR4 := Lib.hid (HWR.out.below b34)
  have HY4 := Lib.hid (HY.out.below b34 HY.out.lt)
  have HG4 := Lib.hid (HG.out.below b34 HG.out.lt)
  have HB4 := Lib.hid (HBd.out.trans (b34.mono (by have := HBd.out.size; have := HBB.out; omega)))
  have HSZ4 := Lib.hid (Nat.le_trans HSZ.out b34.size)
  have HST := Lib.hid (Stays.of_below hA0)
  clear b3 ho3 hA0 b34 HBR HWR HY HG HBd HSd
  try simp only [Act.put, List.setIfInBounds_toArray, List.set_cons_zero, List.set_cons_succ]
  refine wpS_read (v := ?_) rfl (by kernel_rfl) (by kernel_rfl) (by kernel_rfl) (fun _ _ _ h => h) (.inl ⟨by rfl, ?_⟩) ?_
  rotate_left
  · intro X hX
    clear hX
    go_simp
    with_reducible rfl
  try simp only [Act.put, List.setIfInBounds_toArray, List.set_cons_zero, List.set_cons_succ]
  refine wpS_lone rfl (by kernel_rfl) (fun K hK => ?_)
  go_simp
  refine hK _ _ HST.out ?_
  clear hK K HST
  try simp only [Act.put, List.setIfInBounds_toArray, List.set_cons_zero, List.set_cons_succ]
  obtain ⟨w4, hw4⟩ : ∃ w4, w3.alloc (.cells #[.int .i64 p, .slice A3 s.length c3] 71) = w4 := ⟨_, rfl⟩
  rw [hw4] at HN4 HO4 HBR4 HWR4 HY4 HG4 HB4 HSZ4 ⊢
  clear hw4
  refine wpS_append_wrow rfl (by kernel_rfl) (by kernel_rfl) rfl (.tmp 11) (.tmp 16) rfl w0.heap.size (Nat.zero_le _) (.slice (some ⟨hw, 0, none⟩) D.2.length D.2.length) D.2 rfl HWR4.out [.int .i64 p, .slice A3 s.length c3] [(p, s)] ⟨w3.heap.size, 0, none⟩ 1 1 rfl rfl rfl (fun j u hu => ?_) (fun i hi => ?_) (by have := HQ.out; omega) HSZ4.out ?_
  · rcases j with _ | _ | j
    · cases hu
      have := HN4.out.cell 0
      simpa [Addr.add] using this
    · cases hu
      have := HN4.out.cell 1
      simpa [Addr.add] using this
    · simp at hu
  · obtain rfl : i = 0 := by simp at hi; exact hi
    exact ⟨HP.out, rfl, A3, c3, rfl, HO4.out⟩
  intro v5 w5 hr5 hg5 hty
  have hne : ∀ g t cs, Blk w4 g t cs → t ≠ 71 → w5.heap[g]? = w4.heap[g]? := fun g t cs hx ht => hg5.block g hx.lt fun e => by
    obtain ⟨_, t', cs', h1, h2⟩ := hty g e.symm
    exact hx.ne h1 (by rw [h2]; exact ht) rfl
  have hG5 : Blk w5 gd 25 #[.slice (some ⟨hb, 0, none⟩) D.1.length D.1.length, .slice (some ⟨hw, 0, none⟩) D.2.length D.2.length] := (hne _ _ _ HG4.out (by decide)).trans HG4.out
  have hY5 : Blk w5 (B + 1) 25 #[.slice none 0 0, .slice none 0 0] := (hne _ _ _ HY4.out (by decide)).trans HY4.out
  obtain ⟨tw, cw, hcw, htw⟩ : ∃ t cs, Blk w4 hw t cs ∧ t = 71 := (hty hw rfl).2
  have hBR5 := HBR4.out.row hg5 (Nat.zero_le _) hcw (by rw [htw]; decide) (by rw [htw]; decide)
  have hB5 : Below B w w5 := HB4.out.grown hg5 (by have := HB4.out.size; have := HBB.out; omega) (fun g e => by have := (hty g e).1; have := HZ.out; omega)
  obtain ⟨A5, c5, rfl, _⟩ := hr5.wts
  have hlw : (D.2 ++ [(p, s)]).length = D.2.length + 1 := by simp
  rw [hlw] at hr5 ⊢
  have gs : w5.grownBy (w5.setCell ⟨gd, 1, none⟩ (.slice A5 (D.2.length + 1) c5)) (some gd) := only_setCell (World.grownBy.refl w5 _) (.inl rfl) _
  have hBRF := hBR5.row gs (Nat.zero_le _) hG5 (by decide) (by decide)
  have hWRF := hr5.row gs (Nat.zero_le _) hG5 (by decide) (by decide)
  have HBRF := Lib.hid hBRF
  have HWRF := Lib.hid hWRF
  have HGF := Lib.hid (hG5.set_ 1 (.slice A5 (D.2.length + 1) c5))
  have HYF := Lib.hid (hY5.far (p := ⟨gd, 1, none⟩) (by show B + 1 ≠ gd; have := HGB.out; omega) (.slice A5 (D.2.length + 1) c5))
  have HBF := Lib.hid (hB5.setCell (p := ⟨gd, 1, none⟩) (by show B ≤ gd; have := HGB.out; omega) (.slice A5 (D.2.length + 1) c5))
  have hu3 := hG5.cell 1
  have hf3 := hG5.frozen 1
  clear hne hG5 hY5 hcw htw hBR5 hB5 hr5 gs hBRF hWRF hg5 hty HB4 HBR4 HWR4 HY4 HG4 HN4 HO4
  try simp only [Act.put, List.setIfInBounds_toArray, List.set_cons_zero, List.set_cons_succ]
  refine wpS_read (v := ?_) rfl (by kernel_rfl) (by kernel_rfl) (by kernel_rfl) (fun _ _ _ h => h) (.inl ⟨by rfl, ?_⟩) ?_
  rotate_left
  · intro X hX
    clear hX
    go_simp
    with_reducible rfl
  try simp only [Act.put, List.setIfInBounds_toArray, List.set_cons_zero, List.set_cons_succ]
  refine wpS_last rfl (by kernel_rfl) (by kernel_rfl) (fun K hK => ?_)
  go_simp
  refine hK _ _ ?_
  clear hK K hu3 hf3
  try simp only [Act.put, List.setIfInBounds_toArray, List.set_cons_zero, List.set_cons_succ]
  refine wpS_done (by kernel_rfl) ?_
  obtain ⟨w6, hw6⟩ : ∃ w6, w5.setCell ⟨gd, 1, none⟩ (.slice A5 (D.2.length + 1) c5) = w6 := ⟨_, rfl⟩
  rw [hw6] at HBRF HWRF HGF HYF HBF ⊢
  clear hw6
  have t0 := HGF.out.cell 0
  have t1 := HGF.out.cell 1
  have d0 := HYF.out.cell 0
  have d1 := HYF.out.cell 1
  have hf0 := HYF.out.frozen 0
  have hf1 := HYF.out.frozen 1
  simp at t0 t1
  go_wp2_with fail
  have gs := only_two w6 (B + 1) (.slice (some ⟨hb, 0, none⟩) D.1.length D.1.length) (.slice A5 (D.2.length + 1) c5)
  have hBRE := HBRF.out.row gs (Nat.zero_le _) HYF.out (by decide) (by decide)
  have hWRE := HWRF.out.row gs (Nat.zero_le _) HYF.out (by decide) (by decide)
  have hBE := (HBF.out.setCell (p := ⟨B + 1, 0, none⟩) (Nat.le_succ _) (.slice (some ⟨hb, 0, none⟩) D.1.length D.1.length)).setCell (p := ⟨B + 1, 1, none⟩) (Nat.le_succ _) (.slice A5 (D.2.length + 1) c5)
  have hXF := (HYF.out.set_ 0 (.slice (some ⟨hb, 0, none⟩) D.1.length D.1.length)).set_ 1 (.slice A5 (D.2.length + 1) c5)
  obtain ⟨wf, hwf⟩ : ∃ wf, ((w6.setCell ⟨B + 1, 0, none⟩ (.slice (some ⟨hb, 0, none⟩) D.1.length D.1.length)).setCell ⟨B + 1, 1, none⟩ (.slice A5 (D.2.length + 1) c5)) = wf := ⟨_, rfl⟩
  rw [hwf] at hBRE hWRE hBE hXF ⊢
  clear hwf t0 t1 d0 d1 hf0 hf1 gs HBRF HWRF HBF HYF HGF
  have e0 := hXF.cell 0
  have e1 := hXF.cell 1
  refine bodyPost_ret (v := .agg #[.slice (some ⟨hb, 0, none⟩) D.1.length D.1.length, .slice A5 (D.2.length + 1) c5]) (by simp [results, Tryz.f67, go_sem, e0, e1]) rfl ?_
  refine ⟨⟨some ⟨hb, 0, none⟩, D.1.length, A5, c5⟩, ?_, ⟨_, _, hBRE, (by show WRowC wf 0 _ (.slice A5 (D.2 ++ [(p, s)]).length c5) (D.2 ++ [(p, s)]); rw [hlw]; exact hWRE)⟩, by rw [HBB.out]; exact hBE⟩
  show _ = Ending.returned (.agg #[.slice (some ⟨hb, 0, none⟩) D.1.length D.1.length, .slice A5 (D.2 ++ [(p, s)]).length c5])
  rw [hlw]
end Go.Proofs.YtjdjbonljohnbaaGreatDoor
/-
  A range over a function that has no end of its own: it goes on until the body leaves it. What the iterator tells of each value and of the world is handed to the body; a bound on the rounds comes from the caller.
-/
namespace Go.Proofs.YtjdjbonljohnbaaGreatDoor
open Go Go.RowKit
set_option maxRecDepth 100000

/-- Cells at or behind block B stay. -/
def CellsFrom (B : Nat) (W W' : World) : Prop := W.heap.size ≤ W'.heap.size ∧ ∀ p v, B ≤ p.block → W.cell? p = some v → W'.cell? p = some v
/-- All that lies at or behind block B stays. -/
def AllFrom (B : Nat) (W W' : World) : Prop := W.heap.size ≤ W'.heap.size ∧ ∀ k o, B ≤ k → W.heap[k]? = some o → W'.heap[k]? = some o
theorem CellsFrom.trans {B : Nat} {a b c : World} (h : CellsFrom B a b) (k : CellsFrom B b c) : CellsFrom B a c := ⟨Nat.le_trans h.1 k.1, fun p v hp hv => k.2 p v hp (h.2 p v hp hv)⟩
theorem AllFrom.cells {B : Nat} {a b : World} (h : AllFrom B a b) : CellsFrom B a b := ⟨h.1, fun p v hp hv => by
  obtain ⟨o, ho, _⟩ := cells_of_cell hv
  have := h.2 _ o hp ho
  exact (World.cell?_of_block (this.trans ho.symm)).trans hv⟩
end Go.Proofs.YtjdjbonljohnbaaGreatDoor
/-
  cipher.pieces hands out the pieces of the stream of a key and a number, from the first one on, for as long as they are asked for.
-/
namespace Go.Proofs.YtjdjbonljohnbaaGreatDoor
open Go.RowKit Go.Shelf
set_option maxRecDepth 100000
attribute [local go_sem] Oper.semAt_some

end Go.Proofs.YtjdjbonljohnbaaGreatDoor
/-
  cipher's stream, of a key, a number and a length that may be, is so many bytes of its pieces, in new memory; nothing that was there is written.
-/
namespace Go.Proofs.YtjdjbonljohnbaaGreatDoor
open Go.RowKit Go.Shelf
set_option maxRecDepth 100000
attribute [local go_sem] Oper.semAt_some

/-- What the loop keeps behind c bytes s. -/
def StI (g n : Nat) (w : World) (c : Nat) (s : List UInt8) (W : World) : Prop :=
  Blk W g 3 #[.int .i64 n] ∧ Blk W (g + 2) 26 #[.slice (some ⟨g + 1, 0, none⟩) c n] ∧ W.ownsRow g 5 1 (.slice (some ⟨g + 1, 0, none⟩) c n) c (vals s) ∧ Below g w W
theorem StI.below {g n : Nat} {w : World} {c : Nat} {s : List UInt8} {W W' : World} {B : Nat} (h : StI g n w c s W) (hb : Below B W W') (hB : g + 3 ≤ B) : StI g n w c s W' := by
  obtain ⟨h1, h2, h3, h4⟩ := h
  refine ⟨h1.below hb (by omega), h2.below hb (by omega), ?_, h4.trans (hb.mono (by omega))⟩
  obtain ⟨e1, ⟨e2, _⟩ | ⟨g', cap, cur, e3, e4, e5, e6⟩⟩ := h3
  · cases e2
  · cases e3
    exact ⟨e1, .inr ⟨g + 1, n, cur, rfl, e4, (hb.block _ (by omega)).trans e5, e6⟩⟩

end Go.Proofs.YtjdjbonljohnbaaGreatDoor
/-
  Words for stores by value (api.Store): a disk, a table, Epoch and Count; where they lie; what calls that answer stores answer.
-/
namespace Go.Proofs.YtjdjbonljohnbaaGreatDoor
open Go.RowKit Go.Shelf
set_option maxRecDepth 100000

/-- A store: its disk, its table, its Epoch and its Count. -/
abbrev StL := DkL × List UInt8 × Nat × Nat
/-- Where its slices are. -/
structure SAt where
  d : DAt
  a : Option Addr
  c : Nat
/-- The store as a value. -/
@[reducible] def stV (x : SAt) (S : StL) : Value := .agg #[.slice x.d.ba S.1.1.length x.d.bc, .slice x.d.wa S.1.2.length x.d.wc, .slice x.a S.2.1.length x.c, .int .u32 (S.2.2.1 : Int), .int .u32 (S.2.2.2 : Int)]
/-- Its cells. -/
@[reducible] def stC (x : SAt) (S : StL) : Array Value := #[.slice x.d.ba S.1.1.length x.d.bc, .slice x.d.wa S.1.2.length x.d.wc, .slice x.a S.2.1.length x.c, .int .u32 (S.2.2.1 : Int), .int .u32 (S.2.2.2 : Int)]
/-- Its numbers fit. -/
def WfS (S : StL) : Prop := S.2.2.1 < 4294967296 ∧ S.2.2.2 < 4294967296
/-- A store that lies below block B reads as S. -/
def Str (w : World) (B : Nat) (x : SAt) (S : StL) : Prop := Dsk w B x.d S.1 ∧ Bsl w B x.a S.2.1.length x.c S.2.1
/-- It goes on reading so. -/
def StP (L : Nat) (w : World) (x : SAt) (S : StL) : Prop := Lasts L w fun W => Str W W.heap.size x S
/-- None. -/
abbrev st0 : StL := (([], []), [], 0, 0)
def at0 : SAt := ⟨⟨none, 0, none, 0⟩, none, 0⟩
theorem Str.lasts {w : World} {L : Nat} {x : SAt} {S : StL} (h : Str w L x S) (hL : L ≤ w.heap.size) : StP L w x S := (dsk_lasts h.1 hL).and (bsl_lasts h.2 hL)
theorem st0_lasts (L : Nat) (w : World) : StP L w at0 st0 := fun _ _ => ⟨⟨bls_nil _ _, wts_nil _ _⟩, ⟨rfl, Nat.le_refl _, Nat.zero_le _, fun _ => rfl, fun h => absurd h (by simp)⟩⟩
theorem dskR_lasts {w : World} {x : DAt} {D : DkL} (h : DskR w x D) (L : Nat) : Lasts L w fun W => Dsk W W.heap.size x D := fun _ k => by
  obtain ⟨b1, b2, h1, h2⟩ := h
  exact rows_dsk (brow_keeps h1 k) (wrow_keeps h2 k)
/-- A store may be. -/
def MayS (S : StL) : Prop := MayD S.1 ∧ MayT S.2.1 ∧ (1 ≤ S.2.2.1 ∧ S.2.2.1 ≤ 65535) ∧ S.2.2.2 ≤ 65535
/-- The sum of bytes. -/
def sumOf (b : List UInt8) : Nat := (fourW b).a.toNat
theorem sumOf_lt (b : List UInt8) : sumOf b < 4294967296 := (fourW b).a.isLt
/-- A block laid: a store and its pointer, if there is room. -/
def putS (S : StL) (birth iv tag : Nat) (b : List UInt8) : Option (StL × Pt) :=
  match freeTo S.2.1 256 with
  | [] => none
  | k :: _ => if 4096 ≤ S.1.2.length then none else some ((withD S.1 (k : Int) b, S.2.1.set k 1, S.2.2.1, S.2.2.2), ((k : Int), birth, iv, tag, sumOf b))
theorem putS_none {S : StL} {birth iv tag : Nat} {b : List UInt8} (h : ∀ i, i < 256 → mkT S.2.1 i ≠ 0) : putS S birth iv tag b = none := by
  have e0 : freeTo S.2.1 256 = [] := freeTo_same (p := 0) (Nat.zero_le _) fun i _ hi => h i hi
  unfold putS
  rw [e0]
theorem freeTo_head {s : List UInt8} {k : Nat} (hk : k < 256) (hz : mkT s k = 0) (h0 : ∀ i, i < k → mkT s i ≠ 0) : ∃ r, freeTo s 256 = k :: r := by
  have e1 : ∀ m, k < m → ∃ r, freeTo s m = k :: r := by
    intro m hm
    induction m with
    | zero => omega
    | succ m ih =>
      rcases Nat.lt_or_ge k m with h1 | h1
      · obtain ⟨r, hr⟩ := ih h1
        by_cases h2 : mkT s m = 0
        · exact ⟨r ++ [m], by rw [freeTo_yes h2, hr]; rfl⟩
        · exact ⟨r, by rw [freeTo_no h2, hr]⟩
      · obtain rfl : m = k := by omega
        refine ⟨[], ?_⟩
        rw [freeTo_yes hz, freeTo_same (p := 0) (Nat.zero_le _) fun i _ hi => h0 i hi]
        rfl
  exact e1 256 hk
theorem putS_great {S : StL} {birth iv tag : Nat} {b : List UInt8} (h : 4096 ≤ S.1.2.length) : putS S birth iv tag b = none := by
  unfold putS
  split
  · rfl
  · rw [if_pos h]
theorem putS_some {S : StL} {birth iv tag : Nat} {b : List UInt8} {k : Nat} (hk : k < 256) (hz : mkT S.2.1 k = 0) (h0 : ∀ i, i < k → mkT S.2.1 i ≠ 0) (hw : S.1.2.length < 4096) :
    putS S birth iv tag b = some ((withD S.1 (k : Int) b, S.2.1.set k 1, S.2.2.1, S.2.2.2), ((k : Int), birth, iv, tag, sumOf b)) := by
  obtain ⟨r, hr⟩ := freeTo_head hk hz h0
  unfold putS
  rw [hr]
  simp only
  rw [if_neg (by omega)]
/-- What is answered of what Put answers. -/
def putR : Option (StL × Pt) → StL × Pt × Nat
  | none => (st0, p0, 9)
  | some sp => (sp.1, sp.2, 0)
/-- What Raw answers: a store, a pointer, an error's number. -/
noncomputable def rawO (S : StL) (birth iv tag : Nat) (b : List UInt8) : StL × Pt × Nat :=
  open Classical in
  if MayS S then
    if 1 ≤ birth ∧ birth ≤ 16777215 then
      if b.length = 256 then
        putR (putS S birth iv tag b)
      else (st0, p0, 3)
    else (st0, p0, 2)
  else (st0, p0, 8)
/-- A block as a flush would leave it. -/
def seenS (S : StL) (k : Nat) : List UInt8 := leftD S.1 (fun _ => true) k
/-- What Look answers of a store and a pointer that may be. -/
def seenO (S : StL) (p : Pt) : List UInt8 × Nat :=
  if p = p0 then ([], 6) else if sumOf (seenS S p.1.toNat) = p.2.2.2.2 then (seenS S p.1.toNat, 0) else ([], 130)
noncomputable def lookO (S : StL) (p : Pt) : List UInt8 × Nat :=
  open Classical in if MayS S ∧ MayP p then seenO S p else ([], 8)
/-- A store and no error's number. -/
def OutS (L : Nat) (S : StL) (w : World) (e : Ending) (w' : World) : Prop := ∃ y, e = .returned (stV y S) ∧ StP L w' y S ∧ Below w.heap.size w w'
/-- Bytes and an error's number. -/
def OutBE (o : List UInt8 × Nat) (w : World) (e : Ending) (w' : World) : Prop := ∃ v, e = .returned (.tuple #[v, .int .i64 o.2]) ∧ w'.ownsRow w.heap.size 5 1 v o.1.length (vals o.1) ∧ Below w.heap.size w w'
theorem mayP_at {p : Pt} (h : MayP p) (hp : p ≠ p0) : ∃ k : Nat, p.1 = (k : Int) ∧ 12 ≤ k ∧ k < 256 := by
  rcases h with h | h
  · exact absurd h hp
  · exact ⟨p.1.toNat, by omega, by omega, by omega⟩
end Go.Proofs.YtjdjbonljohnbaaGreatDoor
/-
  What follows of stores as plain lists: a block laid is seen, no other changes; what was sealed is opened; what was given up is seen as before; room; numbers; a byte turned.
-/
namespace Go.Proofs.YtjdjbonljohnbaaGreatDoor
open Go.RowKit Go.Shelf
set_option maxRecDepth 100000

theorem leftD_withD (D : DkL) (p : Nat) (s : List UInt8) (q : Nat) : leftD (withD D p s) (fun _ => true) q = if q = p then s else leftD D (fun _ => true) q := by
  obtain ⟨h1, h2⟩ := wr_with D.2 (p : Int) s
  have hl : (withD D (p : Int) s).2.length = D.2.length + 1 := by simp [withD]
  have he : (withD D (p : Int) s).2 = D.2 ++ [((p : Int), s)] := rfl
  unfold leftD
  rw [hl, he, lastTo, h2]
  by_cases e : q = p
  · subst e
    rw [if_pos ⟨rfl, rfl⟩, if_pos rfl]
    simp only
    rw [h2]
  · rw [if_neg (fun h => e (by have := h.2; simp only at this; omega)), if_neg e]
    have hc : lastTo (D.2 ++ [((p : Int), s)]) (fun _ => true) (q : Int) D.2.length = lastTo D.2 (fun _ => true) (q : Int) D.2.length := lastTo_congr (fun i hi => by rw [h1 i hi])
    rw [hc]
    cases hx : lastTo D.2 (fun _ => true) (q : Int) D.2.length with
    | none => rfl
    | some i => simp only; rw [h1 i (lastTo_lt hx).1]

/-- A store with a block laid. -/
@[reducible] def putAt (S : StL) (k : Nat) (b : List UInt8) : StL := (withD S.1 (k : Int) b, S.2.1.set k 1, S.2.2.1, S.2.2.2)
theorem seenS_put (S : StL) (k : Nat) (b : List UInt8) (q : Nat) : seenS (putAt S k b) q = if q = k then b else seenS S q := leftD_withD S.1 k b q

theorem free_first {s : List UInt8} {k : Nat} {r : List Nat} (h : freeTo s 256 = k :: r) : k < 256 ∧ mkT s k = 0 ∧ ∀ i, i < k → mkT s i ≠ 0 := by
  have h1 : k ∈ freeTo s 256 := by rw [h]; exact List.mem_cons_self
  obtain ⟨a, b⟩ := freeTo_mem.1 h1
  refine ⟨a, b, fun i hi hz => ?_⟩
  rcases first_from (fun i => mkT s i = 0) 0 256 with ⟨j, _, hj, hjz, hjm⟩ | hn
  · obtain ⟨r', hr'⟩ := freeTo_head hj hjz fun i hi => hjm i (Nat.zero_le _) hi
    rw [h] at hr'
    cases hr'
    exact hjm i (Nat.zero_le _) hi hz
  · exact hn k (Nat.zero_le _) a b
theorem putS_cases {S : StL} (h : MayT S.2.1) (birth iv tag : Nat) (b : List UInt8) : (putS S birth iv tag b = none ∧ (freeTo S.2.1 256 = [] ∨ 4096 ≤ S.1.2.length)) ∨
    ∃ k r, (12 ≤ k ∧ k < 256) ∧ mkT S.2.1 k = 0 ∧ (∀ i, i < k → mkT S.2.1 i ≠ 0) ∧ S.1.2.length < 4096 ∧ freeTo S.2.1 256 = k :: r ∧ putS S birth iv tag b = some (putAt S k b, ((k : Int), birth, iv, tag, sumOf b)) := by
  cases hf : freeTo S.2.1 256 with
  | nil => exact .inl ⟨by unfold putS; rw [hf], .inl rfl⟩
  | cons k r =>
    obtain ⟨h1, h2, h3⟩ := free_first hf
    rcases Nat.lt_or_ge S.1.2.length 4096 with hw | hw
    · exact .inr ⟨k, r, ⟨h.free_ge (by omega), h1⟩, h2, h3, hw, rfl, putS_some h1 h2 h3 hw⟩
    · exact .inl ⟨putS_great hw, .inr hw⟩

/-! What may be. -/
theorem putAt_may {S : StL} (h : MayS S) {k : Nat} (hk : 12 ≤ k ∧ k < 256) {b : List UInt8} (hb : b.length = 256) (hw : S.1.2.length < 4096) : MayS (putAt S k b) :=
  ⟨with_may h.1 (by omega) hb (by omega), set_may h.2.1 hk.1 hk.2 1 (by decide), h.2.2⟩
theorem ptr_may {k birth : Nat} (hk : 12 ≤ k ∧ k < 256) (hb : 1 ≤ birth ∧ birth ≤ 16777215) (iv tag s : Nat) : MayP ((k : Int), birth, iv, tag, s) := .inr ⟨by simp only; omega, hb⟩
theorem ptr_not {k birth : Nat} (hb : 1 ≤ birth) (iv tag s : Nat) : (((k : Int), birth, iv, tag, s) : Pt) ≠ p0 := fun e => by
  have : birth = 0 := congrArg (fun p : Pt => p.2.1) e
  omega

/-! What is seen. -/
theorem seenO_put (S : StL) {k birth : Nat} (hb : 1 ≤ birth) (iv tag : Nat) (b : List UInt8) : seenO (putAt S k b) ((k : Int), birth, iv, tag, sumOf b) = (b, 0) := by
  unfold seenO
  rw [if_neg (ptr_not hb _ _ _)]
  have e : seenS (putAt S k b) ((k : Int)).toNat = b := by rw [seenS_put, if_pos (Int.toNat_natCast k)]
  simp only
  rw [e, if_pos rfl]
theorem seenO_far (S : StL) {k : Nat} {b : List UInt8} {p : Pt} (hp : MayP p) (h : p.1 ≠ (k : Int)) : seenO (putAt S k b) p = seenO S p := by
  unfold seenO
  by_cases h0 : p = p0
  · rw [if_pos h0, if_pos h0]
  · obtain ⟨j, h1, _, _⟩ := mayP_at hp h0
    have hj : p.1.toNat ≠ k := by omega
    rw [if_neg h0, if_neg h0, seenS_put, if_neg hj]
theorem lookO_may {S : StL} {p : Pt} (h : MayS S) (hp : MayP p) : lookO S p = seenO S p := by unfold lookO; rw [if_pos ⟨h, hp⟩]
theorem put_mark {S : StL} {k i : Nat} {b : List UInt8} (hl : S.2.1.length = 256) (hk : k < 256) : mkT (putAt S k b).2.1 i = if i = k then 1 else mkT S.2.1 i := mkT_set S.2.1 k 1 i (by omega)

end Go.Proofs.YtjdjbonljohnbaaGreatDoor
/-
  The document's own May, Check, Number and Get of pointers; nothing that was there is written.
-/
namespace Go.Proofs.YtjdjbonljohnbaaGreatDoor
open Go.RowKit Go.Shelf
set_option maxRecDepth 100000

theorem rpNone_any (p : Pt) (w : World) : Calls Tryz.prog 52 #[ptV p] w fun e w' => e = .returned (.bool (eqP p p0)) ∧ Below w.heap.size w w' := by
  obtain ⟨a, b, c, d, e⟩ := p
  have heq := eqPt_zero a b c d e
  go_enter Tryz.func52, Tryz.ntmps52
  go_wp2_with fail
  go_ret
  exact ⟨rfl, (Below.refl _ w).alloc (Nat.le_refl _) _⟩
theorem rpMay_any (p : Pt) (w : World) : Calls Tryz.prog 30 #[ptV p] w fun e w' => e = .returned (.bool (decide (MayP p))) ∧ Below w.heap.size w w' := by
  have hn := rpNone_any p (w.alloc (.cells (ptC p).toArray 32))
  have HB := Lib.hid ((Below.refl _ w).alloc (Nat.le_refl _) (.cells (ptC p).toArray 32))
  have HK := Lib.hid (show Blk (w.alloc (.cells (ptC p).toArray 32)) w.heap.size 32 (ptC p).toArray from Blk.new w _ _)
  obtain ⟨a, b, c, d, e⟩ := p
  by_cases h0 : eqP (a, b, c, d, e) p0 = true
  · have hm : decide (MayP (a, b, c, d, e)) = true := decide_eq_true (.inl ((eqP_iff _ _).1 h0))
    rw [hm]
    rw [h0] at hn
    have HN := Lib.hid hn
    clear hn hm h0
    go_enter Tryz.func30, Tryz.ntmps30
    go_wp2_with (go_at_call 52; refine HN.out.mono ?_; rintro ev w1 ⟨rfl, b1⟩; have HB1 := Lib.hid (HB.out.trans (b1.mono (by simp [ptC]))); clear b1)
    go_ret
    exact ⟨rfl, HB1.out⟩
  · have h0' : eqP (a, b, c, d, e) p0 = false := by simpa using h0
    rw [h0'] at hn
    have hne : (a, b, c, d, e) ≠ p0 := fun hh => h0 ((eqP_iff _ _).2 hh)
    have HN := Lib.hid hn
    clear hn
    by_cases g1 : 12 ≤ a
    · by_cases g2 : a < 256
      · by_cases g3 : 1 ≤ b
        · have hm : decide (MayP (a, b, c, d, e)) = decide (b ≤ 16777215) := by
            rw [decide_eq_decide]
            exact ⟨fun hh => (hh.resolve_left hne).2.2, fun hh => .inr ⟨⟨g1, g2⟩, g3, hh⟩⟩
          have hm2 : decide (b ≤ 16777215) = decide ((b : Int) ≤ 16777215) := by rw [decide_eq_decide]; omega
          rw [hm, hm2]
          have i1 : (1 : Int) ≤ (b : Int) := by omega
          clear hm hm2 h0 h0' hne
          go_enter Tryz.func30, Tryz.ntmps30
          go_wp2_with (go_at_call 52; refine HN.out.mono ?_; rintro ev w1 ⟨rfl, b1⟩; have HB1 := Lib.hid (HB.out.trans (b1.mono (by simp [ptC]))); obtain ⟨c0, c1, c2, c3, c4⟩ := (HK.out.below b1 HK.out.lt).five; clear b1)
          go_ret
          exact ⟨rfl, HB1.out⟩
        · have hm : decide (MayP (a, b, c, d, e)) = false := decide_eq_false fun hh => g3 (hh.resolve_left hne).2.1
          rw [hm]
          have i1 : ¬ (1 : Int) ≤ (b : Int) := by omega
          clear hm h0 h0' hne
          go_enter Tryz.func30, Tryz.ntmps30
          go_wp2_with (go_at_call 52; refine HN.out.mono ?_; rintro ev w1 ⟨rfl, b1⟩; have HB1 := Lib.hid (HB.out.trans (b1.mono (by simp [ptC]))); obtain ⟨c0, c1, c2, c3, c4⟩ := (HK.out.below b1 HK.out.lt).five; clear b1)
          go_ret
          exact ⟨rfl, HB1.out⟩
      · have hm : decide (MayP (a, b, c, d, e)) = false := decide_eq_false fun hh => g2 (hh.resolve_left hne).1.2
        rw [hm]
        clear hm h0 h0' hne
        go_enter Tryz.func30, Tryz.ntmps30
        go_wp2_with (go_at_call 52; refine HN.out.mono ?_; rintro ev w1 ⟨rfl, b1⟩; have HB1 := Lib.hid (HB.out.trans (b1.mono (by simp [ptC]))); obtain ⟨c0, c1, c2, c3, c4⟩ := (HK.out.below b1 HK.out.lt).five; clear b1)
        go_ret
        exact ⟨rfl, HB1.out⟩
    · have hm : decide (MayP (a, b, c, d, e)) = false := decide_eq_false fun hh => g1 (hh.resolve_left hne).1.1
      rw [hm]
      clear hm h0 h0' hne
      go_enter Tryz.func30, Tryz.ntmps30
      go_wp2_with (go_at_call 52; refine HN.out.mono ?_; rintro ev w1 ⟨rfl, b1⟩; have HB1 := Lib.hid (HB.out.trans (b1.mono (by simp [ptC]))); obtain ⟨c0, c1, c2, c3, c4⟩ := (HK.out.below b1 HK.out.lt).five; clear b1)
      go_ret
      exact ⟨rfl, HB1.out⟩
set_option maxHeartbeats 1000000 in
theorem rpNumber_any (n k : Nat) (hn : n < 4294967296) (hk : k ≤ 4) (w : World) : Calls Tryz.prog 91 #[.int .u32 n, .int .i64 k] w (OwnV k (leB k n) w) := by
  have k0 : (0 : Int) ≤ k := by omega
  have k4 : (k : Int) ≤ 4 := by omega
  go_enter Tryz.func91, Tryz.ntmps91
  go_wp2_with fail
  go_loopw [0, 5, 6] (fun x v i wr => ∃ j : Nat, j ≤ k ∧ i = .int .i64 j ∧ x = .int .u32 ((n / 256 ^ j : Nat) : Int) ∧ wr.ownsRow w.heap.size 5 1 v j (vals (leB j n)) ∧ Below w.heap.size w wr) (fun _ _ i _ => k - (intOf i).toNat)
  case atStart => exact ⟨0, Nat.zero_le _, rfl, by simp, own_nil _ _, Below.refl _ _⟩
  case round =>
    obtain ⟨j, hj, rfl, rfl, ho, hb⟩ := hrel
    have HO := Lib.hid ho; clear ho
    have HB := Lib.hid hb; clear hb
    have j0 : (0 : Int) ≤ j := by omega
    by_cases hlt : j < k
    · have j1 : (j : Int) < k := by omega
      obtain ⟨y, hy⟩ : ∃ y, n / 256 ^ j = y := ⟨_, rfl⟩
      have hy1 : y ≤ n := by rw [← hy]; exact Nat.div_le_self _ _
      have hbt : (byteAt n j).toNat = y % 256 := by rw [byteAt_toNat, hy]
      have hnx : n / 256 ^ (j + 1) = y / 256 := by rw [Nat.pow_succ, ← Nat.div_div_eq_div_mul, hy]
      rw [hy]
      have y0 : (0 : Int) ≤ y := by omega
      have y1 : (y : Int) ≤ 4294967295 := by omega
      have m0 : (0 : Int) ≤ (y : Int) % 256 := by omega
      have m1 : (y : Int) % 256 ≤ 255 := by omega
      have hd0 : (0 : Int) ≤ (y : Int) / 256 := by omega
      have hd1 : (y : Int) / 256 ≤ 4294967295 := by omega
      have t1 : Int.tmod (y : Int) 256 = (y : Int) % 256 := Int.tmod_eq_emod_of_nonneg y0
      have t2 : Int.tdiv (y : Int) 256 = (y : Int) / 256 := Int.tdiv_eq_ediv_of_nonneg y0
      have eb : (((byteAt n j).toNat : Nat) : Int) = (y : Int) % 256 := by rw [hbt]; simp
      have o1 := one_bsl wr (byteAt n j)
      rw [eb] at o1
      have HE1 := Lib.hid o1; clear o1
      have HOA := Lib.hid (HO.out.alloc (.cells #[.int .u8 ((y : Int) % 256)] 5))
      have HBA := Lib.hid (HB.out.alloc HB.out.size (.cells #[.int .u8 ((y : Int) % 256)] 5))
      have HNX := Lib.hid hnx
      obtain ⟨v, hv⟩ : ∃ v : Value, u5 = v := ⟨_, rfl⟩
      rw [hv] at HO HOA ⊢
      clear hv hbt hnx hy eb
      go_wp2_with (at_builtin
                   refine wpList_append_bsl rfl (.tmp 12) (.tmp 16) rfl w.heap.size v j _ rfl HOA.out _ (some ⟨wr.heap.size, 0, none⟩) 1 1 [byteAt n j] rfl HE1.out (by omega) HBA.out.size ?_
                   intro v2 w2 h2 hgr2
                   have HO2 := Lib.hid h2
                   have HB2 := Lib.hid (app_below HBA.out HOA.out hgr2 HBA.out.size)
                   clear h2 hgr2)
      go_roundw
      case rel =>
        refine ⟨j + 1, by omega, by go_num, ?_, ?_, HB2.out⟩
        · rw [HNX.out]
          first | rfl | go_num
        · rw [leB_take]
          exact HO2.out
      case measure => simp [intOf]; omega
    · obtain rfl : j = k := by omega
      go_wp2_with fail
      go_ret
      exact ⟨_, rfl, HO.out, HB.out⟩
theorem leN_drop_cons (s : List UInt8) (i : Nat) (hi : i < s.length) : leN (s.drop i) = s[i].toNat + 256 * leN (s.drop (i + 1)) := by
  rw [List.drop_eq_getElem_cons hi, leN]
set_option maxHeartbeats 1000000 in
theorem rpGet_any (a : Option Addr) (len cap : Nat) (s : List UInt8) (w : World) (hB : Bsl w w.heap.size a len cap s) (h4 : len ≤ 4) : Calls Tryz.prog 119 #[.slice a len cap] w fun e w' => e = .returned (.int .u32 (leN s : Nat)) ∧ w = w' := by
  have i0 : (0 : Int) ≤ (len : Int) := by omega
  have i1 : (len : Int) ≤ 4 := by omega
  have HB := Lib.hid hB; clear hB
  go_enter Tryz.func119, Tryz.ntmps119
  go_wp2_with fail
  go_loopw [3, 4] (fun n i wr => ∃ j : Nat, j ≤ len ∧ i = .int .i64 ((j : Int) - 1) ∧ n = .int .u32 ((leN (s.drop j) : Nat) : Int) ∧ wr = w) (fun _ i _ => (intOf i + 1).toNat)
  case atStart => exact ⟨len, Nat.le_refl _, rfl, by rw [List.drop_eq_nil_of_le (by have := HB.out.1; omega)]; rfl, rfl⟩
  case round =>
    obtain ⟨j, hj, rfl, rfl, rfl⟩ := hrel
    rcases Nat.eq_zero_or_pos j with h0 | h0
    · subst h0
      have e0 : (((0 : Nat) : Int) - 1) = -1 := by omega
      rw [e0, List.drop_zero]
      go_wp2_with fail
      go_ret
      exact ⟨rfl, rfl⟩
    · obtain ⟨i, rfl⟩ : ∃ i, j = i + 1 := ⟨j - 1, by omega⟩
      have hil : i < s.length := by have := HB.out.1; omega
      obtain ⟨b, off, rfl, _, hc⟩ := HB.out.2.2.2.2 (by omega)
      have c0 := hc i hil
      have hstep := leN_drop_cons s i hil
      have hlt := leN_lt (s.drop (i + 1))
      have hl3 : (s.drop (i + 1)).length ≤ 3 := by have := HB.out.1; simp; omega
      have hp : 256 ^ (s.drop (i + 1)).length ≤ 256 ^ 3 := Nat.pow_le_pow_right (by omega) hl3
      obtain ⟨x, hx⟩ : ∃ x : Nat, s[i].toNat = x := ⟨_, rfl⟩
      have hx1 : x ≤ 255 := by rw [← hx]; have := (s[i]).toNat_lt; omega
      obtain ⟨n, hn⟩ : ∃ n, leN (s.drop (i + 1)) = n := ⟨_, rfl⟩
      rw [hn] at hstep hlt ⊢
      rw [hx] at c0 hstep
      have e1 : (((i + 1 : Nat) : Int) - 1) = (i : Int) := by omega
      rw [e1]
      have q0 : (0 : Int) ≤ i := by omega
      have q1 : (i : Int) < len := by omega
      have q2 : (0 : Int) ≤ n := by omega
      have q3 : (n : Int) ≤ 16777215 := by omega
      have q4 : (0 : Int) ≤ x := by omega
      have q5 : (x : Int) ≤ 255 := by omega
      have HST := Lib.hid hstep
      clear hstep hlt hp hn hx e1 hl3 hc
      go_wp2_with fail
      go_roundw
      case rel =>
        refine ⟨i, by omega, by first | rfl | go_num, ?_, by first | rfl | trivial⟩
        rw [HST.out]
        congr 1
        omega
      case measure => simp [intOf]
end Go.Proofs.YtjdjbonljohnbaaGreatDoor
/-
  The document's own Bytes and Write of pointers.
-/
namespace Go.Proofs.YtjdjbonljohnbaaGreatDoor
open Go.RowKit Go.Shelf
set_option maxRecDepth 100000

set_option maxHeartbeats 2000000 in
theorem rpBytes_any (p : Pt) (hw : WfP p) (hroom : (0 ≤ p.1 ∧ p.1 < 256) ∧ p.2.1 < 16777216) (w : World) : Calls Tryz.prog 69 #[ptV p] w (OwnV 16 (bytesP p) w) := by
  obtain ⟨a, b, c, d, e⟩ := p
  obtain ⟨_, h3', h4, h5, h6⟩ := hw
  obtain ⟨⟨h1, h2⟩, h3⟩ := hroom
  dsimp only at h1 h2 h3 h3' h4 h5 h6
  obtain ⟨A, rfl⟩ := Int.eq_ofNat_of_zero_le h1
  have hmx : Tryz.prog.follows Departure.mixedOrders = true := by kernel_rfl
  have q0 : (0 : Int) ≤ A := by omega
  have q1 : (A : Int) ≤ 255 := by omega
  have HN1 := Lib.hid (fun W => rpNumber_any b 3 (by omega) (by omega) W)
  have HN2 := Lib.hid (fun W => rpNumber_any c 4 (by omega) (by omega) W)
  have HN3 := Lib.hid (fun W => rpNumber_any d 4 (by omega) (by omega) W)
  have HN4 := Lib.hid (fun W => rpNumber_any e 4 (by omega) (by omega) W)
  have HB := Lib.hid ((Below.refl _ w).alloc (Nat.le_refl _) (.cells #[.int .i64 (A : Int), .int .u32 (b : Int), .int .u32 (c : Int), .int .u32 (d : Int), .int .u32 (e : Int)] 32))
  have HK := Lib.hid (Blk.new w 32 #[.int .i64 (A : Int), .int .u32 (b : Int), .int .u32 (c : Int), .int .u32 (d : Int), .int .u32 (e : Int)])
  have eA : (((UInt8.ofNat A).toNat : Nat) : Int) = (A : Int) := by simp; omega
  have eW : IntKind.u8.wrap (A : Int) = (A : Int) := by simp [IntKind.wrap, IntKind.bits, IntKind.signed]; omega
  have eL : leB 1 A ++ leB 3 b = [UInt8.ofNat A] ++ leB 3 b := by
    have hb : byteAt A 0 = UInt8.ofNat A := UInt8.toNat_inj.1 (by rw [byteAt_toNat]; simp)
    rw [← hb]
    rfl
  go_enter Tryz.func69, Tryz.ntmps69
  go_wp2_with fail
  go_cut [3] from 4 to 11 (fun v wx => wx.ownsRow (w.heap.size + 1) 5 1 v 4 (vals (leB 1 A ++ leB 3 b)) ∧ Below w.heap.size w wx ∧ Blk wx w.heap.size 32 #[.int .i64 (A : Int), .int .u32 (b : Int), .int .u32 (c : Int), .int .u32 (d : Int), .int .u32 (e : Int)])
  case first =>
    obtain ⟨wd, hwd⟩ : ∃ wd, (w.alloc (Obj.cells #[.int .i64 (A : Int), .int .u32 (b : Int), .int .u32 (c : Int), .int .u32 (d : Int), .int .u32 (e : Int)] 32)).drew = wd := ⟨_, rfl⟩
    have HBd := Lib.hid (show Below w.heap.size w wd by rw [← hwd]; exact HB.out.drew)
    have HKd := Lib.hid (show Blk wd w.heap.size 32 #[.int .i64 (A : Int), .int .u32 (b : Int), .int .u32 (c : Int), .int .u32 (d : Int), .int .u32 (e : Int)] by rw [← hwd]; exact HK.out.drew)
    have HZd := Lib.hid (show wd.heap.size = w.heap.size + 1 by rw [← hwd]; simp)
    have c0 := HKd.out.cell 0
    have c1 := HKd.out.cell 1
    have C0 := fun X (hX : Below wd.heap.size wd X) => (hX.cell (p := ⟨w.heap.size, 0, none⟩) (World.block_lt_of_cell? wd _ c0)).trans c0
    have C1 := fun X (hX : Below wd.heap.size wd X) => (hX.cell (p := ⟨w.heap.size, 1, none⟩) (World.block_lt_of_cell? wd _ c1)).trans c1
    have hbwd : Below wd.heap.size wd wd := Below.refl _ _
    clear c0 c1
    refine wpI_start (Below wd.heap.size wd) [0, 1, 2, 4, 5, 3, 6, 7, 8] hmx rfl hwd ?_
    clear hwd
    iterate 5 (
      refine wpI_read (v := ?_) hbwd rfl (by kernel_rfl) (by kernel_rfl) (by kernel_rfl) (fun _ _ _ h => h) (.inl ⟨by rfl, ?_⟩) ?_
      rotate_left
      · intro X hX
        have hXa := C0 X hX
        have hXb := C1 X hX
        clear hX
        go_simp
        with_reducible rfl
      try simp only [Act.put, List.setIfInBounds_toArray, List.set_cons_zero, List.set_cons_succ])
    clear C0 C1
    refine wpI_fork rfl rfl (by kernel_rfl) (fun K hK => ?_) (fun K hK => ?_)
    · go_simp
      have hbA := (Below.refl wd.heap.size wd).alloc (Nat.le_refl _) (.cells #[.int .u8 (A : Int)] 5)
      have hoA := one_own wd (UInt8.ofNat A)
      rw [eA] at hoA
      obtain ⟨wa, hwa⟩ : ∃ wa, wd.alloc (.cells #[.int .u8 (A : Int)] 5) = wa := ⟨_, rfl⟩
      obtain ⟨gb, hgb⟩ : ∃ gb, wd.heap.size = gb := ⟨_, rfl⟩
      rw [hwa] at hbA hoA ⊢
      rw [hgb] at hoA ⊢
      refine hK _ _ hbA ?_
      clear hK K hwa
      try simp only [Act.put, List.setIfInBounds_toArray, List.set_cons_zero, List.set_cons_succ]
      refine wpI_lone rfl (by kernel_rfl) (fun K hK => ?_)
      go_simp
      refine (HN1.out wa).mono ?_
      rintro ev wb ⟨vb, rfl, hob, hbb⟩
      have hbB := hbA.trans (hbb.mono hbA.size)
      have hoB := own_below hoA hbb
      refine hK _ _ hbB ?_
      clear hK K hoA
      try simp only [Act.put, List.setIfInBounds_toArray, List.set_cons_zero, List.set_cons_succ]
      obtain ⟨Ab, Cb, rfl, hsb⟩ := own_to hob
      refine wpI_app_own rfl (by kernel_rfl) rfl (.tmp 7) (.tmp 10) rfl gb _ 1 _ rfl hoB _ Ab 3 Cb (leB 3 b) rfl hsb (by omega) (by have := hbB.size; have := hoB.lt gb rfl; omega) ?_
      intro v3 w3 ho3 hg3
      have hg3' : wb.grownBy w3 (some gb) := hg3
      have hgl : wd.heap.size ≤ gb := by have := hbA.size; omega
      have hb3 := below_only hbB hgl hg3' hbB.size
      refine ⟨hb3, ?_⟩
      try simp only [Act.put, List.setIfInBounds_toArray, List.set_cons_zero, List.set_cons_succ]
      iterate 1 (
        refine wpI_read (v := ?_) hb3 rfl (by kernel_rfl) (by kernel_rfl) (by kernel_rfl) (fun _ _ _ h => h) (.inl ⟨by rfl, ?_⟩) ?_
        rotate_left
        · intro X hX
          clear hX
          go_simp
          with_reducible rfl
        try simp only [Act.put, List.setIfInBounds_toArray, List.set_cons_zero, List.set_cons_succ])
      refine wpI_done (by kernel_rfl) ?_
      go_wp2_with fail
      go_meet
      refine ⟨?_, HBd.out.trans (hb3.mono HBd.out.size), HKd.out.below hb3 HKd.out.lt⟩
      rw [eL]
      exact own_mono ho3 (by have := HZd.out; omega)
    · go_simp
      refine (HN1.out wd).mono ?_
      rintro ev wa ⟨vb, rfl, hob, hbb⟩
      have hbA : Below wd.heap.size wd wa := hbb
      refine hK _ _ hbA ?_
      clear hK K
      try simp only [Act.put, List.setIfInBounds_toArray, List.set_cons_zero, List.set_cons_succ]
      refine wpI_lone rfl (by kernel_rfl) (fun K hK => ?_)
      go_simp
      have hoB := one_own wa (UInt8.ofNat A)
      rw [eA] at hoB
      have hbn := (Below.refl wa.heap.size wa).alloc (Nat.le_refl _) (.cells #[.int .u8 (A : Int)] 5)
      obtain ⟨wb, hwb⟩ : ∃ wb, wa.alloc (.cells #[.int .u8 (A : Int)] 5) = wb := ⟨_, rfl⟩
      obtain ⟨gb, hgb⟩ : ∃ gb, wa.heap.size = gb := ⟨_, rfl⟩
      rw [hwb] at hoB hbn ⊢
      rw [hgb] at hoB ⊢
      have hbB := hbA.trans (hbn.mono hbA.size)
      refine hK _ _ hbB ?_
      clear hK K hwb
      try simp only [Act.put, List.setIfInBounds_toArray, List.set_cons_zero, List.set_cons_succ]
      obtain ⟨Ab, Cb, rfl, hsb0⟩ := own_to hob
      have hsb := hsb0.step hbn
      refine wpI_app_own rfl (by kernel_rfl) rfl (.tmp 7) (.tmp 10) rfl gb _ 1 _ rfl hoB _ Ab 3 Cb (leB 3 b) rfl hsb (by omega) (by have := hbB.size; have := hoB.lt gb rfl; omega) ?_
      intro v3 w3 ho3 hg3
      have hg3' : wb.grownBy w3 (some gb) := hg3
      have hgl : wd.heap.size ≤ gb := by have := hbA.size; omega
      have hb3 := below_only hbB hgl hg3' hbB.size
      refine ⟨hb3, ?_⟩
      try simp only [Act.put, List.setIfInBounds_toArray, List.set_cons_zero, List.set_cons_succ]
      iterate 1 (
        refine wpI_read (v := ?_) hb3 rfl (by kernel_rfl) (by kernel_rfl) (by kernel_rfl) (fun _ _ _ h => h) (.inl ⟨by rfl, ?_⟩) ?_
        rotate_left
        · intro X hX
          clear hX
          go_simp
          with_reducible rfl
        try simp only [Act.put, List.setIfInBounds_toArray, List.set_cons_zero, List.set_cons_succ])
      refine wpI_done (by kernel_rfl) ?_
      go_wp2_with fail
      go_meet
      refine ⟨?_, HBd.out.trans (hb3.mono HBd.out.size), HKd.out.below hb3 HKd.out.lt⟩
      rw [eL]
      exact own_mono ho3 (by have := HZd.out; omega)
  case rest =>
    obtain ⟨ho1, hb1, hk1⟩ := hcut
    obtain ⟨c0, c1, c2, c3, c4⟩ := hk1.five
    have HO1 := Lib.hid ho1
    have HB1 := Lib.hid hb1
    have HK1 := Lib.hid hk1
    have HS1 := Lib.hid (show w.heap.size + 1 ≤ wc.heap.size from hk1.lt)
    clear ho1 hb1 hk1
    obtain ⟨v, hv⟩ : ∃ v : Value, u3 = v := ⟨_, rfl⟩
    rw [hv] at HO1 ⊢
    clear hv
    go_wp2_with fail
    refine (HN2.out wc).mono ?_
    rintro ev w2a ⟨x2, rfl, o2, b2⟩
    obtain ⟨A2, C2, rfl, s2⟩ := own_to o2
    have HS2 := Lib.hid s2
    have HOa2 := Lib.hid (own_below HO1.out b2)
    have HBa2 := Lib.hid (HB1.out.trans (b2.mono HB1.out.size))
    have HKa2 := Lib.hid (HK1.out.below b2 HK1.out.lt)
    clear s2 o2 b2 c0 c1 c2 c3 c4
    go_wp2_with (at_builtin
                 refine wpList_append_bsl rfl (.tmp 12) (.tmp 15) rfl (w.heap.size + 1) v 4 _ rfl HOa2.out w2a.heap.size A2 4 C2 (leB 4 c) rfl HS2.out (by omega) (by have := HKa2.out.lt; omega) ?_
                 intro v2 w2b h2 hgr2
                 have HO2 := Lib.hid h2
                 have HB2 := Lib.hid (HBa2.out.grown hgr2 HBa2.out.size (fun r hr => by have := (HOa2.out.lt r hr).1; omega))
                 have HK2 := Lib.hid (HKa2.out.grown hgr2 (fun er => by have := (HOa2.out.lt _ er.symm).1; omega))
                 obtain ⟨c0, c1, c2, c3, c4⟩ := HK2.out.five
                 clear h2 hgr2)
    go_wp2_with fail
    refine (HN3.out w2b).mono ?_
    rintro ev w3a ⟨x3, rfl, o3, b3⟩
    obtain ⟨A3, C3, rfl, s3⟩ := own_to o3
    have HS3 := Lib.hid s3
    have HOa3 := Lib.hid (own_below HO2.out b3)
    have HBa3 := Lib.hid (HB2.out.trans (b3.mono HB2.out.size))
    have HKa3 := Lib.hid (HK2.out.below b3 HK2.out.lt)
    clear s3 o3 b3 c0 c1 c2 c3 c4
    go_wp2_with (at_builtin
                 refine wpList_append_bsl rfl (.tmp 17) (.tmp 20) rfl (w.heap.size + 1) v2 8 _ rfl HOa3.out w3a.heap.size A3 4 C3 (leB 4 d) rfl HS3.out (by omega) (by have := HKa3.out.lt; omega) ?_
                 intro v3 w3b h3 hgr3
                 have HO3 := Lib.hid h3
                 have HB3 := Lib.hid (HBa3.out.grown hgr3 HBa3.out.size (fun r hr => by have := (HOa3.out.lt r hr).1; omega))
                 have HK3 := Lib.hid (HKa3.out.grown hgr3 (fun er => by have := (HOa3.out.lt _ er.symm).1; omega))
                 obtain ⟨c0, c1, c2, c3, c4⟩ := HK3.out.five
                 clear h3 hgr3)
    go_wp2_with fail
    refine (HN4.out w3b).mono ?_
    rintro ev w4a ⟨x4, rfl, o4, b4⟩
    obtain ⟨A4, C4, rfl, s4⟩ := own_to o4
    have HS4 := Lib.hid s4
    have HOa4 := Lib.hid (own_below HO3.out b4)
    have HBa4 := Lib.hid (HB3.out.trans (b4.mono HB3.out.size))
    have HKa4 := Lib.hid (HK3.out.below b4 HK3.out.lt)
    clear s4 o4 b4 c0 c1 c2 c3 c4
    go_wp2_with (at_builtin
                 refine wpList_append_bsl rfl (.tmp 22) (.tmp 25) rfl (w.heap.size + 1) v3 12 _ rfl HOa4.out w4a.heap.size A4 4 C4 (leB 4 e) rfl HS4.out (by omega) (by have := HKa4.out.lt; omega) ?_
                 intro v4 w4b h4 hgr4
                 have HO4 := Lib.hid h4
                 have HB4 := Lib.hid (HBa4.out.grown hgr4 HBa4.out.size (fun r hr => by have := (HOa4.out.lt r hr).1; omega))
                 have HK4 := Lib.hid (HKa4.out.grown hgr4 (fun er => by have := (HOa4.out.lt _ er.symm).1; omega))
                 obtain ⟨c0, c1, c2, c3, c4⟩ := HK4.out.five
                 clear h4 hgr4)
    go_ret
    refine ⟨v4, rfl, ?_, HB4.out⟩
    have := HO4.out
    have ea : ((A : Int)).toNat = A := by omega
    simp only [bytesP, ea]
    simp only [List.append_assoc] at this ⊢
    exact own_mono this (by omega)
end Go.Proofs.YtjdjbonljohnbaaGreatDoor
/-
  ptr.Row, whatever pointers it is handed; nothing that was there is written.
-/
namespace Go.Proofs.YtjdjbonljohnbaaGreatDoor
open Go.RowKit Go.Shelf
set_option maxRecDepth 100000

/-- A row's first k pointers, and noughts. -/
def rowTo (L : List Pt) (k : Nat) : List UInt8 := (L.take k).flatMap bytesP ++ List.replicate (256 - 16 * k) 0
theorem flat_length : ∀ L : List Pt, (L.flatMap bytesP).length = 16 * L.length
  | [] => rfl
  | p :: L => by rw [List.flatMap_cons, List.length_append, bytesP_length, flat_length L, List.length_cons]; omega
theorem rowTo_length (L : List Pt) (k : Nat) (hk : k ≤ L.length) (h16 : k ≤ 16) : (rowTo L k).length = 256 := by
  rw [rowTo, List.length_append, flat_length, List.length_take, List.length_replicate]
  omega
theorem rowTo_step (L : List Pt) (k : Nat) (hk : k < L.length) (h16 : k < 16) : ovrL (rowTo L k) (16 * k) (bytesP (L.getD k p0)) = rowTo L (k + 1) := by
  have hf : ((L.take k).flatMap bytesP).length = 16 * k := by rw [flat_length, List.length_take]; omega
  have hg : L.getD k p0 = L[k] := by rw [List.getD_eq_getElem?_getD, List.getElem?_eq_getElem hk]; rfl
  have e1 : (rowTo L k).take (16 * k) = (L.take k).flatMap bytesP := by rw [rowTo, ← hf, List.take_left]
  have e2 : (rowTo L k).drop (16 * k + 16) = List.replicate (256 - 16 * (k + 1)) 0 := by
    rw [rowTo, List.drop_append, hf, List.drop_eq_nil_of_le (by omega), List.nil_append, List.drop_replicate]
    congr 1
    omega
  rw [ovrL, bytesP_length, e1, e2, hg, rowTo, List.take_succ_eq_append_getElem hk, List.flatMap_append, List.append_assoc]
  simp
/-- What Row answers. -/
def rowO (L : List Pt) : List UInt8 × Int := if 16 < L.length then ([], 4) else if ∀ p ∈ L, MayP p then (rowTo L L.length, 0) else ([], 8)

theorem make_256 : ∀ W : World, (Instr.makeSlice 26 (.int .i64 256) (.int .i64 256)).run Tryz.prog W = .ok (.slice (some ⟨W.heap.size, 0, none⟩) 256 256) (W.alloc (.cells (ar (List.replicate 256 0)) 5)) := mkBytes 256 (by omega)
set_option maxHeartbeats 1000000 in
theorem Row_any (a : Option Addr) (len cap : Nat) (L : List Pt) (w : World) (hL : Pts w w.heap.size a len cap L) (hz : Szs w) : Calls Tryz.prog 18 #[.slice a len cap] w (OutB (rowO L).1 (rowO L).2 w) := by
  have hl := hL.1
  have i0 : (0 : Int) ≤ (len : Int) := by omega
  have i1 : (len : Int) ≤ 9223372036854775807 := by have h1 := hL.2.1; have h2 := hL.2.2.1; unfold maxLen at h2; omega
  rw [rowO]
  by_cases h16 : 16 < L.length
  · rw [if_pos h16]
    have i2 : (16 : Int) < (len : Int) := by omega
    clear hz
    have HLL := Lib.hid hL; clear hL
    have HH := Lib.hid h16; clear h16
    clear hl
    go_enter Tryz.func18, Tryz.ntmps18
    go_wp2_with fail
    go_ret2
    exact outB_no rfl (Below.refl _ _)
  · rw [if_neg h16]
    have i2 : ¬ (16 : Int) < (len : Int) := by omega
    obtain ⟨R, hR⟩ : ∃ R, (if ∀ p ∈ L, MayP p then (rowTo L L.length, (0 : Int)) else ([], 8)) = R := ⟨_, rfl⟩
    rw [hR]
    have HRR := Lib.hid hR; clear hR
    have hmk := make_256
    have HLL := Lib.hid hL; clear hL
    have HH := Lib.hid h16; clear h16
    have HZ := Lib.hid hz; clear hz
    have HLN := Lib.hid hl; clear hl
    go_enter Tryz.func18, Tryz.ntmps18
    go_wp2_with fail
    go_loopw [15] (fun i wr => ∃ k : Nat, k ≤ len ∧ i = .int .i64 k ∧ (∀ j, j < k → MayP (L.getD j p0)) ∧ Blk wr w.heap.size 5 (ar (rowTo L k)) ∧ Below w.heap.size w wr) (fun i _ => len - (intOf i).toNat)
    case atStart =>
      refine ⟨0, Nat.zero_le _, rfl, fun j hj => absurd hj (Nat.not_lt_zero _), ?_, (Below.refl _ w).alloc (Nat.le_refl _) _⟩
      have : rowTo L 0 = List.replicate 256 0 := by simp [rowTo]
      rw [this]
      exact Blk.new w _ _
    case round =>
      obtain ⟨k, hk, rfl, hmay, hx, hb⟩ := hrel
      have k0 : (0 : Int) ≤ k := by omega
      have HX := Lib.hid hx; clear hx
      have HB := Lib.hid hb; clear hb
      have HM := Lib.hid hmay; clear hmay
      by_cases hlt : k < len
      · have k1 : (k : Int) < len := by omega
        have k16 : k < 16 := by have := HH.out; have := HLN.out; omega
        have k2 : (k : Int) ≤ 15 := by omega
        obtain ⟨b, off, ea, hblt, hwf, c0, c1, c2, c3, c4⟩ := (HLL.out.below HB.out).cells k hlt
        have hstep := rowTo_step L k (by rw [HLN.out]; exact hlt) k16
        have hlen := rowTo_length L k (by rw [HLN.out]; exact hk) (by omega)
        have HC := HM.out
        obtain ⟨P, hP⟩ : ∃ P, L.getD k p0 = P := ⟨_, rfl⟩
        rw [hP] at hwf c0 c1 c2 c3 c4 hstep
        have hwrite := Write_any P hwf (wr.alloc (.cells (ptC P).toArray 32)) (HZ.out.step (HB.out.alloc HB.out.size _))
        have HBA := Lib.hid (HB.out.alloc HB.out.size (.cells (ptC P).toArray 32))
        have HXA := Lib.hid (HX.out.alloc (.cells (ptC P).toArray 32))
        have HST := Lib.hid hstep; clear hstep
        have HLE := Lib.hid hlen; clear hlen
        have HP := Lib.hid hP; clear hP
        subst ea
        rw [pwriteO] at hwrite
        by_cases h : MayP P
        · rw [if_pos h] at hwrite
          have HH1 := Lib.hid h; clear h HC
          obtain ⟨a', b', c', d', e'⟩ := P
          have HW := Lib.hid hwrite; clear hwrite
          have hsl := fun W => slice_from_l W w.heap.size 0 256 256 (16 * k) (by omega) (Nat.le_refl _)
          have ek : ((16 * k : Nat) : Int) = (k : Int) * 16 := by omega
          simp only [ek, Nat.zero_add] at hsl
          clear ek
          go_wp2_with (first
            | (go_at_call 37
               refine HW.out.mono ?_
               rintro ev w1 ⟨v1, rfl, o1, b1⟩
               rw [bytesP_length] at o1
               obtain ⟨A1, C1, rfl, s1⟩ := own_to o1
               have HS1 := Lib.hid s1
               have HB1 := Lib.hid (HBA.out.trans (b1.mono HBA.out.size))
               have HX1 := Lib.hid (HXA.out.below b1 HXA.out.lt)
               clear o1 s1 b1)
            | (with_reducible refine copyAt ?_
               refine wpList_copy_part rfl (.tmp 31) (.tmp 32) rfl w.heap.size (16 * k) (256 - 16 * k) 16 (256 - 16 * k) rfl (rowTo L k) HX1.out w1.heap.size A1 C1 (bytesP (a', b', c', d', e')) rfl HS1.out (by omega) (by omega) (by rw [HLE.out]; omega) ?_
               intro w2 x2 g2 z2
               rw [HST.out] at x2
               have HX2 := Lib.hid x2
               have HB2 := Lib.hid (below_only HB1.out (Nat.le_refl _) g2 HB1.out.size)
               clear x2 g2 z2))
          go_roundw
          case rel =>
            refine ⟨k + 1, by omega, by go_num, fun j hj => ?_, HX2.out, HB2.out⟩
            by_cases e : j = k
            · subst e
              rw [HP.out]
              exact HH1.out
            · exact HM.out j (by omega)
          case measure => simp [intOf]; omega
        · rw [if_neg h] at hwrite
          have hno : ¬ ∀ p ∈ L, MayP p := fun hall => h (by
            rw [← HP.out, List.getD_eq_getElem?_getD, List.getElem?_eq_getElem (by rw [HLN.out]; exact hlt)]
            exact hall _ (List.getElem_mem _))
          have hR := HRR.out
          rw [if_neg hno] at hR
          subst hR
          clear h HC hno
          obtain ⟨a', b', c', d', e'⟩ := P
          have HW := Lib.hid hwrite; clear hwrite
          go_wp2_with (go_at_call 37
                       refine HW.out.mono ?_
                       rintro ev w1 ⟨v1, rfl, o1, b1⟩
                       have HB1 := Lib.hid (HBA.out.trans (b1.mono HBA.out.size))
                       clear o1 b1)
          go_ret2
          exact outB_no rfl HB1.out
      · obtain rfl : k = len := by omega
        have hall : ∀ p ∈ L, MayP p := fun p hp => by
          obtain ⟨i, hi, rfl⟩ := List.getElem_of_mem hp
          have := HM.out i (by rw [← HLN.out]; exact hi)
          rwa [List.getD_eq_getElem?_getD, List.getElem?_eq_getElem hi] at this
        have hR := HRR.out
        rw [if_pos hall] at hR
        subst hR
        clear hall
        have hlen := rowTo_length L L.length (Nat.le_refl _) (by have := HH.out; omega)
        have HLE := Lib.hid hlen; clear hlen
        go_wp2_with fail
        go_ret2
        refine ⟨_, rfl, ?_, HB.out⟩
        have hx := HX.out
        rw [← HLN.out] at hx
        show wr.ownsRow _ _ _ _ (rowTo L L.length).length _
        rw [HLE.out]
        refine ⟨by simp [vals, HLE.out], .inr ⟨w.heap.size, 256, _, rfl, Nat.le_refl _, hx, Nat.le_refl _, by unfold maxLen; omega, by rw [ar_size, HLE.out], ?_⟩⟩
        show (ar (rowTo L L.length)).toList.take _ = vals (rowTo L L.length)
        rw [List.take_of_length_le (by simp [ar, vals, HLE.out])]
        simp [ar]
end Go.Proofs.YtjdjbonljohnbaaGreatDoor
/-
  The document's own Packed and Row of pointers.
-/
namespace Go.Proofs.YtjdjbonljohnbaaGreatDoor
open Go.RowKit Go.Shelf
set_option maxRecDepth 100000

/-- The bytes of the first k places of a row. -/
def packTo (L : List Pt) (k : Nat) : List UInt8 := (List.range k).flatMap fun i => bytesP (L.getD i p0)
theorem packTo_length (L : List Pt) : ∀ k, (packTo L k).length = 16 * k
  | 0 => rfl
  | k + 1 => by
    rw [packTo, List.range_succ, List.flatMap_append, List.length_append]
    have := packTo_length L k
    rw [packTo] at this
    rw [this, List.flatMap_cons, List.flatMap_nil, List.append_nil, bytesP_length]
    omega
theorem packTo_step (L : List Pt) (k : Nat) : packTo L (k + 1) = packTo L k ++ bytesP (L.getD k p0) := by
  rw [packTo, List.range_succ, List.flatMap_append, List.flatMap_cons, List.flatMap_nil, List.append_nil]
  rfl
theorem bytesP_none : bytesP p0 = List.replicate 16 0 := by decide +kernel
theorem packTo_nil : ∀ m, packTo [] m = List.replicate (16 * m) 0
  | 0 => rfl
  | m + 1 => by
    rw [packTo_step, packTo_nil m]
    show _ ++ bytesP p0 = _
    rw [bytesP_none, List.replicate_append_replicate]
    congr 1
theorem packTo_all : ∀ (L : List Pt) (m : Nat), L.length ≤ m → packTo L m = L.flatMap bytesP ++ List.replicate (16 * (m - L.length)) 0
  | [], m, _ => by rw [packTo_nil]; rfl
  | p :: L, m + 1, h => by
    have ih := packTo_all L m (by simpa using h)
    rw [packTo] at ih ⊢
    rw [List.range_succ_eq_map, List.flatMap_cons, List.flatMap_map]
    show bytesP p ++ (List.range m).flatMap (fun i => bytesP (L.getD i p0)) = _
    rw [ih, List.flatMap_cons, List.append_assoc, List.length_cons, Nat.add_sub_add_right]
theorem packTo_row (L : List Pt) (h : L.length ≤ 16) : packTo L 16 = rowTo L L.length := by
  rw [packTo_all L 16 h, rowTo, List.take_length]
  congr 2
  omega
theorem getD_may {L : List Pt} (h : ∀ p ∈ L, MayP p) (i : Nat) : MayP (L.getD i p0) := by
  rcases Nat.lt_or_ge i L.length with hi | hi
  · rw [List.getD_eq_getElem?_getD, List.getElem?_eq_getElem hi]
    exact h _ (List.getElem_mem hi)
  · rw [List.getD_eq_getElem?_getD, List.getElem?_eq_none hi]
    exact may_p0
theorem getD_wf {L : List Pt} (h : ∀ p ∈ L, WfP p) (i : Nat) : WfP (L.getD i p0) := by
  rcases Nat.lt_or_ge i L.length with hi | hi
  · rw [List.getD_eq_getElem?_getD, List.getElem?_eq_getElem hi]
    exact h _ (List.getElem_mem hi)
  · rw [List.getD_eq_getElem?_getD, List.getElem?_eq_none hi]
    exact wf_p0
set_option maxHeartbeats 2000000 in
theorem rpPacked_any (a : Option Addr) (len cap : Nat) (L : List Pt) (w : World) (hL : Pts w w.heap.size a len cap L) (h16 : len ≤ 16) (hmay : ∀ p ∈ L, MayP p) : Calls Tryz.prog 45 #[.slice a len cap] w (OwnV 256 (rowTo L L.length) w) := by
  have hl := hL.1
  have i0 : (0 : Int) ≤ (len : Int) := by omega
  have i1 : (len : Int) ≤ 16 := by omega
  have hmk : ∀ W : World, (Instr.makeSlice 26 (.int .i64 0) (.int .i64 256)).run Tryz.prog W = _ := make_room 256 (by omega)
  have hpk := packTo_row L (by omega)
  rw [← hpk]
  have HL := Lib.hid hL; clear hL
  have HM := Lib.hid hmay; clear hmay
  have HLN := Lib.hid hl; clear hl hpk
  go_enter Tryz.func45, Tryz.ntmps45
  go_wp2_with fail
  go_loopw [3, 4] (fun v i wr => ∃ k : Nat, k ≤ 16 ∧ i = .int .i64 k ∧ wr.ownsRow w.heap.size 5 1 v (16 * k) (vals (packTo L k)) ∧ Below w.heap.size w wr) (fun _ i _ => 16 - (intOf i).toNat)
  case atStart => exact ⟨0, Nat.zero_le _, rfl, own_room0 w 256 (by omega), (Below.refl _ w).alloc (Nat.le_refl _) _⟩
  case round =>
    obtain ⟨k, hk, rfl, ho, hb⟩ := hrel
    have k0 : (0 : Int) ≤ k := by omega
    have HO := Lib.hid ho; clear ho
    have HB := Lib.hid hb; clear hb
    obtain ⟨v, hv⟩ : ∃ v : Value, u3 = v := ⟨_, rfl⟩
    rw [hv] at HO ⊢
    clear hv
    by_cases hlt : k < 16
    · have k1 : (k : Int) < 16 := by omega
      have hst := packTo_step L k
      have hmP := getD_may HM.out k
      have hwP := getD_wf (fun p hp => HL.out.wf hp) k
      by_cases hin : k < len
      · have k2 : (k : Int) < len := by omega
        obtain ⟨b, off, ea, hblt, _, e0, e1, e2, e3, e4⟩ := (HL.out.below HB.out).cells k hin
        subst ea
        have hob := HL.out.2.1
        have hbZ := HB.out.alloc HB.out.size (.cells #[.int .i64 0, .int .u32 0, .int .u32 0, .int .u32 0, .int .u32 0] 32)
        have c0 : ∀ o : Obj, (wr.alloc o).cell? ⟨b, off + k * 5, none⟩ = _ := fun o => (((Below.refl wr.heap.size wr).alloc (Nat.le_refl _) o).cell (p := ⟨b, off + k * 5, none⟩) (World.block_lt_of_cell? wr _ e0)).trans e0
        have c1 : ∀ o : Obj, (wr.alloc o).cell? ⟨b, off + k * 5 + 1, none⟩ = _ := fun o => (((Below.refl wr.heap.size wr).alloc (Nat.le_refl _) o).cell (p := ⟨b, off + k * 5 + 1, none⟩) (World.block_lt_of_cell? wr _ e1)).trans e1
        have c2 : ∀ o : Obj, (wr.alloc o).cell? ⟨b, off + k * 5 + 2, none⟩ = _ := fun o => (((Below.refl wr.heap.size wr).alloc (Nat.le_refl _) o).cell (p := ⟨b, off + k * 5 + 2, none⟩) (World.block_lt_of_cell? wr _ e2)).trans e2
        have c3 : ∀ o : Obj, (wr.alloc o).cell? ⟨b, off + k * 5 + 3, none⟩ = _ := fun o => (((Below.refl wr.heap.size wr).alloc (Nat.le_refl _) o).cell (p := ⟨b, off + k * 5 + 3, none⟩) (World.block_lt_of_cell? wr _ e3)).trans e3
        have c4 : ∀ o : Obj, (wr.alloc o).cell? ⟨b, off + k * 5 + 4, none⟩ = _ := fun o => (((Below.refl wr.heap.size wr).alloc (Nat.le_refl _) o).cell (p := ⟨b, off + k * 5 + 4, none⟩) (World.block_lt_of_cell? wr _ e4)).trans e4
        clear e0 e1 e2 e3 e4
        obtain ⟨P, hP⟩ : ∃ P, L.getD k p0 = P := ⟨_, rfl⟩
        rw [hP] at c0 c1 c2 c3 c4 hst hmP hwP
        obtain ⟨a', b', c', d', e'⟩ := P
        have HBY := Lib.hid (fun W => rpBytes_any (a', b', c', d', e') hwP hmP.room W)
        have HST := Lib.hid hst
        clear hst hmP hwP hP hblt hbZ
        go_wp2_with fail
        refine (HBY.out _).mono ?_
        rintro ev w1 ⟨x1, rfl, o1, b1⟩
        obtain ⟨A1, C1, rfl, s1⟩ := own_to o1
        have bx := (Below.refl wr.heap.size wr).alloc (Nat.le_refl _) (.cells #[.int .i64 a', .int .u32 (b' : Int), .int .u32 (c' : Int), .int .u32 (d' : Int), .int .u32 (e' : Int)] 32)
        have b2 := bx.trans (b1.mono bx.size)
        have HB1 := Lib.hid (HB.out.trans (b2.mono HB.out.size))
        have HO1 := Lib.hid (own_below HO.out b2)
        have HS1 := Lib.hid s1
        clear o1 b1 s1 bx b2
        go_wp2_with (at_builtin
                     refine wpList_append_bsl rfl (.tmp 20) (.tmp 22) rfl w.heap.size v (16 * k) _ rfl HO1.out w1.heap.size A1 16 C1 _ rfl HS1.out (by omega) HB1.out.size ?_
                     intro v2 w2 h2 hg2
                     rw [← HST.out] at h2
                     have HO2 := Lib.hid h2
                     have HB2 := Lib.hid (app_below HB1.out HO1.out hg2 HB1.out.size)
                     clear h2 hg2)
        go_roundw
        case rel => exact ⟨k + 1, by omega, by go_num, by rw [Nat.mul_add, Nat.mul_one]; exact HO2.out, HB2.out⟩
        case measure => simp [intOf]; omega
      · have k2 : ¬ (k : Int) < len := by omega
        have hP : L.getD k p0 = p0 := by rw [List.getD_eq_getElem?_getD, List.getElem?_eq_none (by have := HLN.out; omega)]; rfl
        rw [hP] at hst hmP hwP
        have HBY := Lib.hid (fun W => rpBytes_any p0 hwP hmP.room W)
        have HST := Lib.hid hst
        clear hst hmP hwP hP
        go_wp2_with fail
        refine (HBY.out _).mono ?_
        rintro ev w1 ⟨x1, rfl, o1, b1⟩
        obtain ⟨A1, C1, rfl, s1⟩ := own_to o1
        have bx := (Below.refl wr.heap.size wr).alloc (Nat.le_refl _) (.cells #[.int .i64 0, .int .u32 0, .int .u32 0, .int .u32 0, .int .u32 0] 32)
        have b2 := bx.trans (b1.mono bx.size)
        have HB1 := Lib.hid (HB.out.trans (b2.mono HB.out.size))
        have HO1 := Lib.hid (own_below HO.out b2)
        have HS1 := Lib.hid s1
        clear o1 b1 s1 bx b2
        go_wp2_with (at_builtin
                     refine wpList_append_bsl rfl (.tmp 20) (.tmp 22) rfl w.heap.size v (16 * k) _ rfl HO1.out w1.heap.size A1 16 C1 _ rfl HS1.out (by omega) HB1.out.size ?_
                     intro v2 w2 h2 hg2
                     rw [← HST.out] at h2
                     have HO2 := Lib.hid h2
                     have HB2 := Lib.hid (app_below HB1.out HO1.out hg2 HB1.out.size)
                     clear h2 hg2)
        go_roundw
        case rel => exact ⟨k + 1, by omega, by go_num, by rw [Nat.mul_add, Nat.mul_one]; exact HO2.out, HB2.out⟩
        case measure => simp [intOf]; omega
    · obtain rfl : k = 16 := by omega
      go_wp2_with fail
      go_ret
      exact ⟨_, rfl, HO.out, HB.out⟩
end Go.Proofs.YtjdjbonljohnbaaGreatDoor
/-
  The document's own Write and Read of pointers.
-/
namespace Go.Proofs.YtjdjbonljohnbaaGreatDoor
open Go.RowKit Go.Shelf
set_option maxRecDepth 100000

set_option maxHeartbeats 4000000 in
theorem rpRead_any (a : Option Addr) (len cap : Nat) (s : List UInt8) (w : World) (hB : Bsl w w.heap.size a len cap s) : Calls Tryz.prog 97 #[.slice a len cap] w (OutP (preadO s).1 (preadO s).2 w) := by
  have hl := hB.1
  have hmx : Tryz.prog.follows Departure.mixedOrders = true := by kernel_rfl
  rw [preadO]
  have hk : Blk (w.alloc (.cells #[.int .i64 0, .int .u32 0, .int .u32 0, .int .u32 0, .int .u32 0] 32)) w.heap.size 32 #[.int .i64 0, .int .u32 0, .int .u32 0, .int .u32 0, .int .u32 0] := Blk.new w _ _
  have hb1 : Below w.heap.size w (w.alloc (.cells #[.int .i64 0, .int .u32 0, .int .u32 0, .int .u32 0, .int .u32 0] 32)) := (Below.refl _ w).alloc (Nat.le_refl _) _
  have HK := Lib.hid hk; clear hk
  have HB1 := Lib.hid hb1; clear hb1
  have i0 : (0 : Int) ≤ (len : Int) := by omega
  have i1 : (len : Int) ≤ 9223372036854775807 := by have h1 := hB.2.1; have h2 := hB.2.2.1; unfold maxLen at h2; omega
  by_cases h16 : s.length = 16
  · rw [if_pos h16]
    obtain rfl : len = 16 := by omega
    obtain ⟨b, off, ea, hblt, hcell⟩ := hB.2.2.2.2 (by omega)
    subst ea
    have hcap := hB.2.1
    have hm := fun w => rpMay_any (getP s) w
    have l0 := leN_le s 0 1
    obtain ⟨x, hx⟩ : ∃ x : Nat, (s[0]'(by omega)).toNat = x := ⟨_, rfl⟩
    have c0 := hcell 0 (by omega)
    rw [hx, Nat.add_zero] at c0
    have hx0 : leN ((s.drop 0).take 1) = x := by
      rw [List.drop_zero, ← hx]
      obtain ⟨y, r, rfl⟩ : ∃ y r, s = y :: r := List.exists_cons_of_length_pos (by omega)
      simp [leN]
    rw [getP] at hm ⊢
    rw [hx0] at hm l0 ⊢
    clear hx0 hx
    have hw0 := hB.win 1 3 (by omega)
    have hg0 : ∀ W, Below w.heap.size w W → Calls Tryz.prog 119 #[.slice (some ⟨b, off + 1, none⟩) 3 (cap - 1)] W fun e w' => e = .returned (.int .u32 (leN ((s.drop 1).take 3) : Nat)) ∧ W = w' := fun W hW => rpGet_any _ 3 _ _ W ((hw0.below hW).more hW.size) (by omega)
    have sl0 : ∀ X : World, (Instr.slice 26 (.slice (some ⟨b, off, none⟩) 16 cap) (some (.int .i64 1)) (some (.int .i64 4)) none).run Tryz.prog X = .ok (.slice (some ⟨b, off + 1, none⟩) 3 (cap - 1)) X := fun X => slice_lh X b off 16 cap 1 3 (by omega) (by omega)
    obtain ⟨n1, hn1⟩ : ∃ n, leN ((s.drop 1).take 3) = n := ⟨_, rfl⟩
    rw [hn1] at hg0 hm ⊢
    clear hn1 hw0
    have hw1 := hB.win 4 4 (by omega)
    have hg1 : ∀ W, Below w.heap.size w W → Calls Tryz.prog 119 #[.slice (some ⟨b, off + 4, none⟩) 4 (cap - 4)] W fun e w' => e = .returned (.int .u32 (leN ((s.drop 4).take 4) : Nat)) ∧ W = w' := fun W hW => rpGet_any _ 4 _ _ W ((hw1.below hW).more hW.size) (by omega)
    have sl1 : ∀ X : World, (Instr.slice 26 (.slice (some ⟨b, off, none⟩) 16 cap) (some (.int .i64 4)) (some (.int .i64 8)) none).run Tryz.prog X = .ok (.slice (some ⟨b, off + 4, none⟩) 4 (cap - 4)) X := fun X => slice_lh X b off 16 cap 4 4 (by omega) (by omega)
    obtain ⟨n2, hn2⟩ : ∃ n, leN ((s.drop 4).take 4) = n := ⟨_, rfl⟩
    rw [hn2] at hg1 hm ⊢
    clear hn2 hw1
    have hw2 := hB.win 8 4 (by omega)
    have hg2 : ∀ W, Below w.heap.size w W → Calls Tryz.prog 119 #[.slice (some ⟨b, off + 8, none⟩) 4 (cap - 8)] W fun e w' => e = .returned (.int .u32 (leN ((s.drop 8).take 4) : Nat)) ∧ W = w' := fun W hW => rpGet_any _ 4 _ _ W ((hw2.below hW).more hW.size) (by omega)
    have sl2 : ∀ X : World, (Instr.slice 26 (.slice (some ⟨b, off, none⟩) 16 cap) (some (.int .i64 8)) (some (.int .i64 12)) none).run Tryz.prog X = .ok (.slice (some ⟨b, off + 8, none⟩) 4 (cap - 8)) X := fun X => slice_lh X b off 16 cap 8 4 (by omega) (by omega)
    obtain ⟨n3, hn3⟩ : ∃ n, leN ((s.drop 8).take 4) = n := ⟨_, rfl⟩
    rw [hn3] at hg2 hm ⊢
    clear hn3 hw2
    have hw3 := hB.win 12 4 (by omega)
    have hg3 : ∀ W, Below w.heap.size w W → Calls Tryz.prog 119 #[.slice (some ⟨b, off + 12, none⟩) 4 (cap - 12)] W fun e w' => e = .returned (.int .u32 (leN ((s.drop 12).take 4) : Nat)) ∧ W = w' := fun W hW => rpGet_any _ 4 _ _ W ((hw3.below hW).more hW.size) (by omega)
    have sl3 : ∀ X : World, (Instr.slice 26 (.slice (some ⟨b, off, none⟩) 16 cap) (some (.int .i64 12)) (some (.int .i64 16)) none).run Tryz.prog X = .ok (.slice (some ⟨b, off + 12, none⟩) 4 (cap - 12)) X := fun X => slice_lh X b off 16 cap 12 4 (by omega) (by omega)
    obtain ⟨n4, hn4⟩ : ∃ n, leN ((s.drop 12).take 4) = n := ⟨_, rfl⟩
    rw [hn4] at hg3 hm ⊢
    clear hn4 hw3
    obtain ⟨n0, hn0⟩ : ∃ n : Nat, x = n := ⟨_, rfl⟩
    rw [hn0] at c0 hm l0 ⊢
    clear hn0
    have eW : IntKind.i64.wrap (n0 : Int) = (n0 : Int) := IntWalk.i64_in _ (by omega)
    have HX0 := Lib.hid c0
    obtain ⟨P, hP⟩ : ∃ P : Pt, ((n0 : Int), n1, n2, n3, n4) = P := ⟨_, rfl⟩
    have HP := Lib.hid hP
    have HC := Lib.hid hcell
    have HC0 : Hid (∀ X, Below (w.heap.size + 1) (w.alloc (.cells #[.int .i64 0, .int .u32 0, .int .u32 0, .int .u32 0, .int .u32 0] 32)).drew X → Calls Tryz.prog 119 #[.slice (some ⟨b, off + 1, none⟩) 3 (cap - 1)] X fun e w' => e = .returned (.int .u32 (n1 : Int)) ∧ X = w') := Lib.hid fun X hX => hg0 X ((HB1.out.drew).trans (hX.mono (by omega)))
    have HC1 : Hid (∀ X, Below (w.heap.size + 1) (w.alloc (.cells #[.int .i64 0, .int .u32 0, .int .u32 0, .int .u32 0, .int .u32 0] 32)).drew X → Calls Tryz.prog 119 #[.slice (some ⟨b, off + 4, none⟩) 4 (cap - 4)] X fun e w' => e = .returned (.int .u32 (n2 : Int)) ∧ X = w') := Lib.hid fun X hX => hg1 X ((HB1.out.drew).trans (hX.mono (by omega)))
    have HC2 : Hid (∀ X, Below (w.heap.size + 1) (w.alloc (.cells #[.int .i64 0, .int .u32 0, .int .u32 0, .int .u32 0, .int .u32 0] 32)).drew X → Calls Tryz.prog 119 #[.slice (some ⟨b, off + 8, none⟩) 4 (cap - 8)] X fun e w' => e = .returned (.int .u32 (n3 : Int)) ∧ X = w') := Lib.hid fun X hX => hg2 X ((HB1.out.drew).trans (hX.mono (by omega)))
    have HC3 : Hid (∀ X, Below (w.heap.size + 1) (w.alloc (.cells #[.int .i64 0, .int .u32 0, .int .u32 0, .int .u32 0, .int .u32 0] 32)).drew X → Calls Tryz.prog 119 #[.slice (some ⟨b, off + 12, none⟩) 4 (cap - 12)] X fun e w' => e = .returned (.int .u32 (n4 : Int)) ∧ X = w') := Lib.hid fun X hX => hg3 X ((HB1.out.drew).trans (hX.mono (by omega)))
    have HBL := Lib.hid hblt
    clear hg0 hg1 hg2 hg3 hcell c0 hP hl hB h16 hblt
    have HM := Lib.hid hm
    clear hm
    obtain ⟨R, hR⟩ : ∃ R : Pt × Int, (if MayP ((n0 : Int), n1, n2, n3, n4) then (((n0 : Int), n1, n2, n3, n4), (0 : Int)) else (p0, 8)) = R := ⟨_, rfl⟩
    rw [hR]
    have HR := Lib.hid hR
    clear hR
    go_enter Tryz.func97, Tryz.ntmps97
    go_wp2_with fail
    go_cut [4] from 9 to 25 (fun v wx => ∃ ga, v = .pointer (some ⟨ga, 0, none⟩) ∧ w.heap.size < ga ∧ Blk wx ga 32 #[.int .i64 (n0 : Int), .int .u32 (n1 : Int), .int .u32 (n2 : Int), .int .u32 (n3 : Int), .int .u32 (n4 : Int)] ∧ Below w.heap.size w wx ∧ Blk wx w.heap.size 32 #[.int .i64 0, .int .u32 0, .int .u32 0, .int .u32 0, .int .u32 0])
    case first =>
      obtain ⟨wd, hwd⟩ : ∃ wd, (w.alloc (Obj.cells #[.int .i64 0, .int .u32 0, .int .u32 0, .int .u32 0, .int .u32 0] 32)).drew = wd := ⟨_, rfl⟩
      have HBd := Lib.hid (show Below w.heap.size w wd by rw [← hwd]; exact HB1.out.drew)
      have HKd := Lib.hid (show Blk wd w.heap.size 32 #[.int .i64 0, .int .u32 0, .int .u32 0, .int .u32 0, .int .u32 0] by rw [← hwd]; exact HK.out.drew)
      have HZd := Lib.hid (show wd.heap.size = w.heap.size + 1 by rw [← hwd]; simp)
      rw [hwd, ← HZd.out] at HC0 HC1 HC2 HC3
      have c0 : wd.cell? ⟨b, off, none⟩ = some (.int .u8 (n0 : Int)) := (HBd.out.cell (p := ⟨b, off, none⟩) HBL.out).trans HX0.out
      have C0 := fun X (hX : Below wd.heap.size wd X) => (hX.cell (p := ⟨b, off, none⟩) (World.block_lt_of_cell? wd _ c0)).trans c0
      have hbwd : Below wd.heap.size wd wd := Below.refl _ _
      clear c0
      refine wpI_start (Below wd.heap.size wd) [0, 1, 2, 3, 4, 5, 7, 8, 10, 11, 13, 14, 6, 17, 9, 12, 15, 16, 18] hmx rfl hwd ?_
      clear hwd
      iterate 12 (
        refine wpI_read (v := ?_) hbwd rfl (by kernel_rfl) (by kernel_rfl) (by kernel_rfl) (fun _ _ _ h => h) (.inl ⟨by rfl, ?_⟩) ?_
        rotate_left
        · intro X hX
          have hXa := C0 X hX
          clear hX
          go_simp
          with_reducible rfl
        try simp only [Act.put, List.setIfInBounds_toArray, List.set_cons_zero, List.set_cons_succ])
      clear C0 sl0 sl1 sl2 sl3
      refine wpI_fork rfl rfl (by kernel_rfl) (fun K hK => ?_) (fun K hK => ?_)
      · go_simp
        refine (HC0.out wd hbwd).mono ?_
        rintro ev wx ⟨rfl, rfl⟩
        refine hK _ _ hbwd ?_
        clear hK K
        try simp only [Act.put, List.setIfInBounds_toArray, List.set_cons_zero, List.set_cons_succ]
        refine wpI_turn [9, 17, 12, 15, 16, 18] rfl ?_
        refine wpI_fork rfl rfl (by kernel_rfl) (fun K hK => ?_) (fun K hK => ?_)
        · go_simp
          refine (HC1.out wd hbwd).mono ?_
          rintro ev wx ⟨rfl, rfl⟩
          refine hK _ _ hbwd ?_
          clear hK K
          try simp only [Act.put, List.setIfInBounds_toArray, List.set_cons_zero, List.set_cons_succ]
          refine wpI_turn [12, 17, 15, 16, 18] rfl ?_
          refine wpI_fork rfl rfl (by kernel_rfl) (fun K hK => ?_) (fun K hK => ?_)
          · go_simp
            refine (HC2.out wd hbwd).mono ?_
            rintro ev wx ⟨rfl, rfl⟩
            refine hK _ _ hbwd ?_
            clear hK K
            try simp only [Act.put, List.setIfInBounds_toArray, List.set_cons_zero, List.set_cons_succ]
            refine wpI_turn [15, 17, 16, 18] rfl ?_
            refine wpI_fork rfl rfl (by kernel_rfl) (fun K hK => ?_) (fun K hK => ?_)
            · go_simp
              refine (HC3.out wd hbwd).mono ?_
              rintro ev wx ⟨rfl, rfl⟩
              refine hK _ _ hbwd ?_
              clear hK K
              try simp only [Act.put, List.setIfInBounds_toArray, List.set_cons_zero, List.set_cons_succ]
              refine wpI_turn [16, 17, 18] rfl ?_
              iterate 1 (
                refine wpI_read (v := ?_) hbwd rfl (by kernel_rfl) (by kernel_rfl) (by kernel_rfl) (fun _ _ _ h => h) (.inl ⟨by rfl, ?_⟩) ?_
                rotate_left
                · intro X hX
                  clear hX
                  go_simp
                  with_reducible rfl
                try simp only [Act.put, List.setIfInBounds_toArray, List.set_cons_zero, List.set_cons_succ])
              refine wpI_lone rfl (by kernel_rfl) (fun K hK => ?_)
              go_simp
              have hba := (Below.refl wd.heap.size wd).alloc (Nat.le_refl _) (.cells #[.int .i64 0, .int .u32 0, .int .u32 0, .int .u32 0, .int .u32 0] 32)
              have hxa := Blk.new wd 32 #[.int .i64 0, .int .u32 0, .int .u32 0, .int .u32 0, .int .u32 0]
              obtain ⟨wa, hwa⟩ : ∃ wa, wd.alloc (.cells #[.int .i64 0, .int .u32 0, .int .u32 0, .int .u32 0, .int .u32 0] 32) = wa := ⟨_, rfl⟩
              obtain ⟨ga, hga⟩ : ∃ ga, wd.heap.size = ga := ⟨_, rfl⟩
              have hgl : wd.heap.size ≤ ga := by omega
              rw [hwa] at hba hxa ⊢
              rw [hga] at hxa ⊢
              refine hK _ _ hba ?_
              clear hK K hwa
              try simp only [Act.put, List.setIfInBounds_toArray, List.set_cons_zero, List.set_cons_succ]
              refine wpI_lone rfl (by kernel_rfl) (fun K hK => ?_)
              have d0 := hxa.cell 0
              have d1 := hxa.cell 1
              have d2 := hxa.cell 2
              have d3 := hxa.cell 3
              have d4 := hxa.cell 4
              have hfz := fun i => hxa.frozen i
              go_simp
              have hxs := hxa.set5 (.int .i64 (n0 : Int)) (.int .u32 (n1 : Int)) (.int .u32 (n2 : Int)) (.int .u32 (n3 : Int)) (.int .u32 (n4 : Int))
              have hbs := below_set5 hba hgl (.int .i64 (n0 : Int)) (.int .u32 (n1 : Int)) (.int .u32 (n2 : Int)) (.int .u32 (n3 : Int)) (.int .u32 (n4 : Int))
              obtain ⟨ws, hws⟩ : ∃ ws, set5 wa ga (.int .i64 (n0 : Int)) (.int .u32 (n1 : Int)) (.int .u32 (n2 : Int)) (.int .u32 (n3 : Int)) (.int .u32 (n4 : Int)) = ws := ⟨_, rfl⟩
              rw [hws] at hxs hbs
              simp only [set5] at hws
              rw [hws]
              refine hK _ _ hbs ?_
              clear hK K d0 d1 d2 d3 d4 hfz hws
              try simp only [Act.put, List.setIfInBounds_toArray, List.set_cons_zero, List.set_cons_succ]
              refine wpI_done (by kernel_rfl) ?_
              go_wp2_with fail
              go_meet
              exact ⟨ga, rfl, by have := HZd.out; omega, hxs, HBd.out.trans (hbs.mono HBd.out.size), HKd.out.below hbs HKd.out.lt⟩
            · go_simp
              have hba := (Below.refl wd.heap.size wd).alloc (Nat.le_refl _) (.cells #[.int .i64 0, .int .u32 0, .int .u32 0, .int .u32 0, .int .u32 0] 32)
              have hxa := Blk.new wd 32 #[.int .i64 0, .int .u32 0, .int .u32 0, .int .u32 0, .int .u32 0]
              obtain ⟨wa, hwa⟩ : ∃ wa, wd.alloc (.cells #[.int .i64 0, .int .u32 0, .int .u32 0, .int .u32 0, .int .u32 0] 32) = wa := ⟨_, rfl⟩
              obtain ⟨ga, hga⟩ : ∃ ga, wd.heap.size = ga := ⟨_, rfl⟩
              have hgl : wd.heap.size ≤ ga := by omega
              rw [hwa] at hba hxa ⊢
              rw [hga] at hxa ⊢
              refine hK _ _ hba ?_
              clear hK K hwa
              try simp only [Act.put, List.setIfInBounds_toArray, List.set_cons_zero, List.set_cons_succ]
              refine wpI_lone rfl (by kernel_rfl) (fun K hK => ?_)
              go_simp
              refine (HC3.out wa hba).mono ?_
              rintro ev wx ⟨rfl, rfl⟩
              refine hK _ _ hba ?_
              clear hK K
              try simp only [Act.put, List.setIfInBounds_toArray, List.set_cons_zero, List.set_cons_succ]
              iterate 1 (
                refine wpI_read (v := ?_) hba rfl (by kernel_rfl) (by kernel_rfl) (by kernel_rfl) (fun _ _ _ h => h) (.inl ⟨by rfl, ?_⟩) ?_
                rotate_left
                · intro X hX
                  clear hX
                  go_simp
                  with_reducible rfl
                try simp only [Act.put, List.setIfInBounds_toArray, List.set_cons_zero, List.set_cons_succ])
              refine wpI_lone rfl (by kernel_rfl) (fun K hK => ?_)
              have d0 := hxa.cell 0
              have d1 := hxa.cell 1
              have d2 := hxa.cell 2
              have d3 := hxa.cell 3
              have d4 := hxa.cell 4
              have hfz := fun i => hxa.frozen i
              go_simp
              have hxs := hxa.set5 (.int .i64 (n0 : Int)) (.int .u32 (n1 : Int)) (.int .u32 (n2 : Int)) (.int .u32 (n3 : Int)) (.int .u32 (n4 : Int))
              have hbs := below_set5 hba hgl (.int .i64 (n0 : Int)) (.int .u32 (n1 : Int)) (.int .u32 (n2 : Int)) (.int .u32 (n3 : Int)) (.int .u32 (n4 : Int))
              obtain ⟨ws, hws⟩ : ∃ ws, set5 wa ga (.int .i64 (n0 : Int)) (.int .u32 (n1 : Int)) (.int .u32 (n2 : Int)) (.int .u32 (n3 : Int)) (.int .u32 (n4 : Int)) = ws := ⟨_, rfl⟩
              rw [hws] at hxs hbs
              simp only [set5] at hws
              rw [hws]
              refine hK _ _ hbs ?_
              clear hK K d0 d1 d2 d3 d4 hfz hws
              try simp only [Act.put, List.setIfInBounds_toArray, List.set_cons_zero, List.set_cons_succ]
              refine wpI_done (by kernel_rfl) ?_
              go_wp2_with fail
              go_meet
              exact ⟨ga, rfl, by have := HZd.out; omega, hxs, HBd.out.trans (hbs.mono HBd.out.size), HKd.out.below hbs HKd.out.lt⟩
          · go_simp
            have hba := (Below.refl wd.heap.size wd).alloc (Nat.le_refl _) (.cells #[.int .i64 0, .int .u32 0, .int .u32 0, .int .u32 0, .int .u32 0] 32)
            have hxa := Blk.new wd 32 #[.int .i64 0, .int .u32 0, .int .u32 0, .int .u32 0, .int .u32 0]
            obtain ⟨wa, hwa⟩ : ∃ wa, wd.alloc (.cells #[.int .i64 0, .int .u32 0, .int .u32 0, .int .u32 0, .int .u32 0] 32) = wa := ⟨_, rfl⟩
            obtain ⟨ga, hga⟩ : ∃ ga, wd.heap.size = ga := ⟨_, rfl⟩
            have hgl : wd.heap.size ≤ ga := by omega
            rw [hwa] at hba hxa ⊢
            rw [hga] at hxa ⊢
            refine hK _ _ hba ?_
            clear hK K hwa
            try simp only [Act.put, List.setIfInBounds_toArray, List.set_cons_zero, List.set_cons_succ]
            refine wpI_lone rfl (by kernel_rfl) (fun K hK => ?_)
            go_simp
            refine (HC2.out wa hba).mono ?_
            rintro ev wx ⟨rfl, rfl⟩
            refine hK _ _ hba ?_
            clear hK K
            try simp only [Act.put, List.setIfInBounds_toArray, List.set_cons_zero, List.set_cons_succ]
            refine wpI_lone rfl (by kernel_rfl) (fun K hK => ?_)
            go_simp
            refine (HC3.out wa hba).mono ?_
            rintro ev wx ⟨rfl, rfl⟩
            refine hK _ _ hba ?_
            clear hK K
            try simp only [Act.put, List.setIfInBounds_toArray, List.set_cons_zero, List.set_cons_succ]
            iterate 1 (
              refine wpI_read (v := ?_) hba rfl (by kernel_rfl) (by kernel_rfl) (by kernel_rfl) (fun _ _ _ h => h) (.inl ⟨by rfl, ?_⟩) ?_
              rotate_left
              · intro X hX
                clear hX
                go_simp
                with_reducible rfl
              try simp only [Act.put, List.setIfInBounds_toArray, List.set_cons_zero, List.set_cons_succ])
            refine wpI_lone rfl (by kernel_rfl) (fun K hK => ?_)
            have d0 := hxa.cell 0
            have d1 := hxa.cell 1
            have d2 := hxa.cell 2
            have d3 := hxa.cell 3
            have d4 := hxa.cell 4
            have hfz := fun i => hxa.frozen i
            go_simp
            have hxs := hxa.set5 (.int .i64 (n0 : Int)) (.int .u32 (n1 : Int)) (.int .u32 (n2 : Int)) (.int .u32 (n3 : Int)) (.int .u32 (n4 : Int))
            have hbs := below_set5 hba hgl (.int .i64 (n0 : Int)) (.int .u32 (n1 : Int)) (.int .u32 (n2 : Int)) (.int .u32 (n3 : Int)) (.int .u32 (n4 : Int))
            obtain ⟨ws, hws⟩ : ∃ ws, set5 wa ga (.int .i64 (n0 : Int)) (.int .u32 (n1 : Int)) (.int .u32 (n2 : Int)) (.int .u32 (n3 : Int)) (.int .u32 (n4 : Int)) = ws := ⟨_, rfl⟩
            rw [hws] at hxs hbs
            simp only [set5] at hws
            rw [hws]
            refine hK _ _ hbs ?_
            clear hK K d0 d1 d2 d3 d4 hfz hws
            try simp only [Act.put, List.setIfInBounds_toArray, List.set_cons_zero, List.set_cons_succ]
            refine wpI_done (by kernel_rfl) ?_
            go_wp2_with fail
            go_meet
            exact ⟨ga, rfl, by have := HZd.out; omega, hxs, HBd.out.trans (hbs.mono HBd.out.size), HKd.out.below hbs HKd.out.lt⟩
        · go_simp
          have hba := (Below.refl wd.heap.size wd).alloc (Nat.le_refl _) (.cells #[.int .i64 0, .int .u32 0, .int .u32 0, .int .u32 0, .int .u32 0] 32)
          have hxa := Blk.new wd 32 #[.int .i64 0, .int .u32 0, .int .u32 0, .int .u32 0, .int .u32 0]
          obtain ⟨wa, hwa⟩ : ∃ wa, wd.alloc (.cells #[.int .i64 0, .int .u32 0, .int .u32 0, .int .u32 0, .int .u32 0] 32) = wa := ⟨_, rfl⟩
          obtain ⟨ga, hga⟩ : ∃ ga, wd.heap.size = ga := ⟨_, rfl⟩
          have hgl : wd.heap.size ≤ ga := by omega
          rw [hwa] at hba hxa ⊢
          rw [hga] at hxa ⊢
          refine hK _ _ hba ?_
          clear hK K hwa
          try simp only [Act.put, List.setIfInBounds_toArray, List.set_cons_zero, List.set_cons_succ]
          refine wpI_lone rfl (by kernel_rfl) (fun K hK => ?_)
          go_simp
          refine (HC1.out wa hba).mono ?_
          rintro ev wx ⟨rfl, rfl⟩
          refine hK _ _ hba ?_
          clear hK K
          try simp only [Act.put, List.setIfInBounds_toArray, List.set_cons_zero, List.set_cons_succ]
          refine wpI_lone rfl (by kernel_rfl) (fun K hK => ?_)
          go_simp
          refine (HC2.out wa hba).mono ?_
          rintro ev wx ⟨rfl, rfl⟩
          refine hK _ _ hba ?_
          clear hK K
          try simp only [Act.put, List.setIfInBounds_toArray, List.set_cons_zero, List.set_cons_succ]
          refine wpI_lone rfl (by kernel_rfl) (fun K hK => ?_)
          go_simp
          refine (HC3.out wa hba).mono ?_
          rintro ev wx ⟨rfl, rfl⟩
          refine hK _ _ hba ?_
          clear hK K
          try simp only [Act.put, List.setIfInBounds_toArray, List.set_cons_zero, List.set_cons_succ]
          iterate 1 (
            refine wpI_read (v := ?_) hba rfl (by kernel_rfl) (by kernel_rfl) (by kernel_rfl) (fun _ _ _ h => h) (.inl ⟨by rfl, ?_⟩) ?_
            rotate_left
            · intro X hX
              clear hX
              go_simp
              with_reducible rfl
            try simp only [Act.put, List.setIfInBounds_toArray, List.set_cons_zero, List.set_cons_succ])
          refine wpI_lone rfl (by kernel_rfl) (fun K hK => ?_)
          have d0 := hxa.cell 0
          have d1 := hxa.cell 1
          have d2 := hxa.cell 2
          have d3 := hxa.cell 3
          have d4 := hxa.cell 4
          have hfz := fun i => hxa.frozen i
          go_simp
          have hxs := hxa.set5 (.int .i64 (n0 : Int)) (.int .u32 (n1 : Int)) (.int .u32 (n2 : Int)) (.int .u32 (n3 : Int)) (.int .u32 (n4 : Int))
          have hbs := below_set5 hba hgl (.int .i64 (n0 : Int)) (.int .u32 (n1 : Int)) (.int .u32 (n2 : Int)) (.int .u32 (n3 : Int)) (.int .u32 (n4 : Int))
          obtain ⟨ws, hws⟩ : ∃ ws, set5 wa ga (.int .i64 (n0 : Int)) (.int .u32 (n1 : Int)) (.int .u32 (n2 : Int)) (.int .u32 (n3 : Int)) (.int .u32 (n4 : Int)) = ws := ⟨_, rfl⟩
          rw [hws] at hxs hbs
          simp only [set5] at hws
          rw [hws]
          refine hK _ _ hbs ?_
          clear hK K d0 d1 d2 d3 d4 hfz hws
          try simp only [Act.put, List.setIfInBounds_toArray, List.set_cons_zero, List.set_cons_succ]
          refine wpI_done (by kernel_rfl) ?_
          go_wp2_with fail
          go_meet
          exact ⟨ga, rfl, by have := HZd.out; omega, hxs, HBd.out.trans (hbs.mono HBd.out.size), HKd.out.below hbs HKd.out.lt⟩
      · go_simp
        have hba := (Below.refl wd.heap.size wd).alloc (Nat.le_refl _) (.cells #[.int .i64 0, .int .u32 0, .int .u32 0, .int .u32 0, .int .u32 0] 32)
        have hxa := Blk.new wd 32 #[.int .i64 0, .int .u32 0, .int .u32 0, .int .u32 0, .int .u32 0]
        obtain ⟨wa, hwa⟩ : ∃ wa, wd.alloc (.cells #[.int .i64 0, .int .u32 0, .int .u32 0, .int .u32 0, .int .u32 0] 32) = wa := ⟨_, rfl⟩
        obtain ⟨ga, hga⟩ : ∃ ga, wd.heap.size = ga := ⟨_, rfl⟩
        have hgl : wd.heap.size ≤ ga := by omega
        rw [hwa] at hba hxa ⊢
        rw [hga] at hxa ⊢
        refine hK _ _ hba ?_
        clear hK K hwa
        try simp only [Act.put, List.setIfInBounds_toArray, List.set_cons_zero, List.set_cons_succ]
        refine wpI_lone rfl (by kernel_rfl) (fun K hK => ?_)
        go_simp
        refine (HC0.out wa hba).mono ?_
        rintro ev wx ⟨rfl, rfl⟩
        refine hK _ _ hba ?_
        clear hK K
        try simp only [Act.put, List.setIfInBounds_toArray, List.set_cons_zero, List.set_cons_succ]
        refine wpI_lone rfl (by kernel_rfl) (fun K hK => ?_)
        go_simp
        refine (HC1.out wa hba).mono ?_
        rintro ev wx ⟨rfl, rfl⟩
        refine hK _ _ hba ?_
        clear hK K
        try simp only [Act.put, List.setIfInBounds_toArray, List.set_cons_zero, List.set_cons_succ]
        refine wpI_lone rfl (by kernel_rfl) (fun K hK => ?_)
        go_simp
        refine (HC2.out wa hba).mono ?_
        rintro ev wx ⟨rfl, rfl⟩
        refine hK _ _ hba ?_
        clear hK K
        try simp only [Act.put, List.setIfInBounds_toArray, List.set_cons_zero, List.set_cons_succ]
        refine wpI_lone rfl (by kernel_rfl) (fun K hK => ?_)
        go_simp
        refine (HC3.out wa hba).mono ?_
        rintro ev wx ⟨rfl, rfl⟩
        refine hK _ _ hba ?_
        clear hK K
        try simp only [Act.put, List.setIfInBounds_toArray, List.set_cons_zero, List.set_cons_succ]
        iterate 1 (
          refine wpI_read (v := ?_) hba rfl (by kernel_rfl) (by kernel_rfl) (by kernel_rfl) (fun _ _ _ h => h) (.inl ⟨by rfl, ?_⟩) ?_
          rotate_left
          · intro X hX
            clear hX
            go_simp
            with_reducible rfl
          try simp only [Act.put, List.setIfInBounds_toArray, List.set_cons_zero, List.set_cons_succ])
        refine wpI_lone rfl (by kernel_rfl) (fun K hK => ?_)
        have d0 := hxa.cell 0
        have d1 := hxa.cell 1
        have d2 := hxa.cell 2
        have d3 := hxa.cell 3
        have d4 := hxa.cell 4
        have hfz := fun i => hxa.frozen i
        go_simp
        have hxs := hxa.set5 (.int .i64 (n0 : Int)) (.int .u32 (n1 : Int)) (.int .u32 (n2 : Int)) (.int .u32 (n3 : Int)) (.int .u32 (n4 : Int))
        have hbs := below_set5 hba hgl (.int .i64 (n0 : Int)) (.int .u32 (n1 : Int)) (.int .u32 (n2 : Int)) (.int .u32 (n3 : Int)) (.int .u32 (n4 : Int))
        obtain ⟨ws, hws⟩ : ∃ ws, set5 wa ga (.int .i64 (n0 : Int)) (.int .u32 (n1 : Int)) (.int .u32 (n2 : Int)) (.int .u32 (n3 : Int)) (.int .u32 (n4 : Int)) = ws := ⟨_, rfl⟩
        rw [hws] at hxs hbs
        simp only [set5] at hws
        rw [hws]
        refine hK _ _ hbs ?_
        clear hK K d0 d1 d2 d3 d4 hfz hws
        try simp only [Act.put, List.setIfInBounds_toArray, List.set_cons_zero, List.set_cons_succ]
        refine wpI_done (by kernel_rfl) ?_
        go_wp2_with fail
        go_meet
        exact ⟨ga, rfl, by have := HZd.out; omega, hxs, HBd.out.trans (hbs.mono HBd.out.size), HKd.out.below hbs HKd.out.lt⟩
    case rest =>
      obtain ⟨ga, rfl, hgl, hxp, hbx, hkx⟩ := hcut
      obtain ⟨c0, c1, c2, c3, c4⟩ := hxp.five
      have HBx := Lib.hid hbx
      have HKx := Lib.hid hkx
      have HPx := Lib.hid hxp
      clear hbx hkx hxp sl0 sl1 sl2 sl3 HC0 HC1 HC2 HC3
      have hP := HP.out
      by_cases h : MayP P
      · have hm2 := HM.out wc
        rw [hP, decide_eq_true h] at hm2
        have hR := HR.out
        rw [hP, if_pos h] at hR
        subst hR
        subst hP
        have HM2 := Lib.hid hm2
        clear hm2 h
        go_wp2_with (go_at_call 30
                     refine HM2.out.mono ?_
                     rintro ev w2 ⟨rfl, b2⟩
                     have HB4 := Lib.hid (HBx.out.trans (b2.mono HBx.out.size))
                     have HK4 := Lib.hid (HKx.out.below b2 HKx.out.lt)
                     obtain ⟨c0', c1', c2', c3', c4'⟩ := (HPx.out.below b2 HPx.out.lt).five
                     have d0 : w2.cell? ⟨w.heap.size, 0, none⟩ = some (.int .i64 0) := HK4.out.cell 0
                     have d1 : w2.cell? ⟨w.heap.size, 1, none⟩ = some (.int .u32 0) := HK4.out.cell 1
                     have d2 : w2.cell? ⟨w.heap.size, 2, none⟩ = some (.int .u32 0) := HK4.out.cell 2
                     have d3 : w2.cell? ⟨w.heap.size, 3, none⟩ = some (.int .u32 0) := HK4.out.cell 3
                     have d4 : w2.cell? ⟨w.heap.size, 4, none⟩ = some (.int .u32 0) := HK4.out.cell 4
                     have fr : ∀ i, w2.frozen? ⟨w.heap.size, i, none⟩ = false := fun i => HK4.out.frozen i
                     clear b2)
        obtain ⟨wf, hwf⟩ : ∃ wf, set5 w2 w.heap.size (.int .i64 (n0 : Int)) (.int .u32 (n1 : Int)) (.int .u32 (n2 : Int)) (.int .u32 (n3 : Int)) (.int .u32 (n4 : Int)) = wf := ⟨_, rfl⟩
        have HXF := Lib.hid (HK4.out.set5 (.int .i64 (n0 : Int)) (.int .u32 (n1 : Int)) (.int .u32 (n2 : Int)) (.int .u32 (n3 : Int)) (.int .u32 (n4 : Int)))
        have HBF := Lib.hid (below_set5 HB4.out (Nat.le_refl w.heap.size) (.int .i64 (n0 : Int)) (.int .u32 (n1 : Int)) (.int .u32 (n2 : Int)) (.int .u32 (n3 : Int)) (.int .u32 (n4 : Int)))
        rw [hwf] at HXF HBF
        simp only [set5] at hwf
        rw [hwf]
        clear hwf d0 d1 d2 d3 d4 fr
        have e0 := HXF.out.cell 0
        have e1 := HXF.out.cell 1
        have e2 := HXF.out.cell 2
        have e3 := HXF.out.cell 3
        have e4 := HXF.out.cell 4
        exact bodyPost_ret (v := .tuple #[ptV ((n0 : Int), n1, n2, n3, n4), .int .i64 0]) (by simp [results, Tryz.f97, go_sem, e0, e1, e2, e3, e4]) rfl ⟨rfl, HBF.out⟩
      · have hm2 := HM.out wc
        rw [hP, decide_eq_false h] at hm2
        have hR := HR.out
        rw [hP, if_neg h] at hR
        subst hR
        have HM2 := Lib.hid hm2
        rw [← hP] at HM2
        clear hm2 h
        go_wp2_with (go_at_call 30
                     refine HM2.out.mono ?_
                     rintro ev w2 ⟨rfl, b2⟩
                     have HB4 := Lib.hid (HBx.out.trans (b2.mono HBx.out.size))
                     have HK4 := Lib.hid (HKx.out.below b2 HKx.out.lt)
                     have d0 : w2.cell? ⟨w.heap.size, 0, none⟩ = some (.int .i64 0) := HK4.out.cell 0
                     have d1 : w2.cell? ⟨w.heap.size, 1, none⟩ = some (.int .u32 0) := HK4.out.cell 1
                     have d2 : w2.cell? ⟨w.heap.size, 2, none⟩ = some (.int .u32 0) := HK4.out.cell 2
                     have d3 : w2.cell? ⟨w.heap.size, 3, none⟩ = some (.int .u32 0) := HK4.out.cell 3
                     have d4 : w2.cell? ⟨w.heap.size, 4, none⟩ = some (.int .u32 0) := HK4.out.cell 4
                     have fr : ∀ i, w2.frozen? ⟨w.heap.size, i, none⟩ = false := fun i => HK4.out.frozen i
                     clear b2)
        obtain ⟨wf, hwf⟩ : ∃ wf, set5 w2 w.heap.size (.int .i64 0) (.int .u32 0) (.int .u32 0) (.int .u32 0) (.int .u32 0) = wf := ⟨_, rfl⟩
        have HXF := Lib.hid (HK4.out.set5 (.int .i64 0) (.int .u32 0) (.int .u32 0) (.int .u32 0) (.int .u32 0))
        have HBF := Lib.hid (below_set5 HB4.out (Nat.le_refl w.heap.size) (.int .i64 0) (.int .u32 0) (.int .u32 0) (.int .u32 0) (.int .u32 0))
        rw [hwf] at HXF HBF
        simp only [set5] at hwf
        rw [hwf]
        clear hwf d0 d1 d2 d3 d4 fr
        have e0 := HXF.out.cell 0
        have e1 := HXF.out.cell 1
        have e2 := HXF.out.cell 2
        have e3 := HXF.out.cell 3
        have e4 := HXF.out.cell 4
        exact bodyPost_ret (v := .tuple #[ptV p0, .int .i64 8]) (by simp [results, Tryz.f97, go_sem, e0, e1, e2, e3, e4]) rfl ⟨rfl, HBF.out⟩
  · rw [if_neg h16]
    have hne : ¬ (len : Int) = 16 := by omega
    have d0 : (w.alloc (.cells #[.int .i64 0, .int .u32 0, .int .u32 0, .int .u32 0, .int .u32 0] 32)).cell? ⟨w.heap.size, 0, none⟩ = some (.int .i64 0) := HK.out.cell 0
    have d1 : (w.alloc (.cells #[.int .i64 0, .int .u32 0, .int .u32 0, .int .u32 0, .int .u32 0] 32)).cell? ⟨w.heap.size, 1, none⟩ = some (.int .u32 0) := HK.out.cell 1
    have d2 : (w.alloc (.cells #[.int .i64 0, .int .u32 0, .int .u32 0, .int .u32 0, .int .u32 0] 32)).cell? ⟨w.heap.size, 2, none⟩ = some (.int .u32 0) := HK.out.cell 2
    have d3 : (w.alloc (.cells #[.int .i64 0, .int .u32 0, .int .u32 0, .int .u32 0, .int .u32 0] 32)).cell? ⟨w.heap.size, 3, none⟩ = some (.int .u32 0) := HK.out.cell 3
    have d4 : (w.alloc (.cells #[.int .i64 0, .int .u32 0, .int .u32 0, .int .u32 0, .int .u32 0] 32)).cell? ⟨w.heap.size, 4, none⟩ = some (.int .u32 0) := HK.out.cell 4
    have fr : ∀ i, (w.alloc (.cells #[.int .i64 0, .int .u32 0, .int .u32 0, .int .u32 0, .int .u32 0] 32)).frozen? ⟨w.heap.size, i, none⟩ = false := fun i => HK.out.frozen i
    go_enter Tryz.func97, Tryz.ntmps97
    go_wp2_with fail
    exact bodyPost_ret (v := .tuple #[ptV p0, .int .i64 3]) (by simp [results, Tryz.f97, go_sem, d0, d1, d2, d3, d4]) rfl ⟨rfl, HB1.out⟩
end Go.Proofs.YtjdjbonljohnbaaGreatDoor
/-
  The document's own Rows and Same of pointers.
-/
namespace Go.Proofs.YtjdjbonljohnbaaGreatDoor
open Go.RowKit Go.Shelf
set_option maxRecDepth 100000

/-- The pointers of a row's first k windows. -/
def rowsTo (s : List UInt8) (k : Nat) : List Pt := (List.range k).map fun i => getP (winP s i)
theorem rowsTo_step (s : List UInt8) (k : Nat) : rowsTo s (k + 1) = rowsTo s k ++ [getP (winP s k)] := by simp [rowsTo, List.range_succ]
theorem rowsTo_length (s : List UInt8) (k : Nat) : (rowsTo s k).length = k := by simp [rowsTo]
theorem rowsL_length (s : List UInt8) : (rowsL s).length = 16 := by simp [rowsL]
set_option maxHeartbeats 2000000 in
theorem rpRows_any (a : Option Addr) (len cap : Nat) (s : List UInt8) (w : World) (hB : Bsl w w.heap.size a len cap s) : Calls Tryz.prog 77 #[.slice a len cap] w (OutL (rowsO s).1 (rowsO s).2 w) := by
  have hl := hB.1
  have i0 : (0 : Int) ≤ (len : Int) := by omega
  have i1 : (len : Int) ≤ 9223372036854775807 := by have h1 := hB.2.1; have h2 := hB.2.2.1; unfold maxLen at h2; omega
  rw [rowsO]
  by_cases h : s.length = 256
  · rw [if_pos h]
    obtain rfl : len = 256 := by omega
    obtain ⟨b, off, ea, hblt, hcell⟩ := hB.2.2.2.2 (by omega)
    subst ea
    have hcap := hB.2.1
    obtain ⟨R, hR⟩ : ∃ R, (if ∀ p ∈ rowsL s, MayP p then (rowsL s, (0 : Int)) else ([], 8)) = R := ⟨_, rfl⟩
    rw [hR]
    have HRR := Lib.hid hR; clear hR
    have HBB := Lib.hid hB; clear hB
    clear hl i0 i1
    have HS := Lib.hid h; clear h
    have HBL := Lib.hid hblt
    have HCE := Lib.hid hcell
    clear hblt hcell
    go_enter Tryz.func77, Tryz.ntmps77
    go_wp2_with fail
    go_loopw [4, 5] (fun v i wr => ∃ k : Nat, k ≤ 16 ∧ i = .int .i64 k ∧ (∀ j, j < k → MayP (getP (winP s j))) ∧ PRow wr w.heap.size v (rowsTo s k) ∧ Below w.heap.size w wr) (fun _ i _ => 16 - (intOf i).toNat)
    case atStart => exact ⟨0, Nat.zero_le _, rfl, fun j hj => absurd hj (Nat.not_lt_zero _), prow_nil _ _, Below.refl _ _⟩
    case round =>
      obtain ⟨k, hk, rfl, hmay, ho, hb⟩ := hrel
      have k0 : (0 : Int) ≤ k := by omega
      have HO := Lib.hid ho; clear ho
      have HB := Lib.hid hb; clear hb
      have HM := Lib.hid hmay; clear hmay
      obtain ⟨v, hv⟩ : ∃ v : Value, u4 = v := ⟨_, rfl⟩
      rw [hv] at HO ⊢
      clear hv
      by_cases hlt : k < 16
      · have k1 : (k : Int) < 16 := by omega
        have k2 : (k : Int) ≤ 15 := by omega
        have hsl := fun W => slice_lh W b off 256 cap (16 * k) 16 (by omega) (by omega)
        have ek : ((16 * k : Nat) : Int) = 16 * (k : Int) := by omega
        simp only [ek] at hsl
        have hbw := ((HBB.out.below HB.out).more HB.out.size).win (16 * k) 16 (by omega)
        have hread := rpRead_any _ 16 _ _ wr hbw
        have hlen : ((s.drop (16 * k)).take 16).length = 16 := win_length (by have := HS.out; omega)
        rw [preadO, if_pos hlen] at hread
        have hst := rowsTo_step s k
        have hwf := wf_getP (winP s k)
        rw [show (s.drop (16 * k)).take 16 = winP s k from rfl] at hread
        obtain ⟨P, hP⟩ : ∃ P, getP (winP s k) = P := ⟨_, rfl⟩
        rw [hP] at hread hst hwf
        have HST := Lib.hid hst
        have HP := Lib.hid hP
        have HWF := Lib.hid hwf
        have hrl := rowsTo_length s k
        have HRL := Lib.hid hrl
        clear hst hP hwf hlen hbw ek hrl
        by_cases hm : MayP P
        · rw [if_pos hm] at hread
          have HMP := Lib.hid hm
          clear hm
          obtain ⟨a', b', c', d', e'⟩ := P
          have HRD := Lib.hid hread
          clear hread
          go_wp2_with (first
            | (go_at_call 97
               refine HRD.out.mono ?_
               rintro ev w1 ⟨rfl, b1⟩
               have bx := (Below.refl w1.heap.size w1).alloc (Nat.le_refl _) (.cells (ptC (a', b', c', d', e')).toArray 32)
               have by_ := bx.alloc bx.size (.cells (ptC (a', b', c', d', e')).toArray 32)
               have bz := b1.trans (by_.mono b1.size)
               have HB1 := Lib.hid (HB.out.trans (bz.mono HB.out.size))
               have HO1 := Lib.hid (HO.out.below bz)
               have hpt := one_pts (w1.alloc (.cells (ptC (a', b', c', d', e')).toArray 32)) (a', b', c', d', e') HWF.out
               rw [World.size_alloc, World.size_alloc] at hpt
               have HPT := Lib.hid hpt
               clear hpt
               clear b1 bx by_ bz)
            | (at_builtin
               refine wpList_append_prow rfl (.tmp 29) (.tmp 31) rfl w.heap.size v _ rfl HO1.out _ _ 1 1 [(a', b', c', d', e')] rfl HPT.out (by rw [HRL.out]; omega) HB1.out.size ?_
               intro v2 w2 h2 hg2
               rw [← HST.out] at h2
               have HO2 := Lib.hid h2
               have HB2 := Lib.hid (app_below HB1.out HO1.out.1 hg2 HB1.out.size)
               clear h2 hg2))
          go_roundw
          case rel =>
            refine ⟨k + 1, by omega, by go_num, fun j hj => ?_, HO2.out, HB2.out⟩
            by_cases e : j = k
            · subst e
              rw [HP.out]
              exact HMP.out
            · exact HM.out j (by omega)
          case measure => simp [intOf]; omega
        · rw [if_neg hm] at hread
          have hno : ¬ ∀ p ∈ rowsL s, MayP p := fun hall => hm (by
            rw [← HP.out]
            exact hall _ (List.mem_map.2 ⟨k, List.mem_range.2 hlt, rfl⟩))
          have hR := HRR.out
          rw [if_neg hno] at hR
          subst hR
          clear hm hno
          have HRD := Lib.hid hread
          clear hread
          go_wp2_with (go_at_call 97
                       refine HRD.out.mono ?_
                       rintro ev w1 ⟨rfl, b1⟩
                       have bx := (Below.refl w1.heap.size w1).alloc (Nat.le_refl _) (.cells (ptC p0).toArray 32)
                       have HB1 := Lib.hid (HB.out.trans ((b1.trans (bx.mono b1.size)).mono HB.out.size))
                       clear b1 bx)
          go_ret2
          exact ⟨_, rfl, prow_nil _ _, HB1.out⟩
      · obtain rfl : k = 16 := by omega
        have hall : ∀ p ∈ rowsL s, MayP p := fun p hp => by
          obtain ⟨i, hi, rfl⟩ := List.mem_map.1 hp
          exact HM.out i (List.mem_range.1 hi)
        have hR := HRR.out
        rw [if_pos hall] at hR
        subst hR
        clear hall
        go_wp2_with fail
        go_ret2
        exact ⟨_, rfl, HO.out, HB.out⟩
  · rw [if_neg h]
    have hne : ¬ (len : Int) = 256 := by omega
    clear hl h hB
    go_enter Tryz.func77, Tryz.ntmps77
    go_wp2_with fail
    go_ret2
    exact ⟨_, rfl, prow_nil _ _, Below.refl _ _⟩
theorem list_same {L M : List Pt} (hl : L.length = M.length) (h : ∀ j, j < L.length → L.getD j p0 = M.getD j p0) : L = M := by
  apply List.ext_getElem hl
  intro i h1 h2
  have := h i h1
  rwa [List.getD_eq_getElem?_getD, List.getElem?_eq_getElem h1, List.getD_eq_getElem?_getD, List.getElem?_eq_getElem h2] at this
set_option maxHeartbeats 1000000 in
theorem rpSame_any (a : Option Addr) (n ca : Nat) (L : List Pt) (b : Option Addr) (m cb : Nat) (M : List Pt) (w : World) (hL : Pts w w.heap.size a n ca L) (hM : Pts w w.heap.size b m cb M) :
    Calls Tryz.prog 12 #[.slice a n ca, .slice b m cb] w fun e w' => e = .returned (.bool (decide (L = M))) ∧ Below w.heap.size w w' := by
  have hl := hL.1
  have hm := hM.1
  have i0 : (0 : Int) ≤ (n : Int) := by omega
  have i1 : (n : Int) ≤ 9223372036854775807 := by have h1 := hL.2.1; have h2 := hL.2.2.1; unfold maxLen at h2; omega
  have hmx : Tryz.prog.follows Departure.mixedOrders = true := by kernel_rfl
  obtain ⟨R, hR⟩ : ∃ R, decide (L = M) = R := ⟨_, rfl⟩
  rw [hR]
  by_cases hnm : n = m
  · subst hnm
    have HLL := Lib.hid hL; clear hL
    have HMM := Lib.hid hM; clear hM
    have HR := Lib.hid hR; clear hR
    have HLN := Lib.hid hl; clear hl
    have HMN := Lib.hid hm; clear hm
    go_enter Tryz.func12, Tryz.ntmps12
    go_wp2_with fail
    go_loopw [5] (fun i wr => ∃ k : Nat, k ≤ n ∧ i = .int .i64 k ∧ (∀ j, j < k → L.getD j p0 = M.getD j p0) ∧ Below w.heap.size w wr) (fun i _ => n - (intOf i).toNat)
    case atStart => exact ⟨0, Nat.zero_le _, rfl, fun j hj => absurd hj (Nat.not_lt_zero _), Below.refl _ _⟩
    case round =>
      obtain ⟨k, hk, rfl, hsame, hb⟩ := hrel
      have k0 : (0 : Int) ≤ k := by omega
      have HB := Lib.hid hb; clear hb
      have HSM := Lib.hid hsame; clear hsame
      by_cases hlt : k < n
      · have k1 : (k : Int) < n := by omega
        obtain ⟨b1, o1, ea, hblt, _, c0, c1, c2, c3, c4⟩ := (HLL.out.below HB.out).cells k hlt
        obtain ⟨b2, o2, eb, hblt2, _, d0, d1, d2, d3, d4⟩ := (HMM.out.below HB.out).cells k hlt
        subst ea
        subst eb
        obtain ⟨P, hP⟩ : ∃ P, L.getD k p0 = P := ⟨_, rfl⟩
        obtain ⟨Q, hQ⟩ : ∃ Q, M.getD k p0 = Q := ⟨_, rfl⟩
        rw [hP] at c0 c1 c2 c3 c4
        rw [hQ] at d0 d1 d2 d3 d4
        have HP := Lib.hid hP
        have HQ := Lib.hid hQ
        clear hP hQ hblt hblt2
        have heq : eqP P Q = decide (P = Q) := rfl
        by_cases hpq : P = Q
        · rw [decide_eq_true hpq] at heq
          obtain ⟨x, y, z, t, u⟩ := P
          obtain ⟨x', y', z', t', u'⟩ := Q
          have hlit := eqPt_lit x y z t u x' y' z' t' u'
          rw [heq] at hlit
          have HPQ := Lib.hid hpq
          clear hpq heq
          go_wp2_with fail
          go_quiet (fail)
          go_wp2_with fail
          go_roundw
          case rel =>
            refine ⟨k + 1, by omega, by go_num, fun j hj => ?_, below_drewN HB.out _⟩
            by_cases e : j = k
            · subst e
              rw [HP.out, HQ.out]
              exact HPQ.out
            · exact HSM.out j (by omega)
          case measure => simp [intOf]; omega
        · rw [decide_eq_false hpq] at heq
          have hno : ¬ L = M := fun e => hpq (by rw [← HP.out, ← HQ.out, e])
          have hR := HR.out
          rw [decide_eq_false hno] at hR
          subst hR
          obtain ⟨x, y, z, t, u⟩ := P
          obtain ⟨x', y', z', t', u'⟩ := Q
          have hlit := eqPt_lit x y z t u x' y' z' t' u'
          rw [heq] at hlit
          clear hpq heq hno
          go_wp2_with fail
          go_quiet (fail)
          go_wp2_with fail
          go_ret
          exact ⟨rfl, below_drewN HB.out _⟩
      · obtain rfl : k = n := by omega
        have hyes : L = M := list_same (by rw [HLN.out, HMN.out]) fun j hj => HSM.out j (by rw [← HLN.out]; exact hj)
        have hR := HR.out
        rw [decide_eq_true hyes] at hR
        subst hR
        clear hyes
        go_wp2_with fail
        go_ret
        exact ⟨rfl, HB.out⟩
  · have hno : ¬ L = M := fun e => hnm (by rw [← hl, ← hm, e])
    rw [decide_eq_false hno] at hR
    subst hR
    have hne : ¬ (n : Int) = (m : Int) := by omega
    clear hno hl hm hL hM hnm
    go_enter Tryz.func12, Tryz.ntmps12
    go_wp2_with fail
    go_ret
    exact ⟨rfl, Below.refl _ _⟩
end Go.Proofs.YtjdjbonljohnbaaGreatDoor
/-
  A row of pointers and the pointers that it has: there and back.
-/
namespace Go.Proofs.YtjdjbonljohnbaaGreatDoor
open Go.RowKit Go.Shelf
set_option maxRecDepth 100000

theorem rowsO_cases (s : List UInt8) : (∃ c : Int, rowsO s = ([], c) ∧ c ≠ 0) ∨ (s.length = 256 ∧ (∀ p ∈ rowsL s, MayP p) ∧ rowsO s = (rowsL s, 0)) := by
  unfold rowsO
  by_cases h : s.length = 256
  · rw [if_pos h]
    by_cases h2 : ∀ p ∈ rowsL s, MayP p
    · rw [if_pos h2]
      exact .inr ⟨h, h2, rfl⟩
    · rw [if_neg h2]
      exact .inl ⟨8, rfl, by decide⟩
  · rw [if_neg h]
    exact .inl ⟨3, rfl, by decide⟩
theorem win_packTo (L : List Pt) : ∀ (k i : Nat), i < k → ((packTo L k).drop (16 * i)).take 16 = bytesP (L.getD i p0)
  | k + 1, i, h => by
    rw [packTo_step]
    have hl := packTo_length L k
    by_cases e : i = k
    · subst e
      rw [← hl, List.drop_left, List.take_of_length_le (by rw [bytesP_length]; exact Nat.le_refl _)]
    · rw [List.drop_append_of_le_length (by omega), List.take_append_of_le_length (by rw [List.length_drop]; omega)]
      exact win_packTo L k i (by omega)
/-- A row's pointers, none where there is none. -/
def fillL (L : List Pt) : List Pt := (List.range 16).map fun i => L.getD i p0
theorem rowsL_row {L : List Pt} (h16 : L.length ≤ 16) (hm : ∀ p ∈ L, MayP p) (hw : ∀ p ∈ L, WfP p) : rowsL (rowTo L L.length) = fillL L := by
  rw [← packTo_row L h16, rowsL, fillL]
  apply List.map_congr_left
  intro i hi
  rw [winP, win_packTo L 16 i (List.mem_range.1 hi), getP_bytesP (getD_may hm i) (getD_wf hw i)]
theorem rowsO_row {L : List Pt} (h16 : L.length ≤ 16) (hm : ∀ p ∈ L, MayP p) (hw : ∀ p ∈ L, WfP p) : rowsO (rowTo L L.length) = (fillL L, 0) := by
  rw [rowsO, if_pos (rowTo_length L L.length (Nat.le_refl _) h16), rowsL_row h16 hm hw, if_pos]
  intro p hp
  obtain ⟨i, _, rfl⟩ := List.mem_map.1 hp
  exact getD_may hm i
theorem fillL_get (L : List Pt) (i : Nat) (hi : i < 16) : (fillL L).getD i p0 = L.getD i p0 := by simp [fillL, List.getD_eq_getElem?_getD, hi]
theorem fillL_length (L : List Pt) : (fillL L).length = 16 := by simp [fillL]
end Go.Proofs.YtjdjbonljohnbaaGreatDoor
/-
  Dead lists as blocks, as plain lists: what Lay and Load answer; what was laid is loaded as it was.
-/
namespace Go.Proofs.YtjdjbonljohnbaaGreatDoor
open Go.RowKit Go.Shelf
set_option maxRecDepth 100000

/-- Row i of a list. -/
def rowD (l : List Pt) (i : Nat) : List Pt := (l.drop (16 * i)).take 16
/-- How many rows a list has. -/
def rowsN (n : Nat) : Nat := (n + 15) / 16
theorem rowD_length (l : List Pt) (i : Nat) : (rowD l i).length = min 16 (l.length - 16 * i) := by unfold rowD; rw [List.length_take, List.length_drop]
theorem rowD_join (l : List Pt) : ∀ i, l.take (16 * i) ++ rowD l i = l.take (16 * (i + 1)) := fun i => by
  have : l.take (16 * (i + 1)) = l.take (16 * i) ++ (l.drop (16 * i)).take 16 := by rw [show 16 * (i + 1) = 16 * i + 16 by omega, List.take_add]
  rw [this]
  rfl
theorem rowD_mem {l : List Pt} {i : Nat} {q : Pt} (h : q ∈ rowD l i) : q ∈ l := List.mem_of_mem_drop (List.mem_of_mem_take h)
/-- The rows laid, so many. -/
def laidTo (S : StL) (b : Nat) (l : List Pt) : Nat → Option (StL × List Pt)
  | 0 => some (S, [])
  | i + 1 => match laidTo S b l i with
    | none => none
    | some X => match putS X.1 b 0 0 (rowTo (rowD l i) (rowD l i).length) with
      | none => none
      | some Y => some (Y.1, X.2 ++ [Y.2])
/-- The blocks of pointers. -/
def blksD (ps : List Pt) : List Nat := ps.map fun q => q.1.toNat
/-- A list laid in a store that may be. -/
def layedO (S : StL) (b : Nat) (l : List Pt) : StL × Pt × List Nat × Nat :=
  if l = [] then (S, p0, [], 0)
  else match laidTo S b l (rowsN l.length) with
    | none => (st0, p0, [], 9)
    | some X => match putS X.1 b 0 0 (rowTo X.2 X.2.length) with
      | none => (st0, p0, [], 9)
      | some Y => (Y.1, Y.2, blksD X.2 ++ [Y.2.1.toNat], 0)
/-- What Lay answers. -/
noncomputable def layO (S : StL) (b : Nat) (l : List Pt) : StL × Pt × List Nat × Nat :=
  open Classical in
  if MayS S ∧ MayDL l then if 1 ≤ b ∧ b ≤ 16777215 then layedO S b l else (st0, p0, [], 2) else (st0, p0, [], 8)
/-- The row of a pointer. -/
def seenR (S : StL) (p : Pt) : List Pt × Nat :=
  if (seenO S p).2 ≠ 0 then ([], (seenO S p).2) else if (rowsO (seenO S p).1).2 ≠ 0 then ([], 8) else ((rowsO (seenO S p).1).1, 0)
/-- How many pointers stand ahead of those that are none at the end. -/
def trimN : List Pt → Nat
  | [] => 0
  | q :: r => if trimN r = 0 then (if q = p0 then 0 else 1) else trimN r + 1
/-- Without those that are none at the end; one is none ahead of another one: nothing. -/
def trimD (l : List Pt) : Option (List Pt) := if p0 ∈ l.take (trimN l) then none else some (l.take (trimN l))
/-- The rows loaded, so many; an error. -/
def loadTo (S : StL) (rows : List Pt) : Nat → List Pt × Nat
  | 0 => ([], 0)
  | i + 1 =>
    if (loadTo S rows i).2 ≠ 0 then loadTo S rows i
    else if (seenR S (rows.getD i p0)).2 ≠ 0 then ([], (seenR S (rows.getD i p0)).2)
    else match trimD (seenR S (rows.getD i p0)).1 with
      | none => ([], 8)
      | some t => if t = [] ∨ (i + 1 < rows.length ∧ t.length < 16) then ([], 8) else ((loadTo S rows i).1 ++ t, 0)
/-- The list of a pointer that may be, in a store that may be. -/
def loadedO (S : StL) (p : Pt) : List Pt × List Nat × Nat :=
  if p = p0 then ([], [], 0)
  else if (seenR S p).2 ≠ 0 then ([], [], (seenR S p).2)
  else match trimD (seenR S p).1 with
    | none => ([], [], 8)
    | some rows =>
      if rows = [] then ([], [], 8)
      else if (loadTo S rows rows.length).2 ≠ 0 then ([], [], (loadTo S rows rows.length).2)
      else if MayDL (loadTo S rows rows.length).1 then ((loadTo S rows rows.length).1, blksD rows ++ [p.1.toNat], 0) else ([], [], 8)
/-- What Load answers. -/
noncomputable def loadO (S : StL) (p : Pt) : List Pt × List Nat × Nat :=
  open Classical in if MayS S ∧ MayP p then loadedO S p else ([], [], 8)

theorem trimN_fill : ∀ (l : List Pt) (m : Nat), (∀ q ∈ l, q ≠ p0) → trimN (l ++ List.replicate m p0) = l.length := by
  have h0 : ∀ m, trimN (List.replicate m p0) = 0 := fun m => by
    induction m with
    | zero => rfl
    | succ m ih => rw [List.replicate_succ, trimN, if_pos ih, if_pos rfl]
  intro l
  induction l with
  | nil => intro m _; exact h0 m
  | cons q r ih =>
    intro m h
    have hq : ¬ q = p0 := h q (List.mem_cons_self ..)
    have hr := ih m fun x hx => h x (List.mem_cons_of_mem _ hx)
    rw [List.cons_append, trimN, hr]
    cases r with
    | nil => rw [List.length_nil, if_pos rfl, if_neg hq]; rfl
    | cons y z =>
      rw [if_neg (by simp)]
      rfl
theorem trimN_le : ∀ l : List Pt, trimN l ≤ l.length
  | [] => Nat.le_refl _
  | q :: r => by
    have := trimN_le r
    rw [trimN, List.length_cons]
    split
    · split <;> omega
    · omega
/-- As a loop from the end finds it. -/
theorem trimN_of : ∀ {l : List Pt} {n : Nat}, n ≤ l.length → (∀ j, n ≤ j → j < l.length → l.getD j p0 = p0) → (n = 0 ∨ l.getD (n - 1) p0 ≠ p0) → trimN l = n
  | [], n, hn, _, _ => by
    have : n = 0 := by simpa using hn
    rw [this]
    rfl
  | q :: r, n, hn, h1, h2 => by
    rw [List.length_cons] at hn
    cases n with
    | zero =>
      have hr : trimN r = 0 := trimN_of (Nat.zero_le _) (fun j _ hj => by simpa using h1 (j + 1) (Nat.zero_le _) (by simpa using hj)) (.inl rfl)
      have hq : q = p0 := by simpa using h1 0 (Nat.zero_le _) (by simp)
      rw [trimN, if_pos hr, if_pos hq]
    | succ n =>
      have h2' : (q :: r).getD n p0 ≠ p0 := by
        rcases h2 with h | h
        · omega
        · simpa using h
      have hr : trimN r = n := trimN_of (by omega) (fun j hj hjl => by simpa using h1 (j + 1) (by omega) (by simpa using hjl)) (by
        cases n with
        | zero => exact .inl rfl
        | succ n => exact .inr (by simpa using h2'))
      rw [trimN, hr]
      cases n with
      | zero =>
        have hq : q ≠ p0 := by simpa using h2'
        rw [if_pos rfl, if_neg hq]
      | succ n => rw [if_neg (by omega)]
theorem fillL_app {l : List Pt} (h : l.length ≤ 16) : fillL l = l ++ List.replicate (16 - l.length) p0 := by
  refine List.ext_getElem (by rw [fillL_length, List.length_append, List.length_replicate]; omega) fun i h1 h2 => ?_
  rw [fillL_length] at h1
  have e := fillL_get l i h1
  rw [ddGetD (by rw [fillL_length]; exact h1)] at e
  rw [e]
  by_cases hi : i < l.length
  · rw [List.getElem_append_left hi, ddGetD hi]
  · rw [List.getElem_append_right (by omega), List.getElem_replicate, List.getD_eq_getElem?_getD, List.getElem?_eq_none (by omega)]
    rfl
theorem trimD_fill {l : List Pt} (h : l.length ≤ 16) (h0 : ∀ q ∈ l, q ≠ p0) : trimD (fillL l) = some l := by
  have e : (fillL l).take (trimN (fillL l)) = l := by rw [fillL_app h, trimN_fill l _ h0, List.take_left']; rfl
  unfold trimD
  rw [e, if_neg fun hp => h0 p0 hp rfl]
/-- Rows that were laid. -/
structure LaidR (S : StL) (b : Nat) (l : List Pt) (i : Nat) (T : StL) (ps : List Pt) : Prop where
  may : MayS T
  len : ps.length = i
  one : ∀ q ∈ ps, OneP q ∧ WfP q ∧ q.2.1 = b
  see : ∀ j, j < i → seenO T (ps.getD j p0) = (rowTo (rowD l j) (rowD l j).length, 0)
  mrk : ∀ q ∈ ps, ∃ k : Nat, q.1 = (k : Int) ∧ (12 ≤ k ∧ k < 256) ∧ mkT S.2.1 k = 0 ∧ mkT T.2.1 k = 1
  oth : ∀ k : Nat, (∀ q ∈ ps, q.1 ≠ (k : Int)) → mkT T.2.1 k = mkT S.2.1 k
theorem LaidR.start {S : StL} {b : Nat} {l : List Pt} (h : MayS S) : LaidR S b l 0 S [] := ⟨h, rfl, fun _ h => (by cases h), fun _ h => absurd h (Nat.not_lt_zero _), fun _ h => (by cases h), fun _ _ => rfl⟩
/-- One block more. -/
theorem LaidR.put {S T U : StL} {b i : Nat} {l ps : List Pt} {p : Pt} {s : List UInt8} (h : LaidR S b l i T ps) (hb : 1 ≤ b ∧ b ≤ 16777215) (hs : s.length = 256) (hp : putS T b 0 0 s = some (U, p)) :
    MayS U ∧ (OneP p ∧ WfP p ∧ p.2.1 = b) ∧ seenO U p = (s, 0) ∧ (∀ q, MayP q → (∃ r ∈ ps, r.1 = q.1) → seenO U q = seenO T q) ∧ (∃ k : Nat, p.1 = (k : Int) ∧ (12 ≤ k ∧ k < 256) ∧ mkT S.2.1 k = 0 ∧ mkT U.2.1 k = 1) ∧
    (∀ q ∈ ps, ∃ k : Nat, q.1 = (k : Int) ∧ (12 ≤ k ∧ k < 256) ∧ mkT S.2.1 k = 0 ∧ mkT U.2.1 k = 1) ∧ (∀ k : Nat, (∀ q ∈ ps ++ [p], q.1 ≠ (k : Int)) → mkT U.2.1 k = mkT S.2.1 k) ∧ (∀ q ∈ ps, q.1 ≠ p.1) := by
  have hl : T.2.1.length = 256 := h.may.2.1.1
  rcases putS_cases h.may.2.1 b 0 0 s with ⟨h1, _⟩ | ⟨k, r, hk, hz, h0, hw, _, h1⟩
  · rw [h1] at hp; cases hp
  · rw [h1] at hp
    cases hp
    have hfar : ∀ q ∈ ps, q.1 ≠ (k : Int) := fun q hq e => by
      obtain ⟨k', e', _, _, h4⟩ := h.mrk q hq
      have : k' = k := by omega
      subst this
      omega
    have hmk := fun i => put_mark (S := T) (k := k) (i := i) (b := s) hl hk.2
    have hS : mkT S.2.1 k = 0 := by rw [← h.oth k hfar]; exact hz
    refine ⟨putAt_may h.may hk hs hw, ⟨⟨ptr_may hk hb _ _ _, ptr_not hb.1 _ _ _⟩, ⟨⟨by simp only; omega, by simp only; omega⟩, by simp only; omega, by simp only; omega, by simp only; omega, sumOf_lt s⟩, rfl⟩, seenO_put T hb.1 0 0 s, fun q hq ⟨r, hr, e⟩ => seenO_far T hq (by rw [← e]; exact hfar r hr), ⟨k, rfl, hk, hS, by rw [hmk, if_pos rfl]⟩, fun q hq => ?_, fun k' hk' => ?_, fun q hq => hfar q hq⟩
    · obtain ⟨k', e', h2, h3, h4⟩ := h.mrk q hq
      have := hfar q hq
      exact ⟨k', e', h2, h3, by rw [hmk, if_neg (by omega)]; exact h4⟩
    · have hne : k' ≠ k := fun e => hk' _ (List.mem_append_right _ (List.mem_singleton.2 rfl)) (by simp only; omega)
      rw [hmk, if_neg hne]
      exact h.oth k' fun q hq => hk' q (List.mem_append_left _ hq)
theorem LaidR.step {S T U : StL} {b i : Nat} {l ps : List Pt} {p : Pt} (h : LaidR S b l i T ps) (hb : 1 ≤ b ∧ b ≤ 16777215) (hp : putS T b 0 0 (rowTo (rowD l i) (rowD l i).length) = some (U, p)) : LaidR S b l (i + 1) U (ps ++ [p]) := by
  have hr16 : (rowD l i).length ≤ 16 := by rw [rowD_length]; omega
  obtain ⟨h1, h2, h3, h4, h5, h6, h7, h8⟩ := h.put hb (rowTo_length _ _ (Nat.le_refl _) hr16) hp
  have hlen := h.len
  refine ⟨h1, by rw [List.length_append, hlen]; rfl, fun q hq => ?_, fun j hj => ?_, fun q hq => ?_, h7⟩
  · rcases List.mem_append.1 hq with hq | hq
    · exact h.one q hq
    · rw [List.mem_singleton.1 hq]; exact h2
  · by_cases e : j = i
    · subst e
      have : (ps ++ [p]).getD j p0 = p := by rw [List.getD_eq_getElem?_getD, List.getElem?_append_right (by omega), hlen, Nat.sub_self]; rfl
      rw [this]
      exact h3
    · have hji : j < i := by omega
      have e1 : (ps ++ [p]).getD j p0 = ps.getD j p0 := by rw [List.getD_eq_getElem?_getD, List.getD_eq_getElem?_getD, List.getElem?_append_left (by omega)]
      have hm : ps.getD j p0 ∈ ps := by rw [ddGetD (by omega)]; exact List.getElem_mem _
      rw [e1, h4 _ (h.one _ hm).1.1 ⟨_, hm, rfl⟩]
      exact h.see j hji
  · rcases List.mem_append.1 hq with hq | hq
    · exact h6 q hq
    · rw [List.mem_singleton.1 hq]; exact h5
theorem laidTo_laid {S : StL} {b : Nat} {l : List Pt} (hS : MayS S) (hb : 1 ≤ b ∧ b ≤ 16777215) : ∀ (i : Nat) (T : StL) (ps : List Pt), laidTo S b l i = some (T, ps) → LaidR S b l i T ps
  | 0, T, ps, h => by
    cases h
    exact LaidR.start hS
  | i + 1, T, ps, h => by
    unfold laidTo at h
    cases hX : laidTo S b l i with
    | none => rw [hX] at h; cases h
    | some X =>
      rw [hX] at h
      simp only at h
      cases hY : putS X.1 b 0 0 (rowTo (rowD l i) (rowD l i).length) with
      | none => rw [hY] at h; cases h
      | some Y =>
        rw [hY] at h
        cases h
        exact (laidTo_laid hS hb i X.1 X.2 hX).step hb hY
theorem rowsN_le {l : List Pt} (h : l.length ≤ 240) : rowsN l.length ≤ 15 := by unfold rowsN; omega
theorem seenR_row {T : StL} {p : Pt} {r : List Pt} (h : seenO T p = (rowTo r r.length, 0)) (h16 : r.length ≤ 16) (hm : ∀ q ∈ r, MayP q) (hw : ∀ q ∈ r, WfP q) : seenR T p = (fillL r, 0) := by
  unfold seenR
  rw [h, if_neg (fun h => h rfl), rowsO_row h16 hm hw, if_neg (fun h => h rfl)]
/-- What Lay answers, each way. -/
theorem layedO_cases {S : StL} {b : Nat} {l : List Pt} (hS : MayS S) (hb : 1 ≤ b ∧ b ≤ 16777215) (hl : MayDL l) (hw : ∀ q ∈ l, WfP q) : (layedO S b l = (st0, p0, [], 9)) ∨ (l = [] ∧ layedO S b l = (S, p0, [], 0)) ∨
    (∃ (T : StL) (ps : List Pt) (p : Pt), l ≠ [] ∧ layedO S b l = (T, p, blksD (ps ++ [p]), 0) ∧ MayS T ∧ ps.length = rowsN l.length ∧ (∀ q ∈ ps ++ [p], (OneP q ∧ WfP q ∧ q.2.1 = b) ∧ ∃ k : Nat, q.1 = (k : Int) ∧ (12 ≤ k ∧ k < 256) ∧ mkT S.2.1 k = 0 ∧ mkT T.2.1 k = 1) ∧
      loadedO T p = (l, blksD (ps ++ [p]), 0)) := by
  by_cases h0 : l = []
  · exact .inr (.inl ⟨h0, by unfold layedO; rw [if_pos h0]⟩)
  · have hlen : 0 < l.length := List.length_pos_iff.2 h0
    cases hX : laidTo S b l (rowsN l.length) with
    | none => exact .inl (by unfold layedO; rw [if_neg h0, hX])
    | some X =>
      obtain ⟨T, ps⟩ := X
      have hL := laidTo_laid hS hb _ _ _ hX
      have hps := hL.len
      have h15 := rowsN_le hl.1
      cases hY : putS T b 0 0 (rowTo ps ps.length) with
      | none => exact .inl (by unfold layedO; rw [if_neg h0, hX]; simp only; rw [hY])
      | some Y =>
        obtain ⟨U, p⟩ := Y
        obtain ⟨h1, h2, h3, h4, h5, h6, h7, h8⟩ := hL.put hb (rowTo_length ps _ (Nat.le_refl _) (by omega)) hY
        refine .inr (.inr ⟨U, ps, p, h0, ?_, h1, hps, fun q hq => ?_, ?_⟩)
        · unfold layedO
          rw [if_neg h0, hX]
          simp only
          rw [hY]
          simp [blksD]
        · rcases List.mem_append.1 hq with hq | hq
          · exact ⟨hL.one q hq, h6 q hq⟩
          · rw [List.mem_singleton.1 hq]; exact ⟨h2, h5⟩
        · have hpp := seenR_row h3 (by omega) (fun q hq => (hL.one q hq).1.1) (fun q hq => (hL.one q hq).2.1)
          have htr := trimD_fill (l := ps) (by omega) fun q hq => (hL.one q hq).1.2
          have hn : 0 < rowsN l.length := by unfold rowsN; omega
          have hne : ps ≠ [] := fun e => by rw [e, List.length_nil] at hps; omega
          have hld : ∀ i, i ≤ ps.length → loadTo U ps i = (l.take (16 * i), 0) := by
            intro i
            induction i with
            | zero => intro _; rfl
            | succ i ih =>
              intro hi
              have hi' : i < rowsN l.length := by omega
              have hm : ps.getD i p0 ∈ ps := by rw [ddGetD (by omega)]; exact List.getElem_mem _
              have hse := h4 _ (hL.one _ hm).1.1 ⟨_, hm, rfl⟩
              rw [hL.see i hi'] at hse
              have hr16 : (rowD l i).length ≤ 16 := by rw [rowD_length]; omega
              have hsr := seenR_row hse hr16 (fun q hq => (hl.2.1 q (rowD_mem hq)).1) (fun q hq => hw q (rowD_mem hq))
              have htq := trimD_fill hr16 fun q hq => (hl.2.1 q (rowD_mem hq)).2
              have hr := rowD_length l i
              have hc : ¬ (rowD l i = [] ∨ (i + 1 < ps.length ∧ (rowD l i).length < 16)) := by
                rintro (e | ⟨e1, e2⟩)
                · rw [e, List.length_nil] at hr
                  unfold rowsN at hi'
                  omega
                · rw [hps] at e1
                  unfold rowsN at e1
                  omega
              unfold loadTo
              rw [ih (by omega), if_neg (fun h => h rfl), hsr, if_neg (fun h => h rfl)]
              simp only
              rw [htq]
              simp only
              rw [if_neg hc, rowD_join]
          have hall : l.take (16 * ps.length) = l := List.take_of_length_le (by rw [hps]; unfold rowsN; omega)
          have hld' := hld ps.length (Nat.le_refl _)
          rw [hall] at hld'
          unfold loadedO
          rw [if_neg h2.1.2, hpp, if_neg (fun h => h rfl)]
          simp only
          rw [htr]
          simp only
          rw [if_neg hne, hld', if_neg (fun h => h rfl), if_pos hl]
          simp [blksD]
theorem layO_cases (S : StL) (b : Nat) (l : List Pt) (hw : ∀ q ∈ l, WfP q) : (∃ e, layO S b l = (st0, p0, [], e) ∧ e ≠ 0) ∨ (MayS S ∧ l = [] ∧ (1 ≤ b ∧ b ≤ 16777215) ∧ layO S b l = (S, p0, [], 0)) ∨
    (∃ (T : StL) (ps : List Pt) (p : Pt), MayS S ∧ MayDL l ∧ (1 ≤ b ∧ b ≤ 16777215) ∧ l ≠ [] ∧ layO S b l = (T, p, blksD (ps ++ [p]), 0) ∧ MayS T ∧ ps.length = rowsN l.length ∧ (∀ q ∈ ps ++ [p], (OneP q ∧ WfP q ∧ q.2.1 = b) ∧ ∃ k : Nat, q.1 = (k : Int) ∧ (12 ≤ k ∧ k < 256) ∧ mkT S.2.1 k = 0 ∧ mkT T.2.1 k = 1) ∧
      loadO T p = (l, blksD (ps ++ [p]), 0)) := by
  unfold layO
  by_cases h : MayS S ∧ MayDL l
  · rw [if_pos h]
    by_cases hb : 1 ≤ b ∧ b ≤ 16777215
    · rw [if_pos hb]
      rcases layedO_cases h.1 hb h.2 hw with h1 | ⟨h1, h2⟩ | ⟨T, ps, p, h1, h2, h3, h4, h5, h6⟩
      · exact .inl ⟨9, h1, by decide⟩
      · exact .inr (.inl ⟨h.1, h1, hb, h2⟩)
      · refine .inr (.inr ⟨T, ps, p, h.1, h.2, hb, h1, h2, h3, h4, h5, ?_⟩)
        have hp : MayP p := (h5 p (List.mem_append_right _ (List.mem_singleton.2 rfl))).1.1.1
        unfold loadO
        rw [if_pos ⟨h3, hp⟩]
        exact h6
    · rw [if_neg hb]; exact .inl ⟨2, rfl, by decide⟩
  · rw [if_neg h]; exact .inl ⟨8, rfl, by decide⟩
end Go.Proofs.YtjdjbonljohnbaaGreatDoor
/-
  Slices of a slice of pointers: its beginning, what is left of it, a window.
-/
namespace Go.Proofs.YtjdjbonljohnbaaGreatDoor
open Go.RowKit Go.Shelf
set_option maxRecDepth 100000

theorem psize5 (W : World) : (Go.sizeOf (Tryz.prog.elem 30)).run Tryz.prog W = .ok 5 W := by kernel_rfl
/-- l[:h]. -/
theorem pslice_to (W : World) (a : Option Addr) (n c h : Nat) (hc : h ≤ c) : (Instr.slice 30 (.slice a n c) none (some (.int .i64 (h : Int))) none).run Tryz.prog W = .ok (.slice a h c) W := by
  rw [run_slice_h W 30 _ _ _ (by kernel_rfl) .i64 _ (by omega) (by omega), psize5]
  cases a <;> simp [Result.andThen, sliced, Addr.add]
theorem Pts.take {w : World} {B n c k : Nat} {a : Option Addr} {L : List Pt} (h : Pts w B a n c L) (hk : k ≤ n) : Pts w B a k c (L.take k) := by
  obtain ⟨h1, h2, h3, h4, h5⟩ := h
  refine ⟨by rw [List.length_take]; omega, by omega, h3, h4, fun hl => ?_⟩
  obtain ⟨b, off, e, hlt, hc⟩ := h5 (by omega)
  refine ⟨b, off, e, hlt, fun i hi => ?_⟩
  rw [List.length_take] at hi
  have := hc i (by omega)
  rw [List.getElem_take]
  exact this
/-- l[k:], whatever is left. -/
theorem pslice_from (b off n c k : Nat) (hk : k ≤ n) (hc : n ≤ c) : ∃ A', (∀ W : World, (Instr.slice 30 (.slice (some ⟨b, off, none⟩) n c) (some (.int .i64 (k : Int))) none none).run Tryz.prog W = .ok (.slice A' (n - k) (c - k)) W) ∧ ∀ (w : World) (B : Nat) (L : List Pt), Pts w B (some ⟨b, off, none⟩) n c L → Pts w B A' (n - k) (c - k) (L.drop k) := by
  by_cases he : c = k
  · refine ⟨some ⟨b, off, none⟩, fun W => ?_, fun w B L h => ?_⟩
    · rw [run_slice_l W 30 _ _ _ (by kernel_rfl) .i64 _ (by omega) (by omega), psize5]
      simp [Result.andThen, sliced, he]
    · obtain ⟨h1, h2, h3, h4, h5⟩ := h
      exact ⟨by rw [List.length_drop]; omega, by omega, by omega, fun e => (by cases e), fun hl => absurd hl (by omega)⟩
  · refine ⟨some ⟨b, off + k * 5, none⟩, fun W => ?_, fun w B L h => ?_⟩
    · rw [run_slice_l W 30 _ _ _ (by kernel_rfl) .i64 _ (by omega) (by omega), psize5]
      have e0 : (if k = 0 then (⟨b, off, none⟩ : Addr) else ⟨b, off + k * 5, none⟩) = ⟨b, off + k * 5, none⟩ := by
        split
        · rename_i h; subst h; simp
        · rfl
      simp [Result.andThen, sliced, he, Addr.add]
    · obtain ⟨h1, h2, h3, h4, h5⟩ := h
      refine ⟨by rw [List.length_drop]; omega, by omega, by omega, fun e => (by cases e), fun hl => ?_⟩
      obtain ⟨b', off', e, hlt, hcc⟩ := h5 (by omega)
      cases e
      refine ⟨b, off + k * 5, rfl, hlt, fun i hi => ?_⟩
      rw [List.length_drop] at hi
      have := hcc (k + i) (by omega)
      rw [List.getElem_drop]
      refine ⟨this.1, fun j u hu => ?_⟩
      have := this.2 j u hu
      rwa [show off + (k + i) * 5 + j = off + k * 5 + i * 5 + j by omega] at this
/-- l[k:k+m:k+m]. -/
theorem Pts.win {w : World} {B b off n c : Nat} {L : List Pt} (h : Pts w B (some ⟨b, off, none⟩) n c L) (k m : Nat) (hkm : k + m ≤ n) : Pts w B (some ⟨b, off + k * 5, none⟩) m m ((L.drop k).take m) := by
  obtain ⟨h1, h2, h3, h4, h5⟩ := h
  refine ⟨by rw [List.length_take, List.length_drop]; omega, Nat.le_refl _, by omega, fun e => (by cases e), fun hl => ?_⟩
  obtain ⟨b', off', e, hlt, hcc⟩ := h5 (by omega)
  cases e
  refine ⟨b, off + k * 5, rfl, hlt, fun i hi => ?_⟩
  rw [List.length_take, List.length_drop] at hi
  have := hcc (k + i) (by omega)
  rw [List.getElem_take, List.getElem_drop]
  refine ⟨this.1, fun j u hu => ?_⟩
  have := this.2 j u hu
  rwa [show off + (k + i) * 5 + j = off + k * 5 + i * 5 + j by omega] at this
end Go.Proofs.YtjdjbonljohnbaaGreatDoor
/-
  Words for lists of whole numbers (Go's []int with no number below nought): a slice that reads as them; appends to a slice of one's own; a cell of it.
-/
namespace Go.Proofs.YtjdjbonljohnbaaGreatDoor
open Go.RowKit Go.Shelf
set_option maxRecDepth 100000

/-- The values of numbers. -/
def valsN (s : List Nat) : List Value := s.map fun x : Nat => .int .i64 (x : Int)
theorem valsN_append (s t : List Nat) : valsN s ++ valsN t = valsN (s ++ t) := by simp [valsN]
theorem valsN_get {s : List Nat} {j : Nat} {u : Value} (h : (valsN s)[j]? = some u) : ∃ hj : j < s.length, u = .int .i64 ((s[j] : Nat) : Int) := by
  rw [valsN, List.getElem?_map] at h
  rcases Nat.lt_or_ge j s.length with hj | hj
  · rw [List.getElem?_eq_getElem hj] at h
    exact ⟨hj, (Option.some.inj h).symm⟩
  · rw [List.getElem?_eq_none hj] at h; cases h

/-- A slice of numbers that lies below block B reads as s. -/
def Nsl (w : World) (B : Nat) (a : Option Addr) (len cap : Nat) (s : List Nat) : Prop :=
  s.length = len ∧ len ≤ cap ∧ cap ≤ maxLen ∧ (a = none → cap = 0) ∧
    (0 < len → ∃ b off, a = some ⟨b, off, none⟩ ∧ b < B ∧ ∀ i (h : i < s.length), w.cell? ⟨b, off + i, none⟩ = some (.int .i64 ((s[i] : Nat) : Int)))
theorem Nsl.below {w w' : World} {B : Nat} {a : Option Addr} {len cap : Nat} {s : List Nat} (h : Nsl w B a len cap s) (hb : Below B w w') : Nsl w' B a len cap s := by
  obtain ⟨h1, h2, h3, h4, h5⟩ := h
  refine ⟨h1, h2, h3, h4, fun hl => ?_⟩
  obtain ⟨b, off, e, hlt, hc⟩ := h5 hl
  exact ⟨b, off, e, hlt, fun i hi => (hb.cell (p := ⟨b, off + i, none⟩) hlt).trans (hc i hi)⟩
theorem Nsl.more {w : World} {B B' : Nat} {a : Option Addr} {len cap : Nat} {s : List Nat} (h : Nsl w B a len cap s) (hB : B ≤ B') : Nsl w B' a len cap s := by
  obtain ⟨h1, h2, h3, h4, h5⟩ := h
  refine ⟨h1, h2, h3, h4, fun hl => ?_⟩
  obtain ⟨b, off, e, hlt, hc⟩ := h5 hl
  exact ⟨b, off, e, by omega, hc⟩
theorem Nsl.step {w w' : World} {a : Option Addr} {len cap : Nat} {s : List Nat} (h : Nsl w w.heap.size a len cap s) (hb : Below w.heap.size w w') : Nsl w' w'.heap.size a len cap s := (h.below hb).more hb.size
theorem Nsl.cellD {w : World} {B g off len cap : Nat} {s : List Nat} (h : Nsl w B (some ⟨g, off, none⟩) len cap s) (i : Nat) (hi : i < len) : w.cell? ⟨g, off + i, none⟩ = some (.int .i64 ((s.getD i 0 : Nat) : Int)) := by
  obtain ⟨b, o, e, _, hc⟩ := h.2.2.2.2 (by omega)
  cases e
  have hl : i < s.length := by rw [h.1]; exact hi
  rw [hc i hl, List.getD_eq_getElem?_getD, List.getElem?_eq_getElem hl]
  rfl
theorem infoInt : (Tryz.prog.info? 3).map (fun i => (i.zero, i.size, i.bytes)) = some (some (.int .i64 0), 1, 8) := by kernel_rfl

theorem wpList_append_nsl {w : World} {ops : Array Oper} {rest : List Oper} {o : Oper} {a : Act} {Q : Exit → Act → World → Prop} (hgd : o.guard = none) (s x : Operand)
    (ho : o.op = .call { callee := .builtin .append, args := #[s, x], argTypes := #[35, 35] })
    (base : Nat) (v : Value) (n : Nat) (xs : List Nat) (hs : a.eval s = v) (hown : w.ownsRow base 3 1 v n (valsN xs))
    (B : Nat) (A : Option Addr) (m c : Nat) (news : List Nat) (hx : a.eval x = .slice A m c) (hr : Nsl w B A m c news)
    (hnm : n + m ≤ 100000) (hbase : base ≤ w.heap.size)
    (h : ∀ v' w', w'.ownsRow base 3 1 v' (n + m) (valsN (xs ++ news)) → w.grownBy w' v.ownBlock → wpList Tryz.prog ops Q rest (a.put o.dst v') w') : wpList Tryz.prog ops Q (o :: rest) a w := by
  obtain ⟨i0, hi, hz0, hz1, hz2⟩ := info_parts infoInt
  obtain ⟨h1, h2, h3, h4, h5⟩ := hr
  have e0 : m = 0 → news = [] := fun e => List.eq_nil_of_length_eq_zero (by omega)
  cases A with
  | none =>
    have hc := h4 rfl
    have hm : m = 0 := by omega
    subst hm; subst hc
    obtain rfl := e0 rfl
    refine wpList_append_own_none hgd s x 35 ho base 3 i0 1 Tryz.underlying35 hi v n (valsN xs) hs hown hx ?_
    exact h v w (by simpa using hown) (World.grownBy.refl w _)
  | some ad =>
    refine wpList_append_own w hgd s x 35 ho base 3 i0 (.int .i64 0) 1 8 Tryz.underlying35 hi hz0 hz1 hz2 rfl (by decide) v n (valsN xs) hs hown ad m c (valsN news) hx (by simp [valsN, h1]) (fun j u hu => ?_) (fun u hu => ?_) (by unfold maxLen; omega) (by omega) hbase ?_
    · obtain ⟨hj, rfl⟩ := valsN_get hu
      obtain ⟨b, off, e, _, hc⟩ := h5 (by omega)
      cases e
      rw [← hc j hj]
      congr 1
      unfold Addr.add
      split <;> simp_all
    · obtain ⟨y, _, rfl⟩ := List.mem_map.1 hu
      rfl
    · intro v' w' h2 h3 _
      exact h v' w' (by rw [← valsN_append]; exact h2) h3

/-- Numbers in a row of one's own: where they lie. -/
theorem nsl_of_own {w : World} {base n : Nat} {v : Value} {s : List Nat} (h : w.ownsRow base 3 1 v n (valsN s)) (hn : 0 < n) :
    ∃ g cap, v = .slice (some ⟨g, 0, none⟩) n cap ∧ base ≤ g ∧ g < w.heap.size ∧ Nsl w w.heap.size (some ⟨g, 0, none⟩) n cap s := by
  have hl : s.length = n := by have := h.1; simpa [valsN] using this
  obtain ⟨h1, h2 | ⟨g, cap, cur, rfl, hb, hh, hnc, hcm, hsz, ht⟩⟩ := h
  · omega
  · have hg : g < w.heap.size := (Array.getElem?_eq_some_iff.1 hh).1
    refine ⟨g, cap, rfl, hb, hg, hl, hnc, hcm, fun e => (by cases e), fun _ => ⟨g, 0, rfl, hg, fun i hi => ?_⟩⟩
    rw [Nat.zero_add, cell_of_row w g i cur 3 (0, 0) hh]
    have : (valsN s)[i]? = some (.int .i64 ((s[i] : Nat) : Int)) := by simp [valsN, hi]
    rw [← ht, List.getElem?_take_of_lt (by omega)] at this
    rw [← this, Array.getElem?_toList]
/-- A new block of numbers, as a slice. -/
theorem nsl_blk {w : World} {g : Nat} {s : List Nat} (h : Blk w g 3 (valsN s).toArray) (hs : s.length ≤ 100000) : Nsl w w.heap.size (some ⟨g, 0, none⟩) s.length s.length s :=
  ⟨rfl, Nat.le_refl _, by unfold maxLen; omega, fun e => (by cases e), fun _ => ⟨g, 0, rfl, h.lt, fun i hi => by
    rw [Nat.zero_add, h.cell i]
    simp [valsN, hi]⟩⟩
/-- Behind a new number: the number's own slice. -/
theorem one_nsl (w : World) (x : Nat) : Nsl (w.alloc (.cells #[.int .i64 (x : Int)] 3)) (w.alloc (.cells #[.int .i64 (x : Int)] 3)).heap.size (some ⟨w.heap.size, 0, none⟩) 1 1 [x] :=
  nsl_blk (s := [x]) (Blk.new w _ _) (by simp)
/-- A new list of n numbers s. -/
def NewN (n : Nat) (s : List Nat) (w : World) (e : Ending) (w' : World) : Prop :=
  ∃ v, e = .returned v ∧ w'.ownsRow w.heap.size 3 1 v n (valsN s) ∧ Below w.heap.size w w'
end Go.Proofs.YtjdjbonljohnbaaGreatDoor
/-
  space's own: marks, slices.IndexFunc and ContainsFunc over bytes, whether a table may be, bytes.Clone, a table with another mark, the closure that tells the free blocks.
-/
namespace Go.Proofs.YtjdjbonljohnbaaGreatDoor
open Go.RowKit Go.Shelf
set_option maxRecDepth 100000

theorem Bsl.mk {w : World} {B g off len cap : Nat} {s : List UInt8} (h : Bsl w B (some ⟨g, off, none⟩) len cap s) (i : Nat) (hi : i < len) : w.cell? ⟨g, off + i, none⟩ = some (.int .u8 ((mkT s i : Nat) : Int)) := h.cellD i hi
theorem Bsl.at_ {w : World} {B len cap : Nat} {a : Option Addr} {s : List UInt8} (h : Bsl w B a len cap s) (h0 : 0 < len) : ∃ b off, a = some ⟨b, off, none⟩ ∧ b < B := by
  obtain ⟨b, off, e, hb, _⟩ := h.2.2.2.2 h0
  exact ⟨b, off, e, hb⟩

theorem isNoMark_any (x : Nat) (hx : x < 256) (w : World) : Calls Tryz.prog 102 #[.int .u8 x] w fun e w' => e = .returned (.bool (decide (2 < x))) ∧ w = w' := by
  have x0 : (0 : Int) ≤ x := by omega
  by_cases h0 : x = 0
  · subst h0
    go_enter Tryz.func102, Tryz.ntmps102
    go_wp2_with fail
    go_ret
    exact ⟨rfl, rfl⟩
  · have e0 : ((x : Int) != 0) = true := by simp; omega
    by_cases h1 : x = 1
    · subst h1
      go_enter Tryz.func102, Tryz.ntmps102
      go_wp2_with fail
      go_ret
      exact ⟨rfl, rfl⟩
    · have e1 : ((x : Int) != 1) = true := by simp; omega
      by_cases h2 : x = 2
      · subst h2
        go_enter Tryz.func102, Tryz.ntmps102
        go_wp2_with fail
        go_ret
        exact ⟨rfl, rfl⟩
      · have e2 : ((x : Int) != 2) = true := by simp; omega
        have e3 : decide (2 < x) = true := decide_eq_true (by omega)
        rw [e3]
        clear h0 h1 h2 e3
        go_enter Tryz.func102, Tryz.ntmps102
        go_wp2_with fail
        go_ret
        exact ⟨rfl, rfl⟩
theorem isNotUsed_any (x : Nat) (hx : x < 256) (w : World) : Calls Tryz.prog 103 #[.int .u8 x] w fun e w' => e = .returned (.bool (decide (x ≠ 1))) ∧ w = w' := by
  have x0 : (0 : Int) ≤ x := by omega
  by_cases h1 : x = 1
  · subst h1
    go_enter Tryz.func103, Tryz.ntmps103
    go_wp2_with fail
    go_ret
    exact ⟨rfl, rfl⟩
  · have e1 : ((x : Int) != 1) = true := by simp; omega
    have e3 : decide (x ≠ 1) = true := decide_eq_true (by omega)
    rw [e3]
    clear h1 e3
    go_enter Tryz.func103, Tryz.ntmps103
    go_wp2_with fail
    go_ret
    exact ⟨rfl, rfl⟩
/-- slices.IndexFunc over bytes: none is odd. -/
theorem spIndex_none (F : Nat) (p : Nat → Bool) (hFF : F = 102 ∨ F = 103) (hF : ∀ x : Nat, x < 256 → ∀ W : World, Calls Tryz.prog F #[.int .u8 x] W fun e w' => e = .returned (.bool (p x)) ∧ W = w') (a : Option Addr) (n c B : Nat) (s : List UInt8) (w : World) (hA : Bsl w B a n c s) (hall : ∀ i, i < n → p (mkT s i) = false) :
    Calls Tryz.prog 121 #[.slice a n c, .func (.func F) #[] #[]] w fun e w' => e = .returned (.int .i64 (-1)) ∧ w = w' := by
  have n0 : (0 : Int) ≤ n := by omega
  have n1 := hA.len_le
  have HA := Lib.hid hA
  have HL := Lib.hid hall
  have HF := Lib.hid hF
  clear hA hall hF
  rcases hFF with rfl | rfl
  all_goals
    go_enter Tryz.func121, Tryz.ntmps121
    go_wp2_with fail
    go_loop [8] (fun i => ∃ k : Nat, k ≤ n ∧ i = .int .i64 k) (fun i => n - (intOf i).toNat)
    case atStart => exact ⟨0, Nat.zero_le _, rfl⟩
    case round =>
      obtain ⟨k, hk, rfl⟩ := hrel
      have k0 : (0 : Int) ≤ k := by omega
      by_cases hlt : k < n
      · have k1 : (k : Int) < n := by omega
        obtain ⟨b, off, rfl, _⟩ := HA.out.at_ (by omega)
        have hc := HA.out.mk k hlt
        have hx := HF.out (mkT s k) (mkT_lt s k) w
        rw [HL.out k hlt] at hx
        have HX := Lib.hid hx
        clear hx
        go_wp2_with fail
        refine HX.out.mono ?_
        rintro e w1 ⟨rfl, rfl⟩
        go_wp2_with fail
        go_round
        case rel => exact ⟨k + 1, by omega, by go_num⟩
        case measure => simp [intOf]; omega
      · obtain rfl : k = n := by omega
        go_wp2_with fail
        go_ret
        exact ⟨rfl, rfl⟩
/-- One is odd. -/
theorem spIndex_some (F : Nat) (p : Nat → Bool) (hFF : F = 102 ∨ F = 103) (hF : ∀ x : Nat, x < 256 → ∀ W : World, Calls Tryz.prog F #[.int .u8 x] W fun e w' => e = .returned (.bool (p x)) ∧ W = w') (a : Option Addr) (n c B : Nat) (s : List UInt8) (w : World) (hA : Bsl w B a n c s) (j : Nat) (hj : j < n) (hat : p (mkT s j) = true) (hall : ∀ i, i < j → p (mkT s i) = false) :
    Calls Tryz.prog 121 #[.slice a n c, .func (.func F) #[] #[]] w fun e w' => e = .returned (.int .i64 j) ∧ w = w' := by
  have n0 : (0 : Int) ≤ n := by omega
  have n1 := hA.len_le
  obtain ⟨b, off, rfl, _⟩ := hA.at_ (by omega)
  have HA := Lib.hid hA
  have HL := Lib.hid hall
  have HAT := Lib.hid hat
  have HF := Lib.hid hF
  clear hA hall hF hat
  rcases hFF with rfl | rfl
  all_goals
    go_enter Tryz.func121, Tryz.ntmps121
    go_wp2_with fail
    go_loop [8] (fun i => ∃ k : Nat, k ≤ j ∧ i = .int .i64 k) (fun i => n - (intOf i).toNat)
    case atStart => exact ⟨0, Nat.zero_le _, rfl⟩
    case round =>
      obtain ⟨k, hk, rfl⟩ := hrel
      have k0 : (0 : Int) ≤ k := by omega
      have hlt : k < n := by omega
      have k1 : (k : Int) < n := by omega
      have hc := HA.out.mk k hlt
      have hx := HF.out (mkT s k) (mkT_lt s k) w
      by_cases hkj : k < j
      · rw [HL.out k hkj] at hx
        have HX := Lib.hid hx
        clear hx
        go_wp2_with fail
        refine HX.out.mono ?_
        rintro e w1 ⟨rfl, rfl⟩
        go_wp2_with fail
        go_round
        case rel => exact ⟨k + 1, by omega, by go_num⟩
        case measure => simp [intOf]; omega
      · have hkj' : k = j := by omega
        rw [hkj', HAT.out] at hx
        rw [hkj'] at hc k0 k1 ⊢
        have HX := Lib.hid hx
        clear hx hkj hkj' hk hlt
        go_wp2_with fail
        refine HX.out.mono ?_
        rintro e w1 ⟨rfl, rfl⟩
        go_wp2_with fail
        go_ret
        exact ⟨rfl, rfl⟩
theorem spContains_none (F : Nat) (p : Nat → Bool) (hFF : F = 102 ∨ F = 103) (hF : ∀ x : Nat, x < 256 → ∀ W : World, Calls Tryz.prog F #[.int .u8 x] W fun e w' => e = .returned (.bool (p x)) ∧ W = w') (a : Option Addr) (n c B : Nat) (s : List UInt8) (w : World) (hA : Bsl w B a n c s) (hall : ∀ i, i < n → p (mkT s i) = false) :
    Calls Tryz.prog 101 #[.slice a n c, .func (.func F) #[] #[]] w fun e w' => e = .returned (.bool false) ∧ w = w' := by
  have HX := Lib.hid (spIndex_none F p hFF hF a n c B s w hA hall)
  clear hF hA hall hFF
  go_enter Tryz.func101, Tryz.ntmps101
  go_wp2_with fail
  refine HX.out.mono ?_
  rintro e w1 ⟨rfl, rfl⟩
  go_wp2_with fail
  go_ret
  exact ⟨rfl, rfl⟩
theorem spContains_some (F : Nat) (p : Nat → Bool) (hFF : F = 102 ∨ F = 103) (hF : ∀ x : Nat, x < 256 → ∀ W : World, Calls Tryz.prog F #[.int .u8 x] W fun e w' => e = .returned (.bool (p x)) ∧ W = w') (a : Option Addr) (n c B : Nat) (s : List UInt8) (w : World) (hA : Bsl w B a n c s) (i : Nat) (hi : i < n) (hat : p (mkT s i) = true) :
    Calls Tryz.prog 101 #[.slice a n c, .func (.func F) #[] #[]] w fun e w' => e = .returned (.bool true) ∧ w = w' := by
  rcases first_from (fun k => p (mkT s k) = true) 0 n with ⟨j, _, hj, hpj, hall⟩ | h
  · have HX := Lib.hid (spIndex_some F p hFF hF a n c B s w hA j hj hpj fun k hk => by simpa using hall k (by omega) hk)
    clear hF hA hall hat hFF
    have j0 : (0 : Int) ≤ j := by omega
    go_enter Tryz.func101, Tryz.ntmps101
    go_wp2_with fail
    refine HX.out.mono ?_
    rintro e w1 ⟨rfl, rfl⟩
    go_wp2_with fail
    go_ret
    exact ⟨rfl, rfl⟩
  · exact absurd hat (h i (by omega) hi)
/-- A table may be. -/
theorem spMay_yes (a : Option Addr) (n c B : Nat) (s : List UInt8) (w : World) (hA : Bsl w B a n c s) (h : MayT s) :
    Calls Tryz.prog 82 #[.slice a n c] w fun e w' => e = .returned (.bool true) ∧ w = w' := by
  have hn : n = 256 := by rw [← hA.1]; exact h.1
  subst hn
  obtain ⟨b, off, rfl, _⟩ := hA.at_ (by omega)
  have hc : 256 ≤ c := hA.2.1
  have H1 := Lib.hid (spContains_none 102 (fun x => decide (2 < x)) (.inl rfl) (fun x hx W => isNoMark_any x hx W) _ 256 c B s w hA fun i hi => decide_eq_false (by have := h.2.1 i hi; omega))
  have hp := hA.pre 12 (by omega)
  have H2 := Lib.hid (spContains_none 103 (fun x => decide (x ≠ 1)) (.inr rfl) (fun x hx W => isNotUsed_any x hx W) _ 12 c B (s.take 12) w hp fun i hi => by
    have e : mkT (s.take 12) i = mkT s i := by
      unfold mkT
      rw [List.getD_eq_getElem?_getD, List.getElem?_take_of_lt hi, List.getD_eq_getElem?_getD]
    rw [e, h.2.2 i hi]; rfl)
  have HS : ∀ W : World, (Instr.slice 26 (.slice (some ⟨b, off, none⟩) 256 c) none (some (.int .i64 12)) none).run Tryz.prog W = .ok (.slice (some ⟨b, off, none⟩) 12 c) W := fun W => slice_h W b off 256 c 12 (by omega) (by omega)
  clear hA hp h
  go_enter Tryz.func82, Tryz.ntmps82
  go_wp2_with fail
  refine H1.out.mono ?_
  rintro e w1 ⟨rfl, rfl⟩
  go_wp2_with fail
  refine H2.out.mono ?_
  rintro e w1 ⟨rfl, rfl⟩
  go_wp2_with fail
  go_ret
  exact ⟨rfl, rfl⟩
theorem not_may {s : List UInt8} (h : ¬ MayT s) (hl : s.length = 256) : (∃ i, i < 256 ∧ 2 < mkT s i) ∨ ((∀ i, i < 256 → mkT s i ≤ 2) ∧ ∃ i, i < 12 ∧ mkT s i ≠ 1) := by
  rcases first_from (fun i => 2 < mkT s i) 0 256 with ⟨k, _, hk, h2, _⟩ | h1
  · exact .inl ⟨k, hk, h2⟩
  · have h1' : ∀ i, i < 256 → mkT s i ≤ 2 := fun i hi => by have := h1 i (by omega) hi; omega
    rcases first_from (fun i => mkT s i ≠ 1) 0 12 with ⟨k, _, hk, h2, _⟩ | h3
    · exact .inr ⟨h1', k, hk, h2⟩
    · exact absurd ⟨hl, h1', fun i hi => by have := h3 i (by omega) hi; omega⟩ h
theorem spMay_no (a : Option Addr) (n c B : Nat) (s : List UInt8) (w : World) (hA : Bsl w B a n c s) (h : ¬ MayT s) :
    Calls Tryz.prog 82 #[.slice a n c] w fun e w' => e = .returned (.bool false) ∧ w = w' := by
  by_cases hn : n = 256
  · subst hn
    obtain ⟨b, off, rfl, _⟩ := hA.at_ (by omega)
    have hc : 256 ≤ c := hA.2.1
    rcases not_may h hA.1 with ⟨i, hi, h2⟩ | ⟨h1, i, hi, h2⟩
    · have H1 := Lib.hid (spContains_some 102 (fun x => decide (2 < x)) (.inl rfl) (fun x hx W => isNoMark_any x hx W) _ 256 c B s w hA i hi (decide_eq_true h2))
      clear hA h h2
      go_enter Tryz.func82, Tryz.ntmps82
      go_wp2_with fail
      refine H1.out.mono ?_
      rintro e w1 ⟨rfl, rfl⟩
      go_wp2_with fail
      go_ret
      exact ⟨rfl, rfl⟩
    · have H1 := Lib.hid (spContains_none 102 (fun x => decide (2 < x)) (.inl rfl) (fun x hx W => isNoMark_any x hx W) _ 256 c B s w hA fun i hi => decide_eq_false (by have := h1 i hi; omega))
      have hp := hA.pre 12 (by omega)
      have e : mkT (s.take 12) i = mkT s i := by
        unfold mkT
        rw [List.getD_eq_getElem?_getD, List.getElem?_take_of_lt hi, List.getD_eq_getElem?_getD]
      have H2 := Lib.hid (spContains_some 103 (fun x => decide (x ≠ 1)) (.inr rfl) (fun x hx W => isNotUsed_any x hx W) _ 12 c B (s.take 12) w hp i hi (by rw [e]; exact decide_eq_true h2))
      have HS : ∀ W : World, (Instr.slice 26 (.slice (some ⟨b, off, none⟩) 256 c) none (some (.int .i64 12)) none).run Tryz.prog W = .ok (.slice (some ⟨b, off, none⟩) 12 c) W := fun W => slice_h W b off 256 c 12 (by omega) (by omega)
      clear hA hp h e h1 h2
      go_enter Tryz.func82, Tryz.ntmps82
      go_wp2_with fail
      refine H1.out.mono ?_
      rintro e w1 ⟨rfl, rfl⟩
      go_wp2_with fail
      refine H2.out.mono ?_
      rintro e w1 ⟨rfl, rfl⟩
      go_wp2_with fail
      go_ret
      exact ⟨rfl, rfl⟩
  · have n1 := hA.len_le
    have hb : ((n : Int) == 256) = false := by simp; omega
    clear hA h hn
    go_enter Tryz.func82, Tryz.ntmps82
    go_wp2_with fail
    go_ret
    exact ⟨rfl, rfl⟩
end Go.Proofs.YtjdjbonljohnbaaGreatDoor
/-
  space's own: bytes.Clone, a table with another mark, New, the closure that tells the free blocks.
-/
namespace Go.Proofs.YtjdjbonljohnbaaGreatDoor
open Go.RowKit Go.Shelf
set_option maxRecDepth 100000

set_option maxHeartbeats 1000000 in
theorem spClone_any (a : Option Addr) (n c : Nat) (s : List UInt8) (w : World) (hA : Bsl w w.heap.size a n c s) (h0 : 0 < n) (hn : n ≤ 20000) : Calls Tryz.prog 36 #[.slice a n c] w (OwnV n s w) := by
  obtain ⟨b, off, rfl, _⟩ := hA.at_ h0
  have HA := Lib.hid hA.2.2.2
  have b0 := (Below.refl w.heap.size w).alloc (Nat.le_refl _) (.cells #[] 5)
  have HB0 := Lib.hid b0
  have HS := Lib.hid (hA.step b0)
  have HO0 := Lib.hid (own_empty w)
  have HQ : (binOp .eql 26 (.slice (some ⟨b, off, none⟩) n c) (.slice none 0 0)).run Tryz.prog w = .ok (.bool false) w := by kernel_rfl
  clear hA b0
  go_enter Tryz.func36, Tryz.ntmps36
  go_wp2_with (at_builtin
               refine wpList_append_bsl rfl (.tmp 5) (.tmp 6) rfl w.heap.size _ 0 _ rfl HO0.out _ (some ⟨b, off, none⟩) n c s rfl HS.out (by omega) HB0.out.size ?_
               intro v1 W1 hown1 hg1
               rw [Nat.zero_add, List.nil_append] at hown1
               have HB1 := Lib.hid (app_below HB0.out HO0.out hg1 HB0.out.size); clear hg1
               have HO1 := Lib.hid hown1; clear hown1)
  go_ret
  exact ⟨_, rfl, HO1.out, HB1.out⟩
/-- A row of the call's own in which one byte is written. -/
theorem own_put {w : World} {B n c g : Nat} {s : List UInt8} (h : w.ownsRow B 5 1 (.slice (some ⟨g, 0, none⟩) n c) n (vals s)) (i : Nat) (_hi : i < n) (y : UInt8) : (w.setCell ⟨g, i, none⟩ (.int .u8 (y.toNat : Int))).ownsRow B 5 1 (.slice (some ⟨g, 0, none⟩) n c) n (vals (s.set i y)) := by
  obtain ⟨h1, ⟨h2, h3⟩ | ⟨g', cap', cur, h2, hb, hh, hnc, hcm, hsz, ht⟩⟩ := h
  · cases h2
  · cases h2
    refine ⟨by simpa [vals] using h1, .inr ⟨g, c, cur.setIfInBounds i (.int .u8 (y.toNat : Int)), rfl, hb, Blk.set_ (g := g) (t := 5) hh i _, hnc, hcm, by simpa using hsz, ?_⟩⟩
    rw [Array.toList_setIfInBounds, List.take_set, vals, List.map_set]
    have e : List.take (n * 1) cur.toList = vals s := by simpa using ht
    rw [show (List.take (n * 1) cur.toList) = vals s from e]
    rfl
theorem own_mk {w : World} {B n c g : Nat} {s : List UInt8} (h : w.ownsRow B 5 1 (.slice (some ⟨g, 0, none⟩) n c) n (vals s)) (i : Nat) (hi : i < n) : w.cell? ⟨g, i, none⟩ = some (.int .u8 ((mkT s i : Nat) : Int)) := by
  have := (own_bsl h).mk i hi
  rwa [Nat.zero_add] at this
theorem own_at {w : World} {B n : Nat} {v : Value} {s : List UInt8} (h : w.ownsRow B 5 1 v n (vals s)) (h0 : 0 < n) : ∃ g c, v = .slice (some ⟨g, 0, none⟩) n c := by
  obtain ⟨g, c, e, _⟩ := bsl_of_own h h0
  exact ⟨g, c, e⟩
/-- A table with another mark, in new memory. -/
theorem spWith_any (a : Option Addr) (n c : Nat) (s : List UInt8) (k : Nat) (y : UInt8) (w : World) (hA : Bsl w w.heap.size a n c s) (hk : k < n) (hn : n ≤ 20000) : Calls Tryz.prog 84 #[.slice a n c, .int .i64 k, .int .u8 (y.toNat : Int)] w (OwnV n (s.set k y) w) := by
  have HC := Lib.hid (spClone_any a n c s w hA (by omega) hn)
  clear hA
  have k0 : (0 : Int) ≤ k := by omega
  have k1 : (k : Int) < n := by omega
  obtain ⟨z, hz⟩ : ∃ z : Int, (y.toNat : Int) = z := ⟨_, rfl⟩
  have HZ := Lib.hid hz
  rw [hz]
  clear hz
  go_enter Tryz.func84, Tryz.ntmps84
  go_wp2_with fail
  refine HC.out.mono ?_
  rintro e w1 ⟨v, rfl, ho, b1⟩
  obtain ⟨g, c', rfl⟩ := own_at ho (by omega)
  have hc := own_mk ho k hk
  have hw := own_put ho k hk y
  rw [HZ.out] at hw
  have hlt := own_lt ho
  have HB := Lib.hid (b1.setCell (p := ⟨g, k, none⟩) hlt.1 (.int .u8 z))
  have HO := Lib.hid hw
  have hf : w1.frozen? ⟨g, k, none⟩ = false := by
    obtain ⟨cs, hbk⟩ := own_blk ho
    exact hbk.frozen k
  clear ho b1 hw hlt
  go_wp2_with fail
  go_ret
  exact ⟨_, rfl, HO.out, HB.out⟩
/-- The closure that tells the free blocks: its place lies in block gp, the table's slice in block gs. -/
theorem spOnes_any (a : Option Addr) (n c : Nat) (w : World) : Calls Tryz.prog 83 #[.slice a n c] w fun e w' => ∃ gp gs, e = .returned (.func (.func 104) #[] #[.pointer (some ⟨gp, 0, none⟩), .pointer (some ⟨gs, 0, none⟩)]) ∧ w.heap.size ≤ gp ∧ w.heap.size ≤ gs ∧ gp ≠ gs ∧ Blk w' gp 3 #[.int .i64 0] ∧ Blk w' gs 26 #[.slice a n c] ∧ Below w.heap.size w w' := by
  have b1 := (Below.refl w.heap.size w).alloc (Nat.le_refl _) (.cells #[.slice a n c] 26)
  have b2 := b1.alloc b1.size (.cells #[.int .i64 0] 3)
  have z1 := (Blk.new w 26 #[.slice a n c]).alloc (.cells #[.int .i64 0] 3)
  have z2 := Blk.new (w.alloc (.cells #[.slice a n c] 26)) 3 #[.int .i64 0]
  have HB := Lib.hid b2
  have HZ1 := Lib.hid z1
  have HZ2 := Lib.hid z2
  clear b1 b2 z1 z2
  go_enter Tryz.func83, Tryz.ntmps83
  go_wp2_with fail
  go_ret
  refine ⟨_, _, rfl, by simp, by simp, by simp, ?_, HZ1.out, HB.out⟩
  have h := HZ2.out
  rw [World.size_alloc] at h
  exact h
end Go.Proofs.YtjdjbonljohnbaaGreatDoor
/-
  The closure that tells the free blocks, called: the next one from its place on, or none.
-/
namespace Go.Proofs.YtjdjbonljohnbaaGreatDoor
open Go.RowKit Go.Shelf
set_option maxRecDepth 100000

/-- The number that a block keeps. -/
def keptAt (w : World) (g : Nat) : Nat := (intOf ((w.cell? ⟨g, 0, none⟩).getD undef)).toNat
theorem keptAt_blk {w : World} {g t k : Nat} (h : Blk w g t #[.int .i64 (k : Int)]) : keptAt w g = k := by
  unfold keptAt
  rw [h.cell 0]
  simp [intOf]
set_option maxHeartbeats 1000000 in
theorem spNext_some (gp gs B : Nat) (a : Option Addr) (n c : Nat) (s : List UInt8) (p k : Nat) (w : World) (hp : Blk w gp 3 #[.int .i64 (p : Int)]) (hs : Blk w gs 26 #[.slice a n c]) (hne : gp ≠ gs) (hA : Bsl w B a n c s) (hB : B ≤ gp)
    (h1 : p ≤ k) (h2 : k < n) (h3 : mkT s k = 0) (h4 : ∀ i, p ≤ i → i < k → mkT s i ≠ 0) :
    Calls Tryz.prog 104 #[.pointer (some ⟨gp, 0, none⟩), .pointer (some ⟨gs, 0, none⟩)] w fun e w' => e = .returned (.tuple #[.int .i64 k, .bool true]) ∧ w.grownBy w' (some gp) ∧ Blk w' gp 3 #[.int .i64 ((k + 1 : Nat) : Int)] := by
  have n1 := hA.len_le
  obtain ⟨b, off, rfl, hbB⟩ := hA.at_ (by omega)
  have HP := Lib.hid hp
  have HS := Lib.hid hs
  have HA := Lib.hid hA
  have HB := Lib.hid hB
  have HNE := Lib.hid hne
  have H3 := Lib.hid h3
  have H4 := Lib.hid h4
  clear hp hs hA hB hne h3 h4
  go_enter Tryz.func104, Tryz.ntmps104
  go_wp2_with fail
  go_loopw [4] (fun _ wr => ∃ j : Nat, p ≤ j ∧ j ≤ k ∧ w.grownBy wr (some gp) ∧ Blk wr gp 3 #[.int .i64 (j : Int)]) (fun _ wr => n - keptAt wr gp)
  case atStart => exact ⟨p, Nat.le_refl _, h1, World.grownBy.refl _ _, HP.out⟩
  case round =>
    obtain ⟨j, hj1, hj2, hg, hb⟩ := hrel
    have j0 : (0 : Int) ≤ j := by omega
    have j1 : (j : Int) < n := by omega
    have hlt : j < n := by omega
    have hkm := keptAt_blk hb
    have HKM := Lib.hid hkm
    clear hkm
    have c0 : wr.cell? ⟨gp, 0, none⟩ = some (.int .i64 (j : Int)) := hb.cell 0
    have hsr : Blk wr gs 26 #[.slice (some ⟨b, off, none⟩) n c] := HS.out.grown hg fun e => HNE.out (Option.some.inj e).symm
    have c1 : wr.cell? ⟨gs, 0, none⟩ = some (.slice (some ⟨b, off, none⟩) n c) := hsr.cell 0
    have c1' : (wr.setCell ⟨gp, 0, none⟩ (.int .i64 ((j : Int) + 1))).cell? ⟨gs, 0, none⟩ = some (.slice (some ⟨b, off, none⟩) n c) := (hsr.far (p := ⟨gp, 0, none⟩) (fun e => HNE.out e.symm) _).cell 0
    have hbg : b ≠ gp := by have := HB.out; omega
    have hcell : (wr.setCell ⟨gp, 0, none⟩ (.int .i64 ((j : Int) + 1))).cell? ⟨b, off + j, none⟩ = some (.int .u8 ((mkT s j : Nat) : Int)) := by
      rw [← HA.out.mk j hlt]
      have hbl : b < w.heap.size := by
        have h := HA.out.mk j hlt
        obtain ⟨o, ho, _⟩ := cells_of_cell h
        exact (Array.getElem?_eq_some_iff.1 ho).1
      have e1 : (wr.setCell ⟨gp, 0, none⟩ (.int .i64 ((j : Int) + 1))).heap[b]? = w.heap[b]? := (Below.heap_setCell wr ⟨gp, 0, none⟩ _ b hbg).trans (hg.block b hbl (fun e => hbg (Option.some.inj e)))
      exact World.cell?_of_block (a := ⟨b, off + j, none⟩) e1
    have hw : IntKind.i64.wrap ((j : Int) + 1) = (j : Int) + 1 := IntWalk.i64_in _ (by omega)
    have hg2 : w.grownBy (wr.setCell ⟨gp, 0, none⟩ (.int .i64 ((j : Int) + 1))) (some gp) := only_setCell hg (.inl rfl) _
    have hb2 := hb.set_ 0 (.int .i64 ((j : Int) + 1))
    have hb2' : Blk (wr.setCell ⟨gp, 0, none⟩ (.int .i64 ((j : Int) + 1))) gp 3 #[.int .i64 ((j + 1 : Nat) : Int)] := by
      have e : ((j + 1 : Nat) : Int) = (j : Int) + 1 := by omega
      rw [e]; exact hb2
    have hf := hb.frozen 0
    have HG2 := Lib.hid hg2
    have HB2 := Lib.hid hb2'
    clear hg hb hsr hg2 hb2 hb2' hbg
    by_cases hjk : j = k
    · rw [hjk] at c0 j0 j1 hlt c1' hcell hw HG2 HB2
      rw [H3.out] at hcell
      clear HKM hj1 hj2 hjk
      go_wp2_with fail
      go_ret2
      exact ⟨rfl, HG2.out, HB2.out⟩
    · have hz := H4.out j hj1 (by omega)
      obtain ⟨x, hx⟩ : ∃ x : Nat, mkT s j = x := ⟨_, rfl⟩
      rw [hx] at hcell hz
      have hzz : ((x : Int) == 0) = false := by simp; omega
      clear hx hz
      go_wp2_with fail
      go_roundw
      case rel => exact ⟨j + 1, by omega, by omega, HG2.out, HB2.out⟩
      case measure =>
        rw [keptAt_blk HB2.out, HKM.out]
        omega
set_option maxHeartbeats 1000000 in
theorem spNext_none (gp gs B : Nat) (a : Option Addr) (n c : Nat) (s : List UInt8) (p : Nat) (w : World) (hp : Blk w gp 3 #[.int .i64 (p : Int)]) (hs : Blk w gs 26 #[.slice a n c]) (hne : gp ≠ gs) (hA : Bsl w B a n c s) (hB : B ≤ gp)
    (h1 : p ≤ n) (h4 : ∀ i, p ≤ i → i < n → mkT s i ≠ 0) :
    Calls Tryz.prog 104 #[.pointer (some ⟨gp, 0, none⟩), .pointer (some ⟨gs, 0, none⟩)] w fun e w' => e = .returned (.tuple #[.int .i64 0, .bool false]) ∧ w.grownBy w' (some gp) ∧ Blk w' gp 3 #[.int .i64 (n : Int)] := by
  have n1 := hA.len_le
  have HP := Lib.hid hp
  have HS := Lib.hid hs
  have HA := Lib.hid hA
  have HB := Lib.hid hB
  have HNE := Lib.hid hne
  have H4 := Lib.hid h4
  clear hp hs hA hB hne h4
  go_enter Tryz.func104, Tryz.ntmps104
  go_wp2_with fail
  go_loopw [4] (fun _ wr => ∃ j : Nat, p ≤ j ∧ j ≤ n ∧ w.grownBy wr (some gp) ∧ Blk wr gp 3 #[.int .i64 (j : Int)]) (fun _ wr => n - keptAt wr gp)
  case atStart => exact ⟨p, Nat.le_refl _, h1, World.grownBy.refl _ _, HP.out⟩
  case round =>
    obtain ⟨j, hj1, hj2, hg, hb⟩ := hrel
    have j0 : (0 : Int) ≤ j := by omega
    have hkm := keptAt_blk hb
    have HKM := Lib.hid hkm
    clear hkm
    have c0 : wr.cell? ⟨gp, 0, none⟩ = some (.int .i64 (j : Int)) := hb.cell 0
    have hsr : Blk wr gs 26 #[.slice a n c] := HS.out.grown hg fun e => HNE.out (Option.some.inj e).symm
    have c1 : wr.cell? ⟨gs, 0, none⟩ = some (.slice a n c) := hsr.cell 0
    by_cases hlt : j < n
    · obtain ⟨b, off, rfl, hbB⟩ := HA.out.at_ (by omega)
      have j1 : (j : Int) < n := by omega
      have c1' : (wr.setCell ⟨gp, 0, none⟩ (.int .i64 ((j : Int) + 1))).cell? ⟨gs, 0, none⟩ = some (.slice (some ⟨b, off, none⟩) n c) := (hsr.far (p := ⟨gp, 0, none⟩) (fun e => HNE.out e.symm) _).cell 0
      have hbg : b ≠ gp := by have := HB.out; omega
      have hcell : (wr.setCell ⟨gp, 0, none⟩ (.int .i64 ((j : Int) + 1))).cell? ⟨b, off + j, none⟩ = some (.int .u8 ((mkT s j : Nat) : Int)) := by
        rw [← HA.out.mk j hlt]
        have hbl : b < w.heap.size := by
          have h := HA.out.mk j hlt
          obtain ⟨o, ho, _⟩ := cells_of_cell h
          exact (Array.getElem?_eq_some_iff.1 ho).1
        have e1 : (wr.setCell ⟨gp, 0, none⟩ (.int .i64 ((j : Int) + 1))).heap[b]? = w.heap[b]? := (Below.heap_setCell wr ⟨gp, 0, none⟩ _ b hbg).trans (hg.block b hbl (fun e => hbg (Option.some.inj e)))
        exact World.cell?_of_block (a := ⟨b, off + j, none⟩) e1
      have hw : IntKind.i64.wrap ((j : Int) + 1) = (j : Int) + 1 := IntWalk.i64_in _ (by omega)
      have hg2 : w.grownBy (wr.setCell ⟨gp, 0, none⟩ (.int .i64 ((j : Int) + 1))) (some gp) := only_setCell hg (.inl rfl) _
      have hb2 := hb.set_ 0 (.int .i64 ((j : Int) + 1))
      have hb2' : Blk (wr.setCell ⟨gp, 0, none⟩ (.int .i64 ((j : Int) + 1))) gp 3 #[.int .i64 ((j + 1 : Nat) : Int)] := by
        have e : ((j + 1 : Nat) : Int) = (j : Int) + 1 := by omega
        rw [e]; exact hb2
      have hf := hb.frozen 0
      have HG2 := Lib.hid hg2
      have HB2 := Lib.hid hb2'
      clear hg hb hsr hg2 hb2 hb2' hbg
      have hz := H4.out j hj1 hlt
      obtain ⟨x, hx⟩ : ∃ x : Nat, mkT s j = x := ⟨_, rfl⟩
      rw [hx] at hcell hz
      have hzz : ((x : Int) == 0) = false := by simp; omega
      clear hx hz
      go_wp2_with fail
      go_roundw
      case rel => exact ⟨j + 1, by omega, by omega, HG2.out, HB2.out⟩
      case measure =>
        rw [keptAt_blk HB2.out, HKM.out]
        omega
    · have hjn : j = n := by omega
      rw [hjn] at c0 hb j0
      have HG2 := Lib.hid hg
      have HB2 := Lib.hid hb
      clear hg hb hsr HKM hlt hjn hj1 hj2
      go_wp2_with fail
      go_ret2
      exact ⟨rfl, HG2.out, HB2.out⟩
end Go.Proofs.YtjdjbonljohnbaaGreatDoor
/-
  What space's calls answer: Check, Free, Take, Give, Settle.
-/
namespace Go.Proofs.YtjdjbonljohnbaaGreatDoor
open Go.RowKit Go.Shelf
set_option maxRecDepth 100000

/-- A table of the call's own, a block's number, and an error's number. -/
def OutTk (c : Nat) (x : List UInt8) (k : Nat) (w : World) (e : Ending) (w' : World) : Prop := ∃ v, e = .returned (.tuple #[v, .int .i64 k, .int .i64 c]) ∧ w'.ownsRow w.heap.size 5 1 v x.length (vals x) ∧ Below w.heap.size w w'
theorem MayT.len_of {w : World} {B n c : Nat} {a : Option Addr} {s : List UInt8} (h : MayT s) (hA : Bsl w B a n c s) : n = 256 := by rw [← hA.1]; exact h.1

theorem spCheck_yes (a : Option Addr) (n c B : Nat) (s : List UInt8) (w : World) (hA : Bsl w B a n c s) (h : MayT s) : Calls Tryz.prog 71 #[.slice a n c] w fun e w' => e = .returned (.int .i64 0) ∧ w = w' := by
  have HM := Lib.hid (spMay_yes a n c B s w hA h)
  clear hA h
  go_enter Tryz.func71, Tryz.ntmps71
  go_wp2_with fail
  refine HM.out.mono ?_
  rintro e w1 ⟨rfl, rfl⟩
  go_wp2_with fail
  go_ret
  exact ⟨rfl, rfl⟩
theorem spCheck_no (a : Option Addr) (n c B : Nat) (s : List UInt8) (w : World) (hA : Bsl w B a n c s) (h : ¬ MayT s) : Calls Tryz.prog 71 #[.slice a n c] w fun e w' => e = .returned (.int .i64 8) ∧ w = w' := by
  have HM := Lib.hid (spMay_no a n c B s w hA h)
  clear hA h
  go_enter Tryz.func71, Tryz.ntmps71
  go_wp2_with fail
  refine HM.out.mono ?_
  rintro e w1 ⟨rfl, rfl⟩
  go_wp2_with fail
  go_ret
  exact ⟨rfl, rfl⟩

theorem spTake_full (a : Option Addr) (n c : Nat) (s : List UInt8) (w : World) (hA : Bsl w w.heap.size a n c s) (h : MayT s) (h0 : ∀ i, i < 256 → mkT s i ≠ 0) : Calls Tryz.prog 61 #[.slice a n c] w (OutTk 9 [] 0 w) := by
  have HM := Lib.hid (spMay_yes a n c _ s w hA h)
  have hn := h.len_of hA
  subst hn
  have HF := Lib.hid (spOnes_any a 256 c w)
  have HA := Lib.hid hA
  have H0 := Lib.hid h0
  clear hA h h0
  go_enter Tryz.func61, Tryz.ntmps61
  go_wp2_with fail
  refine HM.out.mono ?_
  rintro e w1 ⟨rfl, rfl⟩
  go_wp2_with fail
  refine HF.out.mono ?_
  rintro e w1 ⟨gp, gs, rfl, hgp, hgs, hne, hp, hs, b1⟩
  have HX := Lib.hid (spNext_none gp gs w.heap.size a 256 c s 0 w1 hp hs hne (HA.out.below b1) hgp (Nat.zero_le _) fun i _ hi => H0.out i hi)
  have HB := Lib.hid b1
  have HG := Lib.hid hgp
  clear hgs hne hp hs b1 hgp
  go_wp2_with fail
  refine HX.out.mono ?_
  rintro e w2 ⟨rfl, hg, _⟩
  have HB2 := Lib.hid (below_only HB.out HG.out hg HB.out.size)
  clear hg
  go_wp2_with fail
  go_ret3
  exact ⟨_, rfl, World.ownsRow_nil _ _ _ _, HB2.out⟩
theorem spTake_ok (a : Option Addr) (n c : Nat) (s : List UInt8) (k : Nat) (w : World) (hA : Bsl w w.heap.size a n c s) (h : MayT s) (hk : k < 256) (hz : mkT s k = 0) (h0 : ∀ i, i < k → mkT s i ≠ 0) : Calls Tryz.prog 61 #[.slice a n c] w (OutTk 0 (s.set k 1) k w) := by
  have HM := Lib.hid (spMay_yes a n c _ s w hA h)
  have hn := h.len_of hA
  subst hn
  have hl : (s.set k 1).length = 256 := by simp [h.1]
  have HL := Lib.hid hl
  have HF := Lib.hid (spOnes_any a 256 c w)
  have HA := Lib.hid hA
  have H0 := Lib.hid h0
  have HZ := Lib.hid hz
  clear hA h h0 hz hl
  go_enter Tryz.func61, Tryz.ntmps61
  go_wp2_with fail
  refine HM.out.mono ?_
  rintro e w1 ⟨rfl, rfl⟩
  go_wp2_with fail
  refine HF.out.mono ?_
  rintro e w1 ⟨gp, gs, rfl, hgp, hgs, hne, hp, hs, b1⟩
  have HX := Lib.hid (spNext_some gp gs w.heap.size a 256 c s 0 k w1 hp hs hne (HA.out.below b1) hgp (Nat.zero_le _) hk HZ.out fun i _ hi => H0.out i hi)
  have HB := Lib.hid b1
  have HG := Lib.hid hgp
  clear hgs hne hp hs b1 hgp
  go_wp2_with fail
  refine HX.out.mono ?_
  rintro e w2 ⟨rfl, hg, _⟩
  have HB2 := Lib.hid (below_only HB.out HG.out hg HB.out.size)
  clear hg
  have HW := Lib.hid (spWith_any a 256 c s k 1 w2 (HA.out.step HB2.out) hk (by omega))
  go_wp2_with fail
  refine HW.out.mono ?_
  rintro e w3 ⟨v, rfl, ho, b3⟩
  have HO := Lib.hid (own_mono ho HB2.out.size)
  have HB3 := Lib.hid (HB2.out.trans (b3.mono HB2.out.size))
  clear ho b3
  go_wp2_with fail
  go_ret3
  exact ⟨_, rfl, by rw [HL.out]; exact HO.out, HB3.out⟩

end Go.Proofs.YtjdjbonljohnbaaGreatDoor
/-
  space.Free: all free blocks, rising.
-/
namespace Go.Proofs.YtjdjbonljohnbaaGreatDoor
open Go.RowKit Go.Shelf
set_option maxRecDepth 100000

theorem freeTo_le (s : List UInt8) (n : Nat) : (freeTo s n).length ≤ n := by rw [freeTo_length]; exact cntTo_le s 0 n
end Go.Proofs.YtjdjbonljohnbaaGreatDoor
/-
  The document's own functions of layer 12: May, Check, New, All, With, Settled, Same.
-/
namespace Go.Proofs.YtjdjbonljohnbaaGreatDoor
open Go.RowKit Go.Shelf
set_option maxRecDepth 100000

set_option maxHeartbeats 1000000 in
theorem rsMay_yes (a : Option Addr) (n c B : Nat) (s : List UInt8) (w : World) (hA : Bsl w B a n c s) (h : MayT s) : Calls Tryz.prog 42 #[.slice a n c] w fun e w' => e = .returned (.bool true) ∧ w = w' := by
  have hn := h.len_of hA
  subst hn
  obtain ⟨b, off, rfl, _⟩ := hA.at_ (by omega)
  have HA := Lib.hid hA
  have HM := Lib.hid h
  clear hA h
  go_enter Tryz.func42, Tryz.ntmps42
  go_wp2_with fail
  go_loop [3] (fun i => ∃ k : Nat, k ≤ 256 ∧ i = .int .i64 k) (fun i => 256 - (intOf i).toNat)
  case atStart => exact ⟨0, Nat.zero_le _, rfl⟩
  case round =>
    obtain ⟨k, hk, rfl⟩ := hrel
    have k0 : (0 : Int) ≤ k := by omega
    by_cases hlt : k < 256
    · have k1 : (k : Int) < 256 := by omega
      have hc := HA.out.mk k hlt
      have h2 := HM.out.2.1 k hlt
      by_cases h12 : k < 12
      · rw [HM.out.2.2 k h12] at hc
        have k3 : (k : Int) < 12 := by omega
        clear h2
        go_wp2_with fail
        go_round
        case rel => exact ⟨k + 1, by omega, by go_num⟩
        case measure => simp [intOf]; omega
      · obtain ⟨x, hx⟩ : ∃ x : Nat, mkT s k = x := ⟨_, rfl⟩
        rw [hx] at hc h2
        have k3 : (12 : Int) ≤ k := by omega
        have x1 : (x : Int) ≤ 2 := by omega
        have x0 : (0 : Int) ≤ x := by omega
        clear hx h2
        go_wp2_with fail
        go_round
        case rel => exact ⟨k + 1, by omega, by go_num⟩
        case measure => simp [intOf]; omega
    · have hkk : k = 256 := by omega
      have k3 : (256 : Int) ≤ k := by omega
      clear hkk hlt hk
      go_wp2_with fail
      go_ret
      exact ⟨rfl, rfl⟩
set_option maxHeartbeats 1000000 in
theorem rsMay_no (a : Option Addr) (n c B : Nat) (s : List UInt8) (w : World) (hA : Bsl w B a n c s) (h : ¬ MayT s) : Calls Tryz.prog 42 #[.slice a n c] w fun e w' => e = .returned (.bool false) ∧ w = w' := by
  by_cases hn : n = 256
  · subst hn
    have hl := hA.1
    have hf : ∃ j, j < 256 ∧ (2 < mkT s j ∨ j < 12 ∧ mkT s j ≠ 1) ∧ ∀ i, i < j → ¬ (2 < mkT s i ∨ i < 12 ∧ mkT s i ≠ 1) := by
      rcases first_from (fun i => 2 < mkT s i ∨ i < 12 ∧ mkT s i ≠ 1) 0 256 with ⟨k, _, h1, h2, h3⟩ | h0
      · exact ⟨k, h1, h2, fun i hi => h3 i (Nat.zero_le _) hi⟩
      · exact absurd ⟨hl, fun i hi => by have := h0 i (Nat.zero_le _) hi; omega, fun i hi => by have := h0 i (Nat.zero_le _) (by omega); omega⟩ h
    obtain ⟨j, hj, hjb, hj0⟩ := hf
    obtain ⟨b, off, rfl, _⟩ := hA.at_ (by omega)
    have HA := Lib.hid hA
    have HJ := Lib.hid hjb
    have H0 := Lib.hid hj0
    clear hA h hl hjb hj0
    go_enter Tryz.func42, Tryz.ntmps42
    go_wp2_with fail
    go_loop [3] (fun i => ∃ k : Nat, k ≤ j ∧ i = .int .i64 k) (fun i => 256 - (intOf i).toNat)
    case atStart => exact ⟨0, Nat.zero_le _, rfl⟩
    case round =>
      obtain ⟨k, hk, rfl⟩ := hrel
      have k0 : (0 : Int) ≤ k := by omega
      have k1 : (k : Int) < 256 := by omega
      have hlt : k < 256 := by omega
      have hc := HA.out.mk k hlt
      obtain ⟨x, hx⟩ : ∃ x : Nat, mkT s k = x := ⟨_, rfl⟩
      have x0 : (0 : Int) ≤ x := by omega
      rw [hx] at hc
      by_cases hkj : k < j
      · have h1 := H0.out k hkj
        rw [hx] at h1
        have x1 : (x : Int) ≤ 2 := by omega
        by_cases h12 : k < 12
        · have k3 : (k : Int) < 12 := by omega
          have hx1 : x = 1 := by omega
          rw [hx1] at hc
          clear h1 hx x1 x0 hx1
          go_wp2_with fail
          go_round
          case rel => exact ⟨k + 1, by omega, by go_num⟩
          case measure => simp [intOf]; omega
        · have k3 : (12 : Int) ≤ k := by omega
          clear h1 hx
          go_wp2_with fail
          go_round
          case rel => exact ⟨k + 1, by omega, by go_num⟩
          case measure => simp [intOf]; omega
      · have h1 := HJ.out
        rw [show j = k by omega, hx] at h1
        by_cases h2 : 2 < x
        · have x1 : (2 : Int) < x := by omega
          clear h1 hx hkj hk
          go_wp2_with fail
          go_ret
          exact ⟨rfl, rfl⟩
        · have x1 : (x : Int) ≤ 2 := by omega
          have k3 : (k : Int) < 12 := by omega
          have e1 : ((x : Int) != 1) = true := by simp; omega
          clear h1 hx hkj hk h2
          go_wp2_with fail
          go_ret
          exact ⟨rfl, rfl⟩
  · have n1 := hA.len_le
    have hb : ((n : Int) != 256) = true := by simp; omega
    clear hA h hn
    go_enter Tryz.func42, Tryz.ntmps42
    go_wp2_with fail
    go_ret
    exact ⟨rfl, rfl⟩
set_option maxHeartbeats 1000000 in
/-- All free blocks, rising: a list of the call's own. -/
theorem rsAll_any (a : Option Addr) (c B : Nat) (s : List UInt8) (w : World) (hA : Bsl w B a 256 c s) (hB : B ≤ w.heap.size) : Calls Tryz.prog 65 #[.slice a 256 c] w (NewN (freeTo s 256).length (freeTo s 256) w) := by
  obtain ⟨b, off, rfl, _⟩ := hA.at_ (by omega)
  have HA := Lib.hid (hA.more hB)
  clear hA hB
  go_enter Tryz.func65, Tryz.ntmps65
  go_wp2_with fail
  go_loopw [3, 4] (fun v i wr => ∃ k : Nat, k ≤ 256 ∧ i = .int .i64 k ∧ wr.ownsRow w.heap.size 3 1 v (freeTo s k).length (valsN (freeTo s k)) ∧ Below w.heap.size w wr) (fun _ i _ => 256 - (intOf i).toNat)
  case atStart => exact ⟨0, Nat.zero_le _, rfl, World.ownsRow_nil _ _ _ _, Below.refl _ _⟩
  case round =>
    obtain ⟨k, hk, rfl, ho, hb⟩ := hrel
    have k0 : (0 : Int) ≤ k := by omega
    by_cases hlt : k < 256
    · have k1 : (k : Int) < 256 := by omega
      have hc := (HA.out.below hb).mk k hlt
      by_cases hz : mkT s k = 0
      · rw [hz] at hc
        have hl : (freeTo s k).length ≤ k := freeTo_le s k
        have hfy : freeTo s k ++ [k] = freeTo s (k + 1) := (freeTo_yes hz).symm
        have hfl : (freeTo s k).length + 1 = (freeTo s (k + 1)).length := by rw [← hfy]; simp
        have HN1 := Lib.hid (one_nsl wr k)
        have HOr := Lib.hid (ho.alloc (.cells #[.int .i64 (k : Int)] 3))
        have HBr := Lib.hid (hb.alloc hb.size (.cells #[.int .i64 (k : Int)] 3))
        have HFY := Lib.hid hfy
        have HFL := Lib.hid hfl
        clear ho hb hz hfy hfl
        go_wp2_with (at_builtin
                     refine wpList_append_nsl rfl (.tmp 14) (.tmp 16) rfl w.heap.size _ (freeTo s k).length _ rfl HOr.out _ (some ⟨wr.heap.size, 0, none⟩) 1 1 [k] rfl HN1.out (by omega) HBr.out.size ?_
                     intro v' W3 hown' hg'
                     rw [HFY.out, HFL.out] at hown'
                     have HB3 := Lib.hid (app_below HBr.out HOr.out hg' HBr.out.size); clear hg'
                     have HO3 := Lib.hid hown'; clear hown')
        go_roundw
        case rel => exact ⟨k + 1, by omega, by go_num, HO3.out, HB3.out⟩
        case measure => simp [intOf]; omega
      · rw [← freeTo_no hz] at ho
        obtain ⟨x, hx⟩ : ∃ x : Nat, mkT s k = x := ⟨_, rfl⟩
        rw [hx] at hc hz
        have e2 : ((x : Int) == 0) = false := by simp; omega
        have HB2 := Lib.hid hb
        have HO2 := Lib.hid ho
        clear ho hb hz hx
        go_wp2_with fail
        go_roundw
        case rel => exact ⟨k + 1, by omega, by go_num, HO2.out, HB2.out⟩
        case measure => simp [intOf]; omega
    · have hkk : k = 256 := by omega
      rw [hkk] at ho
      have HO2 := Lib.hid ho
      have HB2 := Lib.hid hb
      have k3 : (256 : Int) ≤ k := by omega
      clear ho hb hkk hlt hk
      go_wp2_with fail
      go_ret
      exact ⟨_, rfl, HO2.out, HB2.out⟩
set_option maxHeartbeats 1000000 in
theorem rsWith_any (a : Option Addr) (n c : Nat) (s : List UInt8) (k : Nat) (y : UInt8) (w : World) (hA : Bsl w w.heap.size a n c s) (hk : k < n) (hn : n ≤ 20000) : Calls Tryz.prog 66 #[.slice a n c, .int .i64 k, .int .u8 (y.toNat : Int)] w (OwnV n (s.set k y) w) := by
  have HA := Lib.hid hA
  have HO0 := Lib.hid (own_nil w w.heap.size)
  have HB0 := Lib.hid (Below.refl w.heap.size w)
  have k0 : (0 : Int) ≤ k := by omega
  have k1 : (k : Int) < n := by omega
  have h0n : 0 < n := by omega
  obtain ⟨z, hz⟩ : ∃ z : Int, (y.toNat : Int) = z := ⟨_, rfl⟩
  have HZ := Lib.hid hz
  rw [hz]
  clear hz hA
  go_enter Tryz.func66, Tryz.ntmps66
  go_wp2_with (at_builtin
               refine wpList_append_bsl rfl (.const (.slice none 0 0)) (.tmp 8) rfl w.heap.size _ 0 _ rfl HO0.out _ a n c s rfl HA.out (by omega) HB0.out.size ?_
               intro v1 w1 ho hg1
               rw [Nat.zero_add, List.nil_append] at ho
               have b1 := app_below HB0.out HO0.out hg1 HB0.out.size; clear hg1
               obtain ⟨g, c', rfl⟩ := own_at ho h0n
               have hc := own_mk ho k hk
               have hw := own_put ho k hk y
               rw [HZ.out] at hw
               have hlt := own_lt ho
               have HB := Lib.hid (b1.setCell (p := ⟨g, k, none⟩) hlt.1 (.int .u8 z))
               have HO := Lib.hid hw
               have hf : w1.frozen? ⟨g, k, none⟩ = false := by
                 obtain ⟨cs, hbk⟩ := own_blk ho
                 exact hbk.frozen k
               clear ho b1 hw hlt)
  go_ret
  exact ⟨_, rfl, HO.out, HB.out⟩
end Go.Proofs.YtjdjbonljohnbaaGreatDoor
/-
  The document's own Free, Take, Give, Settle and Same of layer 12.
-/
namespace Go.Proofs.YtjdjbonljohnbaaGreatDoor
open Go.RowKit Go.Shelf
set_option maxRecDepth 100000

theorem ownN_slice {w : World} {B n : Nat} {v : Value} {xs : List Value} (h : w.ownsRow B 3 1 v n xs) : ∃ a cap, v = .slice a n cap := by
  rcases h.2 with ⟨rfl, h0⟩ | ⟨g, cap, cur, rfl, _⟩
  · exact ⟨none, 0, by rw [h0]⟩
  · exact ⟨_, _, rfl⟩
set_option maxHeartbeats 1000000 in
/-- Two lists that are the same. -/
theorem rsSame_yes (a : Option Addr) (n c : Nat) (b : Option Addr) (d : Nat) (x : List Nat) (w : World) (hA : Nsl w w.heap.size a n c x) (hB : Nsl w w.heap.size b n d x) (hx : n ≤ 100000) : Calls Tryz.prog 11 #[.slice a n c, .slice b n d] w fun e w' => e = .returned (.bool true) ∧ Below w.heap.size w w' := by
  have hmx : Tryz.prog.follows Departure.mixedOrders = true := by kernel_rfl
  have n0 : (0 : Int) ≤ n := by omega
  have n1 : (n : Int) ≤ 9223372036854775807 := by omega
  have h0 : ((n : Int) != n) = false := by simp
  have HA := Lib.hid hA
  have HB := Lib.hid hB
  clear hA hB
  go_enter Tryz.func11, Tryz.ntmps11
  go_wp2_with fail
  clear h0
  go_loopw [5] (fun i wr => ∃ k : Nat, k ≤ n ∧ i = .int .i64 k ∧ Below w.heap.size w wr) (fun i _ => n - (intOf i).toNat)
  case atStart => exact ⟨0, Nat.zero_le _, rfl, Below.refl _ _⟩
  case round =>
    obtain ⟨k, hk, rfl, hb⟩ := hrel
    have k0 : (0 : Int) ≤ k := by omega
    by_cases hlt : k < n
    · have k1 : (k : Int) < n := by omega
      have HA2 := Lib.hid (HA.out.below hb)
      have HB2 := Lib.hid (HB.out.below hb)
      obtain ⟨ba, oa, rfl, _⟩ := HA.out.2.2.2.2 (by omega)
      obtain ⟨bb, ob, rfl, _⟩ := HB.out.2.2.2.2 (by omega)
      have c1 := HA2.out.cellD k hlt
      have c2 := HB2.out.cellD k hlt
      obtain ⟨y, hy⟩ : ∃ y : Nat, x.getD k 0 = y := ⟨_, rfl⟩
      rw [hy] at c1 c2
      have e1 : ((y : Int) != y) = false := by simp
      have HBB := Lib.hid hb
      clear hb hy
      go_wp2_with fail
      go_quiet (fail)
      go_wp2_with fail
      go_roundw
      case rel => exact ⟨k + 1, by omega, by go_num, below_drewN HBB.out _⟩
      case measure => simp [intOf]; omega
    · have hkk : k = n := by omega
      rw [hkk]
      have HBB := Lib.hid hb
      clear hb hkk hlt hk k0
      go_wp2_with fail
      go_ret
      exact ⟨rfl, HBB.out⟩
end Go.Proofs.YtjdjbonljohnbaaGreatDoor
/-
  The document's own Great for layer 9: a disk that is not great has few blocks, few writes, few bytes.
-/
namespace Go.Proofs.YtjdjbonljohnbaaGreatDoor
open Go.RowKit Go.Shelf
set_option maxRecDepth 100000

/-- No piece of a disk is longer than what memory there is. -/
def Near (D : DkL) : Prop := (∀ i, i < D.1.length → (D.1.getD i []).length ≤ 140737488351232) ∧ ∀ i, i < D.2.length → (wr_ D.2 i).2.length ≤ 140737488351232
/-- What a disk that is not great is. -/
def Small (D : DkL) : Prop := D.1.length ≤ 500 ∧ (D.2.length ≤ 500 ∨ 4096 ≤ D.2.length) ∧ D.2.length ≤ 4106 ∧ sumD D < 2000000
/-- What Great answers: if it is no, the disk is small. -/
def GreatSays (D : DkL) (w : World) (e : Ending) (w' : World) : Prop := ∃ b, e = .returned (.bool b) ∧ (b = false → Small D) ∧ Below w.heap.size w w'
theorem small_fits {D : DkL} (h : Small D) : Fits D := ⟨by have := h.1; omega, by have := h.2.2.1; omega, by have := h.2.2.2; omega⟩
theorem great_yes {D : DkL} {w w' : World} (hb : Below w.heap.size w w') : GreatSays D w (.returned (.bool true)) w' := ⟨true, rfl, fun h => (by cases h), hb⟩
set_option maxHeartbeats 4000000 in
theorem rdGreat_any (x : DAt) (D : DkL) (w : World) (h : Dsk w w.heap.size x D) (hnear : Near D) : Calls Tryz.prog 13 #[dval x D] w (GreatSays D w) := by
  obtain ⟨ba, bc, wa, wc⟩ := x
  simp only [dval]
  have l1 := h.1.len_le
  have l2 := h.2.len_le
  obtain ⟨n, hn⟩ : ∃ n, D.1.length = n := ⟨_, rfl⟩
  obtain ⟨m, hm⟩ : ∃ m, D.2.length = m := ⟨_, rfl⟩
  rw [hn] at l1
  rw [hm] at l2
  have n0 : (0 : Int) ≤ n := by omega
  have m0 : (0 : Int) ≤ m := by omega
  have b0 := (Below.refl w.heap.size w).alloc (Nat.le_refl _) (.cells #[.slice ba D.1.length bc, .slice wa D.2.length wc] 25)
  have x0 := Blk.new w 25 #[.slice ba D.1.length bc, .slice wa D.2.length wc]
  have h0 := h.step b0
  rw [hn, hm] at b0 x0 h0 ⊢
  obtain ⟨w0, hw0⟩ : ∃ w0, w.alloc (.cells #[.slice ba n bc, .slice wa m wc] 25) = w0 := ⟨_, rfl⟩
  rw [hw0] at b0 x0 h0
  have c0 := x0.cell 0
  have c1 := x0.cell 1
  obtain ⟨hB, hW⟩ := h0
  simp only [hn, hm] at hB hW
  have HB := Lib.hid hB
  have HW := Lib.hid hW
  have HBl := Lib.hid b0
  have HN := Lib.hid hn
  have HM := Lib.hid hm
  have HNEAR := Lib.hid hnear
  clear h b0 x0 hB hW hn hm hnear
  by_cases hn5 : (500 : Int) < n
  · go_enter Tryz.func13, Tryz.ntmps13
    go_wp2_with fail
    go_ret
    exact great_yes HBl.out
  · by_cases hmid : (500 : Int) < m ∧ (m : Int) < 4096
    · obtain ⟨hm5, hm4⟩ := hmid
      go_enter Tryz.func13, Tryz.ntmps13
      go_wp2_with fail
      go_ret
      exact great_yes HBl.out
    · by_cases hm6 : (4106 : Int) < m
      · have hm5 : (500 : Int) < m := by omega
        have hm4 : ¬ (m : Int) < 4096 := by omega
        clear hmid
        go_enter Tryz.func13, Tryz.ntmps13
        go_wp2_with fail
        go_ret
        exact great_yes HBl.out
      · have hdim : n ≤ 500 ∧ (m ≤ 500 ∨ 4096 ≤ m) ∧ m ≤ 4106 := by omega
        have HDIM := Lib.hid hdim
        have hmb : (500 : Int) < m → ¬ (m : Int) < 4096 := fun hh hk => hmid ⟨hh, hk⟩
        clear hmid hdim
        by_cases hm5 : (500 : Int) < m
        all_goals
          first
            | have hm4 : ¬ (m : Int) < 4096 := hmb hm5
            | have hm4 : True := trivial
          clear hmb
          go_enter Tryz.func13, Tryz.ntmps13
          go_wp2_with fail
          clear hw0 hm4 hm5 hm6 hn5
          go_loop [3, 4] (fun t i => ∃ k : Nat, k ≤ n ∧ i = .int .i64 k ∧ t = .int .i64 (sumB D.1 k : Nat) ∧ sumB D.1 k ≤ 140737490351232) (fun _ i => n - (intOf i).toNat)
          case atStart => exact ⟨0, Nat.zero_le _, rfl, rfl, by simp [sumB]⟩
          case round =>
            obtain ⟨k, hk, rfl, rfl, hts⟩ := hrel
            have k0 : (0 : Int) ≤ k := by omega
            obtain ⟨t, ht⟩ : ∃ t, sumB D.1 k = t := ⟨_, rfl⟩
            rw [ht] at hts ⊢
            have t0 : (0 : Int) ≤ t := by omega
            have t1 : (t : Int) ≤ 140737490351232 := by omega
            by_cases hlt : k < n ∧ t < 2000000
            · obtain ⟨hlt, ht2⟩ := hlt
              have k1 : (k : Int) < n := by omega
              have t2 : (t : Int) < 2000000 := by omega
              obtain ⟨b, off, A, l, c', s, rfl, _, hl, hc, hA⟩ := HB.out.at_ hlt
              have hle := HNEAR.out.1 k (by rw [HN.out]; exact hlt)
              rw [hl, hA.1] at hle
              have hs : sumB D.1 (k + 1) = t + l := by rw [sumB, hl, hA.1, ht]
              have l0 : (0 : Int) ≤ l := by omega
              have l1 : (l : Int) ≤ 140737488351232 := by omega
              have HS := Lib.hid hs
              clear hl hA hs ht
              go_wp2_with fail
              go_round
              case rel => exact ⟨k + 1, by omega, by go_num, by rw [HS.out]; go_num, by rw [HS.out]; omega⟩
              case measure => simp [intOf]; omega
            · have hend : k = n ∨ 2000000 ≤ t := by omega
              have HEND := Lib.hid hend
              have HT := Lib.hid ht
              have hgo : ((k : Int) < n → ¬ (t : Int) < 2000000) := by omega
              clear hend ht hlt
              by_cases hkn : (k : Int) < n
              all_goals
                first
                  | have t3 : ¬ (t : Int) < 2000000 := hgo hkn
                  | have t3 : True := trivial
                clear hgo
                go_wp2_with fail
                clear hkn t3
                go_loop [3, 5] (fun u i => ∃ j : Nat, j ≤ m ∧ i = .int .i64 j ∧ u = .int .i64 (t + sumW D.2 j : Nat) ∧ t + sumW D.2 j ≤ 281474980702464) (fun _ i => m - (intOf i).toNat)
                case atStart => exact ⟨0, Nat.zero_le _, rfl, rfl, by simp [sumW]; omega⟩
                case round =>
                  obtain ⟨j, hj, rfl, rfl, hus⟩ := hrel
                  have j0 : (0 : Int) ≤ j := by omega
                  obtain ⟨u, hu⟩ : ∃ u, t + sumW D.2 j = u := ⟨_, rfl⟩
                  rw [hu] at hus ⊢
                  have u0 : (0 : Int) ≤ u := by omega
                  have u1 : (u : Int) ≤ 281474980702464 := by omega
                  by_cases hlt : j < m ∧ u < 2000000
                  · obtain ⟨hlt, hu2⟩ := hlt
                    have j1 : (j : Int) < m := by omega
                    have u2 : (u : Int) < 2000000 := by omega
                    obtain ⟨b, off, p, A, l, c', s, rfl, _, hl, _, hc, hd, hA⟩ := HW.out.at_ hlt
                    have hle := HNEAR.out.2 j (by rw [HM.out]; exact hlt)
                    rw [hl, hA.1] at hle
                    have hs : t + sumW D.2 (j + 1) = u + l := by rw [sumW, hl, hA.1, ← Nat.add_assoc, hu]
                    have l0 : (0 : Int) ≤ l := by omega
                    have l1 : (l : Int) ≤ 140737488351232 := by omega
                    have HS := Lib.hid hs
                    clear hl hA hs hu
                    go_wp2_with fail
                    go_round
                    case rel => exact ⟨j + 1, by omega, by go_num, by rw [HS.out]; go_num, by rw [HS.out]; omega⟩
                    case measure => simp [intOf]; omega
                  · have hend2 : j = m ∨ 2000000 ≤ u := by omega
                    have hsay : decide ((2000000 : Int) ≤ u) = false → Small D := by
                      intro hh
                      have hu3 : ¬ (2000000 : Int) ≤ u := by simpa using hh
                      have hju : j = m := by omega
                      have e1 := HEND.out
                      have hkn : k = n := by omega
                      obtain ⟨d1, d2, d3⟩ := HDIM.out
                      refine ⟨by rw [HN.out]; exact d1, by rw [HM.out]; exact d2, by rw [HM.out]; exact d3, ?_⟩
                      unfold sumD
                      rw [HN.out, HM.out, ← hju, ← hkn, HT.out]
                      omega
                    have hgo2 : ((j : Int) < m → ¬ (u : Int) < 2000000) := by omega
                    have HSAY := Lib.hid hsay
                    clear hsay hend2 hlt hu
                    by_cases hjm : (j : Int) < m
                    all_goals
                      first
                        | have u3 : ¬ (u : Int) < 2000000 := hgo2 hjm
                        | have u3 : True := trivial
                      clear hgo2
                      go_wp2_with fail
                      go_ret
                      first | exact ⟨_, rfl, HSAY.out, HBl.out⟩ | exact great_yes HBl.out
end Go.Proofs.YtjdjbonljohnbaaGreatDoor
/-
  The document's own functions of layer 13: May, Check, Great.
-/
namespace Go.Proofs.YtjdjbonljohnbaaGreatDoor
open Go.RowKit Go.Shelf
set_option maxRecDepth 100000

theorem st_box (w : World) (x : SAt) (S : StL) : Blk (w.alloc (.cells (stC x S) 29)) w.heap.size 29 (stC x S) ∧ Below w.heap.size w (w.alloc (.cells (stC x S) 29)) := ⟨Blk.new w _ _, (Below.refl _ w).alloc (Nat.le_refl _) _⟩
section
variable {w : World} {g : Nat} {t : TypeId} {x : SAt} {S : StL}
theorem stC0 (h : Blk w g t (stC x S)) : w.cell? ⟨g, 0, none⟩ = some (.slice x.d.ba S.1.1.length x.d.bc) := h.cell 0
theorem stC1 (h : Blk w g t (stC x S)) : w.cell? ⟨g, 1, none⟩ = some (.slice x.d.wa S.1.2.length x.d.wc) := h.cell 1
theorem stC2 (h : Blk w g t (stC x S)) : w.cell? ⟨g, 2, none⟩ = some (.slice x.a S.2.1.length x.c) := h.cell 2
theorem stC3 (h : Blk w g t (stC x S)) : w.cell? ⟨g, 3, none⟩ = some (.int .u32 (S.2.2.1 : Int)) := h.cell 3
theorem stC4 (h : Blk w g t (stC x S)) : w.cell? ⟨g, 4, none⟩ = some (.int .u32 (S.2.2.2 : Int)) := h.cell 4
end
set_option maxHeartbeats 2000000 in
theorem rtMay_any (L : Nat) (x : SAt) (S : StL) (w : World) (h : StP L w x S) (R : Bool) (hR : R = true ↔ MayS S) : Calls Tryz.prog 21 #[stV x S] w fun e w' => e = .returned (.bool R) ∧ Below w.heap.size w w' := by
  obtain ⟨xb, b0⟩ := st_box w x S
  obtain ⟨w0, hw0⟩ : ∃ w0, w.alloc (.cells (stC x S) 29) = w0 := ⟨_, rfl⟩
  rw [hw0] at xb b0
  have h0 := h.bel b0
  have c0 := stC0 xb
  have c1 := stC1 xb
  have HX := Lib.hid xb
  have HB := Lib.hid b0
  have HS := Lib.hid h0
  have hm := rdMay_any x.d S.1 w0 h0.now.1
  simp only [dval] at hm
  simp only [stC] at hw0
  clear h h0 xb b0
  have n3 : (0 : Int) ≤ (S.2.2.2 : Int) := by omega
  have n4 : (0 : Int) ≤ (S.2.2.1 : Int) := by omega
  by_cases hd : MayD S.1
  · rw [decide_eq_true hd] at hm
    have HM2 := Lib.hid hm
    clear hm
    by_cases ht : MayT S.2.1
    · by_cases e1 : 1 ≤ S.2.2.1
      · have n0 : (1 : Int) ≤ (S.2.2.1 : Int) := by omega
        by_cases e2 : S.2.2.1 ≤ 65535
        · have n1 : (S.2.2.1 : Int) ≤ 65535 := by omega
          by_cases e3 : S.2.2.2 ≤ 65535
          · have n2 : (S.2.2.2 : Int) ≤ 65535 := by omega
            obtain rfl : R = true := hR.2 ⟨hd, ht, ⟨e1, e2⟩, e3⟩
            clear hR e1 e2 e3 hd
            go_enter Tryz.func21, Tryz.ntmps21
            go_wp2_with fail
            clear c0 c1
            refine HM2.out.mono ?_
            rintro e w1 ⟨rfl, b1⟩
            have x1 := HX.out.below b1 HX.out.lt
            have c2 := stC2 x1
            have c3 := stC3 x1
            have c4 := stC4 x1
            have HC := Lib.hid (rsMay_yes x.a S.2.1.length x.c _ S.2.1 w1 (HS.out.bel b1).now.2 ht)
            have HB1 := Lib.hid (HB.out.trans (b1.mono HB.out.size))
            clear b1 x1 ht
            go_wp2_with fail
            refine HC.out.mono ?_
            rintro e w2 ⟨rfl, rfl⟩
            go_wp2_with fail
            go_ret
            exact ⟨rfl, HB1.out⟩
          · have n2 : ¬ (S.2.2.2 : Int) ≤ 65535 := by omega
            obtain rfl : R = false := by cases R with | false => rfl | true => exact absurd (hR.1 rfl) (fun hh => e3 hh.2.2.2)
            clear hR e1 e2 e3 hd
            go_enter Tryz.func21, Tryz.ntmps21
            go_wp2_with fail
            clear c0 c1
            refine HM2.out.mono ?_
            rintro e w1 ⟨rfl, b1⟩
            have x1 := HX.out.below b1 HX.out.lt
            have c2 := stC2 x1
            have c3 := stC3 x1
            have c4 := stC4 x1
            have HC := Lib.hid (rsMay_yes x.a S.2.1.length x.c _ S.2.1 w1 (HS.out.bel b1).now.2 ht)
            have HB1 := Lib.hid (HB.out.trans (b1.mono HB.out.size))
            clear b1 x1 ht
            go_wp2_with fail
            refine HC.out.mono ?_
            rintro e w2 ⟨rfl, rfl⟩
            go_wp2_with fail
            go_ret
            exact ⟨by simp; omega, HB1.out⟩
        · have n1 : ¬ (S.2.2.1 : Int) ≤ 65535 := by omega
          obtain rfl : R = false := by cases R with | false => rfl | true => exact absurd (hR.1 rfl) (fun hh => e2 hh.2.2.1.2)
          clear hR e1 e2 hd
          go_enter Tryz.func21, Tryz.ntmps21
          go_wp2_with fail
          clear c0 c1
          refine HM2.out.mono ?_
          rintro e w1 ⟨rfl, b1⟩
          have x1 := HX.out.below b1 HX.out.lt
          have c2 := stC2 x1
          have c3 := stC3 x1
          have c4 := stC4 x1
          have HC := Lib.hid (rsMay_yes x.a S.2.1.length x.c _ S.2.1 w1 (HS.out.bel b1).now.2 ht)
          have HB1 := Lib.hid (HB.out.trans (b1.mono HB.out.size))
          clear b1 x1 ht
          go_wp2_with fail
          refine HC.out.mono ?_
          rintro e w2 ⟨rfl, rfl⟩
          go_wp2_with fail
          go_ret
          exact ⟨rfl, HB1.out⟩
      · have n0 : ¬ (1 : Int) ≤ (S.2.2.1 : Int) := by omega
        obtain rfl : R = false := by cases R with | false => rfl | true => exact absurd (hR.1 rfl) (fun hh => e1 hh.2.2.1.1)
        clear hR e1 hd
        go_enter Tryz.func21, Tryz.ntmps21
        go_wp2_with fail
        clear c0 c1
        refine HM2.out.mono ?_
        rintro e w1 ⟨rfl, b1⟩
        have x1 := HX.out.below b1 HX.out.lt
        have c2 := stC2 x1
        have c3 := stC3 x1
        have c4 := stC4 x1
        have HC := Lib.hid (rsMay_yes x.a S.2.1.length x.c _ S.2.1 w1 (HS.out.bel b1).now.2 ht)
        have HB1 := Lib.hid (HB.out.trans (b1.mono HB.out.size))
        clear b1 x1 ht
        go_wp2_with fail
        refine HC.out.mono ?_
        rintro e w2 ⟨rfl, rfl⟩
        go_wp2_with fail
        go_ret
        exact ⟨rfl, HB1.out⟩
    · obtain rfl : R = false := by cases R with | false => rfl | true => exact absurd (hR.1 rfl) (fun hh => ht hh.2.1)
      clear hR hd
      go_enter Tryz.func21, Tryz.ntmps21
      go_wp2_with fail
      clear c0 c1
      refine HM2.out.mono ?_
      rintro e w1 ⟨rfl, b1⟩
      have x1 := HX.out.below b1 HX.out.lt
      have c2 := stC2 x1
      have c3 := stC3 x1
      have c4 := stC4 x1
      have HC := Lib.hid (rsMay_no x.a S.2.1.length x.c _ S.2.1 w1 (HS.out.bel b1).now.2 ht)
      have HB1 := Lib.hid (HB.out.trans (b1.mono HB.out.size))
      clear b1 x1 ht
      go_wp2_with fail
      refine HC.out.mono ?_
      rintro e w2 ⟨rfl, rfl⟩
      go_wp2_with fail
      go_ret
      exact ⟨rfl, HB1.out⟩
  · rw [decide_eq_false hd] at hm
    have HM2 := Lib.hid hm
    clear hm
    obtain rfl : R = false := by cases R with | false => rfl | true => exact absurd (hR.1 rfl) (fun hh => hd hh.1)
    clear hR hd
    go_enter Tryz.func21, Tryz.ntmps21
    go_wp2_with fail
    clear c0 c1
    refine HM2.out.mono ?_
    rintro e w1 ⟨rfl, b1⟩
    have HB1 := Lib.hid (HB.out.trans (b1.mono HB.out.size))
    clear b1
    go_wp2_with fail
    go_ret
    exact ⟨rfl, HB1.out⟩
/-- What Great answers: if it is no, the store is small. -/
def GreatSt (S : StL) (w : World) (e : Ending) (w' : World) : Prop := ∃ b, e = .returned (.bool b) ∧ (b = false → Small S.1 ∧ S.2.1.length ≤ 10000) ∧ Below w.heap.size w w'
set_option maxHeartbeats 1000000 in
theorem rtGreat_any (L : Nat) (x : SAt) (S : StL) (w : World) (h : StP L w x S) (hn : Near S.1) : Calls Tryz.prog 4 #[stV x S] w (GreatSt S w) := by
  obtain ⟨xb, b0⟩ := st_box w x S
  obtain ⟨w0, hw0⟩ : ∃ w0, w.alloc (.cells (stC x S) 29) = w0 := ⟨_, rfl⟩
  rw [hw0] at xb b0
  have h0 := h.bel b0
  have c0 := stC0 xb
  have c1 := stC1 xb
  have HX := Lib.hid xb
  have HB := Lib.hid b0
  have HS := Lib.hid h0
  have hm := rdGreat_any x.d S.1 w0 h0.now.1 hn
  simp only [dval] at hm
  have HM := Lib.hid hm
  have l1 := h0.now.2.len_le
  clear hm hn
  simp only [stC] at hw0
  clear h h0 xb b0
  go_enter Tryz.func4, Tryz.ntmps4
  go_wp2_with fail
  clear c0 c1
  refine HM.out.mono ?_
  rintro e w1 ⟨r, rfl, hs, b1⟩
  have c2 := stC2 (HX.out.below b1 HX.out.lt)
  have HB1 := Lib.hid (HB.out.trans (b1.mono HB.out.size))
  clear b1
  cases r with
  | true =>
    clear hs
    go_wp2_with fail
    go_ret
    exact ⟨true, rfl, fun h => (by cases h), HB1.out⟩
  | false =>
    have HSM := Lib.hid (hs rfl)
    clear hs
    by_cases h5 : (10000 : Int) < (S.2.1.length : Int)
    · go_wp2_with fail
      go_ret
      exact ⟨true, rfl, fun h => (by cases h), HB1.out⟩
    · have h6 : S.2.1.length ≤ 10000 := by omega
      have H6 := Lib.hid h6
      have h7 : (S.2.1.length : Int) ≤ 10000 := by omega
      clear h5 h6
      go_wp2_with fail
      go_ret
      exact ⟨false, by simp; omega, fun _ => ⟨HSM.out, H6.out⟩, HB1.out⟩
end Go.Proofs.YtjdjbonljohnbaaGreatDoor
/-
  dev.Same tells whether all fields of two disks are the same.
-/
namespace Go.Proofs.YtjdjbonljohnbaaGreatDoor
open Go.RowKit Go.Shelf
set_option maxRecDepth 100000

theorem ext_bls {a b : List (List UInt8)} (h : a.length = b.length) (he : ∀ i, i < a.length → a.getD i [] = b.getD i []) : a = b := by
  apply List.ext_getElem h
  intro i h1 h2
  have := he i h1
  simpa [List.getD_eq_getElem?_getD, h1, h2] using this
theorem ext_wts {a b : WrL} (h : a.length = b.length) (he : ∀ i, i < a.length → wr_ a i = wr_ b i) : a = b := by
  apply List.ext_getElem h
  intro i h1 h2
  have := he i h1
  unfold wr_ at this
  simpa [List.getD_eq_getElem?_getD, h1, h2] using this
end Go.Proofs.YtjdjbonljohnbaaGreatDoor
