/-
  The document's own ask, last, left, Seen for layer 9.
-/
import Derived.Test.YtgpojnhhcobcbaaRdMay
import Derived.Test.YtgpojnhhcobcbaaDevRead
namespace Go.Proofs.Ytgpojnhhcobcbaa
open Go.RowKit Go.Shelf
set_option maxRecDepth 100000

def askO (D : DkL) (b : Bool) : Int := if MayD D then (if b = true then 0 else 2) else 8
theorem rdAsk_any (x : DAt) (D : DkL) (b : Bool) (w : World) (h : Dsk w w.heap.size x D) : Calls Try.prog 48 #[dval x D, .bool b] w fun e w' => e = .returned (.int .i64 (askO D b)) ∧ Below w.heap.size w w' := by
  have b0 := (Below.refl w.heap.size w).alloc (Nat.le_refl _) (.cells #[.slice x.ba D.1.length x.bc, .slice x.wa D.2.length x.wc] 25)
  have x0 := Blk.new w 25 #[.slice x.ba D.1.length x.bc, .slice x.wa D.2.length x.wc]
  have hm := rdMay_any x D _ (h.step b0)
  have c0 := x0.cell 0
  have c1 := x0.cell 1
  obtain ⟨r, hr⟩ : ∃ r, askO D b = r := ⟨_, rfl⟩
  rw [hr]
  have HR := Lib.hid hr
  have HB := Lib.hid b0
  simp only [dval] at hm ⊢
  clear h b0 x0 hr
  by_cases hmay : MayD D
  · simp only [decide_eq_true hmay] at hm
    have HM := Lib.hid hm
    clear hm
    cases b with
    | true =>
      obtain rfl : r = 0 := by rw [← HR.out, askO, if_pos hmay, if_pos rfl]
      clear hmay
      go_enter Try.func48, Try.ntmps48
      go_wp2_with fail
      refine HM.out.mono ?_
      rintro e w1 ⟨rfl, b1⟩
      have HB1 := Lib.hid (HB.out.trans (b1.mono HB.out.size))
      clear b1
      go_wp2_with fail
      go_ret
      exact ⟨rfl, HB1.out⟩
    | false =>
      obtain rfl : r = 2 := by rw [← HR.out, askO, if_pos hmay, if_neg (by decide)]
      clear hmay
      go_enter Try.func48, Try.ntmps48
      go_wp2_with fail
      refine HM.out.mono ?_
      rintro e w1 ⟨rfl, b1⟩
      have HB1 := Lib.hid (HB.out.trans (b1.mono HB.out.size))
      clear b1
      go_wp2_with fail
      go_ret
      exact ⟨rfl, HB1.out⟩
  · simp only [decide_eq_false hmay] at hm
    have HM := Lib.hid hm
    obtain rfl : r = 8 := by rw [← HR.out, askO, if_neg hmay]
    clear hm hmay
    go_enter Try.func48, Try.ntmps48
    go_wp2_with fail
    refine HM.out.mono ?_
    rintro e w1 ⟨rfl, b1⟩
    have HB1 := Lib.hid (HB.out.trans (b1.mono HB.out.size))
    clear b1
    go_wp2_with fail
    go_ret
    exact ⟨rfl, HB1.out⟩
theorem rdCheck_any (x : DAt) (D : DkL) (w : World) (h : Dsk w w.heap.size x D) : Calls Try.prog 26 #[dval x D] w fun e w' => e = .returned (.int .i64 (checkO D)) ∧ Below w.heap.size w w' := by
  have b0 := (Below.refl w.heap.size w).alloc (Nat.le_refl _) (.cells #[.slice x.ba D.1.length x.bc, .slice x.wa D.2.length x.wc] 25)
  have x0 := Blk.new w 25 #[.slice x.ba D.1.length x.bc, .slice x.wa D.2.length x.wc]
  have hm := rdMay_any x D _ (h.step b0)
  have c0 := x0.cell 0
  have c1 := x0.cell 1
  have HB := Lib.hid b0
  unfold checkO
  simp only [dval] at hm ⊢
  clear h b0 x0
  by_cases hmay : MayD D
  · rw [if_pos hmay]
    simp only [decide_eq_true hmay] at hm
    have HM := Lib.hid hm
    clear hm hmay
    go_enter Try.func26, Try.ntmps26
    go_wp2_with fail
    refine HM.out.mono ?_
    rintro e w1 ⟨rfl, b1⟩
    have HB1 := Lib.hid (HB.out.trans (b1.mono HB.out.size))
    clear b1
    go_wp2_with fail
    go_ret
    exact ⟨rfl, HB1.out⟩
  · rw [if_neg hmay]
    simp only [decide_eq_false hmay] at hm
    have HM := Lib.hid hm
    clear hm hmay
    go_enter Try.func26, Try.ntmps26
    go_wp2_with fail
    refine HM.out.mono ?_
    rintro e w1 ⟨rfl, b1⟩
    have HB1 := Lib.hid (HB.out.trans (b1.mono HB.out.size))
    clear b1
    go_wp2_with fail
    go_ret
    exact ⟨rfl, HB1.out⟩
/-- Which writes count: all, where there are no marks. -/
def markF (ks : List Bool) (i : Nat) : Bool := ks.length == 0 || ks.getD i false
/-- The place of a block's last write; -1: there is none. -/
def lastN (ws : WrL) (mk : Nat → Bool) (p : Int) : Int := match lastTo ws mk p ws.length with
  | some i => (i : Nat)
  | none => -1
set_option maxHeartbeats 2000000 in
theorem rdLast_any (x : DAt) (D : DkL) (a : Option Addr) (n c : Nat) (ks : List Bool) (p : Int) (w : World) (h : Dsk w w.heap.size x D) (hk : Mks w w.heap.size a n c ks) (hn : n = 0 ∨ n = D.2.length) :
    Calls Try.prog 72 #[dval x D, .slice a n c, .int .i64 p] w fun e w' => e = .returned (.int .i64 (lastN D.2 (markF ks) p)) ∧ Below w.heap.size w w' := by
  obtain ⟨ba, bc, wa, wc⟩ := x
  simp only [dval]
  have l2 := h.2.len_le
  obtain ⟨r, hr⟩ : ∃ r, lastN D.2 (markF ks) p = r := ⟨_, rfl⟩
  rw [hr]
  obtain ⟨m, hm⟩ : ∃ m, D.2.length = m := ⟨_, rfl⟩
  obtain ⟨q, hq⟩ : ∃ q, D.1.length = q := ⟨_, rfl⟩
  rw [hm] at l2 hn
  have m0 : (0 : Int) ≤ m := by omega
  have b0 := (Below.refl w.heap.size w).alloc (Nat.le_refl _) (.cells #[.slice ba D.1.length bc, .slice wa D.2.length wc] 25)
  have x0 := Blk.new w 25 #[.slice ba D.1.length bc, .slice wa D.2.length wc]
  have h0 := h.step b0
  have hk0 := hk.step b0
  rw [hm, hq] at b0 x0 h0 hk0 ⊢
  obtain ⟨w0, hw0⟩ : ∃ w0, w.alloc (.cells #[.slice ba q bc, .slice wa m wc] 25) = w0 := ⟨_, rfl⟩
  rw [hw0] at b0 x0 h0 hk0
  have c0 := x0.cell 0
  have c1 := x0.cell 1
  obtain ⟨_, hW⟩ := h0
  simp only [hm] at hW
  have hkl := hk.1
  have HW := Lib.hid hW
  have HK := Lib.hid hk0
  have HB := Lib.hid b0
  have HM := Lib.hid hm
  have HR := Lib.hid hr
  have HKL := Lib.hid hkl
  have HNM := Lib.hid hn
  clear h hk b0 x0 hW hk0 hm hr hkl hq hn
  go_enter Try.func72, Try.ntmps72
  go_wp2_with fail
  clear hw0
  go_loop [7] (fun i => ∃ j : Nat, j ≤ m ∧ i = .int .i64 ((j : Int) - 1) ∧ Hid (∀ t, j ≤ t → t < m → ¬ (markF ks t = true ∧ (wr_ D.2 t).1 = p))) (fun i => (intOf i + 1).toNat)
  case atStart => exact ⟨m, Nat.le_refl _, rfl, Lib.hid (fun t h1 h2 => by omega)⟩
  case round =>
    obtain ⟨j, hj, rfl, HA⟩ := hrel
    rcases j with _ | k
    · have hr : r = -1 := by
        rw [← HR.out, lastN, HM.out, lastTo_no (fun t ht => HA.out t (Nat.zero_le _) ht)]
      subst hr
      have e0 : ((0 : Nat) : Int) - 1 = -1 := by omega
      rw [e0]
      have hneg : ¬ (0 : Int) ≤ -1 := by omega
      go_wp2_with fail
      go_ret
      exact ⟨rfl, HB.out⟩
    · have e1 : ((k + 1 : Nat) : Int) - 1 = (k : Int) := by omega
      rw [e1]
      have k0 : (0 : Int) ≤ k := by omega
      have k1 : (k : Int) < m := by omega
      obtain ⟨b, off, pk, A, l, c', s, rfl, _, hl, _, hc, _, hA⟩ := HW.out.at_ (show k < m by omega)
      clear e1
      have hskip : ¬ (markF ks k = true ∧ pk = p) → Hid (∀ t, k ≤ t → t < m → ¬ (markF ks t = true ∧ (wr_ D.2 t).1 = p)) := fun hno => Lib.hid fun t h1 h2 => by
        rcases Nat.eq_or_lt_of_le h1 with h3 | h3
        · subst h3
          rw [hl]
          exact hno
        · exact HA.out t h3 h2
      have hfound : markF ks k = true ∧ pk = p → r = (k : Int) := fun hyes => by
        rw [← HR.out, lastN, HM.out, lastTo_behind (i := k) (by omega) (by rw [hl]; exact hyes) (fun t h1 h2 => HA.out t h1 h2)]
      have HSK := Lib.hid hskip
      have HFO := Lib.hid hfound
      clear hskip hfound hl hA
      by_cases hpp : pk = p
      · subst hpp
        have hpb : (pk == pk) = true := by simp
        by_cases hn0 : n = 0
        · have hr := HFO.out ⟨by unfold markF; rw [HKL.out, hn0]; rfl, rfl⟩
          subst hr
          subst hn0
          have hz : (((0 : Nat) : Int) == 0) = true := by decide
          go_wp2_with fail
          go_ret
          exact ⟨rfl, HB.out⟩
        · have hz : ((n : Int) == 0) = false := by simp; omega
          have hnm : n = m := HNM.out.resolve_left hn0
          subst hnm
          obtain ⟨bk, ok, rfl, _, hck⟩ := HK.out.2.2.2 (by omega)
          have ck := hck k (by omega)
          have hmk : markF ks k = ks.getD k false := by
            unfold markF
            have : (ks.length == 0) = false := by rw [HKL.out]; simpa using hn0
            rw [this]
            rfl
          obtain ⟨v, hv⟩ : ∃ v, ks.getD k false = v := ⟨_, rfl⟩
          rw [hv] at ck hmk
          have HMK := Lib.hid hmk
          clear hck hn0 hmk hv
          cases v with
          | true =>
            have hr := HFO.out ⟨HMK.out, rfl⟩
            subst hr
            go_wp2_with fail
            go_ret
            exact ⟨rfl, HB.out⟩
          | false =>
            have HS := HSK.out (fun hh => by rw [HMK.out] at hh; cases hh.1)
            go_wp2_with fail
            go_round
            case rel => exact ⟨k, by omega, rfl, HS⟩
            case measure => simp [intOf]
      · have hpb : (pk == p) = false := by simpa using hpp
        have HS := HSK.out (fun hh => hpp hh.2)
        clear hpp
        go_wp2_with fail
        go_round
        case rel => exact ⟨k, by omega, rfl, HS⟩
        case measure => simp [intOf]
/-- A list of the call's own that reads as s. -/
def OwnS (s : List UInt8) (w : World) (e : Ending) (w' : World) : Prop := ∃ v, e = .returned v ∧ w'.ownsRow w.heap.size 5 1 v s.length (vals s) ∧ Below w.heap.size w w'
set_option maxHeartbeats 2000000 in
theorem rdLeft_any (x : DAt) (D : DkL) (a : Option Addr) (n c : Nat) (ks : List Bool) (p : Nat) (w : World) (h : Dsk w w.heap.size x D) (hk : Mks w w.heap.size a n c ks) (hn : n = 0 ∨ n = D.2.length) (hp : p < D.1.length) (hlen : (leftD D (markF ks) p).length ≤ 1000000000000) :
    Calls Try.prog 65 #[dval x D, .slice a n c, .int .i64 p] w (OwnS (leftD D (markF ks) p) w) := by
  have b0 := (Below.refl w.heap.size w).alloc (Nat.le_refl _) (.cells #[.slice x.ba D.1.length x.bc, .slice x.wa D.2.length x.wc] 25)
  have x0 := Blk.new w 25 #[.slice x.ba D.1.length x.bc, .slice x.wa D.2.length x.wc]
  have h0 := h.step b0
  have hla := rdLast_any x D a n c ks (p : Int) _ h0 (hk.step b0) hn
  have c0 := x0.cell 0
  have c1 := x0.cell 1
  have l1 := h.1.len_le
  have l2 := h.2.len_le
  simp only [dval] at hla ⊢
  have HX := Lib.hid x0
  have HB := Lib.hid b0
  have HD := Lib.hid h0
  unfold leftD at hlen ⊢
  unfold lastN at hla
  cases hlt : lastTo D.2 (markF ks) (p : Int) D.2.length with
  | some i =>
    rw [hlt] at hlen hla
    simp only at hlen hla ⊢
    have hi := (lastTo_lt hlt).1
    have HL := Lib.hid hla
    have i0 : (0 : Int) ≤ i := by omega
    have i1 : (i : Int) < D.2.length := by omega
    have i2 : ¬ (i : Int) < 0 := by omega
    obtain ⟨s, hs⟩ : ∃ s, (wr_ D.2 i).2 = s := ⟨_, rfl⟩
    rw [hs] at hlen ⊢
    have HS := Lib.hid hs
    have HI := Lib.hid hi
    clear h hk hla b0 x0 h0 hlt hs hi
    go_enter Try.func65, Try.ntmps65
    go_wp2_with fail
    clear c0 c1
    refine HL.out.mono ?_
    rintro e w1 ⟨rfl, b1⟩
    obtain ⟨b, off, q, A, l, c', s', hbe, hlb, hl, _, hc, hd, hA⟩ := (HD.out.step b1).2.at_ HI.out
    have c0 := (HX.out.below b1 HX.out.lt).cell 0
    have c1 := (HX.out.below b1 HX.out.lt).cell 1
    obtain ⟨ba, bc, wa, wc⟩ := x
    obtain rfl : wa = some ⟨b, off, none⟩ := hbe
    simp only at c0 c1 ⊢
    obtain rfl : s' = s := by have := HS.out; rw [hl] at this; exact this
    have HA := Lib.hid hA
    have HO := Lib.hid (own_nil w1 w.heap.size)
    have HB1 := Lib.hid (HB.out.trans (b1.mono HB.out.size))
    have hls := hA.1
    have HLS := Lib.hid hls
    clear hl hA b1 hls HL
    go_wp2_with (at_builtin
                 refine wpList_append_big rfl (.const (.slice none 0 0)) (.tmp 25) rfl w.heap.size (.slice none 0 0) 0 [] rfl HO.out _ A l c' s' rfl HA.out (by have := HLS.out; omega) HB1.out.size ?_
                 intro v7 w7 ho7 hg7
                 rw [Nat.zero_add, List.nil_append] at ho7
                 have HB7 := Lib.hid (app_below HB1.out HO.out hg7 HB1.out.size)
                 have HO7 := Lib.hid ho7
                 clear ho7 hg7)
    go_ret
    exact ⟨v7, rfl, by rw [HLS.out]; exact HO7.out, HB7.out⟩
  | none =>
    rw [hlt] at hlen hla
    simp only at hlen hla ⊢
    have HL := Lib.hid hla
    have i0 : (0 : Int) ≤ p := by omega
    have i1 : (p : Int) < D.1.length := by omega
    obtain ⟨s, hs⟩ : ∃ s, D.1.getD p [] = s := ⟨_, rfl⟩
    rw [hs] at hlen ⊢
    have HS := Lib.hid hs
    clear h hk hla b0 x0 h0 hlt hs
    go_enter Try.func65, Try.ntmps65
    go_wp2_with fail
    clear c0 c1
    refine HL.out.mono ?_
    rintro e w1 ⟨rfl, b1⟩
    obtain ⟨b, off, A, l, c', s', hbe, hlb, hl, hc, hA⟩ := (HD.out.step b1).1.at_ hp
    have c0 := (HX.out.below b1 HX.out.lt).cell 0
    have c1 := (HX.out.below b1 HX.out.lt).cell 1
    obtain ⟨ba, bc, wa, wc⟩ := x
    obtain rfl : ba = some ⟨b, off, none⟩ := hbe
    simp only at c0 c1 ⊢
    obtain rfl : s' = s := by have := HS.out; rw [hl] at this; exact this
    have HA := Lib.hid hA
    have HO := Lib.hid (own_nil w1 w.heap.size)
    have HB1 := Lib.hid (HB.out.trans (b1.mono HB.out.size))
    have hls := hA.1
    have HLS := Lib.hid hls
    clear hl hA b1 hls HL
    go_wp2_with (at_builtin
                 refine wpList_append_big rfl (.const (.slice none 0 0)) (.tmp 18) rfl w.heap.size (.slice none 0 0) 0 [] rfl HO.out _ A l c' s' rfl HA.out (by have := HLS.out; omega) HB1.out.size ?_
                 intro v7 w7 ho7 hg7
                 rw [Nat.zero_add, List.nil_append] at ho7
                 have HB7 := Lib.hid (app_below HB1.out HO.out hg7 HB1.out.size)
                 have HO7 := Lib.hid ho7
                 clear ho7 hg7)
    go_ret
    exact ⟨v7, rfl, by rw [HLS.out]; exact HO7.out, HB7.out⟩
theorem mks_nil (w : World) (B : Nat) : Mks w B none 0 0 [] := ⟨rfl, Nat.le_refl _, Nat.zero_le _, fun h => absurd h (Nat.lt_irrefl _)⟩
theorem markF_nil : markF [] = fun _ => true := by
  funext i
  rfl
theorem markF_full {D : DkL} {ks : List Bool} (h : ks.length = D.2.length) (p : Nat) : leftD D (markF ks) p = leftD D (fun i => ks.getD i false) p := by
  have : lastTo D.2 (markF ks) (p : Int) D.2.length = lastTo D.2 (fun i => ks.getD i false) (p : Int) D.2.length := lastTo_congr fun i hi => by
    unfold markF
    have e : (ks.length == 0) = false := by simp; intro h0; rw [h0] at h; simp at h; omega
    rw [e]
    simp
  unfold leftD
  rw [this]
theorem rdSeen_any (x : DAt) (D : DkL) (p : Nat) (w : World) (h : Dsk w w.heap.size x D) (hp : p < D.1.length) (hlen : (leftD D (fun _ => true) p).length ≤ 1000000000000) :
    Calls Try.prog 50 #[dval x D, .int .i64 p] w (OwnS (leftD D (fun _ => true) p) w) := by
  have b0 := (Below.refl w.heap.size w).alloc (Nat.le_refl _) (.cells #[.slice x.ba D.1.length x.bc, .slice x.wa D.2.length x.wc] 25)
  have x0 := Blk.new w 25 #[.slice x.ba D.1.length x.bc, .slice x.wa D.2.length x.wc]
  have hl := rdLeft_any x D none 0 0 [] p _ (h.step b0) (mks_nil _ _) (.inl rfl) hp (by rw [markF_nil]; exact hlen)
  rw [markF_nil] at hl
  have c0 := x0.cell 0
  have c1 := x0.cell 1
  simp only [dval] at hl ⊢
  have HL := Lib.hid hl
  have HB := Lib.hid b0
  obtain ⟨s, hs⟩ : ∃ s, leftD D (fun _ => true) p = s := ⟨_, rfl⟩
  rw [hs] at HL ⊢
  clear h hl x0 b0 hs hlen
  go_enter Try.func50, Try.ntmps50
  go_wp2_with fail
  refine HL.out.mono ?_
  rintro e w1 ⟨v, rfl, h1, b1⟩
  have HO := Lib.hid (own_mono h1 HB.out.size)
  have HB1 := Lib.hid (HB.out.trans (b1.mono HB.out.size))
  clear h1 b1
  go_wp2_with fail
  go_ret
  exact ⟨v, rfl, HO.out, HB1.out⟩
end Go.Proofs.Ytgpojnhhcobcbaa
