/-
  Texts of one seat, one behind the other.
-/
import Derived.Lib.AppendZeros
import Derived.Laws.BitsAllLaws
import Derived.RangeFuncNested
import Derived.OwnWalk
import Derived.Lib.SlBytesConst
import Derived.Test.YtdpmdlibgabjaaaPkSP2
/-
  The document's own answers for layer 9: which disks may be, which are great.
-/
namespace Go.Proofs.Ytdpmdlibgabjaaa
open Go.RowKit Go.Shelf
set_option maxRecDepth 100000

/-- So many odd ones among the first k; none just if all are as they should be. -/
def OddN (o k : Nat) (P : Nat → Prop) : Prop := o ≤ k ∧ (o = 0 ↔ ∀ i, i < k → P i)
theorem odd_zero (P : Nat → Prop) : OddN 0 0 P := ⟨Nat.le_refl _, ⟨fun _ _ h => absurd h (Nat.not_lt_zero _), fun _ => rfl⟩⟩
theorem OddN.good {o k : Nat} {P : Nat → Prop} (h : OddN o k P) (hp : P k) : OddN o (k + 1) P := by
  refine ⟨Nat.le_succ_of_le h.1, fun h0 i hi => ?_, fun ha => h.2.2 fun i hi => ha i (by omega)⟩
  rcases Nat.lt_or_ge i k with h1 | h1
  · exact h.2.1 h0 i h1
  · obtain rfl : i = k := by omega
    exact hp
theorem OddN.odd {o k : Nat} {P : Nat → Prop} (h : OddN o k P) (hp : ¬ P k) : OddN (o + 1) (k + 1) P := by
  refine ⟨Nat.succ_le_succ h.1, fun h0 => absurd h0 (Nat.succ_ne_zero _), fun ha => absurd (ha k (Nat.lt_succ_self _)) hp⟩
/-- The two counts and the two lengths tell whether a disk may be. -/
theorem may_iff {D : DkL} {o1 o2 k1 k2 : Nat} (h1 : OddN o1 k1 (fun i => (D.1.getD i []).length = 256)) (h2 : OddN o2 k2 (fun i => (0 ≤ (wr_ D.2 i).1 ∧ (wr_ D.2 i).1 < 256) ∧ (wr_ D.2 i).2.length = 256)) (e1 : k1 = D.1.length ∨ (k1 = 257 ∧ 257 < D.1.length)) (e2 : k2 = D.2.length ∨ (k2 = 4097 ∧ 4097 < D.2.length)) :
    (o1 + o2 = 0 ∧ D.1.length = 256 ∧ D.2.length ≤ 4096) ↔ MayD D := by
  constructor
  · rintro ⟨ho, hn, hm⟩
    have k1e : k1 = 256 := by omega
    have k2e : k2 = D.2.length := by omega
    subst k1e
    subst k2e
    exact ⟨⟨hn, h1.2.1 (by omega)⟩, hm, h2.2.1 (by omega)⟩
  · rintro ⟨⟨hn, h3⟩, hm, h4⟩
    have k1e : k1 = 256 := by omega
    have k2e : k2 = D.2.length := by omega
    subst k1e
    subst k2e
    have a1 := h1.2.2 h3
    have a2 := h2.2.2 h4
    exact ⟨by omega, hn, hm⟩
end Go.Proofs.Ytdpmdlibgabjaaa
/-
  dev.Read: what it answers, whatever disk and place it is handed.
-/
namespace Go.Proofs.Ytdpmdlibgabjaaa
open Go.RowKit Go.Shelf
set_option maxRecDepth 100000

/-- bytes.Clone: a list of the call's own. -/
theorem dClone_any (B : Nat) (a : Option Addr) (len cap : Nat) (s : List UInt8) (w : World) (hB : B ≤ w.heap.size) (hA : Bsl w B a len cap s) (hlen : len ≤ 1000000000000) :
    Calls Try.prog 48 #[.slice a len cap] w (OwnV len s w) := by
  have q22 : ∀ (w : World) (a : Option Addr) (n c n' c' : Nat), (binOp .eql 23 (.slice a n c) (.slice none n' c')).run Try.prog w = .ok (.bool a.isNone) w := fun w a n c n' c' => Lib.run_eql_slice_nil w _ _ a n c n' c' Try.underlying23
  obtain ⟨h1, h2, h3, h4, h5⟩ := hA
  cases a with
  | none =>
    have hc := h4 rfl
    have hl : len = 0 := by omega
    subst hl; subst hc
    obtain rfl : s = [] := List.eq_nil_of_length_eq_zero h1
    go_enter Try.func48, Try.ntmps48
    go_wp2_with fail
    go_ret
    exact ⟨_, rfl, own_nil _ _, Below.refl _ _⟩
  | some ad =>
    have hA : Bsl w B (some ad) len cap s := ⟨h1, h2, h3, h4, h5⟩
    have b1 : Below w.heap.size w (w.alloc (.cells #[] 5)) := (Below.refl _ w).alloc (Nat.le_refl _) _
    have HA1 := Lib.hid (hA.below (b1.mono hB)); clear hA
    have HB1 := Lib.hid b1; clear b1
    have HO1 := Lib.hid (own_empty w)
    clear h1 h2 h3 h4 h5
    go_enter Try.func48, Try.ntmps48
    go_wp2_with (at_builtin
                 refine wpList_append_big rfl (.tmp 5) (.tmp 6) rfl w.heap.size _ 0 _ rfl HO1.out _ (some ad) len cap s rfl HA1.out (by omega) HB1.out.size ?_
                 intro v' W3 hown' hg'
                 have HB3 := Lib.hid (app_below HB1.out HO1.out hg' HB1.out.size); clear hg'
                 have HO3 := Lib.hid hown'; clear hown')
    go_ret
    refine ⟨_, rfl, ?_, HB3.out⟩
    have := HO3.out
    rwa [Nat.zero_add, List.nil_append] at this
/-- A list of the call's own, and an error's number. -/
def ToldL (o : List UInt8 × Int) (w : World) (e : Ending) (w' : World) : Prop := ∃ v, e = .returned (.tuple #[v, .int .i64 o.2]) ∧ w'.ownsRow w.heap.size 5 1 v o.1.length (vals o.1) ∧ Below w.heap.size w w'
def readO (D : DkL) (p : Int) : List UInt8 × Int := if MayD D then (if 0 ≤ p ∧ p < 256 then (leftD D (fun _ => true) p.toNat, 0) else ([], 2)) else ([], 8)
theorem leftD_goes (D : DkL) (p : Nat) : leftD D (fun i => decide ((wr_ D.2 i).1 = (p : Int))) p = leftD D (fun _ => true) p := by
  have : lastTo D.2 (fun i => decide ((wr_ D.2 i).1 = (p : Int))) (p : Int) D.2.length = lastTo D.2 (fun _ => true) (p : Int) D.2.length := lastTo_congr fun i _ => by simp
  unfold leftD
  rw [this]
theorem read_boxes (w : World) (u v k : Value) : ∃ w0, (w.alloc (.cells #[u, v] 27)).alloc (.cells #[k] 3) = w0 ∧ Below w.heap.size w w0 ∧ w0.heap.size = w.heap.size + 2 ∧ Blk w0 w.heap.size 27 #[u, v] ∧ Blk w0 (w.heap.size + 1) 3 #[k] := by
  refine ⟨_, rfl, ((Below.refl _ w).alloc (Nat.le_refl _) _).alloc (by simp) _, by simp, (Blk.new w _ _).alloc _, ?_⟩
  have := Blk.new (w.alloc (.cells #[u, v] 27)) 3 #[k]
  rw [World.size_alloc] at this
  exact this
set_option maxHeartbeats 2000000 in
theorem dRead_any (x : DAt) (D : DkL) (p : Int) (w : World) (h : Dsk w w.heap.size x D) : Calls Try.prog 24 #[dval x D, .int .i64 p] w (ToldL (readO D p) w) := by
  obtain ⟨w0, hw0, b0, z0, x0, xp⟩ := read_boxes w (.slice x.ba D.1.length x.bc) (.slice x.wa D.2.length x.wc) (.int .i64 p)
  have h0 := h.step b0
  have c0 := x0.cell 0
  have c1 := x0.cell 1
  have cp := xp.cell 0
  have HX0 := Lib.hid x0
  have HXp := Lib.hid xp
  have HB := Lib.hid b0
  have HZ := Lib.hid z0
  have HD := Lib.hid h0
  unfold readO
  by_cases hm : MayD D
  · rw [if_pos hm]
    have HC := Lib.hid (dMay_yes x D _ h0 hm)
    simp only [dval] at HC ⊢
    have hbk := dIsBlock_any p
    have HM := Lib.hid hm
    by_cases hp : 0 ≤ p ∧ p < 256
    · rw [if_pos hp]
      simp only [decide_eq_true hp] at hbk
      obtain ⟨q, rfl⟩ := Int.eq_ofNat_of_zero_le hp.1
      have hq : q < 256 := by omega
      have HBK := Lib.hid hbk
      have hll := leftD_length hm (fun _ => true) hq
      have e2 : ((q : Int).toNat) = q := by simp
      obtain ⟨s, hs⟩ : ∃ s, leftD D (fun _ => true) q = s := ⟨_, rfl⟩
      rw [hs] at hll
      rw [e2, hs]
      have HLL := Lib.hid hll
      have HS := Lib.hid hs
      clear e2 hs b0 h0 h hm x0 xp z0 hbk hp hll
      go_enter Try.func24, Try.ntmps24
      go_wp2_with fail
      clear hw0 c0 c1 cp
      refine HC.out.mono ?_
      rintro e w1 ⟨rfl, b1⟩
      have cp := (HXp.out.below b1 HXp.out.lt).cell 0
      have HB1 := Lib.hid b1
      clear b1
      go_wp2_with fail
      refine (HBK.out _).mono ?_
      rintro e w1' ⟨rfl, rfl⟩
      have b1 := HB1.out
      have x01 := HX0.out.below b1 HX0.out.lt
      have xp1 := HXp.out.below b1 HXp.out.lt
      have hD1 := HD.out.step b1
      have c0 := x01.cell 0
      have c1 := x01.cell 1
      have hl := dLast2_any x.wa D.2.length x.wc D.2 (fun i => decide ((wr_ D.2 i).1 = (q : Int))) ⟨w.heap.size, 0, none⟩ ⟨w.heap.size + 1, 0, none⟩ w1 hD1.2 (fun W hW i hi => dGoes_any w1.heap.size x D w.heap.size (w.heap.size + 1) (q : Int) i W ⟨hD1.1.below hW, hD1.2.below hW⟩ (x01.below hW x01.lt) ((xp1.below hW xp1.lt).cell 0) hi)
      have HL := Lib.hid hl
      have HX1 := Lib.hid x01
      have HXp1 := Lib.hid xp1
      have HD1 := Lib.hid hD1
      have HBw := Lib.hid (HB.out.trans (b1.mono HB.out.size))
      clear b1 x01 xp1 hD1 hl HB1 HC HBK HX0 HXp HB HD
      go_wp2_with fail
      clear c0 c1 cp
      refine HL.out.mono ?_
      rintro e w2 ⟨g, rfl, hge, hM, b2⟩
      have c0 := (HX1.out.below b2 HX1.out.lt).cell 0
      have c1 := (HX1.out.below b2 HX1.out.lt).cell 1
      have cp := (HXp1.out.below b2 HXp1.out.lt).cell 0
      have hle := dLeft_any w2.heap.size x D g D.2.length (fun i => decide ((wr_ D.2 i).1 = (q : Int))) q w2 (Nat.le_refl _) (HD1.out.step b2) hM (by rw [HM.out.1.1]; exact hq)
      rw [leftD_goes] at hle
      simp only [dval] at hle
      rw [HS.out] at hle
      have HLE := Lib.hid hle
      have HB2 := Lib.hid (HBw.out.trans (b2.mono HBw.out.size))
      clear hle b2 hM hge HL
      go_wp2_with fail
      clear c0 c1 cp
      refine HLE.out.mono ?_
      rintro e w3 ⟨A, c, rfl, h3, b3⟩
      have HCL := Lib.hid (dClone_any w2.heap.size A s.length c s w3 b3.size h3 (by rw [HLL.out]; omega))
      have HB3 := Lib.hid (HB2.out.trans (b3.mono HB2.out.size))
      clear h3 b3 HLE
      go_wp2_with fail
      refine HCL.out.mono ?_
      rintro e w4 ⟨v4, rfl, h4, b4⟩
      have HO := Lib.hid (own_mono h4 HB3.out.size)
      have HB4 := Lib.hid (HB3.out.trans (b4.mono HB3.out.size))
      clear h4 b4
      go_wp2_with fail
      go_ret2
      exact ⟨v4, rfl, HO.out, HB4.out⟩
    · rw [if_neg hp]
      simp only [decide_eq_false hp] at hbk
      have HBK := Lib.hid hbk
      clear b0 h0 h hm x0 xp z0 hbk hp
      go_enter Try.func24, Try.ntmps24
      go_wp2_with fail
      clear hw0 c0 c1 cp
      refine HC.out.mono ?_
      rintro e w1 ⟨rfl, b1⟩
      have cp := (HXp.out.below b1 HXp.out.lt).cell 0
      have HB1 := Lib.hid (HB.out.trans (b1.mono HB.out.size))
      clear b1
      go_wp2_with fail
      refine (HBK.out _).mono ?_
      rintro e w1' ⟨rfl, rfl⟩
      go_wp2_with fail
      go_ret2
      exact ⟨_, rfl, own_nil _ _, HB1.out⟩
  · rw [if_neg hm]
    have HC := Lib.hid (dMay_no x D _ h0 hm)
    simp only [dval] at HC ⊢
    clear b0 h0 h hm x0 xp z0
    go_enter Try.func24, Try.ntmps24
    go_wp2_with fail
    clear hw0 c0 c1 cp
    refine HC.out.mono ?_
    rintro e w1 ⟨rfl, b1⟩
    have HB1 := Lib.hid (HB.out.trans (b1.mono HB.out.size))
    clear b1
    go_wp2_with fail
    go_ret2
    exact ⟨_, rfl, own_nil _ _, HB1.out⟩
end Go.Proofs.Ytdpmdlibgabjaaa
/-
  The document's own ask, last, left, Seen for layer 9.
-/
namespace Go.Proofs.Ytdpmdlibgabjaaa
open Go.RowKit Go.Shelf
set_option maxRecDepth 100000

def askO (D : DkL) (b : Bool) : Int := if MayD D then (if b = true then 0 else 2) else 8
/-- Which writes count: all, where there are no marks. -/
def markF (ks : List Bool) (i : Nat) : Bool := ks.length == 0 || ks.getD i false
/-- The place of a block's last write; -1: there is none. -/
def lastN (ws : WrL) (mk : Nat → Bool) (p : Int) : Int := match lastTo ws mk p ws.length with
  | some i => (i : Nat)
  | none => -1
/-- A list of the call's own that reads as s. -/
def OwnS (s : List UInt8) (w : World) (e : Ending) (w' : World) : Prop := ∃ v, e = .returned v ∧ w'.ownsRow w.heap.size 5 1 v s.length (vals s) ∧ Below w.heap.size w w'
theorem mks_nil (w : World) (B : Nat) : Mks w B none 0 0 [] := ⟨rfl, Nat.le_refl _, Nat.zero_le _, fun h => absurd h (Nat.lt_irrefl _)⟩
theorem markF_nil : markF [] = fun _ => true := by
  funext i
  rfl
theorem markF_full {D : DkL} {ks : List Bool} (h : ks.length = D.2.length) (p : Nat) : leftD D (markF ks) p = leftD D (fun i => ks.getD i false) p := by
  have : lastTo D.2 (markF ks) (p : Int) D.2.length = lastTo D.2 (fun i => ks.getD i false) (p : Int) D.2.length := lastTo_congr fun i hi => by
    unfold markF
    have e : (ks.length == 0) = false := by simp; intro h0; rw [h0] at h; simp at h; omega
    rw [e]
    simp
  unfold leftD
  rw [this]
end Go.Proofs.Ytdpmdlibgabjaaa
/-
  The document's own Kept for layer 9: what those leave whose mark is true.
-/
namespace Go.Proofs.Ytdpmdlibgabjaaa
open Go.RowKit Go.Shelf
set_option maxRecDepth 100000

theorem take_kept {D : DkL} {mk : Nat → Bool} {k : Nat} (h : k < 256) : (keptD D mk).1.take (k + 1) = (keptD D mk).1.take k ++ [leftD D mk k] := by
  have hl := keptD_length D mk
  rw [List.take_add_one, ← keptD_get D mk k h, List.getD_eq_getElem?_getD, List.getElem?_eq_getElem (by omega)]
  rfl
section
variable {l : List Oper} {Q : Exit → Act → World → Prop} {md : Region.Mode} {i : Nat} {σ : List Nat} {o : Oper} {listed : Array Bool} {a : Act} {w : World}
/-- append(rows, s), at its own place in the order. -/
theorem wpS_append_brow (hi : nthOp l i = some o) (hr : Region.ready md l.toArray listed = [i]) (hl : lastB md l.toArray i = true) (hgd : o.guard = none) (x y : Operand) (ho : o.op = .call { callee := .builtin .append, args := #[x, y], argTypes := #[24, 24] })
    (base : Nat) {C : Nat} (hC : C ≤ base) (v : Value) (bl : List (List UInt8)) (hx : a.eval x = v) (hrw : BRowC w C base v bl) (A : Option Addr) (c : Nat) (s : List UInt8) (b : Nat) (hy : a.eval y = .slice (some ⟨b, 0, none⟩) 1 1) (hb : Blk w b 23 #[.slice A s.length c]) (hs : BslO w C A s.length c s)
    (hn : bl.length ≤ 1000000) (hbase : base ≤ w.heap.size)
    (h : ∀ v' w', BRowC w' C base v' (bl ++ [s]) → w.grownBy w' v.ownBlock → (∀ g, v.ownBlock = some g → base ≤ g ∧ ∃ t cs, Blk w g t cs ∧ t = 23) → wpS Try.prog md l Q σ (listed.setIfInBounds i true) (a.put o.dst v') w') : wpS Try.prog md l Q (i :: σ) listed a w :=
  wpS_last hi hr hl fun K hK => by
    rw [if_pos (by simp [Region.wanted, hgd])]
    have hty : ∀ g, v.ownBlock = some g → base ≤ g ∧ ∃ t cs, Blk w g t cs ∧ t = 23 := by
      obtain ⟨xs, h1, _⟩ := hrw
      intro g hg
      obtain ⟨_, ⟨rfl, _⟩ | ⟨g', cap, cur, rfl, h2, h3, _⟩⟩ := h1
      · cases hg
      · cases hg
        exact ⟨h2, _, _, h3, rfl⟩
    exact wp_append_browC x y ho base hC v bl hx hrw A c s b hy hb hs hn hbase fun v' w' h1 h2 _ => hK _ _ (h v' w' h1 h2 hty)
/-- append(writes, more...), at its own place in the order. -/
theorem wpS_append_wrow (hi : nthOp l i = some o) (hr : Region.ready md l.toArray listed = [i]) (hl : lastB md l.toArray i = true) (hgd : o.guard = none) (x y : Operand) (ho : o.op = .call { callee := .builtin .append, args := #[x, y], argTypes := #[25, 25] })
    (base : Nat) {C : Nat} (hC : C ≤ base) (v : Value) (ws : WrL) (hx : a.eval x = v) (hrw : WRowC w C base v ws) (ys : List Value) (ws' : WrL) (ad : Addr) (m c : Nat) (hy : a.eval y = .slice (some ad) m c) (hm : ws'.length = m) (hyl : ys.length = m * 2) (hcell : ∀ j u, ys[j]? = some u → w.cell? (ad.add j) = some u)
    (h3 : ∀ i, i < ws'.length → (Lit.int .i64 (wr_ ws' i).1).wf = true ∧ ys.getD (i * 2) undef = .int .i64 (wr_ ws' i).1 ∧ ∃ A c, ys.getD (i * 2 + 1) undef = .slice A (wr_ ws' i).2.length c ∧ BslO w C A (wr_ ws' i).2.length c (wr_ ws' i).2)
    (hn : ws.length + m ≤ 1000000) (hbase : base ≤ w.heap.size)
    (h : ∀ v' w', WRowC w' C base v' (ws ++ ws') → w.grownBy w' v.ownBlock → (∀ g, v.ownBlock = some g → base ≤ g ∧ ∃ t cs, Blk w g t cs ∧ t = 87) → wpS Try.prog md l Q σ (listed.setIfInBounds i true) (a.put o.dst v') w') : wpS Try.prog md l Q (i :: σ) listed a w :=
  wpS_last hi hr hl fun K hK => by
    rw [if_pos (by simp [Region.wanted, hgd])]
    have hty : ∀ g, v.ownBlock = some g → base ≤ g ∧ ∃ t cs, Blk w g t cs ∧ t = 87 := by
      obtain ⟨xs, h1, _⟩ := hrw
      intro g hg
      obtain ⟨_, ⟨rfl, _⟩ | ⟨g', cap, cur, rfl, h2, h3, _⟩⟩ := h1
      · cases hg
      · cases hg
        exact ⟨h2, _, _, h3, rfl⟩
    exact wp_append_wrowC x y ho base hC v ws hx hrw ys ws' ad m c hy hm hyl hcell h3 hn hbase fun v' w' h1 h2 _ => hK _ _ (h v' w' h1 h2 hty)
end
end Go.Proofs.Ytdpmdlibgabjaaa
/-
  slices.Grow of nil, and slices.Concat of slices of writes: a row of the call's own that holds them all, one behind the other.
-/
namespace Go.Proofs.Ytdpmdlibgabjaaa
open Go.RowKit Go.Shelf
set_option maxRecDepth 100000

set_option maxHeartbeats 1000000 in
theorem dGrow_any (n : Nat) (h0 : 0 < n) (hn : n ≤ 1000000) (w : World) : Calls Try.prog 84 #[.slice none 0 0, .int .i64 n] w fun e w' => ∃ v, e = .returned v ∧ WRow w' w.heap.size v [] ∧ Below w.heap.size w w' := by
  obtain ⟨i0, hi, hz0, hz1, hz2⟩ := info_parts infoWri
  have hr : ∀ ty, (Builtin.append_ #[25, 3] ty #[.slice none 0 0, .int .i64 n]).run Try.prog w =
      .ok (.slice (some ⟨w.heap.size, 0, none⟩) n (grownCap w n 0 87)) (w.drew.alloc (.cells (Builtin.zeroCells (Value.agg #[.int .i64 0, .slice none 0 0]).cells n ++ Builtin.zeroCells (Value.agg #[.int .i64 0, .slice none 0 0]).cells (grownCap w n 0 87 - n)) 87)) := fun ty =>
    Lib.run_append_nil_zeros w 25 3 ty 87 i0 (.agg #[.int .i64 0, .slice none 0 0]) .i64 .i64 Try.underlying25 Try.underlying3 hi hz0 n h0 (by omega) (by omega) (by rw [hz2]; omega)
  have hG1 : n ≤ grownCap w n 0 87 := grownCap_ge w _ _ _
  have hG2 : grownCap w n 0 87 ≤ maxLen := grownCap_le_maxLen w n 0 87 (by unfold maxLen; omega)
  obtain ⟨G, hG⟩ : ∃ G, grownCap w n 0 87 = G := ⟨_, rfl⟩
  rw [hG] at hr hG1 hG2
  obtain ⟨cs, hcs⟩ : ∃ cs, Builtin.zeroCells (Value.agg #[.int .i64 0, .slice none 0 0]).cells n ++ Builtin.zeroCells (Value.agg #[.int .i64 0, .slice none 0 0]).cells (G - n) = cs := ⟨_, rfl⟩
  have hsz : cs.size = G * 2 := by
    rw [← hcs]
    simp [Builtin.zeroCells, Value.cells]
    omega
  rw [hcs] at hr
  have z5 : ∀ w, (Go.sizeOf 87).run Try.prog w = .ok 2 w := fun w => by kernel_rfl
  have n1 : ¬ ((n : Int) < 0) := by omega
  have n2 : (0 : Int) < n := by omega
  have n3 : (n : Int) ≤ 1000000 := by omega
  have g0 : (G : Int) ≤ 9223372036854775807 := by unfold maxLen at hG2; omega
  have hown : (w.drew.alloc (.cells cs 87)).ownsRow w.heap.size 87 2 (.slice (some ⟨w.heap.size, 0, none⟩) 0 G) 0 [] :=
    ⟨rfl, .inr ⟨w.heap.size, G, cs, rfl, Nat.le_refl _, by have := heap_alloc_new w.drew (.cells cs 87); simpa using this, Nat.zero_le _, hG2, by omega, by simp⟩⟩
  have hrow : WRow (w.drew.alloc (.cells cs 87)) w.heap.size (.slice (some ⟨w.heap.size, 0, none⟩) 0 G) [] := ⟨[], hown, fun i h => absurd h (Nat.not_lt_zero _)⟩
  have hbel : Below w.heap.size w (w.drew.alloc (.cells cs 87)) := (Below.refl _ w).drew.alloc (by simp) _
  have HO := Lib.hid hrow; clear hown hrow
  have HB := Lib.hid hbel; clear hbel
  have HG2 := Lib.hid hG2; clear hG2
  clear hG hcs hsz hi hz0 hz1 hz2
  go_enter Try.func84, Try.ntmps84
  go_wp2_with (at_builtin; refine Lib.wpList_append_run _ rfl _ _ _ _ rfl _ _ rfl rfl _ _ (hr _) ?_)
  go_ret
  exact ⟨_, rfl, HO.out, HB.out⟩

/-- A slice of writes as it is handed in. -/
structure WPart where
  a : Option Addr
  len : Nat
  cap : Nat
  ws : WrL
def flatW (ps : List WPart) : WrL := ps.flatMap (·.ws)
theorem flatW_take_succ (ps : List WPart) (k : Nat) (h : k < ps.length) : flatW (ps.take (k + 1)) = flatW (ps.take k) ++ (ps[k]).ws := by
  unfold flatW
  rw [List.take_succ_eq_append_getElem h, List.flatMap_append]
  simp
theorem flatW_take_le (ps : List WPart) (k : Nat) : (flatW (ps.take k)).length ≤ (flatW ps).length := by
  have : flatW ps = flatW (ps.take k) ++ flatW (ps.drop k) := by
    unfold flatW
    rw [← List.flatMap_append, List.take_append_drop]
  rw [this, List.length_append]
  omega
/-- A row of the call's own that holds ws. -/
def WOwn (ws : WrL) (w : World) (e : Ending) (w' : World) : Prop := ∃ v, e = .returned v ∧ WRow w' w.heap.size v ws ∧ Below w.heap.size w w'
set_option maxHeartbeats 2000000 in
theorem dConcat_any (r c : Nat) (ps : List WPart) (w : World) (hr : r < w.heap.size) (hl : ps.length ≤ 1000)
    (hcell : ∀ i (h : i < ps.length), w.cell? ⟨r, i, none⟩ = some (.slice (ps[i]).a (ps[i]).len (ps[i]).cap)) (hb : ∀ i (h : i < ps.length), Wts w w.heap.size (ps[i]).a (ps[i]).len (ps[i]).cap (ps[i]).ws)
    (h0 : 0 < (flatW ps).length) (hm : (flatW ps).length ≤ 1000000) :
    Calls Try.prog 67 #[.slice (some ⟨r, 0, none⟩) ps.length c] w (WOwn (flatW ps) w) := by
  obtain ⟨n, hn⟩ : ∃ n, ps.length = n := ⟨_, rfl⟩
  have HN := Lib.hid hn
  rw [hn] at hl ⊢
  clear hn
  have n0 : (0 : Int) ≤ n := by omega
  have n1 : (n : Int) ≤ 1000 := by omega
  have HC := Lib.hid hcell; clear hcell
  have HB := Lib.hid hb; clear hb
  have HM := Lib.hid hm; clear hm
  have H0 := Lib.hid h0; clear h0
  go_enter Try.func67, Try.ntmps67
  go_wp2_with fail
  go_loop [3, 11] (fun z i => ∃ k : Nat, k ≤ n ∧ i = .int .i64 k ∧ z = .int .i64 ((flatW (ps.take k)).length : Nat)) (fun _ i => n - (intOf i).toNat)
  case atStart => exact ⟨0, Nat.zero_le _, rfl, rfl⟩
  case round =>
    obtain ⟨k, hk, rfl, rfl⟩ := hrel
    by_cases hlt : k < n
    · have hkp : k < ps.length := by rw [HN.out]; exact hlt
      have hce := HC.out k hkp
      have hbe := (HB.out k hkp).1
      have hsu := flatW_take_succ ps k hkp
      have hle := flatW_take_le ps (k + 1)
      rw [hsu, List.length_append, hbe] at hle
      have hsl : (flatW (ps.take (k + 1))).length = (flatW (ps.take k)).length + (ps[k]).len := by rw [hsu, List.length_append, hbe]
      obtain ⟨p, hp⟩ : ∃ p, ps[k] = p := ⟨_, rfl⟩
      rw [hp] at hce hle hsl
      obtain ⟨m, hm⟩ : ∃ m, (flatW (ps.take k)).length = m := ⟨_, rfl⟩
      rw [hm] at hle hsl ⊢
      obtain ⟨pa, pl, pc, pss⟩ := p
      dsimp only at hce hle hsl
      have hmm := HM.out
      have m0 : (0 : Int) ≤ (m : Int) := by omega
      have m1 : (m : Int) + (pl : Int) ≤ 1000000 := by omega
      have m2 : (0 : Int) ≤ (pl : Int) := by omega
      have m3 : ¬ ((m : Int) + (pl : Int) < 0) := by omega
      have k0 : (k : Int) < n := by omega
      have HSL := Lib.hid hsl; clear hsl
      clear hp hm hsu hbe hle hmm
      go_wp2_with fail
      go_round
      case rel => exact ⟨k + 1, by omega, by go_num, by rw [HSL.out]; go_num⟩
      case measure => simp [intOf]; omega
    · obtain rfl : k = n := by omega
      have ht : ps.take k = ps := List.take_of_length_le (by rw [HN.out]; exact Nat.le_refl _)
      rw [ht]
      obtain ⟨m, hm⟩ : ∃ m, (flatW ps).length = m := ⟨_, rfl⟩
      have gr := dGrow_any m (by rw [← hm]; exact H0.out) (by rw [← hm]; exact HM.out) w
      rw [hm]
      have GR := Lib.hid gr; clear gr
      clear hm ht
      go_wp2_with fail
      refine GR.out.mono ?_
      rintro e w1 ⟨v, rfl, ho, b1⟩
      have HO := Lib.hid ho; clear ho
      have HB1 := Lib.hid b1; clear b1
      go_wp2_with fail
      go_loopw [6, 27] (fun v i wr => ∃ j : Nat, j ≤ k ∧ i = .int .i64 j ∧ WRow wr w.heap.size v (flatW (ps.take j)) ∧ Below w.heap.size w wr) (fun _ i _ => k - (intOf i).toNat)
      case atStart => exact ⟨0, Nat.zero_le _, rfl, HO.out, HB1.out⟩
      case round =>
        obtain ⟨j, hj, rfl, ho2, hb2⟩ := hrel
        by_cases hlt2 : j < k
        · have hkp : j < ps.length := by rw [HN.out]; exact hlt2
          have hce := (hb2.cell (p := ⟨r, j, none⟩) hr).trans (HC.out j hkp)
          have hbs := (HB.out j hkp).below hb2
          have hbe := (HB.out j hkp).1
          have hsu := flatW_take_succ ps j hkp
          have hle := flatW_take_le ps (j + 1)
          rw [hsu, List.length_append, hbe] at hle
          obtain ⟨p, hp⟩ : ∃ p, ps[j] = p := ⟨_, rfl⟩
          rw [hp] at hce hle hsu hbs hbe
          obtain ⟨t, ht⟩ : ∃ t, flatW (ps.take j) = t := ⟨_, rfl⟩
          rw [ht] at hle hsu ho2
          obtain ⟨pa, pl, pc, pss⟩ := p
          dsimp only at hce hle hsu hbs hbe
          have hmm := HM.out
          have k0 : (j : Int) < k := by omega
          have hnm : t.length + pl ≤ 1000000 := by omega
          have HSU := Lib.hid hsu; clear hsu
          have HO2 := Lib.hid ho2; clear ho2
          have HB2 := Lib.hid hb2; clear hb2
          have HBS := Lib.hid hbs; clear hbs
          clear hp ht hle hmm hbe
          go_wp2_with (at_builtin; refine wpList_append_wrow rfl (.tmp 31) (.tmp 32) rfl w.heap.size u6 t rfl HO2.out w.heap.size pa pl pc pss rfl HBS.out (Nat.le_refl _) hnm HB2.out.size ?_; intro v' W3 hown' hg' hrow')
          have hb3 : Below w.heap.size w W3 := HB2.out.grown hg' HB2.out.size (fun k e => (hrow' k e).1)
          have HO3 := Lib.hid hown'; clear hown'
          have HB3 := Lib.hid hb3; clear hb3 hg' hrow'
          go_wp2_with fail
          go_roundw
          case rel => exact ⟨j + 1, by omega, by go_num, by rw [HSU.out]; exact HO3.out, HB3.out⟩
          case measure => simp [intOf]; omega
        · obtain rfl : j = k := by omega
          have ht : ps.take j = ps := List.take_of_length_le (by rw [HN.out]; exact Nat.le_refl _)
          rw [ht] at ho2
          have HO2 := Lib.hid ho2
          have HB2 := Lib.hid hb2; clear hb2
          clear ho2 ht
          go_wp2_with fail
          go_ret
          exact ⟨_, rfl, HO2.out, HB2.out⟩
end Go.Proofs.Ytdpmdlibgabjaaa
/-
  dev.Write: what it answers, whatever disk, place and bytes it is handed.
-/
namespace Go.Proofs.Ytdpmdlibgabjaaa
open Go.RowKit Go.Shelf
set_option maxRecDepth 100000

/-- A disk on which one more write waits. -/
def withD (D : DkL) (p : Int) (s : List UInt8) : DkL := (D.1, D.2 ++ [(p, s)])
def writeO (D : DkL) (p : Int) (s : List UInt8) : DkL × Int :=
  if MayD D then (if 0 ≤ p ∧ p < 256 then (if s.length = 256 then (if D.2.length = 4096 then (([], []), 9) else (withD D p s, 0)) else (([], []), 3)) else (([], []), 2)) else (([], []), 8)
theorem wr_with (ws : WrL) (p : Int) (s : List UInt8) : (∀ i, i < ws.length → wr_ (ws ++ [(p, s)]) i = wr_ ws i) ∧ wr_ (ws ++ [(p, s)]) ws.length = (p, s) := by
  unfold wr_
  refine ⟨fun i hi => ?_, ?_⟩
  · rw [List.getD_eq_getElem?_getD, List.getElem?_append_left hi, ← List.getD_eq_getElem?_getD]
  · rw [List.getD_eq_getElem?_getD, List.getElem?_append_right (Nat.le_refl _), Nat.sub_self]
    rfl
theorem sumW_congr {a b : WrL} : ∀ {n : Nat}, (∀ i, i < n → wr_ a i = wr_ b i) → sumW a n = sumW b n
  | 0, _ => rfl
  | n + 1, h => by
    unfold sumW
    rw [sumW_congr (fun i hi => h i (by omega)), h n (by omega)]
theorem with_may {D : DkL} {p : Int} {s : List UInt8} (h : MayD D) (hp : 0 ≤ p ∧ p < 256) (hs : s.length = 256) (hn : D.2.length ≠ 4096) : MayD (withD D p s) := by
  obtain ⟨h1, h2, h3⟩ := h
  obtain ⟨e1, e2⟩ := wr_with D.2 p s
  refine ⟨h1, by show (D.2 ++ [(p, s)]).length ≤ 4096; rw [List.length_append]; simp; omega, fun i hi => ?_⟩
  have hi' : i < D.2.length + 1 := by have : i < (D.2 ++ [(p, s)]).length := hi; rwa [List.length_append] at this
  show (0 ≤ (wr_ (D.2 ++ [(p, s)]) i).1 ∧ (wr_ (D.2 ++ [(p, s)]) i).1 < 256) ∧ (wr_ (D.2 ++ [(p, s)]) i).2.length = 256
  rcases Nat.lt_or_ge i D.2.length with h4 | h4
  · rw [e1 i h4]
    exact h3 i h4
  · obtain rfl : i = D.2.length := by omega
    rw [e2]
    exact ⟨hp, hs⟩
def WriteGoes (D : DkL) (p : Int) (s : List UInt8) : Prop := MayD D ∧ (0 ≤ p ∧ p < 256) ∧ s.length = 256 ∧ D.2.length ≠ 4096
/-- The ways that are refused. -/
theorem dWrite_no (x : DAt) (D : DkL) (p : Int) (a : Option Addr) (n c : Nat) (s : List UInt8) (w : World) (h : Dsk w w.heap.size x D) (hs : Bsl w w.heap.size a n c s) (hno : ¬ WriteGoes D p s) : Calls Try.prog 41 #[dval x D, .int .i64 p, .slice a n c] w (ToldD (writeO D p s) w) := by
  obtain ⟨w0, hw0, b0, z0, x0, x1⟩ := two_boxes w (.slice x.ba D.1.length x.bc) (.slice x.wa D.2.length x.wc)
  have h0 := h.step b0
  have c0 := x0.cell 0
  have c1 := x0.cell 1
  have HX0 := Lib.hid x0
  have HX1 := Lib.hid x1
  have HB := Lib.hid b0
  have hbk := dIsBlock_any p
  have hlg := dIsLong_any a n c
  have hsl := hs.1
  unfold writeO
  by_cases hm : MayD D
  · rw [if_pos hm]
    have HC := Lib.hid (dMay_yes x D _ h0 hm)
    simp only [dval] at HC ⊢
    by_cases hp : 0 ≤ p ∧ p < 256
    · rw [if_pos hp]
      simp only [decide_eq_true hp] at hbk
      have HBK := Lib.hid hbk
      by_cases hl : s.length = 256
      · have hf4 : D.2.length = 4096 := Classical.byContradiction fun hh => hno ⟨hm, hp, hl, hh⟩
        rw [if_pos hl, if_pos hf4]
        have hn : n = 256 := by omega
        simp only [decide_eq_true hn] at hlg
        have HLG := Lib.hid hlg
        rw [hf4] at hw0 HX0 c1 HC ⊢
        clear b0 h0 h hm x0 x1 z0 hbk hlg hno hp hl hsl hs hf4 hn
        go_enter Try.func41, Try.ntmps41
        go_wp2_with fail
        clear hw0 c0 c1
        refine HC.out.mono ?_
        rintro e w1 ⟨rfl, b1⟩
        have HX01 := Lib.hid (HX0.out.below b1 HX0.out.lt)
        have HY := Lib.hid (HX1.out.below b1 HX1.out.lt)
        have HB1 := Lib.hid (HB.out.trans (b1.mono HB.out.size))
        clear b1
        go_wp2_with fail
        refine (HBK.out _).mono ?_
        rintro e w1' ⟨rfl, rfl⟩
        go_wp2_with fail
        refine (HLG.out _).mono ?_
        rintro e w1' ⟨rfl, rfl⟩
        have c1 := HX01.out.cell 1
        have d0 := HY.out.cell 0
        have d1 := HY.out.cell 1
        have hf := fun i => HY.out.frozen i
        go_wp2_with fail
        clear c1
        have hBF := (HB1.out.setCell (p := ⟨w.heap.size + 1, 0, none⟩) (Nat.le_add_right _ _) (.slice none 0 0)).setCell (p := ⟨w.heap.size + 1, 1, none⟩) (Nat.le_add_right _ _) (.slice none 0 0)
        have hXF := (HY.out.set_ 0 (.slice none 0 0)).set_ 1 (.slice none 0 0)
        obtain ⟨wf, hwf⟩ : ∃ wf, ((w1.setCell ⟨w.heap.size + 1, 0, none⟩ (.slice none 0 0)).setCell ⟨w.heap.size + 1, 1, none⟩ (.slice none 0 0)) = wf := ⟨_, rfl⟩
        rw [hwf] at hBF hXF ⊢
        clear hwf d0 d1 hf
        have e0 := hXF.cell 0
        have e1 := hXF.cell 1
        exact bodyPost_ret (v := .tuple #[.agg #[.slice none 0 0, .slice none 0 0], .int .i64 9]) (by simp [results, Try.f41, go_sem, e0, e1]) rfl (toldD_no rfl hBF)
      · rw [if_neg hl]
        have hn : n ≠ 256 := by omega
        simp only [decide_eq_false hn] at hlg
        have HLG := Lib.hid hlg
        clear b0 h0 h hm x0 x1 z0 hbk hlg hno hp hl hsl hs hn
        go_enter Try.func41, Try.ntmps41
        go_wp2_with fail
        clear hw0 c0 c1
        refine HC.out.mono ?_
        rintro e w1 ⟨rfl, b1⟩
        have HX01 := Lib.hid (HX0.out.below b1 HX0.out.lt)
        have HY := Lib.hid (HX1.out.below b1 HX1.out.lt)
        have HB1 := Lib.hid (HB.out.trans (b1.mono HB.out.size))
        clear b1
        go_wp2_with fail
        refine (HBK.out _).mono ?_
        rintro e w1' ⟨rfl, rfl⟩
        go_wp2_with fail
        refine (HLG.out _).mono ?_
        rintro e w1' ⟨rfl, rfl⟩
        have c1 := HX01.out.cell 1
        have d0 := HY.out.cell 0
        have d1 := HY.out.cell 1
        have hf := fun i => HY.out.frozen i
        go_wp2_with fail
        clear c1
        have hBF := (HB1.out.setCell (p := ⟨w.heap.size + 1, 0, none⟩) (Nat.le_add_right _ _) (.slice none 0 0)).setCell (p := ⟨w.heap.size + 1, 1, none⟩) (Nat.le_add_right _ _) (.slice none 0 0)
        have hXF := (HY.out.set_ 0 (.slice none 0 0)).set_ 1 (.slice none 0 0)
        obtain ⟨wf, hwf⟩ : ∃ wf, ((w1.setCell ⟨w.heap.size + 1, 0, none⟩ (.slice none 0 0)).setCell ⟨w.heap.size + 1, 1, none⟩ (.slice none 0 0)) = wf := ⟨_, rfl⟩
        rw [hwf] at hBF hXF ⊢
        clear hwf d0 d1 hf
        have e0 := hXF.cell 0
        have e1 := hXF.cell 1
        exact bodyPost_ret (v := .tuple #[.agg #[.slice none 0 0, .slice none 0 0], .int .i64 3]) (by simp [results, Try.f41, go_sem, e0, e1]) rfl (toldD_no rfl hBF)
    · rw [if_neg hp]
      simp only [decide_eq_false hp] at hbk
      have HBK := Lib.hid hbk
      clear b0 h0 h hm x0 x1 z0 hbk hlg hno hp hsl hs
      go_enter Try.func41, Try.ntmps41
      go_wp2_with fail
      clear hw0 c0 c1
      refine HC.out.mono ?_
      rintro e w1 ⟨rfl, b1⟩
      have HX01 := Lib.hid (HX0.out.below b1 HX0.out.lt)
      have HY := Lib.hid (HX1.out.below b1 HX1.out.lt)
      have HB1 := Lib.hid (HB.out.trans (b1.mono HB.out.size))
      clear b1
      go_wp2_with fail
      refine (HBK.out _).mono ?_
      rintro e w1' ⟨rfl, rfl⟩
      have c1 := HX01.out.cell 1
      have d0 := HY.out.cell 0
      have d1 := HY.out.cell 1
      have hf := fun i => HY.out.frozen i
      go_wp2_with fail
      clear c1
      have hBF := (HB1.out.setCell (p := ⟨w.heap.size + 1, 0, none⟩) (Nat.le_add_right _ _) (.slice none 0 0)).setCell (p := ⟨w.heap.size + 1, 1, none⟩) (Nat.le_add_right _ _) (.slice none 0 0)
      have hXF := (HY.out.set_ 0 (.slice none 0 0)).set_ 1 (.slice none 0 0)
      obtain ⟨wf, hwf⟩ : ∃ wf, ((w1.setCell ⟨w.heap.size + 1, 0, none⟩ (.slice none 0 0)).setCell ⟨w.heap.size + 1, 1, none⟩ (.slice none 0 0)) = wf := ⟨_, rfl⟩
      rw [hwf] at hBF hXF ⊢
      clear hwf d0 d1 hf
      have e0 := hXF.cell 0
      have e1 := hXF.cell 1
      exact bodyPost_ret (v := .tuple #[.agg #[.slice none 0 0, .slice none 0 0], .int .i64 2]) (by simp [results, Try.f41, go_sem, e0, e1]) rfl (toldD_no rfl hBF)
  · rw [if_neg hm]
    have HC := Lib.hid (dMay_no x D _ h0 hm)
    simp only [dval] at HC ⊢
    clear b0 h0 h hm x0 x1 z0 hbk hlg hno hsl hs
    go_enter Try.func41, Try.ntmps41
    go_wp2_with fail
    clear hw0 c0 c1
    refine HC.out.mono ?_
    rintro e w1 ⟨rfl, b1⟩
    have HX01 := Lib.hid (HX0.out.below b1 HX0.out.lt)
    have HY := Lib.hid (HX1.out.below b1 HX1.out.lt)
    have HB1 := Lib.hid (HB.out.trans (b1.mono HB.out.size))
    clear b1
    have c1 := HX01.out.cell 1
    have d0 := HY.out.cell 0
    have d1 := HY.out.cell 1
    have hf := fun i => HY.out.frozen i
    go_wp2_with fail
    clear c1
    have hBF := (HB1.out.setCell (p := ⟨w.heap.size + 1, 0, none⟩) (Nat.le_add_right _ _) (.slice none 0 0)).setCell (p := ⟨w.heap.size + 1, 1, none⟩) (Nat.le_add_right _ _) (.slice none 0 0)
    have hXF := (HY.out.set_ 0 (.slice none 0 0)).set_ 1 (.slice none 0 0)
    obtain ⟨wf, hwf⟩ : ∃ wf, ((w1.setCell ⟨w.heap.size + 1, 0, none⟩ (.slice none 0 0)).setCell ⟨w.heap.size + 1, 1, none⟩ (.slice none 0 0)) = wf := ⟨_, rfl⟩
    rw [hwf] at hBF hXF ⊢
    clear hwf d0 d1 hf
    have e0 := hXF.cell 0
    have e1 := hXF.cell 1
    exact bodyPost_ret (v := .tuple #[.agg #[.slice none 0 0, .slice none 0 0], .int .i64 8]) (by simp [results, Try.f41, go_sem, e0, e1]) rfl (toldD_no rfl hBF)
set_option maxHeartbeats 4000000 in
theorem dWrite_yes (x : DAt) (D : DkL) (p : Int) (a : Option Addr) (c : Nat) (s : List UInt8) (w : World) (h : Dsk w w.heap.size x D) (hs : Bsl w w.heap.size a 256 c s) (hm : MayD D) (hp : 0 ≤ p ∧ p < 256) (hn : D.2.length ≠ 4096) : Calls Try.prog 41 #[dval x D, .int .i64 p, .slice a 256 c] w (ToldD (withD D p s, 0) w) := by
  obtain ⟨w0, hw0, b0, z0, x0, x1⟩ := two_boxes w (.slice x.ba D.1.length x.bc) (.slice x.wa D.2.length x.wc)
  have h0 := h.step b0
  have c0 := x0.cell 0
  have c1 := x0.cell 1
  have HX0 := Lib.hid x0
  have HX1 := Lib.hid x1
  have HB := Lib.hid b0
  have HZ := Lib.hid z0
  have HD := Lib.hid h0
  have HS0 := Lib.hid (hs.step b0)
  have HC := Lib.hid (dMay_yes x D _ h0 hm)
  have hbk := dIsBlock_any p
  simp only [decide_eq_true hp] at hbk
  have HBK := Lib.hid hbk
  have hlg := dIsLong_any a 256 c
  have HLG : Hid (∀ W, Calls Try.prog 54 #[.slice a 256 c] W fun e w' => e = .returned (.bool true) ∧ W = w') := Lib.hid hlg
  have HM := Lib.hid hm
  have HF := Lib.hid (may_fits (with_may hm hp hs.1 hn))
  obtain ⟨m, hm2⟩ : ∃ m, D.2.length = m := ⟨_, rfl⟩
  have m0 : m < 4096 := by have := hm.2.1; omega
  have m1 : ((m : Int) == 4096) = false := by simp; omega
  have HM2 := Lib.hid hm2
  have HP := Lib.hid hp
  simp only [dval] at HC ⊢
  rw [hm2] at HX0 hw0 c1 HC ⊢
  clear b0 h0 h hm x0 x1 z0 hbk hlg hs hn hp
  go_enter Try.func41, Try.ntmps41
  go_wp2_with fail
  clear hw0 c0 c1 hm2
  refine HC.out.mono ?_
  rintro e w1 ⟨rfl, b1⟩
  have x01 := HX0.out.below b1 HX0.out.lt
  have c0 := x01.cell 0
  have c1 := x01.cell 1
  have HX01 := Lib.hid x01
  have HX11 := Lib.hid (HX1.out.below b1 HX1.out.lt)
  have HB1 := Lib.hid (HB.out.trans (b1.mono HB.out.size))
  have HZ1 := Lib.hid (show w.heap.size + 2 ≤ w1.heap.size by have := b1.size; have := HZ.out; omega)
  have HD1 := Lib.hid (HD.out.step b1)
  have HS1 := Lib.hid (HS0.out.step b1)
  clear b1 x01 HX0 HX1 HB HD HS0
  go_wp2_with fail
  refine (HBK.out _).mono ?_
  rintro e w1' ⟨rfl, rfl⟩
  go_wp2_with fail
  refine (HLG.out _).mono ?_
  rintro e w1' ⟨rfl, rfl⟩
  go_wp2_with fail
  have hsz := HZ1.out
  have hD1 := HD1.out
  have hS1 := HS1.out
  have hp := HP.out
  obtain ⟨g1, hg1⟩ : ∃ g, w1.heap.size = g := ⟨_, rfl⟩
  obtain ⟨w2, hw2⟩ : ∃ w2, (w1.alloc (.cells #[.int .i64 p, .slice a 256 c] 87)).alloc (.cells #[.slice x.wa m x.wc, .slice (some ⟨g1, 0, none⟩) 1 1] 25) = w2 := ⟨_, rfl⟩
  have b2 : Below w1.heap.size w1 w2 := by rw [← hw2]; exact ((Below.refl _ w1).alloc (Nat.le_refl _) _).alloc (by simp) _
  have y1 : Blk w2 g1 87 #[.int .i64 p, .slice a 256 c] := by rw [← hw2, ← hg1]; exact (Blk.new w1 _ _).alloc _
  have y2 : Blk w2 (g1 + 1) 25 #[.slice x.wa m x.wc, .slice (some ⟨g1, 0, none⟩) 1 1] := by
    have := Blk.new (w1.alloc (.cells #[.int .i64 p, .slice a 256 c] 87)) 25 #[.slice x.wa m x.wc, .slice (some ⟨g1, 0, none⟩) 1 1]
    rw [World.size_alloc, hg1, hw2] at this
    exact this
  have hD2 := hD1.step b2
  have hS2 := hS1.step b2
  have hone : Wts w2 w2.heap.size (some ⟨g1, 0, none⟩) 1 1 [(p, s)] := by
    refine ⟨rfl, Nat.le_refl _, by unfold maxLen; omega, fun _ => ⟨g1, 0, rfl, y1.lt, fun i hi => ?_⟩⟩
    obtain rfl : i = 0 := by omega
    have hsl := hS2.1
    refine ⟨wf64 (p := p) (by omega) (by omega), y1.cell 0, a, c, ?_, ?_⟩
    · show w2.cell? ⟨g1, 1, none⟩ = some (.slice a s.length c)
      rw [hsl]
      exact y1.cell 1
    · show Bsl w2 _ a s.length c s
      rw [hsl]
      exact hS2
  have hcon := dConcat_any (g1 + 1) 2 [⟨x.wa, m, x.wc, D.2⟩, ⟨some ⟨g1, 0, none⟩, 1, 1, [(p, s)]⟩] w2 y2.lt (by simp) (fun i hi => by
    have : i = 0 ∨ i = 1 := by simp at hi; omega
    rcases this with rfl | rfl
    · exact y2.cell 0
    · exact y2.cell 1) (fun i hi => by
    have : i = 0 ∨ i = 1 := by simp at hi; omega
    rcases this with rfl | rfl
    · show Wts w2 w2.heap.size x.wa m x.wc D.2
      rw [← HM2.out]
      exact hD2.2
    · exact hone) (by simp [flatW]) (by simp [flatW, HM2.out]; omega)
  have hfl : flatW [⟨x.wa, m, x.wc, D.2⟩, ⟨some ⟨g1, 0, none⟩, 1, 1, [(p, s)]⟩] = D.2 ++ [(p, s)] := by simp [flatW]
  rw [hfl] at hcon
  have HCON := Lib.hid hcon
  have HX02 := Lib.hid (HX01.out.below b2 HX01.out.lt)
  have HX12 := Lib.hid (HX11.out.below b2 HX11.out.lt)
  have HB2 := Lib.hid (HB1.out.trans (b2.mono (by omega)))
  have HZ2 := Lib.hid (show w.heap.size + 2 ≤ w2.heap.size by have := b2.size; omega)
  have HD2 := Lib.hid hD2
  rw [hg1, hw2]
  clear hsz hD1 hS1 hp hg1 hw2 b2 y1 y2 hD2 hS2 hone hcon hfl HB1 HZ1 HD1 HS1 HX01 HX11 c0 c1
  refine HCON.out.mono ?_
  rintro e w3 ⟨v, rfl, hrow, b3⟩
  obtain ⟨wa3, wc3, rfl, hwts⟩ := hrow.wts
  have x03 := HX02.out.below b3 HX02.out.lt
  have c0 := x03.cell 0
  have c1 := x03.cell 1
  have hla := dLaid_any ⟨x.ba, x.bc, wa3, wc3⟩ (withD D p s) w3 ⟨(HD2.out.step b3).1, hwts⟩ HF.out
  have hw1 : (withD D p s).1 = D.1 := rfl
  have hw2 : (withD D p s).2 = D.2 ++ [(p, s)] := rfl
  simp only [hw1, hw2] at hla
  obtain ⟨L, hL⟩ : ∃ L, (D.2 ++ [(p, s)]).length = L := ⟨_, rfl⟩
  rw [hL] at hla ⊢
  have HLA := Lib.hid hla
  have HX2 := Lib.hid (HX12.out.below b3 HX12.out.lt)
  have HB1 := Lib.hid (HB2.out.trans (b3.mono HB2.out.size))
  have HZ1 := Lib.hid (show w.heap.size + 2 ≤ w3.heap.size by have := b3.size; have := HZ2.out; omega)
  have HW2 := Lib.hid (show (withD D p s).2.length = L from hL)
  clear hrow b3 hwts x03 hla hw1 hw2 hL HCON HX02 HX12 HB2 HZ2 HD2
  go_wp2_with fail
  refine HLA.out.mono ?_
  rintro e w4 ⟨x2, rfl, h2, b2⟩
  clear c0 c1
  have y2 := HX2.out.below b2 HX2.out.lt
  have d0 := y2.cell 0
  have d1 := y2.cell 1
  have hf := fun i => y2.frozen i
  have hz := HZ1.out
  have HK := Lib.hid (fun (u v : Value) => laid_far (g := w.heap.size + 1) (lo' := w.heap.size) h2 (by omega) (by omega) u v)
  have HBF := Lib.hid (fun (u v : Value) => ((HB1.out.trans (b2.mono (by omega))).setCell (p := ⟨w.heap.size + 1, 0, none⟩) (Nat.le_add_right _ _) u).setCell (p := ⟨w.heap.size + 1, 1, none⟩) (Nat.le_add_right _ _) v)
  have HXF := Lib.hid (fun (u v : Value) => (y2.set_ 0 u).set_ 1 v)
  obtain ⟨K, hK⟩ : ∃ K, withD D p s = K := ⟨_, rfl⟩
  rw [hK] at HK ⊢
  have HK0 := Lib.hid hK
  obtain ⟨ba2, bc2, wa2, wc2⟩ := x2
  clear h2 b2 y2 hz hK
  simp only [dval]
  go_wp2_with fail
  have hKD := HK.out (.slice ba2 K.1.length bc2) (.slice wa2 K.2.length wc2)
  have hBF := HBF.out (.slice ba2 K.1.length bc2) (.slice wa2 K.2.length wc2)
  have hXF := HXF.out (.slice ba2 K.1.length bc2) (.slice wa2 K.2.length wc2)
  obtain ⟨wf, hwf⟩ : ∃ wf, ((w4.setCell ⟨w.heap.size + 1, 0, none⟩ (.slice ba2 K.1.length bc2)).setCell ⟨w.heap.size + 1, 1, none⟩ (.slice wa2 K.2.length wc2)) = wf := ⟨_, rfl⟩
  rw [hwf] at hKD hBF hXF ⊢
  clear hwf d0 d1 hf
  have e0 := hXF.cell 0
  have e1 := hXF.cell 1
  refine bodyPost_ret (v := .tuple #[dval ⟨ba2, bc2, wa2, wc2⟩ K, .int .i64 0]) (by simp [results, Try.f41, go_sem, e0, e1, dval]) rfl ?_
  exact ⟨⟨ba2, bc2, wa2, wc2⟩, by rw [HK0.out], .inr (by rw [HK0.out]; exact hKD), hBF⟩
theorem dWrite_any (x : DAt) (D : DkL) (p : Int) (a : Option Addr) (n c : Nat) (s : List UInt8) (w : World) (h : Dsk w w.heap.size x D) (hs : Bsl w w.heap.size a n c s) : Calls Try.prog 41 #[dval x D, .int .i64 p, .slice a n c] w (ToldD (writeO D p s) w) := by
  by_cases hy : WriteGoes D p s
  · obtain ⟨h1, h2, h3, h4⟩ := hy
    rw [writeO, if_pos h1, if_pos h2, if_pos h3, if_neg h4]
    obtain rfl : n = 256 := by rw [← hs.1]; exact h3
    exact dWrite_yes x D p a c s w h hs h1 h2 h4
  · exact dWrite_no x D p a n c s w h hs hy
end Go.Proofs.Ytdpmdlibgabjaaa
/-
  The document's own With for layer 9: a disk on which one more write waits.
-/
namespace Go.Proofs.Ytdpmdlibgabjaaa
open Go.RowKit Go.Shelf
set_option maxRecDepth 100000

end Go.Proofs.Ytdpmdlibgabjaaa
/-
  The document's own With for layer 9, with the rows that it makes.
-/
namespace Go.Proofs.Ytdpmdlibgabjaaa
open Go.RowKit Go.Shelf
set_option maxRecDepth 100000

/-- A disk whose rows are rows: it stays where boxes of disks are written. -/
def DskR (w : World) (x : DAt) (D : DkL) : Prop := ∃ b1 b2, BRowC w 0 b1 (.slice x.ba D.1.length x.bc) D.1 ∧ WRowC w 0 b2 (.slice x.wa D.2.length x.wc) D.2
theorem DskR.dsk {w : World} {x : DAt} {D : DkL} (h : DskR w x D) : Dsk w w.heap.size x D := by
  obtain ⟨b1, b2, h1, h2⟩ := h
  exact rows_dsk h1 h2
theorem DskR.below {w w' : World} {x : DAt} {D : DkL} (h : DskR w x D) (hb : Below w.heap.size w w') : DskR w' x D := by
  obtain ⟨b1, b2, h1, h2⟩ := h
  exact ⟨b1, b2, h1.below hb, h2.below hb⟩
theorem DskR.set2 {w : World} {x : DAt} {D : DkL} (h : DskR w x D) {g : Nat} {cs : Array Value} (hg : Blk w g 27 cs) (u v : Value) : DskR ((w.setCell ⟨g, 0, none⟩ u).setCell ⟨g, 1, none⟩ v) x D := by
  obtain ⟨b1, b2, h1, h2⟩ := h
  have gs : w.grownBy ((w.setCell ⟨g, 0, none⟩ u).setCell ⟨g, 1, none⟩ v) (some g) := only_two w g u v
  exact ⟨b1, b2, h1.row gs (Nat.zero_le _) hg (by decide) (by decide), h2.row gs (Nat.zero_le _) hg (by decide) (by decide)⟩
def RPost (D : DkL) (w : World) (e : Ending) (w' : World) : Prop := ∃ x', e = .returned (dval x' D) ∧ DskR w' x' D ∧ Below w.heap.size w w'
end Go.Proofs.Ytdpmdlibgabjaaa
/-
  slices.Grow of nil, and slices.Concat of lists of bytes: new memory that holds them all, one behind the other; nothing that was there is written.
-/
namespace Go.Proofs.Ytdpmdlibgabjaaa
open Go.RowKit Go.Shelf
set_option maxRecDepth 100000

set_option maxHeartbeats 1000000 in
theorem grow_any (n : Nat) (h0 : 0 < n) (hn : n ≤ 100000) (w : World) : Calls Try.prog 94 #[.slice none 0 0, .int .i64 n] w fun e w' => ∃ v, e = .returned v ∧ w'.ownsRow w.heap.size 5 1 v 0 (vals []) ∧ Below w.heap.size w w' := by
  obtain ⟨i0, hi, hz0, hz1, hz2⟩ := info_parts infoU8
  have hr : ∀ ty, (Builtin.append_ #[23, 3] ty #[.slice none 0 0, .int .i64 n]).run Try.prog w =
      .ok (.slice (some ⟨w.heap.size, 0, none⟩) n (grownCap w n 0 5)) (w.drew.alloc (.cells (Builtin.zeroCells (Value.int .u8 0).cells n ++ Builtin.zeroCells (Value.int .u8 0).cells (grownCap w n 0 5 - n)) 5)) := fun ty =>
    Lib.run_append_nil_zeros w 23 3 ty 5 i0 (.int .u8 0) .i64 .i64 Try.underlying23 Try.underlying3 hi hz0 n h0 (by omega) (by omega) (by rw [hz2]; omega)
  have hG1 : n ≤ grownCap w n 0 5 := grownCap_ge w _ _ _
  have hG2 : grownCap w n 0 5 ≤ maxLen := grownCap_le_maxLen w n 0 5 (by unfold maxLen; omega)
  obtain ⟨G, hG⟩ : ∃ G, grownCap w n 0 5 = G := ⟨_, rfl⟩
  rw [hG] at hr hG1 hG2
  obtain ⟨cs, hcs⟩ : ∃ cs, Builtin.zeroCells (Value.int .u8 0).cells n ++ Builtin.zeroCells (Value.int .u8 0).cells (G - n) = cs := ⟨_, rfl⟩
  have hsz : cs.size = G := by
    rw [← hcs]
    simp [Builtin.zeroCells, Value.cells]
    omega
  rw [hcs] at hr
  have z5 : ∀ w, (Go.sizeOf 5).run Try.prog w = .ok 1 w := fun w => by kernel_rfl
  have n1 : ¬ ((n : Int) < 0) := by omega
  have n2 : (0 : Int) < n := by omega
  have n3 : (n : Int) ≤ 100000 := by omega
  have g0 : (G : Int) ≤ 9223372036854775807 := by unfold maxLen at hG2; omega
  have hown : (w.drew.alloc (.cells cs 5)).ownsRow w.heap.size 5 1 (.slice (some ⟨w.heap.size, 0, none⟩) 0 G) 0 (vals []) :=
    ⟨rfl, .inr ⟨w.heap.size, G, cs, rfl, Nat.le_refl _, by have := heap_alloc_new w.drew (.cells cs 5); simpa using this, Nat.zero_le _, hG2, by omega, by simp [vals]⟩⟩
  have hbel : Below w.heap.size w (w.drew.alloc (.cells cs 5)) := (Below.refl _ w).drew.alloc (by simp) _
  have HO := Lib.hid hown; clear hown
  have HB := Lib.hid hbel; clear hbel
  have HG2 := Lib.hid hG2; clear hG2
  clear hG hcs hsz hi hz0 hz1 hz2
  go_enter Try.func94, Try.ntmps94
  go_wp2_with (at_builtin; refine Lib.wpList_append_run _ rfl _ _ _ _ rfl _ _ rfl rfl _ _ (hr _) ?_)
  go_ret
  exact ⟨_, rfl, HO.out, HB.out⟩

/-- A list of bytes as it is handed in. -/
structure Part where
  a : Option Addr
  len : Nat
  cap : Nat
  s : List UInt8
/-- Lists, one behind the other. -/
def flat (ps : List Part) : List UInt8 := ps.flatMap (·.s)
theorem flat_take_succ (ps : List Part) (k : Nat) (h : k < ps.length) : flat (ps.take (k + 1)) = flat (ps.take k) ++ (ps[k]).s := by
  unfold flat
  rw [List.take_succ_eq_append_getElem h, List.flatMap_append]
  simp
theorem flat_take_le (ps : List Part) (k : Nat) : (flat (ps.take k)).length ≤ (flat ps).length := by
  have : flat ps = flat (ps.take k) ++ flat (ps.drop k) := by
    unfold flat
    rw [← List.flatMap_append, List.take_append_drop]
  rw [this, List.length_append]
  omega

/-- A new list that holds s. -/
def NewPost (s : List UInt8) (w : World) (e : Ending) (w' : World) : Prop :=
  ∃ g cap, e = .returned (.slice (some ⟨g, 0, none⟩) s.length cap) ∧ w.heap.size ≤ g ∧ g < w'.heap.size ∧ s.length ≤ cap ∧ cap ≤ maxLen ∧ Holds w' g s ∧ Below w.heap.size w w'

/-- The same, the call's own. -/
def OwnPost (s : List UInt8) (w : World) (e : Ending) (w' : World) : Prop := ∃ v, e = .returned v ∧ w'.ownsRow w.heap.size 5 1 v s.length (vals s) ∧ Below w.heap.size w w'

set_option maxHeartbeats 2000000 in
theorem concat_own (r c : Nat) (ps : List Part) (w : World) (hr : r < w.heap.size) (hl : ps.length ≤ 1000) (_hc : ps.length ≤ c)
    (hcell : ∀ i (h : i < ps.length), w.cell? ⟨r, i, none⟩ = some (.slice (ps[i]).a (ps[i]).len (ps[i]).cap)) (hb : ∀ i (h : i < ps.length), Bsl w w.heap.size (ps[i]).a (ps[i]).len (ps[i]).cap (ps[i]).s)
    (h0 : 0 < (flat ps).length) (hm : (flat ps).length ≤ 100000) :
    Calls Try.prog 74 #[.slice (some ⟨r, 0, none⟩) ps.length c] w (OwnPost (flat ps) w) := by
  obtain ⟨n, hn⟩ : ∃ n, ps.length = n := ⟨_, rfl⟩
  have HN := Lib.hid hn
  rw [hn] at hl ⊢
  clear hn
  have n0 : (0 : Int) ≤ n := by omega
  have n1 : (n : Int) ≤ 1000 := by omega
  have HC := Lib.hid hcell; clear hcell
  have HB := Lib.hid hb; clear hb
  have HM := Lib.hid hm; clear hm
  have H0 := Lib.hid h0; clear h0
  go_enter Try.func74, Try.ntmps74
  go_wp2_with fail
  go_loop [3, 11] (fun z i => ∃ k : Nat, k ≤ n ∧ i = .int .i64 k ∧ z = .int .i64 ((flat (ps.take k)).length : Nat)) (fun _ i => n - (intOf i).toNat)
  case atStart => exact ⟨0, Nat.zero_le _, rfl, rfl⟩
  case round =>
    obtain ⟨k, hk, rfl, rfl⟩ := hrel
    by_cases hlt : k < n
    · have hkp : k < ps.length := by rw [HN.out]; exact hlt
      have hce := HC.out k hkp
      have hbe := (HB.out k hkp).1
      have hsu := flat_take_succ ps k hkp
      have hle := flat_take_le ps (k + 1)
      rw [hsu, List.length_append, hbe] at hle
      have hsl : (flat (ps.take (k + 1))).length = (flat (ps.take k)).length + (ps[k]).len := by rw [hsu, List.length_append, hbe]
      obtain ⟨p, hp⟩ : ∃ p, ps[k] = p := ⟨_, rfl⟩
      rw [hp] at hce hle hsl
      obtain ⟨m, hm⟩ : ∃ m, (flat (ps.take k)).length = m := ⟨_, rfl⟩
      rw [hm] at hle hsl ⊢
      obtain ⟨pa, pl, pc, pss⟩ := p
      dsimp only at hce hle hsl
      have hmm := HM.out
      have m0 : (0 : Int) ≤ (m : Int) := by omega
      have m1 : (m : Int) + (pl : Int) ≤ 100000 := by omega
      have m2 : (0 : Int) ≤ (pl : Int) := by omega
      have m3 : ¬ ((m : Int) + (pl : Int) < 0) := by omega
      have k0 : (k : Int) < n := by omega
      have HSL := Lib.hid hsl; clear hsl
      clear hp hm hsu hbe hle hmm
      go_wp2_with fail
      go_round
      case rel => exact ⟨k + 1, by omega, by go_num, by rw [HSL.out]; go_num⟩
      case measure => simp [intOf]; omega
    · obtain rfl : k = n := by omega
      have ht : ps.take k = ps := List.take_of_length_le (by rw [HN.out]; exact Nat.le_refl _)
      rw [ht]
      obtain ⟨m, hm⟩ : ∃ m, (flat ps).length = m := ⟨_, rfl⟩
      have gr := grow_any m (by rw [← hm]; exact H0.out) (by rw [← hm]; exact HM.out) w
      rw [hm]
      have GR := Lib.hid gr; clear gr
      have HML := Lib.hid hm; clear hm ht
      go_wp2_with fail
      refine GR.out.mono ?_
      rintro e w1 ⟨v, rfl, ho, b1⟩
      have HO := Lib.hid ho; clear ho
      have HB1 := Lib.hid b1; clear b1
      go_wp2_with fail
      go_loopw [6, 27] (fun v i wr => ∃ j : Nat, j ≤ k ∧ i = .int .i64 j ∧ wr.ownsRow w.heap.size 5 1 v (flat (ps.take j)).length (vals (flat (ps.take j))) ∧ Below w.heap.size w wr) (fun _ i _ => k - (intOf i).toNat)
      case atStart => exact ⟨0, Nat.zero_le _, rfl, HO.out, HB1.out⟩
      case round =>
        obtain ⟨j, hj, rfl, ho2, hb2⟩ := hrel
        by_cases hlt2 : j < k
        · have hkp : j < ps.length := by rw [HN.out]; exact hlt2
          have hce := (hb2.cell (p := ⟨r, j, none⟩) hr).trans (HC.out j hkp)
          have hbs := ((HB.out j hkp).below hb2).more hb2.size
          have hbe := (HB.out j hkp).1
          have hsu := flat_take_succ ps j hkp
          have hle := flat_take_le ps (j + 1)
          rw [hsu, List.length_append, hbe] at hle
          obtain ⟨p, hp⟩ : ∃ p, ps[j] = p := ⟨_, rfl⟩
          rw [hp] at hce hle hsu hbs hbe
          obtain ⟨t, ht⟩ : ∃ t, flat (ps.take j) = t := ⟨_, rfl⟩
          rw [ht] at hle hsu ho2
          obtain ⟨pa, pl, pc, pss⟩ := p
          dsimp only at hce hle hsu hbs hbe
          have hmm := HM.out
          have k0 : (j : Int) < k := by omega
          have hnm : t.length + pl ≤ 100000 := by omega
          have HSU := Lib.hid hsu; clear hsu
          have HO2 := Lib.hid ho2; clear ho2
          have HB2 := Lib.hid hb2; clear hb2
          have HBS := Lib.hid hbs; clear hbs
          have HBE := Lib.hid hbe; clear hbe
          clear hp ht hle hmm
          go_wp2_with (at_builtin; refine wpList_append_bsl rfl (.tmp 31) (.tmp 32) rfl w.heap.size u6 t.length _ rfl HO2.out wr.heap.size pa pl pc pss rfl HBS.out hnm HB2.out.size ?_; intro v' W3 hown' hg')
          have hb3 : Below w.heap.size w W3 := HB2.out.grown hg' HB2.out.size (fun k e => (HO2.out.lt k e).1)
          have HO3 := Lib.hid hown'; clear hown'
          have HB3 := Lib.hid hb3; clear hb3 hg'
          go_wp2_with fail
          go_roundw
          case rel => exact ⟨j + 1, by omega, by go_num, by rw [HSU.out, List.length_append, HBE.out]; exact HO3.out, HB3.out⟩
          case measure => simp [intOf]; omega
        · obtain rfl : j = k := by omega
          have ht : ps.take j = ps := List.take_of_length_le (by rw [HN.out]; exact Nat.le_refl _)
          rw [ht] at ho2
          have HO2 := Lib.hid ho2
          have HB2 := Lib.hid hb2; clear hb2
          clear ho2 ht
          go_wp2_with fail
          go_ret
          exact ⟨_, rfl, HO2.out, HB2.out⟩
theorem concat_any (r c : Nat) (ps : List Part) (w : World) (hr : r < w.heap.size) (hl : ps.length ≤ 1000) (hc : ps.length ≤ c)
    (hcell : ∀ i (h : i < ps.length), w.cell? ⟨r, i, none⟩ = some (.slice (ps[i]).a (ps[i]).len (ps[i]).cap)) (hb : ∀ i (h : i < ps.length), Bsl w w.heap.size (ps[i]).a (ps[i]).len (ps[i]).cap (ps[i]).s)
    (h0 : 0 < (flat ps).length) (hm : (flat ps).length ≤ 100000) :
    Calls Try.prog 74 #[.slice (some ⟨r, 0, none⟩) ps.length c] w (NewPost (flat ps) w) := by
  refine (concat_own r c ps w hr hl hc hcell hb h0 hm).mono ?_
  rintro e w' ⟨v, rfl, ho, hb⟩
  obtain ⟨g, cap', rfl, hgb, hgl, hgc, hgm, hgs, hgh⟩ := bsl_of_own ho h0
  exact ⟨g, cap', rfl, hgb, hgl, hgc, hgm, hgh, hb⟩
end Go.Proofs.Ytdpmdlibgabjaaa
/-
  Words for lists of bytes: the contract's shape for a new list; a list that goes on being read; two lists laid one behind the other; parts of a list; exclusive or of two bytes.
-/
namespace Go.Proofs.Ytdpmdlibgabjaaa
open Go.RowKit Go.Shelf
set_option maxRecDepth 100000

theorem KeyPost.newL {x : W4} {w w' : World} {e : Ending} (h : KeyPost x w e w') : NewL 16 (bytesW x 4) w e w' := by
  obtain ⟨g, cap, he, h1, h2, h3, h4, h5, h6⟩ := h
  exact ⟨g, cap, he, h1, bsl_of_holds (bytesW_length _ _) h3 h4 h2 h5, h6⟩
theorem NewPost.newL {s : List UInt8} {n : Nat} {w w' : World} {e : Ending} (h : NewPost s w e w') (hn : s.length = n) : NewL n s w e w' := by
  subst hn
  obtain ⟨g, cap, he, h1, h2, h3, h4, h5, h6⟩ := h
  exact ⟨g, cap, he, h1, bsl_of_holds rfl h3 h4 h2 h5, h6⟩
theorem flat2 (p q : Part) : flat [p, q] = p.s ++ q.s := by simp [flat]
/-- Two lists in a row that has just been made. -/
theorem concat2 (w : World) (a : Option Addr) (la ca : Nat) (s : List UInt8) (b : Option Addr) (lb cb : Nat) (t : List UInt8) (hA : Bsl w w.heap.size a la ca s) (hB : Bsl w w.heap.size b lb cb t) (h0 : 0 < la + lb) (hm : la + lb ≤ 100000) :
    Calls Try.prog 74 #[.slice (some ⟨w.heap.size, 0, none⟩) 2 2] (w.alloc (.cells #[.slice a la ca, .slice b lb cb] 23)) (NewL (la + lb) (s ++ t) w) := by
  have hx := Blk.new w 23 #[.slice a la ca, .slice b lb cb]
  have hb1 : Below w.heap.size w (w.alloc (.cells #[.slice a la ca, .slice b lb cb] 23)) := (Below.refl _ w).alloc (Nat.le_refl _) _
  obtain ⟨w1, hw1⟩ : ∃ w1, w.alloc (.cells #[.slice a la ca, .slice b lb cb] 23) = w1 := ⟨_, rfl⟩
  rw [hw1] at hx hb1 ⊢
  have e1 := hA.1; have e2 := hB.1
  have hk := concat_any w.heap.size 2 [⟨a, la, ca, s⟩, ⟨b, lb, cb, t⟩] w1 hx.lt (by simp) (by simp)
    (fun i h => by
      have : i = 0 ∨ i = 1 := by simp at h; omega
      rcases this with rfl | rfl
      · exact hx.cell 0
      · exact hx.cell 1)
    (fun i h => by
      have : i = 0 ∨ i = 1 := by simp at h; omega
      rcases this with rfl | rfl
      · exact hA.step hb1
      · exact hB.step hb1)
    (by rw [flat2]; simp; omega) (by rw [flat2]; simp; omega)
  rw [flat2] at hk
  refine Calls.mono hk fun e w2 h => ?_
  obtain ⟨g, cap, he, h1, h2, h3⟩ := NewPost.newL h (n := la + lb) (by simp; omega)
  exact ⟨g, cap, he, Nat.le_trans hb1.size h1, h2, hb1.trans (h3.mono hb1.size)⟩
theorem flat3 (p q r : Part) : flat [p, q, r] = p.s ++ (q.s ++ r.s) := by simp [flat]
theorem concat3 (w : World) (a : Option Addr) (la ca : Nat) (s : List UInt8) (b : Option Addr) (lb cb : Nat) (t : List UInt8) (c : Option Addr) (lc cc : Nat) (u : List UInt8) (hA : Bsl w w.heap.size a la ca s) (hB : Bsl w w.heap.size b lb cb t) (hC : Bsl w w.heap.size c lc cc u) (h0 : 0 < la + lb + lc) (hm : la + lb + lc ≤ 100000) :
    Calls Try.prog 74 #[.slice (some ⟨w.heap.size, 0, none⟩) 3 3] (w.alloc (.cells #[.slice a la ca, .slice b lb cb, .slice c lc cc] 23)) (NewL (la + lb + lc) (s ++ (t ++ u)) w) := by
  have hx := Blk.new w 23 #[.slice a la ca, .slice b lb cb, .slice c lc cc]
  have hb1 : Below w.heap.size w (w.alloc (.cells #[.slice a la ca, .slice b lb cb, .slice c lc cc] 23)) := (Below.refl _ w).alloc (Nat.le_refl _) _
  obtain ⟨w1, hw1⟩ : ∃ w1, w.alloc (.cells #[.slice a la ca, .slice b lb cb, .slice c lc cc] 23) = w1 := ⟨_, rfl⟩
  rw [hw1] at hx hb1 ⊢
  have e1 := hA.1; have e2 := hB.1; have e3 := hC.1
  have hk := concat_any w.heap.size 3 [⟨a, la, ca, s⟩, ⟨b, lb, cb, t⟩, ⟨c, lc, cc, u⟩] w1 hx.lt (by simp) (by simp)
    (fun i h => by
      have : i = 0 ∨ i = 1 ∨ i = 2 := by simp at h; omega
      rcases this with rfl | rfl | rfl
      · exact hx.cell 0
      · exact hx.cell 1
      · exact hx.cell 2)
    (fun i h => by
      have : i = 0 ∨ i = 1 ∨ i = 2 := by simp at h; omega
      rcases this with rfl | rfl | rfl
      · exact hA.step hb1
      · exact hB.step hb1
      · exact hC.step hb1)
    (by rw [flat3]; simp; omega) (by rw [flat3]; simp; omega)
  rw [flat3] at hk
  refine Calls.mono hk fun e w2 h => ?_
  obtain ⟨g, cap, he, h1, h2, h3⟩ := NewPost.newL h (n := la + lb + lc) (by simp; omega)
  exact ⟨g, cap, he, Nat.le_trans hb1.size h1, h2, hb1.trans (h3.mono hb1.size)⟩
end Go.Proofs.Ytdpmdlibgabjaaa
/-
  A range over a function that has no end of its own: it goes on until the body leaves it. What the iterator tells of each value and of the world is handed to the body; a bound on the rounds comes from the caller.
-/
namespace Go.Proofs.Ytdpmdlibgabjaaa
open Go Go.RowKit
set_option maxRecDepth 100000

/-- Cells at or behind block B stay. -/
def CellsFrom (B : Nat) (W W' : World) : Prop := W.heap.size ≤ W'.heap.size ∧ ∀ p v, B ≤ p.block → W.cell? p = some v → W'.cell? p = some v
/-- All that lies at or behind block B stays. -/
def AllFrom (B : Nat) (W W' : World) : Prop := W.heap.size ≤ W'.heap.size ∧ ∀ k o, B ≤ k → W.heap[k]? = some o → W'.heap[k]? = some o
theorem CellsFrom.trans {B : Nat} {a b c : World} (h : CellsFrom B a b) (k : CellsFrom B b c) : CellsFrom B a c := ⟨Nat.le_trans h.1 k.1, fun p v hp hv => k.2 p v hp (h.2 p v hp hv)⟩
theorem AllFrom.cells {B : Nat} {a b : World} (h : AllFrom B a b) : CellsFrom B a b := ⟨h.1, fun p v hp hv => by
  obtain ⟨o, ho, _⟩ := cells_of_cell hv
  have := h.2 _ o hp ho
  exact (World.cell?_of_block (this.trans ho.symm)).trans hv⟩
theorem cellsFrom_putObj {B : Nat} {W : World} {l : Nat} {o : Obj} (o' : Obj) (h : W.heap[l]? = some o) (ho : o.isCells = false) : CellsFrom B W (W.putObj l o') :=
  ⟨by simp, fun _ _ _ hv => cell_kept hv (grownBy_putObj' W l o') (fun r e => by cases e; exact ⟨o, h, ho⟩)⟩
theorem below_putObj {B : Nat} {W : World} {l : Nat} (o : Obj) (h : B ≤ l) : Below B W (W.putObj l o) :=
  ⟨rfl, rfl, rfl, by simp, fun k hk => World.putObj_heap_other (by omega)⟩

/-- How the body of round k may end. -/
def roundEnd (B : Nat) (I : Nat → World → Prop) (Ix : Code → World → Prop) (k : Nat) (W : World) : Exit → Act → World → Prop
  | .normal, _, W' => AllFrom B W W' ∧ I (k + 1) W'
  | .exit id, _, W' => AllFrom B W W' ∧ Ix (.exit id) W'
  | .ret, _, W' => AllFrom B W W' ∧ Ix .ret W'
  | _, _, _ => False

/-- What an endless iterator that tells T does with whatever loop. -/
def Endless {α : Type} (P : Program) (m B N : Nat) (gf : Nat) (lb : Array Value) (encs : α → Array Value) (T : Nat → α → World → Prop) (w : World) : Prop :=
  ∀ (l : Nat) (J : Nat → World → Prop) (Jx : World → Prop) (W : World), Below w.heap.size w W → (∀ k A A', J k A → Below W.heap.size A A' → J k A') → (∀ k A, J k A → k < N) →
    (∀ k x W1, J k W1 → T k x W1 → YieldAt Fence.wide (m - 1) P l (encs x) W1 fun e W' => (e = .returned (.bool true) ∧ J (k + 1) W' ∧ CellsFrom B W1 W') ∨ (e = .returned (.bool false) ∧ Jx W')) →
    J 0 W → CallsIn Fence.wide m P gf (#[.func (.yield l) #[] #[]] ++ lb) W fun e W' => (∃ v, e = .returned v) ∧ Jx W'

theorem range_endless {P : Program} {m : Nat} {α : Type} {g : Operand} {ps : Array Tmp} {assign body : Code} {Q : Exit → Act → World → Prop} {a : Act} {w : World}
    {gf : Nat} {lb : Array Value} (hg : a.eval g = .func (.func gf) #[] lb) (eg : ∀ args w, (callFunc gf args).run P w = .ok (.enter gf args) w)
    (encs : α → Array Value) (hps : ∀ x, (encs x).size = ps.size) (T : Nat → α → World → Prop) (hT : ∀ k x A l r o', T k x A → A.heap[l]? = some (.loop r) → T k x (A.putObj l o'))
    (N : Nat) (I : Nat → World → Prop) (Ix : Code → World → Prop) (hI : ∀ k A A', I k A → Below w.heap.size A A' → I k A') (hIx : ∀ c A A', Ix c A → Below w.heap.size A A' → Ix c A')
    (hN : ∀ k A, I k A → k < N) (h0 : I 0 w) (hseq : Endless P (m - 1) w.heap.size N gf lb encs T w) (a₁ : α → Act)
    (hassign : ∀ (l : Nat) (x : α) (W : World) (K : Act → World → Prop), K (a₁ x) W →
      assign.wpIn (Fence.wide.inRound l) (m - 1 - 1) P (Exit.then K (fun _ _ _ => False)) { tmps := (ps.zip (encs x)).foldl (fun t (p, v) => t.setIfInBounds p v) a.tmps, defers := [] } W)
    (hbody : ∀ (l k : Nat) (x : α) (W : World), I k W → T k x W → body.wpIn (Fence.wide.inRound l) (m - 1 - 1) P (roundEnd w.heap.size I Ix k W) (a₁ x) W)
    (hstop : ∀ (D : Nat) (c : Code) (W : World), w.heap.size ≤ D → Ix c W → W.heap[D]? = some (.deferred (some [])) → c.wpIn Fence.wide m P Q { a with defers := { target := .collected D, args := #[] } :: a.defers } W) :
    (Code.rangeFunc g ps assign body).wpIn Fence.wide m P Q a w := by
  refine wpIn_rangeFunc fun fn hfn => ?_
  obtain ⟨rc, hrc⟩ : ∃ rc : LoopState → Option Code → Loop, rc = fun st pe => { state := st, pending := pe, fn, tmps := a.tmps, params := ps, assign, body, defers := w.heap.size } := ⟨_, rfl⟩
  have hin := run_enterLoop_outer (P := P) (w := w) fn a.tmps ps assign body
  rw [show ({ state := .ready, pending := none, fn, tmps := a.tmps, params := ps, assign, body, defers := w.heap.size } : Loop) = rc .ready none by rw [hrc]] at hin
  obtain ⟨W1, hW1⟩ : ∃ W1, (w.alloc (.deferred (some []))).alloc (.loop (rc .ready none)) = W1 := ⟨_, rfl⟩
  have hL : W1.heap[w.heap.size + 1]? = some (.loop (rc .ready none)) := by
    have := World.alloc_heap_new (w.alloc (.deferred (some []))) (.loop (rc .ready none))
    rwa [World.size_alloc, hW1] at this
  have hD : W1.heap[w.heap.size]? = some (.deferred (some [])) := by
    rw [← hW1]; exact (Below.heap_alloc _ _ _ (by simp)).trans (World.alloc_heap_new w _)
  have hz : W1.heap.size = w.heap.size + 2 := by rw [← hW1]; simp
  have hb : Below w.heap.size w W1 := by rw [← hW1]; exact ((Below.refl _ w).alloc (Nat.le_refl _) _).alloc (by simp) _
  refine ⟨w.heap.size + 1, _, W1, { target := .fn (.func gf) lb, args := #[.func (.yield (w.heap.size + 1)) #[] #[]] }, W1, gf, #[.func (.yield (w.heap.size + 1)) #[] #[]] ++ lb, W1, hW1 ▸ hin, ?_, fun _ _ => trivial, ?_, fun h => (by simp [Fence.wide] at h), ?_⟩
  · simp only [resolve, hg]
    simp [go_sem]
  · simp [invoke, go_sem, eg]
  -- what the law keeps beside the caller's own word: its record, and the block for the rounds' deferred calls
  have keep : ∀ {A A' : World} {j : Nat} {o : Obj}, Below W1.heap.size A A' → j < w.heap.size + 2 → A.heap[j]? = some o → A'.heap[j]? = some o := fun h hj ho => (h.block _ (by omega)).trans ho
  refine (hseq (w.heap.size + 1) (fun k W => I k W ∧ W.heap[w.heap.size + 1]? = some (.loop (rc .ready none)) ∧ W.heap[w.heap.size]? = some (.deferred (some [])))
    (fun W => ∃ c, Ix c W ∧ W.heap[w.heap.size + 1]? = some (.loop (rc .done (some c))) ∧ W.heap[w.heap.size]? = some (.deferred (some []))) W1 hb
    (fun k A A' h hA => ⟨hI k A A' h.1 (hA.mono (by omega)), keep hA (by omega) h.2.1, keep hA (by omega) h.2.2⟩) (fun k A h => hN k A h.1) ?_ ⟨hI 0 _ _ h0 hb, hL, hD⟩).mono ?_
  · rintro k x W ⟨hi, hl, hd⟩ ht
    have hlt : w.heap.size + 1 < W.heap.size := (Array.getElem?_eq_some_iff.1 hl).1
    have hy := run_yield (P := P) (args := encs x) hl (by rw [hrc]; exact hps x)
    rw [hrc] at hy
    refine ⟨fn, _, assign, body, hy, roundIn_of_wpIn hfn (hassign _ x W _ ⟨_, run_beginRound hl (by rw [hrc]), ?_⟩)⟩
    obtain ⟨W2, hW2⟩ : ∃ W2, W.putObj (w.heap.size + 1) (.loop { rc .ready none with state := .busy }) = W2 := ⟨_, rfl⟩
    have hl2 : W2.heap[w.heap.size + 1]? = some (.loop { rc .ready none with state := .busy }) := hW2 ▸ World.putObj_heap_same hlt
    have hd2 : W2.heap[w.heap.size]? = some (.deferred (some [])) := hW2 ▸ (World.putObj_heap_other (by omega)).trans hd
    have hc2 : CellsFrom w.heap.size W W2 := hW2 ▸ cellsFrom_putObj _ hl rfl
    have hi2 : I k W2 := hI k W _ hi (hW2 ▸ below_putObj _ (by omega))
    have ht2 : T k x W2 := hW2 ▸ hT k x W _ _ _ ht hl
    rw [hW2]
    clear hW2 hy
    -- the record behind the round, by the way in which it ended
    have fin : ∀ (jump : Option Code) (W3 : World), AllFrom w.heap.size W2 W3 → ∃ W4, (Instr.endRound (w.heap.size + 1) jump).run P W3 = .ok (.bool jump.isNone) W4 ∧
        W4.heap[w.heap.size + 1]? = some (.loop (rc (if jump.isNone then .ready else .done) jump)) ∧ W4.heap[w.heap.size]? = some (.deferred (some [])) ∧ CellsFrom w.heap.size W W4 ∧ Below w.heap.size W3 W4 := fun jump W3 h3 => by
      have hl3 := h3.2 _ _ (by omega) hl2
      have hd3 := h3.2 _ _ (Nat.le_refl _) hd2
      have hr := run_endRound (P := P) jump hl3
      rw [hrc] at hr ⊢
      exact ⟨_, hr, World.putObj_heap_same (Array.getElem?_eq_some_iff.1 hl3).1, (World.putObj_heap_other (by omega)).trans hd3, (hc2.trans h3.cells).trans (cellsFrom_putObj _ hl3 rfl), below_putObj _ (by omega)⟩
    refine wpIn_mono (hbody _ k x W2 hi2 ht2) ?_
    rintro e a3 W3 hp
    cases e with
    | normal =>
      obtain ⟨h3, hi3⟩ := hp
      obtain ⟨W4, hr, hl4, hd4, hc4, hb4⟩ := fin none W3 h3
      exact ⟨_, _, hr, .inl ⟨rfl, ⟨hI _ _ _ hi3 hb4, hl4, hd4⟩, hc4⟩⟩
    | exit id =>
      obtain ⟨h3, hi3⟩ := hp
      obtain ⟨W4, hr, hl4, hd4, hc4, hb4⟩ := fin (some (.exit id)) W3 h3
      exact ⟨_, _, hr, .inr ⟨rfl, _, hIx _ _ _ hi3 hb4, hl4, hd4⟩⟩
    | ret =>
      obtain ⟨h3, hi3⟩ := hp
      obtain ⟨W4, hr, hl4, hd4, hc4, hb4⟩ := fin (some .ret) W3 h3
      exact ⟨_, _, hr, .inr ⟨rfl, _, hIx _ _ _ hi3 hb4, hl4, hd4⟩⟩
    | goto t => exact hp.elim
    | panic ch => exact hp.elim
    | outgrown => exact hp.elim
  · rintro e W2 ⟨⟨v, rfl⟩, c, hix, hl, hd⟩
    have hr := run_endLoop (P := P) hl (by rw [hrc]; simp)
    rw [hrc] at hr
    exact ⟨some c, _, hr, hstop _ c _ (Nat.le_refl _) (hIx _ _ _ hix (below_putObj _ (by omega))) ((World.putObj_heap_other (by omega)).trans hd)⟩

/-- A region that draws its order, at the wide fence, in an order of one's own. -/
theorem wpS_wide {P : Program} {Q : Exit → Act → World → Prop} {m : Nat} {l : List Oper} {id : Nat} {a : Act} {w w1 : World} (σ : List Nat) (hm : P.follows .mixedOrders = true) (hnd : noDefer l = true) (hlo : ¬ LetsOut Q) (hl : σ.length = l.length) (hw : w.drew = w1)
    (h : wpS P .any l Q σ (Array.replicate l.length false) a w1) : (Code.region id l.toArray true).wpIn Fence.wide m P Q a w := by
  subst hw
  refine region_wide hm hnd hlo (wpAny_of_mov _ _ _ _ ?_)
  unfold wpS at h
  rw [hl] at h
  simpa using h
end Go.Proofs.Ytdpmdlibgabjaaa
/-
  cipher.pieces hands out the pieces of the stream of a key and a number, from the first one on, for as long as they are asked for.
-/
namespace Go.Proofs.Ytdpmdlibgabjaaa
open Go.RowKit Go.Shelf
set_option maxRecDepth 100000
attribute [local go_sem] Oper.semAt_some

/-- Piece j of the stream of a key and a number; the first pieces. -/
def pieceW (k : List UInt8) (iv j : Nat) : List UInt8 := bytesW (fourW (k ++ leB 4 iv ++ leB 4 j)) 4
theorem pieceW_length (k : List UInt8) (iv j : Nat) : (pieceW k iv j).length = 16 := bytesW_length _ _
def piecesW (k : List UInt8) (iv : Nat) : Nat → List UInt8
  | 0 => []
  | m + 1 => piecesW k iv m ++ pieceW k iv m
theorem piecesW_length (k : List UInt8) (iv : Nat) : ∀ m, (piecesW k iv m).length = 16 * m
  | 0 => rfl
  | m + 1 => by rw [piecesW, List.length_append, piecesW_length k iv m, pieceW_length]; omega

theorem cput_any (n : Nat) (hn : n < 4294967296) (w : World) : Calls Try.prog 106 #[.int .u32 n] w (NewL 4 (leB 4 n) w) := by
  have h0 : (0 : Int) ≤ n := by omega
  have h1 : (n : Int) ≤ 4294967295 := by omega
  go_enter Try.func106, Try.ntmps106
  go_wp2_with fail
  refine (put_at n 4 4 rfl (by omega) (by omega) hn _).mono ?_
  rintro e w1 ⟨rfl, h2, b2, s2⟩
  have H2 := Lib.hid (bsl_of_holds (cap := 4) (leB_length 4 n) (Nat.le_refl _) (by unfold maxLen; omega) s2 h2)
  have HB := Lib.hid b2
  clear h2 b2
  go_wp2_with fail
  go_ret
  exact ⟨_, _, rfl, Nat.le_succ _, H2.out, HB.out⟩

theorem pieces_make (m : Nat) (a : Option Addr) (len cap : Nat) (iv : Int) (w : World) :
    CallsIn Fence.wide m Try.prog 101 #[.slice a len cap, .int .u32 iv] w fun e w' => e = .returned (.func (.func 105) #[] #[.pointer (some ⟨w.heap.size, 0, none⟩), .pointer (some ⟨w.heap.size + 1, 0, none⟩)]) ∧
      w' = (w.alloc (.cells #[.slice a len cap] 23)).alloc (.cells #[.int .u32 iv] 28) := by
  refine callsIn_of_wp Try.func101 rfl trivial ?_ rfl
  simp only [Try.ntmps101, List.size_toArray, List.length_cons, List.length_nil, Nat.reduceAdd, Nat.reduceSub, Array.replicate_succ, Array.replicate_zero, List.push_toArray, List.append_toArray, List.nil_append, List.cons_append]
  gi_wp2
  go_ret
  exact ⟨rfl, rfl⟩

theorem Bsl.cellsFrom {B : Nat} {W W' : World} {g len cap : Nat} {s : List UInt8} (h : Bsl W W.heap.size (some ⟨g, 0, none⟩) len cap s) (hc : CellsFrom B W W') (hg : B ≤ g) : Bsl W' W'.heap.size (some ⟨g, 0, none⟩) len cap s := by
  obtain ⟨h1, h2, h3, h4, h5⟩ := h
  refine ⟨h1, h2, h3, h4, fun h0 => ?_⟩
  obtain ⟨b, off, e, hb, hr⟩ := h5 h0
  cases e
  exact ⟨g, 0, rfl, Nat.lt_of_lt_of_le hb hc.1, fun i hi => hc.2 _ _ hg (hr i hi)⟩

/-- A piece as it is handed out. -/
@[reducible] def pv (x : Nat × Nat) : Array Value := #[.slice (some ⟨x.1, 0, none⟩) 16 x.2]

set_option linter.unusedSimpArgs false in
set_option maxHeartbeats 4000000 in
theorem pieces_in (m : Nat) (A : Option Addr) (cap : Nat) (k : List UInt8) (iv N B Bk Bi : Nat) (hiv : iv < 4294967296) (hN : N ≤ 100000) (w : World)
    (hk : w.cell? ⟨Bk, 0, none⟩ = some (.slice A 16 cap)) (hi : w.cell? ⟨Bi, 0, none⟩ = some (.int .u32 iv)) (hA : Bsl w w.heap.size A 16 cap k) (hB : B ≤ w.heap.size) :
    Endless Try.prog m B N 105 #[.pointer (some ⟨Bk, 0, none⟩), .pointer (some ⟨Bi, 0, none⟩)] pv (fun j x W => Bsl W W.heap.size (some ⟨x.1, 0, none⟩) 16 x.2 (pieceW k iv j)) w := by
  intro l J Jx W hW hJ hJN hY h0
  have hmx : Try.prog.follows Departure.mixedOrders = true := by kernel_rfl
  have hks : k.length = 16 := hA.1
  obtain ⟨W1, hW1⟩ : ∃ W1, W.drew = W1 := ⟨_, rfl⟩
  have b1 : Below W.heap.size W W1 := hW1 ▸ (Below.refl _ W).drew
  have hA1 : Bsl W1 W1.heap.size A 16 cap k := ((hA.below hW).more hW.size).step b1
  have hk1 := (((hW.trans (b1.mono hW.size))).cell (World.block_lt_of_cell? w _ hk)).trans hk
  have hi1 := (((hW.trans (b1.mono hW.size))).cell (World.block_lt_of_cell? w _ hi)).trans hi
  have CK := fun X (hX : Below W1.heap.size W1 X) => (hX.cell (World.block_lt_of_cell? W1 _ hk1)).trans hk1
  have CI := fun X (hX : Below W1.heap.size W1 X) => (hX.cell (World.block_lt_of_cell? W1 _ hi1)).trans hi1
  have hBW : B ≤ W.heap.size := Nat.le_trans hB hW.size
  have bw : Below W1.heap.size W1 W1 := Below.refl _ _
  have HJ := Lib.hid hJ; clear hJ
  have HJN := Lib.hid hJN; clear hJN
  have HY := Lib.hid hY; clear hY
  have H0 := Lib.hid h0; clear h0
  have HA1 := Lib.hid hA1; clear hA1
  have HKS := Lib.hid hks; clear hks
  have HW1 := Lib.hid hW1; clear hW1
  have HB1 := Lib.hid b1; clear b1
  have HBW := Lib.hid hBW; clear hBW
  clear hW hk hi hA hB hk1 hi1
  have i0 : (0 : Int) ≤ iv := by omega
  have i1 : (iv : Int) ≤ 4294967295 := by omega
  refine callsIn_of_wp Try.func105 rfl trivial ?_ rfl
  simp only [Try.ntmps105, List.size_toArray, List.length_cons, List.length_nil, Nat.reduceAdd, Nat.reduceSub, Array.replicate_succ, Array.replicate_zero, List.push_toArray, List.append_toArray, List.nil_append, List.cons_append]
  gi_wp2_with fail
  refine wpS_wide [0, 1, 2, 3, 4, 5] hmx (by kernel_rfl) (fun h => by obtain ⟨_, _, ⟨v, hv⟩, _⟩ := h; cases hv) rfl HW1.out ?_
  refine wpS_read (v := ?_) rfl (by kernel_rfl) (by kernel_rfl) (by kernel_rfl) (fun _ _ _ h => h) (.inl ⟨by rfl, ?_⟩) ?_
  rotate_left
  · intro X hX
    have hXa := hX _ bw
    go_simp
    with_reducible rfl
  try simp only [Act.put, List.setIfInBounds_toArray, List.set_cons_zero, List.set_cons_succ]
  refine wpS_read (v := ?_) rfl (by kernel_rfl) (by kernel_rfl) (by kernel_rfl) (fun _ _ _ h => h) (.inl ⟨by rfl, ?_⟩) ?_
  rotate_left
  · intro X hX
    have hXa := hX _ bw
    go_simp
    with_reducible rfl
  try simp only [Act.put, List.setIfInBounds_toArray, List.set_cons_zero, List.set_cons_succ]
  refine wpS_lone rfl (by kernel_rfl) (fun K hK => ?_)
  go_simp
  refine (cput_any iv hiv W1).mono ?_
  rintro e W2 ⟨g2, c2, rfl, _, hp2, b2⟩
  refine hK _ _ (Stays.of_below b2) ?_
  clear hK K
  have HA2 := Lib.hid (HA1.out.step b2)
  have HB2 := Lib.hid (HB1.out.trans (b2.mono HB1.out.size)); clear b2
  have cc : Calls Try.prog 74 #[.slice (some ⟨W2.heap.size, 0, none⟩) 2 2] (W2.alloc (.cells #[.slice A 16 cap, .slice (some ⟨g2, 0, none⟩) 4 c2] 23)) (NewL 20 (k ++ leB 4 iv) W2) := concat2 W2 _ _ _ _ _ _ _ _ HA2.out hp2 (by omega) (by omega)
  have HCC := Lib.hid cc; clear cc hp2
  try simp only [Act.put, List.setIfInBounds_toArray, List.set_cons_zero, List.set_cons_succ]
  refine wpS_lone rfl (by kernel_rfl) (fun K hK => ?_)
  go_simp
  refine hK _ _ (Stays.of_below ((Below.refl _ W2).alloc (Nat.le_refl _) _)) ?_
  clear hK K
  try simp only [Act.put, List.setIfInBounds_toArray, List.set_cons_zero, List.set_cons_succ]
  refine wpS_last rfl (by kernel_rfl) (by kernel_rfl) (fun K hK => ?_)
  go_simp
  refine HCC.out.mono ?_
  rintro e W3 ⟨ga, ca, rfl, hle, h3, b3⟩
  refine hK _ _ ?_
  clear hK K
  have HB3 := Lib.hid (HB2.out.trans (b3.mono HB2.out.size))
  have HL3 := Lib.hid (Nat.le_trans HB2.out.size hle)
  have HJ3 := Lib.hid (HJ.out _ _ _ H0.out HB3.out)
  have HZ3 := Lib.hid HB3.out.size
  have H3 := Lib.hid h3; clear h3 hle b3 HCC HA2 HB2 CK CI bw H0 HA1 HB1 HW1
  try simp only [Act.put, List.setIfInBounds_toArray, List.set_cons_zero, List.set_cons_succ]
  refine wpS_read (v := ?_) rfl (by kernel_rfl) (by kernel_rfl) (by kernel_rfl) (fun _ _ _ h => h) (.inl ⟨by rfl, ?_⟩) ?_
  rotate_left
  · intro X hX
    go_simp
    with_reducible rfl
  try simp only [Act.put, List.setIfInBounds_toArray, List.set_cons_zero, List.set_cons_succ]
  refine wpS_done (by kernel_rfl) ?_
  gi_wp2_with fail
  gi_loopw [5] (fun i wr => ∃ j : Nat, j < N ∧ i = .int .u32 j ∧ Hid (J j wr) ∧ Hid (Bsl wr wr.heap.size (some ⟨ga, 0, none⟩) 20 ca (k ++ leB 4 iv)) ∧ Hid (W.heap.size ≤ wr.heap.size)) (fun i _ => N - (intOf i).toNat)
  case atStart => exact ⟨0, HJN.out _ _ HJ3.out, rfl, HJ3, H3, HZ3⟩
  case round =>
    obtain ⟨j, hj, rfl, HJr, HHr, HZr⟩ := hrel
    have j0 : (0 : Int) ≤ j := by omega
    have j1 : (j : Int) ≤ 100000 := by omega
    gi_wp2_with fail
    refine ⟨trivial, fun h => (by simp [Fence.wide] at h), ?_⟩
    refine (callsIn_wide.2 (cput_any j (by omega) wr)).mono ?_
    rintro e W4 ⟨g4, c4, rfl, _, h4, b4⟩
    have HH4 := Lib.hid (HHr.out.step b4)
    have HJ4 := Lib.hid (HJ.out _ _ _ HJr.out (b4.mono HZr.out))
    have HZ4 := Lib.hid (Nat.le_trans HZr.out b4.size); clear b4 HJr HHr
    have cc : Calls Try.prog 74 #[.slice (some ⟨W4.heap.size, 0, none⟩) 2 2] (W4.alloc (.cells #[.slice (some ⟨ga, 0, none⟩) 20 ca, .slice (some ⟨g4, 0, none⟩) 4 c4] 23)) (NewL 24 (k ++ leB 4 iv ++ leB 4 j) W4) := concat2 W4 _ _ _ _ _ _ _ _ HH4.out h4 (by omega) (by omega)
    have HCC := Lib.hid cc; clear cc h4
    gi_wp2_with fail
    refine ⟨trivial, fun h => (by simp [Fence.wide] at h), ?_⟩
    refine (callsIn_wide.2 HCC.out).mono ?_
    rintro e W5 ⟨g5, c5, rfl, _, h5, b5⟩
    have HH5 := Lib.hid (HH4.out.step b5)
    have HJ5 := Lib.hid (HJ.out _ _ _ HJ4.out (b5.mono HZ4.out))
    have HZ5 := Lib.hid (Nat.le_trans HZ4.out b5.size); clear b5 HJ4 HH4 HCC
    have kk := key_any _ _ _ _ W5 h5 (by omega)
    have HK := Lib.hid kk; clear kk h5
    gi_wp2_with fail
    refine ⟨trivial, fun h => (by simp [Fence.wide] at h), ?_⟩
    refine (callsIn_wide.2 HK.out).mono ?_
    rintro e W6 h6
    obtain ⟨g6, c6, rfl, _, h6, b6⟩ := KeyPost.newL h6
    have HH6 := Lib.hid (HH5.out.step b6)
    have HJ6 := Lib.hid (HJ.out _ _ _ HJ5.out (b6.mono HZ5.out))
    have HZ6 := Lib.hid (Nat.le_trans HZ5.out b6.size); clear b6 HJ5 HH5 HK
    obtain ⟨fn, tmps, assign, body, hy, hR⟩ := HY.out j (g6, c6) W6 HJ6.out h6
    have HR := Lib.hid hR; clear hR h6 HJ6
    dsimp only [pv] at hy
    gi_wp2_with fail
    refine ⟨fun h => (by simp [Fence.wide] at h), ?_⟩
    refine HR.out.mono ?_
    rintro e W7 (⟨rfl, hJ7, hc7⟩ | ⟨rfl, hx7⟩)
    · have HJ7 := Lib.hid hJ7; clear hJ7
      have HC7 := Lib.hid hc7; clear hc7
      clear hy
      gi_wp2_with fail
      go_roundw
      case rel => exact ⟨j + 1, HJN.out _ _ HJ7.out, by go_num, HJ7, Lib.hid (HH6.out.cellsFrom HC7.out (Nat.le_trans HBW.out HL3.out)), Lib.hid (Nat.le_trans HZ6.out HC7.out.1)⟩
      case measure => simp [intOf]; omega
    · have HX7 := Lib.hid hx7; clear hx7 hy
      gi_wp2_with fail
      refine bodyPost_ret (results_none rfl _ _ _) rfl ?_
      exact ⟨⟨_, rfl⟩, HX7.out⟩
end Go.Proofs.Ytdpmdlibgabjaaa
/-
  cipher's stream, of a key, a number and a length that may be, is so many bytes of its pieces, in new memory; nothing that was there is written.
-/
namespace Go.Proofs.Ytdpmdlibgabjaaa
open Go.RowKit Go.Shelf
set_option maxRecDepth 100000
attribute [local go_sem] Oper.semAt_some

/-- The first n bytes of a stream. -/
def stW (k : List UInt8) (iv n : Nat) : List UInt8 := (piecesW k iv n).take n
theorem stW_length (k : List UInt8) (iv n : Nat) : (stW k iv n).length = n := by rw [stW, List.length_take, piecesW_length]; omega
theorem piecesW_more (k : List UInt8) (iv m : Nat) : ∀ d, ∃ r, piecesW k iv (m + d) = piecesW k iv m ++ r
  | 0 => ⟨[], by simp⟩
  | d + 1 => by
    obtain ⟨r, hr⟩ := piecesW_more k iv m d
    exact ⟨r ++ pieceW k iv (m + d), by rw [← Nat.add_assoc, piecesW, hr, List.append_assoc]⟩
theorem piecesW_take (k : List UInt8) (iv m n d : Nat) (h : n ≤ 16 * m) : (piecesW k iv (m + d)).take n = (piecesW k iv m).take n := by
  obtain ⟨r, hr⟩ := piecesW_more k iv m d
  rw [hr, List.take_append_of_le_length (by rw [piecesW_length]; exact h)]
theorem stW_of (k : List UInt8) (iv m n : Nat) (h : n ≤ 16 * m) : (piecesW k iv m).take n = stW k iv n := by
  rw [← piecesW_take k iv m n n h, Nat.add_comm, piecesW_take k iv n n m (by omega), stW]
/-- Fewer bytes begin more. -/
theorem stW_take (k : List UInt8) (iv f n : Nat) (h : f ≤ n) : (stW k iv n).take f = stW k iv f := by
  rw [stW, List.take_take, Nat.min_eq_left h, stW_of k iv n f (by omega)]

/-- What the loop keeps behind c bytes s. -/
def StI (g n : Nat) (w : World) (c : Nat) (s : List UInt8) (W : World) : Prop :=
  Blk W g 3 #[.int .i64 n] ∧ Blk W (g + 2) 23 #[.slice (some ⟨g + 1, 0, none⟩) c n] ∧ W.ownsRow g 5 1 (.slice (some ⟨g + 1, 0, none⟩) c n) c (vals s) ∧ Below g w W
theorem StI.below {g n : Nat} {w : World} {c : Nat} {s : List UInt8} {W W' : World} {B : Nat} (h : StI g n w c s W) (hb : Below B W W') (hB : g + 3 ≤ B) : StI g n w c s W' := by
  obtain ⟨h1, h2, h3, h4⟩ := h
  refine ⟨h1.below hb (by omega), h2.below hb (by omega), ?_, h4.trans (hb.mono (by omega))⟩
  obtain ⟨e1, ⟨e2, _⟩ | ⟨g', cap, cur, e3, e4, e5, e6⟩⟩ := h3
  · cases e2
  · cases e3
    exact ⟨e1, .inr ⟨g + 1, n, cur, rfl, e4, (hb.block _ (by omega)).trans e5, e6⟩⟩

theorem make_cap (n : Nat) (hn : n ≤ 4096) : ∃ cs : Array Value, cs.size = n ∧ ∀ W : World, (Instr.makeSlice 23 (.int .i64 0) (.int .i64 n)).run Try.prog W = .ok (.slice (some ⟨W.heap.size, 0, none⟩) 0 n) (W.alloc (.cells cs 5)) := by
  obtain ⟨i0, hi, hz0, hz1, hz2⟩ := info_parts infoU8
  refine ⟨madeCells (Value.int .u8 0).cells (n * i0.size), by rw [size_madeCells, hz1, Nat.mul_one], fun W => ?_⟩
  have hr := run_make (P := Try.prog) W 23 5 i0 (.int .u8 0) Try.underlying23 hi hz0 .i64 .i64 0 n (Int.le_refl _) (by omega) (by rw [hz2]; omega) (by omega)
  simpa using hr

set_option maxHeartbeats 4000000 in
theorem stream_in (m : Nat) (hm : 3 ≤ m) (A : Option Addr) (cap : Nat) (k : List UInt8) (iv n : Nat) (hiv : iv < 4294967296) (hn : n ≤ 4096) (w : World) (hA : Bsl w w.heap.size A 16 cap k) :
    CallsIn Fence.wide m Try.prog 90 #[.slice A 16 cap, .int .u32 iv, .int .i64 n] w fun e W' =>
      e = .returned (.slice (some ⟨w.heap.size + 1, 0, none⟩) n n) ∧ W'.ownsRow w.heap.size 5 1 (.slice (some ⟨w.heap.size + 1, 0, none⟩) n n) n (vals (stW k iv n)) ∧ Below w.heap.size w W' := by
  have hro : Fence.wide.round = none := rfl
  obtain ⟨cs, hcs, hmk⟩ := make_cap n hn
  have n0 : (0 : Int) ≤ n := by omega
  have n1 : (n : Int) ≤ 4096 := by omega
  have HA := Lib.hid hA; clear hA
  refine callsIn_of_wp_marks Try.func90 rfl trivial ?_ hro
  simp only [Try.ntmps90, List.size_toArray, List.length_cons, List.length_nil, Nat.reduceAdd, Nat.reduceSub, Array.replicate_succ, Array.replicate_zero, List.push_toArray, List.append_toArray, List.nil_append, List.cons_append]
  have hd : 1 ≤ m := by omega
  gi_wp2_with (refine ⟨trivial, ?_⟩; (gi_at_call 101; refine (pieces_make (m - 1) _ _ _ _ _).mono ?_; rintro e w' ⟨rfl, rfl⟩))
  obtain ⟨g, hg⟩ : ∃ g, w.heap.size = g := ⟨_, rfl⟩
  obtain ⟨W0, hW0⟩ : ∃ W0, (((((w.alloc (Obj.cells #[Value.int IntKind.i64 ↑n] 3)).alloc (Obj.cells cs 5)).alloc (Obj.cells #[Value.slice (some { block := w.heap.size + 1, off := 0 }) 0 n] 23)).alloc (Obj.cells #[Value.slice A 16 cap] 23)).alloc (Obj.cells #[Value.int IntKind.u32 ↑iv] 28)) = W0 := ⟨_, rfl⟩
  have hsz : W0.heap.size = g + 5 := by rw [← hW0]; simp [hg]
  have hB0 : Below g w W0 := by rw [← hW0, ← hg]; exact (((((Below.refl _ w).alloc (Nat.le_refl _) _).alloc (by simp) _).alloc (by simp; omega) _).alloc (by simp; omega) _).alloc (by simp; omega) _
  have x0 : Blk W0 g 3 #[.int .i64 n] := by rw [← hW0, ← hg]; exact ((((Blk.new w _ _).alloc _).alloc _).alloc _).alloc _
  have x1 : Blk W0 (g + 1) 5 cs := by
    have := (((Blk.new (w.alloc (Obj.cells #[Value.int IntKind.i64 ↑n] 3)) 5 cs).alloc (Obj.cells #[Value.slice (some { block := w.heap.size + 1, off := 0 }) 0 n] 23)).alloc (Obj.cells #[Value.slice A 16 cap] 23)).alloc (Obj.cells #[Value.int IntKind.u32 ↑iv] 28)
    rwa [World.size_alloc, hW0, hg] at this
  have x2 : Blk W0 (g + 2) 23 #[.slice (some ⟨g + 1, 0, none⟩) 0 n] := by
    have := ((Blk.new ((w.alloc (Obj.cells #[Value.int IntKind.i64 ↑n] 3)).alloc (Obj.cells cs 5)) 23 #[Value.slice (some { block := w.heap.size + 1, off := 0 }) 0 n]).alloc (Obj.cells #[Value.slice A 16 cap] 23)).alloc (Obj.cells #[Value.int IntKind.u32 ↑iv] 28)
    rwa [World.size_alloc, World.size_alloc, hW0, hg] at this
  have x3 : Blk W0 (g + 3) 23 #[.slice A 16 cap] := by
    have := (Blk.new (((w.alloc (Obj.cells #[Value.int IntKind.i64 ↑n] 3)).alloc (Obj.cells cs 5)).alloc (Obj.cells #[Value.slice (some { block := w.heap.size + 1, off := 0 }) 0 n] 23)) 23 #[Value.slice A 16 cap]).alloc (Obj.cells #[Value.int IntKind.u32 ↑iv] 28)
    rwa [World.size_alloc, World.size_alloc, World.size_alloc, hW0, hg] at this
  have x4 : Blk W0 (g + 4) 28 #[.int .u32 iv] := by
    have := Blk.new ((((w.alloc (Obj.cells #[Value.int IntKind.i64 ↑n] 3)).alloc (Obj.cells cs 5)).alloc (Obj.cells #[Value.slice (some { block := w.heap.size + 1, off := 0 }) 0 n] 23)).alloc (Obj.cells #[Value.slice A 16 cap] 23)) 28 #[Value.int IntKind.u32 ↑iv]
    rwa [World.size_alloc, World.size_alloc, World.size_alloc, World.size_alloc, hW0, hg] at this
  have hA0 : Bsl W0 W0.heap.size A 16 cap k := (HA.out.below (hg ▸ hB0)).more hB0.size
  have i0 : StI g n w 0 [] W0 := ⟨x0, x2, ⟨rfl, .inr ⟨g + 1, n, cs, rfl, by omega, x1, Nat.zero_le _, by unfold maxLen; omega, by omega, rfl⟩⟩, hB0⟩
  have hseq := pieces_in (m - 1) A cap k iv (n / 16 + 1) W0.heap.size (g + 3) (g + 4) hiv (by omega) W0 (x3.cell 0) (x4.cell 0) hA0 (Nat.le_refl _)
  rw [hW0, hg]
  clear hW0 x0 x1 x2 x3 x4 hB0 hmk hcs hA0 HA
  refine range_endless (gf := 105) (lb := #[.pointer (some ⟨g + 3, 0, none⟩), .pointer (some ⟨g + 4, 0, none⟩)]) rfl (enters_of Try.func105 (by kernel_rfl) rfl) pv (fun _ => rfl)
    (fun j x W => Bsl W W.heap.size (some ⟨x.1, 0, none⟩) 16 x.2 (pieceW k iv j)) ?hT (n / 16 + 1) (fun j W => (16 * j < n ∨ j = 0) ∧ StI g n w (16 * j) (piecesW k iv j) W) (fun c W => c = .exit 0 ∧ StI g n w n (stW k iv n) W) ?hI ?hIx ?hN ⟨.inr rfl, i0⟩ hseq
    (fun x => { tmps := #[Value.slice A 16 cap, Value.int IntKind.u32 ↑iv, Value.int IntKind.i64 ↑n, undef, undef,
          Value.pointer (some { block := g, off := 0 }), Value.slice none 0 0,
          Value.pointer (some { block := g + 1 + 1, off := 0 }), Value.slice (some ⟨x.1, 0, none⟩) 16 x.2, Value.int IntKind.i64 ↑n,
          Value.slice (some { block := g + 1, off := 0 }) 0 n, Value.slice A 16 cap,
          Value.int IntKind.u32 ↑iv,
          Value.func (Fn.func 105) #[]
            #[Value.pointer (some { block := g + 1 + 1 + 1, off := 0 }),
              Value.pointer (some { block := g + 1 + 1 + 1 + 1, off := 0 })],
          Value.slice (some ⟨x.1, 0, none⟩) 16 x.2, undef, undef, undef, undef, undef, undef, undef, undef, undef, undef, undef, undef, undef, undef,
          undef, undef], defers := [] }) ?assign ?body ?stop
  case hT =>
    intro j x W l r o' h hl
    exact h.cellsFrom (cellsFrom_putObj (B := 0) o' hl rfl) (Nat.zero_le _)
  case hI =>
    rintro j X Y ⟨h1, h2⟩ hb
    exact ⟨h1, h2.below hb (by omega)⟩
  case hIx =>
    rintro c X Y ⟨h1, h2⟩ hb
    exact ⟨h1, h2.below hb (by omega)⟩
  case hN =>
    rintro j X ⟨h1, _⟩
    omega
  case assign =>
    intro l x W K hK
    gi_wp2
    exact hK
  case body =>
    rintro l j ⟨p, c⟩ W ⟨hjn, hn0, hb0, hr0, hB⟩ hT
    have hmx : Try.prog.follows Departure.mixedOrders = true := by kernel_rfl
    obtain ⟨i0', hi, hz0, hz1, hz2⟩ := info_parts infoU8
    obtain ⟨L, hL⟩ : ∃ L, 16 * j = L := ⟨_, rfl⟩
    rw [hL] at hb0 hr0 hjn
    have hLn : L ≤ n := by omega
    obtain ⟨mm, hmm⟩ : ∃ mm : Nat, min 16 (n - L) = mm := ⟨_, rfl⟩
    have hmin : min (16 : Int) ((n : Int) - L) = (mm : Int) := by omega
    have hwr : IntKind.i64.wrap ((n : Int) - (L : Int)) = (n : Int) - L := by rw [IntKind.wrap_i64]; omega
    have hc16 : mm ≤ c := by have := hT.2.1; dsimp only at this; omega
    have hto := fun W => slice_to W (some ⟨p, 0, none⟩) 16 c mm hc16
    obtain ⟨M, hM⟩ : ∃ M, L + mm = M := ⟨_, rfl⟩
    have hMn : M ≤ n := by omega
    have hnx : vals (piecesW k iv j) ++ vals ((pieceW k iv j).take mm) = vals (if M = n then stW k iv n else piecesW k iv (j + 1)) := by
      rw [vals_append]
      congr 1
      have e1 : piecesW k iv j ++ (pieceW k iv j).take mm = (piecesW k iv (j + 1)).take M := by
        have e2 : M - 16 * j = mm := by omega
        rw [piecesW, List.take_append, piecesW_length, List.take_of_length_le (l := piecesW k iv j) (by rw [piecesW_length]; omega), e2]
      rw [e1]
      by_cases h : M = n
      · rw [if_pos h, h, stW_of k iv (j + 1) n (by omega)]
      · rw [if_neg h, List.take_of_length_le (by rw [piecesW_length]; omega)]
    obtain ⟨w2, hrun, ho2, hg2⟩ := run_append_fits (P := Try.prog) W.drew g 23 23 5 i0' 1 Try.underlying23 hi hz1 (g + 1) L n (vals (piecesW k iv j)) hr0 ⟨p, 0, none⟩ mm c (vals ((pieceW k iv j).take mm))
      (by simp [vals, pieceW_length]; omega) (fun t u hu => by
        obtain ⟨ht, rfl⟩ := vals_get hu
        obtain ⟨b, o, e, _, hc⟩ := hT.2.2.2.2 (by omega)
        cases e
        have ht' : t < (pieceW k iv j).length := by rw [List.length_take] at ht; omega
        have := hc t ht'
        rw [Nat.zero_add] at this
        have e1 : (⟨p, 0, none⟩ : Addr).add t = ⟨p, t, none⟩ := by unfold Addr.add; split <;> simp_all
        rw [e1, List.getElem_take]
        exact this) (fun u hu => by obtain ⟨y, _, rfl⟩ := List.mem_map.1 hu; rfl) (by omega)
    rw [hM, hnx] at ho2
    rw [hM] at hrun
    have c0 : W.cell? ⟨g, 0, none⟩ = some (.int .i64 n) := hn0.cell 0
    have c2 : W.cell? ⟨g + 1 + 1, 0, none⟩ = some (.slice (some ⟨g + 1, 0, none⟩) L n) := hb0.cell 0
    have k0 : Blk w2 g 3 #[.int .i64 n] := hn0.drew.grown hg2 (by simp)
    have k2 : Blk w2 (g + 2) 23 #[.slice (some ⟨g + 1, 0, none⟩) L n] := hb0.drew.grown hg2 (by simp)
    have d0 : w2.cell? ⟨g, 0, none⟩ = some (.int .i64 n) := k0.cell 0
    have d2 : w2.cell? ⟨g + 1 + 1, 0, none⟩ = some (.slice (some ⟨g + 1, 0, none⟩) L n) := k2.cell 0
    have f2 : w2.frozen? ⟨g + 1 + 1, 0, none⟩ = false := k2.frozen 0
    have ox : StI g n w M (if M = n then stW k iv n else piecesW k iv (j + 1)) (w2.setCell ⟨g + 2, 0, none⟩ (.slice (some ⟨g + 1, 0, none⟩) M n)) := by
      refine ⟨k0.far (by simp) _, k2.set_ 0 _, ?_, (hB.drew.grown hg2 (by have := hB.size; simp; omega) (fun k e => by cases e; omega)).setCell (p := ⟨g + 2, 0, none⟩) (by simp) _⟩
      obtain ⟨e1, ⟨e2, _⟩ | ⟨g', cap', cur, e3, e4, e5, e6⟩⟩ := ho2
      · cases e2
      · cases e3
        exact ⟨e1, .inr ⟨g + 1, n, cur, rfl, e4, (Below.heap_setCell w2 ⟨g + 2, 0, none⟩ _ (g + 1) (by simp)).trans e5, e6⟩⟩
    have oa : AllFrom W0.heap.size W (w2.setCell ⟨g + 2, 0, none⟩ (.slice (some ⟨g + 1, 0, none⟩) M n)) := by
      refine ⟨by simpa [World.setCell] using hg2.size, fun k o hk ho => ?_⟩
      exact (Below.heap_setCell w2 ⟨g + 2, 0, none⟩ _ k (by simp; omega)).trans ((hg2.block k (Array.getElem?_eq_some_iff.1 ho).1 (by simp; omega)).trans ho)
    have OX := Lib.hid ox; clear ox
    have OA := Lib.hid oa; clear oa
    clear hn0 hb0 hr0 hB hT k0 k2 ho2 hg2 hnx
    have HL := Lib.hid hL; clear hL
    have HM := Lib.hid hM; clear hM
    have HMM := Lib.hid hmm; clear hmm
    have HJN := Lib.hid hjn; clear hjn
    have q1 : (L : Int) ≤ n := by omega
    have q2 : (0 : Int) ≤ L := by omega
    dsimp only
    gi_wp2_with fail
    refine region_round_tail 10 hmx (by kernel_rfl) (fun h => by obtain ⟨_, _, h⟩ := h; exact h) (by kernel_rfl) ?_
    simp only [List.take_succ_cons, List.take_zero, List.drop_succ_cons, List.drop_zero]
    repeat still_step
    refine wpStill_nil ?_
    by_cases hMn2 : M = n
    · have hq : ((M : Int) == (n : Int)) = true := by simp; omega
      rw [if_pos hMn2] at OX
      go_wp2_with (at_builtin; refine Lib.wpList_append_run _ rfl (.tmp 15) (.tmp 24) _ _ rfl _ _ rfl rfl _ _ hrun ?_)
      gi_wp2_with fail
      rw [hMn2] at OX OA
      exact ⟨OA.out, rfl, OX.out⟩
    · have hq : ((M : Int) == (n : Int)) = false := by simp; omega
      rw [if_neg hMn2] at OX
      go_wp2_with (at_builtin; refine Lib.wpList_append_run _ rfl (.tmp 15) (.tmp 24) _ _ rfl _ _ rfl rfl _ _ hrun ?_)
      gi_wp2_with fail
      have e1 : 16 * (j + 1) = M := by have := HL.out; have := HM.out; have := HMM.out; omega
      refine ⟨OA.out, ?_⟩
      show (16 * (j + 1) < n ∨ j + 1 = 0) ∧ StI g n w (16 * (j + 1)) (piecesW k iv (j + 1)) _
      rw [e1]
      exact ⟨.inl (by omega), OX.out⟩
  case stop =>
    rintro D c W hD ⟨rfl, hn0, hb0, hr0, hB⟩ hK
    have c2 : W.cell? ⟨g + 1 + 1, 0, none⟩ = some (.slice (some ⟨g + 1, 0, none⟩) n n) := hb0.cell 0
    have HR := Lib.hid hr0; clear hr0
    have HB := Lib.hid hB; clear hB
    have HK := Lib.hid hK; clear hK
    clear hn0 hb0
    have HG := Lib.hid hg; clear hg
    gi_wp2_with fail
    refine ⟨by simp, .inl ⟨_, _, rfl, run_takeDeferred HK.out, ?_⟩⟩
    have hD' : D ≠ g + 1 := by omega
    have hDg : g ≤ D := by omega
    refine ⟨.slice (some ⟨g + 1, 0, none⟩) n n, by simp [results, Try.f90, go_sem], ?_, ?_, ?_⟩
    · rw [HG.out]
    · rw [HG.out]
      exact HR.out.kept (grownBy_putObj' W D _) (.inr (by simp [Value.ownBlock]; omega))
    · rw [HG.out]
      exact HB.out.trans (below_putObj _ hDg)
end Go.Proofs.Ytdpmdlibgabjaaa
/-
  A row of the call's own that holds a text, and is written byte by byte.
-/
namespace Go.Proofs.Ytdpmdlibgabjaaa
open Go.RowKit Go.Shelf
set_option maxRecDepth 100000

/-- A row of the call's own that holds a text. -/
def RowI (W : World) (g len cap : Nat) (t : List UInt8) : Prop := ∃ cur : Array Value, Blk W g 5 cur ∧ cur.size = cap ∧ t.length = len ∧ len ≤ cap ∧ cur.toList.take len = vals t
theorem RowI.get {W : World} {g len cap : Nat} {t : List UInt8} (h : RowI W g len cap t) {j : Nat} (hj : j < len) : ∃ u, W.cell? ⟨g, j, none⟩ = some u := by
  obtain ⟨cur, hb, hs, _, hl, _⟩ := h
  rw [hb.cell j]
  exact ⟨_, Array.getElem?_eq_getElem (by omega)⟩
theorem RowI.holds {W : World} {g len cap : Nat} {t : List UInt8} (h : RowI W g len cap t) : Holds W g t := by
  obtain ⟨cur, hb, hs, ht, hl, hc⟩ := h
  intro i hi
  rw [hb.cell i]
  have : (vals t)[i]? = some (.int .u8 ((t[i]).toNat : Int)) := by simp [vals, hi]
  rw [← hc, List.getElem?_take_of_lt (by omega)] at this
  rw [← this, Array.getElem?_toList]
theorem RowI.set_ {W : World} {g len cap : Nat} {t : List UInt8} (h : RowI W g len cap t) {j : Nat} (_hj : j < len) (y : UInt8) : RowI (W.setCell ⟨g, j, none⟩ (.int .u8 (y.toNat : Int))) g len cap (t.set j y) := by
  obtain ⟨cur, hb, hs, ht, hl, hc⟩ := h
  refine ⟨_, hb.set_ j _, by simpa using hs, by rw [List.length_set]; exact ht, hl, ?_⟩
  rw [Array.toList_setIfInBounds, List.take_set, hc, vals, vals, List.map_set]
theorem RowI.below {W W1 : World} {g len cap B : Nat} {t : List UInt8} (h : RowI W g len cap t) (hb : Below B W W1) (hg : g < B) : RowI W1 g len cap t := by
  obtain ⟨cur, h1, h2⟩ := h
  exact ⟨cur, h1.below hb hg, h2⟩
theorem rowI_of_own {w : World} {base n : Nat} {v : Value} {s : List UInt8} (h : w.ownsRow base 5 1 v n (vals s)) (hn : 0 < n) :
    ∃ g cap, v = .slice (some ⟨g, 0, none⟩) n cap ∧ base ≤ g ∧ g < w.heap.size ∧ cap ≤ maxLen ∧ RowI w g n cap s := by
  have hl : s.length = n := by have := h.1; simpa [vals] using this
  obtain ⟨h1, h2 | ⟨g, cap, cur, rfl, hb, hh, hnc, hcm, hsz, ht⟩⟩ := h
  · omega
  · exact ⟨g, cap, rfl, hb, (Array.getElem?_eq_some_iff.1 hh).1, hcm, cur, hh, by omega, hl, hnc, by simpa using ht⟩
end Go.Proofs.Ytdpmdlibgabjaaa
/-
  cipher.Stream and cipher.Turn, whatever they are handed, answer the stream, or the bytes turned by it, or the error that is due; the answer is new memory; nothing that was there is written.
-/
namespace Go.Proofs.Ytdpmdlibgabjaaa
open Go.RowKit Go.Shelf
set_option maxRecDepth 100000

/-- A list in new memory, and an error's number. -/
def Out (c : Int) (n : Nat) (s : List UInt8) (w : World) (e : Ending) (w' : World) : Prop :=
  ∃ a cap, e = .returned (.tuple #[.slice a n cap, .int .i64 c]) ∧ w'.ownsRow w.heap.size 5 1 (.slice a n cap) n (vals s) ∧ Below w.heap.size w w'
theorem out_err (c : Int) (w : World) : Out c 0 [] w (.returned (.tuple #[.slice none 0 0, .int .i64 c])) w := ⟨none, 0, rfl, own_nil _ _, Below.refl _ _⟩
theorem rowI_of {w : World} {B g n cap : Nat} {s : List UInt8} (h : w.ownsRow B 5 1 (.slice (some ⟨g, 0, none⟩) n cap) n (vals s)) : RowI w g n cap s ∧ B ≤ g ∧ cap ≤ maxLen := by
  have hl : s.length = n := by have := h.1; simpa [vals] using this
  obtain ⟨h1, ⟨h2, h3⟩ | ⟨g, cap', cur, h2, hb, hh, hnc, hcm, hsz, ht⟩⟩ := h
  · cases h2
  · cases h2
    exact ⟨⟨cur, hh, by omega, hl, hnc, by simpa using ht⟩, hb, hcm⟩
theorem rowI_own {w : World} {B g n cap : Nat} {s : List UInt8} (h : RowI w g n cap s) (hB : B ≤ g) (hc : cap ≤ maxLen) : w.ownsRow B 5 1 (.slice (some ⟨g, 0, none⟩) n cap) n (vals s) := by
  obtain ⟨cur, h1, h2, h3, h4, h5⟩ := h
  exact ⟨by simp [vals, h3], .inr ⟨g, cap, cur, rfl, hB, h1, h4, hc, by omega, by simpa using h5⟩⟩

theorem isKey_yes (a : Option Addr) (cap : Nat) (w : World) : Calls Try.prog 89 #[.slice a 16 cap] w fun e w' => e = .returned (.bool true) ∧ w = w' := by
  go_enter Try.func89, Try.ntmps89
  go_wp2_with fail
  go_ret
  exact ⟨rfl, rfl⟩
theorem isKey_no (a : Option Addr) (len cap : Nat) (h : len ≠ 16) (w : World) : Calls Try.prog 89 #[.slice a len cap] w fun e w' => e = .returned (.bool false) ∧ w = w' := by
  have h1 : ((len : Int) == 16) = false := by simp; omega
  go_enter Try.func89, Try.ntmps89
  go_wp2_with fail
  go_ret
  exact ⟨rfl, rfl⟩

theorem stream_any (A : Option Addr) (cap : Nat) (k : List UInt8) (iv n : Nat) (hiv : iv < 4294967296) (hn : n ≤ 4096) (w : World) (hA : Bsl w w.heap.size A 16 cap k) :
    Calls Try.prog 90 #[.slice A 16 cap, .int .u32 iv, .int .i64 n] w fun e W' =>
      e = .returned (.slice (some ⟨w.heap.size + 1, 0, none⟩) n n) ∧ W'.ownsRow w.heap.size 5 1 (.slice (some ⟨w.heap.size + 1, 0, none⟩) n n) n (vals (stW k iv n)) ∧ Below w.heap.size w W' :=
  callsIn_wide.1 (stream_in 3 (Nat.le_refl _) A cap k iv n hiv hn w hA)


/-- Bytes turned by a stream. -/
def turnW' (k : List UInt8) (iv : Nat) (b : List UInt8) : List UInt8 := List.zipWith (· ^^^ ·) (stW k iv b.length) b
theorem turnW'_length (k : List UInt8) (iv : Nat) (b : List UInt8) : (turnW' k iv b).length = b.length := by simp [turnW', stW_length]
theorem turnW'_get (k : List UInt8) (iv : Nat) (b : List UInt8) (i : Nat) (h : i < b.length) : (turnW' k iv b)[i]'(by rw [turnW'_length]; exact h) = (stW k iv b.length)[i]'(by rw [stW_length]; exact h) ^^^ b[i] := by simp [turnW']
theorem xorTo_turn (k : List UInt8) (iv : Nat) (b : List UInt8) : xorTo (stW k iv b.length) b b.length = turnW' k iv b := by
  apply List.ext_getElem
  · rw [xorTo_length, stW_length, turnW'_length]
  · intro i h1 h2
    rw [turnW'_length] at h2
    have hs : i < (stW k iv b.length).length := by rw [stW_length]; exact h2
    have h := xorTo_get (stW k iv b.length) b b.length i hs
    rw [if_pos h2] at h
    have e1 : (xorTo (stW k iv b.length) b b.length).getD i 0 = (xorTo (stW k iv b.length) b b.length)[i]'h1 := by rw [List.getD_eq_getElem?_getD, List.getElem?_eq_getElem h1]; rfl
    rw [← e1, h, turnW'_get k iv b i h2, List.getD_eq_getElem?_getD, List.getD_eq_getElem?_getD, List.getElem?_eq_getElem hs, List.getElem?_eq_getElem h2]
    rfl

theorem Turn_key (a : Option Addr) (len cap : Nat) (h : len ≠ 16) (v u : Value) (w : World) : Calls Try.prog 72 #[.slice a len cap, v, u] w (Out 2 0 [] w) := by
  go_enter Try.func72, Try.ntmps72
  go_wp2_with (go_at_call 89; refine (isKey_no _ _ _ h _).mono ?_; rintro e w' ⟨rfl, rfl⟩)
  go_ret2
  exact out_err 2 _
theorem Turn_far (a : Option Addr) (cap : Nat) (v : Value) (b : Option Addr) (len capb : Nat) (h : 4096 < len) (w : World) : Calls Try.prog 72 #[.slice a 16 cap, v, .slice b len capb] w (Out 3 0 [] w) := by
  have h0 : (4096 : Int) < len := by omega
  go_enter Try.func72, Try.ntmps72
  go_wp2_with (go_at_call 89; refine (isKey_yes _ _ _).mono ?_; rintro e w' ⟨rfl, rfl⟩)
  go_ret2
  exact out_err 3 _

set_option maxHeartbeats 2000000 in
theorem Turn_ok (A : Option Addr) (cap : Nat) (k : List UInt8) (iv : Nat) (hiv : iv < 4294967296) (b : Option Addr) (len capb : Nat) (s : List UInt8) (hn : len ≤ 4096) (w : World) (hA : Bsl w w.heap.size A 16 cap k) (hS : Bsl w w.heap.size b len capb s) :
    Calls Try.prog 72 #[.slice A 16 cap, .int .u32 iv, .slice b len capb] w (Out 0 len (turnW' k iv s) w) := by
  have h0 : (0 : Int) ≤ len := by omega
  have h1 : (len : Int) ≤ 4096 := by omega
  have hl := hS.1
  have hx := xorTo_turn k iv s
  rw [hl] at hx
  have HS := Lib.hid (stream_any A cap k iv len hiv hn w hA)
  clear hA
  obtain ⟨st, hst⟩ : ∃ st, stW k iv len = st := ⟨_, rfl⟩
  have hsl : st.length = len := by rw [← hst]; exact stW_length _ _ _
  rw [hst] at HS hx
  have HX := Lib.hid hx; clear hx hst
  have HSL := Lib.hid hsl; clear hsl
  have HBS := Lib.hid hS; clear hS
  have HL := Lib.hid hl; clear hl
  obtain ⟨g, hg⟩ : ∃ g, w.heap.size = g := ⟨_, rfl⟩
  rw [hg] at HS
  have HG := Lib.hid hg; clear hg
  go_enter Try.func72, Try.ntmps72
  go_wp2_with (go_at_call 89; refine (isKey_yes _ _ _).mono ?_; rintro e w' ⟨rfl, rfl⟩)
  refine HS.out.mono ?_
  rintro e w1 ⟨rfl, ho, hb⟩
  obtain ⟨hr, hgg, hcm⟩ := rowI_of ho
  have HR := Lib.hid hr; clear hr ho
  have HB := Lib.hid hb; clear hb
  have HCM := Lib.hid hcm; clear hcm
  go_wp2_with fail
  go_loopw [24] (fun i wr => ∃ j : Nat, j ≤ len ∧ i = .int .i64 j ∧ Hid (RowI wr (g + 1) len len (xorTo st s j)) ∧ Hid (Below g w wr)) (fun i _ => len - (intOf i).toNat)
  case atStart => exact ⟨0, Nat.zero_le _, rfl, HR, HB⟩
  case round =>
    obtain ⟨j, hj, rfl, HRr, HBr⟩ := hrel
    by_cases hlt : j < len
    · have j0 : (0 : Int) ≤ j := by omega
      have j1 : (j : Int) < len := by omega
      obtain ⟨bb, bo, rfl, _, _⟩ := HBS.out.2.2.2.2 (by omega)
      have cm := (HBS.out.below (HG.out ▸ HBr.out)).cellD j hlt
      have hsl : j < st.length := by rw [HSL.out]; exact hlt
      have hxl : j < (xorTo st s j).length := by rw [xorTo_length]; exact hsl
      have ck := HRr.out.holds j hxl
      have hxg := xorTo_get st s j j hsl
      rw [if_neg (Nat.lt_irrefl j)] at hxg
      have e1 : (xorTo st s j)[j] = st.getD j 0 := by rw [← hxg, List.getD_eq_getElem?_getD, List.getElem?_eq_getElem hxl]; rfl
      rw [e1] at ck
      have fk : wr.frozen? ⟨g + 1, j, none⟩ = false := by obtain ⟨cur, hc, _⟩ := HRr.out; exact hc.frozen j
      have xr := xor8 (st.getD j 0) (s.getD j 0)
      have nx := HRr.out.set_ hlt (st.getD j 0 ^^^ s.getD j 0)
      have HNX := Lib.hid (show RowI _ (g + 1) len len (xorTo st s (j + 1)) from nx); clear nx
      have HBX := Lib.hid (HBr.out.setCell (p := ⟨g + 1, j, none⟩) (by simp) (.int .u8 ((st.getD j 0 ^^^ s.getD j 0).toNat : Int)))
      obtain ⟨x, hx⟩ : ∃ x, st.getD j 0 = x := ⟨_, rfl⟩
      obtain ⟨y, hy⟩ : ∃ y, s.getD j 0 = y := ⟨_, rfl⟩
      rw [hx] at ck xr HNX HBX
      rw [hy] at cm xr HNX HBX
      clear hx hy hxg e1 hxl hsl HRr HBr HR HB
      go_wp2_with fail
      go_roundw
      case rel => exact ⟨j + 1, by omega, by go_num, HNX, HBX⟩
      case measure => simp [intOf]; omega
    · obtain rfl : j = len := by omega
      go_wp2_with fail
      go_ret2
      rw [HX.out] at HRr
      exact ⟨_, _, rfl, rowI_own HRr.out (by rw [HG.out]; omega) HCM.out, HG.out ▸ HBr.out⟩
end Go.Proofs.Ytdpmdlibgabjaaa
/-
  mac.Tag, whatever key and bytes it is handed, answers the tag of the bytes by the key, or that the key is none; nothing that was there is written.
-/
namespace Go.Proofs.Ytdpmdlibgabjaaa
open Go.RowKit Go.Shelf
set_option maxRecDepth 100000

set_option maxHeartbeats 1000000 in
theorem sumKey_any (r c : Nat) (ps : List Part) (w : World) (hr : r < w.heap.size) (hl : ps.length ≤ 1000) (hc : ps.length ≤ c)
    (hcell : ∀ i (h : i < ps.length), w.cell? ⟨r, i, none⟩ = some (.slice (ps[i]).a (ps[i]).len (ps[i]).cap)) (hb : ∀ i (h : i < ps.length), Bsl w w.heap.size (ps[i]).a (ps[i]).len (ps[i]).cap (ps[i]).s)
    (h0 : 0 < (flat ps).length) (hm : (flat ps).length ≤ 100000) :
    Calls Try.prog 91 #[.func (.func 92) #[] #[], .slice (some ⟨r, 0, none⟩) ps.length c] w (KeyPost (fourW (flat ps)) w) := by
  have hcc := concat_any r c ps w hr hl hc hcell hb h0 hm
  have HCC := Lib.hid hcc; clear hcc hcell hb
  obtain ⟨t, ht⟩ : ∃ t, flat ps = t := ⟨_, rfl⟩
  rw [ht] at HCC hm h0 ⊢
  clear ht
  have HM := Lib.hid hm; clear hm
  have H0 := Lib.hid h0; clear h0
  go_enter Try.func91, Try.ntmps91
  go_wp2_with fail
  refine HCC.out.mono ?_
  rintro e w1 ⟨g, cap, rfl, h1, h2, h3, h4, hh, b1⟩
  have hk := key_any (some ⟨g, 0, none⟩) t.length cap t w1 ⟨rfl, h3, h4, fun e => (by cases e), fun _ => ⟨g, 0, rfl, h2, fun i hi => by rw [Nat.zero_add]; exact hh i hi⟩⟩ (by have := HM.out; omega)
  have HK := Lib.hid hk; clear hk hh
  have HB := Lib.hid b1; clear b1
  go_wp2_with fail
  refine HK.out.mono ?_
  rintro e w2 ⟨g2, cap2, rfl, k1, k2, k3, k4, kh, b2⟩
  have hb2 := HB.out.trans (b2.mono HB.out.size)
  have HB2 := Lib.hid hb2; clear hb2 b2
  have HH := Lib.hid kh; clear kh
  go_wp2_with fail
  go_ret
  exact ⟨g2, cap2, rfl, Nat.le_trans HB.out.size k1, k2, k3, k4, HH.out, HB2.out⟩

set_option maxHeartbeats 1000000 in
theorem sumSum_any (r c : Nat) (ps : List Part) (w : World) (hr : r < w.heap.size) (hl : ps.length ≤ 1000) (hc : ps.length ≤ c)
    (hcell : ∀ i (h : i < ps.length), w.cell? ⟨r, i, none⟩ = some (.slice (ps[i]).a (ps[i]).len (ps[i]).cap)) (hb : ∀ i (h : i < ps.length), Bsl w w.heap.size (ps[i]).a (ps[i]).len (ps[i]).cap (ps[i]).s)
    (h0 : 0 < (flat ps).length) (hm : (flat ps).length ≤ 100000) :
    Calls Try.prog 93 #[.func (.func 15) #[] #[], .slice (some ⟨r, 0, none⟩) ps.length c] w fun e w' => e = .returned (.int .u32 ((fourW (flat ps)).a.toNat : Int)) ∧ Below w.heap.size w w' := by
  have hcc := concat_any r c ps w hr hl hc hcell hb h0 hm
  have HCC := Lib.hid hcc; clear hcc hcell hb
  obtain ⟨t, ht⟩ : ∃ t, flat ps = t := ⟨_, rfl⟩
  rw [ht] at HCC hm h0 ⊢
  clear ht
  have HM := Lib.hid hm; clear hm
  have H0 := Lib.hid h0; clear h0
  go_enter Try.func93, Try.ntmps93
  go_wp2_with fail
  refine HCC.out.mono ?_
  rintro e w1 ⟨g, cap, rfl, h1, h2, h3, h4, hh, b1⟩
  have hk := sum_any (some ⟨g, 0, none⟩) t.length cap t w1 ⟨rfl, h3, h4, fun e => (by cases e), fun _ => ⟨g, 0, rfl, h2, fun i hi => by rw [Nat.zero_add]; exact hh i hi⟩⟩ (by have := HM.out; omega)
  have HK := Lib.hid hk; clear hk hh
  have HB := Lib.hid b1; clear b1
  go_wp2_with fail
  refine HK.out.mono ?_
  rintro e w2 ⟨rfl, b2⟩
  have hb2 := HB.out.trans (b2.mono HB.out.size)
  have HB2 := Lib.hid hb2; clear hb2 b2
  go_wp2_with fail
  go_ret
  exact ⟨rfl, HB2.out⟩

/-- The inner key, and the tag. -/
def innerW (k s : List UInt8) : List UInt8 := bytesW (fourW (k ++ 1 :: s)) 4
def tagW (k s : List UInt8) : BitVec 32 := (fourW (k ++ 2 :: innerW k s)).a
theorem innerW_length (k s : List UInt8) : (innerW k s).length = 16 := bytesW_length _ _

theorem tag_bad (a : Option Addr) (len cap : Nat) (v : Value) (w : World) (h : len ≠ 16) : Calls Try.prog 73 #[.slice a len cap, v] w fun e w' => e = .returned (.tuple #[.int .u32 0, .int .i64 2]) ∧ w = w' := by
  have h1 : ((len : Int) == 16) = false := by simp; omega
  go_enter Try.func73, Try.ntmps73
  go_wp2_with fail
  go_ret2
  exact ⟨rfl, rfl⟩


set_option maxHeartbeats 2000000 in
theorem tag_any (a : Option Addr) (cap : Nat) (k : List UInt8) (b : Option Addr) (len capb : Nat) (s : List UInt8) (w : World) (hA : Bsl w w.heap.size a 16 cap k) (hB : Bsl w w.heap.size b len capb s) (hl : len ≤ 20000) :
    Calls Try.prog 73 #[.slice a 16 cap, .slice b len capb] w fun e w' => e = .returned (.tuple #[.int .u32 ((tagW k s).toNat : Int), .int .i64 0]) ∧ Below w.heap.size w w' := by
  obtain ⟨g, hg⟩ : ∃ g, w.heap.size = g := ⟨_, rfl⟩
  obtain ⟨w1, hw1⟩ : ∃ w1, ((w.alloc (.cells #[.int .u8 1] 5)).alloc (.cells #[.slice a 16 cap, .slice (some ⟨w.heap.size, 0, none⟩) 1 1, .slice b len capb] 23)) = w1 := ⟨_, rfl⟩
  have hb1 : Below w.heap.size w w1 := by rw [← hw1]; exact ((Below.refl _ w).alloc (Nat.le_refl _) _).alloc (by simp) _
  have hx0 : Blk w1 g 5 #[.int .u8 ((1 : UInt8).toNat : Int)] := by rw [← hw1, ← hg]; exact (Blk.new w 5 #[.int .u8 1]).alloc _
  have hx1 : Blk w1 (g + 1) 23 #[.slice a 16 cap, .slice (some ⟨g, 0, none⟩) 1 1, .slice b len capb] := by
    have := Blk.new (w.alloc (.cells #[.int .u8 1] 5)) 23 #[.slice a 16 cap, .slice (some ⟨w.heap.size, 0, none⟩) 1 1, .slice b len capb]
    rw [World.size_alloc, hw1, hg] at this
    exact this
  have hks : k.length = 16 := hA.1
  have hss : s.length = len := hB.1
  have hA1 := (hA.below hb1).more hb1.size
  have hB1 := (hB.below hb1).more hb1.size
  have ho1 := bsl_one w1 g 1 hx0 hx0.lt
  have hk := sumKey_any (g + 1) 3 [⟨a, 16, cap, k⟩, ⟨some ⟨g, 0, none⟩, 1, 1, [1]⟩, ⟨b, len, capb, s⟩] w1 hx1.lt (by simp) (by simp)
    (fun i h => by
      have : i = 0 ∨ i = 1 ∨ i = 2 := by simp at h; omega
      rcases this with rfl | rfl | rfl
      · exact hx1.cell 0
      · exact hx1.cell 1
      · exact hx1.cell 2)
    (fun i h => by
      have : i = 0 ∨ i = 1 ∨ i = 2 := by simp at h; omega
      rcases this with rfl | rfl | rfl
      · exact hA1
      · exact ho1
      · exact hB1)
    (by rw [flat3]; simp; omega) (by rw [flat3]; simp; omega)
  rw [flat3] at hk
  have hk' : Calls Try.prog 91 #[.func (.func 92) #[] #[], .slice (some ⟨g + 1, 0, none⟩) 3 3] w1 (KeyPost (fourW (k ++ 1 :: s)) w1) := hk
  clear hk ho1
  obtain ⟨x, hx⟩ : ∃ x, fourW (k ++ 1 :: s) = x := ⟨_, rfl⟩
  have htg : tagW k s = (fourW (k ++ 2 :: bytesW x 4)).a := by unfold tagW innerW; rw [hx]
  rw [hx] at hk'
  have HK := Lib.hid hk'; clear hk'
  have HTG := Lib.hid htg; clear htg hx
  have HB1 := Lib.hid hb1; clear hb1
  have HAA := Lib.hid hA; clear hA hA1
  clear hx0 hx1 hB hB1
  have HKS := Lib.hid hks; clear hks
  clear hss
  go_enter Try.func73, Try.ntmps73
  go_wp2_with fail
  rw [hg] at hw1
  rw [hw1]
  refine HK.out.mono ?_
  rintro e w2 ⟨g2, cap2, rfl, k1, k2, k3, k4, kh, b2⟩
  have hb2 := HB1.out.trans (b2.mono HB1.out.size)
  have hA2 := (HAA.out.below hb2).more hb2.size
  have hI2 : Bsl w2 w2.heap.size (some ⟨g2, 0, none⟩) 16 cap2 (bytesW x 4) := ⟨bytesW_length _ _, k3, k4, fun e => (by cases e), fun _ => ⟨g2, 0, rfl, k2, fun i hi => by rw [Nat.zero_add]; exact kh i hi⟩⟩
  clear b2 kh hg hw1
  obtain ⟨g, hg⟩ : ∃ g, w2.heap.size = g := ⟨_, rfl⟩
  obtain ⟨w3, hw3⟩ : ∃ w3, ((w2.alloc (.cells #[.int .u8 2] 5)).alloc (.cells #[.slice a 16 cap, .slice (some ⟨w2.heap.size, 0, none⟩) 1 1, .slice (some ⟨g2, 0, none⟩) 16 cap2] 23)) = w3 := ⟨_, rfl⟩
  have hb3 : Below w2.heap.size w2 w3 := by rw [← hw3]; exact ((Below.refl _ w2).alloc (Nat.le_refl _) _).alloc (by simp) _
  have hx0 : Blk w3 g 5 #[.int .u8 ((2 : UInt8).toNat : Int)] := by rw [← hw3, ← hg]; exact (Blk.new w2 5 #[.int .u8 2]).alloc _
  have hx1 : Blk w3 (g + 1) 23 #[.slice a 16 cap, .slice (some ⟨g, 0, none⟩) 1 1, .slice (some ⟨g2, 0, none⟩) 16 cap2] := by
    have := Blk.new (w2.alloc (.cells #[.int .u8 2] 5)) 23 #[.slice a 16 cap, .slice (some ⟨w2.heap.size, 0, none⟩) 1 1, .slice (some ⟨g2, 0, none⟩) 16 cap2]
    rw [World.size_alloc, hw3, hg] at this
    exact this
  have hA3 := (hA2.below hb3).more hb3.size
  have hI3 := (hI2.below hb3).more hb3.size
  have ho3 := bsl_one w3 g 2 hx0 hx0.lt
  have hk := sumSum_any (g + 1) 3 [⟨a, 16, cap, k⟩, ⟨some ⟨g, 0, none⟩, 1, 1, [2]⟩, ⟨some ⟨g2, 0, none⟩, 16, cap2, bytesW x 4⟩] w3 hx1.lt (by simp) (by simp)
    (fun i h => by
      have : i = 0 ∨ i = 1 ∨ i = 2 := by simp at h; omega
      rcases this with rfl | rfl | rfl
      · exact hx1.cell 0
      · exact hx1.cell 1
      · exact hx1.cell 2)
    (fun i h => by
      have : i = 0 ∨ i = 1 ∨ i = 2 := by simp at h; omega
      rcases this with rfl | rfl | rfl
      · exact hA3
      · exact ho3
      · exact hI3)
    (by rw [flat3]; simp; omega) (by rw [flat3]; have := HKS.out; simp [bytesW_length]; omega)
  rw [flat3] at hk
  have hk' : Calls Try.prog 93 #[.func (.func 15) #[] #[], .slice (some ⟨g + 1, 0, none⟩) 3 3] w3 fun e w' => e = .returned (.int .u32 ((fourW (k ++ 2 :: bytesW x 4)).a.toNat : Int)) ∧ Below w3.heap.size w3 w' := hk
  rw [← HTG.out] at hk'
  have HK3 := Lib.hid hk'; clear hk' hk ho3 hI3 hA3 hx0 hx1 hI2 hA2
  have hb33 := hb2.trans (hb3.mono hb2.size)
  have HB3 := Lib.hid hb33; clear hb33 hb2 hb3
  go_wp2_with fail
  rw [hg] at hw3
  rw [hw3]
  refine HK3.out.mono ?_
  rintro e w4 ⟨rfl, b4⟩
  have hb4 := HB3.out.trans (b4.mono HB3.out.size)
  have HB4 := Lib.hid hb4; clear hb4 b4 hg hw3
  go_wp2_with fail
  go_ret2
  exact ⟨rfl, HB4.out⟩
end Go.Proofs.Ytdpmdlibgabjaaa
/-
  seal.Seal and seal.Open, whatever they are handed, answer the bytes sealed with their tag, the bytes opened, or the error that is due; the answer is new memory; nothing that was there is written.
-/
namespace Go.Proofs.Ytdpmdlibgabjaaa
open Go.RowKit Go.Shelf
set_option maxRecDepth 100000

/-- The tag of bytes that a cipher made. -/
def sealW (k : List UInt8) (iv : Nat) (m : List UInt8) : BitVec 32 := tagW k (leB 4 iv ++ m)
/-- A list of one's own. -/
def OwnL (n : Nat) (s : List UInt8) (w : World) (e : Ending) (w' : World) : Prop :=
  ∃ a cap, e = .returned (.slice a n cap) ∧ w'.ownsRow w.heap.size 5 1 (.slice a n cap) n (vals s) ∧ Below w.heap.size w w'
/-- A list of one's own, a number of 32 bits, and an error's number. -/
def OutT (c : Int) (t : BitVec 32) (n : Nat) (s : List UInt8) (w : World) (e : Ending) (w' : World) : Prop :=
  ∃ a cap, e = .returned (.tuple #[.slice a n cap, .int .u32 (t.toNat : Int), .int .i64 c]) ∧ w'.ownsRow w.heap.size 5 1 (.slice a n cap) n (vals s) ∧ Below w.heap.size w w'

theorem own_down {w : World} {B B' : Nat} {e : TypeId} {size : Nat} {v : Value} {n : Nat} {xs : List Value} (h : w.ownsRow B e size v n xs) (hB : B' ≤ B) : w.ownsRow B' e size v n xs := by
  refine ⟨h.1, ?_⟩
  rcases h.2 with h2 | ⟨g, cap, cur, hv, hb, r⟩
  · exact .inl h2
  · exact .inr ⟨g, cap, cur, hv, Nat.le_trans hB hb, r⟩

theorem sput_any (n : Nat) (hn : n < 4294967296) (w : World) : Calls Try.prog 75 #[.int .u32 n] w (NewL 4 (leB 4 n) w) := by
  have h0 : (0 : Int) ≤ n := by omega
  have h1 : (n : Int) ≤ 4294967295 := by omega
  go_enter Try.func75, Try.ntmps75
  go_wp2_with fail
  refine (put_at n 4 4 rfl (by omega) (by omega) hn _).mono ?_
  rintro e w1 ⟨rfl, h2, b2, s2⟩
  have H2 := Lib.hid (bsl_of_holds (cap := 4) (leB_length 4 n) (Nat.le_refl _) (by unfold maxLen; omega) s2 h2)
  have HB := Lib.hid b2
  clear h2 b2
  go_wp2_with fail
  go_ret
  exact ⟨_, _, rfl, Nat.le_succ _, H2.out, HB.out⟩

theorem wrong_key (a : Option Addr) (len cap : Nat) (h : len ≠ 16) (u : Value) (w : World) : Calls Try.prog 50 #[.slice a len cap, u] w fun e w' => e = .returned (.int .i64 2) ∧ w = w' := by
  have h1 : ((len : Int) != 16) = true := by simp; omega
  go_enter Try.func50, Try.ntmps50
  go_wp2_with fail
  go_ret
  exact ⟨rfl, rfl⟩
theorem wrong_text (a : Option Addr) (cap : Nat) (b : Option Addr) (len capb : Nat) (h : 256 < len) (w : World) : Calls Try.prog 50 #[.slice a 16 cap, .slice b len capb] w fun e w' => e = .returned (.int .i64 3) ∧ w = w' := by
  have h0 : (256 : Int) < len := by omega
  go_enter Try.func50, Try.ntmps50
  go_wp2_with fail
  go_ret
  exact ⟨rfl, rfl⟩
theorem wrong_no (a : Option Addr) (cap : Nat) (b : Option Addr) (len capb : Nat) (h : len ≤ 256) (w : World) : Calls Try.prog 50 #[.slice a 16 cap, .slice b len capb] w fun e w' => e = .returned (.int .i64 0) ∧ w = w' := by
  have h0 : (len : Int) ≤ 256 := by omega
  go_enter Try.func50, Try.ntmps50
  go_wp2_with fail
  go_ret
  exact ⟨rfl, rfl⟩

theorem sturned_any (A : Option Addr) (cap : Nat) (k : List UInt8) (iv : Nat) (hiv : iv < 4294967296) (b : Option Addr) (len capb : Nat) (s : List UInt8) (hn : len ≤ 4096) (w : World) (hA : Bsl w w.heap.size A 16 cap k) (hS : Bsl w w.heap.size b len capb s) :
    Calls Try.prog 51 #[.slice A 16 cap, .int .u32 iv, .slice b len capb] w (OwnL len (turnW' k iv s) w) := by
  have HT := Lib.hid (Turn_ok A cap k iv hiv b len capb s hn w hA hS)
  clear hA hS
  go_enter Try.func51, Try.ntmps51
  go_wp2_with fail
  refine HT.out.mono ?_
  rintro e w1 ⟨a1, c1, rfl, h1, b1⟩
  have H1 := Lib.hid h1; clear h1
  have B1 := Lib.hid b1; clear b1
  go_wp2_with fail
  go_ret
  exact ⟨_, _, rfl, H1.out, B1.out⟩

set_option maxHeartbeats 1000000 in
theorem tagOf_any (A : Option Addr) (cap : Nat) (k : List UInt8) (iv : Nat) (hiv : iv < 4294967296) (b : Option Addr) (len capb : Nat) (s : List UInt8) (hn : len ≤ 10000) (w : World) (hA : Bsl w w.heap.size A 16 cap k) (hS : Bsl w w.heap.size b len capb s) :
    Calls Try.prog 52 #[.slice A 16 cap, .int .u32 iv, .slice b len capb] w fun e w' => e = .returned (.int .u32 ((sealW k iv s).toNat : Int)) ∧ Below w.heap.size w w' := by
  have HA := Lib.hid hA; clear hA
  have HS := Lib.hid hS; clear hS
  go_enter Try.func52, Try.ntmps52
  go_wp2_with fail
  refine (sput_any iv hiv w).mono ?_
  rintro e w1 ⟨g1, c1, rfl, _, h1, b1⟩
  have HC := Lib.hid (concat2 w1 _ _ _ _ _ _ _ _ h1 (HS.out.step b1) (by omega) (by omega))
  have HA1 := Lib.hid (HA.out.step b1)
  have HB1 := Lib.hid b1; clear h1 b1 HS HA
  go_wp2_with fail
  refine HC.out.mono ?_
  rintro e w2 ⟨g2, c2, rfl, _, h2, b2⟩
  have HT := Lib.hid (tag_any A cap k _ _ _ _ w2 (HA1.out.step b2) h2 (by omega))
  have HB2 := Lib.hid (HB1.out.trans (b2.mono HB1.out.size)); clear h2 b2 HA1 HB1
  obtain ⟨t, ht⟩ : ∃ t, tagW k (leB 4 iv ++ s) = t := ⟨_, rfl⟩
  rw [ht] at HT
  have HTE := Lib.hid (show sealW k iv s = t from ht); clear ht
  go_wp2_with fail
  refine HT.out.mono ?_
  rintro e w3 ⟨rfl, b3⟩
  have HB3 := Lib.hid (HB2.out.trans (b3.mono HB2.out.size)); clear b3
  go_wp2_with fail
  go_ret
  exact ⟨by rw [HTE.out]; rfl, HB3.out⟩

theorem Seal_key (a : Option Addr) (len cap : Nat) (h : len ≠ 16) (v u : Value) (w : World) : Calls Try.prog 26 #[.slice a len cap, v, u] w (OutT 2 0 0 [] w) := by
  go_enter Try.func26, Try.ntmps26
  go_wp2_with (go_at_call 50; refine (wrong_key _ _ _ h _ _).mono ?_; rintro e w' ⟨rfl, rfl⟩)
  go_ret3
  exact ⟨none, 0, rfl, own_nil _ _, Below.refl _ _⟩
theorem Seal_far (a : Option Addr) (cap : Nat) (v : Value) (b : Option Addr) (len capb : Nat) (h : 256 < len) (w : World) : Calls Try.prog 26 #[.slice a 16 cap, v, .slice b len capb] w (OutT 3 0 0 [] w) := by
  go_enter Try.func26, Try.ntmps26
  go_wp2_with (go_at_call 50; refine (wrong_text _ _ _ _ _ h _).mono ?_; rintro e w' ⟨rfl, rfl⟩)
  go_ret3
  exact ⟨none, 0, rfl, own_nil _ _, Below.refl _ _⟩
theorem Seal_ok (A : Option Addr) (cap : Nat) (k : List UInt8) (iv : Nat) (hiv : iv < 4294967296) (b : Option Addr) (len capb : Nat) (s : List UInt8) (hn : len ≤ 256) (w : World) (hA : Bsl w w.heap.size A 16 cap k) (hS : Bsl w w.heap.size b len capb s) :
    Calls Try.prog 26 #[.slice A 16 cap, .int .u32 iv, .slice b len capb] w (OutT 0 (sealW k iv (turnW' k iv s)) len (turnW' k iv s) w) := by
  have HT := Lib.hid (sturned_any A cap k iv hiv b len capb s (by omega) w hA hS)
  have HA := Lib.hid hA; clear hA hS
  obtain ⟨x, hx⟩ : ∃ x, turnW' k iv s = x := ⟨_, rfl⟩
  rw [hx] at HT ⊢
  clear hx
  obtain ⟨t, ht⟩ : ∃ t, sealW k iv x = t := ⟨_, rfl⟩
  rw [ht]
  have HTE := Lib.hid ht; clear ht
  go_enter Try.func26, Try.ntmps26
  go_wp2_with (go_at_call 50; refine (wrong_no _ _ _ _ _ hn _).mono ?_; rintro e w' ⟨rfl, rfl⟩)
  refine HT.out.mono ?_
  rintro e w1 ⟨a1, c1, rfl, h1, b1⟩
  have HG := Lib.hid (tagOf_any A cap k iv hiv a1 len c1 x (by omega) w1 (HA.out.step b1) (own_bsl h1))
  have H1 := Lib.hid h1; clear h1
  have B1 := Lib.hid b1; clear b1
  rw [HTE.out] at HG
  go_wp2_with fail
  refine HG.out.mono ?_
  rintro e w2 ⟨rfl, b2⟩
  have H2 := Lib.hid (own_below H1.out b2)
  have B2 := Lib.hid (B1.out.trans (b2.mono B1.out.size)); clear b2
  go_wp2_with fail
  go_ret3
  exact ⟨_, _, rfl, H2.out, B2.out⟩

theorem Open_key (a : Option Addr) (len cap : Nat) (h : len ≠ 16) (v u x : Value) (w : World) : Calls Try.prog 38 #[.slice a len cap, v, u, x] w (Out 2 0 [] w) := by
  go_enter Try.func38, Try.ntmps38
  go_wp2_with (go_at_call 50; refine (wrong_key _ _ _ h _ _).mono ?_; rintro e w' ⟨rfl, rfl⟩)
  go_ret2
  exact out_err 2 _
theorem Open_far (a : Option Addr) (cap : Nat) (v x : Value) (b : Option Addr) (len capb : Nat) (h : 256 < len) (w : World) : Calls Try.prog 38 #[.slice a 16 cap, v, .slice b len capb, x] w (Out 3 0 [] w) := by
  go_enter Try.func38, Try.ntmps38
  go_wp2_with (go_at_call 50; refine (wrong_text _ _ _ _ _ h _).mono ?_; rintro e w' ⟨rfl, rfl⟩)
  go_ret2
  exact out_err 3 _
theorem Open_tag (A : Option Addr) (cap : Nat) (k : List UInt8) (iv : Nat) (hiv : iv < 4294967296) (b : Option Addr) (len capb : Nat) (s : List UInt8) (hn : len ≤ 256) (t : BitVec 32) (ht : sealW k iv s ≠ t) (w : World) (hA : Bsl w w.heap.size A 16 cap k) (hS : Bsl w w.heap.size b len capb s) :
    Calls Try.prog 38 #[.slice A 16 cap, .int .u32 iv, .slice b len capb, .int .u32 (t.toNat : Int)] w fun e w' => e = .returned (.tuple #[.slice none 0 0, .int .i64 131]) ∧ Below w.heap.size w w' := by
  have HT := Lib.hid (tagOf_any A cap k iv hiv b len capb s (by omega) w hA hS)
  clear hA hS
  have hne : ((t.toNat : Int) != ((sealW k iv s).toNat : Int)) = true := by
    have : (sealW k iv s).toNat ≠ t.toNat := fun h => ht (BitVec.eq_of_toNat_eq h)
    simp only [bne_iff_ne, ne_eq]; omega
  go_enter Try.func38, Try.ntmps38
  go_wp2_with (go_at_call 50; refine (wrong_no _ _ _ _ _ hn _).mono ?_; rintro e w' ⟨rfl, rfl⟩)
  refine HT.out.mono ?_
  rintro e w1 ⟨rfl, b1⟩
  have B1 := Lib.hid b1; clear b1
  go_wp2_with fail
  go_ret2
  exact ⟨rfl, B1.out⟩
theorem Open_ok (A : Option Addr) (cap : Nat) (k : List UInt8) (iv : Nat) (hiv : iv < 4294967296) (b : Option Addr) (len capb : Nat) (s : List UInt8) (hn : len ≤ 256) (w : World) (hA : Bsl w w.heap.size A 16 cap k) (hS : Bsl w w.heap.size b len capb s) :
    Calls Try.prog 38 #[.slice A 16 cap, .int .u32 iv, .slice b len capb, .int .u32 ((sealW k iv s).toNat : Int)] w (Out 0 len (turnW' k iv s) w) := by
  have HT := Lib.hid (tagOf_any A cap k iv hiv b len capb s (by omega) w hA hS)
  have HA := Lib.hid hA; clear hA
  have HS := Lib.hid hS; clear hS
  obtain ⟨t, ht⟩ : ∃ t, sealW k iv s = t := ⟨_, rfl⟩
  rw [ht] at HT ⊢
  clear ht
  have hne : ((t.toNat : Int) != (t.toNat : Int)) = false := by simp
  go_enter Try.func38, Try.ntmps38
  go_wp2_with (go_at_call 50; refine (wrong_no _ _ _ _ _ hn _).mono ?_; rintro e w' ⟨rfl, rfl⟩)
  refine HT.out.mono ?_
  rintro e w1 ⟨rfl, b1⟩
  have HU := Lib.hid (sturned_any A cap k iv hiv b len capb s (by omega) w1 (HA.out.step b1) (HS.out.step b1))
  have B1 := Lib.hid b1; clear b1
  go_wp2_with fail
  refine HU.out.mono ?_
  rintro e w2 ⟨a2, c2, rfl, h2, b2⟩
  have H2 := Lib.hid (own_down h2 B1.out.size)
  have B2 := Lib.hid (B1.out.trans (b2.mono B1.out.size)); clear b2 h2
  go_wp2_with fail
  go_ret2
  exact ⟨_, _, rfl, H2.out, B2.out⟩
end Go.Proofs.Ytdpmdlibgabjaaa
/-
  Words for stores by value (api.Store): a disk, a table, Epoch and Count; where they lie; what calls that answer stores answer.
-/
namespace Go.Proofs.Ytdpmdlibgabjaaa
open Go.RowKit Go.Shelf
set_option maxRecDepth 100000

/-- A store: its disk, its table, its Epoch and its Count. -/
abbrev StL := DkL × List UInt8 × Nat × Nat
/-- Where its slices are. -/
structure SAt where
  d : DAt
  a : Option Addr
  c : Nat
/-- The store as a value. -/
@[reducible] def stV (x : SAt) (S : StL) : Value := .agg #[.slice x.d.ba S.1.1.length x.d.bc, .slice x.d.wa S.1.2.length x.d.wc, .slice x.a S.2.1.length x.c, .int .u32 (S.2.2.1 : Int), .int .u32 (S.2.2.2 : Int)]
/-- Its cells. -/
@[reducible] def stC (x : SAt) (S : StL) : Array Value := #[.slice x.d.ba S.1.1.length x.d.bc, .slice x.d.wa S.1.2.length x.d.wc, .slice x.a S.2.1.length x.c, .int .u32 (S.2.2.1 : Int), .int .u32 (S.2.2.2 : Int)]
/-- Its numbers fit. -/
def WfS (S : StL) : Prop := S.2.2.1 < 4294967296 ∧ S.2.2.2 < 4294967296
/-- A store that lies below block B reads as S. -/
def Str (w : World) (B : Nat) (x : SAt) (S : StL) : Prop := Dsk w B x.d S.1 ∧ Bsl w B x.a S.2.1.length x.c S.2.1
/-- It goes on reading so. -/
def StP (L : Nat) (w : World) (x : SAt) (S : StL) : Prop := Lasts L w fun W => Str W W.heap.size x S
/-- None. -/
abbrev st0 : StL := (([], []), [], 0, 0)
def at0 : SAt := ⟨⟨none, 0, none, 0⟩, none, 0⟩
theorem Str.lasts {w : World} {L : Nat} {x : SAt} {S : StL} (h : Str w L x S) (hL : L ≤ w.heap.size) : StP L w x S := (dsk_lasts h.1 hL).and (bsl_lasts h.2 hL)
theorem st0_lasts (L : Nat) (w : World) : StP L w at0 st0 := fun _ _ => ⟨⟨bls_nil _ _, wts_nil _ _⟩, ⟨rfl, Nat.le_refl _, Nat.zero_le _, fun _ => rfl, fun h => absurd h (by simp)⟩⟩
theorem dskR_lasts {w : World} {x : DAt} {D : DkL} (h : DskR w x D) (L : Nat) : Lasts L w fun W => Dsk W W.heap.size x D := fun _ k => by
  obtain ⟨b1, b2, h1, h2⟩ := h
  exact rows_dsk (brow_keeps h1 k) (wrow_keeps h2 k)
/-- A store may be. -/
def MayS (S : StL) : Prop := MayD S.1 ∧ MayT S.2.1 ∧ (1 ≤ S.2.2.1 ∧ S.2.2.1 ≤ 65535) ∧ S.2.2.2 ≤ 65535
/-- The sum of bytes. -/
def sumOf (b : List UInt8) : Nat := (fourW b).a.toNat
theorem sumOf_lt (b : List UInt8) : sumOf b < 4294967296 := (fourW b).a.isLt
/-- A block laid: a store and its pointer, if there is room. -/
def putS (S : StL) (birth iv tag : Nat) (b : List UInt8) : Option (StL × Pt) :=
  match freeTo S.2.1 256 with
  | [] => none
  | k :: _ => if 4096 ≤ S.1.2.length then none else some ((withD S.1 (k : Int) b, S.2.1.set k 1, S.2.2.1, S.2.2.2), ((k : Int), birth, iv, tag, sumOf b))
theorem putS_none {S : StL} {birth iv tag : Nat} {b : List UInt8} (h : ∀ i, i < 256 → mkT S.2.1 i ≠ 0) : putS S birth iv tag b = none := by
  have e0 : freeTo S.2.1 256 = [] := freeTo_same (p := 0) (Nat.zero_le _) fun i _ hi => h i hi
  unfold putS
  rw [e0]
theorem freeTo_head {s : List UInt8} {k : Nat} (hk : k < 256) (hz : mkT s k = 0) (h0 : ∀ i, i < k → mkT s i ≠ 0) : ∃ r, freeTo s 256 = k :: r := by
  have e1 : ∀ m, k < m → ∃ r, freeTo s m = k :: r := by
    intro m hm
    induction m with
    | zero => omega
    | succ m ih =>
      rcases Nat.lt_or_ge k m with h1 | h1
      · obtain ⟨r, hr⟩ := ih h1
        by_cases h2 : mkT s m = 0
        · exact ⟨r ++ [m], by rw [freeTo_yes h2, hr]; rfl⟩
        · exact ⟨r, by rw [freeTo_no h2, hr]⟩
      · obtain rfl : m = k := by omega
        refine ⟨[], ?_⟩
        rw [freeTo_yes hz, freeTo_same (p := 0) (Nat.zero_le _) fun i _ hi => h0 i hi]
        rfl
  exact e1 256 hk
theorem putS_great {S : StL} {birth iv tag : Nat} {b : List UInt8} (h : 4096 ≤ S.1.2.length) : putS S birth iv tag b = none := by
  unfold putS
  split
  · rfl
  · rw [if_pos h]
theorem putS_some {S : StL} {birth iv tag : Nat} {b : List UInt8} {k : Nat} (hk : k < 256) (hz : mkT S.2.1 k = 0) (h0 : ∀ i, i < k → mkT S.2.1 i ≠ 0) (hw : S.1.2.length < 4096) :
    putS S birth iv tag b = some ((withD S.1 (k : Int) b, S.2.1.set k 1, S.2.2.1, S.2.2.2), ((k : Int), birth, iv, tag, sumOf b)) := by
  obtain ⟨r, hr⟩ := freeTo_head hk hz h0
  unfold putS
  rw [hr]
  simp only
  rw [if_neg (by omega)]
/-- What is answered of what Put answers. -/
def putR : Option (StL × Pt) → StL × Pt × Nat
  | none => (st0, p0, 9)
  | some sp => (sp.1, sp.2, 0)
/-- What Raw answers: a store, a pointer, an error's number. -/
noncomputable def rawO (S : StL) (birth iv tag : Nat) (b : List UInt8) : StL × Pt × Nat :=
  open Classical in
  if MayS S then
    if 1 ≤ birth ∧ birth ≤ 16777215 then
      if b.length = 256 then
        putR (putS S birth iv tag b)
      else (st0, p0, 3)
    else (st0, p0, 2)
  else (st0, p0, 8)
/-- What is sealed of a store that may be. -/
noncomputable def sealedO (S : StL) (birth : Nat) (key b : List UInt8) : StL × Pt × Nat :=
  if 65535 ≤ S.2.2.2 then (st0, p0, 132)
  else
    putR (putS (S.1, S.2.1, S.2.2.1, S.2.2.2 + 1) birth (S.2.2.1 * 65536 + (S.2.2.2 + 1)) (sealW key (S.2.2.1 * 65536 + (S.2.2.2 + 1)) (turnW' key (S.2.2.1 * 65536 + (S.2.2.2 + 1)) b)).toNat (turnW' key (S.2.2.1 * 65536 + (S.2.2.2 + 1)) b))
noncomputable def sealO (S : StL) (birth : Nat) (key b : List UInt8) : StL × Pt × Nat :=
  open Classical in
  if MayS S then
    if 1 ≤ birth ∧ birth ≤ 16777215 then
      if key.length = 16 ∧ b.length = 256 then sealedO S birth key b else (st0, p0, 3)
    else (st0, p0, 2)
  else (st0, p0, 8)
/-- A block as a flush would leave it. -/
def seenS (S : StL) (k : Nat) : List UInt8 := leftD S.1 (fun _ => true) k
/-- What Look answers of a store and a pointer that may be. -/
def seenO (S : StL) (p : Pt) : List UInt8 × Nat :=
  if p = p0 then ([], 6) else if sumOf (seenS S p.1.toNat) = p.2.2.2.2 then (seenS S p.1.toNat, 0) else ([], 130)
noncomputable def lookO (S : StL) (p : Pt) : List UInt8 × Nat :=
  open Classical in if MayS S ∧ MayP p then seenO S p else ([], 8)
/-- What Open answers of a store and a pointer that may be. -/
def openedO (S : StL) (p : Pt) (key : List UInt8) : List UInt8 × Nat :=
  if (seenO S p).2 ≠ 0 then ([], (seenO S p).2)
  else if key.length ≠ 16 then ([], 3)
  else if (sealW key p.2.2.1 (seenO S p).1).toNat = p.2.2.2.1 then (turnW' key p.2.2.1 (seenO S p).1, 0) else ([], 131)
noncomputable def openO (S : StL) (p : Pt) (key : List UInt8) : List UInt8 × Nat :=
  open Classical in if MayS S ∧ MayP p then openedO S p key else ([], 8)
noncomputable def giveSO (S : StL) (p : Pt) : StL × Nat :=
  open Classical in
  if MayS S ∧ MayP p then
    if p = p0 ∨ mkT S.2.1 p.1.toNat ≠ 1 then (st0, 6) else ((S.1, S.2.1.set p.1.toNat 2, S.2.2.1, S.2.2.2), 0)
  else (st0, 8)
/-- A store and no error's number. -/
def OutS (L : Nat) (S : StL) (w : World) (e : Ending) (w' : World) : Prop := ∃ y, e = .returned (stV y S) ∧ StP L w' y S ∧ Below w.heap.size w w'
/-- A store and an error's number. -/
def OutSE (L : Nat) (o : StL × Nat) (w : World) (e : Ending) (w' : World) : Prop := ∃ y, e = .returned (.tuple #[stV y o.1, .int .i64 o.2]) ∧ StP L w' y o.1 ∧ Below w.heap.size w w'
/-- A store, a pointer and an error's number. -/
def OutSP (L : Nat) (o : StL × Pt × Nat) (w : World) (e : Ending) (w' : World) : Prop := ∃ y, e = .returned (.tuple #[stV y o.1, ptV o.2.1, .int .i64 o.2.2]) ∧ StP L w' y o.1 ∧ Below w.heap.size w w'
/-- Bytes and an error's number. -/
def OutBE (o : List UInt8 × Nat) (w : World) (e : Ending) (w' : World) : Prop := ∃ v, e = .returned (.tuple #[v, .int .i64 o.2]) ∧ w'.ownsRow w.heap.size 5 1 v o.1.length (vals o.1) ∧ Below w.heap.size w w'
theorem mayP_at {p : Pt} (h : MayP p) (hp : p ≠ p0) : ∃ k : Nat, p.1 = (k : Int) ∧ 12 ≤ k ∧ k < 256 := by
  rcases h with h | h
  · exact absurd h hp
  · exact ⟨p.1.toNat, by omega, by omega, by omega⟩
end Go.Proofs.Ytdpmdlibgabjaaa
/-
  make([]byte, n, n): a new list of noughts.
-/
namespace Go.Proofs.Ytdpmdlibgabjaaa
open Go.RowKit Go.Shelf
set_option maxRecDepth 100000

theorem make_noughts (n : Nat) (hn : n ≤ 100000) (W : World) : (Instr.makeSlice 23 (.int .i64 n) (.int .i64 n)).run Try.prog W = .ok (.slice (some ⟨W.heap.size, 0, none⟩) n n) (W.alloc (.cells (Array.replicate n (.int .u8 0)) 5)) := by
  obtain ⟨i0, hi, hz0, hz1, hz2⟩ := info_parts infoU8
  have hr := run_make (P := Try.prog) W 23 5 i0 (.int .u8 0) Try.underlying23 hi hz0 .i64 .i64 n n (by omega) (Int.le_refl _) (by rw [hz2]; omega) (by omega)
  have e : madeCells (Value.int .u8 0).cells (n * 1) = Array.replicate n (.int .u8 0) := by
    apply Array.ext
    · simp [size_madeCells]
    · intro i h1 h2
      simp [madeCells, Value.cells, Nat.mod_one]
  rw [hz1] at hr
  simp only [Int.toNat_natCast] at hr
  rw [e] at hr
  exact hr
theorem noughts_bsl (n : Nat) (hn : n ≤ 100000) (w : World) : Bsl (w.alloc (.cells (Array.replicate n (.int .u8 0)) 5)) (w.alloc (.cells (Array.replicate n (.int .u8 0)) 5)).heap.size (some ⟨w.heap.size, 0, none⟩) n n (List.replicate n 0) := by
  refine bsl_of_holds (by simp) (Nat.le_refl _) (by unfold maxLen; omega) (Blk.new w 5 _).lt fun i hi => ?_
  have hi' : i < n := by simpa using hi
  rw [(Blk.new w 5 (Array.replicate n (.int .u8 0))).cell i]
  simp [hi']

end Go.Proofs.Ytdpmdlibgabjaaa
/-
  What follows of bytes turned by a stream (twice is not at all; noughts; two texts); new lists of noughts; alive: the chapter's last example holds.
-/
namespace Go.Proofs.Ytdpmdlibgabjaaa
open Go.RowKit Go.Shelf
set_option maxRecDepth 100000

theorem turnW'_twice (k : List UInt8) (iv : Nat) (s : List UInt8) : turnW' k iv (turnW' k iv s) = s := by
  apply List.ext_getElem
  · rw [turnW'_length, turnW'_length]
  · intro i h1 h2
    have hl := turnW'_length k iv s
    simp only [turnW', List.getElem_zipWith, List.length_zipWith, stW_length, Nat.min_self]
    rw [← UInt8.xor_assoc, UInt8.xor_self, UInt8.zero_xor]
theorem turnW'_noughts (k : List UInt8) (iv n : Nat) : turnW' k iv (List.replicate n 0) = stW k iv n := by
  apply List.ext_getElem
  · simp [turnW'_length, stW_length]
  · intro i h1 h2
    simp [turnW']
theorem turnW'_inj (k : List UInt8) (iv : Nat) {s t : List UInt8} (h : turnW' k iv s = turnW' k iv t) : s = t := by rw [← turnW'_twice k iv s, h, turnW'_twice]

/-- The text of the last example. -/
def tabc : List UInt8 := [97, 98, 99]
end Go.Proofs.Ytdpmdlibgabjaaa
/-
  What follows of stores as plain lists: a block laid is seen, no other changes; what was sealed is opened; what was given up is seen as before; room; numbers; a byte turned.
-/
namespace Go.Proofs.Ytdpmdlibgabjaaa
open Go.RowKit Go.Shelf
set_option maxRecDepth 100000

theorem leftD_withD (D : DkL) (p : Nat) (s : List UInt8) (q : Nat) : leftD (withD D p s) (fun _ => true) q = if q = p then s else leftD D (fun _ => true) q := by
  obtain ⟨h1, h2⟩ := wr_with D.2 (p : Int) s
  have hl : (withD D (p : Int) s).2.length = D.2.length + 1 := by simp [withD]
  have he : (withD D (p : Int) s).2 = D.2 ++ [((p : Int), s)] := rfl
  unfold leftD
  rw [hl, he, lastTo, h2]
  by_cases e : q = p
  · subst e
    rw [if_pos ⟨rfl, rfl⟩, if_pos rfl]
    simp only
    rw [h2]
  · rw [if_neg (fun h => e (by have := h.2; simp only at this; omega)), if_neg e]
    have hc : lastTo (D.2 ++ [((p : Int), s)]) (fun _ => true) (q : Int) D.2.length = lastTo D.2 (fun _ => true) (q : Int) D.2.length := lastTo_congr (fun i hi => by rw [h1 i hi])
    rw [hc]
    cases hx : lastTo D.2 (fun _ => true) (q : Int) D.2.length with
    | none => rfl
    | some i => simp only; rw [h1 i (lastTo_lt hx).1]

/-- A store with a block laid. -/
@[reducible] def putAt (S : StL) (k : Nat) (b : List UInt8) : StL := (withD S.1 (k : Int) b, S.2.1.set k 1, S.2.2.1, S.2.2.2)
theorem seenS_put (S : StL) (k : Nat) (b : List UInt8) (q : Nat) : seenS (putAt S k b) q = if q = k then b else seenS S q := leftD_withD S.1 k b q

/-! Room. -/
theorem freeTo_filter (s : List UInt8) : ∀ n, freeTo s n = (List.range n).filter (fun i => decide (mkT s i = 0))
  | 0 => rfl
  | n + 1 => by
    rw [List.range_succ, List.filter_append, ← freeTo_filter s n]
    by_cases h : mkT s n = 0
    · rw [freeTo_yes h]; simp [h]
    · rw [freeTo_no h]; simp [h]
theorem freeTo_nodup (s : List UInt8) (n : Nat) : (freeTo s n).Nodup := by
  rw [freeTo_filter]
  exact List.nodup_range.filter _
theorem free_first {s : List UInt8} {k : Nat} {r : List Nat} (h : freeTo s 256 = k :: r) : k < 256 ∧ mkT s k = 0 ∧ ∀ i, i < k → mkT s i ≠ 0 := by
  have h1 : k ∈ freeTo s 256 := by rw [h]; exact List.mem_cons_self
  obtain ⟨a, b⟩ := freeTo_mem.1 h1
  refine ⟨a, b, fun i hi hz => ?_⟩
  rcases first_from (fun i => mkT s i = 0) 0 256 with ⟨j, _, hj, hjz, hjm⟩ | hn
  · obtain ⟨r', hr'⟩ := freeTo_head hj hjz fun i hi => hjm i (Nat.zero_le _) hi
    rw [h] at hr'
    cases hr'
    exact hjm i (Nat.zero_le _) hi hz
  · exact hn k (Nat.zero_le _) a b
theorem free_next {s : List UInt8} {k : Nat} {r : List Nat} (hl : s.length = 256) (h : freeTo s 256 = k :: r) : freeTo (s.set k 1) 256 = r := by
  have hk := (free_first h).1
  have hn := freeTo_nodup s 256
  rw [h] at hn
  have hr := (List.nodup_cons.1 hn).1
  have e1 : freeTo (s.set k 1) 256 = (freeTo s 256).filter (fun i => decide (i ≠ k)) := by
    rw [freeTo_filter, freeTo_filter, List.filter_filter]
    refine List.filter_congr fun i hi => ?_
    rw [mkT_set s k 1 i (by omega)]
    by_cases e : i = k
    · subst e; simp
    · simp [e]
  rw [e1, h, List.filter_cons_of_neg (by simp)]
  exact List.filter_eq_self.2 fun i hi => by
    have : i ≠ k := fun e => hr (e ▸ hi)
    simp [this]
theorem putS_cases {S : StL} (h : MayT S.2.1) (birth iv tag : Nat) (b : List UInt8) : (putS S birth iv tag b = none ∧ (freeTo S.2.1 256 = [] ∨ 4096 ≤ S.1.2.length)) ∨
    ∃ k r, (12 ≤ k ∧ k < 256) ∧ mkT S.2.1 k = 0 ∧ (∀ i, i < k → mkT S.2.1 i ≠ 0) ∧ S.1.2.length < 4096 ∧ freeTo S.2.1 256 = k :: r ∧ putS S birth iv tag b = some (putAt S k b, ((k : Int), birth, iv, tag, sumOf b)) := by
  cases hf : freeTo S.2.1 256 with
  | nil => exact .inl ⟨by unfold putS; rw [hf], .inl rfl⟩
  | cons k r =>
    obtain ⟨h1, h2, h3⟩ := free_first hf
    rcases Nat.lt_or_ge S.1.2.length 4096 with hw | hw
    · exact .inr ⟨k, r, ⟨h.free_ge (by omega), h1⟩, h2, h3, hw, rfl, putS_some h1 h2 h3 hw⟩
    · exact .inl ⟨putS_great hw, .inr hw⟩

/-! What may be. -/
theorem putAt_may {S : StL} (h : MayS S) {k : Nat} (hk : 12 ≤ k ∧ k < 256) {b : List UInt8} (hb : b.length = 256) (hw : S.1.2.length < 4096) : MayS (putAt S k b) :=
  ⟨with_may h.1 (by omega) hb (by omega), set_may h.2.1 hk.1 hk.2 1 (by decide), h.2.2⟩
theorem count_may {S : StL} (h : MayS S) (hc : S.2.2.2 < 65535) : MayS (S.1, S.2.1, S.2.2.1, S.2.2.2 + 1) := ⟨h.1, h.2.1, h.2.2.1, by show S.2.2.2 + 1 ≤ 65535; omega⟩
theorem ptr_may {k birth : Nat} (hk : 12 ≤ k ∧ k < 256) (hb : 1 ≤ birth ∧ birth ≤ 16777215) (iv tag s : Nat) : MayP ((k : Int), birth, iv, tag, s) := .inr ⟨by simp only; omega, hb⟩
theorem ptr_not {k birth : Nat} (hb : 1 ≤ birth) (iv tag s : Nat) : (((k : Int), birth, iv, tag, s) : Pt) ≠ p0 := fun e => by
  have : birth = 0 := congrArg (fun p : Pt => p.2.1) e
  omega

/-! What is seen. -/
theorem seenO_put (S : StL) {k birth : Nat} (hb : 1 ≤ birth) (iv tag : Nat) (b : List UInt8) : seenO (putAt S k b) ((k : Int), birth, iv, tag, sumOf b) = (b, 0) := by
  unfold seenO
  rw [if_neg (ptr_not hb _ _ _)]
  have e : seenS (putAt S k b) ((k : Int)).toNat = b := by rw [seenS_put, if_pos (Int.toNat_natCast k)]
  simp only
  rw [e, if_pos rfl]
theorem seenO_far (S : StL) {k : Nat} {b : List UInt8} {p : Pt} (hp : MayP p) (h : p.1 ≠ (k : Int)) : seenO (putAt S k b) p = seenO S p := by
  unfold seenO
  by_cases h0 : p = p0
  · rw [if_pos h0, if_pos h0]
  · obtain ⟨j, h1, _, _⟩ := mayP_at hp h0
    have hj : p.1.toNat ≠ k := by omega
    rw [if_neg h0, if_neg h0, seenS_put, if_neg hj]
theorem seenO_disk {S T : StL} (h : S.1 = T.1) (p : Pt) : seenO S p = seenO T p := by
  unfold seenO seenS
  rw [h]
theorem lookO_may {S : StL} {p : Pt} (h : MayS S) (hp : MayP p) : lookO S p = seenO S p := by unfold lookO; rw [if_pos ⟨h, hp⟩]
theorem lookO_no {S : StL} {p : Pt} (h : ¬ (MayS S ∧ MayP p)) : lookO S p = ([], 8) := by unfold lookO; rw [if_neg h]
/-- Where a pointer is looked at, it may be, and its block is one. -/
theorem lookO_ok {S : StL} {p : Pt} {b : List UInt8} (h : lookO S p = (b, 0)) : MayS S ∧ MayP p ∧ p ≠ p0 ∧ seenO S p = (b, 0) := by
  unfold lookO at h
  split at h
  · next hm =>
    refine ⟨hm.1, hm.2, fun e => ?_, h⟩
    unfold seenO at h
    rw [if_pos e] at h
    cases h
  · cases h

/-! What is sealed is opened. -/
theorem openedO_sealed (S : StL) {k birth : Nat} (hb : 1 ≤ birth) (iv : Nat) {key : List UInt8} (hk : key.length = 16) (b : List UInt8) :
    openedO (putAt S k (turnW' key iv b)) ((k : Int), birth, iv, (sealW key iv (turnW' key iv b)).toNat, sumOf (turnW' key iv b)) key = (b, 0) := by
  unfold openedO
  rw [seenO_put S hb]
  simp only
  rw [if_neg (by simp), if_neg (by omega), if_pos trivial, turnW'_twice]

/-! Given up. -/
/-- A store with a block given up. -/
@[reducible] def giveAt (S : StL) (k : Nat) : StL := (S.1, S.2.1.set k 2, S.2.2.1, S.2.2.2)
theorem giveAt_may {S : StL} (h : MayS S) {k : Nat} (hk : 12 ≤ k ∧ k < 256) : MayS (giveAt S k) := ⟨h.1, set_may h.2.1 hk.1 hk.2 2 (by decide), h.2.2⟩
theorem giveSO_cases (S : StL) (p : Pt) : (∃ e, giveSO S p = (st0, e) ∧ e ≠ 0) ∨ (∃ k : Nat, MayS S ∧ MayP p ∧ p ≠ p0 ∧ p.1 = (k : Int) ∧ (12 ≤ k ∧ k < 256) ∧ mkT S.2.1 k = 1 ∧ giveSO S p = (giveAt S k, 0)) := by
  by_cases hm : MayS S ∧ MayP p
  · by_cases h0 : p = p0 ∨ mkT S.2.1 p.1.toNat ≠ 1
    · exact .inl ⟨6, by unfold giveSO; rw [if_pos hm, if_pos h0], by decide⟩
    · have h1 : p ≠ p0 := fun e => h0 (.inl e)
      have h2 : mkT S.2.1 p.1.toNat = 1 := Classical.byContradiction fun e => h0 (.inr e)
      obtain ⟨k, e, a, c⟩ := mayP_at hm.2 h1
      have ek : p.1.toNat = k := by omega
      rw [ek] at h2
      refine .inr ⟨k, hm.1, hm.2, h1, e, ⟨a, c⟩, h2, ?_⟩
      unfold giveSO
      rw [if_pos hm, if_neg h0, ek]
  · exact .inl ⟨8, by unfold giveSO; rw [if_neg hm], by decide⟩
theorem give_twice {S : StL} {p : Pt} {k : Nat} (hm : MayS S) (hp : MayP p) (e : p.1 = (k : Int)) (hk : 12 ≤ k ∧ k < 256) : giveSO (giveAt S k) p = (st0, 6) := by
  unfold giveSO
  rw [if_pos ⟨giveAt_may hm hk, hp⟩, if_pos]
  refine .inr ?_
  show mkT (S.2.1.set k 2) p.1.toNat ≠ 1
  rw [mkT_set S.2.1 k 2 _ (by rw [hm.2.1.1]; exact hk.2), if_pos (by omega)]
  decide
theorem give_look {S : StL} {p : Pt} {k : Nat} (hm : MayS S) (hp : MayP p) (hk : 12 ≤ k ∧ k < 256) : lookO (giveAt S k) p = lookO S p := by
  rw [lookO_may hm hp, lookO_may (giveAt_may hm hk) hp]
  exact seenO_disk rfl p
theorem give_mark {S : StL} {k i : Nat} (hl : S.2.1.length = 256) (hk : k < 256) : mkT (giveAt S k).2.1 i = if i = k then 2 else mkT S.2.1 i := mkT_set S.2.1 k 2 i (by omega)
theorem put_mark {S : StL} {k i : Nat} {b : List UInt8} (hl : S.2.1.length = 256) (hk : k < 256) : mkT (putAt S k b).2.1 i = if i = k then 1 else mkT S.2.1 i := mkT_set S.2.1 k 1 i (by omega)

/-! What the four that lay answer. -/
theorem rawO_cases (S : StL) (birth iv tag : Nat) (b : List UInt8) : (∃ e, rawO S birth iv tag b = (st0, p0, e) ∧ e ≠ 0 ∧ (MayS S → 1 ≤ birth ∧ birth ≤ 16777215 → b.length = 256 → freeTo S.2.1 256 = [] ∨ 4096 ≤ S.1.2.length)) ∨
    (∃ k r, MayS S ∧ (1 ≤ birth ∧ birth ≤ 16777215) ∧ b.length = 256 ∧ (12 ≤ k ∧ k < 256) ∧ mkT S.2.1 k = 0 ∧ S.1.2.length < 4096 ∧ freeTo S.2.1 256 = k :: r ∧ rawO S birth iv tag b = (putAt S k b, ((k : Int), birth, iv, tag, sumOf b), 0)) := by
  by_cases h1 : MayS S
  · by_cases h2 : 1 ≤ birth ∧ birth ≤ 16777215
    · by_cases h3 : b.length = 256
      · rcases putS_cases h1.2.1 birth iv tag b with ⟨h, hn⟩ | ⟨k, r, hk, hz, _, hw, hf, h⟩
        · exact .inl ⟨9, by unfold rawO; rw [if_pos h1, if_pos h2, if_pos h3, h]; rfl, by decide, fun _ _ _ => hn⟩
        · exact .inr ⟨k, r, h1, h2, h3, hk, hz, hw, hf, by unfold rawO; rw [if_pos h1, if_pos h2, if_pos h3, h]; rfl⟩
      · exact .inl ⟨3, by unfold rawO; rw [if_pos h1, if_pos h2, if_neg h3], by decide, fun _ _ h => absurd h h3⟩
    · exact .inl ⟨2, by unfold rawO; rw [if_pos h1, if_neg h2], by decide, fun _ h _ => absurd h h2⟩
  · exact .inl ⟨8, by unfold rawO; rw [if_neg h1], by decide, fun h _ _ => absurd h h1⟩
/-- The number of a block sealed. -/
@[reducible] def ivS (S : StL) : Nat := S.2.2.1 * 65536 + (S.2.2.2 + 1)
/-- A store with a block sealed. -/
@[reducible] noncomputable def sealAt (S : StL) (k : Nat) (key b : List UInt8) : StL := putAt (S.1, S.2.1, S.2.2.1, S.2.2.2 + 1) k (turnW' key (ivS S) b)
/-- Its pointer. -/
@[reducible] noncomputable def sealP (S : StL) (k birth : Nat) (key b : List UInt8) : Pt := ((k : Int), birth, ivS S, (sealW key (ivS S) (turnW' key (ivS S) b)).toNat, sumOf (turnW' key (ivS S) b))
theorem sealO_cases (S : StL) (birth : Nat) (key b : List UInt8) : (∃ e, sealO S birth key b = (st0, p0, e) ∧ e ≠ 0) ∨
    (∃ k r, MayS S ∧ (1 ≤ birth ∧ birth ≤ 16777215) ∧ key.length = 16 ∧ b.length = 256 ∧ S.2.2.2 < 65535 ∧ (12 ≤ k ∧ k < 256) ∧ mkT S.2.1 k = 0 ∧ S.1.2.length < 4096 ∧ freeTo S.2.1 256 = k :: r ∧ sealO S birth key b = (sealAt S k key b, sealP S k birth key b, 0)) := by
  by_cases h1 : MayS S
  · by_cases h2 : 1 ≤ birth ∧ birth ≤ 16777215
    · by_cases h3 : key.length = 16 ∧ b.length = 256
      · rcases Nat.lt_or_ge S.2.2.2 65535 with hc | hc
        · have hT : MayT ((S.1, S.2.1, S.2.2.1, S.2.2.2 + 1) : StL).2.1 := h1.2.1
          rcases putS_cases hT birth (ivS S) (sealW key (ivS S) (turnW' key (ivS S) b)).toNat (turnW' key (ivS S) b) with ⟨h, _⟩ | ⟨k, r, hk, hz, _, hw, hf, h⟩
          · exact .inl ⟨9, by unfold sealO; rw [if_pos h1, if_pos h2, if_pos h3]; unfold sealedO; rw [if_neg (by omega), h]; rfl, by decide⟩
          · exact .inr ⟨k, r, h1, h2, h3.1, h3.2, hc, hk, hz, hw, hf, by unfold sealO; rw [if_pos h1, if_pos h2, if_pos h3]; unfold sealedO; rw [if_neg (by omega), h]; rfl⟩
        · exact .inl ⟨132, by unfold sealO; rw [if_pos h1, if_pos h2, if_pos h3]; unfold sealedO; rw [if_pos hc], by decide⟩
      · exact .inl ⟨3, by unfold sealO; rw [if_pos h1, if_pos h2, if_neg h3], by decide⟩
    · exact .inl ⟨2, by unfold sealO; rw [if_pos h1, if_neg h2], by decide⟩
  · exact .inl ⟨8, by unfold sealO; rw [if_neg h1], by decide⟩
theorem sealAt_may {S : StL} (h : MayS S) (hc : S.2.2.2 < 65535) {k : Nat} (hk : 12 ≤ k ∧ k < 256) {b : List UInt8} (hb : b.length = 256) (hw : S.1.2.length < 4096) (key : List UInt8) : MayS (sealAt S k key b) :=
  putAt_may (count_may h hc) hk (by rw [turnW'_length]; exact hb) hw
theorem open_sealed {S : StL} (h : MayS S) (hc : S.2.2.2 < 65535) {k birth : Nat} (hk : 12 ≤ k ∧ k < 256) (hbi : 1 ≤ birth ∧ birth ≤ 16777215) {key b : List UInt8} (hkey : key.length = 16) (hb : b.length = 256) (hw : S.1.2.length < 4096) :
    openO (sealAt S k key b) (sealP S k birth key b) key = (b, 0) := by
  unfold openO
  rw [if_pos ⟨sealAt_may h hc hk hb hw key, ptr_may hk hbi _ _ _⟩]
  exact openedO_sealed _ hbi.1 _ hkey b
theorem ivS_lt {S : StL} (h : MayS S) (hc : S.2.2.2 < 65535) : ivS S < 4294967296 ∧ ivS S / 65536 = S.2.2.1 := by
  have := h.2.2.1.2
  unfold ivS
  omega

/-! A byte that lasts is turned. -/
theorem kept_turned {D : DkL} {p q : Nat} {b : UInt8} (hp : p < 256) : leftD (turnedD (keptD D fun _ => true) p q b) (fun _ => true) p = (leftD D (fun _ => true) p).set q ((leftD D (fun _ => true) p).getD q 0 ^^^ b) := by
  have e : leftD (turnedD (keptD D fun _ => true) p q b) (fun _ => true) p = (turnedD (keptD D fun _ => true) p q b).1.getD p [] := rfl
  rw [e]
  show (List.set _ _ _).getD p [] = _
  rw [getD_set _ _ _ _ _ (by rw [keptD_length]; exact hp), if_pos rfl, keptD_get D _ p hp]
theorem found_turned {S : StL} {k birth iv tag q : Nat} {b : List UInt8} {y : UInt8} (hm : MayS (putAt S k b)) (hk : 12 ≤ k ∧ k < 256) (hbi : 1 ≤ birth ∧ birth ≤ 16777215) :
    lookO (turnedD (keptD (putAt S k b).1 fun _ => true) k q y, (putAt S k b).2.1, S.2.2.1, S.2.2.2) ((k : Int), birth, iv, tag, sumOf b) =
      if sumOf (b.set q (b.getD q 0 ^^^ y)) = sumOf b then (b.set q (b.getD q 0 ^^^ y), 0) else ([], 130) := by
  have hm2 : MayS ((turnedD (keptD (putAt S k b).1 fun _ => true) k q y, (putAt S k b).2.1, S.2.2.1, S.2.2.2) : StL) := ⟨turned_may (keptD_may hm.1 _), hm.2.1, hm.2.2⟩
  rw [lookO_may hm2 (ptr_may hk hbi _ _ _)]
  unfold seenO
  rw [if_neg (ptr_not hbi.1 _ _ _)]
  have e : seenS ((turnedD (keptD (putAt S k b).1 fun _ => true) k q y, (putAt S k b).2.1, S.2.2.1, S.2.2.2) : StL) ((k : Int)).toNat = b.set q (b.getD q 0 ^^^ y) := by
    have e1 := kept_turned (D := (putAt S k b).1) (p := k) (q := q) (b := y) hk.2
    have e2 : leftD (putAt S k b).1 (fun _ => true) k = b := by rw [leftD_withD, if_pos rfl]
    rw [e2] at e1
    exact e1
  simp only at e ⊢
  rw [e]
theorem set_nothing {s : List UInt8} {q : Nat} (hq : q < s.length) : s.set q (s.getD q 0 ^^^ 0) = s := by
  have : s.getD q 0 = s[q] := by rw [List.getD_eq_getElem?_getD, List.getElem?_eq_getElem hq]; rfl
  rw [this, UInt8.xor_zero, List.set_getElem_self]
end Go.Proofs.Ytdpmdlibgabjaaa
/-
  Words for lists of whole numbers (Go's []int with no number below nought): a slice that reads as them; appends to a slice of one's own; a cell of it.
-/
namespace Go.Proofs.Ytdpmdlibgabjaaa
open Go.RowKit Go.Shelf
set_option maxRecDepth 100000

/-- The values of numbers. -/
def valsN (s : List Nat) : List Value := s.map fun x : Nat => .int .i64 (x : Int)
theorem valsN_length (s : List Nat) : (valsN s).length = s.length := by simp [valsN]
theorem valsN_append (s t : List Nat) : valsN s ++ valsN t = valsN (s ++ t) := by simp [valsN]
theorem valsN_get {s : List Nat} {j : Nat} {u : Value} (h : (valsN s)[j]? = some u) : ∃ hj : j < s.length, u = .int .i64 ((s[j] : Nat) : Int) := by
  rw [valsN, List.getElem?_map] at h
  rcases Nat.lt_or_ge j s.length with hj | hj
  · rw [List.getElem?_eq_getElem hj] at h
    exact ⟨hj, (Option.some.inj h).symm⟩
  · rw [List.getElem?_eq_none hj] at h; cases h

/-- A slice of numbers that lies below block B reads as s. -/
def Nsl (w : World) (B : Nat) (a : Option Addr) (len cap : Nat) (s : List Nat) : Prop :=
  s.length = len ∧ len ≤ cap ∧ cap ≤ maxLen ∧ (a = none → cap = 0) ∧
    (0 < len → ∃ b off, a = some ⟨b, off, none⟩ ∧ b < B ∧ ∀ i (h : i < s.length), w.cell? ⟨b, off + i, none⟩ = some (.int .i64 ((s[i] : Nat) : Int)))
theorem Nsl.below {w w' : World} {B : Nat} {a : Option Addr} {len cap : Nat} {s : List Nat} (h : Nsl w B a len cap s) (hb : Below B w w') : Nsl w' B a len cap s := by
  obtain ⟨h1, h2, h3, h4, h5⟩ := h
  refine ⟨h1, h2, h3, h4, fun hl => ?_⟩
  obtain ⟨b, off, e, hlt, hc⟩ := h5 hl
  exact ⟨b, off, e, hlt, fun i hi => (hb.cell (p := ⟨b, off + i, none⟩) hlt).trans (hc i hi)⟩
theorem Nsl.more {w : World} {B B' : Nat} {a : Option Addr} {len cap : Nat} {s : List Nat} (h : Nsl w B a len cap s) (hB : B ≤ B') : Nsl w B' a len cap s := by
  obtain ⟨h1, h2, h3, h4, h5⟩ := h
  refine ⟨h1, h2, h3, h4, fun hl => ?_⟩
  obtain ⟨b, off, e, hlt, hc⟩ := h5 hl
  exact ⟨b, off, e, by omega, hc⟩
theorem Nsl.step {w w' : World} {a : Option Addr} {len cap : Nat} {s : List Nat} (h : Nsl w w.heap.size a len cap s) (hb : Below w.heap.size w w') : Nsl w' w'.heap.size a len cap s := (h.below hb).more hb.size
theorem Nsl.cellD {w : World} {B g off len cap : Nat} {s : List Nat} (h : Nsl w B (some ⟨g, off, none⟩) len cap s) (i : Nat) (hi : i < len) : w.cell? ⟨g, off + i, none⟩ = some (.int .i64 ((s.getD i 0 : Nat) : Int)) := by
  obtain ⟨b, o, e, _, hc⟩ := h.2.2.2.2 (by omega)
  cases e
  have hl : i < s.length := by rw [h.1]; exact hi
  rw [hc i hl, List.getD_eq_getElem?_getD, List.getElem?_eq_getElem hl]
  rfl
theorem Nsl.cell0 {w : World} {B g len cap : Nat} {s : List Nat} (h : Nsl w B (some ⟨g, 0, none⟩) len cap s) (i : Nat) (hi : i < len) : w.cell? ⟨g, i, none⟩ = some (.int .i64 ((s.getD i 0 : Nat) : Int)) := by
  have := h.cellD i hi
  rwa [Nat.zero_add] at this

theorem infoInt : (Try.prog.info? 3).map (fun i => (i.zero, i.size, i.bytes)) = some (some (.int .i64 0), 1, 8) := by kernel_rfl

theorem wpList_append_nsl {w : World} {ops : Array Oper} {rest : List Oper} {o : Oper} {a : Act} {Q : Exit → Act → World → Prop} (hgd : o.guard = none) (s x : Operand)
    (ho : o.op = .call { callee := .builtin .append, args := #[s, x], argTypes := #[49, 49] })
    (base : Nat) (v : Value) (n : Nat) (xs : List Nat) (hs : a.eval s = v) (hown : w.ownsRow base 3 1 v n (valsN xs))
    (B : Nat) (A : Option Addr) (m c : Nat) (news : List Nat) (hx : a.eval x = .slice A m c) (hr : Nsl w B A m c news)
    (hnm : n + m ≤ 100000) (hbase : base ≤ w.heap.size)
    (h : ∀ v' w', w'.ownsRow base 3 1 v' (n + m) (valsN (xs ++ news)) → w.grownBy w' v.ownBlock → wpList Try.prog ops Q rest (a.put o.dst v') w') : wpList Try.prog ops Q (o :: rest) a w := by
  obtain ⟨i0, hi, hz0, hz1, hz2⟩ := info_parts infoInt
  obtain ⟨h1, h2, h3, h4, h5⟩ := hr
  have e0 : m = 0 → news = [] := fun e => List.eq_nil_of_length_eq_zero (by omega)
  cases A with
  | none =>
    have hc := h4 rfl
    have hm : m = 0 := by omega
    subst hm; subst hc
    obtain rfl := e0 rfl
    refine wpList_append_own_none hgd s x 49 ho base 3 i0 1 Try.underlying49 hi v n (valsN xs) hs hown hx ?_
    exact h v w (by simpa using hown) (World.grownBy.refl w _)
  | some ad =>
    refine wpList_append_own w hgd s x 49 ho base 3 i0 (.int .i64 0) 1 8 Try.underlying49 hi hz0 hz1 hz2 rfl (by decide) v n (valsN xs) hs hown ad m c (valsN news) hx (by simp [valsN, h1]) (fun j u hu => ?_) (fun u hu => ?_) (by unfold maxLen; omega) (by omega) hbase ?_
    · obtain ⟨hj, rfl⟩ := valsN_get hu
      obtain ⟨b, off, e, _, hc⟩ := h5 (by omega)
      cases e
      rw [← hc j hj]
      congr 1
      unfold Addr.add
      split <;> simp_all
    · obtain ⟨y, _, rfl⟩ := List.mem_map.1 hu
      rfl
    · intro v' w' h2 h3 _
      exact h v' w' (by rw [← valsN_append]; exact h2) h3

/-- Numbers in a row of one's own: where they lie. -/
theorem nsl_of_own {w : World} {base n : Nat} {v : Value} {s : List Nat} (h : w.ownsRow base 3 1 v n (valsN s)) (hn : 0 < n) :
    ∃ g cap, v = .slice (some ⟨g, 0, none⟩) n cap ∧ base ≤ g ∧ g < w.heap.size ∧ Nsl w w.heap.size (some ⟨g, 0, none⟩) n cap s := by
  have hl : s.length = n := by have := h.1; simpa [valsN] using this
  obtain ⟨h1, h2 | ⟨g, cap, cur, rfl, hb, hh, hnc, hcm, hsz, ht⟩⟩ := h
  · omega
  · have hg : g < w.heap.size := (Array.getElem?_eq_some_iff.1 hh).1
    refine ⟨g, cap, rfl, hb, hg, hl, hnc, hcm, fun e => (by cases e), fun _ => ⟨g, 0, rfl, hg, fun i hi => ?_⟩⟩
    rw [Nat.zero_add, cell_of_row w g i cur 3 (0, 0) hh]
    have : (valsN s)[i]? = some (.int .i64 ((s[i] : Nat) : Int)) := by simp [valsN, hi]
    rw [← ht, List.getElem?_take_of_lt (by omega)] at this
    rw [← this, Array.getElem?_toList]
/-- A new block of numbers, as a slice. -/
theorem nsl_blk {w : World} {g : Nat} {s : List Nat} (h : Blk w g 3 (valsN s).toArray) (hs : s.length ≤ 100000) : Nsl w w.heap.size (some ⟨g, 0, none⟩) s.length s.length s :=
  ⟨rfl, Nat.le_refl _, by unfold maxLen; omega, fun e => (by cases e), fun _ => ⟨g, 0, rfl, h.lt, fun i hi => by
    rw [Nat.zero_add, h.cell i]
    simp [valsN, hi]⟩⟩
/-- Behind a new number: the number's own slice. -/
theorem one_nsl (w : World) (x : Nat) : Nsl (w.alloc (.cells #[.int .i64 (x : Int)] 3)) (w.alloc (.cells #[.int .i64 (x : Int)] 3)).heap.size (some ⟨w.heap.size, 0, none⟩) 1 1 [x] :=
  nsl_blk (s := [x]) (Blk.new w _ _) (by simp)
/-- A new list of n numbers s. -/
def NewN (n : Nat) (s : List Nat) (w : World) (e : Ending) (w' : World) : Prop :=
  ∃ v, e = .returned v ∧ w'.ownsRow w.heap.size 3 1 v n (valsN s) ∧ Below w.heap.size w w'
end Go.Proofs.Ytdpmdlibgabjaaa
/-
  space's own: marks, slices.IndexFunc and ContainsFunc over bytes, whether a table may be, bytes.Clone, a table with another mark, the closure that tells the free blocks.
-/
namespace Go.Proofs.Ytdpmdlibgabjaaa
open Go.RowKit Go.Shelf
set_option maxRecDepth 100000

theorem Bsl.mk {w : World} {B g off len cap : Nat} {s : List UInt8} (h : Bsl w B (some ⟨g, off, none⟩) len cap s) (i : Nat) (hi : i < len) : w.cell? ⟨g, off + i, none⟩ = some (.int .u8 ((mkT s i : Nat) : Int)) := h.cellD i hi
theorem Bsl.at_ {w : World} {B len cap : Nat} {a : Option Addr} {s : List UInt8} (h : Bsl w B a len cap s) (h0 : 0 < len) : ∃ b off, a = some ⟨b, off, none⟩ ∧ b < B := by
  obtain ⟨b, off, e, hb, _⟩ := h.2.2.2.2 h0
  exact ⟨b, off, e, hb⟩

theorem isNoMark_any (x : Nat) (hx : x < 256) (w : World) : Calls Try.prog 63 #[.int .u8 x] w fun e w' => e = .returned (.bool (decide (2 < x))) ∧ w = w' := by
  have x0 : (0 : Int) ≤ x := by omega
  by_cases h0 : x = 0
  · subst h0
    go_enter Try.func63, Try.ntmps63
    go_wp2_with fail
    go_ret
    exact ⟨rfl, rfl⟩
  · have e0 : ((x : Int) != 0) = true := by simp; omega
    by_cases h1 : x = 1
    · subst h1
      go_enter Try.func63, Try.ntmps63
      go_wp2_with fail
      go_ret
      exact ⟨rfl, rfl⟩
    · have e1 : ((x : Int) != 1) = true := by simp; omega
      by_cases h2 : x = 2
      · subst h2
        go_enter Try.func63, Try.ntmps63
        go_wp2_with fail
        go_ret
        exact ⟨rfl, rfl⟩
      · have e2 : ((x : Int) != 2) = true := by simp; omega
        have e3 : decide (2 < x) = true := decide_eq_true (by omega)
        rw [e3]
        clear h0 h1 h2 e3
        go_enter Try.func63, Try.ntmps63
        go_wp2_with fail
        go_ret
        exact ⟨rfl, rfl⟩
theorem isNotUsed_any (x : Nat) (hx : x < 256) (w : World) : Calls Try.prog 64 #[.int .u8 x] w fun e w' => e = .returned (.bool (decide (x ≠ 1))) ∧ w = w' := by
  have x0 : (0 : Int) ≤ x := by omega
  by_cases h1 : x = 1
  · subst h1
    go_enter Try.func64, Try.ntmps64
    go_wp2_with fail
    go_ret
    exact ⟨rfl, rfl⟩
  · have e1 : ((x : Int) != 1) = true := by simp; omega
    have e3 : decide (x ≠ 1) = true := decide_eq_true (by omega)
    rw [e3]
    clear h1 e3
    go_enter Try.func64, Try.ntmps64
    go_wp2_with fail
    go_ret
    exact ⟨rfl, rfl⟩
/-- slices.IndexFunc over bytes: none is odd. -/
theorem spIndex_none (F : Nat) (p : Nat → Bool) (hFF : F = 63 ∨ F = 64) (hF : ∀ x : Nat, x < 256 → ∀ W : World, Calls Try.prog F #[.int .u8 x] W fun e w' => e = .returned (.bool (p x)) ∧ W = w') (a : Option Addr) (n c B : Nat) (s : List UInt8) (w : World) (hA : Bsl w B a n c s) (hall : ∀ i, i < n → p (mkT s i) = false) :
    Calls Try.prog 83 #[.slice a n c, .func (.func F) #[] #[]] w fun e w' => e = .returned (.int .i64 (-1)) ∧ w = w' := by
  have n0 : (0 : Int) ≤ n := by omega
  have n1 := hA.len_le
  have HA := Lib.hid hA
  have HL := Lib.hid hall
  have HF := Lib.hid hF
  clear hA hall hF
  rcases hFF with rfl | rfl
  all_goals
    go_enter Try.func83, Try.ntmps83
    go_wp2_with fail
    go_loop [8] (fun i => ∃ k : Nat, k ≤ n ∧ i = .int .i64 k) (fun i => n - (intOf i).toNat)
    case atStart => exact ⟨0, Nat.zero_le _, rfl⟩
    case round =>
      obtain ⟨k, hk, rfl⟩ := hrel
      have k0 : (0 : Int) ≤ k := by omega
      by_cases hlt : k < n
      · have k1 : (k : Int) < n := by omega
        obtain ⟨b, off, rfl, _⟩ := HA.out.at_ (by omega)
        have hc := HA.out.mk k hlt
        have hx := HF.out (mkT s k) (mkT_lt s k) w
        rw [HL.out k hlt] at hx
        have HX := Lib.hid hx
        clear hx
        go_wp2_with fail
        refine HX.out.mono ?_
        rintro e w1 ⟨rfl, rfl⟩
        go_wp2_with fail
        go_round
        case rel => exact ⟨k + 1, by omega, by go_num⟩
        case measure => simp [intOf]; omega
      · obtain rfl : k = n := by omega
        go_wp2_with fail
        go_ret
        exact ⟨rfl, rfl⟩
/-- One is odd. -/
theorem spIndex_some (F : Nat) (p : Nat → Bool) (hFF : F = 63 ∨ F = 64) (hF : ∀ x : Nat, x < 256 → ∀ W : World, Calls Try.prog F #[.int .u8 x] W fun e w' => e = .returned (.bool (p x)) ∧ W = w') (a : Option Addr) (n c B : Nat) (s : List UInt8) (w : World) (hA : Bsl w B a n c s) (j : Nat) (hj : j < n) (hat : p (mkT s j) = true) (hall : ∀ i, i < j → p (mkT s i) = false) :
    Calls Try.prog 83 #[.slice a n c, .func (.func F) #[] #[]] w fun e w' => e = .returned (.int .i64 j) ∧ w = w' := by
  have n0 : (0 : Int) ≤ n := by omega
  have n1 := hA.len_le
  obtain ⟨b, off, rfl, _⟩ := hA.at_ (by omega)
  have HA := Lib.hid hA
  have HL := Lib.hid hall
  have HAT := Lib.hid hat
  have HF := Lib.hid hF
  clear hA hall hF hat
  rcases hFF with rfl | rfl
  all_goals
    go_enter Try.func83, Try.ntmps83
    go_wp2_with fail
    go_loop [8] (fun i => ∃ k : Nat, k ≤ j ∧ i = .int .i64 k) (fun i => n - (intOf i).toNat)
    case atStart => exact ⟨0, Nat.zero_le _, rfl⟩
    case round =>
      obtain ⟨k, hk, rfl⟩ := hrel
      have k0 : (0 : Int) ≤ k := by omega
      have hlt : k < n := by omega
      have k1 : (k : Int) < n := by omega
      have hc := HA.out.mk k hlt
      have hx := HF.out (mkT s k) (mkT_lt s k) w
      by_cases hkj : k < j
      · rw [HL.out k hkj] at hx
        have HX := Lib.hid hx
        clear hx
        go_wp2_with fail
        refine HX.out.mono ?_
        rintro e w1 ⟨rfl, rfl⟩
        go_wp2_with fail
        go_round
        case rel => exact ⟨k + 1, by omega, by go_num⟩
        case measure => simp [intOf]; omega
      · have hkj' : k = j := by omega
        rw [hkj', HAT.out] at hx
        rw [hkj'] at hc k0 k1 ⊢
        have HX := Lib.hid hx
        clear hx hkj hkj' hk hlt
        go_wp2_with fail
        refine HX.out.mono ?_
        rintro e w1 ⟨rfl, rfl⟩
        go_wp2_with fail
        go_ret
        exact ⟨rfl, rfl⟩
theorem spContains_none (F : Nat) (p : Nat → Bool) (hFF : F = 63 ∨ F = 64) (hF : ∀ x : Nat, x < 256 → ∀ W : World, Calls Try.prog F #[.int .u8 x] W fun e w' => e = .returned (.bool (p x)) ∧ W = w') (a : Option Addr) (n c B : Nat) (s : List UInt8) (w : World) (hA : Bsl w B a n c s) (hall : ∀ i, i < n → p (mkT s i) = false) :
    Calls Try.prog 62 #[.slice a n c, .func (.func F) #[] #[]] w fun e w' => e = .returned (.bool false) ∧ w = w' := by
  have HX := Lib.hid (spIndex_none F p hFF hF a n c B s w hA hall)
  clear hF hA hall hFF
  go_enter Try.func62, Try.ntmps62
  go_wp2_with fail
  refine HX.out.mono ?_
  rintro e w1 ⟨rfl, rfl⟩
  go_wp2_with fail
  go_ret
  exact ⟨rfl, rfl⟩
theorem spContains_some (F : Nat) (p : Nat → Bool) (hFF : F = 63 ∨ F = 64) (hF : ∀ x : Nat, x < 256 → ∀ W : World, Calls Try.prog F #[.int .u8 x] W fun e w' => e = .returned (.bool (p x)) ∧ W = w') (a : Option Addr) (n c B : Nat) (s : List UInt8) (w : World) (hA : Bsl w B a n c s) (i : Nat) (hi : i < n) (hat : p (mkT s i) = true) :
    Calls Try.prog 62 #[.slice a n c, .func (.func F) #[] #[]] w fun e w' => e = .returned (.bool true) ∧ w = w' := by
  rcases first_from (fun k => p (mkT s k) = true) 0 n with ⟨j, _, hj, hpj, hall⟩ | h
  · have HX := Lib.hid (spIndex_some F p hFF hF a n c B s w hA j hj hpj fun k hk => by simpa using hall k (by omega) hk)
    clear hF hA hall hat hFF
    have j0 : (0 : Int) ≤ j := by omega
    go_enter Try.func62, Try.ntmps62
    go_wp2_with fail
    refine HX.out.mono ?_
    rintro e w1 ⟨rfl, rfl⟩
    go_wp2_with fail
    go_ret
    exact ⟨rfl, rfl⟩
  · exact absurd hat (h i (by omega) hi)
/-- A table may be. -/
theorem spMay_yes (a : Option Addr) (n c B : Nat) (s : List UInt8) (w : World) (hA : Bsl w B a n c s) (h : MayT s) :
    Calls Try.prog 35 #[.slice a n c] w fun e w' => e = .returned (.bool true) ∧ w = w' := by
  have hn : n = 256 := by rw [← hA.1]; exact h.1
  subst hn
  obtain ⟨b, off, rfl, _⟩ := hA.at_ (by omega)
  have hc : 256 ≤ c := hA.2.1
  have H1 := Lib.hid (spContains_none 63 (fun x => decide (2 < x)) (.inl rfl) (fun x hx W => isNoMark_any x hx W) _ 256 c B s w hA fun i hi => decide_eq_false (by have := h.2.1 i hi; omega))
  have hp := hA.pre 12 (by omega)
  have H2 := Lib.hid (spContains_none 64 (fun x => decide (x ≠ 1)) (.inr rfl) (fun x hx W => isNotUsed_any x hx W) _ 12 c B (s.take 12) w hp fun i hi => by
    have e : mkT (s.take 12) i = mkT s i := by
      unfold mkT
      rw [List.getD_eq_getElem?_getD, List.getElem?_take_of_lt hi, List.getD_eq_getElem?_getD]
    rw [e, h.2.2 i hi]; rfl)
  have HS : ∀ W : World, (Instr.slice 23 (.slice (some ⟨b, off, none⟩) 256 c) none (some (.int .i64 12)) none).run Try.prog W = .ok (.slice (some ⟨b, off, none⟩) 12 c) W := fun W => slice_h W b off 256 c 12 (by omega) (by omega)
  clear hA hp h
  go_enter Try.func35, Try.ntmps35
  go_wp2_with fail
  refine H1.out.mono ?_
  rintro e w1 ⟨rfl, rfl⟩
  go_wp2_with fail
  refine H2.out.mono ?_
  rintro e w1 ⟨rfl, rfl⟩
  go_wp2_with fail
  go_ret
  exact ⟨rfl, rfl⟩
theorem not_may {s : List UInt8} (h : ¬ MayT s) (hl : s.length = 256) : (∃ i, i < 256 ∧ 2 < mkT s i) ∨ ((∀ i, i < 256 → mkT s i ≤ 2) ∧ ∃ i, i < 12 ∧ mkT s i ≠ 1) := by
  rcases first_from (fun i => 2 < mkT s i) 0 256 with ⟨k, _, hk, h2, _⟩ | h1
  · exact .inl ⟨k, hk, h2⟩
  · have h1' : ∀ i, i < 256 → mkT s i ≤ 2 := fun i hi => by have := h1 i (by omega) hi; omega
    rcases first_from (fun i => mkT s i ≠ 1) 0 12 with ⟨k, _, hk, h2, _⟩ | h3
    · exact .inr ⟨h1', k, hk, h2⟩
    · exact absurd ⟨hl, h1', fun i hi => by have := h3 i (by omega) hi; omega⟩ h
theorem spMay_no (a : Option Addr) (n c B : Nat) (s : List UInt8) (w : World) (hA : Bsl w B a n c s) (h : ¬ MayT s) :
    Calls Try.prog 35 #[.slice a n c] w fun e w' => e = .returned (.bool false) ∧ w = w' := by
  by_cases hn : n = 256
  · subst hn
    obtain ⟨b, off, rfl, _⟩ := hA.at_ (by omega)
    have hc : 256 ≤ c := hA.2.1
    rcases not_may h hA.1 with ⟨i, hi, h2⟩ | ⟨h1, i, hi, h2⟩
    · have H1 := Lib.hid (spContains_some 63 (fun x => decide (2 < x)) (.inl rfl) (fun x hx W => isNoMark_any x hx W) _ 256 c B s w hA i hi (decide_eq_true h2))
      clear hA h h2
      go_enter Try.func35, Try.ntmps35
      go_wp2_with fail
      refine H1.out.mono ?_
      rintro e w1 ⟨rfl, rfl⟩
      go_wp2_with fail
      go_ret
      exact ⟨rfl, rfl⟩
    · have H1 := Lib.hid (spContains_none 63 (fun x => decide (2 < x)) (.inl rfl) (fun x hx W => isNoMark_any x hx W) _ 256 c B s w hA fun i hi => decide_eq_false (by have := h1 i hi; omega))
      have hp := hA.pre 12 (by omega)
      have e : mkT (s.take 12) i = mkT s i := by
        unfold mkT
        rw [List.getD_eq_getElem?_getD, List.getElem?_take_of_lt hi, List.getD_eq_getElem?_getD]
      have H2 := Lib.hid (spContains_some 64 (fun x => decide (x ≠ 1)) (.inr rfl) (fun x hx W => isNotUsed_any x hx W) _ 12 c B (s.take 12) w hp i hi (by rw [e]; exact decide_eq_true h2))
      have HS : ∀ W : World, (Instr.slice 23 (.slice (some ⟨b, off, none⟩) 256 c) none (some (.int .i64 12)) none).run Try.prog W = .ok (.slice (some ⟨b, off, none⟩) 12 c) W := fun W => slice_h W b off 256 c 12 (by omega) (by omega)
      clear hA hp h e h1 h2
      go_enter Try.func35, Try.ntmps35
      go_wp2_with fail
      refine H1.out.mono ?_
      rintro e w1 ⟨rfl, rfl⟩
      go_wp2_with fail
      refine H2.out.mono ?_
      rintro e w1 ⟨rfl, rfl⟩
      go_wp2_with fail
      go_ret
      exact ⟨rfl, rfl⟩
  · have n1 := hA.len_le
    have hb : ((n : Int) == 256) = false := by simp; omega
    clear hA h hn
    go_enter Try.func35, Try.ntmps35
    go_wp2_with fail
    go_ret
    exact ⟨rfl, rfl⟩
end Go.Proofs.Ytdpmdlibgabjaaa
/-
  space's own: bytes.Clone, a table with another mark, New, the closure that tells the free blocks.
-/
namespace Go.Proofs.Ytdpmdlibgabjaaa
open Go.RowKit Go.Shelf
set_option maxRecDepth 100000

set_option maxHeartbeats 1000000 in
theorem spClone_any (a : Option Addr) (n c : Nat) (s : List UInt8) (w : World) (hA : Bsl w w.heap.size a n c s) (h0 : 0 < n) (hn : n ≤ 20000) : Calls Try.prog 48 #[.slice a n c] w (OwnV n s w) := by
  obtain ⟨b, off, rfl, _⟩ := hA.at_ h0
  have HA := Lib.hid hA.2.2.2
  have b0 := (Below.refl w.heap.size w).alloc (Nat.le_refl _) (.cells #[] 5)
  have HB0 := Lib.hid b0
  have HS := Lib.hid (hA.step b0)
  have HO0 := Lib.hid (own_empty w)
  have HQ : (binOp .eql 23 (.slice (some ⟨b, off, none⟩) n c) (.slice none 0 0)).run Try.prog w = .ok (.bool false) w := by kernel_rfl
  clear hA b0
  go_enter Try.func48, Try.ntmps48
  go_wp2_with (at_builtin
               refine wpList_append_bsl rfl (.tmp 5) (.tmp 6) rfl w.heap.size _ 0 _ rfl HO0.out _ (some ⟨b, off, none⟩) n c s rfl HS.out (by omega) HB0.out.size ?_
               intro v1 W1 hown1 hg1
               rw [Nat.zero_add, List.nil_append] at hown1
               have HB1 := Lib.hid (app_below HB0.out HO0.out hg1 HB0.out.size); clear hg1
               have HO1 := Lib.hid hown1; clear hown1)
  go_ret
  exact ⟨_, rfl, HO1.out, HB1.out⟩
/-- A row of the call's own in which one byte is written. -/
theorem own_put {w : World} {B n c g : Nat} {s : List UInt8} (h : w.ownsRow B 5 1 (.slice (some ⟨g, 0, none⟩) n c) n (vals s)) (i : Nat) (_hi : i < n) (y : UInt8) : (w.setCell ⟨g, i, none⟩ (.int .u8 (y.toNat : Int))).ownsRow B 5 1 (.slice (some ⟨g, 0, none⟩) n c) n (vals (s.set i y)) := by
  obtain ⟨h1, ⟨h2, h3⟩ | ⟨g', cap', cur, h2, hb, hh, hnc, hcm, hsz, ht⟩⟩ := h
  · cases h2
  · cases h2
    refine ⟨by simpa [vals] using h1, .inr ⟨g, c, cur.setIfInBounds i (.int .u8 (y.toNat : Int)), rfl, hb, Blk.set_ (g := g) (t := 5) hh i _, hnc, hcm, by simpa using hsz, ?_⟩⟩
    rw [Array.toList_setIfInBounds, List.take_set, vals, List.map_set]
    have e : List.take (n * 1) cur.toList = vals s := by simpa using ht
    rw [show (List.take (n * 1) cur.toList) = vals s from e]
    rfl
theorem own_mk {w : World} {B n c g : Nat} {s : List UInt8} (h : w.ownsRow B 5 1 (.slice (some ⟨g, 0, none⟩) n c) n (vals s)) (i : Nat) (hi : i < n) : w.cell? ⟨g, i, none⟩ = some (.int .u8 ((mkT s i : Nat) : Int)) := by
  have := (own_bsl h).mk i hi
  rwa [Nat.zero_add] at this
theorem own_at {w : World} {B n : Nat} {v : Value} {s : List UInt8} (h : w.ownsRow B 5 1 v n (vals s)) (h0 : 0 < n) : ∃ g c, v = .slice (some ⟨g, 0, none⟩) n c := by
  obtain ⟨g, c, e, _⟩ := bsl_of_own h h0
  exact ⟨g, c, e⟩
/-- A table with another mark, in new memory. -/
theorem spWith_any (a : Option Addr) (n c : Nat) (s : List UInt8) (k : Nat) (y : UInt8) (w : World) (hA : Bsl w w.heap.size a n c s) (hk : k < n) (hn : n ≤ 20000) : Calls Try.prog 66 #[.slice a n c, .int .i64 k, .int .u8 (y.toNat : Int)] w (OwnV n (s.set k y) w) := by
  have HC := Lib.hid (spClone_any a n c s w hA (by omega) hn)
  clear hA
  have k0 : (0 : Int) ≤ k := by omega
  have k1 : (k : Int) < n := by omega
  obtain ⟨z, hz⟩ : ∃ z : Int, (y.toNat : Int) = z := ⟨_, rfl⟩
  have HZ := Lib.hid hz
  rw [hz]
  clear hz
  go_enter Try.func66, Try.ntmps66
  go_wp2_with fail
  refine HC.out.mono ?_
  rintro e w1 ⟨v, rfl, ho, b1⟩
  obtain ⟨g, c', rfl⟩ := own_at ho (by omega)
  have hc := own_mk ho k hk
  have hw := own_put ho k hk y
  rw [HZ.out] at hw
  have hlt := own_lt ho
  have HB := Lib.hid (b1.setCell (p := ⟨g, k, none⟩) hlt.1 (.int .u8 z))
  have HO := Lib.hid hw
  have hf : w1.frozen? ⟨g, k, none⟩ = false := by
    obtain ⟨cs, hbk⟩ := own_blk ho
    exact hbk.frozen k
  clear ho b1 hw hlt
  go_wp2_with fail
  go_ret
  exact ⟨_, rfl, HO.out, HB.out⟩
set_option maxHeartbeats 1000000 in
theorem spNew_any (w : World) : Calls Try.prog 22 #[] w (OwnV 256 (newTo 12) w) := by
  have hmk : ∀ W : World, (Instr.makeSlice 23 (.int .i64 256) (.int .i64 256)).run Try.prog W = .ok (.slice (some ⟨W.heap.size, 0, none⟩) 256 256) (W.alloc (.cells (Array.replicate 256 (.int .u8 0)) 5)) := fun W => by kernel_rfl
  obtain ⟨g, hg⟩ : ∃ g, w.heap.size = g := ⟨_, rfl⟩
  obtain ⟨w1, hw1⟩ : ∃ w1, w.alloc (.cells (Array.replicate 256 (.int .u8 0)) 5) = w1 := ⟨_, rfl⟩
  have hown : w1.ownsRow g 5 1 (.slice (some ⟨g, 0, none⟩) 256 256) 256 (vals (newTo 0)) := by
    subst hw1; subst hg
    refine ⟨by simp [vals, newTo], .inr ⟨w.heap.size, 256, Array.replicate 256 (.int .u8 0), rfl, Nat.le_refl _, heap_alloc_new w _, Nat.le_refl _, by unfold maxLen; omega, by simp, ?_⟩⟩
    simp [newTo, vals]
  have hb : Below g w w1 := by
    subst hw1; subst hg
    exact (Below.refl _ w).alloc (Nat.le_refl _) _
  have HO := Lib.hid hown
  have HB := Lib.hid hb
  have HG := Lib.hid hg
  have hmk' : (Instr.makeSlice 23 (.int .i64 256) (.int .i64 256)).run Try.prog w = .ok (.slice (some ⟨g, 0, none⟩) 256 256) w1 := by rw [hmk w, hg, hw1]
  clear hown hb hmk hw1 hg
  go_enter Try.func22, Try.ntmps22
  go_wp2_with fail
  go_loopw [4] (fun i wr => ∃ k : Nat, k ≤ 12 ∧ i = .int .i64 k ∧ wr.ownsRow g 5 1 (.slice (some ⟨g, 0, none⟩) 256 256) 256 (vals (newTo k)) ∧ Below g w wr) (fun i _ => 12 - (intOf i).toNat)
  case atStart => exact ⟨0, Nat.zero_le _, rfl, HO.out, HB.out⟩
  case round =>
    obtain ⟨k, hk, rfl, ho, hb⟩ := hrel
    have k0 : (0 : Int) ≤ k := by omega
    by_cases hlt : k < 12
    · have k1 : (k : Int) < 12 := by omega
      have hc := own_mk ho k (by omega)
      have hw := own_put ho k (by omega) 1
      rw [newTo_set (by omega)] at hw
      have HB2 := Lib.hid (hb.setCell (p := ⟨g, k, none⟩) (Nat.le_refl _) (.int .u8 1))
      have HO2 := Lib.hid (show (wr.setCell ⟨g, k, none⟩ (.int .u8 1)).ownsRow g 5 1 (.slice (some ⟨g, 0, none⟩) 256 256) 256 (vals (newTo (k + 1))) from hw)
      have hf : wr.frozen? ⟨g, k, none⟩ = false := by
        obtain ⟨cs, hbk⟩ := own_blk ho
        exact hbk.frozen k
      clear ho hb hw
      go_wp2_with fail
      go_roundw
      case rel => exact ⟨k + 1, by omega, by go_num, HO2.out, HB2.out⟩
      case measure => simp [intOf]; omega
    · have hkk : k = 12 := by omega
      rw [hkk] at ho ⊢
      have HO2 := Lib.hid ho
      have HB2 := Lib.hid hb
      clear ho hb hkk hlt hk k0
      go_wp2_with fail
      go_ret
      exact ⟨_, rfl, by rw [HG.out]; exact HO2.out, by rw [HG.out]; exact HB2.out⟩
/-- The closure that tells the free blocks: its place lies in block gp, the table's slice in block gs. -/
theorem spOnes_any (a : Option Addr) (n c : Nat) (w : World) : Calls Try.prog 36 #[.slice a n c] w fun e w' => ∃ gp gs, e = .returned (.func (.func 65) #[] #[.pointer (some ⟨gp, 0, none⟩), .pointer (some ⟨gs, 0, none⟩)]) ∧ w.heap.size ≤ gp ∧ w.heap.size ≤ gs ∧ gp ≠ gs ∧ Blk w' gp 3 #[.int .i64 0] ∧ Blk w' gs 23 #[.slice a n c] ∧ Below w.heap.size w w' := by
  have b1 := (Below.refl w.heap.size w).alloc (Nat.le_refl _) (.cells #[.slice a n c] 23)
  have b2 := b1.alloc b1.size (.cells #[.int .i64 0] 3)
  have z1 := (Blk.new w 23 #[.slice a n c]).alloc (.cells #[.int .i64 0] 3)
  have z2 := Blk.new (w.alloc (.cells #[.slice a n c] 23)) 3 #[.int .i64 0]
  have HB := Lib.hid b2
  have HZ1 := Lib.hid z1
  have HZ2 := Lib.hid z2
  clear b1 b2 z1 z2
  go_enter Try.func36, Try.ntmps36
  go_wp2_with fail
  go_ret
  refine ⟨_, _, rfl, by simp, by simp, by simp, ?_, HZ1.out, HB.out⟩
  have h := HZ2.out
  rw [World.size_alloc] at h
  exact h
end Go.Proofs.Ytdpmdlibgabjaaa
