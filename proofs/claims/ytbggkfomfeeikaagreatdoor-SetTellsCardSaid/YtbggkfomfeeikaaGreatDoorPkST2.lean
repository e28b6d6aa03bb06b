/-
  Texts of one seat, one behind the other.
-/
import Derived.Lib.AppendZeros
import Derived.RangeFuncNested
import Derived.Deep.RegionWith
import Derived.OwnWalk
import Derived.Deep.CutRange
import Derived.Deep.DeepCutAuto
import Derived.Laws.CopyOwn
import Derived.Test.YtbggkfomfeeikaaGreatDoorPkST1
/-
  dev.left tells what last ones leave of a block; the closures that tell marks.
-/
namespace Go.Proofs.YtbggkfomfeeikaaGreatDoor
open Go.RowKit Go.Shelf
set_option maxRecDepth 100000

/-- A list below block B that reads as s. -/
def ReadPost (B : Nat) (s : List UInt8) (w : World) (e : Ending) (w' : World) : Prop := ∃ A c, e = .returned (.slice A s.length c) ∧ Bsl w' B A s.length c s ∧ Below w.heap.size w w'
theorem wf64 {p : Int} (h0 : -9223372036854775808 ≤ p) (h1 : p ≤ 9223372036854775807) : (Lit.int .i64 p).wf = true := by simp [Lit.wf, IntKind.min, IntKind.max, IntKind.signed, IntKind.bits]; omega
set_option maxHeartbeats 1000000 in
theorem dLeft_some (B : Nat) (x : DAt) (D : DkL) (g N : Nat) (f : Int → Option Nat) (p : Int) (i : Nat) (w : World) (hB : B ≤ w.heap.size) (h : Dsk w B x D) (hM : MapI w g N f) (hp : (Lit.int .i64 p).wf = true) (hf : f p = some i) (hi : i < D.2.length) :
    Calls Tryz.prog 112 #[dval x D, .map (some g), .int .i64 p] w (ReadPost B (wr_ D.2 i).2 w) := by
  obtain ⟨b, off, q, A, l, c, s, hbe, hlb, hl, _, hc, hd, hA⟩ := h.2.at_ hi
  obtain ⟨ba, bc, wa, wc⟩ := x
  obtain rfl : wa = some ⟨b, off, none⟩ := hbe
  simp only [dval]
  have m1 := h.2.len_le
  obtain ⟨n, hn⟩ : ∃ n, D.1.length = n := ⟨_, rfl⟩
  obtain ⟨m, hm⟩ : ∃ m, D.2.length = m := ⟨_, rfl⟩
  rw [hm] at m1 hi
  have i0 : (0 : Int) ≤ i := by omega
  have i1 : (i : Int) < m := by omega
  have hb := (Below.refl w.heap.size w).alloc (Nat.le_refl _) (.cells #[.slice ba D.1.length bc, .slice (some ⟨b, off, none⟩) D.2.length wc] 26)
  have hx := Blk.new w 26 #[.slice ba D.1.length bc, .slice (some ⟨b, off, none⟩) D.2.length wc]
  have hM1 := hM.below hb hM.lt
  have c1 := (hb.cell (p := ⟨b, off + i * 2, none⟩) (Nat.lt_of_lt_of_le hlb hB)).trans hc
  have c2 := (hb.cell (p := ⟨b, off + i * 2 + 1, none⟩) (Nat.lt_of_lt_of_le hlb hB)).trans hd
  have hA1 := hA.below (hb.mono hB)
  rw [hn, hm] at hb hx hM1 c1 c2 hA1 ⊢
  rw [hl]
  have hls := hA.1
  subst hls
  have HB := Lib.hid hb
  have HX := Lib.hid hx
  have HM := Lib.hid hM1
  have HA := Lib.hid hA1
  have HP := Lib.hid hp
  have HF := Lib.hid hf
  clear h hM hb hx hM1 hc hd hA hA1 hl hn hm hp hf
  go_enter Tryz.func112, Tryz.ntmps112
  go_wp2_with (at_lookup; refine wpList_mapI_some rfl (.tmp 10) (.tmp 11) rfl g N f rfl HM.out p HP.out rfl i HF.out ?_)
  go_ret
  exact ⟨A, c, rfl, HA.out, HB.out⟩
set_option maxHeartbeats 1000000 in
theorem dLeft_none (B : Nat) (x : DAt) (D : DkL) (g N : Nat) (f : Int → Option Nat) (p : Nat) (w : World) (hB : B ≤ w.heap.size) (h : Dsk w B x D) (hM : MapI w g N f) (hf : f (p : Int) = none) (hp : p < D.1.length) :
    Calls Tryz.prog 112 #[dval x D, .map (some g), .int .i64 p] w (ReadPost B (D.1.getD p []) w) := by
  have m1 := h.1.len_le
  obtain ⟨b, off, A, l, c, s, hbe, hlb, hl, hc, hA⟩ := h.1.at_ hp
  obtain ⟨ba, bc, wa, wc⟩ := x
  obtain rfl : ba = some ⟨b, off, none⟩ := hbe
  simp only [dval]
  obtain ⟨n, hn⟩ : ∃ n, D.1.length = n := ⟨_, rfl⟩
  obtain ⟨m, hm⟩ : ∃ m, D.2.length = m := ⟨_, rfl⟩
  rw [hn] at m1 hp
  have i0 : (0 : Int) ≤ p := by omega
  have i1 : (p : Int) < n := by omega
  have hwf := wf64 (p := p) (by omega) (by omega)
  have hb := (Below.refl w.heap.size w).alloc (Nat.le_refl _) (.cells #[.slice (some ⟨b, off, none⟩) D.1.length bc, .slice wa D.2.length wc] 26)
  have hx := Blk.new w 26 #[.slice (some ⟨b, off, none⟩) D.1.length bc, .slice wa D.2.length wc]
  have hM1 := hM.below hb hM.lt
  have c1 := (hb.cell (p := ⟨b, off + p, none⟩) (Nat.lt_of_lt_of_le hlb hB)).trans hc
  have hA1 := hA.below (hb.mono hB)
  rw [hn, hm] at hb hx hM1 c1 hA1 ⊢
  rw [hl]
  have hls := hA.1
  subst hls
  have HB := Lib.hid hb
  have HX := Lib.hid hx
  have HM := Lib.hid hM1
  have HA := Lib.hid hA1
  have HP := Lib.hid hwf
  have HF := Lib.hid hf
  clear h hM hb hx hM1 hc hA hA1 hl hn hm hwf hf
  go_enter Tryz.func112, Tryz.ntmps112
  go_wp2_with (at_lookup; refine wpList_mapI_none rfl (.tmp 10) (.tmp 11) rfl g N f rfl HM.out p HP.out rfl HF.out ?_; intro cx)
  go_ret
  exact ⟨A, c, rfl, HA.out, HB.out⟩
/-- What last ones leave. -/
theorem dLeft_any (B : Nat) (x : DAt) (D : DkL) (g N : Nat) (mk : Nat → Bool) (p : Nat) (w : World) (hB : B ≤ w.heap.size) (h : Dsk w B x D) (hM : MapI w g N (fun q => lastTo D.2 mk q D.2.length)) (hp : p < D.1.length) :
    Calls Tryz.prog 112 #[dval x D, .map (some g), .int .i64 p] w (ReadPost B (leftD D mk p) w) := by
  have m1 := h.1.len_le
  unfold leftD
  split
  · rename_i i hi
    exact dLeft_some B x D g N _ p i w hB h hM (wf64 (by omega) (by omega)) hi (lastTo_lt hi).1
  · rename_i hi
    exact dLeft_none B x D g N _ p w hB h hM hi hp
/-- A slice of marks that lies below block B reads as ks. -/
def Mks (w : World) (B : Nat) (a : Option Addr) (len cap : Nat) (ks : List Bool) : Prop :=
  ks.length = len ∧ len ≤ cap ∧ cap ≤ maxLen ∧ (0 < len → ∃ b off, a = some ⟨b, off, none⟩ ∧ b < B ∧ ∀ i, i < len → w.cell? ⟨b, off + i, none⟩ = some (.bool (ks.getD i false)))
theorem Mks.below {w w' : World} {B len cap : Nat} {a : Option Addr} {ks : List Bool} (h : Mks w B a len cap ks) (hb : Below B w w') : Mks w' B a len cap ks := by
  obtain ⟨h1, h2, h3, h4⟩ := h
  refine ⟨h1, h2, h3, fun hl => ?_⟩
  obtain ⟨b, off, e, hlt, hc⟩ := h4 hl
  exact ⟨b, off, e, hlt, fun i hi => (hb.cell (p := ⟨b, off + i, none⟩) hlt).trans (hc i hi)⟩
theorem Mks.more {w : World} {B B' len cap : Nat} {a : Option Addr} {ks : List Bool} (h : Mks w B a len cap ks) (hB : B ≤ B') : Mks w B' a len cap ks := by
  obtain ⟨h1, h2, h3, h4⟩ := h
  refine ⟨h1, h2, h3, fun hl => ?_⟩
  obtain ⟨b, off, e, hlt, hc⟩ := h4 hl
  exact ⟨b, off, e, by omega, hc⟩
theorem Mks.step {w w' : World} {len cap : Nat} {a : Option Addr} {ks : List Bool} (h : Mks w w.heap.size a len cap ks) (hb : Below w.heap.size w w') : Mks w' w'.heap.size a len cap ks := (h.below hb).more hb.size
theorem Mks.len_le {w : World} {B len cap : Nat} {a : Option Addr} {ks : List Bool} (h : Mks w B a len cap ks) : (len : Int) ≤ 9223372036854775807 := by have h1 := h.2.1; have h2 := h.2.2.1; unfold maxLen at h2; omega
theorem dGoes_any (B : Nat) (x : DAt) (D : DkL) (gd ga : Nat) (p : Int) (i : Nat) (w : World) (h : Dsk w B x D) (hd : Blk w gd 26 #[.slice x.ba D.1.length x.bc, .slice x.wa D.2.length x.wc]) (hp : w.cell? ⟨ga, 0, none⟩ = some (.int .i64 p)) (hi : i < D.2.length) :
    Calls Tryz.prog 110 #[.int .i64 (i : Nat), .pointer (some ⟨gd, 0, none⟩), .pointer (some ⟨ga, 0, none⟩)] w fun e w' => e = .returned (.bool (decide ((wr_ D.2 i).1 = p))) ∧ Below w.heap.size w w' := by
  obtain ⟨b, off, q, A, l, c, s, hbe, hlb, hl, _, hc, _, hA⟩ := h.2.at_ hi
  obtain ⟨ba, bc, wa, wc⟩ := x
  obtain rfl : wa = some ⟨b, off, none⟩ := hbe
  have m1 := h.2.len_le
  obtain ⟨m, hm⟩ : ∃ m, D.2.length = m := ⟨_, rfl⟩
  rw [hm] at m1 hi
  rw [hl]
  have i0 : (0 : Int) ≤ i := by omega
  have i1 : (i : Int) < m := by omega
  have d1 : w.cell? ⟨gd, 1, none⟩ = some (.slice (some ⟨b, off, none⟩) m wc) := by rw [← hm]; exact hd.cell 1
  have e : (q == p) = decide (q = p) := rfl
  have HB := Lib.hid (fun k => below_drewN (Below.refl w.heap.size w) k)
  have HE := Lib.hid e
  clear h hd hA hm hl e
  go_enter Tryz.func110, Tryz.ntmps110
  go_wp2_with fail
  go_quiet (fail)
  go_wp2_with fail
  go_ret
  exact ⟨by first | rfl | (rw [← HE.out]; rfl), HB.out _⟩
end Go.Proofs.YtbggkfomfeeikaaGreatDoor
/-
  Words for the document's own Twin of a disk: rows of the call's own whose pieces lie each in a block of its own.
-/
namespace Go.Proofs.YtbggkfomfeeikaaGreatDoor
open Go.RowKit Go.Shelf
set_option maxRecDepth 100000

theorem own_val {w : World} {base n : Nat} {v : Value} {s : List UInt8} (h : w.ownsRow base 5 1 v n (vals s)) : ∃ A c, v = .slice A n c ∧ ∀ B, BslO w B A n c s := by
  obtain ⟨A, c, rfl⟩ := own_slice h
  exact ⟨A, c, rfl, fun B => BslO.own h B⟩
/-- The pieces' values: those that are there yet. -/
def ifDone (k i : Nat) (v : Value) : Value := if i < k then v else .slice none 0 0
theorem done_yes {k i : Nat} {v : Value} (h : i < k) : ifDone k i v = v := if_pos h
theorem done_no {k i : Nat} {v : Value} (h : ¬ i < k) : ifDone k i v = .slice none 0 0 := if_neg h
/-- One value more. -/
def putV (vs : Nat → Value) (k : Nat) (v : Value) (i : Nat) : Value := if i = k then v else vs i
theorem put_same (vs : Nat → Value) (k : Nat) (v : Value) : putV vs k v k = v := if_pos rfl
theorem put_ne {vs : Nat → Value} {k i : Nat} {v : Value} (h : i ≠ k) : putV vs k v i = vs i := if_neg h
/-- A disk whose first k pieces are there, each in a block of its own. -/
def TwI (base hb hw : Nat) (D : DkL) (k : Nat) (w : World) : Prop :=
  ∃ (vs : Nat → Value) (cb cw : Array Value), Blk w hb 27 cb ∧ cb.size = D.1.length ∧ Blk w hw 91 cw ∧ cw.size = D.2.length * 2 ∧
    (∀ i, i < D.1.length → cb[i]? = some (ifDone k i (vs i))) ∧
    (∀ j, j < D.2.length → cw[j * 2 + 1]? = some (ifDone k (D.1.length + j) (vs (D.1.length + j))) ∧ (D.1.length + j < k → cw[j * 2]? = some (.int .i64 (wr_ D.2 j).1))) ∧
    (∀ i, i < k → w.ownsRow base 5 1 (vs i) ((pieces D).getD i []).length (vals ((pieces D).getD i []))) ∧
    (∀ i j, i < j → j < k → ∀ b, (vs i).ownBlock = some b → (vs j).ownBlock ≠ some b)
theorem TwI.below {base hb hw k : Nat} {D : DkL} {w w' : World} (h : TwI base hb hw D k w) (hb' : Below w.heap.size w w') : TwI base hb hw D k w' := by
  obtain ⟨vs, cb, cw, h1, h2, h3, h4, h5, h6, h7, h8⟩ := h
  exact ⟨vs, cb, cw, h1.below hb' h1.lt, h2, h3.below hb' h3.lt, h4, h5, h6, fun i hi => own_below (h7 i hi) hb', h8⟩
theorem own_ne {w : World} {base n g : Nat} {v : Value} {xs : List Value} {t : TypeId} {cs : Array Value} (h : w.ownsRow base 5 1 v n xs) (hg : Blk w g t cs) (ht : t ≠ 5) : ∀ b, v.ownBlock = some b → b ≠ g := by
  intro b hb
  obtain ⟨_, ⟨rfl, _⟩ | ⟨g', cap, cur, rfl, _, h3, _⟩⟩ := h
  · cases hb
  · obtain rfl : g' = b := Option.some.inj hb
    exact fun e => (show Blk w g' _ cur from h3).ne hg (Ne.symm ht) e
/-- The next block is there. -/
theorem TwI.block {base hb hw k : Nat} {D : DkL} {w w' : World} {v : Value} (h : TwI base hb hw D k w) (hk : k < D.1.length) (hb' : Below w.heap.size w w') (hv : w'.ownsRow w.heap.size 5 1 v (D.1.getD k []).length (vals (D.1.getD k []))) (hbase : base ≤ w.heap.size) :
    TwI base hb hw D (k + 1) (w'.setCell ⟨hb, k, none⟩ v) := by
  have h0 := h.below hb'
  obtain ⟨vs, cb, cw, h1, h2, h3, h4, h5, h6, h7, h8⟩ := h
  have hlt : ∀ i, i < k → ∀ b, (vs i).ownBlock = some b → b < w.heap.size := fun i hi b e => ((h7 i hi).lt b e).2
  have x1 := h1.below hb' h1.lt
  have x3 := h3.below hb' h3.lt
  have hne : hw ≠ hb := x3.ne x1 (by decide)
  have gs : w'.grownBy (w'.setCell ⟨hb, k, none⟩ v) (some hb) := only_setCell (World.grownBy.refl w' _) (.inl rfl) _
  have hps : (pieces D).getD k [] = D.1.getD k [] := pieces_left hk
  refine ⟨putV vs k v, _, cw, x1.set_ k v, by simpa using h2, x3.far (by simpa using hne) _, h4, fun i hi => ?_, fun j hj => ?_, fun i hi => ?_, fun i j hij hj b e1 e2 => ?_⟩
  · rw [Array.getElem?_setIfInBounds]
    by_cases e : k = i
    · subst e
      rw [if_pos rfl, if_pos (by omega), done_yes (by omega), put_same]
    · rw [if_neg e, h5 i hi, put_ne (Ne.symm e)]
      by_cases e2 : i < k
      · rw [done_yes e2, done_yes (by omega)]
      · rw [done_no e2, done_no (by omega)]
  · obtain ⟨e1, e2⟩ := h6 j hj
    refine ⟨?_, fun hh => absurd hh (by omega)⟩
    rw [e1, done_no (by omega), done_no (by omega)]
  · by_cases e : i = k
    · subst e
      rw [put_same, hps]
      exact own_mono (own_other hv gs (own_ne hv x1 (by decide))) hbase
    · rw [put_ne e]
      have := own_below (h7 i (by omega)) hb'
      exact own_other this gs (own_ne this x1 (by decide))
  · rw [put_ne (by omega)] at e1
    by_cases e : j = k
    · subst e
      rw [put_same] at e2
      have h9 := hlt i (by omega) b e1
      have h10 := (hv.lt b e2).1
      omega
    · rw [put_ne e] at e2
      exact h8 i j hij (by omega) b e1 e2
/-- The next write's place is there. -/
theorem TwI.at_ {base hb hw k j : Nat} {D : DkL} {w : World} {u : Value} (h : TwI base hb hw D k w) (hk : k ≤ D.1.length + j) : TwI base hb hw D k (w.setCell ⟨hw, j * 2, none⟩ u) := by
  obtain ⟨vs, cb, cw, h1, h2, h3, h4, h5, h6, h7, h8⟩ := h
  have hne : hb ≠ hw := h1.ne h3 (by decide)
  have gs : w.grownBy (w.setCell ⟨hw, j * 2, none⟩ u) (some hw) := only_setCell (World.grownBy.refl w _) (.inl rfl) _
  refine ⟨vs, cb, _, h1.far (by simpa using hne) _, h2, h3.set_ _ _, by simpa using h4, h5, fun i hi => ?_, fun i hi => own_other (h7 i hi) gs (own_ne (h7 i hi) h3 (by decide)), h8⟩
  obtain ⟨e1, e2⟩ := h6 i hi
  refine ⟨by rw [Array.getElem?_setIfInBounds, if_neg (by omega)]; exact e1, fun hh => ?_⟩
  rw [Array.getElem?_setIfInBounds, if_neg (by omega)]
  exact e2 hh
/-- The next write is there. -/
theorem TwI.write {base hb hw k j : Nat} {D : DkL} {w w' : World} {v : Value} (h : TwI base hb hw D k w) (hk : k = D.1.length + j) (hj : j < D.2.length) (hat : w.cell? ⟨hw, j * 2, none⟩ = some (.int .i64 (wr_ D.2 j).1)) (hb' : Below w.heap.size w w') (hv : w'.ownsRow w.heap.size 5 1 v (wr_ D.2 j).2.length (vals (wr_ D.2 j).2)) (hbase : base ≤ w.heap.size) :
    TwI base hb hw D (k + 1) (w'.setCell ⟨hw, j * 2 + 1, none⟩ v) := by
  obtain ⟨vs, cb, cw, h1, h2, h3, h4, h5, h6, h7, h8⟩ := h
  have hlt : ∀ i, i < k → ∀ b, (vs i).ownBlock = some b → b < w.heap.size := fun i hi b e => ((h7 i hi).lt b e).2
  have x1 := h1.below hb' h1.lt
  have x3 := h3.below hb' h3.lt
  have hne : hb ≠ hw := x1.ne x3 (by decide)
  rw [h3.cell] at hat
  have gs : w'.grownBy (w'.setCell ⟨hw, j * 2 + 1, none⟩ v) (some hw) := only_setCell (World.grownBy.refl w' _) (.inl rfl) _
  have hps : (pieces D).getD k [] = (wr_ D.2 j).2 := by rw [hk]; exact pieces_right hj
  refine ⟨putV vs k v, cb, _, x1.far (by simpa using hne) _, h2, x3.set_ _ _, by simpa using h4, fun i hi => ?_, fun i hi => ?_, fun i hi => ?_, fun i i' hij hi' b e1 e2 => ?_⟩
  · rw [h5 i hi, put_ne (by omega), done_yes (by omega), done_yes (by omega)]
  · obtain ⟨e1, e2⟩ := h6 i hi
    by_cases e : i = j
    · subst e
      subst hk
      refine ⟨?_, fun _ => ?_⟩
      · rw [Array.getElem?_setIfInBounds, if_pos rfl, if_pos (by omega), done_yes (by omega), put_same]
      · rw [Array.getElem?_setIfInBounds, if_neg (by omega)]
        exact hat
    · refine ⟨?_, fun hh => ?_⟩
      · rw [Array.getElem?_setIfInBounds, if_neg (by omega), e1, put_ne (by omega)]
        by_cases e3 : D.1.length + i < k
        · rw [done_yes e3, done_yes (by omega)]
        · rw [done_no e3, done_no (by omega)]
      · rw [Array.getElem?_setIfInBounds, if_neg (by omega)]
        exact e2 (by omega)
  · by_cases e : i = k
    · subst e
      rw [put_same, hps]
      exact own_mono (own_other hv gs (own_ne hv x3 (by decide))) hbase
    · rw [put_ne e]
      have := own_below (h7 i (by omega)) hb'
      exact own_other this gs (own_ne this x3 (by decide))
  · rw [put_ne (by omega)] at e1
    by_cases e : i' = k
    · subst e
      rw [put_same] at e2
      have h9 := hlt i (by omega) b e1
      have h10 := (hv.lt b e2).1
      omega
    · rw [put_ne e] at e2
      exact h8 i i' hij (by omega) b e1 e2
/-- A disk all of whose pieces are there. -/
def Tw (w : World) (base : Nat) (x : DAt) (D : DkL) : Prop :=
  ∃ hb hw, x = ⟨some ⟨hb, 0, none⟩, D.1.length, some ⟨hw, 0, none⟩, D.2.length⟩ ∧ base ≤ hb ∧ base ≤ hw ∧ Fits D ∧ (∀ i, i < D.2.length → (Lit.int .i64 (wr_ D.2 i).1).wf = true) ∧ TwI base hb hw D (D.1.length + D.2.length) w
theorem Tw.below {w w' : World} {base : Nat} {x : DAt} {D : DkL} (h : Tw w base x D) (hb : Below w.heap.size w w') : Tw w' base x D := by
  obtain ⟨a, b, c, d, e, f, g, h1⟩ := h
  exact ⟨a, b, c, d, e, f, g, h1.below hb⟩
theorem Tw.brow {w : World} {base : Nat} {x : DAt} {D : DkL} (h : Tw w base x D) (C : Nat) : BRowC w C base (.slice x.ba D.1.length x.bc) D.1 := by
  obtain ⟨hb, hw, rfl, k1, k2, hf, hwf, vs, cb, cw, h1, h2, h3, h4, h5, h6, h7, h8⟩ := h
  refine ⟨cb.toList, ⟨by simp [h2], .inr ⟨hb, D.1.length, cb, rfl, k1, h1, Nat.le_refl _, by have := hf.1; unfold maxLen; omega, by omega, List.take_of_length_le (by simp [h2])⟩⟩, fun i hi => ?_⟩
  have ho := h7 i (by omega)
  rw [pieces_left hi] at ho
  obtain ⟨A, c, e, hs⟩ := own_val ho
  refine ⟨A, c, ?_, hs C⟩
  have := h5 i hi
  rw [done_yes (by omega), e] at this
  rw [List.getD_eq_getElem?_getD, Array.getElem?_toList, this]
  rfl
theorem Tw.wrow {w : World} {base : Nat} {x : DAt} {D : DkL} (h : Tw w base x D) (C : Nat) : WRowC w C base (.slice x.wa D.2.length x.wc) D.2 := by
  obtain ⟨hb, hw, rfl, k1, k2, hf, hwf, vs, cb, cw, h1, h2, h3, h4, h5, h6, h7, h8⟩ := h
  refine ⟨cw.toList, ⟨by simp [h4], .inr ⟨hw, D.2.length, cw, rfl, k2, h3, Nat.le_refl _, by have := hf.2.1; unfold maxLen; omega, h4, List.take_of_length_le (by simp [h4])⟩⟩, fun i hi => ?_⟩
  have ho := h7 (D.1.length + i) (by omega)
  rw [pieces_right hi] at ho
  obtain ⟨A, c, e, hs⟩ := own_val ho
  obtain ⟨e1, e2⟩ := h6 i hi
  rw [done_yes (by omega), e] at e1
  refine ⟨hwf i hi, ?_, A, c, ?_, hs C⟩
  · rw [List.getD_eq_getElem?_getD, Array.getElem?_toList, e2 (by omega)]
    rfl
  · rw [List.getD_eq_getElem?_getD, Array.getElem?_toList, e1]
    rfl
theorem rows_dsk {w : World} {C C' b1 b2 : Nat} {x : DAt} {D : DkL} (h1 : BRowC w C b1 (.slice x.ba D.1.length x.bc) D.1) (h2 : WRowC w C' b2 (.slice x.wa D.2.length x.wc) D.2) : Dsk w w.heap.size x D := by
  obtain ⟨a, c, e1, h1⟩ := h1.bls
  obtain ⟨a', c', e2, h2⟩ := h2.wts
  cases e1
  cases e2
  exact ⟨h1, h2⟩
/-- Two stores beside it. -/
theorem tw_far {w : World} {base base' g : Nat} {x : DAt} {D : DkL} {cs : Array Value} (h : Tw w base x D) (hg : Blk w g 26 cs) (hl : base' ≤ base) (u v : Value) : Tw ((w.setCell ⟨g, 0, none⟩ u).setCell ⟨g, 1, none⟩ v) base' x D := by
  obtain ⟨hb, hw, h0, k1, k2, hf, hwf, vs, cb, cw, h1, h2, h3, h4, h5, h6, h7, h8⟩ := h
  have n1 : hb ≠ g := h1.ne hg (by decide)
  have n2 : hw ≠ g := h3.ne hg (by decide)
  have gs : w.grownBy ((w.setCell ⟨g, 0, none⟩ u).setCell ⟨g, 1, none⟩ v) (some g) := only_two w g u v
  exact ⟨hb, hw, h0, by omega, by omega, hf, hwf, vs, cb, cw, (h1.far (by simpa using n1) _).far (by simpa using n1) _, h2, (h3.far (by simpa using n2) _).far (by simpa using n2) _, h4, h5, h6, fun i hi => own_mono (own_other (h7 i hi) gs (own_ne (h7 i hi) hg (by decide))) hl, h8⟩
end Go.Proofs.YtbggkfomfeeikaaGreatDoor
/-
  dev.settled of a disk that may be answers what the writes leave whose mark is true, laid in one new piece.
-/
namespace Go.Proofs.YtbggkfomfeeikaaGreatDoor
open Go.RowKit Go.Shelf
set_option maxRecDepth 100000

/-- A row of one's own whose first k cells are lists below block B that read as f tells. -/
def RowsI (B : Nat) (f : Nat → List UInt8) (hb n k : Nat) (w : World) : Prop := ∃ cb, Blk w hb 27 cb ∧ cb.size = n ∧ ∀ i, i < k → ∃ A c, cb[i]? = some (.slice A (f i).length c) ∧ Bsl w B A (f i).length c (f i)
theorem RowsI.below {B : Nat} {f : Nat → List UInt8} {hb n k : Nat} {w w' : World} (h : RowsI B f hb n k w) (hB : B ≤ w.heap.size) (hw : Below w.heap.size w w') : RowsI B f hb n k w' := by
  obtain ⟨cb, h1, h2, h3⟩ := h
  refine ⟨cb, h1.below hw h1.lt, h2, fun i hi => ?_⟩
  obtain ⟨A, c, h4, h5⟩ := h3 i hi
  exact ⟨A, c, h4, h5.below (hw.mono hB)⟩
theorem RowsI.put {B : Nat} {f : Nat → List UInt8} {hb n k : Nat} {w : World} (h : RowsI B f hb n k w) (hB : B ≤ hb) (hk : k < n) {A : Option Addr} {c : Nat} (hs : Bsl w B A (f k).length c (f k)) : RowsI B f hb n (k + 1) (w.setCell ⟨hb, k, none⟩ (.slice A (f k).length c)) := by
  obtain ⟨cb, h1, h2, h3⟩ := h
  have hb' : Below B w (w.setCell ⟨hb, k, none⟩ (.slice A (f k).length c)) := (Below.refl B w).setCell (p := ⟨hb, k, none⟩) hB _
  refine ⟨_, h1.set_ k _, by simpa using h2, fun i hi => ?_⟩
  rcases Nat.lt_or_ge i k with h9 | h9
  · obtain ⟨A', c', h4, h5⟩ := h3 i h9
    exact ⟨A', c', by rw [Array.getElem?_setIfInBounds, if_neg (by omega)]; exact h4, h5.below hb'⟩
  · obtain rfl : i = k := by omega
    exact ⟨A, c, by rw [Array.getElem?_setIfInBounds, if_pos rfl, if_pos (by omega)], hs.below hb'⟩
theorem RowsI.bls {B : Nat} {f : Nat → List UInt8} {hb n : Nat} {w : World} (h : RowsI B f hb n n w) (hB : B ≤ w.heap.size) (hn : n ≤ 1000000) : Bls w w.heap.size (some ⟨hb, 0, none⟩) n n ((List.range n).map f) := by
  obtain ⟨cb, h1, h2, h3⟩ := h
  refine ⟨by simp, Nat.le_refl _, by unfold maxLen; omega, fun h0 => ⟨hb, 0, rfl, h1.lt, fun i hi => ?_⟩⟩
  obtain ⟨A, c, h4, h5⟩ := h3 i hi
  have e : ((List.range n).map f).getD i [] = f i := by simp [List.getD_eq_getElem?_getD, hi]
  rw [e]
  exact ⟨A, c, by rw [Nat.zero_add, h1.cell, h4], h5.more hB⟩
end Go.Proofs.YtbggkfomfeeikaaGreatDoor
/-
  dev.Check, Flush, Crash, Twin: what they answer, whatever disk they are handed.
-/
namespace Go.Proofs.YtbggkfomfeeikaaGreatDoor
open Go.RowKit Go.Shelf
set_option maxRecDepth 100000

/-- A disk that is answered: none, or one laid in a new piece. -/
def OutD (w : World) (lo : Nat) (x : DAt) (D : DkL) : Prop := (x = ⟨none, 0, none, 0⟩ ∧ D = ([], [])) ∨ Laid w lo x D
theorem OutD.below {w w' : World} {lo : Nat} {x : DAt} {D : DkL} (h : OutD w lo x D) (hb : Below w.heap.size w w') : OutD w' lo x D := h.imp id fun h => h.below hb
def checkO (D : DkL) : Int := if MayD D then 0 else 8
theorem dCheck_any (x : DAt) (D : DkL) (w : World) (h : Dsk w w.heap.size x D) : Calls Tryz.prog 63 #[dval x D] w fun e w' => e = .returned (.int .i64 (checkO D)) ∧ Below w.heap.size w w' := by
  have b0 := (Below.refl w.heap.size w).alloc (Nat.le_refl _) (.cells #[.slice x.ba D.1.length x.bc, .slice x.wa D.2.length x.wc] 26)
  have h0 := h.step b0
  unfold checkO
  by_cases hm : MayD D
  · rw [if_pos hm]
    have HC := Lib.hid (dMay_yes x D _ h0 hm)
    simp only [dval] at HC ⊢
    have HB := Lib.hid b0
    clear b0 h0 h hm
    go_enter Tryz.func63, Tryz.ntmps63
    go_wp2_with fail
    refine HC.out.mono ?_
    rintro e w1 ⟨rfl, b1⟩
    have HB1 := Lib.hid (HB.out.trans (b1.mono HB.out.size))
    clear b1
    go_wp2_with fail
    go_ret
    exact ⟨rfl, HB1.out⟩
  · rw [if_neg hm]
    have HC := Lib.hid (dMay_no x D _ h0 hm)
    simp only [dval] at HC ⊢
    have HB := Lib.hid b0
    clear b0 h0 h hm
    go_enter Tryz.func63, Tryz.ntmps63
    go_wp2_with fail
    refine HC.out.mono ?_
    rintro e w1 ⟨rfl, b1⟩
    have HB1 := Lib.hid (HB.out.trans (b1.mono HB.out.size))
    clear b1
    go_wp2_with fail
    go_ret
    exact ⟨rfl, HB1.out⟩
/-- Boxed, and room for the answer. -/
theorem two_boxes (w : World) (u v : Value) : ∃ w0, (w.alloc (.cells #[u, v] 26)).alloc (.cells #[.slice none 0 0, .slice none 0 0] 26) = w0 ∧ Below w.heap.size w w0 ∧ w0.heap.size = w.heap.size + 2 ∧ Blk w0 w.heap.size 26 #[u, v] ∧ Blk w0 (w.heap.size + 1) 26 #[.slice none 0 0, .slice none 0 0] := by
  refine ⟨_, rfl, ((Below.refl _ w).alloc (Nat.le_refl _) _).alloc (by simp) _, by simp, (Blk.new w _ _).alloc _, ?_⟩
  have := Blk.new (w.alloc (.cells #[u, v] 26)) 26 #[.slice none 0 0, .slice none 0 0]
  rw [World.size_alloc] at this
  exact this
end Go.Proofs.YtbggkfomfeeikaaGreatDoor
/-
  The document's own Twin for layer 9.
-/
namespace Go.Proofs.YtbggkfomfeeikaaGreatDoor
open Go.RowKit Go.Shelf
set_option maxRecDepth 100000

/-- What Twin answers. -/
def TwinPost (D : DkL) (w : World) (e : Ending) (w' : World) : Prop := ∃ x', e = .returned (dval x' D) ∧ Tw w' w.heap.size x' D ∧ Below w.heap.size w w'
set_option maxHeartbeats 8000000 in
theorem rdTwin_any (x : DAt) (D : DkL) (w : World) (h : Dsk w w.heap.size x D) (hf : Fits D) : Calls Tryz.prog 34 #[dval x D] w (TwinPost D w) := by
  have hmx : Tryz.prog.follows Departure.mixedOrders = true := by kernel_rfl
  obtain ⟨w0, hw0, b0, z0, x0, x1⟩ := two_boxes w (.slice x.ba D.1.length x.bc) (.slice x.wa D.2.length x.wc)
  have h0 := h.step b0
  obtain ⟨f1, f2, f3⟩ := hf
  obtain ⟨n, hn⟩ : ∃ n, D.1.length = n := ⟨_, rfl⟩
  obtain ⟨m, hm⟩ : ∃ m, D.2.length = m := ⟨_, rfl⟩
  obtain ⟨B, hB⟩ : ∃ B, w.heap.size = B := ⟨_, rfl⟩
  simp only [dval]
  rw [hn, hm] at x0 hw0
  rw [hn] at f1 ⊢
  rw [hm] at f2 ⊢
  rw [hB] at x0 x1 z0 b0
  have mk2 := make_rows n f1
  have mk3 := make_writes m f2
  have n0 : (0 : Int) ≤ n := by omega
  have n1 : (n : Int) ≤ 1000000 := by omega
  have m0 : (0 : Int) ≤ m := by omega
  have m1 : (m : Int) ≤ 1000000 := by omega
  have HX0 := Lib.hid x0
  have HX1 := Lib.hid x1
  have HB := Lib.hid b0
  have HZ := Lib.hid z0
  have HD := Lib.hid h0
  have HN := Lib.hid hn
  have HM := Lib.hid hm
  have HF3 := Lib.hid f3
  have HBB := Lib.hid hB
  clear h h0 x0 x1 b0 z0 f3 hn hm
  go_enter Tryz.func34, Tryz.ntmps34
  go_wp2_with fail
  clear hw0 hB
  go_cut [3] from 6 to 14 (fun v wx => ∃ gd hb hw, v = .pointer (some ⟨gd, 0, none⟩) ∧ B + 2 ≤ hb ∧ B + 2 ≤ hw ∧ B + 2 ≤ gd ∧
    Blk wx gd 26 #[.slice (some ⟨hb, 0, none⟩) n n, .slice (some ⟨hw, 0, none⟩) m m] ∧ Blk wx hb 27 (Array.replicate n (.slice none 0 0)) ∧ Blk wx hw 91 (noWrites m) ∧ Below (B + 2) w0 wx)
  case first =>
    obtain ⟨wd, hwd⟩ : ∃ wd, w0.drew = wd := ⟨_, rfl⟩
    have y0 : Blk wd B 26 #[.slice x.ba n x.bc, .slice x.wa m x.wc] := by rw [← hwd]; exact HX0.out.drew
    have bd : Below (B + 2) w0 wd := by rw [← hwd, ← HZ.out]; exact (Below.refl _ w0).drew
    have hzd : wd.heap.size = B + 2 := by rw [← hwd]; exact HZ.out
    have HBD := Lib.hid bd
    have HZD := Lib.hid hzd
    have HY := Lib.hid y0
    have hS : Below wd.heap.size wd wd := Below.refl _ _
    have C0 := fun X (hX : Below wd.heap.size wd X) => (hX.cell (p := ⟨B, 0, none⟩) (by show B < _; omega)).trans (y0.cell 0)
    have C1 := fun X (hX : Below wd.heap.size wd X) => (hX.cell (p := ⟨B, 1, none⟩) (by show B < _; omega)).trans (y0.cell 1)
    clear bd hzd y0
    refine wpI_start (Below wd.heap.size wd) [0, 1, 2, 4, 5, 6, 3, 7, 9, 8, 10] hmx rfl hwd ?_
    clear hwd
    iterate 6 (
      refine wpI_read (v := ?_) hS rfl (by kernel_rfl) (by kernel_rfl) (by kernel_rfl) (fun _ _ _ h => h) (.inl ⟨by rfl, ?_⟩) ?_
      rotate_left
      · intro X hX
        have hXa := C0 X hX
        have hXb := C1 X hX
        go_simp
        with_reducible rfl
      try simp only [Act.put, List.setIfInBounds_toArray, List.set_cons_zero, List.set_cons_succ])
    clear C0 C1
    refine wpI_fork3 rfl rfl rfl (by kernel_rfl) (fun K hK => ?_) (fun K hK => ?_) (fun K hK => ?_)
    all_goals
      go_simp
      refine hK _ _ (hS.alloc (Nat.le_refl _) _) ?_
      clear hK K
      try simp only [Act.put, List.setIfInBounds_toArray, List.set_cons_zero, List.set_cons_succ]
      refine wpI_fork rfl rfl (by kernel_rfl) (fun K hK => ?_) (fun K hK => ?_)
    all_goals
      go_simp
      refine hK _ _ (below_alloc2' _ _ _) ?_
      clear hK K
      try simp only [Act.put, List.setIfInBounds_toArray, List.set_cons_zero, List.set_cons_succ]
    all_goals
      first
        | (refine wpI_turn [8, 9, 10] rfl ?_
           refine wpI_read (v := ?_) (below_alloc2' _ _ _) rfl (by kernel_rfl) (by kernel_rfl) (by kernel_rfl) (fun _ _ _ h => h) (.inl ⟨by rfl, ?_⟩) ?_
           rotate_left
           · intro X hX
             go_simp
             with_reducible rfl
           try simp only [Act.put, List.setIfInBounds_toArray, List.set_cons_zero, List.set_cons_succ]
           refine wpI_lone rfl (by kernel_rfl) (fun K hK => ?_)
           go_simp
           refine hK _ _ (below_alloc3' _ _ _ _) ?_
           clear hK K
           try simp only [Act.put, List.setIfInBounds_toArray, List.set_cons_zero, List.set_cons_succ])
        | (refine wpI_lone rfl (by kernel_rfl) (fun K hK => ?_)
           go_simp
           refine hK _ _ (below_alloc3' _ _ _ _) ?_
           clear hK K
           try simp only [Act.put, List.setIfInBounds_toArray, List.set_cons_zero, List.set_cons_succ]
           refine wpI_read (v := ?_) (below_alloc3' _ _ _ _) rfl (by kernel_rfl) (by kernel_rfl) (by kernel_rfl) (fun _ _ _ h => h) (.inl ⟨by rfl, ?_⟩) ?_
           rotate_left
           · intro X hX
             go_simp
             with_reducible rfl
           try simp only [Act.put, List.setIfInBounds_toArray, List.set_cons_zero, List.set_cons_succ])
      refine wpI_lone rfl (by kernel_rfl) (fun K hK => ?_)
      go_simp
      refine hK _ _ (below_alloc3' _ _ _ _) ?_
      clear hK K
      try simp only [Act.put, List.setIfInBounds_toArray, List.set_cons_zero, List.set_cons_succ]
      refine wpI_done (by kernel_rfl) ?_
      go_wp2_with fail
      go_meet
      have hz := HZD.out
      refine ⟨_, _, _, rfl, ?_, ?_, ?_, (by first | exact blk3_0 _ _ _ _ _ | exact blk3_1 _ _ _ _ _ | exact blk3_2 _ _ _ _ _), (by first | exact blk3_0 _ _ _ _ _ | exact blk3_1 _ _ _ _ _ | exact blk3_2 _ _ _ _ _), (by first | exact blk3_0 _ _ _ _ _ | exact blk3_1 _ _ _ _ _ | exact blk3_2 _ _ _ _ _), HBD.out.trans ((below_alloc3' _ _ _ _).mono (by omega))⟩
      all_goals omega
  case rest =>
    obtain ⟨gd, hb, hw, rfl, k1, k2, k3, y1, y2, y3, bx⟩ := hcut
    have hI : TwI (B + 2) hb hw D 0 wc := ⟨fun _ => undef, _, _, y2, by simp [HN.out], y3, by rw [noWrites_size, HM.out], fun i hi => by rw [done_no (Nat.not_lt_zero _)]; simp [← HN.out, hi], fun j hj => ⟨by rw [done_no (Nat.not_lt_zero _)]; exact noWrites_data m j (by rw [← HM.out]; exact hj), fun h => absurd h (Nat.not_lt_zero _)⟩, fun i h => absurd h (Nat.not_lt_zero _), fun i j _ h => absurd h (Nat.not_lt_zero _)⟩
    have HI := Lib.hid hI
    have HG := Lib.hid y1
    have HBx := Lib.hid bx
    clear hI y1 y2 y3 bx mk2 mk3
    go_wp2_with fail
    go_loopw [4] (fun i wr => ∃ k : Nat, k ≤ n ∧ i = .int .i64 k ∧ Hid (TwI (B + 2) hb hw D k wr) ∧ Hid (Blk wr gd 26 #[.slice (some ⟨hb, 0, none⟩) n n, .slice (some ⟨hw, 0, none⟩) m m]) ∧ Hid (Below (B + 2) w0 wr)) (fun i _ => n - (intOf i).toNat)
    case atStart => exact ⟨0, Nat.zero_le _, rfl, HI, HG, HBx⟩
    case round =>
      obtain ⟨k, hk, rfl, HIr, HGr, HBr⟩ := hrel
      clear HI HG HBx
      have i0 : (0 : Int) ≤ k := by omega
      have hz := HZ.out
      have x0r := HX0.out.below HBr.out (by omega)
      have r0 := x0r.cell 0
      have r1 := x0r.cell 1
      by_cases hlt : k < n
      · have i1 : (k : Int) < n := by omega
        obtain ⟨b, off, A, l, c, s, hbe, hlb, hl, hc, hA⟩ := HD.out.1.at_ (show k < D.1.length by rw [HN.out]; exact hlt)
        obtain ⟨ba, bc, wa, wc'⟩ := x
        obtain rfl : ba = some ⟨b, off, none⟩ := hbe
        rw [hz] at hlb hA
        obtain ⟨wd, hwd⟩ : ∃ wd, wr.drew = wd := ⟨_, rfl⟩
        have bd : Below wr.heap.size wr wd := by rw [← hwd]; exact (Below.refl _ wr).drew
        have hId := HIr.out.below bd
        have hGd := HGr.out.below bd HGr.out.lt
        have hxd := x0r.below bd x0r.lt
        have hBd : Below (B + 2) w0 wd := by rw [← hwd]; exact HBr.out.drew
        have c1 := (hBd.cell (p := ⟨b, off + k, none⟩) hlb).trans hc
        have hAd := hA.below hBd
        have hcell : wd.cell? ⟨hb, k, none⟩ = some (.slice none 0 0) := by
          obtain ⟨vs, cb, cw, h1, h2, _, _, h5, _⟩ := hId
          rw [h1.cell, h5 k (by rw [HN.out]; exact hlt), done_no (Nat.lt_irrefl k)]
        have hszd : B + 2 ≤ wd.heap.size := by have := hBd.size; omega
        have hll : l ≤ 1000000000000 := by
          have e1 := sumB_mono D.1 (show k + 1 ≤ D.1.length by rw [HN.out]; omega)
          have e2 : sumB D.1 (k + 1) = sumB D.1 k + l := by rw [sumB, hl, hA.1]
          have e3 := HF3.out
          unfold sumD at e3
          omega
        have g0 := hGd.cell 0
        have d0 := hxd.cell 0
        have C0 := fun X (hX : Below wd.heap.size wd X) => (hX.cell (p := ⟨gd, 0, none⟩) hGd.lt).trans g0
        have C1 := fun X (hX : Below wd.heap.size wd X) => (hX.cell (p := ⟨B, 0, none⟩) (by show B < _; omega)).trans d0
        have C2 := fun X (hX : Below wd.heap.size wd X) => (hX.cell (p := ⟨hb, k, none⟩) (World.block_lt_of_cell? wd _ hcell)).trans hcell
        have C3 := fun X (hX : Below wd.heap.size wd X) => (hX.cell (p := ⟨b, off + k, none⟩) (by show b < _; omega)).trans c1
        have hS : Below wd.heap.size wd wd := Below.refl _ _
        have HId := Lib.hid hId
        have HGd := Lib.hid hGd
        have HBd := Lib.hid hBd
        have HAd := Lib.hid hAd
        have HL := Lib.hid (And.intro hl hA.1)
        have HSZ := Lib.hid hszd
        have HLL := Lib.hid hll
        clear hId hGd hxd hBd hAd hA hc hcell hl g0 d0 c1 HIr HGr HBr x0r bd hszd hll hz
        go_wp2_with fail
        clear r0 r1
        refine wpS_start [0, 1, 2, 3, 4, 5, 6, 7, 8, 9, 10, 11, 12, 13, 14, 15] hmx rfl hwd ?_
        clear hwd
        iterate 13 (
          refine wpS_read (v := ?_) rfl (by kernel_rfl) (by kernel_rfl) (by kernel_rfl) (fun _ _ _ h => h) (.inl ⟨by rfl, ?_⟩) ?_
          rotate_left
          · intro X hX
            have hXa := C0 X (hX _ hS)
            have hXb := C1 X (hX _ hS)
            have hXc := C2 X (hX _ hS)
            have hXd := C3 X (hX _ hS)
            clear hX
            go_simp
            with_reducible rfl
          try simp only [Act.put, List.setIfInBounds_toArray, List.set_cons_zero, List.set_cons_succ])
        clear C0 C1 C2 C3
        refine wpS_append_new rfl (by kernel_rfl) rfl (.tmp 29) (.tmp 34) rfl rfl _ A l c s rfl HAd.out (by have := HLL.out; omega) ?_
        intro v2 w2 ho2 b2
        obtain ⟨A2, c2, rfl⟩ := own_slice ho2
        have hfin := HId.out.block (v := .slice A2 l c2) (by rw [HN.out]; exact hlt) b2 (by rw [HL.out.1, HL.out.2]; exact ho2) HSZ.out
        have hGf := (HGd.out.below b2 HGd.out.lt)
        have hx2 : ∃ cb, Blk w2 hb 27 cb ∧ cb.size = n := by
          obtain ⟨vs, cb, cw, h1, h2, _⟩ := HId.out
          exact ⟨cb, h1.below b2 h1.lt, by rw [h2, HN.out]⟩
        obtain ⟨cb, hcb, hcs⟩ := hx2
        obtain ⟨u3, hu3⟩ : ∃ u, w2.cell? ⟨hb, k, none⟩ = some u := ⟨_, by rw [hcb.cell]; exact Array.getElem?_eq_getElem (by omega)⟩
        have hf3 := hcb.frozen k
        have hne : gd ≠ hb := hGf.ne hcb (by decide)
        have HFIN := Lib.hid hfin
        have HGF := Lib.hid (hGf.far (p := ⟨hb, k, none⟩) hne (.slice A2 l c2))
        have HBF := Lib.hid ((HBd.out.trans (b2.mono HSZ.out)).setCell (p := ⟨hb, k, none⟩) (by show B + 2 ≤ hb; omega) (.slice A2 l c2))
        clear hfin hGf hcb hcs hne b2 ho2 HId HGd HBd HAd hS
        try simp only [Act.put, List.setIfInBounds_toArray, List.set_cons_zero, List.set_cons_succ]
        refine wpS_read (v := ?_) rfl (by kernel_rfl) (by kernel_rfl) (by kernel_rfl) (fun _ _ _ h => h) (.inl ⟨by rfl, ?_⟩) ?_
        rotate_left
        · intro X hX
          clear hX
          go_simp
          with_reducible rfl
        try simp only [Act.put, List.setIfInBounds_toArray, List.set_cons_zero, List.set_cons_succ]
        refine wpS_last rfl (by kernel_rfl) (by kernel_rfl) (fun K hK => ?_)
        go_simp
        refine hK _ _ ?_
        clear hK K
        try simp only [Act.put, List.setIfInBounds_toArray, List.set_cons_zero, List.set_cons_succ]
        refine wpS_done (by kernel_rfl) ?_
        go_wp2_with fail
        go_roundw
        case rel => exact ⟨k + 1, by omega, by go_num, HFIN, HGF, HBF⟩
        case measure => simp [intOf]; omega
      · obtain rfl : k = n := by omega
        go_wp2_with fail
        clear r0 r1
        go_loopw [5] (fun i wr => ∃ j : Nat, j ≤ m ∧ i = .int .i64 j ∧ Hid (TwI (B + 2) hb hw D (k + j) wr) ∧ Hid (Blk wr gd 26 #[.slice (some ⟨hb, 0, none⟩) k k, .slice (some ⟨hw, 0, none⟩) m m]) ∧ Hid (Below (B + 2) w0 wr)) (fun i _ => m - (intOf i).toNat)
        case atStart => exact ⟨0, Nat.zero_le _, rfl, HIr, HGr, HBr⟩
        case round =>
          obtain ⟨j, hj, rfl, HI, HG, HBx⟩ := hrel
          clear HIr HGr HBr
          have j0 : (0 : Int) ≤ j := by omega
          have x0r := HX0.out.below HBx.out (by omega)
          have r0 := x0r.cell 0
          have r1 := x0r.cell 1
          by_cases hlt : j < m
          · have j1 : (j : Int) < m := by omega
            obtain ⟨b, off, p, A, l, c, s, hbe, hlb, hl, _, hc, hd, hA⟩ := HD.out.2.at_ (show j < D.2.length by rw [HM.out]; exact hlt)
            obtain ⟨ba, bc, wa, wc'⟩ := x
            obtain rfl : wa = some ⟨b, off, none⟩ := hbe
            rw [hz] at hlb hA
            -- its place
            obtain ⟨wd, hwd⟩ : ∃ wd, wr.drew = wd := ⟨_, rfl⟩
            have bd : Below wr.heap.size wr wd := by rw [← hwd]; exact (Below.refl _ wr).drew
            have hId := HI.out.below bd
            have hGd := HG.out.below bd HG.out.lt
            have hxd := x0r.below bd x0r.lt
            have hBd : Below (B + 2) w0 wd := by rw [← hwd]; exact HBx.out.drew
            have c1 := (hBd.cell (p := ⟨b, off + j * 2, none⟩) hlb).trans hc
            have hszd : B + 2 ≤ wd.heap.size := by have := hBd.size; omega
            have g1 := hGd.cell 1
            have d1 := hxd.cell 1
            have hcw : ∃ cw, Blk wd hw 91 cw ∧ cw.size = m * 2 := by
              obtain ⟨vs, cb, cw, _, _, h3, h4, _⟩ := hId
              exact ⟨cw, h3, by rw [h4, HM.out]⟩
            obtain ⟨cw, hcw1, hcw2⟩ := hcw
            obtain ⟨u3, hu3⟩ : ∃ u, wd.cell? ⟨hw, j * 2, none⟩ = some u := ⟨_, by rw [hcw1.cell]; exact Array.getElem?_eq_getElem (by omega)⟩
            have hf3 := hcw1.frozen (j * 2)
            have hne : gd ≠ hw := hGd.ne hcw1 (by decide)
            have hneB : B ≠ hw := by omega
            have hI3 := hId.at_ (j := j) (u := .int .i64 p) (by rw [HN.out]; exact Nat.le_refl _)
            have hG3 := hGd.far (p := ⟨hw, j * 2, none⟩) hne (.int .i64 p)
            have hB3 := hBd.setCell (p := ⟨hw, j * 2, none⟩) (by show B + 2 ≤ hw; omega) (.int .i64 p)
            have hat3 : (wd.setCell ⟨hw, j * 2, none⟩ (.int .i64 p)).cell? ⟨hw, j * 2, none⟩ = some (.int .i64 p) := by
              have := (hcw1.set_ (j * 2) (.int .i64 p)).cell (j * 2)
              rw [this, Array.getElem?_setIfInBounds, if_pos rfl, if_pos (by omega)]
            have HI3 := Lib.hid hI3
            have HG3 := Lib.hid hG3
            have HB3 := Lib.hid hB3
            have HAT := Lib.hid hat3
            have HL := Lib.hid (And.intro hl hA.1)
            have HAw := Lib.hid hA
            have HDD := Lib.hid hd
            clear hId hGd hxd hBd bd hcw1 hcw2 hne hneB hI3 hG3 hB3 hat3 hl hA hd HI HG HBx x0r
            go_wp2_with fail
            clear r0 r1
            have C0 := fun X (hX : Below wd.heap.size wd X) => (hX.cell (p := ⟨gd, 1, none⟩) (World.block_lt_of_cell? wd _ g1)).trans g1
            have C1 := fun X (hX : Below wd.heap.size wd X) => (hX.cell (p := ⟨B, 1, none⟩) (World.block_lt_of_cell? wd _ d1)).trans d1
            have C2 := fun X (hX : Below wd.heap.size wd X) => (hX.cell (p := ⟨b, off + j * 2, none⟩) (World.block_lt_of_cell? wd _ c1)).trans c1
            have hS : Below wd.heap.size wd wd := Below.refl _ _
            clear g1 d1 c1 hc hszd
            refine wpS_start [0, 1, 2, 3, 4, 5, 6, 7, 8, 9, 10, 11] hmx rfl hwd ?_
            clear hwd
            iterate 11 (
              refine wpS_read (v := ?_) rfl (by kernel_rfl) (by kernel_rfl) (by kernel_rfl) (fun _ _ _ h => h) (.inl ⟨by rfl, ?_⟩) ?_
              rotate_left
              · intro X hX
                have hXa := C0 X (hX _ hS)
                have hXb := C1 X (hX _ hS)
                have hXc := C2 X (hX _ hS)
                clear hX
                go_simp
                with_reducible rfl
              try simp only [Act.put, List.setIfInBounds_toArray, List.set_cons_zero, List.set_cons_succ])
            clear C0 C1 C2 hS
            refine wpS_last rfl (by kernel_rfl) (by kernel_rfl) (fun K hK => ?_)
            go_simp
            refine hK _ _ ?_
            clear hK K hu3 hf3
            try simp only [Act.put, List.setIfInBounds_toArray, List.set_cons_zero, List.set_cons_succ]
            refine wpS_done (by kernel_rfl) ?_
            obtain ⟨w3, hw3⟩ : ∃ w3, wd.setCell ⟨hw, j * 2, none⟩ (.int .i64 p) = w3 := ⟨_, rfl⟩
            rw [hw3] at HI3 HG3 HB3 HAT ⊢
            clear hw3 wd
            -- its data
            obtain ⟨hl, hA1⟩ := HL.out
            have hA := HAw.out
            have hcd := HDD.out
            have hws : (wr_ D.2 j) = (p, s) := hl
            obtain ⟨wd, hwd⟩ : ∃ wd, w3.drew = wd := ⟨_, rfl⟩
            have bd : Below w3.heap.size w3 wd := by rw [← hwd]; exact (Below.refl _ w3).drew
            have hId := HI3.out.below bd
            have hGd := HG3.out.below bd HG3.out.lt
            have hBd : Below (B + 2) w0 wd := by rw [← hwd]; exact HB3.out.drew
            have hxd := HX0.out.below hBd (by omega)
            have hAd := hA.below hBd
            have hszd : B + 2 ≤ wd.heap.size := by have := hBd.size; omega
            have c1 := (hBd.cell (p := ⟨b, off + j * 2 + 1, none⟩) hlb).trans hcd
            have hat : wd.cell? ⟨hw, j * 2, none⟩ = some (.int .i64 p) := (bd.cell (p := ⟨hw, j * 2, none⟩) (World.block_lt_of_cell? w3 _ HAT.out)).trans HAT.out
            have hcell : wd.cell? ⟨hw, j * 2 + 1, none⟩ = some (.slice none 0 0) := by
              obtain ⟨vs, cb, cw, h1, h2, h3, h4, h5, h6, _⟩ := hId
              rw [h3.cell, (h6 j (by rw [HM.out]; exact hlt)).1, done_no (by rw [HN.out]; exact Nat.lt_irrefl _)]
            have hll : l ≤ 1000000000000 := by
              have e1 := sumW_mono D.2 (show j + 1 ≤ D.2.length by rw [HM.out]; omega)
              have e2 : sumW D.2 (j + 1) = sumW D.2 j + l := by rw [sumW, hws, hA.1]
              have e3 := HF3.out
              unfold sumD at e3
              omega
            have g1 := hGd.cell 1
            have d1 := hxd.cell 1
            have C0 := fun X (hX : Below wd.heap.size wd X) => (hX.cell (p := ⟨gd, 1, none⟩) (World.block_lt_of_cell? wd _ g1)).trans g1
            have C1 := fun X (hX : Below wd.heap.size wd X) => (hX.cell (p := ⟨B, 1, none⟩) (World.block_lt_of_cell? wd _ d1)).trans d1
            have C2 := fun X (hX : Below wd.heap.size wd X) => (hX.cell (p := ⟨b, off + j * 2 + 1, none⟩) (World.block_lt_of_cell? wd _ c1)).trans c1
            have C3 := fun X (hX : Below wd.heap.size wd X) => (hX.cell (p := ⟨hw, j * 2 + 1, none⟩) (World.block_lt_of_cell? wd _ hcell)).trans hcell
            have hS : Below wd.heap.size wd wd := Below.refl _ _
            have HId := Lib.hid hId
            have HGd := Lib.hid hGd
            have HBd := Lib.hid hBd
            have HAd := Lib.hid hAd
            have HSZ := Lib.hid hszd
            have HLL := Lib.hid hll
            have HWS := Lib.hid hws
            have HATd := Lib.hid hat
            have HA1 := Lib.hid hA1
            clear hId hGd hxd hBd hAd hA hA1 hcd hcell hl hws g1 d1 c1 HI3 HG3 HB3 HAT bd hszd hll hat HL HAw HDD
            go_wp2_with fail
            refine wpS_start [0, 1, 2, 3, 4, 5, 6, 7, 8, 9, 10, 11, 12, 13, 14, 15, 16, 17, 18] hmx rfl hwd ?_
            clear hwd
            iterate 15 (
              refine wpS_read (v := ?_) rfl (by kernel_rfl) (by kernel_rfl) (by kernel_rfl) (fun _ _ _ h => h) (.inl ⟨by rfl, ?_⟩) ?_
              rotate_left
              · intro X hX
                have hXa := C0 X (hX _ hS)
                have hXb := C1 X (hX _ hS)
                have hXc := C2 X (hX _ hS)
                have hXd := C3 X (hX _ hS)
                clear hX
                go_simp
                with_reducible rfl
              try simp only [Act.put, List.setIfInBounds_toArray, List.set_cons_zero, List.set_cons_succ])
            clear C0 C1 C2 C3
            refine wpS_append_new rfl (by kernel_rfl) rfl (.tmp 63) (.tmp 69) rfl rfl _ A l c s rfl HAd.out (by have := HLL.out; omega) ?_
            intro v2 w2 ho2 b2
            obtain ⟨A2, c2, rfl⟩ := own_slice ho2
            have hfin := HId.out.write (j := j) (v := .slice A2 l c2) (by rw [HN.out]) (by rw [HM.out]; exact hlt) (by rw [HWS.out]; exact HATd.out) b2 (by rw [HWS.out]; show w2.ownsRow _ _ _ _ s.length (vals s); rw [HA1.out]; exact ho2) HSZ.out
            have hGf := (HGd.out.below b2 HGd.out.lt)
            have hx2 : ∃ cw, Blk w2 hw 91 cw ∧ cw.size = m * 2 := by
              obtain ⟨vs, cb, cw, h1, h2, h3, h4, _⟩ := HId.out
              exact ⟨cw, h3.below b2 h3.lt, by rw [h4, HM.out]⟩
            obtain ⟨cw, hcw1, hcw2⟩ := hx2
            obtain ⟨u3, hu3⟩ : ∃ u, w2.cell? ⟨hw, j * 2 + 1, none⟩ = some u := ⟨_, by rw [hcw1.cell]; exact Array.getElem?_eq_getElem (by omega)⟩
            have hf3 := hcw1.frozen (j * 2 + 1)
            have hne : gd ≠ hw := hGf.ne hcw1 (by decide)
            have HFIN := Lib.hid hfin
            have HGF := Lib.hid (hGf.far (p := ⟨hw, j * 2 + 1, none⟩) hne (.slice A2 l c2))
            have HBF := Lib.hid ((HBd.out.trans (b2.mono HSZ.out)).setCell (p := ⟨hw, j * 2 + 1, none⟩) (by show B + 2 ≤ hw; omega) (.slice A2 l c2))
            clear hfin hGf hcw1 hcw2 hne b2 ho2 HId HGd HBd HAd hS
            try simp only [Act.put, List.setIfInBounds_toArray, List.set_cons_zero, List.set_cons_succ]
            iterate 2 (
              refine wpS_read (v := ?_) rfl (by kernel_rfl) (by kernel_rfl) (by kernel_rfl) (fun _ _ _ h => h) (.inl ⟨by rfl, ?_⟩) ?_
              rotate_left
              · intro X hX
                clear hX
                go_simp
                with_reducible rfl
              try simp only [Act.put, List.setIfInBounds_toArray, List.set_cons_zero, List.set_cons_succ])
            refine wpS_last rfl (by kernel_rfl) (by kernel_rfl) (fun K hK => ?_)
            go_simp
            refine hK _ _ ?_
            clear hK K
            try simp only [Act.put, List.setIfInBounds_toArray, List.set_cons_zero, List.set_cons_succ]
            refine wpS_done (by kernel_rfl) ?_
            go_wp2_with fail
            go_roundw
            case rel => exact ⟨j + 1, by omega, by go_num, HFIN, HGF, HBF⟩
            case measure => simp [intOf]; omega
          · obtain rfl : j = m := by omega
            have hG := HG.out
            have t1 := hG.cell 0
            have t2 := hG.cell 1
            have hx1 := HX1.out.below HBx.out (by omega)
            have r2 := hx1.cell 0
            have r3 := hx1.cell 1
            have hf0 := hx1.frozen 0
            have hf1 := hx1.frozen 1
            have hwf : ∀ i, i < D.2.length → (Lit.int .i64 (wr_ D.2 i).1).wf = true := fun i hi => by
              obtain ⟨_, _, p, _, _, _, _, _, _, hp, hwf, _⟩ := HD.out.2.at_ hi
              rw [hp]
              exact hwf
            have hT : Tw wr (B + 2) ⟨some ⟨hb, 0, none⟩, k, some ⟨hw, 0, none⟩, j⟩ D := ⟨hb, hw, by rw [HN.out, HM.out], k1, k2, ⟨by rw [HN.out]; exact f1, by rw [HM.out]; exact f2, HF3.out⟩, hwf, by rw [HN.out, HM.out]; exact HI.out⟩
            have hF := tw_far hT hx1 (show w.heap.size ≤ B + 2 by have := HBB.out; omega) (.slice (some ⟨hb, 0, none⟩) k k) (.slice (some ⟨hw, 0, none⟩) j j)
            have hbw : Below w.heap.size w wr := by rw [HBB.out]; exact HB.out.trans (HBx.out.mono (by omega))
            have HF := Lib.hid hF
            have HBF := Lib.hid ((hbw.setCell (p := ⟨B + 1, 0, none⟩) (by show w.heap.size ≤ B + 1; have := HBB.out; omega) (.slice (some ⟨hb, 0, none⟩) k k)).setCell (p := ⟨B + 1, 1, none⟩) (by show w.heap.size ≤ B + 1; have := HBB.out; omega) (.slice (some ⟨hw, 0, none⟩) j j))
            have HXR := Lib.hid ((hx1.set_ 0 (.slice (some ⟨hb, 0, none⟩) k k)).set_ 1 (.slice (some ⟨hw, 0, none⟩) j j))
            clear hG hx1 hT hF hbw hwf HI HG HBx x0r
            go_wp2_with fail
            obtain ⟨wf, hwf⟩ : ∃ wf, ((wr.setCell ⟨B + 1, 0, none⟩ (.slice (some ⟨hb, 0, none⟩) k k)).setCell ⟨B + 1, 1, none⟩ (.slice (some ⟨hw, 0, none⟩) j j)) = wf := ⟨_, rfl⟩
            rw [hwf] at HF HBF HXR ⊢
            clear hwf t1 t2 r0 r1 r2 r3 hf0 hf1
            have e0 := HXR.out.cell 0
            have e1 := HXR.out.cell 1
            refine bodyPost_ret (v := .agg #[.slice (some ⟨hb, 0, none⟩) k k, .slice (some ⟨hw, 0, none⟩) j j]) (by simp [results, Tryz.f34, go_sem, e0, e1]) rfl ?_
            refine ⟨⟨some ⟨hb, 0, none⟩, k, some ⟨hw, 0, none⟩, j⟩, ?_, HF.out, HBF.out⟩
            rw [dval, HN.out, HM.out]
end Go.Proofs.YtbggkfomfeeikaaGreatDoor
/-
  The document's own New for layer 9: a new disk is 256 blocks of noughts.
-/
namespace Go.Proofs.YtbggkfomfeeikaaGreatDoor
open Go.RowKit Go.Shelf
set_option maxRecDepth 100000

/-- Rows whose first k are blocks of noughts. -/
def NewI (hb : Nat) (Z : List UInt8) (k : Nat) (w : World) : Prop :=
  ∃ cb, Blk w hb 27 cb ∧ cb.size = 256 ∧ ∀ i, i < k → ∃ g, cb[i]? = some (.slice (some ⟨g, 0, none⟩) 256 256) ∧ Blk w g 5 (ar Z)
theorem NewI.far {hb k g : Nat} {Z : List UInt8} {w : World} {cs : Array Value} (h : NewI hb Z k w) (hg : Blk w g 26 cs) (u v : Value) : NewI hb Z k ((w.setCell ⟨g, 0, none⟩ u).setCell ⟨g, 1, none⟩ v) := by
  obtain ⟨cb, h1, h2, h3⟩ := h
  have hn1 : hb ≠ g := h1.ne hg (by decide)
  refine ⟨cb, (h1.far (p := ⟨g, 0, none⟩) hn1 u).far (p := ⟨g, 1, none⟩) hn1 v, h2, fun i hi => ?_⟩
  obtain ⟨g', h4, h5⟩ := h3 i hi
  have hn2 : g' ≠ g := h5.ne hg (by decide)
  exact ⟨g', h4, (h5.far (p := ⟨g, 0, none⟩) hn2 u).far (p := ⟨g, 1, none⟩) hn2 v⟩
end Go.Proofs.YtbggkfomfeeikaaGreatDoor
/-
  The document's own answers for layer 9: which disks may be, which are great.
-/
namespace Go.Proofs.YtbggkfomfeeikaaGreatDoor
open Go.RowKit Go.Shelf
set_option maxRecDepth 100000

theorem rdPlace_any (p : Int) (w : World) : Calls Tryz.prog 117 #[.int .i64 p] w fun e w' => e = .returned (.bool (decide (0 ≤ p ∧ p < 256))) ∧ w = w' := by
  by_cases h0 : 0 ≤ p
  · by_cases h1 : p < 256
    · rw [decide_eq_true (show 0 ≤ p ∧ p < 256 from ⟨h0, h1⟩)]
      go_enter Tryz.func117, Tryz.ntmps117
      go_wp2_with fail
      go_ret
      exact ⟨by simp; try omega, rfl⟩
    · rw [decide_eq_false (show ¬ (0 ≤ p ∧ p < 256) from fun h => h1 h.2)]
      go_enter Tryz.func117, Tryz.ntmps117
      go_wp2_with fail
      go_ret
      exact ⟨by simp; try omega, rfl⟩
  · rw [decide_eq_false (show ¬ (0 ≤ p ∧ p < 256) from fun h => h0 h.1)]
    go_enter Tryz.func117, Tryz.ntmps117
    go_wp2_with fail
    go_ret
    exact ⟨by simp; try omega, rfl⟩
/-- So many odd ones among the first k; none just if all are as they should be. -/
def OddN (o k : Nat) (P : Nat → Prop) : Prop := o ≤ k ∧ (o = 0 ↔ ∀ i, i < k → P i)
theorem odd_zero (P : Nat → Prop) : OddN 0 0 P := ⟨Nat.le_refl _, ⟨fun _ _ h => absurd h (Nat.not_lt_zero _), fun _ => rfl⟩⟩
theorem OddN.good {o k : Nat} {P : Nat → Prop} (h : OddN o k P) (hp : P k) : OddN o (k + 1) P := by
  refine ⟨Nat.le_succ_of_le h.1, fun h0 i hi => ?_, fun ha => h.2.2 fun i hi => ha i (by omega)⟩
  rcases Nat.lt_or_ge i k with h1 | h1
  · exact h.2.1 h0 i h1
  · obtain rfl : i = k := by omega
    exact hp
theorem OddN.odd {o k : Nat} {P : Nat → Prop} (h : OddN o k P) (hp : ¬ P k) : OddN (o + 1) (k + 1) P := by
  refine ⟨Nat.succ_le_succ h.1, fun h0 => absurd h0 (Nat.succ_ne_zero _), fun ha => absurd (ha k (Nat.lt_succ_self _)) hp⟩
/-- The two counts and the two lengths tell whether a disk may be. -/
theorem may_iff {D : DkL} {o1 o2 k1 k2 : Nat} (h1 : OddN o1 k1 (fun i => (D.1.getD i []).length = 256)) (h2 : OddN o2 k2 (fun i => (0 ≤ (wr_ D.2 i).1 ∧ (wr_ D.2 i).1 < 256) ∧ (wr_ D.2 i).2.length = 256)) (e1 : k1 = D.1.length ∨ (k1 = 257 ∧ 257 < D.1.length)) (e2 : k2 = D.2.length ∨ (k2 = 4097 ∧ 4097 < D.2.length)) :
    (o1 + o2 = 0 ∧ D.1.length = 256 ∧ D.2.length ≤ 4096) ↔ MayD D := by
  constructor
  · rintro ⟨ho, hn, hm⟩
    have k1e : k1 = 256 := by omega
    have k2e : k2 = D.2.length := by omega
    subst k1e
    subst k2e
    exact ⟨⟨hn, h1.2.1 (by omega)⟩, hm, h2.2.1 (by omega)⟩
  · rintro ⟨⟨hn, h3⟩, hm, h4⟩
    have k1e : k1 = 256 := by omega
    have k2e : k2 = D.2.length := by omega
    subst k1e
    subst k2e
    have a1 := h1.2.2 h3
    have a2 := h2.2.2 h4
    exact ⟨by omega, hn, hm⟩
set_option maxHeartbeats 4000000 in
theorem rdMay_any (x : DAt) (D : DkL) (w : World) (h : Dsk w w.heap.size x D) : Calls Tryz.prog 85 #[dval x D] w fun e w' => e = .returned (.bool (decide (MayD D))) ∧ Below w.heap.size w w' := by
  obtain ⟨ba, bc, wa, wc⟩ := x
  obtain ⟨R, hR⟩ : ∃ R, decide (MayD D) = R := ⟨_, rfl⟩
  rw [hR]
  have HRR := Lib.hid hR
  clear hR
  simp only [dval]
  have l1 := h.1.len_le
  have l2 := h.2.len_le
  obtain ⟨n, hn⟩ : ∃ n, D.1.length = n := ⟨_, rfl⟩
  obtain ⟨m, hm⟩ : ∃ m, D.2.length = m := ⟨_, rfl⟩
  rw [hn] at l1
  rw [hm] at l2
  have n0 : (0 : Int) ≤ n := by omega
  have m0 : (0 : Int) ≤ m := by omega
  have b0 := (Below.refl w.heap.size w).alloc (Nat.le_refl _) (.cells #[.slice ba D.1.length bc, .slice wa D.2.length wc] 26)
  have x0 := Blk.new w 26 #[.slice ba D.1.length bc, .slice wa D.2.length wc]
  have h0 := h.step b0
  rw [hn, hm] at b0 x0 h0 ⊢
  obtain ⟨w0, hw0⟩ : ∃ w0, w.alloc (.cells #[.slice ba n bc, .slice wa m wc] 26) = w0 := ⟨_, rfl⟩
  rw [hw0] at b0 x0 h0
  have c0 := x0.cell 0
  have c1 := x0.cell 1
  obtain ⟨hB, hW⟩ := h0
  simp only [hn, hm] at hB hW
  have HB := Lib.hid hB
  have HW := Lib.hid hW
  have HX := Lib.hid x0
  have HBl := Lib.hid b0
  have HN := Lib.hid hn
  have HM := Lib.hid hm
  clear h b0 x0 hB hW hn hm
  go_enter Tryz.func85, Tryz.ntmps85
  go_wp2_with fail
  clear hw0
  go_loop [3, 4] (fun o i => ∃ k q : Nat, k ≤ n ∧ k ≤ 257 ∧ i = .int .i64 k ∧ o = .int .i64 q ∧ Hid (OddN q k (fun i => (D.1.getD i []).length = 256))) (fun _ i => n - (intOf i).toNat)
  case atStart => exact ⟨0, 0, Nat.zero_le _, Nat.zero_le _, rfl, rfl, Lib.hid (odd_zero _)⟩
  case round =>
    obtain ⟨k, q, hk, hk2, rfl, rfl, HO⟩ := hrel
    have k0 : (0 : Int) ≤ k := by omega
    have hq := HO.out.1
    have q0 : (0 : Int) ≤ q := by omega
    have q1 : (q : Int) ≤ 10000 := by omega
    by_cases hlt : k < n ∧ k ≤ 256
    · obtain ⟨hlt, hk3⟩ := hlt
      have k1 : (k : Int) < n := by omega
      have k3 : (k : Int) ≤ 256 := by omega
      obtain ⟨b, off, A, l, c', s, rfl, _, hl, hc, hA⟩ := HB.out.at_ hlt
      by_cases hl6 : l = 256
      · have hgood : (D.1.getD k []).length = 256 := by rw [hl, hA.1]; exact hl6
        have HO' := Lib.hid (HO.out.good hgood)
        subst hl6
        have hne : (((256 : Nat) : Int) != 256) = false := by decide
        clear hl hA hgood
        go_wp2_with fail
        go_round
        case rel => exact ⟨k + 1, q, by omega, by omega, by go_num, rfl, HO'⟩
        case measure => simp [intOf]; omega
      · have hbad : ¬ (D.1.getD k []).length = 256 := by rw [hl, hA.1]; exact hl6
        have HO' := Lib.hid (HO.out.odd hbad)
        have hne : ((l : Int) != 256) = true := by simp; omega
        clear hl hA hbad
        go_wp2_with fail
        go_round
        case rel => exact ⟨k + 1, q + 1, by omega, by omega, by go_num, by go_num, HO'⟩
        case measure => simp [intOf]; omega
    · have hend : k = n ∨ (k = 257 ∧ 257 < n) := by omega
      have HEND := Lib.hid hend
      clear hend
      have hgo : ((k : Int) < n → ¬ (k : Int) ≤ 256) := by omega
      by_cases hkn : (k : Int) < n
      all_goals
        first
          | have k3 : ¬ (k : Int) ≤ 256 := hgo hkn
          | have k3 : True := trivial
        clear hgo hlt
        go_wp2_with fail
        clear k3 hkn
        go_loop [3, 5] (fun o i => ∃ j r : Nat, j ≤ m ∧ j ≤ 4097 ∧ i = .int .i64 j ∧ o = .int .i64 (q + r : Nat) ∧ Hid (OddN r j (fun i => (0 ≤ (wr_ D.2 i).1 ∧ (wr_ D.2 i).1 < 256) ∧ (wr_ D.2 i).2.length = 256))) (fun _ i => m - (intOf i).toNat)
        case atStart => exact ⟨0, 0, Nat.zero_le _, Nat.zero_le _, rfl, rfl, Lib.hid (odd_zero _)⟩
        case round =>
          obtain ⟨j, r, hj, hj2, rfl, rfl, HR⟩ := hrel
          have j0 : (0 : Int) ≤ j := by omega
          have hr := HR.out.1
          obtain ⟨t, ht⟩ : ∃ t, q + r = t := ⟨_, rfl⟩
          have t0 : (0 : Int) ≤ t := by omega
          have t1 : (t : Int) ≤ 10000 := by omega
          by_cases hlt : j < m ∧ j ≤ 4096
          · obtain ⟨hlt, hj3⟩ := hlt
            have j1 : (j : Int) < m := by omega
            have j3 : (j : Int) ≤ 4096 := by omega
            obtain ⟨b, off, p, A, l, c', s, rfl, _, hl, _, hc, hd, hA⟩ := HW.out.at_ hlt
            rw [ht]
            by_cases hl6 : l = 256
            · subst hl6
              have hne : (((256 : Nat) : Int) != 256) = false := by decide
              have hpl := rdPlace_any p w0
              by_cases hp : 0 ≤ p ∧ p < 256
              · have HO' := Lib.hid (HR.out.good (by rw [hl]; exact ⟨hp, hA.1⟩))
                simp only [decide_eq_true hp] at hpl
                have HP := Lib.hid hpl
                have HTT := Lib.hid ht
                clear hl hA hp hpl ht
                go_wp2_with fail
                refine HP.out.mono ?_
                rintro e w1 ⟨rfl, rfl⟩
                go_wp2_with fail
                go_round
                case rel => exact ⟨j + 1, r, by omega, by omega, by go_num, by rw [HTT.out], HO'⟩
                case measure => simp [intOf]; omega
              · have HO' := Lib.hid (HR.out.odd (by rw [hl]; exact fun hh => hp hh.1))
                simp only [decide_eq_false hp] at hpl
                have HP := Lib.hid hpl
                have HTT := Lib.hid ht
                clear hl hA hp hpl ht
                go_wp2_with fail
                refine HP.out.mono ?_
                rintro e w1 ⟨rfl, rfl⟩
                go_wp2_with fail
                go_round
                case rel => exact ⟨j + 1, r + 1, by omega, by omega, by go_num, by rw [← Nat.add_assoc, HTT.out]; go_num, HO'⟩
                case measure => simp [intOf]; omega
            · have HO' := Lib.hid (HR.out.odd (by rw [hl]; exact fun hh => hl6 (by rw [← hA.1]; exact hh.2)))
              have hne : ((l : Int) != 256) = true := by simp; omega
              have HTT := Lib.hid ht
              clear hl hA ht
              go_wp2_with fail
              go_round
              case rel => exact ⟨j + 1, r + 1, by omega, by omega, by go_num, by rw [← Nat.add_assoc, HTT.out]; go_num, HO'⟩
              case measure => simp [intOf]; omega
          · have hend2 : j = m ∨ (j = 4097 ∧ 4097 < m) := by omega
            have hmay := may_iff HO.out HR.out (by rw [HN.out]; exact HEND.out) (by rw [HM.out]; exact hend2)
            rw [HN.out, HM.out, ht] at hmay
            have HMAY := Lib.hid hmay
            have HBw := Lib.hid (show Below w.heap.size w w0 from HBl.out)
            rw [ht]
            have hgo : ((j : Int) < m → ¬ (j : Int) ≤ 4096) := by omega
            clear hend2 hmay ht hlt
            by_cases hjm : (j : Int) < m
            all_goals
              first
                | have j3 : ¬ (j : Int) ≤ 4096 := hgo hjm
                | have j3 : True := trivial
              clear hgo
              by_cases ht0 : t = 0
              · have htb : ((t : Int) == 0) = true := by simp; omega
                by_cases hn6 : n = 256
                · have hnb : ((n : Int) == 256) = true := by simp; omega
                  by_cases hm6 : (m : Int) ≤ 4096
                  · have hyes : MayD D := HMAY.out.1 ⟨ht0, hn6, by omega⟩
                    obtain rfl : R = true := by rw [← HRR.out]; exact decide_eq_true hyes
                    first
                      | (exfalso; omega)
                      | (clear hyes ht0 hn6
                         go_wp2_with fail
                         go_ret
                         exact ⟨rfl, HBw.out⟩)
                  · have hno : ¬ MayD D := fun hh => by have := (HMAY.out.2 hh).2.2; omega
                    obtain rfl : R = false := by rw [← HRR.out]; exact decide_eq_false hno
                    clear hno ht0 hn6
                    go_wp2_with fail
                    go_ret
                    exact ⟨rfl, HBw.out⟩
                · have hnb : ((n : Int) == 256) = false := by simp; omega
                  have hno : ¬ MayD D := fun hh => by have := (HMAY.out.2 hh).2.1; omega
                  obtain rfl : R = false := by rw [← HRR.out]; exact decide_eq_false hno
                  clear hno ht0 hn6
                  go_wp2_with fail
                  go_ret
                  exact ⟨rfl, HBw.out⟩
              · have htb : ((t : Int) == 0) = false := by simp; omega
                have hno : ¬ MayD D := fun hh => ht0 (HMAY.out.2 hh).1
                obtain rfl : R = false := by rw [← HRR.out]; exact decide_eq_false hno
                clear hno ht0
                go_wp2_with fail
                go_ret
                exact ⟨rfl, HBw.out⟩
end Go.Proofs.YtbggkfomfeeikaaGreatDoor
/-
  dev.Read: what it answers, whatever disk and place it is handed.
-/
namespace Go.Proofs.YtbggkfomfeeikaaGreatDoor
open Go.RowKit Go.Shelf
set_option maxRecDepth 100000

/-- bytes.Clone: a list of the call's own. -/
theorem dClone_any (B : Nat) (a : Option Addr) (len cap : Nat) (s : List UInt8) (w : World) (hB : B ≤ w.heap.size) (hA : Bsl w B a len cap s) (hlen : len ≤ 1000000000000) :
    Calls Tryz.prog 111 #[.slice a len cap] w (OwnV len s w) := by
  have q22 : ∀ (w : World) (a : Option Addr) (n c n' c' : Nat), (binOp .eql 27 (.slice a n c) (.slice none n' c')).run Tryz.prog w = .ok (.bool a.isNone) w := fun w a n c n' c' => Lib.run_eql_slice_nil w _ _ a n c n' c' Tryz.underlying27
  obtain ⟨h1, h2, h3, h4, h5⟩ := hA
  cases a with
  | none =>
    have hc := h4 rfl
    have hl : len = 0 := by omega
    subst hl; subst hc
    obtain rfl : s = [] := List.eq_nil_of_length_eq_zero h1
    go_enter Tryz.func111, Tryz.ntmps111
    go_wp2_with fail
    go_ret
    exact ⟨_, rfl, own_nil _ _, Below.refl _ _⟩
  | some ad =>
    have hA : Bsl w B (some ad) len cap s := ⟨h1, h2, h3, h4, h5⟩
    have b1 : Below w.heap.size w (w.alloc (.cells #[] 5)) := (Below.refl _ w).alloc (Nat.le_refl _) _
    have HA1 := Lib.hid (hA.below (b1.mono hB)); clear hA
    have HB1 := Lib.hid b1; clear b1
    have HO1 := Lib.hid (own_empty w)
    clear h1 h2 h3 h4 h5
    go_enter Tryz.func111, Tryz.ntmps111
    go_wp2_with (at_builtin
                 refine wpList_append_big rfl (.tmp 5) (.tmp 6) rfl w.heap.size _ 0 _ rfl HO1.out _ (some ad) len cap s rfl HA1.out (by omega) HB1.out.size ?_
                 intro v' W3 hown' hg'
                 have HB3 := Lib.hid (app_below HB1.out HO1.out hg' HB1.out.size); clear hg'
                 have HO3 := Lib.hid hown'; clear hown')
    go_ret
    refine ⟨_, rfl, ?_, HB3.out⟩
    have := HO3.out
    rwa [Nat.zero_add, List.nil_append] at this
/-- A list of the call's own, and an error's number. -/
def ToldL (o : List UInt8 × Int) (w : World) (e : Ending) (w' : World) : Prop := ∃ v, e = .returned (.tuple #[v, .int .i64 o.2]) ∧ w'.ownsRow w.heap.size 5 1 v o.1.length (vals o.1) ∧ Below w.heap.size w w'
def readO (D : DkL) (p : Int) : List UInt8 × Int := if MayD D then (if 0 ≤ p ∧ p < 256 then (leftD D (fun _ => true) p.toNat, 0) else ([], 2)) else ([], 8)
theorem leftD_goes (D : DkL) (p : Nat) : leftD D (fun i => decide ((wr_ D.2 i).1 = (p : Int))) p = leftD D (fun _ => true) p := by
  have : lastTo D.2 (fun i => decide ((wr_ D.2 i).1 = (p : Int))) (p : Int) D.2.length = lastTo D.2 (fun _ => true) (p : Int) D.2.length := lastTo_congr fun i _ => by simp
  unfold leftD
  rw [this]
theorem read_boxes (w : World) (u v k : Value) : ∃ w0, (w.alloc (.cells #[u, v] 26)).alloc (.cells #[k] 3) = w0 ∧ Below w.heap.size w w0 ∧ w0.heap.size = w.heap.size + 2 ∧ Blk w0 w.heap.size 26 #[u, v] ∧ Blk w0 (w.heap.size + 1) 3 #[k] := by
  refine ⟨_, rfl, ((Below.refl _ w).alloc (Nat.le_refl _) _).alloc (by simp) _, by simp, (Blk.new w _ _).alloc _, ?_⟩
  have := Blk.new (w.alloc (.cells #[u, v] 26)) 3 #[k]
  rw [World.size_alloc] at this
  exact this
set_option maxHeartbeats 2000000 in
theorem dRead_any (x : DAt) (D : DkL) (p : Int) (w : World) (h : Dsk w w.heap.size x D) : Calls Tryz.prog 80 #[dval x D, .int .i64 p] w (ToldL (readO D p) w) := by
  obtain ⟨w0, hw0, b0, z0, x0, xp⟩ := read_boxes w (.slice x.ba D.1.length x.bc) (.slice x.wa D.2.length x.wc) (.int .i64 p)
  have h0 := h.step b0
  have c0 := x0.cell 0
  have c1 := x0.cell 1
  have cp := xp.cell 0
  have HX0 := Lib.hid x0
  have HXp := Lib.hid xp
  have HB := Lib.hid b0
  have HZ := Lib.hid z0
  have HD := Lib.hid h0
  unfold readO
  by_cases hm : MayD D
  · rw [if_pos hm]
    have HC := Lib.hid (dMay_yes x D _ h0 hm)
    simp only [dval] at HC ⊢
    have hbk := dIsBlock_any p
    have HM := Lib.hid hm
    by_cases hp : 0 ≤ p ∧ p < 256
    · rw [if_pos hp]
      simp only [decide_eq_true hp] at hbk
      obtain ⟨q, rfl⟩ := Int.eq_ofNat_of_zero_le hp.1
      have hq : q < 256 := by omega
      have HBK := Lib.hid hbk
      have hll := leftD_length hm (fun _ => true) hq
      have e2 : ((q : Int).toNat) = q := by simp
      obtain ⟨s, hs⟩ : ∃ s, leftD D (fun _ => true) q = s := ⟨_, rfl⟩
      rw [hs] at hll
      rw [e2, hs]
      have HLL := Lib.hid hll
      have HS := Lib.hid hs
      clear e2 hs b0 h0 h hm x0 xp z0 hbk hp hll
      go_enter Tryz.func80, Tryz.ntmps80
      go_wp2_with fail
      clear hw0 c0 c1 cp
      refine HC.out.mono ?_
      rintro e w1 ⟨rfl, b1⟩
      have cp := (HXp.out.below b1 HXp.out.lt).cell 0
      have HB1 := Lib.hid b1
      clear b1
      go_wp2_with fail
      refine (HBK.out _).mono ?_
      rintro e w1' ⟨rfl, rfl⟩
      have b1 := HB1.out
      have x01 := HX0.out.below b1 HX0.out.lt
      have xp1 := HXp.out.below b1 HXp.out.lt
      have hD1 := HD.out.step b1
      have c0 := x01.cell 0
      have c1 := x01.cell 1
      have hl := dLast2_any x.wa D.2.length x.wc D.2 (fun i => decide ((wr_ D.2 i).1 = (q : Int))) ⟨w.heap.size, 0, none⟩ ⟨w.heap.size + 1, 0, none⟩ w1 hD1.2 (fun W hW i hi => dGoes_any w1.heap.size x D w.heap.size (w.heap.size + 1) (q : Int) i W ⟨hD1.1.below hW, hD1.2.below hW⟩ (x01.below hW x01.lt) ((xp1.below hW xp1.lt).cell 0) hi)
      have HL := Lib.hid hl
      have HX1 := Lib.hid x01
      have HXp1 := Lib.hid xp1
      have HD1 := Lib.hid hD1
      have HBw := Lib.hid (HB.out.trans (b1.mono HB.out.size))
      clear b1 x01 xp1 hD1 hl HB1 HC HBK HX0 HXp HB HD
      go_wp2_with fail
      clear c0 c1 cp
      refine HL.out.mono ?_
      rintro e w2 ⟨g, rfl, hge, hM, b2⟩
      have c0 := (HX1.out.below b2 HX1.out.lt).cell 0
      have c1 := (HX1.out.below b2 HX1.out.lt).cell 1
      have cp := (HXp1.out.below b2 HXp1.out.lt).cell 0
      have hle := dLeft_any w2.heap.size x D g D.2.length (fun i => decide ((wr_ D.2 i).1 = (q : Int))) q w2 (Nat.le_refl _) (HD1.out.step b2) hM (by rw [HM.out.1.1]; exact hq)
      rw [leftD_goes] at hle
      simp only [dval] at hle
      rw [HS.out] at hle
      have HLE := Lib.hid hle
      have HB2 := Lib.hid (HBw.out.trans (b2.mono HBw.out.size))
      clear hle b2 hM hge HL
      go_wp2_with fail
      clear c0 c1 cp
      refine HLE.out.mono ?_
      rintro e w3 ⟨A, c, rfl, h3, b3⟩
      have HCL := Lib.hid (dClone_any w2.heap.size A s.length c s w3 b3.size h3 (by rw [HLL.out]; omega))
      have HB3 := Lib.hid (HB2.out.trans (b3.mono HB2.out.size))
      clear h3 b3 HLE
      go_wp2_with fail
      refine HCL.out.mono ?_
      rintro e w4 ⟨v4, rfl, h4, b4⟩
      have HO := Lib.hid (own_mono h4 HB3.out.size)
      have HB4 := Lib.hid (HB3.out.trans (b4.mono HB3.out.size))
      clear h4 b4
      go_wp2_with fail
      go_ret2
      exact ⟨v4, rfl, HO.out, HB4.out⟩
    · rw [if_neg hp]
      simp only [decide_eq_false hp] at hbk
      have HBK := Lib.hid hbk
      clear b0 h0 h hm x0 xp z0 hbk hp
      go_enter Tryz.func80, Tryz.ntmps80
      go_wp2_with fail
      clear hw0 c0 c1 cp
      refine HC.out.mono ?_
      rintro e w1 ⟨rfl, b1⟩
      have cp := (HXp.out.below b1 HXp.out.lt).cell 0
      have HB1 := Lib.hid (HB.out.trans (b1.mono HB.out.size))
      clear b1
      go_wp2_with fail
      refine (HBK.out _).mono ?_
      rintro e w1' ⟨rfl, rfl⟩
      go_wp2_with fail
      go_ret2
      exact ⟨_, rfl, own_nil _ _, HB1.out⟩
  · rw [if_neg hm]
    have HC := Lib.hid (dMay_no x D _ h0 hm)
    simp only [dval] at HC ⊢
    clear b0 h0 h hm x0 xp z0
    go_enter Tryz.func80, Tryz.ntmps80
    go_wp2_with fail
    clear hw0 c0 c1 cp
    refine HC.out.mono ?_
    rintro e w1 ⟨rfl, b1⟩
    have HB1 := Lib.hid (HB.out.trans (b1.mono HB.out.size))
    clear b1
    go_wp2_with fail
    go_ret2
    exact ⟨_, rfl, own_nil _ _, HB1.out⟩
end Go.Proofs.YtbggkfomfeeikaaGreatDoor
/-
  The document's own ask, last, left, Seen for layer 9.
-/
namespace Go.Proofs.YtbggkfomfeeikaaGreatDoor
open Go.RowKit Go.Shelf
set_option maxRecDepth 100000

/-- Which writes count: all, where there are no marks. -/
def markF (ks : List Bool) (i : Nat) : Bool := ks.length == 0 || ks.getD i false
/-- The place of a block's last write; -1: there is none. -/
def lastN (ws : WrL) (mk : Nat → Bool) (p : Int) : Int := match lastTo ws mk p ws.length with
  | some i => (i : Nat)
  | none => -1
set_option maxHeartbeats 2000000 in
theorem rdLast_any (x : DAt) (D : DkL) (a : Option Addr) (n c : Nat) (ks : List Bool) (p : Int) (w : World) (h : Dsk w w.heap.size x D) (hk : Mks w w.heap.size a n c ks) (hn : n = 0 ∨ n = D.2.length) :
    Calls Tryz.prog 135 #[dval x D, .slice a n c, .int .i64 p] w fun e w' => e = .returned (.int .i64 (lastN D.2 (markF ks) p)) ∧ Below w.heap.size w w' := by
  obtain ⟨ba, bc, wa, wc⟩ := x
  simp only [dval]
  have l2 := h.2.len_le
  obtain ⟨r, hr⟩ : ∃ r, lastN D.2 (markF ks) p = r := ⟨_, rfl⟩
  rw [hr]
  obtain ⟨m, hm⟩ : ∃ m, D.2.length = m := ⟨_, rfl⟩
  obtain ⟨q, hq⟩ : ∃ q, D.1.length = q := ⟨_, rfl⟩
  rw [hm] at l2 hn
  have m0 : (0 : Int) ≤ m := by omega
  have b0 := (Below.refl w.heap.size w).alloc (Nat.le_refl _) (.cells #[.slice ba D.1.length bc, .slice wa D.2.length wc] 26)
  have x0 := Blk.new w 26 #[.slice ba D.1.length bc, .slice wa D.2.length wc]
  have h0 := h.step b0
  have hk0 := hk.step b0
  rw [hm, hq] at b0 x0 h0 hk0 ⊢
  obtain ⟨w0, hw0⟩ : ∃ w0, w.alloc (.cells #[.slice ba q bc, .slice wa m wc] 26) = w0 := ⟨_, rfl⟩
  rw [hw0] at b0 x0 h0 hk0
  have c0 := x0.cell 0
  have c1 := x0.cell 1
  obtain ⟨_, hW⟩ := h0
  simp only [hm] at hW
  have hkl := hk.1
  have HW := Lib.hid hW
  have HK := Lib.hid hk0
  have HB := Lib.hid b0
  have HM := Lib.hid hm
  have HR := Lib.hid hr
  have HKL := Lib.hid hkl
  have HNM := Lib.hid hn
  clear h hk b0 x0 hW hk0 hm hr hkl hq hn
  go_enter Tryz.func135, Tryz.ntmps135
  go_wp2_with fail
  clear hw0
  go_loop [7] (fun i => ∃ j : Nat, j ≤ m ∧ i = .int .i64 ((j : Int) - 1) ∧ Hid (∀ t, j ≤ t → t < m → ¬ (markF ks t = true ∧ (wr_ D.2 t).1 = p))) (fun i => (intOf i + 1).toNat)
  case atStart => exact ⟨m, Nat.le_refl _, rfl, Lib.hid (fun t h1 h2 => by omega)⟩
  case round =>
    obtain ⟨j, hj, rfl, HA⟩ := hrel
    rcases j with _ | k
    · have hr : r = -1 := by
        rw [← HR.out, lastN, HM.out, lastTo_no (fun t ht => HA.out t (Nat.zero_le _) ht)]
      subst hr
      have e0 : ((0 : Nat) : Int) - 1 = -1 := by omega
      rw [e0]
      have hneg : ¬ (0 : Int) ≤ -1 := by omega
      go_wp2_with fail
      go_ret
      exact ⟨rfl, HB.out⟩
    · have e1 : ((k + 1 : Nat) : Int) - 1 = (k : Int) := by omega
      rw [e1]
      have k0 : (0 : Int) ≤ k := by omega
      have k1 : (k : Int) < m := by omega
      obtain ⟨b, off, pk, A, l, c', s, rfl, _, hl, _, hc, _, hA⟩ := HW.out.at_ (show k < m by omega)
      clear e1
      have hskip : ¬ (markF ks k = true ∧ pk = p) → Hid (∀ t, k ≤ t → t < m → ¬ (markF ks t = true ∧ (wr_ D.2 t).1 = p)) := fun hno => Lib.hid fun t h1 h2 => by
        rcases Nat.eq_or_lt_of_le h1 with h3 | h3
        · subst h3
          rw [hl]
          exact hno
        · exact HA.out t h3 h2
      have hfound : markF ks k = true ∧ pk = p → r = (k : Int) := fun hyes => by
        rw [← HR.out, lastN, HM.out, lastTo_behind (i := k) (by omega) (by rw [hl]; exact hyes) (fun t h1 h2 => HA.out t h1 h2)]
      have HSK := Lib.hid hskip
      have HFO := Lib.hid hfound
      clear hskip hfound hl hA
      by_cases hpp : pk = p
      · subst hpp
        have hpb : (pk == pk) = true := by simp
        by_cases hn0 : n = 0
        · have hr := HFO.out ⟨by unfold markF; rw [HKL.out, hn0]; rfl, rfl⟩
          subst hr
          subst hn0
          have hz : (((0 : Nat) : Int) == 0) = true := by decide
          go_wp2_with fail
          go_ret
          exact ⟨rfl, HB.out⟩
        · have hz : ((n : Int) == 0) = false := by simp; omega
          have hnm : n = m := HNM.out.resolve_left hn0
          subst hnm
          obtain ⟨bk, ok, rfl, _, hck⟩ := HK.out.2.2.2 (by omega)
          have ck := hck k (by omega)
          have hmk : markF ks k = ks.getD k false := by
            unfold markF
            have : (ks.length == 0) = false := by rw [HKL.out]; simpa using hn0
            rw [this]
            rfl
          obtain ⟨v, hv⟩ : ∃ v, ks.getD k false = v := ⟨_, rfl⟩
          rw [hv] at ck hmk
          have HMK := Lib.hid hmk
          clear hck hn0 hmk hv
          cases v with
          | true =>
            have hr := HFO.out ⟨HMK.out, rfl⟩
            subst hr
            go_wp2_with fail
            go_ret
            exact ⟨rfl, HB.out⟩
          | false =>
            have HS := HSK.out (fun hh => by rw [HMK.out] at hh; cases hh.1)
            go_wp2_with fail
            go_round
            case rel => exact ⟨k, by omega, rfl, HS⟩
            case measure => simp [intOf]
      · have hpb : (pk == p) = false := by simpa using hpp
        have HS := HSK.out (fun hh => hpp hh.2)
        clear hpp
        go_wp2_with fail
        go_round
        case rel => exact ⟨k, by omega, rfl, HS⟩
        case measure => simp [intOf]
/-- A list of the call's own that reads as s. -/
def OwnS (s : List UInt8) (w : World) (e : Ending) (w' : World) : Prop := ∃ v, e = .returned v ∧ w'.ownsRow w.heap.size 5 1 v s.length (vals s) ∧ Below w.heap.size w w'
set_option maxHeartbeats 2000000 in
theorem rdLeft_any (x : DAt) (D : DkL) (a : Option Addr) (n c : Nat) (ks : List Bool) (p : Nat) (w : World) (h : Dsk w w.heap.size x D) (hk : Mks w w.heap.size a n c ks) (hn : n = 0 ∨ n = D.2.length) (hp : p < D.1.length) (hlen : (leftD D (markF ks) p).length ≤ 1000000000000) :
    Calls Tryz.prog 118 #[dval x D, .slice a n c, .int .i64 p] w (OwnS (leftD D (markF ks) p) w) := by
  have b0 := (Below.refl w.heap.size w).alloc (Nat.le_refl _) (.cells #[.slice x.ba D.1.length x.bc, .slice x.wa D.2.length x.wc] 26)
  have x0 := Blk.new w 26 #[.slice x.ba D.1.length x.bc, .slice x.wa D.2.length x.wc]
  have h0 := h.step b0
  have hla := rdLast_any x D a n c ks (p : Int) _ h0 (hk.step b0) hn
  have c0 := x0.cell 0
  have c1 := x0.cell 1
  have l1 := h.1.len_le
  have l2 := h.2.len_le
  simp only [dval] at hla ⊢
  have HX := Lib.hid x0
  have HB := Lib.hid b0
  have HD := Lib.hid h0
  unfold leftD at hlen ⊢
  unfold lastN at hla
  cases hlt : lastTo D.2 (markF ks) (p : Int) D.2.length with
  | some i =>
    rw [hlt] at hlen hla
    simp only at hlen hla ⊢
    have hi := (lastTo_lt hlt).1
    have HL := Lib.hid hla
    have i0 : (0 : Int) ≤ i := by omega
    have i1 : (i : Int) < D.2.length := by omega
    have i2 : ¬ (i : Int) < 0 := by omega
    obtain ⟨s, hs⟩ : ∃ s, (wr_ D.2 i).2 = s := ⟨_, rfl⟩
    rw [hs] at hlen ⊢
    have HS := Lib.hid hs
    have HI := Lib.hid hi
    clear h hk hla b0 x0 h0 hlt hs hi
    go_enter Tryz.func118, Tryz.ntmps118
    go_wp2_with fail
    clear c0 c1
    refine HL.out.mono ?_
    rintro e w1 ⟨rfl, b1⟩
    obtain ⟨b, off, q, A, l, c', s', hbe, hlb, hl, _, hc, hd, hA⟩ := (HD.out.step b1).2.at_ HI.out
    have c0 := (HX.out.below b1 HX.out.lt).cell 0
    have c1 := (HX.out.below b1 HX.out.lt).cell 1
    obtain ⟨ba, bc, wa, wc⟩ := x
    obtain rfl : wa = some ⟨b, off, none⟩ := hbe
    simp only at c0 c1 ⊢
    obtain rfl : s' = s := by have := HS.out; rw [hl] at this; exact this
    have HA := Lib.hid hA
    have HO := Lib.hid (own_nil w1 w.heap.size)
    have HB1 := Lib.hid (HB.out.trans (b1.mono HB.out.size))
    have hls := hA.1
    have HLS := Lib.hid hls
    clear hl hA b1 hls HL
    go_wp2_with (at_builtin
                 refine wpList_append_big rfl (.const (.slice none 0 0)) (.tmp 25) rfl w.heap.size (.slice none 0 0) 0 [] rfl HO.out _ A l c' s' rfl HA.out (by have := HLS.out; omega) HB1.out.size ?_
                 intro v7 w7 ho7 hg7
                 rw [Nat.zero_add, List.nil_append] at ho7
                 have HB7 := Lib.hid (app_below HB1.out HO.out hg7 HB1.out.size)
                 have HO7 := Lib.hid ho7
                 clear ho7 hg7)
    go_ret
    exact ⟨v7, rfl, by rw [HLS.out]; exact HO7.out, HB7.out⟩
  | none =>
    rw [hlt] at hlen hla
    simp only at hlen hla ⊢
    have HL := Lib.hid hla
    have i0 : (0 : Int) ≤ p := by omega
    have i1 : (p : Int) < D.1.length := by omega
    obtain ⟨s, hs⟩ : ∃ s, D.1.getD p [] = s := ⟨_, rfl⟩
    rw [hs] at hlen ⊢
    have HS := Lib.hid hs
    clear h hk hla b0 x0 h0 hlt hs
    go_enter Tryz.func118, Tryz.ntmps118
    go_wp2_with fail
    clear c0 c1
    refine HL.out.mono ?_
    rintro e w1 ⟨rfl, b1⟩
    obtain ⟨b, off, A, l, c', s', hbe, hlb, hl, hc, hA⟩ := (HD.out.step b1).1.at_ hp
    have c0 := (HX.out.below b1 HX.out.lt).cell 0
    have c1 := (HX.out.below b1 HX.out.lt).cell 1
    obtain ⟨ba, bc, wa, wc⟩ := x
    obtain rfl : ba = some ⟨b, off, none⟩ := hbe
    simp only at c0 c1 ⊢
    obtain rfl : s' = s := by have := HS.out; rw [hl] at this; exact this
    have HA := Lib.hid hA
    have HO := Lib.hid (own_nil w1 w.heap.size)
    have HB1 := Lib.hid (HB.out.trans (b1.mono HB.out.size))
    have hls := hA.1
    have HLS := Lib.hid hls
    clear hl hA b1 hls HL
    go_wp2_with (at_builtin
                 refine wpList_append_big rfl (.const (.slice none 0 0)) (.tmp 18) rfl w.heap.size (.slice none 0 0) 0 [] rfl HO.out _ A l c' s' rfl HA.out (by have := HLS.out; omega) HB1.out.size ?_
                 intro v7 w7 ho7 hg7
                 rw [Nat.zero_add, List.nil_append] at ho7
                 have HB7 := Lib.hid (app_below HB1.out HO.out hg7 HB1.out.size)
                 have HO7 := Lib.hid ho7
                 clear ho7 hg7)
    go_ret
    exact ⟨v7, rfl, by rw [HLS.out]; exact HO7.out, HB7.out⟩
theorem mks_nil (w : World) (B : Nat) : Mks w B none 0 0 [] := ⟨rfl, Nat.le_refl _, Nat.zero_le _, fun h => absurd h (Nat.lt_irrefl _)⟩
theorem markF_nil : markF [] = fun _ => true := by
  funext i
  rfl
theorem rdSeen_any (x : DAt) (D : DkL) (p : Nat) (w : World) (h : Dsk w w.heap.size x D) (hp : p < D.1.length) (hlen : (leftD D (fun _ => true) p).length ≤ 1000000000000) :
    Calls Tryz.prog 87 #[dval x D, .int .i64 p] w (OwnS (leftD D (fun _ => true) p) w) := by
  have b0 := (Below.refl w.heap.size w).alloc (Nat.le_refl _) (.cells #[.slice x.ba D.1.length x.bc, .slice x.wa D.2.length x.wc] 26)
  have x0 := Blk.new w 26 #[.slice x.ba D.1.length x.bc, .slice x.wa D.2.length x.wc]
  have hl := rdLeft_any x D none 0 0 [] p _ (h.step b0) (mks_nil _ _) (.inl rfl) hp (by rw [markF_nil]; exact hlen)
  rw [markF_nil] at hl
  have c0 := x0.cell 0
  have c1 := x0.cell 1
  simp only [dval] at hl ⊢
  have HL := Lib.hid hl
  have HB := Lib.hid b0
  obtain ⟨s, hs⟩ : ∃ s, leftD D (fun _ => true) p = s := ⟨_, rfl⟩
  rw [hs] at HL ⊢
  clear h hl x0 b0 hs hlen
  go_enter Tryz.func87, Tryz.ntmps87
  go_wp2_with fail
  refine HL.out.mono ?_
  rintro e w1 ⟨v, rfl, h1, b1⟩
  have HO := Lib.hid (own_mono h1 HB.out.size)
  have HB1 := Lib.hid (HB.out.trans (b1.mono HB.out.size))
  clear h1 b1
  go_wp2_with fail
  go_ret
  exact ⟨v, rfl, HO.out, HB1.out⟩
end Go.Proofs.YtbggkfomfeeikaaGreatDoor
/-
  The document's own With for layer 9, with the rows that it makes.
-/
namespace Go.Proofs.YtbggkfomfeeikaaGreatDoor
open Go.RowKit Go.Shelf
set_option maxRecDepth 100000

/-- A disk whose rows are rows: it stays where boxes of disks are written. -/
def DskR (w : World) (x : DAt) (D : DkL) : Prop := ∃ b1 b2, BRowC w 0 b1 (.slice x.ba D.1.length x.bc) D.1 ∧ WRowC w 0 b2 (.slice x.wa D.2.length x.wc) D.2
theorem DskR.below {w w' : World} {x : DAt} {D : DkL} (h : DskR w x D) (hb : Below w.heap.size w w') : DskR w' x D := by
  obtain ⟨b1, b2, h1, h2⟩ := h
  exact ⟨b1, b2, h1.below hb, h2.below hb⟩
end Go.Proofs.YtbggkfomfeeikaaGreatDoor
/-
  slices.Grow of nil, and slices.Concat of lists of bytes: new memory that holds them all, one behind the other; nothing that was there is written.
-/
namespace Go.Proofs.YtbggkfomfeeikaaGreatDoor
open Go.RowKit Go.Shelf
set_option maxRecDepth 100000

set_option maxHeartbeats 1000000 in
theorem grow_any (n : Nat) (h0 : 0 < n) (hn : n ≤ 100000) (w : World) : Calls Tryz.prog 115 #[.slice none 0 0, .int .i64 n] w fun e w' => ∃ v, e = .returned v ∧ w'.ownsRow w.heap.size 5 1 v 0 (vals []) ∧ Below w.heap.size w w' := by
  obtain ⟨i0, hi, hz0, hz1, hz2⟩ := info_parts infoU8
  have hr : ∀ ty, (Builtin.append_ #[27, 3] ty #[.slice none 0 0, .int .i64 n]).run Tryz.prog w =
      .ok (.slice (some ⟨w.heap.size, 0, none⟩) n (grownCap w n 0 5)) (w.drew.alloc (.cells (Builtin.zeroCells (Value.int .u8 0).cells n ++ Builtin.zeroCells (Value.int .u8 0).cells (grownCap w n 0 5 - n)) 5)) := fun ty =>
    Lib.run_append_nil_zeros w 27 3 ty 5 i0 (.int .u8 0) .i64 .i64 Tryz.underlying27 Tryz.underlying3 hi hz0 n h0 (by omega) (by omega) (by rw [hz2]; omega)
  have hG1 : n ≤ grownCap w n 0 5 := grownCap_ge w _ _ _
  have hG2 : grownCap w n 0 5 ≤ maxLen := grownCap_le_maxLen w n 0 5 (by unfold maxLen; omega)
  obtain ⟨G, hG⟩ : ∃ G, grownCap w n 0 5 = G := ⟨_, rfl⟩
  rw [hG] at hr hG1 hG2
  obtain ⟨cs, hcs⟩ : ∃ cs, Builtin.zeroCells (Value.int .u8 0).cells n ++ Builtin.zeroCells (Value.int .u8 0).cells (G - n) = cs := ⟨_, rfl⟩
  have hsz : cs.size = G := by
    rw [← hcs]
    simp [Builtin.zeroCells, Value.cells]
    omega
  rw [hcs] at hr
  have z5 : ∀ w, (Go.sizeOf 5).run Tryz.prog w = .ok 1 w := fun w => by kernel_rfl
  have n1 : ¬ ((n : Int) < 0) := by omega
  have n2 : (0 : Int) < n := by omega
  have n3 : (n : Int) ≤ 100000 := by omega
  have g0 : (G : Int) ≤ 9223372036854775807 := by unfold maxLen at hG2; omega
  have hown : (w.drew.alloc (.cells cs 5)).ownsRow w.heap.size 5 1 (.slice (some ⟨w.heap.size, 0, none⟩) 0 G) 0 (vals []) :=
    ⟨rfl, .inr ⟨w.heap.size, G, cs, rfl, Nat.le_refl _, by have := heap_alloc_new w.drew (.cells cs 5); simpa using this, Nat.zero_le _, hG2, by omega, by simp [vals]⟩⟩
  have hbel : Below w.heap.size w (w.drew.alloc (.cells cs 5)) := (Below.refl _ w).drew.alloc (by simp) _
  have HO := Lib.hid hown; clear hown
  have HB := Lib.hid hbel; clear hbel
  have HG2 := Lib.hid hG2; clear hG2
  clear hG hcs hsz hi hz0 hz1 hz2
  go_enter Tryz.func115, Tryz.ntmps115
  go_wp2_with (at_builtin; refine Lib.wpList_append_run _ rfl _ _ _ _ rfl _ _ rfl rfl _ _ (hr _) ?_)
  go_ret
  exact ⟨_, rfl, HO.out, HB.out⟩

/-- A list of bytes as it is handed in. -/
structure Part where
  a : Option Addr
  len : Nat
  cap : Nat
  s : List UInt8
/-- Lists, one behind the other. -/
def flat (ps : List Part) : List UInt8 := ps.flatMap (·.s)
theorem flat_take_succ (ps : List Part) (k : Nat) (h : k < ps.length) : flat (ps.take (k + 1)) = flat (ps.take k) ++ (ps[k]).s := by
  unfold flat
  rw [List.take_succ_eq_append_getElem h, List.flatMap_append]
  simp
theorem flat_take_le (ps : List Part) (k : Nat) : (flat (ps.take k)).length ≤ (flat ps).length := by
  have : flat ps = flat (ps.take k) ++ flat (ps.drop k) := by
    unfold flat
    rw [← List.flatMap_append, List.take_append_drop]
  rw [this, List.length_append]
  omega

/-- The same, the call's own. -/
def OwnPost (s : List UInt8) (w : World) (e : Ending) (w' : World) : Prop := ∃ v, e = .returned v ∧ w'.ownsRow w.heap.size 5 1 v s.length (vals s) ∧ Below w.heap.size w w'

set_option maxHeartbeats 2000000 in
theorem concat_own (r c : Nat) (ps : List Part) (w : World) (hr : r < w.heap.size) (hl : ps.length ≤ 1000) (_hc : ps.length ≤ c)
    (hcell : ∀ i (h : i < ps.length), w.cell? ⟨r, i, none⟩ = some (.slice (ps[i]).a (ps[i]).len (ps[i]).cap)) (hb : ∀ i (h : i < ps.length), Bsl w w.heap.size (ps[i]).a (ps[i]).len (ps[i]).cap (ps[i]).s)
    (h0 : 0 < (flat ps).length) (hm : (flat ps).length ≤ 100000) :
    Calls Tryz.prog 83 #[.slice (some ⟨r, 0, none⟩) ps.length c] w (OwnPost (flat ps) w) := by
  obtain ⟨n, hn⟩ : ∃ n, ps.length = n := ⟨_, rfl⟩
  have HN := Lib.hid hn
  rw [hn] at hl ⊢
  clear hn
  have n0 : (0 : Int) ≤ n := by omega
  have n1 : (n : Int) ≤ 1000 := by omega
  have HC := Lib.hid hcell; clear hcell
  have HB := Lib.hid hb; clear hb
  have HM := Lib.hid hm; clear hm
  have H0 := Lib.hid h0; clear h0
  go_enter Tryz.func83, Tryz.ntmps83
  go_wp2_with fail
  go_loop [3, 11] (fun z i => ∃ k : Nat, k ≤ n ∧ i = .int .i64 k ∧ z = .int .i64 ((flat (ps.take k)).length : Nat)) (fun _ i => n - (intOf i).toNat)
  case atStart => exact ⟨0, Nat.zero_le _, rfl, rfl⟩
  case round =>
    obtain ⟨k, hk, rfl, rfl⟩ := hrel
    by_cases hlt : k < n
    · have hkp : k < ps.length := by rw [HN.out]; exact hlt
      have hce := HC.out k hkp
      have hbe := (HB.out k hkp).1
      have hsu := flat_take_succ ps k hkp
      have hle := flat_take_le ps (k + 1)
      rw [hsu, List.length_append, hbe] at hle
      have hsl : (flat (ps.take (k + 1))).length = (flat (ps.take k)).length + (ps[k]).len := by rw [hsu, List.length_append, hbe]
      obtain ⟨p, hp⟩ : ∃ p, ps[k] = p := ⟨_, rfl⟩
      rw [hp] at hce hle hsl
      obtain ⟨m, hm⟩ : ∃ m, (flat (ps.take k)).length = m := ⟨_, rfl⟩
      rw [hm] at hle hsl ⊢
      obtain ⟨pa, pl, pc, pss⟩ := p
      dsimp only at hce hle hsl
      have hmm := HM.out
      have m0 : (0 : Int) ≤ (m : Int) := by omega
      have m1 : (m : Int) + (pl : Int) ≤ 100000 := by omega
      have m2 : (0 : Int) ≤ (pl : Int) := by omega
      have m3 : ¬ ((m : Int) + (pl : Int) < 0) := by omega
      have k0 : (k : Int) < n := by omega
      have HSL := Lib.hid hsl; clear hsl
      clear hp hm hsu hbe hle hmm
      go_wp2_with fail
      go_round
      case rel => exact ⟨k + 1, by omega, by go_num, by rw [HSL.out]; go_num⟩
      case measure => simp [intOf]; omega
    · obtain rfl : k = n := by omega
      have ht : ps.take k = ps := List.take_of_length_le (by rw [HN.out]; exact Nat.le_refl _)
      rw [ht]
      obtain ⟨m, hm⟩ : ∃ m, (flat ps).length = m := ⟨_, rfl⟩
      have gr := grow_any m (by rw [← hm]; exact H0.out) (by rw [← hm]; exact HM.out) w
      rw [hm]
      have GR := Lib.hid gr; clear gr
      have HML := Lib.hid hm; clear hm ht
      go_wp2_with fail
      refine GR.out.mono ?_
      rintro e w1 ⟨v, rfl, ho, b1⟩
      have HO := Lib.hid ho; clear ho
      have HB1 := Lib.hid b1; clear b1
      go_wp2_with fail
      go_loopw [6, 27] (fun v i wr => ∃ j : Nat, j ≤ k ∧ i = .int .i64 j ∧ wr.ownsRow w.heap.size 5 1 v (flat (ps.take j)).length (vals (flat (ps.take j))) ∧ Below w.heap.size w wr) (fun _ i _ => k - (intOf i).toNat)
      case atStart => exact ⟨0, Nat.zero_le _, rfl, HO.out, HB1.out⟩
      case round =>
        obtain ⟨j, hj, rfl, ho2, hb2⟩ := hrel
        by_cases hlt2 : j < k
        · have hkp : j < ps.length := by rw [HN.out]; exact hlt2
          have hce := (hb2.cell (p := ⟨r, j, none⟩) hr).trans (HC.out j hkp)
          have hbs := ((HB.out j hkp).below hb2).more hb2.size
          have hbe := (HB.out j hkp).1
          have hsu := flat_take_succ ps j hkp
          have hle := flat_take_le ps (j + 1)
          rw [hsu, List.length_append, hbe] at hle
          obtain ⟨p, hp⟩ : ∃ p, ps[j] = p := ⟨_, rfl⟩
          rw [hp] at hce hle hsu hbs hbe
          obtain ⟨t, ht⟩ : ∃ t, flat (ps.take j) = t := ⟨_, rfl⟩
          rw [ht] at hle hsu ho2
          obtain ⟨pa, pl, pc, pss⟩ := p
          dsimp only at hce hle hsu hbs hbe
          have hmm := HM.out
          have k0 : (j : Int) < k := by omega
          have hnm : t.length + pl ≤ 100000 := by omega
          have HSU := Lib.hid hsu; clear hsu
          have HO2 := Lib.hid ho2; clear ho2
          have HB2 := Lib.hid hb2; clear hb2
          have HBS := Lib.hid hbs; clear hbs
          have HBE := Lib.hid hbe; clear hbe
          clear hp ht hle hmm
          go_wp2_with (at_builtin; refine wpList_append_bsl rfl (.tmp 31) (.tmp 32) rfl w.heap.size u6 t.length _ rfl HO2.out wr.heap.size pa pl pc pss rfl HBS.out hnm HB2.out.size ?_; intro v' W3 hown' hg')
          have hb3 : Below w.heap.size w W3 := HB2.out.grown hg' HB2.out.size (fun k e => (HO2.out.lt k e).1)
          have HO3 := Lib.hid hown'; clear hown'
          have HB3 := Lib.hid hb3; clear hb3 hg'
          go_wp2_with fail
          go_roundw
          case rel => exact ⟨j + 1, by omega, by go_num, by rw [HSU.out, List.length_append, HBE.out]; exact HO3.out, HB3.out⟩
          case measure => simp [intOf]; omega
        · obtain rfl : j = k := by omega
          have ht : ps.take j = ps := List.take_of_length_le (by rw [HN.out]; exact Nat.le_refl _)
          rw [ht] at ho2
          have HO2 := Lib.hid ho2
          have HB2 := Lib.hid hb2; clear hb2
          clear ho2 ht
          go_wp2_with fail
          go_ret
          exact ⟨_, rfl, HO2.out, HB2.out⟩
end Go.Proofs.YtbggkfomfeeikaaGreatDoor
/-
  A range over a function that has no end of its own: it goes on until the body leaves it. What the iterator tells of each value and of the world is handed to the body; a bound on the rounds comes from the caller.
-/
namespace Go.Proofs.YtbggkfomfeeikaaGreatDoor
open Go Go.RowKit
set_option maxRecDepth 100000

/-- Cells at or behind block B stay. -/
def CellsFrom (B : Nat) (W W' : World) : Prop := W.heap.size ≤ W'.heap.size ∧ ∀ p v, B ≤ p.block → W.cell? p = some v → W'.cell? p = some v
/-- All that lies at or behind block B stays. -/
def AllFrom (B : Nat) (W W' : World) : Prop := W.heap.size ≤ W'.heap.size ∧ ∀ k o, B ≤ k → W.heap[k]? = some o → W'.heap[k]? = some o
theorem CellsFrom.trans {B : Nat} {a b c : World} (h : CellsFrom B a b) (k : CellsFrom B b c) : CellsFrom B a c := ⟨Nat.le_trans h.1 k.1, fun p v hp hv => k.2 p v hp (h.2 p v hp hv)⟩
theorem AllFrom.cells {B : Nat} {a b : World} (h : AllFrom B a b) : CellsFrom B a b := ⟨h.1, fun p v hp hv => by
  obtain ⟨o, ho, _⟩ := cells_of_cell hv
  have := h.2 _ o hp ho
  exact (World.cell?_of_block (this.trans ho.symm)).trans hv⟩
theorem below_putObj {B : Nat} {W : World} {l : Nat} (o : Obj) (h : B ≤ l) : Below B W (W.putObj l o) :=
  ⟨rfl, rfl, rfl, by simp, fun k hk => World.putObj_heap_other (by omega)⟩

end Go.Proofs.YtbggkfomfeeikaaGreatDoor
/-
  cipher.pieces hands out the pieces of the stream of a key and a number, from the first one on, for as long as they are asked for.
-/
namespace Go.Proofs.YtbggkfomfeeikaaGreatDoor
open Go.RowKit Go.Shelf
set_option maxRecDepth 100000
attribute [local go_sem] Oper.semAt_some

end Go.Proofs.YtbggkfomfeeikaaGreatDoor
/-
  cipher's stream, of a key, a number and a length that may be, is so many bytes of its pieces, in new memory; nothing that was there is written.
-/
namespace Go.Proofs.YtbggkfomfeeikaaGreatDoor
open Go.RowKit Go.Shelf
set_option maxRecDepth 100000
attribute [local go_sem] Oper.semAt_some

/-- What the loop keeps behind c bytes s. -/
def StI (g n : Nat) (w : World) (c : Nat) (s : List UInt8) (W : World) : Prop :=
  Blk W g 3 #[.int .i64 n] ∧ Blk W (g + 2) 27 #[.slice (some ⟨g + 1, 0, none⟩) c n] ∧ W.ownsRow g 5 1 (.slice (some ⟨g + 1, 0, none⟩) c n) c (vals s) ∧ Below g w W
theorem StI.below {g n : Nat} {w : World} {c : Nat} {s : List UInt8} {W W' : World} {B : Nat} (h : StI g n w c s W) (hb : Below B W W') (hB : g + 3 ≤ B) : StI g n w c s W' := by
  obtain ⟨h1, h2, h3, h4⟩ := h
  refine ⟨h1.below hb (by omega), h2.below hb (by omega), ?_, h4.trans (hb.mono (by omega))⟩
  obtain ⟨e1, ⟨e2, _⟩ | ⟨g', cap, cur, e3, e4, e5, e6⟩⟩ := h3
  · cases e2
  · cases e3
    exact ⟨e1, .inr ⟨g + 1, n, cur, rfl, e4, (hb.block _ (by omega)).trans e5, e6⟩⟩

end Go.Proofs.YtbggkfomfeeikaaGreatDoor
/-
  A row of the call's own that holds a text, and is written byte by byte.
-/
namespace Go.Proofs.YtbggkfomfeeikaaGreatDoor
open Go.RowKit Go.Shelf
set_option maxRecDepth 100000

/-- A row of the call's own that holds a text. -/
def RowI (W : World) (g len cap : Nat) (t : List UInt8) : Prop := ∃ cur : Array Value, Blk W g 5 cur ∧ cur.size = cap ∧ t.length = len ∧ len ≤ cap ∧ cur.toList.take len = vals t
theorem RowI.set_ {W : World} {g len cap : Nat} {t : List UInt8} (h : RowI W g len cap t) {j : Nat} (_hj : j < len) (y : UInt8) : RowI (W.setCell ⟨g, j, none⟩ (.int .u8 (y.toNat : Int))) g len cap (t.set j y) := by
  obtain ⟨cur, hb, hs, ht, hl, hc⟩ := h
  refine ⟨_, hb.set_ j _, by simpa using hs, by rw [List.length_set]; exact ht, hl, ?_⟩
  rw [Array.toList_setIfInBounds, List.take_set, hc, vals, vals, List.map_set]
theorem RowI.below {W W1 : World} {g len cap B : Nat} {t : List UInt8} (h : RowI W g len cap t) (hb : Below B W W1) (hg : g < B) : RowI W1 g len cap t := by
  obtain ⟨cur, h1, h2⟩ := h
  exact ⟨cur, h1.below hb hg, h2⟩
end Go.Proofs.YtbggkfomfeeikaaGreatDoor
/-
  Words for stores by value (api.Store): a disk, a table, Epoch and Count; where they lie; what calls that answer stores answer.
-/
namespace Go.Proofs.YtbggkfomfeeikaaGreatDoor
open Go.RowKit Go.Shelf
set_option maxRecDepth 100000

/-- A store: its disk, its table, its Epoch and its Count. -/
abbrev StL := DkL × List UInt8 × Nat × Nat
/-- Where its slices are. -/
structure SAt where
  d : DAt
  a : Option Addr
  c : Nat
/-- The store as a value. -/
@[reducible] def stV (x : SAt) (S : StL) : Value := .agg #[.slice x.d.ba S.1.1.length x.d.bc, .slice x.d.wa S.1.2.length x.d.wc, .slice x.a S.2.1.length x.c, .int .u32 (S.2.2.1 : Int), .int .u32 (S.2.2.2 : Int)]
/-- Its cells. -/
@[reducible] def stC (x : SAt) (S : StL) : Array Value := #[.slice x.d.ba S.1.1.length x.d.bc, .slice x.d.wa S.1.2.length x.d.wc, .slice x.a S.2.1.length x.c, .int .u32 (S.2.2.1 : Int), .int .u32 (S.2.2.2 : Int)]
/-- Its numbers fit. -/
def WfS (S : StL) : Prop := S.2.2.1 < 4294967296 ∧ S.2.2.2 < 4294967296
/-- A store that lies below block B reads as S. -/
def Str (w : World) (B : Nat) (x : SAt) (S : StL) : Prop := Dsk w B x.d S.1 ∧ Bsl w B x.a S.2.1.length x.c S.2.1
/-- It goes on reading so. -/
def StP (L : Nat) (w : World) (x : SAt) (S : StL) : Prop := Lasts L w fun W => Str W W.heap.size x S
theorem Str.lasts {w : World} {L : Nat} {x : SAt} {S : StL} (h : Str w L x S) (hL : L ≤ w.heap.size) : StP L w x S := (dsk_lasts h.1 hL).and (bsl_lasts h.2 hL)
theorem dskR_lasts {w : World} {x : DAt} {D : DkL} (h : DskR w x D) (L : Nat) : Lasts L w fun W => Dsk W W.heap.size x D := fun _ k => by
  obtain ⟨b1, b2, h1, h2⟩ := h
  exact rows_dsk (brow_keeps h1 k) (wrow_keeps h2 k)
/-- A store may be. -/
def MayS (S : StL) : Prop := MayD S.1 ∧ MayT S.2.1 ∧ (1 ≤ S.2.2.1 ∧ S.2.2.1 ≤ 65535) ∧ S.2.2.2 ≤ 65535
/-- The sum of bytes. -/
def sumOf (b : List UInt8) : Nat := (fourW b).a.toNat
/-- A block as a flush would leave it. -/
def seenS (S : StL) (k : Nat) : List UInt8 := leftD S.1 (fun _ => true) k
/-- What Look answers of a store and a pointer that may be. -/
def seenO (S : StL) (p : Pt) : List UInt8 × Nat :=
  if p = p0 then ([], 6) else if sumOf (seenS S p.1.toNat) = p.2.2.2.2 then (seenS S p.1.toNat, 0) else ([], 130)
noncomputable def lookO (S : StL) (p : Pt) : List UInt8 × Nat :=
  open Classical in if MayS S ∧ MayP p then seenO S p else ([], 8)
/-- A store and no error's number. -/
def OutS (L : Nat) (S : StL) (w : World) (e : Ending) (w' : World) : Prop := ∃ y, e = .returned (stV y S) ∧ StP L w' y S ∧ Below w.heap.size w w'
/-- Bytes and an error's number. -/
def OutBE (o : List UInt8 × Nat) (w : World) (e : Ending) (w' : World) : Prop := ∃ v, e = .returned (.tuple #[v, .int .i64 o.2]) ∧ w'.ownsRow w.heap.size 5 1 v o.1.length (vals o.1) ∧ Below w.heap.size w w'
theorem mayP_at {p : Pt} (h : MayP p) (hp : p ≠ p0) : ∃ k : Nat, p.1 = (k : Int) ∧ 12 ≤ k ∧ k < 256 := by
  rcases h with h | h
  · exact absurd h hp
  · exact ⟨p.1.toNat, by omega, by omega, by omega⟩
end Go.Proofs.YtbggkfomfeeikaaGreatDoor
/-
  What follows of stores as plain lists: a block laid is seen, no other changes; what was sealed is opened; what was given up is seen as before; room; numbers; a byte turned.
-/
namespace Go.Proofs.YtbggkfomfeeikaaGreatDoor
open Go.RowKit Go.Shelf
set_option maxRecDepth 100000

theorem lookO_may {S : StL} {p : Pt} (h : MayS S) (hp : MayP p) : lookO S p = seenO S p := by unfold lookO; rw [if_pos ⟨h, hp⟩]
end Go.Proofs.YtbggkfomfeeikaaGreatDoor
/-
  ptr.mayBe, ptr.put and ptr.get, whatever pointer and whichever sixteen bytes they are handed; nothing that was there is written.
-/
namespace Go.Proofs.YtbggkfomfeeikaaGreatDoor
open Go.RowKit Go.Shelf
set_option maxRecDepth 100000

/-- The sizes lie where the program's initialiser laid them. -/
def Szs (w : World) : Prop := 0 < w.heap.size ∧ w.cell? ⟨0, 0, none⟩ = some (.int .i64 1) ∧ w.cell? ⟨0, 1, none⟩ = some (.int .i64 3) ∧ w.cell? ⟨0, 2, none⟩ = some (.int .i64 4) ∧ w.cell? ⟨0, 3, none⟩ = some (.int .i64 4) ∧ w.cell? ⟨0, 4, none⟩ = some (.int .i64 4)
theorem Szs.below {B : Nat} {w w' : World} (h : Szs w) (hb : Below B w w') (hB : 0 < B) : Szs w' := by
  obtain ⟨h0, h1, h2, h3, h4, h5⟩ := h
  exact ⟨Nat.lt_of_lt_of_le h0 hb.size, (hb.cell (p := ⟨0, 0, none⟩) hB).trans h1, (hb.cell (p := ⟨0, 1, none⟩) hB).trans h2, (hb.cell (p := ⟨0, 2, none⟩) hB).trans h3, (hb.cell (p := ⟨0, 3, none⟩) hB).trans h4, (hb.cell (p := ⟨0, 4, none⟩) hB).trans h5⟩
theorem Szs.step {w w' : World} (h : Szs w) (hb : Below w.heap.size w w') : Szs w' := h.below hb h.1

theorem szIdx0 (W : World) : (Instr.index 148 (.agg #[.int .i64 1, .int .i64 3, .int .i64 4, .int .i64 4, .int .i64 4]) (.int .i64 0)).run Tryz.prog W = .ok (.int .i64 1) W := by kernel_rfl
theorem szIdx1 (W : World) : (Instr.index 148 (.agg #[.int .i64 1, .int .i64 3, .int .i64 4, .int .i64 4, .int .i64 4]) (.int .i64 1)).run Tryz.prog W = .ok (.int .i64 3) W := by kernel_rfl
theorem szIdx2 (W : World) : (Instr.index 148 (.agg #[.int .i64 1, .int .i64 3, .int .i64 4, .int .i64 4, .int .i64 4]) (.int .i64 2)).run Tryz.prog W = .ok (.int .i64 4) W := by kernel_rfl
theorem szIdx3 (W : World) : (Instr.index 148 (.agg #[.int .i64 1, .int .i64 3, .int .i64 4, .int .i64 4, .int .i64 4]) (.int .i64 3)).run Tryz.prog W = .ok (.int .i64 4) W := by kernel_rfl
theorem szIdx4 (W : World) : (Instr.index 148 (.agg #[.int .i64 1, .int .i64 3, .int .i64 4, .int .i64 4, .int .i64 4]) (.int .i64 4)).run Tryz.prog W = .ok (.int .i64 4) W := by kernel_rfl
/-- A pointer's bytes. -/
def bytesP (p : Pt) : List UInt8 := leB 1 p.1.toNat ++ leB 3 p.2.1 ++ leB 4 p.2.2.1 ++ leB 4 p.2.2.2.1 ++ leB 4 p.2.2.2.2
/-- The pointer whose bytes these are. -/
def getP (s : List UInt8) : Pt := (((leN ((s.drop 0).take 1) : Nat) : Int), leN ((s.drop 1).take 3), leN ((s.drop 4).take 4), leN ((s.drop 8).take 4), leN ((s.drop 12).take 4))
theorem leN_le (s : List UInt8) (i k : Nat) : leN ((s.drop i).take k) < 256 ^ k :=
  Nat.lt_of_lt_of_le (leN_lt _) (Nat.pow_le_pow_right (by omega) (by simp; omega))
theorem wf_getP (s : List UInt8) : WfP (getP s) := by
  have h0 := leN_le s 0 1
  have h1 := leN_le s 1 3
  have h2 := leN_le s 4 4
  have h3 := leN_le s 8 4
  have h4 := leN_le s 12 4
  refine ⟨⟨?_, ?_⟩, ?_, ?_, ?_, ?_⟩ <;> simp only [getP] <;> omega
/-- A pointer that may be has numbers that have room. -/
theorem MayP.room {p : Pt} (h : MayP p) : (0 ≤ p.1 ∧ p.1 < 256) ∧ p.2.1 < 16777216 := by
  rcases h with rfl | ⟨⟨h1, h2⟩, h3, h4⟩
  · decide
  · omega
theorem bytesP_getP {s : List UInt8} (h : s.length = 16) : bytesP (getP s) = s := by
  have back : ∀ (i k : Nat), i + k ≤ 16 → leB k (leN ((s.drop i).take k)) = (s.drop i).take k := fun i k hk => by
    have := leB_leN ((s.drop i).take k)
    rwa [win_length (by omega)] at this
  have e0 : (((leN ((s.drop 0).take 1) : Nat) : Int)).toNat = leN ((s.drop 0).take 1) := by omega
  simp only [bytesP, getP]
  rw [e0, back 0 1 (by omega), back 1 3 (by omega), back 4 4 (by omega), back 8 4 (by omega), back 12 4 (by omega)]
  have j : ∀ i k, s.take i ++ (s.drop i).take k = s.take (i + k) := fun i k => List.take_add.symm
  rw [List.drop_zero, j 1 3, j 4 4, j 8 4, j 12 4]
  exact List.take_of_length_le (by omega)

theorem isTaken_any (a : Int) (w : World) : Calls Tryz.prog 107 #[.int .i64 a] w fun e w' => e = .returned (.bool (decide (12 ≤ a ∧ a < 256))) ∧ w = w' := by
  by_cases h : 12 ≤ a
  · by_cases h2 : a < 256
    · rw [decide_eq_true (And.intro h h2)]
      go_enter Tryz.func107, Tryz.ntmps107
      go_wp2_with fail
      go_ret
      exact ⟨rfl, rfl⟩
    · rw [decide_eq_false (fun hh : 12 ≤ a ∧ a < 256 => h2 hh.2)]
      go_enter Tryz.func107, Tryz.ntmps107
      go_wp2_with fail
      go_ret
      exact ⟨rfl, rfl⟩
  · rw [decide_eq_false (fun hh : 12 ≤ a ∧ a < 256 => h hh.1)]
    go_enter Tryz.func107, Tryz.ntmps107
    go_wp2_with fail
    go_ret
    exact ⟨rfl, rfl⟩
theorem isSync_any (b : Nat) (w : World) : Calls Tryz.prog 108 #[.int .u32 (b : Int)] w fun e w' => e = .returned (.bool (decide (1 ≤ b ∧ b ≤ 16777215))) ∧ w = w' := by
  by_cases h : 1 ≤ b
  · by_cases h2 : b ≤ 16777215
    · rw [decide_eq_true (And.intro h h2)]
      have i1 : (1 : Int) ≤ (b : Int) := by omega
      have i2 : (b : Int) ≤ 16777215 := by omega
      go_enter Tryz.func108, Tryz.ntmps108
      go_wp2_with fail
      go_ret
      exact ⟨rfl, rfl⟩
    · rw [decide_eq_false (fun hh : 1 ≤ b ∧ b ≤ 16777215 => h2 hh.2)]
      have i1 : (1 : Int) ≤ (b : Int) := by omega
      have i2 : ¬ (b : Int) ≤ 16777215 := by omega
      go_enter Tryz.func108, Tryz.ntmps108
      go_wp2_with fail
      go_ret
      exact ⟨rfl, rfl⟩
  · rw [decide_eq_false (fun hh : 1 ≤ b ∧ b ≤ 16777215 => h hh.1)]
    have i1 : ¬ (1 : Int) ≤ (b : Int) := by omega
    go_enter Tryz.func108, Tryz.ntmps108
    go_wp2_with fail
    go_ret
    exact ⟨rfl, rfl⟩
theorem mayBe_any (p : Pt) (w : World) : Calls Tryz.prog 77 #[ptV p] w fun e w' => e = .returned (.bool (decide (MayP p))) ∧ Below w.heap.size w w' := by
  obtain ⟨a, b, c, d, e⟩ := p
  have heq := eqPt_zero a b c d e
  by_cases h0 : eqP (a, b, c, d, e) p0 = true
  · have hm : decide (MayP (a, b, c, d, e)) = true := decide_eq_true (.inl ((eqP_iff _ _).1 h0))
    rw [hm]
    rw [h0] at heq
    go_enter Tryz.func77, Tryz.ntmps77
    go_wp2_with fail
    go_ret
    exact ⟨rfl, (Below.refl _ w).alloc (Nat.le_refl _) _⟩
  · have h0' : eqP (a, b, c, d, e) p0 = false := by simpa using h0
    rw [h0'] at heq
    have hne : (a, b, c, d, e) ≠ p0 := fun hh => h0 ((eqP_iff _ _).2 hh)
    by_cases h1 : 12 ≤ a ∧ a < 256
    · have hm : decide (MayP (a, b, c, d, e)) = decide (1 ≤ b ∧ b ≤ 16777215) := by
        rw [decide_eq_decide]
        exact ⟨fun hh => (hh.resolve_left hne).2, fun hh => .inr ⟨h1, hh⟩⟩
      rw [hm]
      have ht := isTaken_any a
      rw [decide_eq_true h1] at ht
      have hs := isSync_any b
      obtain ⟨r, hr⟩ : ∃ r, decide (1 ≤ b ∧ b ≤ 16777215) = r := ⟨_, rfl⟩
      rw [hr] at hs ⊢
      clear hm hr h1 hne h0 h0'
      go_enter Tryz.func77, Tryz.ntmps77
      go_wp2_with (first | (go_at_call 107; refine (ht _).mono ?_; rintro e w' ⟨rfl, rfl⟩) | (go_at_call 108; refine (hs _).mono ?_; rintro e w' ⟨rfl, rfl⟩))
      go_ret
      exact ⟨rfl, (Below.refl _ w).alloc (Nat.le_refl _) _⟩
    · have hm : decide (MayP (a, b, c, d, e)) = false := decide_eq_false fun hh => h1 (hh.resolve_left hne).1
      rw [hm]
      have ht := isTaken_any a
      rw [decide_eq_false h1] at ht
      clear hm h1 hne h0 h0'
      go_enter Tryz.func77, Tryz.ntmps77
      go_wp2_with (go_at_call 107; refine (ht _).mono ?_; rintro e w' ⟨rfl, rfl⟩)
      go_ret
      exact ⟨rfl, (Below.refl _ w).alloc (Nat.le_refl _) _⟩
end Go.Proofs.YtbggkfomfeeikaaGreatDoor
/-
  Words for objects by value (api.Object): kind, names, size, pointers; their blocks as bytes; what is written is read as it was, and the other way round.
-/
namespace Go.Proofs.YtbggkfomfeeikaaGreatDoor
open Go.RowKit Go.Shelf
set_option maxRecDepth 100000

/-- An object: Kind, Links, Size, Data. -/
abbrev ObL := Nat × Int × Int × List Pt
/-- The object as a value. -/
@[reducible] def obV (a : Option Addr) (c : Nat) (O : ObL) : Value := .agg #[.int .u8 (O.1 : Int), .int .i64 O.2.1, .int .i64 O.2.2.1, .slice a O.2.2.2.length c]
/-- Its cells. -/
@[reducible] def obC (a : Option Addr) (c : Nat) (O : ObL) : Array Value := #[.int .u8 (O.1 : Int), .int .i64 O.2.1, .int .i64 O.2.2.1, .slice a O.2.2.2.length c]
/-- Its numbers fit. -/
def WfOb (O : ObL) : Prop := O.1 < 256 ∧ (-9223372036854775808 ≤ O.2.1 ∧ O.2.1 ≤ 9223372036854775807) ∧ (-9223372036854775808 ≤ O.2.2.1 ∧ O.2.2.1 ≤ 9223372036854775807)
/-- None. -/
abbrev ob0 : ObL := (0, 0, 0, [])
/-- All but its pointers may be. -/
def HeadOb (O : ObL) : Prop := (1 ≤ O.1 ∧ O.1 ≤ 7) ∧ (0 ≤ O.2.1 ∧ O.2.1 ≤ 255) ∧ (0 ≤ O.2.2.1 ∧ O.2.2.1 ≤ 3840) ∧ O.2.2.2.length = 15
instance (O : ObL) : Decidable (HeadOb O) := by unfold HeadOb; exact inferInstance
/-- An object may be. -/
def MayOb (O : ObL) : Prop := HeadOb O ∧ ∀ p ∈ O.2.2.2, MayP p
instance (O : ObL) : Decidable (MayOb O) := by unfold MayOb; exact inferInstance
/-- The bytes of the first k pointers. -/
def dataTo (L : List Pt) (k : Nat) : List UInt8 := (List.range k).flatMap fun i => bytesP (L.getD i p0)
theorem dataTo_step (L : List Pt) (k : Nat) : dataTo L (k + 1) = dataTo L k ++ bytesP (L.getD k p0) := by
  unfold dataTo
  rw [List.range_succ, List.flatMap_append]
  simp
/-- The first four bytes. -/
def headB (O : ObL) : List UInt8 := [UInt8.ofNat O.1, UInt8.ofNat O.2.1.toNat, UInt8.ofNat (O.2.2.1.toNat % 256), UInt8.ofNat (O.2.2.1.toNat / 256)]
/-- The block of an object. -/
def blockOb (O : ObL) : List UInt8 := headB O ++ List.replicate 12 0 ++ dataTo O.2.2.2 15
/-- The window of a pointer in a block. -/
def winOb (b : List UInt8) (i : Nat) : List UInt8 := (b.drop (16 + 16 * i)).take 16
/-- The pointers of a block. -/
def ptsOb (b : List UInt8) (k : Nat) : List Pt := (List.range k).map fun i => getP (winOb b i)
theorem ptsOb_length (b : List UInt8) (k : Nat) : (ptsOb b k).length = k := by simp [ptsOb]
theorem ptsOb_step (b : List UInt8) (k : Nat) : ptsOb b (k + 1) = ptsOb b k ++ [getP (winOb b k)] := by simp [ptsOb, List.range_succ]
theorem ptsOb_wf (b : List UInt8) (k : Nat) : ∀ p ∈ ptsOb b k, WfP p := by
  intro p hp
  obtain ⟨i, _, rfl⟩ := List.mem_map.1 hp
  exact wf_getP _
/-- The head that a block tells. -/
def headOb (b : List UInt8) : Nat × Int × Int := ((b.getD 0 0).toNat, ((b.getD 1 0).toNat : Int), ((b.getD 2 0).toNat : Int) + 256 * ((b.getD 3 0).toNat : Int))
/-- The object that a block tells. -/
def decOb (b : List UInt8) : ObL := ((headOb b).1, (headOb b).2.1, (headOb b).2.2, ptsOb b 15)
/-- What Read answers. -/
def oreadO (b : List UInt8) : ObL × Nat := if b.length = 256 then (if MayOb (decOb b) ∧ blockOb (decOb b) = b then (decOb b, 0) else (ob0, 8)) else (ob0, 3)
theorem decOb_wf (b : List UInt8) : WfOb (decOb b) := by
  have h0 := (b.getD 0 0).toNat_lt
  have h1 := (b.getD 1 0).toNat_lt
  have h2 := (b.getD 2 0).toNat_lt
  have h3 := (b.getD 3 0).toNat_lt
  unfold WfOb decOb headOb
  refine ⟨h0, ⟨?_, ?_⟩, ?_, ?_⟩ <;> simp only <;> omega
theorem ob8_of (n : Nat) (h : n < 256) : (UInt8.ofNat n).toNat = n := by
  rw [UInt8.toNat_ofNat']
  exact Nat.mod_eq_of_lt h
theorem oreadO_cases (b : List UInt8) : (∃ e, oreadO b = (ob0, e) ∧ e ≠ 0) ∨ (b.length = 256 ∧ MayOb (decOb b) ∧ blockOb (decOb b) = b ∧ oreadO b = (decOb b, 0)) := by
  unfold oreadO
  by_cases h : b.length = 256
  · rw [if_pos h]
    by_cases h2 : MayOb (decOb b) ∧ blockOb (decOb b) = b
    · rw [if_pos h2]
      exact .inr ⟨h, h2.1, h2.2, rfl⟩
    · rw [if_neg h2]
      exact .inl ⟨8, rfl, by decide⟩
  · rw [if_neg h]
    exact .inl ⟨3, rfl, by decide⟩
/-- An object and an error's number. -/
def OutOb (o : ObL × Nat) (w : World) (e : Ending) (w' : World) : Prop := ∃ v, e = .returned (.tuple #[.agg #[.int .u8 (o.1.1 : Int), .int .i64 o.1.2.1, .int .i64 o.1.2.2.1, v], .int .i64 o.2]) ∧ PRow w' w.heap.size v o.1.2.2.2 ∧ Below w.heap.size w w'
end Go.Proofs.YtbggkfomfeeikaaGreatDoor
/-
  ptr.get: the pointer whose sixteen bytes these are.
-/
namespace Go.Proofs.YtbggkfomfeeikaaGreatDoor
open Go.RowKit Go.Shelf
set_option maxRecDepth 100000

/-- The numbers that are there yet. -/
def numTo (n0 n1 n2 n3 n4 : Nat) : Nat → Array Value
  | 0 => #[.int .i64 0, .int .i64 0, .int .i64 0, .int .i64 0, .int .i64 0]
  | 1 => #[.int .i64 (n0 : Int), .int .i64 0, .int .i64 0, .int .i64 0, .int .i64 0]
  | 2 => #[.int .i64 (n0 : Int), .int .i64 (n1 : Int), .int .i64 0, .int .i64 0, .int .i64 0]
  | 3 => #[.int .i64 (n0 : Int), .int .i64 (n1 : Int), .int .i64 (n2 : Int), .int .i64 0, .int .i64 0]
  | 4 => #[.int .i64 (n0 : Int), .int .i64 (n1 : Int), .int .i64 (n2 : Int), .int .i64 (n3 : Int), .int .i64 0]
  | _ => #[.int .i64 (n0 : Int), .int .i64 (n1 : Int), .int .i64 (n2 : Int), .int .i64 (n3 : Int), .int .i64 (n4 : Int)]
/-- Where the next one stands. -/
def atP : Nat → Nat
  | 0 => 0
  | 1 => 1
  | 2 => 4
  | 3 => 8
  | 4 => 12
  | _ => 16
set_option maxHeartbeats 1000000 in
theorem get_any (a : Option Addr) (cap : Nat) (s : List UInt8) (w : World) (hB : Bsl w w.heap.size a 16 cap s) (hz : Szs w) : Calls Tryz.prog 114 #[.slice a 16 cap] w fun e w' => e = .returned (ptV (getP s)) ∧ Below w.heap.size w w' := by
  have l0 := leN_le s 0 1
  have l1 := leN_le s 1 3
  have l2 := leN_le s 4 4
  have l3 := leN_le s 8 4
  have l4 := leN_le s 12 4
  obtain ⟨P, hP⟩ : ∃ P, getP s = P := ⟨_, rfl⟩
  rw [hP]
  rw [getP] at hP
  obtain ⟨n0, h0⟩ : ∃ n, leN ((s.drop 0).take 1) = n := ⟨_, rfl⟩
  obtain ⟨n1, h1⟩ : ∃ n, leN ((s.drop 1).take 3) = n := ⟨_, rfl⟩
  obtain ⟨n2, h2⟩ : ∃ n, leN ((s.drop 4).take 4) = n := ⟨_, rfl⟩
  obtain ⟨n3, h3⟩ : ∃ n, leN ((s.drop 8).take 4) = n := ⟨_, rfl⟩
  obtain ⟨n4, h4⟩ : ∃ n, leN ((s.drop 12).take 4) = n := ⟨_, rfl⟩
  rw [h0, h1, h2, h3, h4] at hP
  rw [h0] at l0
  rw [h1] at l1
  rw [h2] at l2
  rw [h3] at l3
  rw [h4] at l4
  subst hP
  have i0 : (0 : Int) ≤ (n0 : Int) := by omega
  have j0 : (n0 : Int) ≤ 4294967295 := by omega
  have i1 : (0 : Int) ≤ (n1 : Int) := by omega
  have j1 : (n1 : Int) ≤ 4294967295 := by omega
  have i2 : (0 : Int) ≤ (n2 : Int) := by omega
  have j2 : (n2 : Int) ≤ 4294967295 := by omega
  have i3 : (0 : Int) ≤ (n3 : Int) := by omega
  have j3 : (n3 : Int) ≤ 4294967295 := by omega
  have i4 : (0 : Int) ≤ (n4 : Int) := by omega
  have j4 : (n4 : Int) ≤ 4294967295 := by omega
  obtain ⟨g, hg⟩ : ∃ g, w.heap.size = g := ⟨_, rfl⟩
  have HG := Lib.hid hg
  have HZ := Lib.hid hz; clear hz
  have HB := Lib.hid hB; clear hB
  have al2 : ∀ o1 o2 : Obj, Below w.heap.size w ((w.alloc o1).alloc o2) := fun o1 o2 => ((Below.refl _ w).alloc (Nat.le_refl _) _).alloc (by simp) _
  have y0 : ∀ o1 o2 : Obj, ((w.alloc o1).alloc o2).cell? ⟨0, 0, none⟩ = some (.int .i64 1) := fun o1 o2 => (HZ.out.step (al2 o1 o2)).2.1
  have y1 : ∀ o1 o2 : Obj, ((w.alloc o1).alloc o2).cell? ⟨0, 1, none⟩ = some (.int .i64 3) := fun o1 o2 => (HZ.out.step (al2 o1 o2)).2.2.1
  have y2 : ∀ o1 o2 : Obj, ((w.alloc o1).alloc o2).cell? ⟨0, 2, none⟩ = some (.int .i64 4) := fun o1 o2 => (HZ.out.step (al2 o1 o2)).2.2.2.1
  have y3 : ∀ o1 o2 : Obj, ((w.alloc o1).alloc o2).cell? ⟨0, 3, none⟩ = some (.int .i64 4) := fun o1 o2 => (HZ.out.step (al2 o1 o2)).2.2.2.2.1
  have y4 : ∀ o1 o2 : Obj, ((w.alloc o1).alloc o2).cell? ⟨0, 4, none⟩ = some (.int .i64 4) := fun o1 o2 => (HZ.out.step (al2 o1 o2)).2.2.2.2.2
  have H0 := Lib.hid h0; clear h0
  have H1 := Lib.hid h1; clear h1
  have H2 := Lib.hid h2; clear h2
  have H3 := Lib.hid h3; clear h3
  have H4 := Lib.hid h4; clear h4
  have AL := Lib.hid al2; clear al2
  go_enter Tryz.func114, Tryz.ntmps114
  go_wp2_with fail
  clear y0 y1 y2 y3 y4
  go_loopw [4, 8] (fun t i wr => ∃ j : Nat, j ≤ 5 ∧ i = .int .i64 j ∧ t = .int .i64 (atP j : Nat) ∧ Below g w wr ∧ Blk wr (g + 1) 148 (numTo n0 n1 n2 n3 n4 j) ∧ Blk wr g 32 #[.int .i64 0, .int .u32 0, .int .u32 0, .int .u32 0, .int .u32 0])
    (fun _ i _ => 5 - (intOf i).toNat)
  case atStart =>
    refine ⟨0, by omega, rfl, rfl, ?_, ?_, ?_⟩
    · have := AL.out (Obj.cells #[.int .i64 0, .int .u32 0, .int .u32 0, .int .u32 0, .int .u32 0] 32) (Obj.cells #[.int .i64 0, .int .i64 0, .int .i64 0, .int .i64 0, .int .i64 0] 148)
      rw [HG.out] at this
      exact this
    · have := Blk.new (w.alloc (Obj.cells #[.int .i64 0, .int .u32 0, .int .u32 0, .int .u32 0, .int .u32 0] 32)) 148 #[.int .i64 0, .int .i64 0, .int .i64 0, .int .i64 0, .int .i64 0]
      rw [World.size_alloc, HG.out] at this
      exact this
    · have := (Blk.new w 32 #[.int .i64 0, .int .u32 0, .int .u32 0, .int .u32 0, .int .u32 0]).alloc (Obj.cells #[.int .i64 0, .int .i64 0, .int .i64 0, .int .i64 0, .int .i64 0] 148)
      rw [HG.out] at this
      exact this
  case round =>
    obtain ⟨j, hj, rfl, rfl, hb, hn, hp⟩ := hrel
    have HL := Lib.hid hb; clear hb
    have HN := Lib.hid hn; clear hn
    have HP := Lib.hid hp; clear hp
    have hcs : j = 0 ∨ j = 1 ∨ j = 2 ∨ j = 3 ∨ j = 4 ∨ j = 5 := by omega
    rcases hcs with rfl | rfl | rfl | rfl | rfl | rfl
    · have hidx := szIdx0 wr
      have hB1 : Bsl wr wr.heap.size a 16 cap s := (HB.out.below (by rw [HG.out]; exact HL.out)).more HL.out.size
      have hget : Calls Tryz.prog 116 #[.slice a 16 cap, .int .i64 0, .int .i64 1] wr _ := get_bsl hB1 0 1 (by omega) (by omega) (by omega)
      rw [H0.out] at hget
      have HGT := Lib.hid hget; clear hget hB1
      have e0 : ((atP 0 : Nat) : Int) = 0 := rfl
      rw [e0]
      go_wp2_with fail
      refine HGT.out.mono ?_
      rintro ev w1 ⟨rfl, b1⟩
      have HN1 := Lib.hid (HN.out.below b1 HN.out.lt)
      have HP1 := Lib.hid (HP.out.below b1 HP.out.lt)
      have HL1 := Lib.hid (HL.out.trans (b1.mono (by have := HN.out.lt; omega)))
      have hcj : w1.cell? ⟨g + 1, 0, none⟩ = some (.int .i64 0) := HN1.out.cell 0
      have hfj : w1.frozen? ⟨g + 1, 0, none⟩ = false := HN1.out.frozen 0
      clear b1
      go_wp2_with fail
      go_roundw
      case rel =>
        refine ⟨1, by omega, by first | rfl | go_num, by first | rfl | go_num, ?_, ?_, ?_⟩
        · exact HL1.out.setCell (p := ⟨g + 1, 0, none⟩) (by show g ≤ g + 1; omega) _
        · exact HN1.out.set_ 0 (.int .i64 (n0 : Int))
        · exact HP1.out.far (by show g ≠ g + 1; omega) _
      case measure => simp [intOf]
    · have hidx := szIdx1 wr
      have hB1 : Bsl wr wr.heap.size a 16 cap s := (HB.out.below (by rw [HG.out]; exact HL.out)).more HL.out.size
      have hget : Calls Tryz.prog 116 #[.slice a 16 cap, .int .i64 1, .int .i64 3] wr _ := get_bsl hB1 1 3 (by omega) (by omega) (by omega)
      rw [H1.out] at hget
      have HGT := Lib.hid hget; clear hget hB1
      have e0 : ((atP 1 : Nat) : Int) = 1 := rfl
      rw [e0]
      go_wp2_with fail
      refine HGT.out.mono ?_
      rintro ev w1 ⟨rfl, b1⟩
      have HN1 := Lib.hid (HN.out.below b1 HN.out.lt)
      have HP1 := Lib.hid (HP.out.below b1 HP.out.lt)
      have HL1 := Lib.hid (HL.out.trans (b1.mono (by have := HN.out.lt; omega)))
      have hcj : w1.cell? ⟨g + 1, 1, none⟩ = some (.int .i64 0) := HN1.out.cell 1
      have hfj : w1.frozen? ⟨g + 1, 1, none⟩ = false := HN1.out.frozen 1
      clear b1
      go_wp2_with fail
      go_roundw
      case rel =>
        refine ⟨2, by omega, by first | rfl | go_num, by first | rfl | go_num, ?_, ?_, ?_⟩
        · exact HL1.out.setCell (p := ⟨g + 1, 1, none⟩) (by show g ≤ g + 1; omega) _
        · exact HN1.out.set_ 1 (.int .i64 (n1 : Int))
        · exact HP1.out.far (by show g ≠ g + 1; omega) _
      case measure => simp [intOf]
    · have hidx := szIdx2 wr
      have hB1 : Bsl wr wr.heap.size a 16 cap s := (HB.out.below (by rw [HG.out]; exact HL.out)).more HL.out.size
      have hget : Calls Tryz.prog 116 #[.slice a 16 cap, .int .i64 4, .int .i64 4] wr _ := get_bsl hB1 4 4 (by omega) (by omega) (by omega)
      rw [H2.out] at hget
      have HGT := Lib.hid hget; clear hget hB1
      have e0 : ((atP 2 : Nat) : Int) = 4 := rfl
      rw [e0]
      go_wp2_with fail
      refine HGT.out.mono ?_
      rintro ev w1 ⟨rfl, b1⟩
      have HN1 := Lib.hid (HN.out.below b1 HN.out.lt)
      have HP1 := Lib.hid (HP.out.below b1 HP.out.lt)
      have HL1 := Lib.hid (HL.out.trans (b1.mono (by have := HN.out.lt; omega)))
      have hcj : w1.cell? ⟨g + 1, 2, none⟩ = some (.int .i64 0) := HN1.out.cell 2
      have hfj : w1.frozen? ⟨g + 1, 2, none⟩ = false := HN1.out.frozen 2
      clear b1
      go_wp2_with fail
      go_roundw
      case rel =>
        refine ⟨3, by omega, by first | rfl | go_num, by first | rfl | go_num, ?_, ?_, ?_⟩
        · exact HL1.out.setCell (p := ⟨g + 1, 2, none⟩) (by show g ≤ g + 1; omega) _
        · exact HN1.out.set_ 2 (.int .i64 (n2 : Int))
        · exact HP1.out.far (by show g ≠ g + 1; omega) _
      case measure => simp [intOf]
    · have hidx := szIdx3 wr
      have hB1 : Bsl wr wr.heap.size a 16 cap s := (HB.out.below (by rw [HG.out]; exact HL.out)).more HL.out.size
      have hget : Calls Tryz.prog 116 #[.slice a 16 cap, .int .i64 8, .int .i64 4] wr _ := get_bsl hB1 8 4 (by omega) (by omega) (by omega)
      rw [H3.out] at hget
      have HGT := Lib.hid hget; clear hget hB1
      have e0 : ((atP 3 : Nat) : Int) = 8 := rfl
      rw [e0]
      go_wp2_with fail
      refine HGT.out.mono ?_
      rintro ev w1 ⟨rfl, b1⟩
      have HN1 := Lib.hid (HN.out.below b1 HN.out.lt)
      have HP1 := Lib.hid (HP.out.below b1 HP.out.lt)
      have HL1 := Lib.hid (HL.out.trans (b1.mono (by have := HN.out.lt; omega)))
      have hcj : w1.cell? ⟨g + 1, 3, none⟩ = some (.int .i64 0) := HN1.out.cell 3
      have hfj : w1.frozen? ⟨g + 1, 3, none⟩ = false := HN1.out.frozen 3
      clear b1
      go_wp2_with fail
      go_roundw
      case rel =>
        refine ⟨4, by omega, by first | rfl | go_num, by first | rfl | go_num, ?_, ?_, ?_⟩
        · exact HL1.out.setCell (p := ⟨g + 1, 3, none⟩) (by show g ≤ g + 1; omega) _
        · exact HN1.out.set_ 3 (.int .i64 (n3 : Int))
        · exact HP1.out.far (by show g ≠ g + 1; omega) _
      case measure => simp [intOf]
    · have hidx := szIdx4 wr
      have hB1 : Bsl wr wr.heap.size a 16 cap s := (HB.out.below (by rw [HG.out]; exact HL.out)).more HL.out.size
      have hget : Calls Tryz.prog 116 #[.slice a 16 cap, .int .i64 12, .int .i64 4] wr _ := get_bsl hB1 12 4 (by omega) (by omega) (by omega)
      rw [H4.out] at hget
      have HGT := Lib.hid hget; clear hget hB1
      have e0 : ((atP 4 : Nat) : Int) = 12 := rfl
      rw [e0]
      go_wp2_with fail
      refine HGT.out.mono ?_
      rintro ev w1 ⟨rfl, b1⟩
      have HN1 := Lib.hid (HN.out.below b1 HN.out.lt)
      have HP1 := Lib.hid (HP.out.below b1 HP.out.lt)
      have HL1 := Lib.hid (HL.out.trans (b1.mono (by have := HN.out.lt; omega)))
      have hcj : w1.cell? ⟨g + 1, 4, none⟩ = some (.int .i64 0) := HN1.out.cell 4
      have hfj : w1.frozen? ⟨g + 1, 4, none⟩ = false := HN1.out.frozen 4
      clear b1
      go_wp2_with fail
      go_roundw
      case rel =>
        refine ⟨5, by omega, by first | rfl | go_num, by first | rfl | go_num, ?_, ?_, ?_⟩
        · exact HL1.out.setCell (p := ⟨g + 1, 4, none⟩) (by show g ≤ g + 1; omega) _
        · exact HN1.out.set_ 4 (.int .i64 (n4 : Int))
        · exact HP1.out.far (by show g ≠ g + 1; omega) _
      case measure => simp [intOf]
    · have q0 : wr.cell? ⟨g + 1, 0, none⟩ = some (.int .i64 (n0 : Int)) := HN.out.cell 0
      have q1 : wr.cell? ⟨g + 1, 1, none⟩ = some (.int .i64 (n1 : Int)) := HN.out.cell 1
      have q2 : wr.cell? ⟨g + 1, 2, none⟩ = some (.int .i64 (n2 : Int)) := HN.out.cell 2
      have q3 : wr.cell? ⟨g + 1, 3, none⟩ = some (.int .i64 (n3 : Int)) := HN.out.cell 3
      have q4 : wr.cell? ⟨g + 1, 4, none⟩ = some (.int .i64 (n4 : Int)) := HN.out.cell 4
      have d0 : wr.cell? ⟨g, 0, none⟩ = some (.int .i64 0) := HP.out.cell 0
      have d1 : wr.cell? ⟨g, 1, none⟩ = some (.int .u32 0) := HP.out.cell 1
      have d2 : wr.cell? ⟨g, 2, none⟩ = some (.int .u32 0) := HP.out.cell 2
      have d3 : wr.cell? ⟨g, 3, none⟩ = some (.int .u32 0) := HP.out.cell 3
      have d4 : wr.cell? ⟨g, 4, none⟩ = some (.int .u32 0) := HP.out.cell 4
      have fr : ∀ i, wr.frozen? ⟨g, i, none⟩ = false := fun i => HP.out.frozen i
      go_wp2_with fail
      obtain ⟨wf, hwf⟩ : ∃ wf, set5 wr g (.int .i64 (n0 : Int)) (.int .u32 (n1 : Int)) (.int .u32 (n2 : Int)) (.int .u32 (n3 : Int)) (.int .u32 (n4 : Int)) = wf := ⟨_, rfl⟩
      have HX := Lib.hid (HP.out.set5 (.int .i64 (n0 : Int)) (.int .u32 (n1 : Int)) (.int .u32 (n2 : Int)) (.int .u32 (n3 : Int)) (.int .u32 (n4 : Int)))
      have HBF := Lib.hid (below_set5 HL.out (Nat.le_refl g) (.int .i64 (n0 : Int)) (.int .u32 (n1 : Int)) (.int .u32 (n2 : Int)) (.int .u32 (n3 : Int)) (.int .u32 (n4 : Int)))
      rw [hwf] at HX HBF
      simp only [set5] at hwf
      rw [hwf]
      clear hwf q0 q1 q2 q3 q4 d0 d1 d2 d3 d4 fr
      have e0 := HX.out.cell 0
      have e1 := HX.out.cell 1
      have e2 := HX.out.cell 2
      have e3 := HX.out.cell 3
      have e4 := HX.out.cell 4
      refine bodyPost_ret (v := ptV (n0, n1, n2, n3, n4)) (by simp [results, Tryz.f114, go_sem, e0, e1, e2, e3, e4]) rfl ⟨rfl, ?_⟩
      rw [HG.out]
      exact HBF.out
end Go.Proofs.YtbggkfomfeeikaaGreatDoor
/-
  ptr.Check, whatever it is handed; nothing that was there is written.
-/
namespace Go.Proofs.YtbggkfomfeeikaaGreatDoor
open Go.RowKit Go.Shelf
set_option maxRecDepth 100000

/-- What Check answers. -/
def pcheckO (p : Pt) : Int := if MayP p then 0 else 8
theorem Check_any (p : Pt) (w : World) : Calls Tryz.prog 50 #[ptV p] w fun e w' => e = .returned (.int .i64 (pcheckO p)) ∧ Below w.heap.size w w' := by
  have hm := mayBe_any p (w.alloc (.cells (ptC p).toArray 32))
  have hb1 : Below w.heap.size w (w.alloc (.cells (ptC p).toArray 32)) := (Below.refl _ w).alloc (Nat.le_refl _) _
  have HB := Lib.hid hb1; clear hb1
  rw [pcheckO]
  by_cases h : MayP p
  · rw [if_pos h]
    rw [decide_eq_true h] at hm
    obtain ⟨a, b, c, d, e⟩ := p
    have HM := Lib.hid hm; clear hm
    go_enter Tryz.func50, Tryz.ntmps50
    go_wp2_with (go_at_call 77; refine HM.out.mono ?_; rintro ev w1 ⟨rfl, b1⟩; have HB1 := Lib.hid (HB.out.trans (b1.mono (by simp [ptC]))); clear b1)
    go_ret
    exact ⟨rfl, HB1.out⟩
  · rw [if_neg h]
    rw [decide_eq_false h] at hm
    obtain ⟨a, b, c, d, e⟩ := p
    have HM := Lib.hid hm; clear hm
    go_enter Tryz.func50, Tryz.ntmps50
    go_wp2_with (go_at_call 77; refine HM.out.mono ?_; rintro ev w1 ⟨rfl, b1⟩; have HB1 := Lib.hid (HB.out.trans (b1.mono (by simp [ptC]))); clear b1)
    go_ret
    exact ⟨rfl, HB1.out⟩
end Go.Proofs.YtbggkfomfeeikaaGreatDoor
/-
  ptr.Check, ptr.Write and ptr.Read, whatever they are handed; nothing that was there is written.
-/
namespace Go.Proofs.YtbggkfomfeeikaaGreatDoor
open Go.RowKit Go.Shelf
set_option maxRecDepth 100000

/-- A pointer, and an error's number. -/
def OutP (p : Pt) (c : Int) (w : World) (e : Ending) (w' : World) : Prop := e = .returned (.tuple #[ptV p, .int .i64 c]) ∧ Below w.heap.size w w'
/-- What Read answers. -/
def preadO (s : List UInt8) : Pt × Int := if s.length = 16 then (if MayP (getP s) then (getP s, 0) else (p0, 8)) else (p0, 3)

theorem Read_any (a : Option Addr) (len cap : Nat) (s : List UInt8) (w : World) (hB : Bsl w w.heap.size a len cap s) (hz : Szs w) : Calls Tryz.prog 82 #[.slice a len cap] w (OutP (preadO s).1 (preadO s).2 w) := by
  have hl := hB.1
  rw [preadO]
  have hk : Blk (w.alloc (.cells #[.int .i64 0, .int .u32 0, .int .u32 0, .int .u32 0, .int .u32 0] 32)) w.heap.size 32 #[.int .i64 0, .int .u32 0, .int .u32 0, .int .u32 0, .int .u32 0] := Blk.new w _ _
  have hb1 : Below w.heap.size w (w.alloc (.cells #[.int .i64 0, .int .u32 0, .int .u32 0, .int .u32 0, .int .u32 0] 32)) := (Below.refl _ w).alloc (Nat.le_refl _) _
  have HK := Lib.hid hk; clear hk
  have HB1 := Lib.hid hb1; clear hb1
  have i0 : (0 : Int) ≤ (len : Int) := by omega
  have i1 : (len : Int) ≤ 9223372036854775807 := by have h1 := hB.2.1; have h2 := hB.2.2.1; unfold maxLen at h2; omega
  by_cases h16 : s.length = 16
  · rw [if_pos h16]
    obtain rfl : len = 16 := by omega
    have hb2 : Bsl (w.alloc (.cells #[.int .i64 0, .int .u32 0, .int .u32 0, .int .u32 0, .int .u32 0] 32)) (w.alloc (.cells #[.int .i64 0, .int .u32 0, .int .u32 0, .int .u32 0, .int .u32 0] 32)).heap.size a 16 cap s := hB.step HB1.out
    have HG := Lib.hid (get_any a cap s _ hb2 (hz.step HB1.out)); clear hb2
    have hm := fun w => mayBe_any (getP s) w
    obtain ⟨P, hP⟩ : ∃ P, getP s = P := ⟨_, rfl⟩
    rw [hP] at HG hm ⊢
    clear hP hl hz hB h16
    by_cases h : MayP P
    · rw [if_pos h]
      rw [decide_eq_true h] at hm
      clear h
      obtain ⟨a', b', c', d', e'⟩ := P
      have HM := Lib.hid hm; clear hm
      go_enter Tryz.func82, Tryz.ntmps82
      go_wp2_with (first
        | (go_at_call 114
           refine HG.out.mono ?_
           rintro ev w1 ⟨rfl, b1⟩
           have HB2 := Lib.hid (HB1.out.trans (b1.mono (by simp)))
           have HK2 := Lib.hid (HK.out.below b1 HK.out.lt)
           have HB3 := Lib.hid (HB2.out.alloc HB2.out.size (.cells #[.int .i64 a', .int .u32 (b' : Int), .int .u32 (c' : Int), .int .u32 (d' : Int), .int .u32 (e' : Int)] 32))
           have HK3 := Lib.hid (HK2.out.alloc (.cells #[.int .i64 a', .int .u32 (b' : Int), .int .u32 (c' : Int), .int .u32 (d' : Int), .int .u32 (e' : Int)] 32))
           have HP3 := Lib.hid (Blk.new w1 32 #[.int .i64 a', .int .u32 (b' : Int), .int .u32 (c' : Int), .int .u32 (d' : Int), .int .u32 (e' : Int)])
           clear b1)
        | (go_at_call 77
           refine (HM.out _).mono ?_
           rintro ev w2 ⟨rfl, b2⟩
           have HB4 := Lib.hid (HB3.out.trans (b2.mono HB3.out.size))
           have HK4 := Lib.hid (HK3.out.below b2 HK3.out.lt)
           obtain ⟨c0, c1, c2, c3, c4⟩ := (HP3.out.below b2 HP3.out.lt).five
           have d0 : w2.cell? ⟨w.heap.size, 0, none⟩ = some (.int .i64 0) := HK4.out.cell 0
           have d1 : w2.cell? ⟨w.heap.size, 1, none⟩ = some (.int .u32 0) := HK4.out.cell 1
           have d2 : w2.cell? ⟨w.heap.size, 2, none⟩ = some (.int .u32 0) := HK4.out.cell 2
           have d3 : w2.cell? ⟨w.heap.size, 3, none⟩ = some (.int .u32 0) := HK4.out.cell 3
           have d4 : w2.cell? ⟨w.heap.size, 4, none⟩ = some (.int .u32 0) := HK4.out.cell 4
           have fr : ∀ i, w2.frozen? ⟨w.heap.size, i, none⟩ = false := fun i => HK4.out.frozen i
           clear b2))
      obtain ⟨wf, hwf⟩ : ∃ wf, set5 w2 w.heap.size (.int .i64 a') (.int .u32 (b' : Int)) (.int .u32 (c' : Int)) (.int .u32 (d' : Int)) (.int .u32 (e' : Int)) = wf := ⟨_, rfl⟩
      have HXF := Lib.hid (HK4.out.set5 (.int .i64 a') (.int .u32 (b' : Int)) (.int .u32 (c' : Int)) (.int .u32 (d' : Int)) (.int .u32 (e' : Int)))
      have HBF := Lib.hid (below_set5 HB4.out (Nat.le_refl w.heap.size) (.int .i64 a') (.int .u32 (b' : Int)) (.int .u32 (c' : Int)) (.int .u32 (d' : Int)) (.int .u32 (e' : Int)))
      rw [hwf] at HXF HBF
      simp only [set5] at hwf
      rw [hwf]
      clear hwf d0 d1 d2 d3 d4 fr
      have e0 := HXF.out.cell 0
      have e1 := HXF.out.cell 1
      have e2 := HXF.out.cell 2
      have e3 := HXF.out.cell 3
      have e4 := HXF.out.cell 4
      exact bodyPost_ret (v := .tuple #[ptV (a', b', c', d', e'), .int .i64 0]) (by simp [results, Tryz.f82, go_sem, e0, e1, e2, e3, e4]) rfl ⟨rfl, HBF.out⟩
    · rw [if_neg h]
      rw [decide_eq_false h] at hm
      clear h
      obtain ⟨a', b', c', d', e'⟩ := P
      have HM := Lib.hid hm; clear hm
      go_enter Tryz.func82, Tryz.ntmps82
      go_wp2_with (first
        | (go_at_call 114
           refine HG.out.mono ?_
           rintro ev w1 ⟨rfl, b1⟩
           have HB2 := Lib.hid (HB1.out.trans (b1.mono (by simp)))
           have HK2 := Lib.hid (HK.out.below b1 HK.out.lt)
           have HB3 := Lib.hid (HB2.out.alloc HB2.out.size (.cells #[.int .i64 a', .int .u32 (b' : Int), .int .u32 (c' : Int), .int .u32 (d' : Int), .int .u32 (e' : Int)] 32))
           have HK3 := Lib.hid (HK2.out.alloc (.cells #[.int .i64 a', .int .u32 (b' : Int), .int .u32 (c' : Int), .int .u32 (d' : Int), .int .u32 (e' : Int)] 32))
           have HP3 := Lib.hid (Blk.new w1 32 #[.int .i64 a', .int .u32 (b' : Int), .int .u32 (c' : Int), .int .u32 (d' : Int), .int .u32 (e' : Int)])
           clear b1)
        | (go_at_call 77
           refine (HM.out _).mono ?_
           rintro ev w2 ⟨rfl, b2⟩
           have HB4 := Lib.hid (HB3.out.trans (b2.mono HB3.out.size))
           have HK4 := Lib.hid (HK3.out.below b2 HK3.out.lt)
           obtain ⟨c0, c1, c2, c3, c4⟩ := (HP3.out.below b2 HP3.out.lt).five
           have d0 : w2.cell? ⟨w.heap.size, 0, none⟩ = some (.int .i64 0) := HK4.out.cell 0
           have d1 : w2.cell? ⟨w.heap.size, 1, none⟩ = some (.int .u32 0) := HK4.out.cell 1
           have d2 : w2.cell? ⟨w.heap.size, 2, none⟩ = some (.int .u32 0) := HK4.out.cell 2
           have d3 : w2.cell? ⟨w.heap.size, 3, none⟩ = some (.int .u32 0) := HK4.out.cell 3
           have d4 : w2.cell? ⟨w.heap.size, 4, none⟩ = some (.int .u32 0) := HK4.out.cell 4
           have fr : ∀ i, w2.frozen? ⟨w.heap.size, i, none⟩ = false := fun i => HK4.out.frozen i
           clear b2))
      obtain ⟨wf, hwf⟩ : ∃ wf, set5 w2 w.heap.size (.int .i64 0) (.int .u32 0) (.int .u32 0) (.int .u32 0) (.int .u32 0) = wf := ⟨_, rfl⟩
      have HXF := Lib.hid (HK4.out.set5 (.int .i64 0) (.int .u32 0) (.int .u32 0) (.int .u32 0) (.int .u32 0))
      have HBF := Lib.hid (below_set5 HB4.out (Nat.le_refl w.heap.size) (.int .i64 0) (.int .u32 0) (.int .u32 0) (.int .u32 0) (.int .u32 0))
      rw [hwf] at HXF HBF
      simp only [set5] at hwf
      rw [hwf]
      clear hwf d0 d1 d2 d3 d4 fr
      have e0 := HXF.out.cell 0
      have e1 := HXF.out.cell 1
      have e2 := HXF.out.cell 2
      have e3 := HXF.out.cell 3
      have e4 := HXF.out.cell 4
      exact bodyPost_ret (v := .tuple #[ptV p0, .int .i64 8]) (by simp [results, Tryz.f82, go_sem, e0, e1, e2, e3, e4]) rfl ⟨rfl, HBF.out⟩
  · rw [if_neg h16]
    have hne : ¬ (len : Int) = 16 := by omega
    have d0 : (w.alloc (.cells #[.int .i64 0, .int .u32 0, .int .u32 0, .int .u32 0, .int .u32 0] 32)).cell? ⟨w.heap.size, 0, none⟩ = some (.int .i64 0) := HK.out.cell 0
    have d1 : (w.alloc (.cells #[.int .i64 0, .int .u32 0, .int .u32 0, .int .u32 0, .int .u32 0] 32)).cell? ⟨w.heap.size, 1, none⟩ = some (.int .u32 0) := HK.out.cell 1
    have d2 : (w.alloc (.cells #[.int .i64 0, .int .u32 0, .int .u32 0, .int .u32 0, .int .u32 0] 32)).cell? ⟨w.heap.size, 2, none⟩ = some (.int .u32 0) := HK.out.cell 2
    have d3 : (w.alloc (.cells #[.int .i64 0, .int .u32 0, .int .u32 0, .int .u32 0, .int .u32 0] 32)).cell? ⟨w.heap.size, 3, none⟩ = some (.int .u32 0) := HK.out.cell 3
    have d4 : (w.alloc (.cells #[.int .i64 0, .int .u32 0, .int .u32 0, .int .u32 0, .int .u32 0] 32)).cell? ⟨w.heap.size, 4, none⟩ = some (.int .u32 0) := HK.out.cell 4
    have fr : ∀ i, (w.alloc (.cells #[.int .i64 0, .int .u32 0, .int .u32 0, .int .u32 0, .int .u32 0] 32)).frozen? ⟨w.heap.size, i, none⟩ = false := fun i => HK.out.frozen i
    go_enter Tryz.func82, Tryz.ntmps82
    go_wp2_with fail
    exact bodyPost_ret (v := .tuple #[ptV p0, .int .i64 3]) (by simp [results, Tryz.f82, go_sem, d0, d1, d2, d3, d4]) rfl ⟨rfl, HB1.out⟩
end Go.Proofs.YtbggkfomfeeikaaGreatDoor
/-
  The document's own May, Check, Number and Get of pointers; nothing that was there is written.
-/
namespace Go.Proofs.YtbggkfomfeeikaaGreatDoor
open Go.RowKit Go.Shelf
set_option maxRecDepth 100000

theorem rpNone_any (p : Pt) (w : World) : Calls Tryz.prog 59 #[ptV p] w fun e w' => e = .returned (.bool (eqP p p0)) ∧ Below w.heap.size w w' := by
  obtain ⟨a, b, c, d, e⟩ := p
  have heq := eqPt_zero a b c d e
  go_enter Tryz.func59, Tryz.ntmps59
  go_wp2_with fail
  go_ret
  exact ⟨rfl, (Below.refl _ w).alloc (Nat.le_refl _) _⟩
theorem rpMay_any (p : Pt) (w : World) : Calls Tryz.prog 58 #[ptV p] w fun e w' => e = .returned (.bool (decide (MayP p))) ∧ Below w.heap.size w w' := by
  have hn := rpNone_any p (w.alloc (.cells (ptC p).toArray 32))
  have HB := Lib.hid ((Below.refl _ w).alloc (Nat.le_refl _) (.cells (ptC p).toArray 32))
  have HK := Lib.hid (show Blk (w.alloc (.cells (ptC p).toArray 32)) w.heap.size 32 (ptC p).toArray from Blk.new w _ _)
  obtain ⟨a, b, c, d, e⟩ := p
  by_cases h0 : eqP (a, b, c, d, e) p0 = true
  · have hm : decide (MayP (a, b, c, d, e)) = true := decide_eq_true (.inl ((eqP_iff _ _).1 h0))
    rw [hm]
    rw [h0] at hn
    have HN := Lib.hid hn
    clear hn hm h0
    go_enter Tryz.func58, Tryz.ntmps58
    go_wp2_with (go_at_call 59; refine HN.out.mono ?_; rintro ev w1 ⟨rfl, b1⟩; have HB1 := Lib.hid (HB.out.trans (b1.mono (by simp [ptC]))); clear b1)
    go_ret
    exact ⟨rfl, HB1.out⟩
  · have h0' : eqP (a, b, c, d, e) p0 = false := by simpa using h0
    rw [h0'] at hn
    have hne : (a, b, c, d, e) ≠ p0 := fun hh => h0 ((eqP_iff _ _).2 hh)
    have HN := Lib.hid hn
    clear hn
    by_cases g1 : 12 ≤ a
    · by_cases g2 : a < 256
      · by_cases g3 : 1 ≤ b
        · have hm : decide (MayP (a, b, c, d, e)) = decide (b ≤ 16777215) := by
            rw [decide_eq_decide]
            exact ⟨fun hh => (hh.resolve_left hne).2.2, fun hh => .inr ⟨⟨g1, g2⟩, g3, hh⟩⟩
          have hm2 : decide (b ≤ 16777215) = decide ((b : Int) ≤ 16777215) := by rw [decide_eq_decide]; omega
          rw [hm, hm2]
          have i1 : (1 : Int) ≤ (b : Int) := by omega
          clear hm hm2 h0 h0' hne
          go_enter Tryz.func58, Tryz.ntmps58
          go_wp2_with (go_at_call 59; refine HN.out.mono ?_; rintro ev w1 ⟨rfl, b1⟩; have HB1 := Lib.hid (HB.out.trans (b1.mono (by simp [ptC]))); obtain ⟨c0, c1, c2, c3, c4⟩ := (HK.out.below b1 HK.out.lt).five; clear b1)
          go_ret
          exact ⟨rfl, HB1.out⟩
        · have hm : decide (MayP (a, b, c, d, e)) = false := decide_eq_false fun hh => g3 (hh.resolve_left hne).2.1
          rw [hm]
          have i1 : ¬ (1 : Int) ≤ (b : Int) := by omega
          clear hm h0 h0' hne
          go_enter Tryz.func58, Tryz.ntmps58
          go_wp2_with (go_at_call 59; refine HN.out.mono ?_; rintro ev w1 ⟨rfl, b1⟩; have HB1 := Lib.hid (HB.out.trans (b1.mono (by simp [ptC]))); obtain ⟨c0, c1, c2, c3, c4⟩ := (HK.out.below b1 HK.out.lt).five; clear b1)
          go_ret
          exact ⟨rfl, HB1.out⟩
      · have hm : decide (MayP (a, b, c, d, e)) = false := decide_eq_false fun hh => g2 (hh.resolve_left hne).1.2
        rw [hm]
        clear hm h0 h0' hne
        go_enter Tryz.func58, Tryz.ntmps58
        go_wp2_with (go_at_call 59; refine HN.out.mono ?_; rintro ev w1 ⟨rfl, b1⟩; have HB1 := Lib.hid (HB.out.trans (b1.mono (by simp [ptC]))); obtain ⟨c0, c1, c2, c3, c4⟩ := (HK.out.below b1 HK.out.lt).five; clear b1)
        go_ret
        exact ⟨rfl, HB1.out⟩
    · have hm : decide (MayP (a, b, c, d, e)) = false := decide_eq_false fun hh => g1 (hh.resolve_left hne).1.1
      rw [hm]
      clear hm h0 h0' hne
      go_enter Tryz.func58, Tryz.ntmps58
      go_wp2_with (go_at_call 59; refine HN.out.mono ?_; rintro ev w1 ⟨rfl, b1⟩; have HB1 := Lib.hid (HB.out.trans (b1.mono (by simp [ptC]))); obtain ⟨c0, c1, c2, c3, c4⟩ := (HK.out.below b1 HK.out.lt).five; clear b1)
      go_ret
      exact ⟨rfl, HB1.out⟩
set_option maxHeartbeats 1000000 in
theorem rpNumber_any (n k : Nat) (hn : n < 4294967296) (hk : k ≤ 4) (w : World) : Calls Tryz.prog 138 #[.int .u32 n, .int .i64 k] w (OwnV k (leB k n) w) := by
  have k0 : (0 : Int) ≤ k := by omega
  have k4 : (k : Int) ≤ 4 := by omega
  go_enter Tryz.func138, Tryz.ntmps138
  go_wp2_with fail
  go_loopw [0, 5, 6] (fun x v i wr => ∃ j : Nat, j ≤ k ∧ i = .int .i64 j ∧ x = .int .u32 ((n / 256 ^ j : Nat) : Int) ∧ wr.ownsRow w.heap.size 5 1 v j (vals (leB j n)) ∧ Below w.heap.size w wr) (fun _ _ i _ => k - (intOf i).toNat)
  case atStart => exact ⟨0, Nat.zero_le _, rfl, by simp, own_nil _ _, Below.refl _ _⟩
  case round =>
    obtain ⟨j, hj, rfl, rfl, ho, hb⟩ := hrel
    have HO := Lib.hid ho; clear ho
    have HB := Lib.hid hb; clear hb
    have j0 : (0 : Int) ≤ j := by omega
    by_cases hlt : j < k
    · have j1 : (j : Int) < k := by omega
      obtain ⟨y, hy⟩ : ∃ y, n / 256 ^ j = y := ⟨_, rfl⟩
      have hy1 : y ≤ n := by rw [← hy]; exact Nat.div_le_self _ _
      have hbt : (byteAt n j).toNat = y % 256 := by rw [byteAt_toNat, hy]
      have hnx : n / 256 ^ (j + 1) = y / 256 := by rw [Nat.pow_succ, ← Nat.div_div_eq_div_mul, hy]
      rw [hy]
      have y0 : (0 : Int) ≤ y := by omega
      have y1 : (y : Int) ≤ 4294967295 := by omega
      have m0 : (0 : Int) ≤ (y : Int) % 256 := by omega
      have m1 : (y : Int) % 256 ≤ 255 := by omega
      have hd0 : (0 : Int) ≤ (y : Int) / 256 := by omega
      have hd1 : (y : Int) / 256 ≤ 4294967295 := by omega
      have t1 : Int.tmod (y : Int) 256 = (y : Int) % 256 := Int.tmod_eq_emod_of_nonneg y0
      have t2 : Int.tdiv (y : Int) 256 = (y : Int) / 256 := Int.tdiv_eq_ediv_of_nonneg y0
      have eb : (((byteAt n j).toNat : Nat) : Int) = (y : Int) % 256 := by rw [hbt]; simp
      have o1 := one_bsl wr (byteAt n j)
      rw [eb] at o1
      have HE1 := Lib.hid o1; clear o1
      have HOA := Lib.hid (HO.out.alloc (.cells #[.int .u8 ((y : Int) % 256)] 5))
      have HBA := Lib.hid (HB.out.alloc HB.out.size (.cells #[.int .u8 ((y : Int) % 256)] 5))
      have HNX := Lib.hid hnx
      obtain ⟨v, hv⟩ : ∃ v : Value, u5 = v := ⟨_, rfl⟩
      rw [hv] at HO HOA ⊢
      clear hv hbt hnx hy eb
      go_wp2_with (at_builtin
                   refine wpList_append_bsl rfl (.tmp 12) (.tmp 16) rfl w.heap.size v j _ rfl HOA.out _ (some ⟨wr.heap.size, 0, none⟩) 1 1 [byteAt n j] rfl HE1.out (by omega) HBA.out.size ?_
                   intro v2 w2 h2 hgr2
                   have HO2 := Lib.hid h2
                   have HB2 := Lib.hid (app_below HBA.out HOA.out hgr2 HBA.out.size)
                   clear h2 hgr2)
      go_roundw
      case rel =>
        refine ⟨j + 1, by omega, by go_num, ?_, ?_, HB2.out⟩
        · rw [HNX.out]
          first | rfl | go_num
        · rw [leB_take]
          exact HO2.out
      case measure => simp [intOf]; omega
    · obtain rfl : j = k := by omega
      go_wp2_with fail
      go_ret
      exact ⟨_, rfl, HO.out, HB.out⟩
theorem leN_drop_cons (s : List UInt8) (i : Nat) (hi : i < s.length) : leN (s.drop i) = s[i].toNat + 256 * leN (s.drop (i + 1)) := by
  rw [List.drop_eq_getElem_cons hi, leN]
set_option maxHeartbeats 1000000 in
theorem rpGet_any (a : Option Addr) (len cap : Nat) (s : List UInt8) (w : World) (hB : Bsl w w.heap.size a len cap s) (h4 : len ≤ 4) : Calls Tryz.prog 120 #[.slice a len cap] w fun e w' => e = .returned (.int .u32 (leN s : Nat)) ∧ w = w' := by
  have i0 : (0 : Int) ≤ (len : Int) := by omega
  have i1 : (len : Int) ≤ 4 := by omega
  have HB := Lib.hid hB; clear hB
  go_enter Tryz.func120, Tryz.ntmps120
  go_wp2_with fail
  go_loopw [3, 4] (fun n i wr => ∃ j : Nat, j ≤ len ∧ i = .int .i64 ((j : Int) - 1) ∧ n = .int .u32 ((leN (s.drop j) : Nat) : Int) ∧ wr = w) (fun _ i _ => (intOf i + 1).toNat)
  case atStart => exact ⟨len, Nat.le_refl _, rfl, by rw [List.drop_eq_nil_of_le (by have := HB.out.1; omega)]; rfl, rfl⟩
  case round =>
    obtain ⟨j, hj, rfl, rfl, rfl⟩ := hrel
    rcases Nat.eq_zero_or_pos j with h0 | h0
    · subst h0
      have e0 : (((0 : Nat) : Int) - 1) = -1 := by omega
      rw [e0, List.drop_zero]
      go_wp2_with fail
      go_ret
      exact ⟨rfl, rfl⟩
    · obtain ⟨i, rfl⟩ : ∃ i, j = i + 1 := ⟨j - 1, by omega⟩
      have hil : i < s.length := by have := HB.out.1; omega
      obtain ⟨b, off, rfl, _, hc⟩ := HB.out.2.2.2.2 (by omega)
      have c0 := hc i hil
      have hstep := leN_drop_cons s i hil
      have hlt := leN_lt (s.drop (i + 1))
      have hl3 : (s.drop (i + 1)).length ≤ 3 := by have := HB.out.1; simp; omega
      have hp : 256 ^ (s.drop (i + 1)).length ≤ 256 ^ 3 := Nat.pow_le_pow_right (by omega) hl3
      obtain ⟨x, hx⟩ : ∃ x : Nat, s[i].toNat = x := ⟨_, rfl⟩
      have hx1 : x ≤ 255 := by rw [← hx]; have := (s[i]).toNat_lt; omega
      obtain ⟨n, hn⟩ : ∃ n, leN (s.drop (i + 1)) = n := ⟨_, rfl⟩
      rw [hn] at hstep hlt ⊢
      rw [hx] at c0 hstep
      have e1 : (((i + 1 : Nat) : Int) - 1) = (i : Int) := by omega
      rw [e1]
      have q0 : (0 : Int) ≤ i := by omega
      have q1 : (i : Int) < len := by omega
      have q2 : (0 : Int) ≤ n := by omega
      have q3 : (n : Int) ≤ 16777215 := by omega
      have q4 : (0 : Int) ≤ x := by omega
      have q5 : (x : Int) ≤ 255 := by omega
      have HST := Lib.hid hstep
      clear hstep hlt hp hn hx e1 hl3 hc
      go_wp2_with fail
      go_roundw
      case rel =>
        refine ⟨i, by omega, by first | rfl | go_num, ?_, by first | rfl | trivial⟩
        rw [HST.out]
        congr 1
        omega
      case measure => simp [intOf]
end Go.Proofs.YtbggkfomfeeikaaGreatDoor
/-
  append of bytes to a row of one's own, at any place of a walk; in a region that draws its order.
-/
namespace Go.Proofs.YtbggkfomfeeikaaGreatDoor
open Go.RowKit Go.Shelf
set_option maxRecDepth 100000

/-- append(v, nil...), whatever capacity nil is written with. -/
theorem run_app_none {P : Program} {w : World} (base : Nat) (t ty e : TypeId) (i : TypeInfo) (size c : Nat) (ht : P.underlying t = some (.slice e)) (hi : P.info? e = some i)
    (v : Value) (n : Nat) (xs : List Value) (hown : w.ownsRow base e size v n xs) : (Builtin.append_ #[t, t] ty #[v, .slice none 0 c]).run P w = .ok v w := by
  rcases hown.2 with ⟨rfl, rfl⟩ | ⟨g, cap, cur, rfl, _, _, hnc, _⟩
  · simp [Builtin.append_, run_underlying ht, sizeOf, typeInfo, hi, Builtin.lenOf, Builtin.firstCells]
  · simp [Builtin.append_, run_underlying ht, sizeOf, typeInfo, hi, Builtin.lenOf, Builtin.firstCells, hnc, storeCells]
section
variable {w : World} {o : Oper} {a : Act} {K : Act → World → Prop} {Q : Exit → Act → World → Prop}
theorem wp_app_own (s x : Operand)
    (ho : o.op = .call { callee := .builtin .append, args := #[s, x], argTypes := #[27, 27] })
    (base : Nat) (v : Value) (n : Nat) (xs : List UInt8) (hs : a.eval s = v) (hown : w.ownsRow base 5 1 v n (vals xs))
    (B : Nat) (A : Option Addr) (m c : Nat) (news : List UInt8) (hx : a.eval x = .slice A m c) (hr : Bsl w B A m c news)
    (hnm : n + m ≤ 100000000000000) (hbase : base ≤ w.heap.size)
    (h : ∀ v' w', w'.ownsRow base 5 1 v' (n + m) (vals (xs ++ news)) → w.grownBy w' v.ownBlock → K (a.put o.dst v') w') : o.wp Tryz.prog a w K Q := by
  obtain ⟨i0, hi, hz0, hz1, hz2⟩ := info_parts infoU8
  obtain ⟨h1, h2, h3, h4, h5⟩ := hr
  cases A with
  | none =>
    have hc := h4 rfl
    have hm : m = 0 := by omega
    subst hm; subst hc
    obtain rfl : news = [] := List.eq_nil_of_length_eq_zero h1
    have hrun := run_app_none (P := Tryz.prog) (w := w) base 27 o.type 5 i0 1 0 Tryz.underlying27 hi v n (vals xs) hown
    unfold Oper.wp
    simp [execOp, ho, resolve, invoke, builtin, hs, hx, hrun, Result.andThen]
    exact h v w (by simpa using hown) (World.grownBy.refl w _)
  | some ad =>
    refine wp_append_own w s x 27 ho base 5 i0 (.int .u8 0) 1 1 Tryz.underlying27 hi hz0 hz1 hz2 rfl (by decide) v n (vals xs) hs hown ad m c (vals news) hx (by simp [vals, h1]) (fun j u hu => ?_) (fun u hu => ?_) (by unfold maxLen; omega) (by omega) hbase ?_
    · obtain ⟨hj, rfl⟩ := vals_get hu
      obtain ⟨b, off, e, _, hc⟩ := h5 (by omega)
      cases e
      rw [← hc j hj]
      congr 1
      unfold Addr.add
      split <;> simp_all
    · obtain ⟨y, _, rfl⟩ := List.mem_map.1 hu
      rfl
    · intro v' w' h2 h3 _
      exact h v' w' (by rw [← vals_append]; exact h2) h3
end
section
variable {l : List Oper} {Q : Exit → Act → World → Prop} {md : Region.Mode} {S : World → Prop} {i : Nat} {σ : List Nat} {o : Oper} {listed : Array Bool} {a : Act} {w : World}
/-- Where its turn comes alone. -/
theorem wpI_app_own (hi : nthOp l i = some o) (hr : Region.ready md l.toArray listed = [i]) (hgd : o.guard = none) (s x : Operand)
    (ho : o.op = .call { callee := .builtin .append, args := #[s, x], argTypes := #[27, 27] })
    (base : Nat) (v : Value) (n : Nat) (xs : List UInt8) (hs : a.eval s = v) (hown : w.ownsRow base 5 1 v n (vals xs))
    (B : Nat) (A : Option Addr) (m c : Nat) (news : List UInt8) (hx : a.eval x = .slice A m c) (hb : Bsl w B A m c news)
    (hnm : n + m ≤ 100000000000000) (hbase : base ≤ w.heap.size)
    (h : ∀ v' w', w'.ownsRow base 5 1 v' (n + m) (vals (xs ++ news)) → w.grownBy w' v.ownBlock → S w' ∧ wpI Tryz.prog md S l Q σ (listed.setIfInBounds i true) (a.put o.dst v') w') : wpI Tryz.prog md S l Q (i :: σ) listed a w :=
  wpI_lone hi hr fun K hK => by
    rw [if_pos (by simp [Region.wanted, hgd])]
    exact wp_app_own s x ho base v n xs hs hown B A m c news hx hb hnm hbase fun v' w' h1 h2 => hK _ _ (h v' w' h1 h2).1 (h v' w' h1 h2).2
end
/-- A slice literal of one byte. -/
theorem one_own (w : World) (x : UInt8) : (w.alloc (.cells #[.int .u8 (x.toNat : Int)] 5)).ownsRow w.heap.size 5 1 (.slice (some ⟨w.heap.size, 0, none⟩) 1 1) 1 (vals [x]) :=
  ⟨rfl, .inr ⟨w.heap.size, 1, _, rfl, Nat.le_refl _, heap_alloc_new w _, Nat.le_refl _, by unfold maxLen; omega, rfl, rfl⟩⟩
end Go.Proofs.YtbggkfomfeeikaaGreatDoor
/-
  The document's own Bytes and Write of pointers.
-/
namespace Go.Proofs.YtbggkfomfeeikaaGreatDoor
open Go.RowKit Go.Shelf
set_option maxRecDepth 100000

set_option maxHeartbeats 2000000 in
theorem rpBytes_any (p : Pt) (hw : WfP p) (hroom : (0 ≤ p.1 ∧ p.1 < 256) ∧ p.2.1 < 16777216) (w : World) : Calls Tryz.prog 121 #[ptV p] w (OwnV 16 (bytesP p) w) := by
  obtain ⟨a, b, c, d, e⟩ := p
  obtain ⟨_, h3', h4, h5, h6⟩ := hw
  obtain ⟨⟨h1, h2⟩, h3⟩ := hroom
  dsimp only at h1 h2 h3 h3' h4 h5 h6
  obtain ⟨A, rfl⟩ := Int.eq_ofNat_of_zero_le h1
  have hmx : Tryz.prog.follows Departure.mixedOrders = true := by kernel_rfl
  have q0 : (0 : Int) ≤ A := by omega
  have q1 : (A : Int) ≤ 255 := by omega
  have HN1 := Lib.hid (fun W => rpNumber_any b 3 (by omega) (by omega) W)
  have HN2 := Lib.hid (fun W => rpNumber_any c 4 (by omega) (by omega) W)
  have HN3 := Lib.hid (fun W => rpNumber_any d 4 (by omega) (by omega) W)
  have HN4 := Lib.hid (fun W => rpNumber_any e 4 (by omega) (by omega) W)
  have HB := Lib.hid ((Below.refl _ w).alloc (Nat.le_refl _) (.cells #[.int .i64 (A : Int), .int .u32 (b : Int), .int .u32 (c : Int), .int .u32 (d : Int), .int .u32 (e : Int)] 32))
  have HK := Lib.hid (Blk.new w 32 #[.int .i64 (A : Int), .int .u32 (b : Int), .int .u32 (c : Int), .int .u32 (d : Int), .int .u32 (e : Int)])
  have eA : (((UInt8.ofNat A).toNat : Nat) : Int) = (A : Int) := by simp; omega
  have eW : IntKind.u8.wrap (A : Int) = (A : Int) := by simp [IntKind.wrap, IntKind.bits, IntKind.signed]; omega
  have eL : leB 1 A ++ leB 3 b = [UInt8.ofNat A] ++ leB 3 b := by
    have hb : byteAt A 0 = UInt8.ofNat A := UInt8.toNat_inj.1 (by rw [byteAt_toNat]; simp)
    rw [← hb]
    rfl
  go_enter Tryz.func121, Tryz.ntmps121
  go_wp2_with fail
  go_cut [3] from 4 to 11 (fun v wx => wx.ownsRow (w.heap.size + 1) 5 1 v 4 (vals (leB 1 A ++ leB 3 b)) ∧ Below w.heap.size w wx ∧ Blk wx w.heap.size 32 #[.int .i64 (A : Int), .int .u32 (b : Int), .int .u32 (c : Int), .int .u32 (d : Int), .int .u32 (e : Int)])
  case first =>
    obtain ⟨wd, hwd⟩ : ∃ wd, (w.alloc (Obj.cells #[.int .i64 (A : Int), .int .u32 (b : Int), .int .u32 (c : Int), .int .u32 (d : Int), .int .u32 (e : Int)] 32)).drew = wd := ⟨_, rfl⟩
    have HBd := Lib.hid (show Below w.heap.size w wd by rw [← hwd]; exact HB.out.drew)
    have HKd := Lib.hid (show Blk wd w.heap.size 32 #[.int .i64 (A : Int), .int .u32 (b : Int), .int .u32 (c : Int), .int .u32 (d : Int), .int .u32 (e : Int)] by rw [← hwd]; exact HK.out.drew)
    have HZd := Lib.hid (show wd.heap.size = w.heap.size + 1 by rw [← hwd]; simp)
    have c0 := HKd.out.cell 0
    have c1 := HKd.out.cell 1
    have C0 := fun X (hX : Below wd.heap.size wd X) => (hX.cell (p := ⟨w.heap.size, 0, none⟩) (World.block_lt_of_cell? wd _ c0)).trans c0
    have C1 := fun X (hX : Below wd.heap.size wd X) => (hX.cell (p := ⟨w.heap.size, 1, none⟩) (World.block_lt_of_cell? wd _ c1)).trans c1
    have hbwd : Below wd.heap.size wd wd := Below.refl _ _
    clear c0 c1
    refine wpI_start (Below wd.heap.size wd) [0, 1, 2, 4, 5, 3, 6, 7, 8] hmx rfl hwd ?_
    clear hwd
    iterate 5 (
      refine wpI_read (v := ?_) hbwd rfl (by kernel_rfl) (by kernel_rfl) (by kernel_rfl) (fun _ _ _ h => h) (.inl ⟨by rfl, ?_⟩) ?_
      rotate_left
      · intro X hX
        have hXa := C0 X hX
        have hXb := C1 X hX
        clear hX
        go_simp
        with_reducible rfl
      try simp only [Act.put, List.setIfInBounds_toArray, List.set_cons_zero, List.set_cons_succ])
    clear C0 C1
    refine wpI_fork rfl rfl (by kernel_rfl) (fun K hK => ?_) (fun K hK => ?_)
    · go_simp
      have hbA := (Below.refl wd.heap.size wd).alloc (Nat.le_refl _) (.cells #[.int .u8 (A : Int)] 5)
      have hoA := one_own wd (UInt8.ofNat A)
      rw [eA] at hoA
      obtain ⟨wa, hwa⟩ : ∃ wa, wd.alloc (.cells #[.int .u8 (A : Int)] 5) = wa := ⟨_, rfl⟩
      obtain ⟨gb, hgb⟩ : ∃ gb, wd.heap.size = gb := ⟨_, rfl⟩
      rw [hwa] at hbA hoA ⊢
      rw [hgb] at hoA ⊢
      refine hK _ _ hbA ?_
      clear hK K hwa
      try simp only [Act.put, List.setIfInBounds_toArray, List.set_cons_zero, List.set_cons_succ]
      refine wpI_lone rfl (by kernel_rfl) (fun K hK => ?_)
      go_simp
      refine (HN1.out wa).mono ?_
      rintro ev wb ⟨vb, rfl, hob, hbb⟩
      have hbB := hbA.trans (hbb.mono hbA.size)
      have hoB := own_below hoA hbb
      refine hK _ _ hbB ?_
      clear hK K hoA
      try simp only [Act.put, List.setIfInBounds_toArray, List.set_cons_zero, List.set_cons_succ]
      obtain ⟨Ab, Cb, rfl, hsb⟩ := own_to hob
      refine wpI_app_own rfl (by kernel_rfl) rfl (.tmp 7) (.tmp 10) rfl gb _ 1 _ rfl hoB _ Ab 3 Cb (leB 3 b) rfl hsb (by omega) (by have := hbB.size; have := hoB.lt gb rfl; omega) ?_
      intro v3 w3 ho3 hg3
      have hg3' : wb.grownBy w3 (some gb) := hg3
      have hgl : wd.heap.size ≤ gb := by have := hbA.size; omega
      have hb3 := below_only hbB hgl hg3' hbB.size
      refine ⟨hb3, ?_⟩
      try simp only [Act.put, List.setIfInBounds_toArray, List.set_cons_zero, List.set_cons_succ]
      iterate 1 (
        refine wpI_read (v := ?_) hb3 rfl (by kernel_rfl) (by kernel_rfl) (by kernel_rfl) (fun _ _ _ h => h) (.inl ⟨by rfl, ?_⟩) ?_
        rotate_left
        · intro X hX
          clear hX
          go_simp
          with_reducible rfl
        try simp only [Act.put, List.setIfInBounds_toArray, List.set_cons_zero, List.set_cons_succ])
      refine wpI_done (by kernel_rfl) ?_
      go_wp2_with fail
      go_meet
      refine ⟨?_, HBd.out.trans (hb3.mono HBd.out.size), HKd.out.below hb3 HKd.out.lt⟩
      rw [eL]
      exact own_mono ho3 (by have := HZd.out; omega)
    · go_simp
      refine (HN1.out wd).mono ?_
      rintro ev wa ⟨vb, rfl, hob, hbb⟩
      have hbA : Below wd.heap.size wd wa := hbb
      refine hK _ _ hbA ?_
      clear hK K
      try simp only [Act.put, List.setIfInBounds_toArray, List.set_cons_zero, List.set_cons_succ]
      refine wpI_lone rfl (by kernel_rfl) (fun K hK => ?_)
      go_simp
      have hoB := one_own wa (UInt8.ofNat A)
      rw [eA] at hoB
      have hbn := (Below.refl wa.heap.size wa).alloc (Nat.le_refl _) (.cells #[.int .u8 (A : Int)] 5)
      obtain ⟨wb, hwb⟩ : ∃ wb, wa.alloc (.cells #[.int .u8 (A : Int)] 5) = wb := ⟨_, rfl⟩
      obtain ⟨gb, hgb⟩ : ∃ gb, wa.heap.size = gb := ⟨_, rfl⟩
      rw [hwb] at hoB hbn ⊢
      rw [hgb] at hoB ⊢
      have hbB := hbA.trans (hbn.mono hbA.size)
      refine hK _ _ hbB ?_
      clear hK K hwb
      try simp only [Act.put, List.setIfInBounds_toArray, List.set_cons_zero, List.set_cons_succ]
      obtain ⟨Ab, Cb, rfl, hsb0⟩ := own_to hob
      have hsb := hsb0.step hbn
      refine wpI_app_own rfl (by kernel_rfl) rfl (.tmp 7) (.tmp 10) rfl gb _ 1 _ rfl hoB _ Ab 3 Cb (leB 3 b) rfl hsb (by omega) (by have := hbB.size; have := hoB.lt gb rfl; omega) ?_
      intro v3 w3 ho3 hg3
      have hg3' : wb.grownBy w3 (some gb) := hg3
      have hgl : wd.heap.size ≤ gb := by have := hbA.size; omega
      have hb3 := below_only hbB hgl hg3' hbB.size
      refine ⟨hb3, ?_⟩
      try simp only [Act.put, List.setIfInBounds_toArray, List.set_cons_zero, List.set_cons_succ]
      iterate 1 (
        refine wpI_read (v := ?_) hb3 rfl (by kernel_rfl) (by kernel_rfl) (by kernel_rfl) (fun _ _ _ h => h) (.inl ⟨by rfl, ?_⟩) ?_
        rotate_left
        · intro X hX
          clear hX
          go_simp
          with_reducible rfl
        try simp only [Act.put, List.setIfInBounds_toArray, List.set_cons_zero, List.set_cons_succ])
      refine wpI_done (by kernel_rfl) ?_
      go_wp2_with fail
      go_meet
      refine ⟨?_, HBd.out.trans (hb3.mono HBd.out.size), HKd.out.below hb3 HKd.out.lt⟩
      rw [eL]
      exact own_mono ho3 (by have := HZd.out; omega)
  case rest =>
    obtain ⟨ho1, hb1, hk1⟩ := hcut
    obtain ⟨c0, c1, c2, c3, c4⟩ := hk1.five
    have HO1 := Lib.hid ho1
    have HB1 := Lib.hid hb1
    have HK1 := Lib.hid hk1
    have HS1 := Lib.hid (show w.heap.size + 1 ≤ wc.heap.size from hk1.lt)
    clear ho1 hb1 hk1
    obtain ⟨v, hv⟩ : ∃ v : Value, u3 = v := ⟨_, rfl⟩
    rw [hv] at HO1 ⊢
    clear hv
    go_wp2_with fail
    refine (HN2.out wc).mono ?_
    rintro ev w2a ⟨x2, rfl, o2, b2⟩
    obtain ⟨A2, C2, rfl, s2⟩ := own_to o2
    have HS2 := Lib.hid s2
    have HOa2 := Lib.hid (own_below HO1.out b2)
    have HBa2 := Lib.hid (HB1.out.trans (b2.mono HB1.out.size))
    have HKa2 := Lib.hid (HK1.out.below b2 HK1.out.lt)
    clear s2 o2 b2 c0 c1 c2 c3 c4
    go_wp2_with (at_builtin
                 refine wpList_append_bsl rfl (.tmp 12) (.tmp 15) rfl (w.heap.size + 1) v 4 _ rfl HOa2.out w2a.heap.size A2 4 C2 (leB 4 c) rfl HS2.out (by omega) (by have := HKa2.out.lt; omega) ?_
                 intro v2 w2b h2 hgr2
                 have HO2 := Lib.hid h2
                 have HB2 := Lib.hid (HBa2.out.grown hgr2 HBa2.out.size (fun r hr => by have := (HOa2.out.lt r hr).1; omega))
                 have HK2 := Lib.hid (HKa2.out.grown hgr2 (fun er => by have := (HOa2.out.lt _ er.symm).1; omega))
                 obtain ⟨c0, c1, c2, c3, c4⟩ := HK2.out.five
                 clear h2 hgr2)
    go_wp2_with fail
    refine (HN3.out w2b).mono ?_
    rintro ev w3a ⟨x3, rfl, o3, b3⟩
    obtain ⟨A3, C3, rfl, s3⟩ := own_to o3
    have HS3 := Lib.hid s3
    have HOa3 := Lib.hid (own_below HO2.out b3)
    have HBa3 := Lib.hid (HB2.out.trans (b3.mono HB2.out.size))
    have HKa3 := Lib.hid (HK2.out.below b3 HK2.out.lt)
    clear s3 o3 b3 c0 c1 c2 c3 c4
    go_wp2_with (at_builtin
                 refine wpList_append_bsl rfl (.tmp 17) (.tmp 20) rfl (w.heap.size + 1) v2 8 _ rfl HOa3.out w3a.heap.size A3 4 C3 (leB 4 d) rfl HS3.out (by omega) (by have := HKa3.out.lt; omega) ?_
                 intro v3 w3b h3 hgr3
                 have HO3 := Lib.hid h3
                 have HB3 := Lib.hid (HBa3.out.grown hgr3 HBa3.out.size (fun r hr => by have := (HOa3.out.lt r hr).1; omega))
                 have HK3 := Lib.hid (HKa3.out.grown hgr3 (fun er => by have := (HOa3.out.lt _ er.symm).1; omega))
                 obtain ⟨c0, c1, c2, c3, c4⟩ := HK3.out.five
                 clear h3 hgr3)
    go_wp2_with fail
    refine (HN4.out w3b).mono ?_
    rintro ev w4a ⟨x4, rfl, o4, b4⟩
    obtain ⟨A4, C4, rfl, s4⟩ := own_to o4
    have HS4 := Lib.hid s4
    have HOa4 := Lib.hid (own_below HO3.out b4)
    have HBa4 := Lib.hid (HB3.out.trans (b4.mono HB3.out.size))
    have HKa4 := Lib.hid (HK3.out.below b4 HK3.out.lt)
    clear s4 o4 b4 c0 c1 c2 c3 c4
    go_wp2_with (at_builtin
                 refine wpList_append_bsl rfl (.tmp 22) (.tmp 25) rfl (w.heap.size + 1) v3 12 _ rfl HOa4.out w4a.heap.size A4 4 C4 (leB 4 e) rfl HS4.out (by omega) (by have := HKa4.out.lt; omega) ?_
                 intro v4 w4b h4 hgr4
                 have HO4 := Lib.hid h4
                 have HB4 := Lib.hid (HBa4.out.grown hgr4 HBa4.out.size (fun r hr => by have := (HOa4.out.lt r hr).1; omega))
                 have HK4 := Lib.hid (HKa4.out.grown hgr4 (fun er => by have := (HOa4.out.lt _ er.symm).1; omega))
                 obtain ⟨c0, c1, c2, c3, c4⟩ := HK4.out.five
                 clear h4 hgr4)
    go_ret
    refine ⟨v4, rfl, ?_, HB4.out⟩
    have := HO4.out
    have ea : ((A : Int)).toNat = A := by omega
    simp only [bytesP, ea]
    simp only [List.append_assoc] at this ⊢
    exact own_mono this (by omega)
end Go.Proofs.YtbggkfomfeeikaaGreatDoor
/-
  copy of bytes over a part of a row that is known whole, into a slice that may be longer than what is copied; parts of slices.
-/
namespace Go.Proofs.YtbggkfomfeeikaaGreatDoor
open Go.RowKit Go.Shelf
set_option maxRecDepth 100000

theorem copyAt {P : Program} {ops : Array Oper} {Q : Exit → Act → World → Prop} {a : Act} {w : World} {rest : List Oper} {d : Option Tmp} {ty : TypeId} {x : Array Operand} {y : Array TypeId} {pos : String} {af : Array Edge} (h : wpList P ops Q (⟨d, .call { callee := .builtin .copy, args := x, argTypes := y }, ty, pos, af, none⟩ :: rest) a w) : wpList P ops Q (⟨d, .call { callee := .builtin .copy, args := x, argTypes := y }, ty, pos, af, none⟩ :: rest) a w := h
theorem infoB1 : (Tryz.prog.info? 5).map (·.size) = some 1 := by kernel_rfl
/-- s laid over t from o on. -/
def ovrL (t : List UInt8) (o : Nat) (s : List UInt8) : List UInt8 := t.take o ++ (s ++ t.drop (o + s.length))
/-- s[l:], where it is not empty. -/
theorem slice_from_l (W : World) (g off len cap l : Nat) (hl : l < len) (hc : len ≤ cap) : (Instr.slice 27 (.slice (some ⟨g, off, none⟩) len cap) (some (.int .i64 (l : Int))) none none).run Tryz.prog W = .ok (.slice (some ⟨g, off + l, none⟩) (len - l) (cap - l)) W := by
  rw [run_slice_l W 27 _ _ _ (by kernel_rfl) .i64 _ (by omega) (by omega)]
  have hz : (Go.sizeOf (Tryz.prog.elem 27)).run Tryz.prog W = .ok 1 W := by kernel_rfl
  rw [hz]
  simp [Result.andThen, sliced, Addr.add]
  rw [if_neg (by omega)]
  by_cases h0 : l = 0
  · subst h0; simp
  · rw [if_neg h0]
/-- make([]byte, n). -/
theorem mkBytes (n : Nat) (hn : n ≤ 1000000000000) (W : World) : (Instr.makeSlice 27 (.int .i64 n) (.int .i64 n)).run Tryz.prog W = .ok (.slice (some ⟨W.heap.size, 0, none⟩) n n) (W.alloc (.cells (ar (List.replicate n 0)) 5)) := by
  obtain ⟨i0, hi, hz0, hz1, hz2⟩ := info_parts infoU8
  have hr := run_make (P := Tryz.prog) W 27 5 i0 (.int .u8 0) Tryz.underlying27 hi hz0 .i64 .i64 n n (by omega) (Int.le_refl _) (by rw [hz2]; omega) (by omega)
  rw [hz1] at hr
  simp only [Int.toNat_natCast] at hr
  have e : madeCells (Value.int .u8 0).cells (n * 1) = ar (List.replicate n 0) := by
    apply Array.ext
    · simp [size_madeCells, ar, vals]
    · intro i h1 h2
      simp [madeCells, Value.cells, Nat.mod_one, ar, vals]
  rw [e] at hr
  exact hr
end Go.Proofs.YtbggkfomfeeikaaGreatDoor
/-
  The document's own Write and Read of pointers.
-/
namespace Go.Proofs.YtbggkfomfeeikaaGreatDoor
open Go.RowKit Go.Shelf
set_option maxRecDepth 100000

set_option maxHeartbeats 4000000 in
theorem rpRead_any (a : Option Addr) (len cap : Nat) (s : List UInt8) (w : World) (hB : Bsl w w.heap.size a len cap s) : Calls Tryz.prog 89 #[.slice a len cap] w (OutP (preadO s).1 (preadO s).2 w) := by
  have hl := hB.1
  have hmx : Tryz.prog.follows Departure.mixedOrders = true := by kernel_rfl
  rw [preadO]
  have hk : Blk (w.alloc (.cells #[.int .i64 0, .int .u32 0, .int .u32 0, .int .u32 0, .int .u32 0] 32)) w.heap.size 32 #[.int .i64 0, .int .u32 0, .int .u32 0, .int .u32 0, .int .u32 0] := Blk.new w _ _
  have hb1 : Below w.heap.size w (w.alloc (.cells #[.int .i64 0, .int .u32 0, .int .u32 0, .int .u32 0, .int .u32 0] 32)) := (Below.refl _ w).alloc (Nat.le_refl _) _
  have HK := Lib.hid hk; clear hk
  have HB1 := Lib.hid hb1; clear hb1
  have i0 : (0 : Int) ≤ (len : Int) := by omega
  have i1 : (len : Int) ≤ 9223372036854775807 := by have h1 := hB.2.1; have h2 := hB.2.2.1; unfold maxLen at h2; omega
  by_cases h16 : s.length = 16
  · rw [if_pos h16]
    obtain rfl : len = 16 := by omega
    obtain ⟨b, off, ea, hblt, hcell⟩ := hB.2.2.2.2 (by omega)
    subst ea
    have hcap := hB.2.1
    have hm := fun w => rpMay_any (getP s) w
    have l0 := leN_le s 0 1
    obtain ⟨x, hx⟩ : ∃ x : Nat, (s[0]'(by omega)).toNat = x := ⟨_, rfl⟩
    have c0 := hcell 0 (by omega)
    rw [hx, Nat.add_zero] at c0
    have hx0 : leN ((s.drop 0).take 1) = x := by
      rw [List.drop_zero, ← hx]
      obtain ⟨y, r, rfl⟩ : ∃ y r, s = y :: r := List.exists_cons_of_length_pos (by omega)
      simp [leN]
    rw [getP] at hm ⊢
    rw [hx0] at hm l0 ⊢
    clear hx0 hx
    have hw0 := hB.win 1 3 (by omega)
    have hg0 : ∀ W, Below w.heap.size w W → Calls Tryz.prog 120 #[.slice (some ⟨b, off + 1, none⟩) 3 (cap - 1)] W fun e w' => e = .returned (.int .u32 (leN ((s.drop 1).take 3) : Nat)) ∧ W = w' := fun W hW => rpGet_any _ 3 _ _ W ((hw0.below hW).more hW.size) (by omega)
    have sl0 : ∀ X : World, (Instr.slice 27 (.slice (some ⟨b, off, none⟩) 16 cap) (some (.int .i64 1)) (some (.int .i64 4)) none).run Tryz.prog X = .ok (.slice (some ⟨b, off + 1, none⟩) 3 (cap - 1)) X := fun X => slice_lh X b off 16 cap 1 3 (by omega) (by omega)
    obtain ⟨n1, hn1⟩ : ∃ n, leN ((s.drop 1).take 3) = n := ⟨_, rfl⟩
    rw [hn1] at hg0 hm ⊢
    clear hn1 hw0
    have hw1 := hB.win 4 4 (by omega)
    have hg1 : ∀ W, Below w.heap.size w W → Calls Tryz.prog 120 #[.slice (some ⟨b, off + 4, none⟩) 4 (cap - 4)] W fun e w' => e = .returned (.int .u32 (leN ((s.drop 4).take 4) : Nat)) ∧ W = w' := fun W hW => rpGet_any _ 4 _ _ W ((hw1.below hW).more hW.size) (by omega)
    have sl1 : ∀ X : World, (Instr.slice 27 (.slice (some ⟨b, off, none⟩) 16 cap) (some (.int .i64 4)) (some (.int .i64 8)) none).run Tryz.prog X = .ok (.slice (some ⟨b, off + 4, none⟩) 4 (cap - 4)) X := fun X => slice_lh X b off 16 cap 4 4 (by omega) (by omega)
    obtain ⟨n2, hn2⟩ : ∃ n, leN ((s.drop 4).take 4) = n := ⟨_, rfl⟩
    rw [hn2] at hg1 hm ⊢
    clear hn2 hw1
    have hw2 := hB.win 8 4 (by omega)
    have hg2 : ∀ W, Below w.heap.size w W → Calls Tryz.prog 120 #[.slice (some ⟨b, off + 8, none⟩) 4 (cap - 8)] W fun e w' => e = .returned (.int .u32 (leN ((s.drop 8).take 4) : Nat)) ∧ W = w' := fun W hW => rpGet_any _ 4 _ _ W ((hw2.below hW).more hW.size) (by omega)
    have sl2 : ∀ X : World, (Instr.slice 27 (.slice (some ⟨b, off, none⟩) 16 cap) (some (.int .i64 8)) (some (.int .i64 12)) none).run Tryz.prog X = .ok (.slice (some ⟨b, off + 8, none⟩) 4 (cap - 8)) X := fun X => slice_lh X b off 16 cap 8 4 (by omega) (by omega)
    obtain ⟨n3, hn3⟩ : ∃ n, leN ((s.drop 8).take 4) = n := ⟨_, rfl⟩
    rw [hn3] at hg2 hm ⊢
    clear hn3 hw2
    have hw3 := hB.win 12 4 (by omega)
    have hg3 : ∀ W, Below w.heap.size w W → Calls Tryz.prog 120 #[.slice (some ⟨b, off + 12, none⟩) 4 (cap - 12)] W fun e w' => e = .returned (.int .u32 (leN ((s.drop 12).take 4) : Nat)) ∧ W = w' := fun W hW => rpGet_any _ 4 _ _ W ((hw3.below hW).more hW.size) (by omega)
    have sl3 : ∀ X : World, (Instr.slice 27 (.slice (some ⟨b, off, none⟩) 16 cap) (some (.int .i64 12)) (some (.int .i64 16)) none).run Tryz.prog X = .ok (.slice (some ⟨b, off + 12, none⟩) 4 (cap - 12)) X := fun X => slice_lh X b off 16 cap 12 4 (by omega) (by omega)
    obtain ⟨n4, hn4⟩ : ∃ n, leN ((s.drop 12).take 4) = n := ⟨_, rfl⟩
    rw [hn4] at hg3 hm ⊢
    clear hn4 hw3
    obtain ⟨n0, hn0⟩ : ∃ n : Nat, x = n := ⟨_, rfl⟩
    rw [hn0] at c0 hm l0 ⊢
    clear hn0
    have eW : IntKind.i64.wrap (n0 : Int) = (n0 : Int) := IntWalk.i64_in _ (by omega)
    have HX0 := Lib.hid c0
    obtain ⟨P, hP⟩ : ∃ P : Pt, ((n0 : Int), n1, n2, n3, n4) = P := ⟨_, rfl⟩
    have HP := Lib.hid hP
    have HC := Lib.hid hcell
    have HC0 : Hid (∀ X, Below (w.heap.size + 1) (w.alloc (.cells #[.int .i64 0, .int .u32 0, .int .u32 0, .int .u32 0, .int .u32 0] 32)).drew X → Calls Tryz.prog 120 #[.slice (some ⟨b, off + 1, none⟩) 3 (cap - 1)] X fun e w' => e = .returned (.int .u32 (n1 : Int)) ∧ X = w') := Lib.hid fun X hX => hg0 X ((HB1.out.drew).trans (hX.mono (by omega)))
    have HC1 : Hid (∀ X, Below (w.heap.size + 1) (w.alloc (.cells #[.int .i64 0, .int .u32 0, .int .u32 0, .int .u32 0, .int .u32 0] 32)).drew X → Calls Tryz.prog 120 #[.slice (some ⟨b, off + 4, none⟩) 4 (cap - 4)] X fun e w' => e = .returned (.int .u32 (n2 : Int)) ∧ X = w') := Lib.hid fun X hX => hg1 X ((HB1.out.drew).trans (hX.mono (by omega)))
    have HC2 : Hid (∀ X, Below (w.heap.size + 1) (w.alloc (.cells #[.int .i64 0, .int .u32 0, .int .u32 0, .int .u32 0, .int .u32 0] 32)).drew X → Calls Tryz.prog 120 #[.slice (some ⟨b, off + 8, none⟩) 4 (cap - 8)] X fun e w' => e = .returned (.int .u32 (n3 : Int)) ∧ X = w') := Lib.hid fun X hX => hg2 X ((HB1.out.drew).trans (hX.mono (by omega)))
    have HC3 : Hid (∀ X, Below (w.heap.size + 1) (w.alloc (.cells #[.int .i64 0, .int .u32 0, .int .u32 0, .int .u32 0, .int .u32 0] 32)).drew X → Calls Tryz.prog 120 #[.slice (some ⟨b, off + 12, none⟩) 4 (cap - 12)] X fun e w' => e = .returned (.int .u32 (n4 : Int)) ∧ X = w') := Lib.hid fun X hX => hg3 X ((HB1.out.drew).trans (hX.mono (by omega)))
    have HBL := Lib.hid hblt
    clear hg0 hg1 hg2 hg3 hcell c0 hP hl hB h16 hblt
    have HM := Lib.hid hm
    clear hm
    obtain ⟨R, hR⟩ : ∃ R : Pt × Int, (if MayP ((n0 : Int), n1, n2, n3, n4) then (((n0 : Int), n1, n2, n3, n4), (0 : Int)) else (p0, 8)) = R := ⟨_, rfl⟩
    rw [hR]
    have HR := Lib.hid hR
    clear hR
    go_enter Tryz.func89, Tryz.ntmps89
    go_wp2_with fail
    go_cut [4] from 9 to 25 (fun v wx => ∃ ga, v = .pointer (some ⟨ga, 0, none⟩) ∧ w.heap.size < ga ∧ Blk wx ga 32 #[.int .i64 (n0 : Int), .int .u32 (n1 : Int), .int .u32 (n2 : Int), .int .u32 (n3 : Int), .int .u32 (n4 : Int)] ∧ Below w.heap.size w wx ∧ Blk wx w.heap.size 32 #[.int .i64 0, .int .u32 0, .int .u32 0, .int .u32 0, .int .u32 0])
    case first =>
      obtain ⟨wd, hwd⟩ : ∃ wd, (w.alloc (Obj.cells #[.int .i64 0, .int .u32 0, .int .u32 0, .int .u32 0, .int .u32 0] 32)).drew = wd := ⟨_, rfl⟩
      have HBd := Lib.hid (show Below w.heap.size w wd by rw [← hwd]; exact HB1.out.drew)
      have HKd := Lib.hid (show Blk wd w.heap.size 32 #[.int .i64 0, .int .u32 0, .int .u32 0, .int .u32 0, .int .u32 0] by rw [← hwd]; exact HK.out.drew)
      have HZd := Lib.hid (show wd.heap.size = w.heap.size + 1 by rw [← hwd]; simp)
      rw [hwd, ← HZd.out] at HC0 HC1 HC2 HC3
      have c0 : wd.cell? ⟨b, off, none⟩ = some (.int .u8 (n0 : Int)) := (HBd.out.cell (p := ⟨b, off, none⟩) HBL.out).trans HX0.out
      have C0 := fun X (hX : Below wd.heap.size wd X) => (hX.cell (p := ⟨b, off, none⟩) (World.block_lt_of_cell? wd _ c0)).trans c0
      have hbwd : Below wd.heap.size wd wd := Below.refl _ _
      clear c0
      refine wpI_start (Below wd.heap.size wd) [0, 1, 2, 3, 4, 5, 7, 8, 10, 11, 13, 14, 6, 17, 9, 12, 15, 16, 18] hmx rfl hwd ?_
      clear hwd
      iterate 12 (
        refine wpI_read (v := ?_) hbwd rfl (by kernel_rfl) (by kernel_rfl) (by kernel_rfl) (fun _ _ _ h => h) (.inl ⟨by rfl, ?_⟩) ?_
        rotate_left
        · intro X hX
          have hXa := C0 X hX
          clear hX
          go_simp
          with_reducible rfl
        try simp only [Act.put, List.setIfInBounds_toArray, List.set_cons_zero, List.set_cons_succ])
      clear C0 sl0 sl1 sl2 sl3
      refine wpI_fork rfl rfl (by kernel_rfl) (fun K hK => ?_) (fun K hK => ?_)
      · go_simp
        refine (HC0.out wd hbwd).mono ?_
        rintro ev wx ⟨rfl, rfl⟩
        refine hK _ _ hbwd ?_
        clear hK K
        try simp only [Act.put, List.setIfInBounds_toArray, List.set_cons_zero, List.set_cons_succ]
        refine wpI_turn [9, 17, 12, 15, 16, 18] rfl ?_
        refine wpI_fork rfl rfl (by kernel_rfl) (fun K hK => ?_) (fun K hK => ?_)
        · go_simp
          refine (HC1.out wd hbwd).mono ?_
          rintro ev wx ⟨rfl, rfl⟩
          refine hK _ _ hbwd ?_
          clear hK K
          try simp only [Act.put, List.setIfInBounds_toArray, List.set_cons_zero, List.set_cons_succ]
          refine wpI_turn [12, 17, 15, 16, 18] rfl ?_
          refine wpI_fork rfl rfl (by kernel_rfl) (fun K hK => ?_) (fun K hK => ?_)
          · go_simp
            refine (HC2.out wd hbwd).mono ?_
            rintro ev wx ⟨rfl, rfl⟩
            refine hK _ _ hbwd ?_
            clear hK K
            try simp only [Act.put, List.setIfInBounds_toArray, List.set_cons_zero, List.set_cons_succ]
            refine wpI_turn [15, 17, 16, 18] rfl ?_
            refine wpI_fork rfl rfl (by kernel_rfl) (fun K hK => ?_) (fun K hK => ?_)
            · go_simp
              refine (HC3.out wd hbwd).mono ?_
              rintro ev wx ⟨rfl, rfl⟩
              refine hK _ _ hbwd ?_
              clear hK K
              try simp only [Act.put, List.setIfInBounds_toArray, List.set_cons_zero, List.set_cons_succ]
              refine wpI_turn [16, 17, 18] rfl ?_
              iterate 1 (
                refine wpI_read (v := ?_) hbwd rfl (by kernel_rfl) (by kernel_rfl) (by kernel_rfl) (fun _ _ _ h => h) (.inl ⟨by rfl, ?_⟩) ?_
                rotate_left
                · intro X hX
                  clear hX
                  go_simp
                  with_reducible rfl
                try simp only [Act.put, List.setIfInBounds_toArray, List.set_cons_zero, List.set_cons_succ])
              refine wpI_lone rfl (by kernel_rfl) (fun K hK => ?_)
              go_simp
              have hba := (Below.refl wd.heap.size wd).alloc (Nat.le_refl _) (.cells #[.int .i64 0, .int .u32 0, .int .u32 0, .int .u32 0, .int .u32 0] 32)
              have hxa := Blk.new wd 32 #[.int .i64 0, .int .u32 0, .int .u32 0, .int .u32 0, .int .u32 0]
              obtain ⟨wa, hwa⟩ : ∃ wa, wd.alloc (.cells #[.int .i64 0, .int .u32 0, .int .u32 0, .int .u32 0, .int .u32 0] 32) = wa := ⟨_, rfl⟩
              obtain ⟨ga, hga⟩ : ∃ ga, wd.heap.size = ga := ⟨_, rfl⟩
              have hgl : wd.heap.size ≤ ga := by omega
              rw [hwa] at hba hxa ⊢
              rw [hga] at hxa ⊢
              refine hK _ _ hba ?_
              clear hK K hwa
              try simp only [Act.put, List.setIfInBounds_toArray, List.set_cons_zero, List.set_cons_succ]
              refine wpI_lone rfl (by kernel_rfl) (fun K hK => ?_)
              have d0 := hxa.cell 0
              have d1 := hxa.cell 1
              have d2 := hxa.cell 2
              have d3 := hxa.cell 3
              have d4 := hxa.cell 4
              have hfz := fun i => hxa.frozen i
              go_simp
              have hxs := hxa.set5 (.int .i64 (n0 : Int)) (.int .u32 (n1 : Int)) (.int .u32 (n2 : Int)) (.int .u32 (n3 : Int)) (.int .u32 (n4 : Int))
              have hbs := below_set5 hba hgl (.int .i64 (n0 : Int)) (.int .u32 (n1 : Int)) (.int .u32 (n2 : Int)) (.int .u32 (n3 : Int)) (.int .u32 (n4 : Int))
              obtain ⟨ws, hws⟩ : ∃ ws, set5 wa ga (.int .i64 (n0 : Int)) (.int .u32 (n1 : Int)) (.int .u32 (n2 : Int)) (.int .u32 (n3 : Int)) (.int .u32 (n4 : Int)) = ws := ⟨_, rfl⟩
              rw [hws] at hxs hbs
              simp only [set5] at hws
              rw [hws]
              refine hK _ _ hbs ?_
              clear hK K d0 d1 d2 d3 d4 hfz hws
              try simp only [Act.put, List.setIfInBounds_toArray, List.set_cons_zero, List.set_cons_succ]
              refine wpI_done (by kernel_rfl) ?_
              go_wp2_with fail
              go_meet
              exact ⟨ga, rfl, by have := HZd.out; omega, hxs, HBd.out.trans (hbs.mono HBd.out.size), HKd.out.below hbs HKd.out.lt⟩
            · go_simp
              have hba := (Below.refl wd.heap.size wd).alloc (Nat.le_refl _) (.cells #[.int .i64 0, .int .u32 0, .int .u32 0, .int .u32 0, .int .u32 0] 32)
              have hxa := Blk.new wd 32 #[.int .i64 0, .int .u32 0, .int .u32 0, .int .u32 0, .int .u32 0]
              obtain ⟨wa, hwa⟩ : ∃ wa, wd.alloc (.cells #[.int .i64 0, .int .u32 0, .int .u32 0, .int .u32 0, .int .u32 0] 32) = wa := ⟨_, rfl⟩
              obtain ⟨ga, hga⟩ : ∃ ga, wd.heap.size = ga := ⟨_, rfl⟩
              have hgl : wd.heap.size ≤ ga := by omega
              rw [hwa] at hba hxa ⊢
              rw [hga] at hxa ⊢
              refine hK _ _ hba ?_
              clear hK K hwa
              try simp only [Act.put, List.setIfInBounds_toArray, List.set_cons_zero, List.set_cons_succ]
              refine wpI_lone rfl (by kernel_rfl) (fun K hK => ?_)
              go_simp
              refine (HC3.out wa hba).mono ?_
              rintro ev wx ⟨rfl, rfl⟩
              refine hK _ _ hba ?_
              clear hK K
              try simp only [Act.put, List.setIfInBounds_toArray, List.set_cons_zero, List.set_cons_succ]
              iterate 1 (
                refine wpI_read (v := ?_) hba rfl (by kernel_rfl) (by kernel_rfl) (by kernel_rfl) (fun _ _ _ h => h) (.inl ⟨by rfl, ?_⟩) ?_
                rotate_left
                · intro X hX
                  clear hX
                  go_simp
                  with_reducible rfl
                try simp only [Act.put, List.setIfInBounds_toArray, List.set_cons_zero, List.set_cons_succ])
              refine wpI_lone rfl (by kernel_rfl) (fun K hK => ?_)
              have d0 := hxa.cell 0
              have d1 := hxa.cell 1
              have d2 := hxa.cell 2
              have d3 := hxa.cell 3
              have d4 := hxa.cell 4
              have hfz := fun i => hxa.frozen i
              go_simp
              have hxs := hxa.set5 (.int .i64 (n0 : Int)) (.int .u32 (n1 : Int)) (.int .u32 (n2 : Int)) (.int .u32 (n3 : Int)) (.int .u32 (n4 : Int))
              have hbs := below_set5 hba hgl (.int .i64 (n0 : Int)) (.int .u32 (n1 : Int)) (.int .u32 (n2 : Int)) (.int .u32 (n3 : Int)) (.int .u32 (n4 : Int))
              obtain ⟨ws, hws⟩ : ∃ ws, set5 wa ga (.int .i64 (n0 : Int)) (.int .u32 (n1 : Int)) (.int .u32 (n2 : Int)) (.int .u32 (n3 : Int)) (.int .u32 (n4 : Int)) = ws := ⟨_, rfl⟩
              rw [hws] at hxs hbs
              simp only [set5] at hws
              rw [hws]
              refine hK _ _ hbs ?_
              clear hK K d0 d1 d2 d3 d4 hfz hws
              try simp only [Act.put, List.setIfInBounds_toArray, List.set_cons_zero, List.set_cons_succ]
              refine wpI_done (by kernel_rfl) ?_
              go_wp2_with fail
              go_meet
              exact ⟨ga, rfl, by have := HZd.out; omega, hxs, HBd.out.trans (hbs.mono HBd.out.size), HKd.out.below hbs HKd.out.lt⟩
          · go_simp
            have hba := (Below.refl wd.heap.size wd).alloc (Nat.le_refl _) (.cells #[.int .i64 0, .int .u32 0, .int .u32 0, .int .u32 0, .int .u32 0] 32)
            have hxa := Blk.new wd 32 #[.int .i64 0, .int .u32 0, .int .u32 0, .int .u32 0, .int .u32 0]
            obtain ⟨wa, hwa⟩ : ∃ wa, wd.alloc (.cells #[.int .i64 0, .int .u32 0, .int .u32 0, .int .u32 0, .int .u32 0] 32) = wa := ⟨_, rfl⟩
            obtain ⟨ga, hga⟩ : ∃ ga, wd.heap.size = ga := ⟨_, rfl⟩
            have hgl : wd.heap.size ≤ ga := by omega
            rw [hwa] at hba hxa ⊢
            rw [hga] at hxa ⊢
            refine hK _ _ hba ?_
            clear hK K hwa
            try simp only [Act.put, List.setIfInBounds_toArray, List.set_cons_zero, List.set_cons_succ]
            refine wpI_lone rfl (by kernel_rfl) (fun K hK => ?_)
            go_simp
            refine (HC2.out wa hba).mono ?_
            rintro ev wx ⟨rfl, rfl⟩
            refine hK _ _ hba ?_
            clear hK K
            try simp only [Act.put, List.setIfInBounds_toArray, List.set_cons_zero, List.set_cons_succ]
            refine wpI_lone rfl (by kernel_rfl) (fun K hK => ?_)
            go_simp
            refine (HC3.out wa hba).mono ?_
            rintro ev wx ⟨rfl, rfl⟩
            refine hK _ _ hba ?_
            clear hK K
            try simp only [Act.put, List.setIfInBounds_toArray, List.set_cons_zero, List.set_cons_succ]
            iterate 1 (
              refine wpI_read (v := ?_) hba rfl (by kernel_rfl) (by kernel_rfl) (by kernel_rfl) (fun _ _ _ h => h) (.inl ⟨by rfl, ?_⟩) ?_
              rotate_left
              · intro X hX
                clear hX
                go_simp
                with_reducible rfl
              try simp only [Act.put, List.setIfInBounds_toArray, List.set_cons_zero, List.set_cons_succ])
            refine wpI_lone rfl (by kernel_rfl) (fun K hK => ?_)
            have d0 := hxa.cell 0
            have d1 := hxa.cell 1
            have d2 := hxa.cell 2
            have d3 := hxa.cell 3
            have d4 := hxa.cell 4
            have hfz := fun i => hxa.frozen i
            go_simp
            have hxs := hxa.set5 (.int .i64 (n0 : Int)) (.int .u32 (n1 : Int)) (.int .u32 (n2 : Int)) (.int .u32 (n3 : Int)) (.int .u32 (n4 : Int))
            have hbs := below_set5 hba hgl (.int .i64 (n0 : Int)) (.int .u32 (n1 : Int)) (.int .u32 (n2 : Int)) (.int .u32 (n3 : Int)) (.int .u32 (n4 : Int))
            obtain ⟨ws, hws⟩ : ∃ ws, set5 wa ga (.int .i64 (n0 : Int)) (.int .u32 (n1 : Int)) (.int .u32 (n2 : Int)) (.int .u32 (n3 : Int)) (.int .u32 (n4 : Int)) = ws := ⟨_, rfl⟩
            rw [hws] at hxs hbs
            simp only [set5] at hws
            rw [hws]
            refine hK _ _ hbs ?_
            clear hK K d0 d1 d2 d3 d4 hfz hws
            try simp only [Act.put, List.setIfInBounds_toArray, List.set_cons_zero, List.set_cons_succ]
            refine wpI_done (by kernel_rfl) ?_
            go_wp2_with fail
            go_meet
            exact ⟨ga, rfl, by have := HZd.out; omega, hxs, HBd.out.trans (hbs.mono HBd.out.size), HKd.out.below hbs HKd.out.lt⟩
        · go_simp
          have hba := (Below.refl wd.heap.size wd).alloc (Nat.le_refl _) (.cells #[.int .i64 0, .int .u32 0, .int .u32 0, .int .u32 0, .int .u32 0] 32)
          have hxa := Blk.new wd 32 #[.int .i64 0, .int .u32 0, .int .u32 0, .int .u32 0, .int .u32 0]
          obtain ⟨wa, hwa⟩ : ∃ wa, wd.alloc (.cells #[.int .i64 0, .int .u32 0, .int .u32 0, .int .u32 0, .int .u32 0] 32) = wa := ⟨_, rfl⟩
          obtain ⟨ga, hga⟩ : ∃ ga, wd.heap.size = ga := ⟨_, rfl⟩
          have hgl : wd.heap.size ≤ ga := by omega
          rw [hwa] at hba hxa ⊢
          rw [hga] at hxa ⊢
          refine hK _ _ hba ?_
          clear hK K hwa
          try simp only [Act.put, List.setIfInBounds_toArray, List.set_cons_zero, List.set_cons_succ]
          refine wpI_lone rfl (by kernel_rfl) (fun K hK => ?_)
          go_simp
          refine (HC1.out wa hba).mono ?_
          rintro ev wx ⟨rfl, rfl⟩
          refine hK _ _ hba ?_
          clear hK K
          try simp only [Act.put, List.setIfInBounds_toArray, List.set_cons_zero, List.set_cons_succ]
          refine wpI_lone rfl (by kernel_rfl) (fun K hK => ?_)
          go_simp
          refine (HC2.out wa hba).mono ?_
          rintro ev wx ⟨rfl, rfl⟩
          refine hK _ _ hba ?_
          clear hK K
          try simp only [Act.put, List.setIfInBounds_toArray, List.set_cons_zero, List.set_cons_succ]
          refine wpI_lone rfl (by kernel_rfl) (fun K hK => ?_)
          go_simp
          refine (HC3.out wa hba).mono ?_
          rintro ev wx ⟨rfl, rfl⟩
          refine hK _ _ hba ?_
          clear hK K
          try simp only [Act.put, List.setIfInBounds_toArray, List.set_cons_zero, List.set_cons_succ]
          iterate 1 (
            refine wpI_read (v := ?_) hba rfl (by kernel_rfl) (by kernel_rfl) (by kernel_rfl) (fun _ _ _ h => h) (.inl ⟨by rfl, ?_⟩) ?_
            rotate_left
            · intro X hX
              clear hX
              go_simp
              with_reducible rfl
            try simp only [Act.put, List.setIfInBounds_toArray, List.set_cons_zero, List.set_cons_succ])
          refine wpI_lone rfl (by kernel_rfl) (fun K hK => ?_)
          have d0 := hxa.cell 0
          have d1 := hxa.cell 1
          have d2 := hxa.cell 2
          have d3 := hxa.cell 3
          have d4 := hxa.cell 4
          have hfz := fun i => hxa.frozen i
          go_simp
          have hxs := hxa.set5 (.int .i64 (n0 : Int)) (.int .u32 (n1 : Int)) (.int .u32 (n2 : Int)) (.int .u32 (n3 : Int)) (.int .u32 (n4 : Int))
          have hbs := below_set5 hba hgl (.int .i64 (n0 : Int)) (.int .u32 (n1 : Int)) (.int .u32 (n2 : Int)) (.int .u32 (n3 : Int)) (.int .u32 (n4 : Int))
          obtain ⟨ws, hws⟩ : ∃ ws, set5 wa ga (.int .i64 (n0 : Int)) (.int .u32 (n1 : Int)) (.int .u32 (n2 : Int)) (.int .u32 (n3 : Int)) (.int .u32 (n4 : Int)) = ws := ⟨_, rfl⟩
          rw [hws] at hxs hbs
          simp only [set5] at hws
          rw [hws]
          refine hK _ _ hbs ?_
          clear hK K d0 d1 d2 d3 d4 hfz hws
          try simp only [Act.put, List.setIfInBounds_toArray, List.set_cons_zero, List.set_cons_succ]
          refine wpI_done (by kernel_rfl) ?_
          go_wp2_with fail
          go_meet
          exact ⟨ga, rfl, by have := HZd.out; omega, hxs, HBd.out.trans (hbs.mono HBd.out.size), HKd.out.below hbs HKd.out.lt⟩
      · go_simp
        have hba := (Below.refl wd.heap.size wd).alloc (Nat.le_refl _) (.cells #[.int .i64 0, .int .u32 0, .int .u32 0, .int .u32 0, .int .u32 0] 32)
        have hxa := Blk.new wd 32 #[.int .i64 0, .int .u32 0, .int .u32 0, .int .u32 0, .int .u32 0]
        obtain ⟨wa, hwa⟩ : ∃ wa, wd.alloc (.cells #[.int .i64 0, .int .u32 0, .int .u32 0, .int .u32 0, .int .u32 0] 32) = wa := ⟨_, rfl⟩
        obtain ⟨ga, hga⟩ : ∃ ga, wd.heap.size = ga := ⟨_, rfl⟩
        have hgl : wd.heap.size ≤ ga := by omega
        rw [hwa] at hba hxa ⊢
        rw [hga] at hxa ⊢
        refine hK _ _ hba ?_
        clear hK K hwa
        try simp only [Act.put, List.setIfInBounds_toArray, List.set_cons_zero, List.set_cons_succ]
        refine wpI_lone rfl (by kernel_rfl) (fun K hK => ?_)
        go_simp
        refine (HC0.out wa hba).mono ?_
        rintro ev wx ⟨rfl, rfl⟩
        refine hK _ _ hba ?_
        clear hK K
        try simp only [Act.put, List.setIfInBounds_toArray, List.set_cons_zero, List.set_cons_succ]
        refine wpI_lone rfl (by kernel_rfl) (fun K hK => ?_)
        go_simp
        refine (HC1.out wa hba).mono ?_
        rintro ev wx ⟨rfl, rfl⟩
        refine hK _ _ hba ?_
        clear hK K
        try simp only [Act.put, List.setIfInBounds_toArray, List.set_cons_zero, List.set_cons_succ]
        refine wpI_lone rfl (by kernel_rfl) (fun K hK => ?_)
        go_simp
        refine (HC2.out wa hba).mono ?_
        rintro ev wx ⟨rfl, rfl⟩
        refine hK _ _ hba ?_
        clear hK K
        try simp only [Act.put, List.setIfInBounds_toArray, List.set_cons_zero, List.set_cons_succ]
        refine wpI_lone rfl (by kernel_rfl) (fun K hK => ?_)
        go_simp
        refine (HC3.out wa hba).mono ?_
        rintro ev wx ⟨rfl, rfl⟩
        refine hK _ _ hba ?_
        clear hK K
        try simp only [Act.put, List.setIfInBounds_toArray, List.set_cons_zero, List.set_cons_succ]
        iterate 1 (
          refine wpI_read (v := ?_) hba rfl (by kernel_rfl) (by kernel_rfl) (by kernel_rfl) (fun _ _ _ h => h) (.inl ⟨by rfl, ?_⟩) ?_
          rotate_left
          · intro X hX
            clear hX
            go_simp
            with_reducible rfl
          try simp only [Act.put, List.setIfInBounds_toArray, List.set_cons_zero, List.set_cons_succ])
        refine wpI_lone rfl (by kernel_rfl) (fun K hK => ?_)
        have d0 := hxa.cell 0
        have d1 := hxa.cell 1
        have d2 := hxa.cell 2
        have d3 := hxa.cell 3
        have d4 := hxa.cell 4
        have hfz := fun i => hxa.frozen i
        go_simp
        have hxs := hxa.set5 (.int .i64 (n0 : Int)) (.int .u32 (n1 : Int)) (.int .u32 (n2 : Int)) (.int .u32 (n3 : Int)) (.int .u32 (n4 : Int))
        have hbs := below_set5 hba hgl (.int .i64 (n0 : Int)) (.int .u32 (n1 : Int)) (.int .u32 (n2 : Int)) (.int .u32 (n3 : Int)) (.int .u32 (n4 : Int))
        obtain ⟨ws, hws⟩ : ∃ ws, set5 wa ga (.int .i64 (n0 : Int)) (.int .u32 (n1 : Int)) (.int .u32 (n2 : Int)) (.int .u32 (n3 : Int)) (.int .u32 (n4 : Int)) = ws := ⟨_, rfl⟩
        rw [hws] at hxs hbs
        simp only [set5] at hws
        rw [hws]
        refine hK _ _ hbs ?_
        clear hK K d0 d1 d2 d3 d4 hfz hws
        try simp only [Act.put, List.setIfInBounds_toArray, List.set_cons_zero, List.set_cons_succ]
        refine wpI_done (by kernel_rfl) ?_
        go_wp2_with fail
        go_meet
        exact ⟨ga, rfl, by have := HZd.out; omega, hxs, HBd.out.trans (hbs.mono HBd.out.size), HKd.out.below hbs HKd.out.lt⟩
    case rest =>
      obtain ⟨ga, rfl, hgl, hxp, hbx, hkx⟩ := hcut
      obtain ⟨c0, c1, c2, c3, c4⟩ := hxp.five
      have HBx := Lib.hid hbx
      have HKx := Lib.hid hkx
      have HPx := Lib.hid hxp
      clear hbx hkx hxp sl0 sl1 sl2 sl3 HC0 HC1 HC2 HC3
      have hP := HP.out
      by_cases h : MayP P
      · have hm2 := HM.out wc
        rw [hP, decide_eq_true h] at hm2
        have hR := HR.out
        rw [hP, if_pos h] at hR
        subst hR
        subst hP
        have HM2 := Lib.hid hm2
        clear hm2 h
        go_wp2_with (go_at_call 58
                     refine HM2.out.mono ?_
                     rintro ev w2 ⟨rfl, b2⟩
                     have HB4 := Lib.hid (HBx.out.trans (b2.mono HBx.out.size))
                     have HK4 := Lib.hid (HKx.out.below b2 HKx.out.lt)
                     obtain ⟨c0', c1', c2', c3', c4'⟩ := (HPx.out.below b2 HPx.out.lt).five
                     have d0 : w2.cell? ⟨w.heap.size, 0, none⟩ = some (.int .i64 0) := HK4.out.cell 0
                     have d1 : w2.cell? ⟨w.heap.size, 1, none⟩ = some (.int .u32 0) := HK4.out.cell 1
                     have d2 : w2.cell? ⟨w.heap.size, 2, none⟩ = some (.int .u32 0) := HK4.out.cell 2
                     have d3 : w2.cell? ⟨w.heap.size, 3, none⟩ = some (.int .u32 0) := HK4.out.cell 3
                     have d4 : w2.cell? ⟨w.heap.size, 4, none⟩ = some (.int .u32 0) := HK4.out.cell 4
                     have fr : ∀ i, w2.frozen? ⟨w.heap.size, i, none⟩ = false := fun i => HK4.out.frozen i
                     clear b2)
        obtain ⟨wf, hwf⟩ : ∃ wf, set5 w2 w.heap.size (.int .i64 (n0 : Int)) (.int .u32 (n1 : Int)) (.int .u32 (n2 : Int)) (.int .u32 (n3 : Int)) (.int .u32 (n4 : Int)) = wf := ⟨_, rfl⟩
        have HXF := Lib.hid (HK4.out.set5 (.int .i64 (n0 : Int)) (.int .u32 (n1 : Int)) (.int .u32 (n2 : Int)) (.int .u32 (n3 : Int)) (.int .u32 (n4 : Int)))
        have HBF := Lib.hid (below_set5 HB4.out (Nat.le_refl w.heap.size) (.int .i64 (n0 : Int)) (.int .u32 (n1 : Int)) (.int .u32 (n2 : Int)) (.int .u32 (n3 : Int)) (.int .u32 (n4 : Int)))
        rw [hwf] at HXF HBF
        simp only [set5] at hwf
        rw [hwf]
        clear hwf d0 d1 d2 d3 d4 fr
        have e0 := HXF.out.cell 0
        have e1 := HXF.out.cell 1
        have e2 := HXF.out.cell 2
        have e3 := HXF.out.cell 3
        have e4 := HXF.out.cell 4
        exact bodyPost_ret (v := .tuple #[ptV ((n0 : Int), n1, n2, n3, n4), .int .i64 0]) (by simp [results, Tryz.f89, go_sem, e0, e1, e2, e3, e4]) rfl ⟨rfl, HBF.out⟩
      · have hm2 := HM.out wc
        rw [hP, decide_eq_false h] at hm2
        have hR := HR.out
        rw [hP, if_neg h] at hR
        subst hR
        have HM2 := Lib.hid hm2
        rw [← hP] at HM2
        clear hm2 h
        go_wp2_with (go_at_call 58
                     refine HM2.out.mono ?_
                     rintro ev w2 ⟨rfl, b2⟩
                     have HB4 := Lib.hid (HBx.out.trans (b2.mono HBx.out.size))
                     have HK4 := Lib.hid (HKx.out.below b2 HKx.out.lt)
                     have d0 : w2.cell? ⟨w.heap.size, 0, none⟩ = some (.int .i64 0) := HK4.out.cell 0
                     have d1 : w2.cell? ⟨w.heap.size, 1, none⟩ = some (.int .u32 0) := HK4.out.cell 1
                     have d2 : w2.cell? ⟨w.heap.size, 2, none⟩ = some (.int .u32 0) := HK4.out.cell 2
                     have d3 : w2.cell? ⟨w.heap.size, 3, none⟩ = some (.int .u32 0) := HK4.out.cell 3
                     have d4 : w2.cell? ⟨w.heap.size, 4, none⟩ = some (.int .u32 0) := HK4.out.cell 4
                     have fr : ∀ i, w2.frozen? ⟨w.heap.size, i, none⟩ = false := fun i => HK4.out.frozen i
                     clear b2)
        obtain ⟨wf, hwf⟩ : ∃ wf, set5 w2 w.heap.size (.int .i64 0) (.int .u32 0) (.int .u32 0) (.int .u32 0) (.int .u32 0) = wf := ⟨_, rfl⟩
        have HXF := Lib.hid (HK4.out.set5 (.int .i64 0) (.int .u32 0) (.int .u32 0) (.int .u32 0) (.int .u32 0))
        have HBF := Lib.hid (below_set5 HB4.out (Nat.le_refl w.heap.size) (.int .i64 0) (.int .u32 0) (.int .u32 0) (.int .u32 0) (.int .u32 0))
        rw [hwf] at HXF HBF
        simp only [set5] at hwf
        rw [hwf]
        clear hwf d0 d1 d2 d3 d4 fr
        have e0 := HXF.out.cell 0
        have e1 := HXF.out.cell 1
        have e2 := HXF.out.cell 2
        have e3 := HXF.out.cell 3
        have e4 := HXF.out.cell 4
        exact bodyPost_ret (v := .tuple #[ptV p0, .int .i64 8]) (by simp [results, Tryz.f89, go_sem, e0, e1, e2, e3, e4]) rfl ⟨rfl, HBF.out⟩
  · rw [if_neg h16]
    have hne : ¬ (len : Int) = 16 := by omega
    have d0 : (w.alloc (.cells #[.int .i64 0, .int .u32 0, .int .u32 0, .int .u32 0, .int .u32 0] 32)).cell? ⟨w.heap.size, 0, none⟩ = some (.int .i64 0) := HK.out.cell 0
    have d1 : (w.alloc (.cells #[.int .i64 0, .int .u32 0, .int .u32 0, .int .u32 0, .int .u32 0] 32)).cell? ⟨w.heap.size, 1, none⟩ = some (.int .u32 0) := HK.out.cell 1
    have d2 : (w.alloc (.cells #[.int .i64 0, .int .u32 0, .int .u32 0, .int .u32 0, .int .u32 0] 32)).cell? ⟨w.heap.size, 2, none⟩ = some (.int .u32 0) := HK.out.cell 2
    have d3 : (w.alloc (.cells #[.int .i64 0, .int .u32 0, .int .u32 0, .int .u32 0, .int .u32 0] 32)).cell? ⟨w.heap.size, 3, none⟩ = some (.int .u32 0) := HK.out.cell 3
    have d4 : (w.alloc (.cells #[.int .i64 0, .int .u32 0, .int .u32 0, .int .u32 0, .int .u32 0] 32)).cell? ⟨w.heap.size, 4, none⟩ = some (.int .u32 0) := HK.out.cell 4
    have fr : ∀ i, (w.alloc (.cells #[.int .i64 0, .int .u32 0, .int .u32 0, .int .u32 0, .int .u32 0] 32)).frozen? ⟨w.heap.size, i, none⟩ = false := fun i => HK.out.frozen i
    go_enter Tryz.func89, Tryz.ntmps89
    go_wp2_with fail
    exact bodyPost_ret (v := .tuple #[ptV p0, .int .i64 3]) (by simp [results, Tryz.f89, go_sem, d0, d1, d2, d3, d4]) rfl ⟨rfl, HB1.out⟩
end Go.Proofs.YtbggkfomfeeikaaGreatDoor
/-
  slices.Chunk of a slice of bytes by sixteens, of a length that sixteens make up, hands the loop its windows in their order.
-/
namespace Go.Proofs.YtbggkfomfeeikaaGreatDoor
open Go.RowKit Go.Shelf
set_option maxRecDepth 100000
attribute [local go_sem] Oper.semAt_some

/-- What the walk goes on reading: the box of the slice, and that of the size. -/
def ReachD (Bs Bn : Nat) (A : Option Addr) (q cap : Nat) (W : World) : Prop :=
  W.cell? ⟨Bs, 0, none⟩ = some (.slice A (16 * q) cap) ∧ W.cell? ⟨Bn, 0, none⟩ = some (.int .i64 16)

theorem chunk16_in (F : Fence) (n : Nat) (h : F.fn 81) (hro : F.round = none) (a : Option Addr) (len cap : Nat) (w : World) :
    CallsIn F n Tryz.prog 81 #[.slice a len cap, .int .i64 16] w fun e w' => e = .returned (.func (.func 113) #[] #[.pointer (some ⟨w.heap.size, 0, none⟩), .pointer (some ⟨w.heap.size + 1, 0, none⟩)]) ∧
      w' = (w.alloc (.cells #[.slice a len cap] 27)).alloc (.cells #[.int .i64 16] 3) := by
  refine callsIn_of_wp Tryz.func81 rfl h ?_ hro
  simp only [Tryz.ntmps81, List.size_toArray, List.length_cons, List.length_nil, Nat.reduceAdd, Nat.reduceSub, Array.replicate_succ, Array.replicate_zero, List.push_toArray, List.append_toArray, List.nil_append, List.cons_append]
  gi_wp2
  go_ret
  exact ⟨rfl, rfl⟩

/-- The window of number x. -/
@[reducible] def win16 (b off : Nat) (x : Nat) : Array Value := #[.slice (some ⟨b, off + 16 * x, none⟩) 16 16]

set_option maxHeartbeats 2000000 in
theorem chunk16b_in (n : Nat) (hn : 1 ≤ n) (l Bs Bn b off q cap : Nat) (A : Option Addr) (hA : 0 < q → A = some ⟨b, off, none⟩) (hqc : 16 * q ≤ cap) (hcm : cap ≤ 9223372036854775807) (J Jx : List (Fin q) → World → Prop)
    (hY : ∀ pre x W, J pre W → pre.length < q → YieldAt Fence.wide (n - 1) Tryz.prog l (win16 b off x.val) W fun e W' =>
      (e = .returned (.bool true) ∧ J (pre ++ [x]) W' ∧ (ReachD Bs Bn A q cap W → ReachD Bs Bn A q cap W')) ∨ (e = .returned (.bool false) ∧ Jx (pre ++ [x]) W'))
    (hJd : ∀ pre W, J pre W → J pre W.drew)
    (W : World) (hR : ReachD Bs Bn A q cap W) (h0 : J [] W) :
    CallsIn Fence.wide n Tryz.prog 113 #[.func (.yield l) #[] #[], .pointer (some ⟨Bs, 0, none⟩), .pointer (some ⟨Bn, 0, none⟩)] W fun e W' => (∃ v, e = .returned v) ∧
      ((∃ ys, ys.map (·.val) = List.range q ∧ J ys W') ∨ (∃ pre, pre.map (·.val) = List.range pre.length ∧ Jx pre W')) := by
  refine callsIn_of_wp Tryz.func113 rfl trivial ?_ rfl
  simp only [Tryz.ntmps113, List.size_toArray, List.length_cons, List.length_nil, Nat.reduceAdd, Nat.reduceSub, Array.replicate_succ, Array.replicate_zero, List.push_toArray, List.append_toArray, List.nil_append, List.cons_append]
  have hmx : Tryz.prog.follows Departure.mixedOrders = true := by kernel_rfl
  have HR := Lib.hid hR
  clear hR
  gi_wp2
  gi_loopw [4] (fun i wr => ∃ pre : List (Fin q), pre.map (·.val) = List.range pre.length ∧ pre.length ≤ q ∧ i = .int .i64 ((16 * pre.length : Nat) : Int) ∧ J pre wr ∧ ReachD Bs Bn A q cap wr)
    (fun i _ => 16 * q - (intOf i).toNat)
  case atStart => exact ⟨[], rfl, Nat.zero_le _, rfl, h0, HR.out⟩
  case round =>
    obtain ⟨pre, hC, hle, rfl, hJs, hRs⟩ := hrel
    obtain ⟨k, hk⟩ : ∃ k, pre.length = k := ⟨_, rfl⟩
    have hb1 := hRs.1
    have hb2 := hRs.2
    obtain ⟨m, hm⟩ : ∃ m : Nat, 16 * k = m := ⟨_, rfl⟩
    obtain ⟨L, hL⟩ : ∃ L : Nat, 16 * q = L := ⟨_, rfl⟩
    rw [hL] at hb1
    rw [hk, hm]
    by_cases hlt : k < q
    · rw [hA (by omega)] at hb1
      have hmL : m < L := by omega
      have hm8 : m + 16 ≤ L := by omega
      have hLc : L ≤ cap := by omega
      have HRs := Lib.hid hRs; clear hRs
      have HM := Lib.hid hm; clear hm
      have HL := Lib.hid hL; clear hL
      have HK := Lib.hid hk; clear hk
      have h8 : ((m : Int) < (L : Int)) := by omega
      have h80 : (0 : Int) ≤ (m : Int) := by omega
      have h8m : (L : Int) ≤ 9223372036854775807 := by omega
      have hsl := fun W => slice_from_l W b off L cap m hmL hLc
      have hmin : min (16 : Int) ((L - m : Nat) : Int) = 16 := by omega
      gi_wp2
      refine region_wide_tail 6 hmx (by kernel_rfl) (fun h => by obtain ⟨_, _, ⟨v, hv⟩, _⟩ := h; cases hv) (by kernel_rfl) ?_
      simp only [List.take_succ_cons, List.take_zero, List.drop_succ_cons, List.drop_zero]
      repeat still_step
      refine wpStill_nil ?_
      obtain ⟨fn, tmps, assign, body, hy, hR⟩ := hY pre ⟨k, hlt⟩ wr.drew (hJd _ _ hJs) (by rw [HK.out]; exact hlt)
      have hw : win16 b off k = #[.slice (some ⟨b, off + m, none⟩) 16 16] := by rw [win16, HM.out]
      dsimp only at hy
      rw [hw] at hy
      clear hw
      have HC := Lib.hid hC; clear hC
      go_wp2
      gi_wp2
      refine hR.mono ?_
      rintro e W3 (⟨rfl, hJ3, hk3⟩ | ⟨rfl, hJx3⟩)
      · have hr3 := hk3 HRs.out
        have hb3 := hr3.2
        have HR3 := Lib.hid hr3; clear hr3 hk3
        gi_wp2
        go_roundw
        case rel => exact ⟨pre ++ [⟨k, hlt⟩], by simp [HC.out, List.range_succ, HK.out], by simp; rw [HK.out]; omega, by simp [HK.out]; have := HM.out; omega, hJ3, HR3.out⟩
        case measure => simp [intOf]; have := HM.out; have := HL.out; omega
      · gi_wp2
        refine bodyPost_ret (results_none rfl _ _ _) rfl ?_
        exact ⟨⟨_, rfl⟩, .inr ⟨_, by simp [HC.out, List.range_succ, HK.out], hJx3⟩⟩
    · have hkq : k = q := by omega
      have hmL : m = L := by omega
      rw [hmL]
      have HRs := Lib.hid hRs; clear hRs
      have HM := Lib.hid hm; clear hm
      have HL := Lib.hid hL; clear hL
      have HK := Lib.hid hk; clear hk
      have HKQ := Lib.hid hkq; clear hkq
      have HC := Lib.hid hC; clear hC
      clear hmL
      gi_wp2
      go_end0
      exact ⟨⟨_, rfl⟩, .inl ⟨pre, by rw [HC.out, HK.out, HKQ.out], hJs⟩⟩

theorem reachD_putObj {Bs Bn : Nat} {A : Option Addr} {q cap : Nat} {W : World} (l : Nat) (o o' : Obj) (h : W.heap[l]? = some o) (ho : o.isCells = false) (hR : ReachD Bs Bn A q cap W) : ReachD Bs Bn A q cap (W.putObj l o') := by
  have hk : ∀ r, some l = some r → ∃ o : Obj, W.heap[r]? = some o ∧ o.isCells = false := fun r e => by cases e; exact ⟨_, h, ho⟩
  exact ⟨cell_kept hR.1 (grownBy_putObj' W l o') hk, cell_kept hR.2 (grownBy_putObj' W l o') hk⟩

theorem stopsD (n : Nat) (hn : 1 ≤ n) (Bs Bn b off q cap : Nat) (A : Option Addr) (hA : 0 < q → A = some ⟨b, off, none⟩) (hqc : 16 * q ≤ cap) (hcm : cap ≤ 9223372036854775807) (w : World) (hBs : Bs < w.heap.size) (hBn : Bn < w.heap.size) (hR : ReachD Bs Bn A q cap w) :
    SeqStopsK Fence.wide n Tryz.prog 113 #[.pointer (some ⟨Bs, 0, none⟩), .pointer (some ⟨Bn, 0, none⟩)] (fun x : Fin q => win16 b off x.val) (fun W W' => ReachD Bs Bn A q cap W → ReachD Bs Bn A q cap W')
      (fun ys => ys.map (·.val) = List.range q) (fun pre => pre.map (·.val) = List.range pre.length) q w := fun l J Jx W hW hJ _ hY h0 =>
  chunk16b_in n hn l Bs Bn b off q cap A hA hqc hcm J Jx hY (fun s W1 h => hJ s W1 W1.drew none h (only_drew (World.grownBy.refl W1 none)) (fun r e => by cases e)) W
    ⟨(hW.cell (p := ⟨Bs, 0, none⟩) hBs).trans hR.1, (hW.cell (p := ⟨Bn, 0, none⟩) hBn).trans hR.2⟩ h0
end Go.Proofs.YtbggkfomfeeikaaGreatDoor
/-
  ptr.Rows, whatever bytes it is handed; nothing that was there is written.
-/
namespace Go.Proofs.YtbggkfomfeeikaaGreatDoor
open Go.RowKit Go.Shelf
set_option maxRecDepth 100000
attribute [local go_sem] Oper.semAt_some

/-- The window of number i. -/
def winP (s : List UInt8) (i : Nat) : List UInt8 := (s.drop (16 * i)).take 16
/-- The pointers of a row. -/
def rowsL (s : List UInt8) : List Pt := (List.range 16).map fun i => getP (winP s i)
/-- What Rows answers. -/
def rowsO (s : List UInt8) : List Pt × Int := if s.length = 256 then (if ∀ p ∈ rowsL s, MayP p then (rowsL s, 0) else ([], 8)) else ([], 3)
/-- A list of pointers of the call's own, and an error's number. -/
def OutL (L : List Pt) (c : Int) (w : World) (e : Ending) (w' : World) : Prop := ∃ v, e = .returned (.tuple #[v, .int .i64 c]) ∧ PRow w' w.heap.size v L ∧ Below w.heap.size w w'

/-- What the loop keeps. -/
def RwI (s : List UInt8) (g q : Nat) (pre : List (Fin q)) (W : World) : Prop :=
  Blk W g 35 #[.slice none 0 0] ∧ Blk W (g + 1) 36 #[.int .i64 0] ∧ Blk W (g + 3) 35 #[.slice (some ⟨g + 2, 0, none⟩) pre.length 16] ∧
    W.ownsRow g 32 5 (.slice (some ⟨g + 2, 0, none⟩) pre.length 16) pre.length (ptCs (pre.map fun x => getP (winP s x.val))) ∧ ∀ x ∈ pre, MayP (getP (winP s x.val))
/-- What stands where it was left. -/
def RwX (s : List UInt8) (g : Nat) (W : World) : Prop := Blk W g 35 #[.slice none 0 0] ∧ Blk W (g + 1) 36 #[.int .i64 8] ∧ ∃ i, i < 16 ∧ ¬ MayP (getP (winP s i))
theorem own_kept5 {w w' : World} {B g n cap : Nat} {e : TypeId} {size : Nat} {xs : List Value} {row : Option Nat} (h : w.ownsRow B e size (.slice (some ⟨g, 0, none⟩) n cap) n xs) (hg : w.grownBy w' row) (hk : ∀ r, row = some r → ∃ o : Obj, w.heap[r]? = some o ∧ o.isCells = false) : w'.ownsRow B e size (.slice (some ⟨g, 0, none⟩) n cap) n xs := by
  refine h.kept hg (.inr fun er => ?_)
  obtain ⟨o, ho, hc⟩ := hk g (by simpa [Value.ownBlock] using er.symm)
  obtain ⟨h1, ⟨h2, h3⟩ | ⟨g', cap', cur, h2, hb, hh, _⟩⟩ := h
  · cases h2
  · cases h2
    rw [hh] at ho; cases ho; cases hc
theorem own5_blk {w : World} {B g n cap : Nat} {e : TypeId} {size : Nat} {xs : List Value} (h : w.ownsRow B e size (.slice (some ⟨g, 0, none⟩) n cap) n xs) : ∃ cs, Blk w g e cs := by
  obtain ⟨h1, ⟨h2, h3⟩ | ⟨g', cap', cur, h2, hb, hh, _⟩⟩ := h
  · cases h2
  · cases h2
    exact ⟨_, hh⟩
theorem rwI_own (s : List UInt8) (g q : Nat) : Own (RwI s g q) := fun pre A B row hs hg hr => by
  obtain ⟨h1, h2, h3, h4, h5⟩ := hs
  exact ⟨blk_kept h1 hg hr, blk_kept h2 hg hr, blk_kept h3 hg hr, own_kept5 h4 hg hr, h5⟩
theorem rwX_own {β : Type} (s : List UInt8) (g : Nat) : Own (fun (_ : β) W => RwX s g W) := fun pre A B row hs hg hr => by
  obtain ⟨h1, h2, h3⟩ := hs
  exact ⟨blk_kept h1 hg hr, blk_kept h2 hg hr, h3⟩
theorem kept_below {W W' : World} (h : Below W.heap.size W W') : KeepsOthers W W' := ⟨h.size, fun k _ hk _ => (h.block k (Array.getElem?_eq_some_iff.1 hk).1).trans hk⟩
theorem atAppendIn {F : Fence} {n : Nat} {P : Program} {ops : Array Oper} {Q : Exit → Act → World → Prop} {a : Act} {w : World} {rest : List Oper} {d : Option Tmp} {ty : TypeId} {x : Array Operand} {y : Array TypeId} {pos : String} {af : Array Edge} (h : wpListIn F n P ops Q (⟨d, .call { callee := .builtin .append, args := x, argTypes := y }, ty, pos, af, none⟩ :: rest) a w) : wpListIn F n P ops Q (⟨d, .call { callee := .builtin .append, args := x, argTypes := y }, ty, pos, af, none⟩ :: rest) a w := h
theorem below_putO {B l : Nat} (W : World) (o : Obj) (h : B ≤ l) : Below B W (W.putObj l o) := ⟨rfl, rfl, rfl, by simp, fun k hk => World.putObj_heap_other (by omega)⟩
theorem infoPt : (Tryz.prog.info? 32).map (fun i => (i.zero, i.size, i.bytes)) = some (some (.agg #[.int .i64 0, .int .u32 0, .int .u32 0, .int .u32 0, .int .u32 0]), 5, 24) := by kernel_rfl
theorem make_pts : ∃ cs : Array Value, cs.size = 80 ∧ ∀ W : World, (Instr.makeSlice 35 (.int .i64 0) (.int .i64 16)).run Tryz.prog W = .ok (.slice (some ⟨W.heap.size, 0, none⟩) 0 16) (W.alloc (.cells cs 32)) := by
  obtain ⟨i0, hi, hz0, hz1, hz2⟩ := info_parts infoPt
  refine ⟨madeCells (Value.agg #[.int .i64 0, .int .u32 0, .int .u32 0, .int .u32 0, .int .u32 0]).cells (16 * i0.size), by rw [size_madeCells, hz1], fun W => ?_⟩
  have hr := run_make (P := Tryz.prog) W 35 32 i0 (.agg #[.int .i64 0, .int .u32 0, .int .u32 0, .int .u32 0, .int .u32 0]) Tryz.underlying35 hi hz0 .i64 .i64 0 16 (Int.le_refl _) (by omega) (by rw [hz2]; omega) (by omega)
  simpa using hr
set_option maxHeartbeats 4000000 in
theorem rows_in (m : Nat) (hm : 3 ≤ m) (a : Option Addr) (cap : Nat) (s : List UInt8) (w : World) (hB : Bsl w w.heap.size a 256 cap s) (hz : Szs w) :
    CallsIn Fence.wide m Tryz.prog 55 #[.slice a 256 cap] w (OutL (rowsO s).1 (rowsO s).2 w) := by
  have hro : Fence.wide.round = none := rfl
  have hmx : Tryz.prog.follows Departure.mixedOrders = true := by kernel_rfl
  obtain ⟨cs, hcs, hmk⟩ := make_pts
  have hs := hB.1
  obtain ⟨b, off, ea, hblt, hcell⟩ := hB.2.2.2.2 (by omega)
  subst ea
  have hcap := hB.2.1
  have hcm := hB.2.2.1
  obtain ⟨R, hR⟩ : ∃ R, rowsO s = R := ⟨_, rfl⟩
  rw [hR]
  have HRR := Lib.hid hR; clear hR
  have HCS := Lib.hid hcs; clear hcs
  have HB := Lib.hid hB; clear hB
  have HZ := Lib.hid hz; clear hz
  have HS := Lib.hid hs; clear hs
  have HCE := Lib.hid hcell; clear hcell
  refine callsIn_of_wp_marks Tryz.func55 rfl trivial ?_ hro
  simp only [Tryz.ntmps55, List.size_toArray, List.length_cons, List.length_nil, Nat.reduceAdd, Nat.reduceSub, Array.replicate_succ, Array.replicate_zero, List.push_toArray, List.append_toArray, List.nil_append, List.cons_append]
  have hd : 1 ≤ m := by omega
  gi_wp2_with (refine ⟨trivial, ?_⟩; (gi_at_call 81; refine (chunk16_in Fence.wide (m - 1) trivial hro _ _ _ _).mono ?_; rintro e w' ⟨rfl, rfl⟩))
  obtain ⟨g, hg⟩ : ∃ g, w.heap.size = g := ⟨_, rfl⟩
  obtain ⟨W0, hW0⟩ : ∃ W0, ((((((w.alloc (Obj.cells #[Value.slice none 0 0] 35)).alloc (Obj.cells #[Value.int IntKind.i64 0] 36)).alloc (Obj.cells cs 32)).alloc (Obj.cells #[Value.slice (some { block := w.heap.size + 1 + 1, off := 0 }) 0 16] 35)).alloc (Obj.cells #[Value.slice (some { block := b, off := off }) 256 cap] 27)).alloc (Obj.cells #[Value.int IntKind.i64 16] 3)) = W0 := ⟨_, rfl⟩
  have hsz : W0.heap.size = g + 6 := by rw [← hW0]; simp [hg]
  have hB0 : Below g w W0 := by rw [← hW0, ← hg]; exact ((((((Below.refl _ w).alloc (Nat.le_refl _) _).alloc (by simp) _).alloc (by simp; omega) _).alloc (by simp; omega) _).alloc (by simp; omega) _).alloc (by simp; omega) _
  have b0 : Blk W0 (g) 35 #[.slice none 0 0] := by
    have := (((((Blk.new w 35 #[.slice none 0 0]).alloc (Obj.cells #[Value.int IntKind.i64 0] 36)).alloc (Obj.cells cs 32)).alloc (Obj.cells #[Value.slice (some { block := w.heap.size + 1 + 1, off := 0 }) 0 16] 35)).alloc (Obj.cells #[Value.slice (some { block := b, off := off }) 256 cap] 27)).alloc (Obj.cells #[Value.int IntKind.i64 16] 3)
    rw [hW0, hg] at this
    exact this
  have b1 : Blk W0 (g + 1) 36 #[.int .i64 0] := by
    have := ((((Blk.new (w.alloc (Obj.cells #[Value.slice none 0 0] 35)) 36 #[.int .i64 0]).alloc (Obj.cells cs 32)).alloc (Obj.cells #[Value.slice (some { block := w.heap.size + 1 + 1, off := 0 }) 0 16] 35)).alloc (Obj.cells #[Value.slice (some { block := b, off := off }) 256 cap] 27)).alloc (Obj.cells #[Value.int IntKind.i64 16] 3)
    rw [World.size_alloc, hW0, hg] at this
    exact this
  have b2 : Blk W0 (g + 2) 32 cs := by
    have := (((Blk.new ((w.alloc (Obj.cells #[Value.slice none 0 0] 35)).alloc (Obj.cells #[Value.int IntKind.i64 0] 36)) 32 cs).alloc (Obj.cells #[Value.slice (some { block := w.heap.size + 1 + 1, off := 0 }) 0 16] 35)).alloc (Obj.cells #[Value.slice (some { block := b, off := off }) 256 cap] 27)).alloc (Obj.cells #[Value.int IntKind.i64 16] 3)
    rw [World.size_alloc, World.size_alloc, hW0, hg] at this
    exact this
  have b3 : Blk W0 (g + 3) 35 #[.slice (some ⟨g + 1 + 1, 0, none⟩) 0 16] := by
    have := ((Blk.new (((w.alloc (Obj.cells #[Value.slice none 0 0] 35)).alloc (Obj.cells #[Value.int IntKind.i64 0] 36)).alloc (Obj.cells cs 32)) 35 #[.slice (some ⟨w.heap.size + 1 + 1, 0, none⟩) 0 16]).alloc (Obj.cells #[Value.slice (some { block := b, off := off }) 256 cap] 27)).alloc (Obj.cells #[Value.int IntKind.i64 16] 3)
    rw [World.size_alloc, World.size_alloc, World.size_alloc, hW0, hg] at this
    exact this
  have b4 : Blk W0 (g + 4) 27 #[.slice (some ⟨b, off, none⟩) 256 cap] := by
    have := (Blk.new ((((w.alloc (Obj.cells #[Value.slice none 0 0] 35)).alloc (Obj.cells #[Value.int IntKind.i64 0] 36)).alloc (Obj.cells cs 32)).alloc (Obj.cells #[Value.slice (some { block := w.heap.size + 1 + 1, off := 0 }) 0 16] 35)) 27 #[.slice (some ⟨b, off, none⟩) 256 cap]).alloc (Obj.cells #[Value.int IntKind.i64 16] 3)
    rw [World.size_alloc, World.size_alloc, World.size_alloc, World.size_alloc, hW0, hg] at this
    exact this
  have b5 : Blk W0 (g + 5) 3 #[.int .i64 16] := by
    have := Blk.new (((((w.alloc (Obj.cells #[Value.slice none 0 0] 35)).alloc (Obj.cells #[Value.int IntKind.i64 0] 36)).alloc (Obj.cells cs 32)).alloc (Obj.cells #[Value.slice (some { block := w.heap.size + 1 + 1, off := 0 }) 0 16] 35)).alloc (Obj.cells #[Value.slice (some { block := b, off := off }) 256 cap] 27)) 3 #[.int .i64 16]
    rw [World.size_alloc, World.size_alloc, World.size_alloc, World.size_alloc, World.size_alloc, hW0, hg] at this
    exact this
  obtain ⟨q, hq⟩ : ∃ q, q = 16 := ⟨_, rfl⟩
  have hqL : 16 * q = 256 := by omega
  have ho0 : W0.ownsRow g 32 5 (.slice (some ⟨g + 2, 0, none⟩) 0 16) 0 [] :=
    ⟨rfl, .inr ⟨g + 2, 16, cs, rfl, by omega, b2, Nat.zero_le _, by unfold maxLen; omega, by rw [HCS.out], rfl⟩⟩
  rw [hW0, hg]
  have hR : ReachD (g + 4) (g + 5) (some ⟨b, off, none⟩) q cap W0 := ⟨by rw [hqL]; exact b4.cell 0, b5.cell 0⟩
  refine wpIn_rangeFunc_ownG hro hd (gf := 113) (lb := #[.pointer (some ⟨g + 1 + 1 + 1 + 1, 0, none⟩), .pointer (some ⟨g + 1 + 1 + 1 + 1 + 1, 0, none⟩)]) rfl trivial (enters_of Tryz.func113 (by kernel_rfl) rfl)
    (stopsD (m - 1) (by omega) (g + 1 + 1 + 1 + 1) (g + 1 + 1 + 1 + 1 + 1) b off q cap (some ⟨b, off, none⟩) (fun _ => rfl) (by omega) (by unfold maxLen at hcm; omega) W0 (by omega) (by omega) hR) (fun h k r => k (h r)) (fun W l o o' _ h ho _ => reachD_putObj l o o' h ho) (Below.refl _ _) (fun _ => rfl)
    (fun pre W => RwI s g q pre W ∧ Below g w W) (fun c _ W => c = .ret ∧ RwX s g W ∧ Below g w W) ?hI ?hIx ⟨⟨b0, b1, b3, ho0, fun _ h => by cases h⟩, hB0⟩
    (fun x => { tmps := #[Value.slice (some { block := b, off := off }) 256 cap, undef, Value.pointer (some { block := g, off := 0 }), Value.pointer (some { block := g + 1, off := 0 }), Value.pointer (some { block := g + 1 + 1 + 1, off := 0 }),
          .slice (some ⟨b, off + 16 * x.val, none⟩) 16 16, undef, undef, Value.slice (some { block := b, off := off }) 256 cap, Value.int IntKind.i64 256, Value.bool false,
          Value.slice (some { block := g + 1 + 1, off := 0 }) 0 16, Value.slice (some { block := b, off := off }) 256 cap,
          Value.func (Fn.func 113) #[] #[Value.pointer (some { block := g + 1 + 1 + 1 + 1, off := 0 }), Value.pointer (some { block := g + 1 + 1 + 1 + 1 + 1, off := 0 })],
          .slice (some ⟨b, off + 16 * x.val, none⟩) 16 16, undef, undef, undef, undef, undef, undef, undef, undef, undef, undef, undef, undef, undef], defers := [] }) ?assign ?body ?done ?stop
  case hI => exact OwnFrom.and ((rwI_own s g q).from _) (ownFrom_below (by omega) (by omega))
  case hIx =>
    intro c
    exact fun pre A B row hs hg' hr => ⟨hs.1, ((rwX_own s g).from _) pre A B row hs.2.1 hg' hr, (ownFrom_below (by omega) (by omega)) pre A B row hs.2.2 hg' hr⟩
  case assign =>
    intro l x W K hK
    gi_wp2
    exact hK
  case body =>
    rintro l pre x W ⟨⟨h1, h2, h3, h4, h5⟩, hb⟩ hpl
    obtain ⟨n, hn⟩ : ∃ n, pre.length = n := ⟨_, rfl⟩
    obtain ⟨j, hj⟩ : ∃ j, x.val = j := ⟨_, rfl⟩
    have hj16 : j < 16 := by rw [← hj]; have := x.isLt; omega
    rw [hn] at h3 h4 hpl
    rw [hj]
    have hzW : g ≤ W.heap.size := by rw [← hg]; exact hb.size
    have hlen : (winP s j).length = 16 := win_length (by have := HS.out; omega)
    have hbW : Bsl W W.heap.size (some ⟨b, off + 16 * j, none⟩) 16 16 (winP s j) := by
      refine ⟨hlen, Nat.le_refl _, by unfold maxLen; omega, fun e => (by cases e), fun _ => ⟨b, off + 16 * j, rfl, by omega, fun i hi => ?_⟩⟩
      have hi' : 16 * j + i < s.length := by have := HS.out; omega
      rw [Nat.add_assoc, hb.cell (p := ⟨b, off + (16 * j + i), none⟩) (by rw [← hg]; exact hblt), HCE.out (16 * j + i) hi']
      simp [winP]
    have hread := Read_any _ 16 16 (winP s j) W hbW (HZ.out.below hb (by rw [← hg]; exact HZ.out.1))
    rw [preadO, if_pos hlen] at hread
    have hwf := wf_getP (winP s j)
    obtain ⟨P, hP⟩ : ∃ P, getP (winP s j) = P := ⟨_, rfl⟩
    rw [hP] at hread hwf
    by_cases hmay : MayP P
    · rw [if_pos hmay] at hread
      obtain ⟨a', b', c', d', e'⟩ := P
      have HRD := Lib.hid hread
      have H1 := Lib.hid h1
      have H2 := Lib.hid h2
      have H3 := Lib.hid h3
      have H4 := Lib.hid h4
      have H5 := Lib.hid h5
      have HBW := Lib.hid hb
      have HN := Lib.hid hn
      have HJ := Lib.hid hj
      have HP := Lib.hid hP
      have HMY := Lib.hid hmay
      have HWF := Lib.hid hwf
      have HG := Lib.hid hg
      clear hread h1 h2 h3 h4 h5 hb hn hj hP hmay hwf hg hbW hlen b0 b1 b2 b3 b4 b5 ho0 hR hB0 hW0
      have hd2 : 1 ≤ m - 1 - 1 := by omega
      gi_wp2
      refine ⟨trivial, ?_⟩
      refine (CallsIn.inRound l (callsIn_wide.2 HRD.out)).mono ?_
      rintro e W1 ⟨rfl, bb⟩
      have g3 := H3.out.below bb H3.out.lt
      have c3 : ∀ o : Obj, (W1.alloc o).cell? ⟨g + 1 + 1 + 1, 0, none⟩ = some (.slice (some ⟨g + 2, 0, none⟩) n 16) := fun o => (g3.alloc o).cell 0
      have HBB := Lib.hid bb
      clear bb g3
      obtain ⟨W2, hW2⟩ : ∃ W2, (W1.alloc (.cells #[.int .i64 a', .int .u32 (b' : Int), .int .u32 (c' : Int), .int .u32 (d' : Int), .int .u32 (e' : Int)] 32)).alloc (.cells #[.int .i64 a', .int .u32 (b' : Int), .int .u32 (c' : Int), .int .u32 (d' : Int), .int .u32 (e' : Int)] 32) = W2 := ⟨_, rfl⟩
      have hb12 : Below W1.heap.size W1 W2 := by rw [← hW2]; exact ((Below.refl _ W1).alloc (Nat.le_refl _) _).alloc (by simp) _
      have hxn : Blk W2 (W1.heap.size + 1) 32 #[.int .i64 a', .int .u32 (b' : Int), .int .u32 (c' : Int), .int .u32 (d' : Int), .int .u32 (e' : Int)] := by
        have := Blk.new (W1.alloc (.cells #[.int .i64 a', .int .u32 (b' : Int), .int .u32 (c' : Int), .int .u32 (d' : Int), .int .u32 (e' : Int)] 32)) 32 #[.int .i64 a', .int .u32 (b' : Int), .int .u32 (c' : Int), .int .u32 (d' : Int), .int .u32 (e' : Int)]
        rw [hW2, World.size_alloc] at this
        exact this
      have hb2 : Below W.heap.size W W2 := HBB.out.trans (hb12.mono HBB.out.size)
      have ho2 := own_below (own_below H4.out HBB.out) hb12
      have x0 := H1.out.below hb2 H1.out.lt
      have x1 := H2.out.below hb2 H2.out.lt
      have x3 := H3.out.below hb2 H3.out.lt
      have hBW2 : Below g w W2 := HBW.out.trans (hb2.mono hzW)
      obtain ⟨i0, hi, hz0, hz1, hz2⟩ := info_parts infoPt
      have HW2 := Lib.hid hW2
      have HX0 := Lib.hid x0
      have HX1 := Lib.hid x1
      have HX3 := Lib.hid x3
      have HO2 := Lib.hid ho2
      have HB2 := Lib.hid hb2
      have HBW2 := Lib.hid hBW2
      have HXN := Lib.hid hxn
      clear hW2 x0 x1 x3 ho2 hb2 hBW2 hxn hb12
      gi_wp2_with (with_reducible refine atAppendIn ?_
                   rw [HW2.out]
                   refine wpListIn_append_fits W2 rfl (.tmp 23) (.tmp 25) 35 rfl g 32 i0 5 Tryz.underlying35 hi hz1 (g + 2) n 16 _ rfl HO2.out ⟨W1.heap.size + 1, 0, none⟩ 1 1 (ptC (a', b', c', d', e')) rfl rfl
                     (fun t u hu => by
                        have e1 : (⟨W1.heap.size + 1, 0, none⟩ : Addr).add t = ⟨W1.heap.size + 1, t, none⟩ := by unfold Addr.add; split <;> simp_all
                        rw [e1, HXN.out.cell t]
                        show (ptC (a', b', c', d', e')).toArray[t]? = some u
                        rw [List.getElem?_toArray]
                        exact hu)
                     (fun u hu => by
                        simp only [ptC, List.mem_cons, List.not_mem_nil, or_false] at hu
                        rcases hu with rfl | rfl | rfl | rfl | rfl <;> rfl) (by omega) ?_
                   intro W3 ho3 hg3
                   have y3 := HX3.out.grown hg3 (by simp)
                   have c4 : W3.cell? ⟨g + 1 + 1 + 1, 0, none⟩ = some (.slice (some ⟨g + 2, 0, none⟩) n 16) := y3.cell 0
                   have f4 : W3.frozen? ⟨g + 1 + 1 + 1, 0, none⟩ = false := y3.frozen 0
                   have HO3 := Lib.hid ho3
                   have HG3 := Lib.hid hg3
                   have Y3 := Lib.hid y3
                   clear ho3 hg3 y3)
      obtain ⟨W4, hW4⟩ : ∃ W4, W3.setCell ⟨g + 3, 0, none⟩ (.slice (some ⟨g + 2, 0, none⟩) (n + 1) 16) = W4 := ⟨_, rfl⟩
      have gs : W3.grownBy W4 (some (g + 3)) := by rw [← hW4]; exact only_setCell (World.grownBy.refl _ _) (.inl rfl) _
      have OX : RwI s g q (pre ++ [x]) W4 ∧ Below g w W4 := by
        have hl : (pre ++ [x]).length = n + 1 := by rw [List.length_append, HN.out]; rfl
        have el : ptCs ((pre ++ [x]).map fun x => getP (winP s x.val)) = ptCs (pre.map fun x => getP (winP s x.val)) ++ ptC (a', b', c', d', e') := by
          rw [List.map_append, ptCs_append, List.map_cons, List.map_nil, HJ.out, HP.out]
          rfl
        refine ⟨⟨(HX0.out.grown HG3.out (by simp)).grown gs (by simp), (HX1.out.grown HG3.out (by simp)).grown gs (by simp), ?_, ?_, fun y hy => ?_⟩, ?_⟩
        · rw [hl, ← hW4]; exact Y3.out.set_ 0 _
        · rw [hl, el]; exact own_other HO3.out gs (fun k e => by simp [Value.ownBlock] at e; omega)
        · rcases List.mem_append.1 hy with hy | hy
          · exact H5.out y hy
          · rw [List.mem_singleton] at hy
            subst hy
            rw [HJ.out, HP.out]
            exact HMY.out
        · exact below_only (below_only HBW2.out (by omega) HG3.out (by have := HB2.out.size; omega)) (by omega) gs (by have := HB2.out.size; have := HG3.out.size; omega)
      have hk4 : KeepsOthers W W4 := ((kept_below HB2.out).trans (keepsOthers_grown HG3.out (own5_blk HO2.out).choose_spec)).trans (by rw [← hW4]; exact KeepsOthers.setCell W3 _ _)
      have hr4 : ReachD (g + 4) (g + 5) (some ⟨b, off, none⟩) q cap W → ReachD (g + 4) (g + 5) (some ⟨b, off, none⟩) q cap W4 := fun hr => by
        have l1 : g + 4 < W.heap.size := World.block_lt_of_cell? W _ hr.1
        have l2 : g + 5 < W.heap.size := World.block_lt_of_cell? W _ hr.2
        have z2 := HB2.out.size
        have z3 := HG3.out.size
        refine ⟨?_, ?_⟩
        · rw [World.cell?_of_block (a := ⟨g + 4, 0, none⟩) (gs.block (g + 4) (by omega) (by simp)), World.cell?_of_block (a := ⟨g + 4, 0, none⟩) (HG3.out.block (g + 4) (by omega) (by simp)), HB2.out.cell l1]
          exact hr.1
        · rw [World.cell?_of_block (a := ⟨g + 5, 0, none⟩) (gs.block (g + 5) (by omega) (by simp)), World.cell?_of_block (a := ⟨g + 5, 0, none⟩) (HG3.out.block (g + 5) (by omega) (by simp)), HB2.out.cell l2]
          exact hr.2
      rw [hW4]
      exact ⟨hk4.from _, hr4, OX⟩
    · rw [if_neg hmay] at hread
      have HRD := Lib.hid hread
      have H1 := Lib.hid h1
      have H2 := Lib.hid h2
      have HBW := Lib.hid hb
      have HMY := Lib.hid (show ∃ i, i < 16 ∧ ¬ MayP (getP (winP s i)) from ⟨j, hj16, by rw [hP]; exact hmay⟩)
      have HG := Lib.hid hg
      clear hread h1 h2 h3 h4 h5 hb hn hj hP hmay hwf hg hbW hlen b0 b1 b2 b3 b4 b5 ho0 hR hB0 hW0
      have hd2 : 1 ≤ m - 1 - 1 := by omega
      gi_wp2
      refine ⟨trivial, ?_⟩
      refine (CallsIn.inRound l (callsIn_wide.2 HRD.out)).mono ?_
      rintro e W1 ⟨rfl, bb⟩
      have y0 := H1.out.below bb H1.out.lt
      have y1 := H2.out.below bb H2.out.lt
      have c0 : ∀ o : Obj, (W1.alloc o).cell? ⟨g, 0, none⟩ = some (.slice none 0 0) := fun o => (y0.alloc o).cell 0
      have c1 : ∀ o : Obj, (W1.alloc o).cell? ⟨g + 1, 0, none⟩ = some (.int .i64 0) := fun o => (y1.alloc o).cell 0
      have f0 : ∀ o : Obj, (W1.alloc o).frozen? ⟨g, 0, none⟩ = false := fun o => (y0.alloc o).frozen 0
      have f1 : ∀ o : Obj, (W1.alloc o).frozen? ⟨g + 1, 0, none⟩ = false := fun o => (y1.alloc o).frozen 0
      have Y0 := Lib.hid y0
      have Y1 := Lib.hid y1
      have HBB := Lib.hid bb
      clear y0 y1 bb
      gi_wp2_with fail
      clear c0 c1 f0 f1
      obtain ⟨W2, hW2⟩ : ∃ W2, W1.alloc (.cells #[.int .i64 0, .int .u32 0, .int .u32 0, .int .u32 0, .int .u32 0] 32) = W2 := ⟨_, rfl⟩
      have hb2 : Below W.heap.size W W2 := by rw [← hW2]; exact HBB.out.trans (((Below.refl _ W1).alloc (Nat.le_refl _) _).mono HBB.out.size)
      have x0 : Blk W2 g 35 #[.slice none 0 0] := by rw [← hW2]; exact Y0.out.alloc _
      have x1 : Blk W2 (g + 1) 36 #[.int .i64 0] := by rw [← hW2]; exact Y1.out.alloc _
      have hBW2 : Below g w W2 := HBW.out.trans (hb2.mono hzW)
      rw [hW2]
      clear hW2
      obtain ⟨W4, hW4⟩ : ∃ W4, (W2.setCell ⟨g, 0, none⟩ (.slice none 0 0)).setCell ⟨g + 1, 0, none⟩ (.int .i64 8) = W4 := ⟨_, rfl⟩
      have OX : RwX s g W4 ∧ Below g w W4 := by
        rw [← hW4]
        refine ⟨⟨?_, ?_, HMY.out⟩, (hBW2.setCell (p := ⟨g, 0, none⟩) (Nat.le_refl _) _).setCell (p := ⟨g + 1, 0, none⟩) (by show g ≤ g + 1; omega) _⟩
        · exact (x0.set_ 0 (.slice none 0 0)).far (by show g ≠ g + 1; omega) _
        · exact (x1.far (by show g + 1 ≠ g; omega) _).set_ 0 (.int .i64 8)
      have hk4 : KeepsOthers W W4 := by rw [← hW4]; exact ((kept_below hb2).trans (KeepsOthers.setCell W2 _ _)).trans (KeepsOthers.setCell _ _ _)
      rw [hW4]
      exact ⟨hk4.from _, rfl, OX⟩
  case done =>
    rintro D ys W hD hC ⟨⟨h1, h2, h3, h4, h5⟩, hb⟩ hK
    have hC' : ys.map (·.val) = List.range q := hC
    have hl : ys.length = 16 := by have := congrArg List.length hC'; simp at this; omega
    rw [hl] at h3 h4
    have hys : ys.map (fun x => getP (winP s x.val)) = rowsL s := by
      have : ys.map (fun x => getP (winP s x.val)) = (ys.map (·.val)).map fun i => getP (winP s i) := by rw [List.map_map]; rfl
      rw [this, hC', hq, rowsL]
    have hall : ∀ p ∈ rowsL s, MayP p := fun p hp => by
      rw [← hys] at hp
      obtain ⟨x, hx, rfl⟩ := List.mem_map.1 hp
      exact h5 x hx
    rw [hys] at h4
    have hRR := HRR.out
    rw [rowsO, if_pos HS.out, if_pos hall] at hRR
    subst hRR
    have hDg : g + 6 ≤ D := by omega
    have c0 : W.cell? ⟨g, 0, none⟩ = some (.slice none 0 0) := h1.cell 0
    have c1 : W.cell? ⟨g + 1, 0, none⟩ = some (.int .i64 0) := h2.cell 0
    have c3 : W.cell? ⟨g + 1 + 1 + 1, 0, none⟩ = some (.slice (some ⟨g + 2, 0, none⟩) 16 16) := h3.cell 0
    have f0 : W.frozen? ⟨g, 0, none⟩ = false := h1.frozen 0
    have f1 : W.frozen? ⟨g + 1, 0, none⟩ = false := h2.frozen 0
    obtain ⟨W7, hW7⟩ : ∃ W7, (W.setCell ⟨g, 0, none⟩ (.slice (some ⟨g + 2, 0, none⟩) 16 16)).setCell ⟨g + 1, 0, none⟩ (.int .i64 0) = W7 := ⟨_, rfl⟩
    have x0 : Blk W7 g 35 #[.slice (some ⟨g + 2, 0, none⟩) 16 16] := by rw [← hW7]; exact (h1.set_ 0 _).far (by show g ≠ g + 1; omega) _
    have x1 : Blk W7 (g + 1) 36 #[.int .i64 0] := by rw [← hW7]; exact (h2.far (by show g + 1 ≠ g; omega) _).set_ 0 (.int .i64 0)
    have gs0 : W.grownBy (W.setCell ⟨g, 0, none⟩ (.slice (some ⟨g + 2, 0, none⟩) 16 16)) (some g) := only_setCell (World.grownBy.refl _ _) (.inl rfl) _
    have gs1 : (W.setCell ⟨g, 0, none⟩ (.slice (some ⟨g + 2, 0, none⟩) 16 16)).grownBy W7 (some (g + 1)) := by rw [← hW7]; exact only_setCell (World.grownBy.refl _ _) (.inl rfl) _
    have ho7 : W7.ownsRow g 32 5 (.slice (some ⟨g + 2, 0, none⟩) 16 16) 16 (ptCs (rowsL s)) := own_other (own_other h4 gs0 (fun k e => by simp [Value.ownBlock] at e; omega)) gs1 (fun k e => by simp [Value.ownBlock] at e; omega)
    have hb7 : Below g w W7 := by rw [← hW7]; exact (hb.setCell (p := ⟨g, 0, none⟩) (Nat.le_refl _) _).setCell (p := ⟨g + 1, 0, none⟩) (by show g ≤ g + 1; omega) _
    have hk7 : W7.heap[D]? = some (.deferred (some [])) := by rw [← hW7]; exact (Below.heap_setCell _ ⟨g + 1, 0, none⟩ _ D (by show D ≠ g + 1; omega)).trans ((Below.heap_setCell W ⟨g, 0, none⟩ _ D (by show D ≠ g; omega)).trans hK)
    have HX0 := Lib.hid x0
    have HX1 := Lib.hid x1
    have HO7 := Lib.hid ho7
    have HB7 := Lib.hid hb7
    have HK7 := Lib.hid hk7
    have HG := Lib.hid hg
    clear h1 h2 h3 h4 h5 hb hK hC hC' hl hys hall x0 x1 gs0 gs1 ho7 hb7 hk7 b0 b1 b2 b3 b4 b5 ho0 hR hB0 hW0 hg
    gi_wp2_with fail
    clear hW7 c0 c1 c3 f0 f1
    refine ⟨by simp, .inl ⟨_, _, rfl, run_takeDeferred HK7.out, ?_⟩⟩
    have gd := grownBy_putObj' W7 D (.deferred none)
    have z0 := HX0.out.grown gd (fun e => by injection e; omega)
    have z1 := HX1.out.grown gd (fun e => by injection e; omega)
    have e0 := z0.cell 0
    have e1 := z1.cell 0
    refine ⟨.tuple #[.slice (some ⟨g + 2, 0, none⟩) 16 16, .int .i64 0], by simp [results, Tryz.f55, go_sem, e0, e1], _, rfl, ⟨?_, fun p hp => ?_⟩, ?_⟩
    · rw [HG.out]
      exact own_other HO7.out gd (fun k e => by simp [Value.ownBlock] at e; omega)
    · obtain ⟨i, _, rfl⟩ := List.mem_map.1 hp
      exact wf_getP _
    · rw [HG.out]
      exact HB7.out.trans (below_putO _ _ (by omega))
  case stop =>
    rintro D c pre W hD hSp ⟨rfl, ⟨h1, h2, i, hi, hno⟩, hb⟩ hK
    have hno' : ¬ ∀ p ∈ rowsL s, MayP p := fun hall => hno (hall _ (List.mem_map.2 ⟨i, List.mem_range.2 hi, rfl⟩))
    have hRR := HRR.out
    rw [rowsO, if_pos HS.out, if_neg hno'] at hRR
    subst hRR
    have hDg : g + 6 ≤ D := by omega
    have HX0 := Lib.hid h1
    have HX1 := Lib.hid h2
    have HB7 := Lib.hid hb
    have HK7 := Lib.hid hK
    have HG := Lib.hid hg
    clear h1 h2 hno hno' hb hK hSp b0 b1 b2 b3 b4 b5 ho0 hR hB0 hW0 hg
    gi_wp2_with fail
    refine ⟨by simp, .inl ⟨_, _, rfl, run_takeDeferred HK7.out, ?_⟩⟩
    have gd := grownBy_putObj' W D (.deferred none)
    have z0 := HX0.out.grown gd (fun e => by injection e; omega)
    have z1 := HX1.out.grown gd (fun e => by injection e; omega)
    have e0 := z0.cell 0
    have e1 := z1.cell 0
    refine ⟨.tuple #[.slice none 0 0, .int .i64 8], by simp [results, Tryz.f55, go_sem, e0, e1], _, rfl, prow_nil _ _, ?_⟩
    rw [HG.out]
    exact HB7.out.trans (below_putO _ _ (by omega))
theorem Rows_any (a : Option Addr) (len cap : Nat) (s : List UInt8) (w : World) (hB : Bsl w w.heap.size a len cap s) (hz : Szs w) : Calls Tryz.prog 55 #[.slice a len cap] w (OutL (rowsO s).1 (rowsO s).2 w) := by
  by_cases h : s.length = 256
  · obtain rfl : len = 256 := by rw [← hB.1]; exact h
    exact callsIn_wide.1 (rows_in 3 (Nat.le_refl _) a cap s w hB hz)
  · rw [rowsO, if_neg h]
    have hl := hB.1
    have hne : ¬ (len : Int) = 256 := by omega
    have i0 : (0 : Int) ≤ (len : Int) := by omega
    have i1 : (len : Int) ≤ 9223372036854775807 := by have h1 := hB.2.1; have h2 := hB.2.2.1; unfold maxLen at h2; omega
    have hb2 : Below w.heap.size w ((w.alloc (.cells #[.slice none 0 0] 35)).alloc (.cells #[.int .i64 3] 36)) := ((Below.refl _ w).alloc (Nat.le_refl _) _).alloc (by simp) _
    have x0 : Blk ((w.alloc (.cells #[.slice none 0 0] 35)).alloc (.cells #[.int .i64 3] 36)) w.heap.size 35 #[.slice none 0 0] := (Blk.new w _ _).alloc _
    have x1 : Blk ((w.alloc (.cells #[.slice none 0 0] 35)).alloc (.cells #[.int .i64 3] 36)) (w.heap.size + 1) 36 #[.int .i64 3] := by
      have := Blk.new (w.alloc (.cells #[.slice none 0 0] 35)) 36 #[.int .i64 3]
      rw [World.size_alloc] at this
      exact this
    have HX0 := Lib.hid x0
    have HX1 := Lib.hid x1
    have HB2 := Lib.hid hb2
    clear hl h hB hz x0 x1 hb2
    go_enter Tryz.func55, Tryz.ntmps55
    go_wp2_with fail
    have e0 := HX0.out.cell 0
    have e1 := HX1.out.cell 0
    exact bodyPost_ret (v := .tuple #[.slice none 0 0, .int .i64 3]) (by simp [results, Tryz.f55, go_sem, e0, e1]) rfl ⟨_, rfl, prow_nil _ _, HB2.out⟩
end Go.Proofs.YtbggkfomfeeikaaGreatDoor
/-
  append of pointers to a row of the call's own.
-/
namespace Go.Proofs.YtbggkfomfeeikaaGreatDoor
open Go.RowKit Go.Shelf
set_option maxRecDepth 100000

theorem ptCs_mem {L : List Pt} {u : Value} (h : u ∈ ptCs L) : u.oneCell' = true := by
  obtain ⟨p, _, hu⟩ := List.mem_flatMap.1 h
  simp only [ptC, List.mem_cons, List.not_mem_nil, or_false] at hu
  rcases hu with rfl | rfl | rfl | rfl | rfl <;> rfl
/-- The cells of a slice of pointers. -/
theorem Pts.row {w : World} {B b off len cap : Nat} {L : List Pt} (h : Pts w B (some ⟨b, off, none⟩) len cap L) (j : Nat) (u : Value) (hu : (ptCs L)[j]? = some u) : w.cell? ⟨b, off + j, none⟩ = some u := by
  have hj : j < L.length * 5 := by
    rcases Nat.lt_or_ge j (ptCs L).length with hj | hj
    · rw [ptCs_length] at hj; exact hj
    · rw [List.getElem?_eq_none hj] at hu; cases hu
  have hi : j / 5 < L.length := by omega
  obtain ⟨b', off', e, _, hc⟩ := h.2.2.2.2 (by rw [← h.1]; omega)
  cases e
  have hlen : (ptC L[j / 5]).length = 5 := rfl
  have hr : j % 5 < (ptC L[j / 5]).length := by rw [hlen]; omega
  have hg := ptCs_get L (j / 5) hi (j % 5) _ (List.getElem?_eq_getElem hr)
  have ej : j / 5 * 5 + j % 5 = j := by omega
  rw [ej, hu] at hg
  have := (hc (j / 5) hi).2 (j % 5) _ (List.getElem?_eq_getElem hr)
  rw [Nat.add_assoc, ej] at this
  rw [this, hg]
section
variable {w : World} {o : Oper} {a : Act} {K : Act → World → Prop} {Q : Exit → Act → World → Prop} {ops : Array Oper} {rest : List Oper}
theorem wp_append_prow (x y : Operand) (ho : o.op = .call { callee := .builtin .append, args := #[x, y], argTypes := #[35, 35] })
    (base : Nat) (v : Value) (L : List Pt) (hx : a.eval x = v) (hr : PRow w base v L) (B : Nat) (A : Option Addr) (m c : Nat) (M : List Pt) (hy : a.eval y = .slice A m c) (hs : Pts w B A m c M)
    (hn : L.length + m ≤ 1000000) (hbase : base ≤ w.heap.size)
    (h : ∀ v' w', PRow w' base v' (L ++ M) → w.grownBy w' v.ownBlock → K (a.put o.dst v') w') : o.wp Tryz.prog a w K Q := by
  obtain ⟨i0, hi0, hz0, hz1, hz2⟩ := info_parts infoPt
  obtain ⟨h1, h2⟩ := hr
  have hwf : ∀ p ∈ L ++ M, WfP p := fun p hp => by
    rcases List.mem_append.1 hp with hp | hp
    · exact h2 p hp
    · exact hs.wf hp
  have hml := hs.1
  cases A with
  | none =>
    have hc := hs.2.2.2.1 rfl
    have hm : m = 0 := by have := hs.2.1; omega
    subst hm; subst hc
    obtain rfl : M = [] := List.eq_nil_of_length_eq_zero hml
    have hrun := run_app_none (P := Tryz.prog) (w := w) base 35 o.type 32 i0 5 0 Tryz.underlying35 hi0 v L.length (ptCs L) h1
    unfold Oper.wp
    simp [execOp, ho, resolve, invoke, builtin, hx, hy, hrun, Result.andThen]
    refine h v w ?_ (World.grownBy.refl w _)
    rw [List.append_nil]
    exact ⟨h1, h2⟩
  | some ad =>
    refine wp_append_own w x y 35 ho base 32 i0 (.agg #[.int .i64 0, .int .u32 0, .int .u32 0, .int .u32 0, .int .u32 0]) 5 24 Tryz.underlying35 hi0 hz0 hz1 hz2 rfl (by decide) v L.length (ptCs L) hx h1 ad m c (ptCs M) hy (by rw [ptCs_length, hml]) (fun j u hu => ?_) (fun u hu => ptCs_mem hu) (by unfold maxLen; omega) (by omega) hbase fun v' w' h6 h7 _ => ?_
    · have hj : 0 < m := by
        rcases Nat.eq_zero_or_pos m with h0 | h0
        · obtain rfl : M = [] := List.eq_nil_of_length_eq_zero (by omega)
          simp [ptCs] at hu
        · exact h0
      obtain ⟨b, off, e, _, _⟩ := hs.2.2.2.2 hj
      cases e
      have e1 : (⟨b, off, none⟩ : Addr).add j = ⟨b, off + j, none⟩ := by unfold Addr.add; split <;> simp_all
      rw [e1]
      exact hs.row j u hu
    · refine h v' w' ⟨?_, hwf⟩ h7
      rw [List.length_append, hml, ptCs_append]
      exact h6
theorem wpList_append_prow (hgd : o.guard = none) (x y : Operand) (ho : o.op = .call { callee := .builtin .append, args := #[x, y], argTypes := #[35, 35] })
    (base : Nat) (v : Value) (L : List Pt) (hx : a.eval x = v) (hr : PRow w base v L) (B : Nat) (A : Option Addr) (m c : Nat) (M : List Pt) (hy : a.eval y = .slice A m c) (hs : Pts w B A m c M)
    (hn : L.length + m ≤ 1000000) (hbase : base ≤ w.heap.size)
    (h : ∀ v' w', PRow w' base v' (L ++ M) → w.grownBy w' v.ownBlock → wpList Tryz.prog ops Q rest (a.put o.dst v') w') : wpList Tryz.prog ops Q (o :: rest) a w :=
  wpList_plain hgd fun _ hK => wp_append_prow x y ho base v L hx hr B A m c M hy hs hn hbase fun v' w' h1 h2 => hK _ _ (h v' w' h1 h2)
end
/-- A slice literal of one pointer. -/
theorem one_pts (w : World) (p : Pt) (hp : WfP p) : Pts (w.alloc (.cells (ptC p).toArray 32)) (w.alloc (.cells (ptC p).toArray 32)).heap.size (some ⟨w.heap.size, 0, none⟩) 1 1 [p] :=
  ⟨rfl, Nat.le_refl _, by unfold maxLen; omega, fun e => (by cases e), fun _ => ⟨w.heap.size, 0, rfl, by simp, fun i hi => by
    have : i = 0 := by simpa using hi
    subst this
    refine ⟨hp, fun j u hu => ?_⟩
    rw [(Blk.new w 32 (ptC p).toArray).cell]
    simpa using hu⟩⟩
theorem PRow.own {w w' : World} {base g : Nat} {v : Value} {L : List Pt} (h : PRow w base v L) (hg : w.grownBy w' (some g)) (hne : ∀ k, v.ownBlock = some k → k ≠ g) : PRow w' base v L := ⟨own_other h.1 hg hne, h.2⟩
end Go.Proofs.YtbggkfomfeeikaaGreatDoor
/-
  The document's own Rows and Same of pointers.
-/
namespace Go.Proofs.YtbggkfomfeeikaaGreatDoor
open Go.RowKit Go.Shelf
set_option maxRecDepth 100000

/-- The pointers of a row's first k windows. -/
def rowsTo (s : List UInt8) (k : Nat) : List Pt := (List.range k).map fun i => getP (winP s i)
theorem rowsTo_step (s : List UInt8) (k : Nat) : rowsTo s (k + 1) = rowsTo s k ++ [getP (winP s k)] := by simp [rowsTo, List.range_succ]
theorem rowsTo_length (s : List UInt8) (k : Nat) : (rowsTo s k).length = k := by simp [rowsTo]
theorem rowsL_length (s : List UInt8) : (rowsL s).length = 16 := by simp [rowsL]
set_option maxHeartbeats 2000000 in
theorem rpRows_any (a : Option Addr) (len cap : Nat) (s : List UInt8) (w : World) (hB : Bsl w w.heap.size a len cap s) : Calls Tryz.prog 61 #[.slice a len cap] w (OutL (rowsO s).1 (rowsO s).2 w) := by
  have hl := hB.1
  have i0 : (0 : Int) ≤ (len : Int) := by omega
  have i1 : (len : Int) ≤ 9223372036854775807 := by have h1 := hB.2.1; have h2 := hB.2.2.1; unfold maxLen at h2; omega
  rw [rowsO]
  by_cases h : s.length = 256
  · rw [if_pos h]
    obtain rfl : len = 256 := by omega
    obtain ⟨b, off, ea, hblt, hcell⟩ := hB.2.2.2.2 (by omega)
    subst ea
    have hcap := hB.2.1
    obtain ⟨R, hR⟩ : ∃ R, (if ∀ p ∈ rowsL s, MayP p then (rowsL s, (0 : Int)) else ([], 8)) = R := ⟨_, rfl⟩
    rw [hR]
    have HRR := Lib.hid hR; clear hR
    have HBB := Lib.hid hB; clear hB
    clear hl i0 i1
    have HS := Lib.hid h; clear h
    have HBL := Lib.hid hblt
    have HCE := Lib.hid hcell
    clear hblt hcell
    go_enter Tryz.func61, Tryz.ntmps61
    go_wp2_with fail
    go_loopw [4, 5] (fun v i wr => ∃ k : Nat, k ≤ 16 ∧ i = .int .i64 k ∧ (∀ j, j < k → MayP (getP (winP s j))) ∧ PRow wr w.heap.size v (rowsTo s k) ∧ Below w.heap.size w wr) (fun _ i _ => 16 - (intOf i).toNat)
    case atStart => exact ⟨0, Nat.zero_le _, rfl, fun j hj => absurd hj (Nat.not_lt_zero _), prow_nil _ _, Below.refl _ _⟩
    case round =>
      obtain ⟨k, hk, rfl, hmay, ho, hb⟩ := hrel
      have k0 : (0 : Int) ≤ k := by omega
      have HO := Lib.hid ho; clear ho
      have HB := Lib.hid hb; clear hb
      have HM := Lib.hid hmay; clear hmay
      obtain ⟨v, hv⟩ : ∃ v : Value, u4 = v := ⟨_, rfl⟩
      rw [hv] at HO ⊢
      clear hv
      by_cases hlt : k < 16
      · have k1 : (k : Int) < 16 := by omega
        have k2 : (k : Int) ≤ 15 := by omega
        have hsl := fun W => slice_lh W b off 256 cap (16 * k) 16 (by omega) (by omega)
        have ek : ((16 * k : Nat) : Int) = 16 * (k : Int) := by omega
        simp only [ek] at hsl
        have hbw := ((HBB.out.below HB.out).more HB.out.size).win (16 * k) 16 (by omega)
        have hread := rpRead_any _ 16 _ _ wr hbw
        have hlen : ((s.drop (16 * k)).take 16).length = 16 := win_length (by have := HS.out; omega)
        rw [preadO, if_pos hlen] at hread
        have hst := rowsTo_step s k
        have hwf := wf_getP (winP s k)
        rw [show (s.drop (16 * k)).take 16 = winP s k from rfl] at hread
        obtain ⟨P, hP⟩ : ∃ P, getP (winP s k) = P := ⟨_, rfl⟩
        rw [hP] at hread hst hwf
        have HST := Lib.hid hst
        have HP := Lib.hid hP
        have HWF := Lib.hid hwf
        have hrl := rowsTo_length s k
        have HRL := Lib.hid hrl
        clear hst hP hwf hlen hbw ek hrl
        by_cases hm : MayP P
        · rw [if_pos hm] at hread
          have HMP := Lib.hid hm
          clear hm
          obtain ⟨a', b', c', d', e'⟩ := P
          have HRD := Lib.hid hread
          clear hread
          go_wp2_with (first
            | (go_at_call 89
               refine HRD.out.mono ?_
               rintro ev w1 ⟨rfl, b1⟩
               have bx := (Below.refl w1.heap.size w1).alloc (Nat.le_refl _) (.cells (ptC (a', b', c', d', e')).toArray 32)
               have by_ := bx.alloc bx.size (.cells (ptC (a', b', c', d', e')).toArray 32)
               have bz := b1.trans (by_.mono b1.size)
               have HB1 := Lib.hid (HB.out.trans (bz.mono HB.out.size))
               have HO1 := Lib.hid (HO.out.below bz)
               have hpt := one_pts (w1.alloc (.cells (ptC (a', b', c', d', e')).toArray 32)) (a', b', c', d', e') HWF.out
               rw [World.size_alloc, World.size_alloc] at hpt
               have HPT := Lib.hid hpt
               clear hpt
               clear b1 bx by_ bz)
            | (at_builtin
               refine wpList_append_prow rfl (.tmp 29) (.tmp 31) rfl w.heap.size v _ rfl HO1.out _ _ 1 1 [(a', b', c', d', e')] rfl HPT.out (by rw [HRL.out]; omega) HB1.out.size ?_
               intro v2 w2 h2 hg2
               rw [← HST.out] at h2
               have HO2 := Lib.hid h2
               have HB2 := Lib.hid (app_below HB1.out HO1.out.1 hg2 HB1.out.size)
               clear h2 hg2))
          go_roundw
          case rel =>
            refine ⟨k + 1, by omega, by go_num, fun j hj => ?_, HO2.out, HB2.out⟩
            by_cases e : j = k
            · subst e
              rw [HP.out]
              exact HMP.out
            · exact HM.out j (by omega)
          case measure => simp [intOf]; omega
        · rw [if_neg hm] at hread
          have hno : ¬ ∀ p ∈ rowsL s, MayP p := fun hall => hm (by
            rw [← HP.out]
            exact hall _ (List.mem_map.2 ⟨k, List.mem_range.2 hlt, rfl⟩))
          have hR := HRR.out
          rw [if_neg hno] at hR
          subst hR
          clear hm hno
          have HRD := Lib.hid hread
          clear hread
          go_wp2_with (go_at_call 89
                       refine HRD.out.mono ?_
                       rintro ev w1 ⟨rfl, b1⟩
                       have bx := (Below.refl w1.heap.size w1).alloc (Nat.le_refl _) (.cells (ptC p0).toArray 32)
                       have HB1 := Lib.hid (HB.out.trans ((b1.trans (bx.mono b1.size)).mono HB.out.size))
                       clear b1 bx)
          go_ret2
          exact ⟨_, rfl, prow_nil _ _, HB1.out⟩
      · obtain rfl : k = 16 := by omega
        have hall : ∀ p ∈ rowsL s, MayP p := fun p hp => by
          obtain ⟨i, hi, rfl⟩ := List.mem_map.1 hp
          exact HM.out i (List.mem_range.1 hi)
        have hR := HRR.out
        rw [if_pos hall] at hR
        subst hR
        clear hall
        go_wp2_with fail
        go_ret2
        exact ⟨_, rfl, HO.out, HB.out⟩
  · rw [if_neg h]
    have hne : ¬ (len : Int) = 256 := by omega
    clear hl h hB
    go_enter Tryz.func61, Tryz.ntmps61
    go_wp2_with fail
    go_ret2
    exact ⟨_, rfl, prow_nil _ _, Below.refl _ _⟩
theorem list_same {L M : List Pt} (hl : L.length = M.length) (h : ∀ j, j < L.length → L.getD j p0 = M.getD j p0) : L = M := by
  apply List.ext_getElem hl
  intro i h1 h2
  have := h i h1
  rwa [List.getD_eq_getElem?_getD, List.getElem?_eq_getElem h1, List.getD_eq_getElem?_getD, List.getElem?_eq_getElem h2] at this
set_option maxHeartbeats 1000000 in
theorem rpSame_any (a : Option Addr) (n ca : Nat) (L : List Pt) (b : Option Addr) (m cb : Nat) (M : List Pt) (w : World) (hL : Pts w w.heap.size a n ca L) (hM : Pts w w.heap.size b m cb M) :
    Calls Tryz.prog 19 #[.slice a n ca, .slice b m cb] w fun e w' => e = .returned (.bool (decide (L = M))) ∧ Below w.heap.size w w' := by
  have hl := hL.1
  have hm := hM.1
  have i0 : (0 : Int) ≤ (n : Int) := by omega
  have i1 : (n : Int) ≤ 9223372036854775807 := by have h1 := hL.2.1; have h2 := hL.2.2.1; unfold maxLen at h2; omega
  have hmx : Tryz.prog.follows Departure.mixedOrders = true := by kernel_rfl
  obtain ⟨R, hR⟩ : ∃ R, decide (L = M) = R := ⟨_, rfl⟩
  rw [hR]
  by_cases hnm : n = m
  · subst hnm
    have HLL := Lib.hid hL; clear hL
    have HMM := Lib.hid hM; clear hM
    have HR := Lib.hid hR; clear hR
    have HLN := Lib.hid hl; clear hl
    have HMN := Lib.hid hm; clear hm
    go_enter Tryz.func19, Tryz.ntmps19
    go_wp2_with fail
    go_loopw [5] (fun i wr => ∃ k : Nat, k ≤ n ∧ i = .int .i64 k ∧ (∀ j, j < k → L.getD j p0 = M.getD j p0) ∧ Below w.heap.size w wr) (fun i _ => n - (intOf i).toNat)
    case atStart => exact ⟨0, Nat.zero_le _, rfl, fun j hj => absurd hj (Nat.not_lt_zero _), Below.refl _ _⟩
    case round =>
      obtain ⟨k, hk, rfl, hsame, hb⟩ := hrel
      have k0 : (0 : Int) ≤ k := by omega
      have HB := Lib.hid hb; clear hb
      have HSM := Lib.hid hsame; clear hsame
      by_cases hlt : k < n
      · have k1 : (k : Int) < n := by omega
        obtain ⟨b1, o1, ea, hblt, _, c0, c1, c2, c3, c4⟩ := (HLL.out.below HB.out).cells k hlt
        obtain ⟨b2, o2, eb, hblt2, _, d0, d1, d2, d3, d4⟩ := (HMM.out.below HB.out).cells k hlt
        subst ea
        subst eb
        obtain ⟨P, hP⟩ : ∃ P, L.getD k p0 = P := ⟨_, rfl⟩
        obtain ⟨Q, hQ⟩ : ∃ Q, M.getD k p0 = Q := ⟨_, rfl⟩
        rw [hP] at c0 c1 c2 c3 c4
        rw [hQ] at d0 d1 d2 d3 d4
        have HP := Lib.hid hP
        have HQ := Lib.hid hQ
        clear hP hQ hblt hblt2
        have heq : eqP P Q = decide (P = Q) := rfl
        by_cases hpq : P = Q
        · rw [decide_eq_true hpq] at heq
          obtain ⟨x, y, z, t, u⟩ := P
          obtain ⟨x', y', z', t', u'⟩ := Q
          have hlit := eqPt_lit x y z t u x' y' z' t' u'
          rw [heq] at hlit
          have HPQ := Lib.hid hpq
          clear hpq heq
          go_wp2_with fail
          go_quiet (fail)
          go_wp2_with fail
          go_roundw
          case rel =>
            refine ⟨k + 1, by omega, by go_num, fun j hj => ?_, below_drewN HB.out _⟩
            by_cases e : j = k
            · subst e
              rw [HP.out, HQ.out]
              exact HPQ.out
            · exact HSM.out j (by omega)
          case measure => simp [intOf]; omega
        · rw [decide_eq_false hpq] at heq
          have hno : ¬ L = M := fun e => hpq (by rw [← HP.out, ← HQ.out, e])
          have hR := HR.out
          rw [decide_eq_false hno] at hR
          subst hR
          obtain ⟨x, y, z, t, u⟩ := P
          obtain ⟨x', y', z', t', u'⟩ := Q
          have hlit := eqPt_lit x y z t u x' y' z' t' u'
          rw [heq] at hlit
          clear hpq heq hno
          go_wp2_with fail
          go_quiet (fail)
          go_wp2_with fail
          go_ret
          exact ⟨rfl, below_drewN HB.out _⟩
      · obtain rfl : k = n := by omega
        have hyes : L = M := list_same (by rw [HLN.out, HMN.out]) fun j hj => HSM.out j (by rw [← HLN.out]; exact hj)
        have hR := HR.out
        rw [decide_eq_true hyes] at hR
        subst hR
        clear hyes
        go_wp2_with fail
        go_ret
        exact ⟨rfl, HB.out⟩
  · have hno : ¬ L = M := fun e => hnm (by rw [← hl, ← hm, e])
    rw [decide_eq_false hno] at hR
    subst hR
    have hne : ¬ (n : Int) = (m : Int) := by omega
    clear hno hl hm hL hM hnm
    go_enter Tryz.func19, Tryz.ntmps19
    go_wp2_with fail
    go_ret
    exact ⟨rfl, Below.refl _ _⟩
end Go.Proofs.YtbggkfomfeeikaaGreatDoor
/-
  A row of pointers and the pointers that it has: there and back.
-/
namespace Go.Proofs.YtbggkfomfeeikaaGreatDoor
open Go.RowKit Go.Shelf
set_option maxRecDepth 100000

theorem rowsO_cases (s : List UInt8) : (∃ c : Int, rowsO s = ([], c) ∧ c ≠ 0) ∨ (s.length = 256 ∧ (∀ p ∈ rowsL s, MayP p) ∧ rowsO s = (rowsL s, 0)) := by
  unfold rowsO
  by_cases h : s.length = 256
  · rw [if_pos h]
    by_cases h2 : ∀ p ∈ rowsL s, MayP p
    · rw [if_pos h2]
      exact .inr ⟨h, h2, rfl⟩
    · rw [if_neg h2]
      exact .inl ⟨8, rfl, by decide⟩
  · rw [if_neg h]
    exact .inl ⟨3, rfl, by decide⟩
end Go.Proofs.YtbggkfomfeeikaaGreatDoor
