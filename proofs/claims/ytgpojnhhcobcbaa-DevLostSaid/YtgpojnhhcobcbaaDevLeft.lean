/-
  dev.left tells what last ones leave of a block; the closures that tell marks.
-/
import Derived.Test.YtgpojnhhcobcbaaDevLast
namespace Go.Proofs.Ytgpojnhhcobcbaa
open Go.RowKit Go.Shelf
set_option maxRecDepth 100000

/-- A list below block B that reads as s. -/
def ReadPost (B : Nat) (s : List UInt8) (w : World) (e : Ending) (w' : World) : Prop := ∃ A c, e = .returned (.slice A s.length c) ∧ Bsl w' B A s.length c s ∧ Below w.heap.size w w'
theorem wf64 {p : Int} (h0 : -9223372036854775808 ≤ p) (h1 : p ≤ 9223372036854775807) : (Lit.int .i64 p).wf = true := by simp [Lit.wf, IntKind.min, IntKind.max, IntKind.signed, IntKind.bits]; omega
set_option maxHeartbeats 1000000 in
theorem dLeft_some (B : Nat) (x : DAt) (D : DkL) (g N : Nat) (f : Int → Option Nat) (p : Int) (i : Nat) (w : World) (hB : B ≤ w.heap.size) (h : Dsk w B x D) (hM : MapI w g N f) (hp : (Lit.int .i64 p).wf = true) (hf : f p = some i) (hi : i < D.2.length) :
    Calls Try.prog 45 #[dval x D, .map (some g), .int .i64 p] w (ReadPost B (wr_ D.2 i).2 w) := by
  obtain ⟨b, off, q, A, l, c, s, hbe, hlb, hl, _, hc, hd, hA⟩ := h.2.at_ hi
  obtain ⟨ba, bc, wa, wc⟩ := x
  obtain rfl : wa = some ⟨b, off, none⟩ := hbe
  simp only [dval]
  have m1 := h.2.len_le
  obtain ⟨n, hn⟩ : ∃ n, D.1.length = n := ⟨_, rfl⟩
  obtain ⟨m, hm⟩ : ∃ m, D.2.length = m := ⟨_, rfl⟩
  rw [hm] at m1 hi
  have i0 : (0 : Int) ≤ i := by omega
  have i1 : (i : Int) < m := by omega
  have hb := (Below.refl w.heap.size w).alloc (Nat.le_refl _) (.cells #[.slice ba D.1.length bc, .slice (some ⟨b, off, none⟩) D.2.length wc] 25)
  have hx := Blk.new w 25 #[.slice ba D.1.length bc, .slice (some ⟨b, off, none⟩) D.2.length wc]
  have hM1 := hM.below hb hM.lt
  have c1 := (hb.cell (p := ⟨b, off + i * 2, none⟩) (Nat.lt_of_lt_of_le hlb hB)).trans hc
  have c2 := (hb.cell (p := ⟨b, off + i * 2 + 1, none⟩) (Nat.lt_of_lt_of_le hlb hB)).trans hd
  have hA1 := hA.below (hb.mono hB)
  rw [hn, hm] at hb hx hM1 c1 c2 hA1 ⊢
  rw [hl]
  have hls := hA.1
  subst hls
  have HB := Lib.hid hb
  have HX := Lib.hid hx
  have HM := Lib.hid hM1
  have HA := Lib.hid hA1
  have HP := Lib.hid hp
  have HF := Lib.hid hf
  clear h hM hb hx hM1 hc hd hA hA1 hl hn hm hp hf
  go_enter Try.func45, Try.ntmps45
  go_wp2_with (at_lookup; refine wpList_mapI_some rfl (.tmp 10) (.tmp 11) rfl g N f rfl HM.out p HP.out rfl i HF.out ?_)
  go_ret
  exact ⟨A, c, rfl, HA.out, HB.out⟩
set_option maxHeartbeats 1000000 in
theorem dLeft_none (B : Nat) (x : DAt) (D : DkL) (g N : Nat) (f : Int → Option Nat) (p : Nat) (w : World) (hB : B ≤ w.heap.size) (h : Dsk w B x D) (hM : MapI w g N f) (hf : f (p : Int) = none) (hp : p < D.1.length) :
    Calls Try.prog 45 #[dval x D, .map (some g), .int .i64 p] w (ReadPost B (D.1.getD p []) w) := by
  have m1 := h.1.len_le
  obtain ⟨b, off, A, l, c, s, hbe, hlb, hl, hc, hA⟩ := h.1.at_ hp
  obtain ⟨ba, bc, wa, wc⟩ := x
  obtain rfl : ba = some ⟨b, off, none⟩ := hbe
  simp only [dval]
  obtain ⟨n, hn⟩ : ∃ n, D.1.length = n := ⟨_, rfl⟩
  obtain ⟨m, hm⟩ : ∃ m, D.2.length = m := ⟨_, rfl⟩
  rw [hn] at m1 hp
  have i0 : (0 : Int) ≤ p := by omega
  have i1 : (p : Int) < n := by omega
  have hwf := wf64 (p := p) (by omega) (by omega)
  have hb := (Below.refl w.heap.size w).alloc (Nat.le_refl _) (.cells #[.slice (some ⟨b, off, none⟩) D.1.length bc, .slice wa D.2.length wc] 25)
  have hx := Blk.new w 25 #[.slice (some ⟨b, off, none⟩) D.1.length bc, .slice wa D.2.length wc]
  have hM1 := hM.below hb hM.lt
  have c1 := (hb.cell (p := ⟨b, off + p, none⟩) (Nat.lt_of_lt_of_le hlb hB)).trans hc
  have hA1 := hA.below (hb.mono hB)
  rw [hn, hm] at hb hx hM1 c1 hA1 ⊢
  rw [hl]
  have hls := hA.1
  subst hls
  have HB := Lib.hid hb
  have HX := Lib.hid hx
  have HM := Lib.hid hM1
  have HA := Lib.hid hA1
  have HP := Lib.hid hwf
  have HF := Lib.hid hf
  clear h hM hb hx hM1 hc hA hA1 hl hn hm hwf hf
  go_enter Try.func45, Try.ntmps45
  go_wp2_with (at_lookup; refine wpList_mapI_none rfl (.tmp 10) (.tmp 11) rfl g N f rfl HM.out p HP.out rfl HF.out ?_; intro cx)
  go_ret
  exact ⟨A, c, rfl, HA.out, HB.out⟩
/-- What last ones leave. -/
theorem dLeft_any (B : Nat) (x : DAt) (D : DkL) (g N : Nat) (mk : Nat → Bool) (p : Nat) (w : World) (hB : B ≤ w.heap.size) (h : Dsk w B x D) (hM : MapI w g N (fun q => lastTo D.2 mk q D.2.length)) (hp : p < D.1.length) :
    Calls Try.prog 45 #[dval x D, .map (some g), .int .i64 p] w (ReadPost B (leftD D mk p) w) := by
  have m1 := h.1.len_le
  unfold leftD
  split
  · rename_i i hi
    exact dLeft_some B x D g N _ p i w hB h hM (wf64 (by omega) (by omega)) hi (lastTo_lt hi).1
  · rename_i hi
    exact dLeft_none B x D g N _ p w hB h hM hi hp
theorem dAllMarks (i : Int) (w : World) : Calls Try.prog 41 #[.int .i64 i] w fun e w' => e = .returned (.bool true) ∧ Below w.heap.size w w' := by
  go_enter Try.func41, Try.ntmps41
  go_wp2_with fail
  go_ret
  exact ⟨rfl, Below.refl _ _⟩
/-- A slice of marks that lies below block B reads as ks. -/
def Mks (w : World) (B : Nat) (a : Option Addr) (len cap : Nat) (ks : List Bool) : Prop :=
  ks.length = len ∧ len ≤ cap ∧ cap ≤ maxLen ∧ (0 < len → ∃ b off, a = some ⟨b, off, none⟩ ∧ b < B ∧ ∀ i, i < len → w.cell? ⟨b, off + i, none⟩ = some (.bool (ks.getD i false)))
theorem Mks.below {w w' : World} {B len cap : Nat} {a : Option Addr} {ks : List Bool} (h : Mks w B a len cap ks) (hb : Below B w w') : Mks w' B a len cap ks := by
  obtain ⟨h1, h2, h3, h4⟩ := h
  refine ⟨h1, h2, h3, fun hl => ?_⟩
  obtain ⟨b, off, e, hlt, hc⟩ := h4 hl
  exact ⟨b, off, e, hlt, fun i hi => (hb.cell (p := ⟨b, off + i, none⟩) hlt).trans (hc i hi)⟩
theorem Mks.more {w : World} {B B' len cap : Nat} {a : Option Addr} {ks : List Bool} (h : Mks w B a len cap ks) (hB : B ≤ B') : Mks w B' a len cap ks := by
  obtain ⟨h1, h2, h3, h4⟩ := h
  refine ⟨h1, h2, h3, fun hl => ?_⟩
  obtain ⟨b, off, e, hlt, hc⟩ := h4 hl
  exact ⟨b, off, e, by omega, hc⟩
theorem Mks.step {w w' : World} {len cap : Nat} {a : Option Addr} {ks : List Bool} (h : Mks w w.heap.size a len cap ks) (hb : Below w.heap.size w w') : Mks w' w'.heap.size a len cap ks := (h.below hb).more hb.size
theorem Mks.len_le {w : World} {B len cap : Nat} {a : Option Addr} {ks : List Bool} (h : Mks w B a len cap ks) : (len : Int) ≤ 9223372036854775807 := by have h1 := h.2.1; have h2 := h.2.2.1; unfold maxLen at h2; omega
theorem dMark_any (B : Nat) (a : Option Addr) (n c : Nat) (ks : List Bool) (gk i : Nat) (w : World) (hk : Mks w B a n c ks) (hg : w.cell? ⟨gk, 0, none⟩ = some (.slice a n c)) (hi : i < n) :
    Calls Try.prog 46 #[.int .i64 (i : Nat), .pointer (some ⟨gk, 0, none⟩)] w fun e w' => e = .returned (.bool (ks.getD i false)) ∧ Below w.heap.size w w' := by
  have i0 : (0 : Int) ≤ i := by omega
  have i1 : (i : Int) < n := by omega
  obtain ⟨b, off, rfl, _, hc⟩ := hk.2.2.2 (by omega)
  have c1 := hc i hi
  obtain ⟨r, hr⟩ : ∃ r, ks.getD i false = r := ⟨_, rfl⟩
  rw [hr] at c1 ⊢
  clear hc hk hr
  go_enter Try.func46, Try.ntmps46
  go_wp2_with fail
  go_ret
  exact ⟨rfl, Below.refl _ _⟩
theorem dGoes_any (B : Nat) (x : DAt) (D : DkL) (gd ga : Nat) (p : Int) (i : Nat) (w : World) (h : Dsk w B x D) (hd : Blk w gd 25 #[.slice x.ba D.1.length x.bc, .slice x.wa D.2.length x.wc]) (hp : w.cell? ⟨ga, 0, none⟩ = some (.int .i64 p)) (hi : i < D.2.length) :
    Calls Try.prog 43 #[.int .i64 (i : Nat), .pointer (some ⟨gd, 0, none⟩), .pointer (some ⟨ga, 0, none⟩)] w fun e w' => e = .returned (.bool (decide ((wr_ D.2 i).1 = p))) ∧ Below w.heap.size w w' := by
  obtain ⟨b, off, q, A, l, c, s, hbe, hlb, hl, _, hc, _, hA⟩ := h.2.at_ hi
  obtain ⟨ba, bc, wa, wc⟩ := x
  obtain rfl : wa = some ⟨b, off, none⟩ := hbe
  have m1 := h.2.len_le
  obtain ⟨m, hm⟩ : ∃ m, D.2.length = m := ⟨_, rfl⟩
  rw [hm] at m1 hi
  rw [hl]
  have i0 : (0 : Int) ≤ i := by omega
  have i1 : (i : Int) < m := by omega
  have d1 : w.cell? ⟨gd, 1, none⟩ = some (.slice (some ⟨b, off, none⟩) m wc) := by rw [← hm]; exact hd.cell 1
  have e : (q == p) = decide (q = p) := rfl
  have HB := Lib.hid (fun k => below_drewN (Below.refl w.heap.size w) k)
  have HE := Lib.hid e
  clear h hd hA hm hl e
  go_enter Try.func43, Try.ntmps43
  go_wp2_with fail
  go_quiet (fail)
  go_wp2_with fail
  go_ret
  exact ⟨by first | rfl | (rw [← HE.out]; rfl), HB.out _⟩
end Go.Proofs.Ytgpojnhhcobcbaa
