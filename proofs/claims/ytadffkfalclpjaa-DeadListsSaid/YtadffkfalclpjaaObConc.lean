/-
  slices.Grow of nil, and slices.Concat of slices of pointers: a row of the call's own that holds them all, one behind the other.
-/
import Derived.Test.YtadffkfalclpjaaPRow
import Derived.Lib.AppendZeros
namespace Go.Proofs.Ytadffkfalclpjaa
open Go.RowKit Go.Shelf
set_option maxRecDepth 100000

set_option maxHeartbeats 1000000 in
theorem pGrow_any (n : Nat) (h0 : 0 < n) (hn : n ≤ 1000000) (w : World) : Calls Try.prog 35 #[.slice none 0 0, .int .i64 n] w fun e w' => ∃ v, e = .returned v ∧ PRow w' w.heap.size v [] ∧ Below w.heap.size w w' := by
  obtain ⟨i0, hi, hz0, hz1, hz2⟩ := info_parts infoPt
  have hr : ∀ ty, (Builtin.append_ #[22, 3] ty #[.slice none 0 0, .int .i64 n]).run Try.prog w =
      .ok (.slice (some ⟨w.heap.size, 0, none⟩) n (grownCap w n 0 25)) (w.drew.alloc (.cells (Builtin.zeroCells (Value.agg #[.int .i64 0, .int .u32 0, .int .u32 0, .int .u32 0, .int .u32 0]).cells n ++ Builtin.zeroCells (Value.agg #[.int .i64 0, .int .u32 0, .int .u32 0, .int .u32 0, .int .u32 0]).cells (grownCap w n 0 25 - n)) 25)) := fun ty =>
    Lib.run_append_nil_zeros w 22 3 ty 25 i0 (.agg #[.int .i64 0, .int .u32 0, .int .u32 0, .int .u32 0, .int .u32 0]) .i64 .i64 Try.underlying22 Try.underlying3 hi hz0 n h0 (by omega) (by omega) (by rw [hz2]; omega)
  have hG1 : n ≤ grownCap w n 0 25 := grownCap_ge w _ _ _
  have hG2 : grownCap w n 0 25 ≤ maxLen := grownCap_le_maxLen w n 0 25 (by unfold maxLen; omega)
  obtain ⟨G, hG⟩ : ∃ G, grownCap w n 0 25 = G := ⟨_, rfl⟩
  rw [hG] at hr hG1 hG2
  obtain ⟨cs, hcs⟩ : ∃ cs, Builtin.zeroCells (Value.agg #[.int .i64 0, .int .u32 0, .int .u32 0, .int .u32 0, .int .u32 0]).cells n ++ Builtin.zeroCells (Value.agg #[.int .i64 0, .int .u32 0, .int .u32 0, .int .u32 0, .int .u32 0]).cells (G - n) = cs := ⟨_, rfl⟩
  have hsz : cs.size = G * 5 := by
    rw [← hcs]
    simp [Builtin.zeroCells, Value.cells]
    omega
  rw [hcs] at hr
  have z5 : ∀ w, (Go.sizeOf 25).run Try.prog w = .ok 5 w := fun w => by kernel_rfl
  have n1 : ¬ ((n : Int) < 0) := by omega
  have n2 : (0 : Int) < n := by omega
  have n3 : (n : Int) ≤ 1000000 := by omega
  have g0 : (G : Int) ≤ 9223372036854775807 := by unfold maxLen at hG2; omega
  have hown : (w.drew.alloc (.cells cs 25)).ownsRow w.heap.size 25 5 (.slice (some ⟨w.heap.size, 0, none⟩) 0 G) 0 [] :=
    ⟨rfl, .inr ⟨w.heap.size, G, cs, rfl, Nat.le_refl _, by have := heap_alloc_new w.drew (.cells cs 25); simpa using this, Nat.zero_le _, hG2, by omega, by simp⟩⟩
  have hrow : PRow (w.drew.alloc (.cells cs 25)) w.heap.size (.slice (some ⟨w.heap.size, 0, none⟩) 0 G) [] := ⟨hown, fun p hp => by cases hp⟩
  have hbel : Below w.heap.size w (w.drew.alloc (.cells cs 25)) := (Below.refl _ w).drew.alloc (by simp) _
  have HO := Lib.hid hrow; clear hown hrow
  have HB := Lib.hid hbel; clear hbel
  have HG2 := Lib.hid hG2; clear hG2
  clear hG hcs hsz hi hz0 hz1 hz2
  go_enter Try.func35, Try.ntmps35
  go_wp2_with (at_builtin; refine Lib.wpList_append_run _ rfl _ _ _ _ rfl _ _ rfl rfl _ _ (hr _) ?_)
  go_ret
  exact ⟨_, rfl, HO.out, HB.out⟩

/-- A slice of writes as it is handed in. -/
structure PPart where
  a : Option Addr
  len : Nat
  cap : Nat
  ws : List Pt
def flatPt (ps : List PPart) : List Pt := ps.flatMap (·.ws)
theorem flatPt_take_succ (ps : List PPart) (k : Nat) (h : k < ps.length) : flatPt (ps.take (k + 1)) = flatPt (ps.take k) ++ (ps[k]).ws := by
  unfold flatPt
  rw [List.take_succ_eq_append_getElem h, List.flatMap_append]
  simp
theorem flatPt_take_le (ps : List PPart) (k : Nat) : (flatPt (ps.take k)).length ≤ (flatPt ps).length := by
  have : flatPt ps = flatPt (ps.take k) ++ flatPt (ps.drop k) := by
    unfold flatPt
    rw [← List.flatMap_append, List.take_append_drop]
  rw [this, List.length_append]
  omega
/-- A row of the call's own that holds ws. -/
def POwn (ws : List Pt) (w : World) (e : Ending) (w' : World) : Prop := ∃ v, e = .returned v ∧ PRow w' w.heap.size v ws ∧ Below w.heap.size w w'
set_option maxHeartbeats 2000000 in
theorem pConcat_any (r c : Nat) (ps : List PPart) (w : World) (hr : r < w.heap.size) (hl : ps.length ≤ 1000)
    (hcell : ∀ i (h : i < ps.length), w.cell? ⟨r, i, none⟩ = some (.slice (ps[i]).a (ps[i]).len (ps[i]).cap)) (hb : ∀ i (h : i < ps.length), Pts w w.heap.size (ps[i]).a (ps[i]).len (ps[i]).cap (ps[i]).ws)
    (h0 : 0 < (flatPt ps).length) (hm : (flatPt ps).length ≤ 1000000) :
    Calls Try.prog 25 #[.slice (some ⟨r, 0, none⟩) ps.length c] w (POwn (flatPt ps) w) := by
  obtain ⟨n, hn⟩ : ∃ n, ps.length = n := ⟨_, rfl⟩
  have HN := Lib.hid hn
  rw [hn] at hl ⊢
  clear hn
  have n0 : (0 : Int) ≤ n := by omega
  have n1 : (n : Int) ≤ 1000 := by omega
  have HC := Lib.hid hcell; clear hcell
  have HB := Lib.hid hb; clear hb
  have HM := Lib.hid hm; clear hm
  have H0 := Lib.hid h0; clear h0
  go_enter Try.func25, Try.ntmps25
  go_wp2_with fail
  go_loop [3, 11] (fun z i => ∃ k : Nat, k ≤ n ∧ i = .int .i64 k ∧ z = .int .i64 ((flatPt (ps.take k)).length : Nat)) (fun _ i => n - (intOf i).toNat)
  case atStart => exact ⟨0, Nat.zero_le _, rfl, rfl⟩
  case round =>
    obtain ⟨k, hk, rfl, rfl⟩ := hrel
    by_cases hlt : k < n
    · have hkp : k < ps.length := by rw [HN.out]; exact hlt
      have hce := HC.out k hkp
      have hbe := (HB.out k hkp).1
      have hsu := flatPt_take_succ ps k hkp
      have hle := flatPt_take_le ps (k + 1)
      rw [hsu, List.length_append, hbe] at hle
      have hsl : (flatPt (ps.take (k + 1))).length = (flatPt (ps.take k)).length + (ps[k]).len := by rw [hsu, List.length_append, hbe]
      obtain ⟨p, hp⟩ : ∃ p, ps[k] = p := ⟨_, rfl⟩
      rw [hp] at hce hle hsl
      obtain ⟨m, hm⟩ : ∃ m, (flatPt (ps.take k)).length = m := ⟨_, rfl⟩
      rw [hm] at hle hsl ⊢
      obtain ⟨pa, pl, pc, pss⟩ := p
      dsimp only at hce hle hsl
      have hmm := HM.out
      have m0 : (0 : Int) ≤ (m : Int) := by omega
      have m1 : (m : Int) + (pl : Int) ≤ 1000000 := by omega
      have m2 : (0 : Int) ≤ (pl : Int) := by omega
      have m3 : ¬ ((m : Int) + (pl : Int) < 0) := by omega
      have k0 : (k : Int) < n := by omega
      have HSL := Lib.hid hsl; clear hsl
      clear hp hm hsu hbe hle hmm
      go_wp2_with fail
      go_round
      case rel => exact ⟨k + 1, by omega, by go_num, by rw [HSL.out]; go_num⟩
      case measure => simp [intOf]; omega
    · obtain rfl : k = n := by omega
      have ht : ps.take k = ps := List.take_of_length_le (by rw [HN.out]; exact Nat.le_refl _)
      rw [ht]
      obtain ⟨m, hm⟩ : ∃ m, (flatPt ps).length = m := ⟨_, rfl⟩
      have gr := pGrow_any m (by rw [← hm]; exact H0.out) (by rw [← hm]; exact HM.out) w
      rw [hm]
      have GR := Lib.hid gr; clear gr
      clear hm ht
      go_wp2_with fail
      refine GR.out.mono ?_
      rintro e w1 ⟨v, rfl, ho, b1⟩
      have HO := Lib.hid ho; clear ho
      have HB1 := Lib.hid b1; clear b1
      go_wp2_with fail
      go_loopw [6, 27] (fun v i wr => ∃ j : Nat, j ≤ k ∧ i = .int .i64 j ∧ PRow wr w.heap.size v (flatPt (ps.take j)) ∧ Below w.heap.size w wr) (fun _ i _ => k - (intOf i).toNat)
      case atStart => exact ⟨0, Nat.zero_le _, rfl, HO.out, HB1.out⟩
      case round =>
        obtain ⟨j, hj, rfl, ho2, hb2⟩ := hrel
        by_cases hlt2 : j < k
        · have hkp : j < ps.length := by rw [HN.out]; exact hlt2
          have hce := (hb2.cell (p := ⟨r, j, none⟩) hr).trans (HC.out j hkp)
          have hbs := (HB.out j hkp).below hb2
          have hbe := (HB.out j hkp).1
          have hsu := flatPt_take_succ ps j hkp
          have hle := flatPt_take_le ps (j + 1)
          rw [hsu, List.length_append, hbe] at hle
          obtain ⟨p, hp⟩ : ∃ p, ps[j] = p := ⟨_, rfl⟩
          rw [hp] at hce hle hsu hbs hbe
          obtain ⟨t, ht⟩ : ∃ t, flatPt (ps.take j) = t := ⟨_, rfl⟩
          rw [ht] at hle hsu ho2
          obtain ⟨pa, pl, pc, pss⟩ := p
          dsimp only at hce hle hsu hbs hbe
          have hmm := HM.out
          have k0 : (j : Int) < k := by omega
          have hnm : t.length + pl ≤ 1000000 := by omega
          have HSU := Lib.hid hsu; clear hsu
          have HO2 := Lib.hid ho2; clear ho2
          have HB2 := Lib.hid hb2; clear hb2
          have HBS := Lib.hid hbs; clear hbs
          clear hp ht hle hmm hbe
          go_wp2_with (at_builtin; refine wpList_append_prow rfl (.tmp 31) (.tmp 32) rfl w.heap.size u6 t rfl HO2.out w.heap.size pa pl pc pss rfl HBS.out hnm HB2.out.size ?_; intro v' W3 hown' hg')
          have hb3 : Below w.heap.size w W3 := app_below HB2.out HO2.out.1 hg' HB2.out.size
          have HO3 := Lib.hid hown'; clear hown'
          have HB3 := Lib.hid hb3; clear hb3 hg'
          go_wp2_with fail
          go_roundw
          case rel => exact ⟨j + 1, by omega, by go_num, by rw [HSU.out]; exact HO3.out, HB3.out⟩
          case measure => simp [intOf]; omega
        · obtain rfl : j = k := by omega
          have ht : ps.take j = ps := List.take_of_length_le (by rw [HN.out]; exact Nat.le_refl _)
          rw [ht] at ho2
          have HO2 := Lib.hid ho2
          have HB2 := Lib.hid hb2; clear hb2
          clear ho2 ht
          go_wp2_with fail
          go_ret
          exact ⟨_, rfl, HO2.out, HB2.out⟩
/-- One pointer and a list, one behind the other. -/
theorem concatP2 (w : World) (a : Option Addr) (la ca : Nat) (s : List Pt) (b : Option Addr) (lb cb : Nat) (t : List Pt) (hA : Pts w w.heap.size a la ca s) (hB : Pts w w.heap.size b lb cb t) (h0 : 0 < la + lb) (hm : la + lb ≤ 1000000) :
    Calls Try.prog 25 #[.slice (some ⟨w.heap.size, 0, none⟩) 2 2] (w.alloc (.cells #[.slice a la ca, .slice b lb cb] 22)) (POwn (s ++ t) (w.alloc (.cells #[.slice a la ca, .slice b lb cb] 22))) := by
  have hb : Below w.heap.size w (w.alloc (.cells #[.slice a la ca, .slice b lb cb] 22)) := (Below.refl _ w).alloc (Nat.le_refl _) _
  have hk := Blk.new w 22 #[.slice a la ca, .slice b lb cb]
  have e : flatPt [⟨a, la, ca, s⟩, ⟨b, lb, cb, t⟩] = s ++ t := by simp [flatPt]
  have el : (flatPt [⟨a, la, ca, s⟩, ⟨b, lb, cb, t⟩]).length = la + lb := by rw [e, List.length_append, hA.1, hB.1]
  have := pConcat_any w.heap.size 2 [⟨a, la, ca, s⟩, ⟨b, lb, cb, t⟩] (w.alloc (.cells #[.slice a la ca, .slice b lb cb] 22)) hk.lt (by simp)
    (fun i h => by
      rw [hk.cell i]
      match i, h with
      | 0, _ => rfl
      | 1, _ => rfl)
    (fun i h => by
      match i, h with
      | 0, _ => exact hA.step hb
      | 1, _ => exact hB.step hb)
    (by rw [el]; exact h0) (by rw [el]; exact hm)
  rw [e] at this
  exact this
end Go.Proofs.Ytadffkfalclpjaa
