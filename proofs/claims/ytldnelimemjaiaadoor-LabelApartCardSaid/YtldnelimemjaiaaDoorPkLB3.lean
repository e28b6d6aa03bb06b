/-
  Texts of one seat, one behind the other.
-/
import Derived.Deep.RegionHeld3
import Derived.Laws.CopyOwn
import Derived.Lib.AppendZeros
import Derived.IntWalk
import Derived.Deep.RegionLaw
import Derived.Laws.BitsAllLaws
import Derived.Shelf.SlSortCmp.SmallK
import Derived.Shelf.SlSortCmp.NoneTotal
import Derived.Shelf.SlLaysF0
import Derived.Shelf.SlGeneric
import Derived.Ground.SlsfProg
import Derived.Test.YtldnelimemjaiaaDoorPkLB2
/-
  mix.turns, mix.word and mix.take: so many turns; a word of a piece; a piece taken in; nothing that was there is written.
-/
namespace Go.Proofs.YtldnelimemjaiaaDoor
open Go.RowKit Go.Shelf
set_option maxRecDepth 100000

set_option maxHeartbeats 1000000 in
theorem turns_any (x : W4) (n : Nat) (hn : n ≤ 1000) (w : World) : Calls Tryd.prog 92 #[ag x, .int .i64 n] w fun e w' => e = .returned (ag (turnsW n x)) ∧ Below w.heap.size w w' := by
  have hb0 : Blk ((w.alloc (.cells (cl x) 115)).alloc (.cells #[.int .u32 0, .int .u32 0, .int .u32 0, .int .u32 0] 115)) w.heap.size 115 (cl x) := (Blk.new w _ _).alloc _
  have hr0 := Blk.new (w.alloc (.cells (cl x) 115)) 115 #[.int .u32 0, .int .u32 0, .int .u32 0, .int .u32 0]
  have hB0 : Below w.heap.size w ((w.alloc (.cells (cl x) 115)).alloc (.cells #[.int .u32 0, .int .u32 0, .int .u32 0, .int .u32 0] 115)) := ((Below.refl _ w).alloc (Nat.le_refl _) _).alloc (by simp) _
  rw [World.size_alloc] at hr0
  have HB0 := Lib.hid hb0; clear hb0
  have HR0 := Lib.hid hr0; clear hr0
  have HBe := Lib.hid hB0; clear hB0
  have hn' : (n : Int) ≤ 1000 := by omega
  go_enter Tryd.func92, Tryd.ntmps92
  go_wp2_with fail
  go_loopw [6] (fun i wr => ∃ k : Nat, k ≤ n ∧ i = .int .i64 k ∧ Blk wr w.heap.size 115 (cl (turnsW k x)) ∧ Blk wr (w.heap.size + 1) 115 #[.int .u32 0, .int .u32 0, .int .u32 0, .int .u32 0] ∧ Below w.heap.size w wr) (fun i _ => n - (intOf i).toNat)
  case atStart => exact ⟨0, Nat.zero_le _, rfl, HB0.out, HR0.out, HBe.out⟩
  case round =>
    obtain ⟨k, hk, rfl, hb, hr, hbe⟩ := hrel
    have c0 := hb.cell 0
    have c1 := hb.cell 1
    have c2 := hb.cell 2
    have c3 := hb.cell 3
    have HB := Lib.hid hb; clear hb
    have HR := Lib.hid hr; clear hr
    have HE := Lib.hid hbe; clear hbe
    by_cases hlt : k < n
    · go_wp2_with fail
      refine (turn_any _ _).mono ?_
      rintro e w1 ⟨rfl, b1⟩
      have hb1 := HB.out.below b1 HB.out.lt
      have f := fun i => hb1.frozen i
      have d0 := hb1.cell 0
      have d1 := hb1.cell 1
      have d2 := hb1.cell 2
      have d3 := hb1.cell 3
      have HB1 := Lib.hid hb1; clear hb1
      have hr1 := HR.out.below b1 HR.out.lt
      have HR1 := Lib.hid hr1; clear hr1
      have he1 := HE.out.trans (b1.mono HE.out.size)
      have HE1 := Lib.hid he1; clear he1 b1
      clear c0 c1 c2 c3
      go_wp2_with fail
      go_roundw
      case rel => exact ⟨k + 1, by omega, by go_num, HB1.out.set4 _ _ _ _, (((HR1.out.far (by simp) _).far (by simp) _).far (by simp) _).far (by simp) _, below_set4 HE1.out (Nat.le_refl _) _ _ _ _⟩
      case measure => simp [intOf]; omega
    · obtain rfl : k = n := by omega
      have d0 := HR.out.cell 0
      have d1 := HR.out.cell 1
      have d2 := HR.out.cell 2
      have d3 := HR.out.cell 3
      have f := fun i => HR.out.frozen i
      go_wp2_with fail
      have hR := HR.out.set4 (.int .u32 ((turnsW k x).a.toNat : Int)) (.int .u32 ((turnsW k x).b.toNat : Int)) (.int .u32 ((turnsW k x).c.toNat : Int)) (.int .u32 ((turnsW k x).d.toNat : Int))
      have e0 := hR.cell 0
      have e1 := hR.cell 1
      have e2 := hR.cell 2
      have e3 := hR.cell 3
      have E := below_set4 HE.out (g := w.heap.size + 1) (by omega) (.int .u32 ((turnsW k x).a.toNat : Int)) (.int .u32 ((turnsW k x).b.toNat : Int)) (.int .u32 ((turnsW k x).c.toNat : Int)) (.int .u32 ((turnsW k x).d.toNat : Int))
      clear hR
      exact bodyPost_ret (v := ag (turnsW k x)) (by simp [results, Tryd.results92, go_sem, e0, e1, e2, e3]) rfl ⟨rfl, E⟩

/-- The number of four bytes of a piece. -/
theorem word_any (b off cap i : Nat) (s : List UInt8) (hs : s.length = 8) (hc8 : 8 ≤ cap) (hcm : cap ≤ 9223372036854775807) (hi : i + 4 ≤ 8) (w : World) (hb : b < w.heap.size)
    (hc : ∀ i (h : i < s.length), w.cell? ⟨b, off + i, none⟩ = some (.int .u8 ((s[i]).toNat : Int))) :
    Calls Tryd.prog 98 #[.slice (some ⟨b, off, none⟩) 8 cap, .int .i64 i] w fun e w' => e = .returned (.int .u32 (leN ((s.drop i).take 4) : Nat)) ∧ Below w.heap.size w w' := by
  have hlt : leN ((s.drop i).take 4) < 4294967296 := by
    have h1 := leN_lt ((s.drop i).take 4)
    have h2 : ((s.drop i).take 4).length = 4 := by simp; omega
    rw [h2] at h1
    exact h1
  have hg := get_ok b off 8 cap i 4 s hs hc8 hcm (by omega) (by omega) (by omega) w hb hc
  have HG := Lib.hid hg; clear hg hc hs
  obtain ⟨m, hm⟩ : ∃ m : Nat, leN ((s.drop i).take 4) = m := ⟨_, rfl⟩
  rw [hm] at hlt HG ⊢
  clear hm
  have h0 : (0 : Int) ≤ m := by omega
  have h1 : (m : Int) ≤ 4294967295 := by omega
  go_enter Tryd.func98, Tryd.ntmps98
  go_wp2_with fail
  refine HG.out.mono ?_
  rintro e w1 ⟨rfl, b1⟩
  go_wp2_with fail
  go_ret
  exact ⟨rfl, b1⟩

set_option maxHeartbeats 2000000 in
theorem take_any (x : W4) (b off cap : Nat) (s : List UInt8) (hs : s.length = 8) (hc8 : 8 ≤ cap) (hcm : cap ≤ 9223372036854775807) (w : World) (hb : b < w.heap.size)
    (hc : ∀ i (h : i < s.length), w.cell? ⟨b, off + i, none⟩ = some (.int .u8 ((s[i]).toNat : Int))) :
    Calls Tryd.prog 91 #[ag x, .slice (some ⟨b, off, none⟩) 8 cap] w fun e w' => e = .returned (ag (stepW x (BitVec.ofNat 32 (leN (s.take 4))) (BitVec.ofNat 32 (leN ((s.drop 4).take 4))))) ∧ Below w.heap.size w w' := by
  have r2 := xor32
  have hb0 : Blk ((w.alloc (.cells (cl x) 115)).alloc (.cells #[.int .u32 0, .int .u32 0, .int .u32 0, .int .u32 0] 115)) w.heap.size 115 (cl x) := (Blk.new w _ _).alloc _
  have hr0 := Blk.new (w.alloc (.cells (cl x) 115)) 115 #[.int .u32 0, .int .u32 0, .int .u32 0, .int .u32 0]
  have hB0 : Below w.heap.size w ((w.alloc (.cells (cl x) 115)).alloc (.cells #[.int .u32 0, .int .u32 0, .int .u32 0, .int .u32 0] 115)) := ((Below.refl _ w).alloc (Nat.le_refl _) _).alloc (by simp) _
  rw [World.size_alloc] at hr0
  have wd : ∀ (z : Int) (i : Nat), z = i → i + 4 ≤ 8 → ∀ W, Below w.heap.size w W → Calls Tryd.prog 98 #[.slice (some ⟨b, off, none⟩) 8 cap, .int .i64 z] W fun e w' => e = .returned (.int .u32 ((BitVec.ofNat 32 (leN ((s.drop i).take 4))).toNat : Int)) ∧ Below W.heap.size W w' := fun z i hz hi W hW => by
    subst hz
    have e1 : (BitVec.ofNat 32 (leN ((s.drop i).take 4))).toNat = leN ((s.drop i).take 4) := by
      rw [BitVec.toNat_ofNat]
      have h1 := leN_lt ((s.drop i).take 4)
      have h2 : ((s.drop i).take 4).length = 4 := by simp; omega
      rw [h2] at h1
      exact Nat.mod_eq_of_lt h1
    rw [e1]
    exact word_any b off cap i s hs hc8 hcm hi W (Nat.lt_of_lt_of_le hb hW.size) (fun j hj => (hW.cell (p := ⟨b, off + j, none⟩) hb).trans (hc j hj))
  obtain ⟨m, hm⟩ : ∃ m, BitVec.ofNat 32 (leN (s.take 4)) = m := ⟨_, rfl⟩
  obtain ⟨n, hn⟩ : ∃ n, BitVec.ofNat 32 (leN ((s.drop 4).take 4)) = n := ⟨_, rfl⟩
  have wd0 := wd 0 0 rfl (by omega)
  have wd4 := wd 4 4 rfl (by omega)
  rw [List.drop_zero, hm] at wd0
  rw [hn] at wd4
  rw [hm, hn]
  clear hc hs wd hm hn
  have WD0 := Lib.hid wd0; clear wd0
  have WD4 := Lib.hid wd4; clear wd4
  obtain ⟨w0, hw0⟩ : ∃ w0, ((w.alloc (.cells (cl x) 115)).alloc (.cells #[.int .u32 0, .int .u32 0, .int .u32 0, .int .u32 0] 115)) = w0 := ⟨_, rfl⟩
  rw [hw0] at hb0 hr0 hB0
  have HW0 := Lib.hid hw0; clear hw0
  obtain ⟨a, bb, c, d⟩ := x
  have c0 := hb0.cell 0
  have f := fun i => hb0.frozen i
  have HB0 := Lib.hid hb0; clear hb0
  have HR0 := Lib.hid hr0; clear hr0
  have HBe := Lib.hid hB0; clear hB0
  go_enter Tryd.func91, Tryd.ntmps91
  go_wp2_with fail
  rw [HW0.out]
  go_region_with (first | (go_at_call 98; (refine (WD0.out _ ?_).mono ?_); exact HBe.out.drew; rintro e w1 ⟨rfl, b1⟩; have fr1 := (HB0.out.drew.below b1 HB0.out.lt).frozen 0; have cr1 := (HB0.out.drew.below b1 HB0.out.lt).cell 0))
  all_goals
    obtain ⟨w2, hw2⟩ : ∃ w2, w1.setCell ⟨w.heap.size, 0, none⟩ (.int .u32 ((xo a m).toNat : Int)) = w2 := ⟨_, rfl⟩
    have hb2 : Blk w2 w.heap.size 115 (cl ⟨xo a m, bb, c, d⟩) := hw2 ▸ (HB0.out.drew.below b1 HB0.out.lt).set_ 0 _
    have hr2 : Blk w2 (w.heap.size + 1) 115 #[.int .u32 0, .int .u32 0, .int .u32 0, .int .u32 0] := hw2 ▸ (HR0.out.drew.below b1 HR0.out.lt).far (by simp) _
    have he2 : Below w.heap.size w w2 := hw2 ▸ (HBe.out.drew.trans (b1.mono HBe.out.size)).setCell (p := ⟨w.heap.size, 0, none⟩) (Nat.le_refl _) _
    have HW2 := Lib.hid hw2; clear hw2
    clear b1 fr1 cr1 c0 f
    have c2 := hb2.cell 2
    have f := fun i => hb2.frozen i
    have HB2 := Lib.hid hb2; clear hb2
    have HR2 := Lib.hid hr2; clear hr2
    have HE2 := Lib.hid he2; clear he2
    rw [HW2.out]
    go_wp2_with fail
    go_region_with (first | (go_at_call 98; (refine (WD4.out _ ?_).mono ?_); exact HE2.out.drew; rintro e w3 ⟨rfl, b3⟩; have fr1 := (HB2.out.drew.below b3 HB2.out.lt).frozen 2; have cr1 := (HB2.out.drew.below b3 HB2.out.lt).cell 2))
    all_goals
      obtain ⟨w4, hw4⟩ : ∃ w4, w3.setCell ⟨w.heap.size, 2, none⟩ (.int .u32 ((xo c n).toNat : Int)) = w4 := ⟨_, rfl⟩
      have hb4 : Blk w4 w.heap.size 115 (cl ⟨xo a m, bb, xo c n, d⟩) := hw4 ▸ (HB2.out.drew.below b3 HB2.out.lt).set_ 2 _
      have hr4 : Blk w4 (w.heap.size + 1) 115 #[.int .u32 0, .int .u32 0, .int .u32 0, .int .u32 0] := hw4 ▸ (HR2.out.drew.below b3 HR2.out.lt).far (by simp) _
      have he4 : Below w.heap.size w w4 := hw4 ▸ (HE2.out.drew.trans (b3.mono HE2.out.size)).setCell (p := ⟨w.heap.size, 2, none⟩) (Nat.le_refl _) _
      have HW4 := Lib.hid hw4; clear hw4
      clear b3 fr1 cr1 c2 f
      have c0 := hb4.cell 0
      have c1 := hb4.cell 1
      have c2 := hb4.cell 2
      have c3 := hb4.cell 3
      have HB4 := Lib.hid hb4; clear hb4
      have HR4 := Lib.hid hr4; clear hr4
      have HE4 := Lib.hid he4; clear he4
      rw [HW4.out]
      go_wp2_with fail
      refine (turns_any ⟨xo a m, bb, xo c n, d⟩ 4 (by omega) _).mono ?_
      rintro e w5 ⟨rfl, b5⟩
      have hr5 := HR4.out.below b5 HR4.out.lt
      have he5 := HE4.out.trans (b5.mono HE4.out.size)
      have f := fun i => hr5.frozen i
      have d0 := hr5.cell 0
      have d1 := hr5.cell 1
      have d2 := hr5.cell 2
      have d3 := hr5.cell 3
      have HR5 := Lib.hid hr5; clear hr5
      have HE5 := Lib.hid he5; clear he5 b5
      obtain ⟨y, hy⟩ : ∃ y, turnsW 4 ⟨xo a m, bb, xo c n, d⟩ = y := ⟨_, rfl⟩
      rw [hy]
      have HY := Lib.hid hy; clear hy
      go_wp2_with fail
      have hR := HR5.out.set4 (.int .u32 (y.a.toNat : Int)) (.int .u32 (y.b.toNat : Int)) (.int .u32 (y.c.toNat : Int)) (.int .u32 (y.d.toNat : Int))
      have e0 := hR.cell 0
      have e1 := hR.cell 1
      have e2 := hR.cell 2
      have e3 := hR.cell 3
      have E := below_set4 HE5.out (g := w.heap.size + 1) (by omega) (.int .u32 (y.a.toNat : Int)) (.int .u32 (y.b.toNat : Int)) (.int .u32 (y.c.toNat : Int)) (.int .u32 (y.d.toNat : Int))
      clear hR
      exact bodyPost_ret (v := ag y) (by simp [results, Tryd.results91, go_sem, e0, e1, e2, e3]) rfl ⟨by rw [← HY.out]; rfl, E⟩
end Go.Proofs.YtldnelimemjaiaaDoor
/-
  A region that draws its order, at the wide fence, is walked as it is everywhere, where nothing in it is deferred.
-/
namespace Go.Proofs.YtldnelimemjaiaaDoor
open Go
set_option maxRecDepth 100000

section
variable {P : Program} {Q : Exit → Act → World → Prop} {md : Region.Mode} {m : Nat}

theorem rowsIn_of_rows_w {row : String} {args : Array Value} {w : World} {R : Value → World → Prop} (h : Rows P row args w R) : RowsIn Fence.wide m P row args w R :=
  fun c cs _ => let ⟨v, w', r, s⟩ := h c cs; ⟨v, w', r, stepsIn_wide.2 s⟩

theorem uponIn_of_upon_w {o : Oper} {a : Act} {K K' : Act → World → Prop} (hK : ∀ a w, K a w → K' a w) {r : Result Next} (h : o.upon P a K Q r) : o.uponIn Fence.wide m P a K' Q r := by
  cases r with
  | ok x w' =>
    cases x <;> simp only [Oper.upon, Oper.uponIn] at h ⊢
    case value => exact hK _ _ h
    case skip => exact hK _ _ h
    case defer => exact hK _ _ h
    case enter f args =>
      refine ⟨fun h => by simp [Fence.wide] at h, CallsIn.mono (callsIn_wide.2 h) fun e w'' he => ?_⟩
      cases e <;> first | exact hK _ _ he | exact he
    case row row args => exact ⟨fun h => by simp [Fence.wide] at h, (rowsIn_of_rows_w h).mono fun _ _ he => hK _ _ he⟩
  | halt x w' => cases x <;> simp only [Oper.upon, Oper.uponIn] at h ⊢ <;> exact h

theorem wpAnyIn_of_wpAny_w {ops : List Oper} (hnd : noDefer ops = true) (hlo : ¬ LetsOut Q) : ∀ (fuel : Nat) (listed : Array Bool) (a : Act) (w : World), wpAny P md ops.toArray Q fuel listed a w → wpAnyIn Fence.wide m P md ops.toArray Q fuel listed a w
  | 0, _, _, _, h => h
  | fuel + 1, listed, a, w, h => by
    refine ⟨h.1, fun i hi => ?_⟩
    have hop := h.2 i hi
    have ih : ∀ a w, wpAny P md ops.toArray Q fuel (listed.setIfInBounds i true) a w → wpAnyIn Fence.wide m P md ops.toArray Q fuel (listed.setIfInBounds i true) a w := fun a w => wpAnyIn_of_wpAny_w hnd hlo fuel _ a w
    unfold wpOp at hop
    unfold wpOpIn
    cases ho : ops.toArray[i]? with
    | none => rw [ho] at hop; exact ih _ _ hop
    | some o =>
      rw [ho] at hop
      have hmem : o ∈ ops := by
        rw [List.getElem?_toArray] at ho
        exact List.mem_of_getElem? ho
      simp only at hop ⊢
      split
      · rename_i hw
        rw [if_pos hw] at hop
        rcases hop with hop | ⟨_, hl⟩
        · refine ⟨fun _ _ => trivial, ?_⟩
          show Oper.uponIn _ _ _ _ _ _ _ (Sem.run P (o.semAt none a.eval) w)
          rw [Oper.semAt_none]
          exact uponIn_of_upon_w ih hop
        · exact absurd hl hlo
      · rename_i hw
        rw [if_neg hw] at hop
        exact ⟨fun _ _ => trivial, ih _ _ hop⟩

/-- A region that draws its order, in a function that stands in a fence: as everywhere, where nothing is deferred. -/
theorem region_wide {ops : List Oper} {id : Nat} {a : Act} {w : World} (hm : P.follows .mixedOrders = true) (hnd : noDefer ops = true) (hlo : ¬ LetsOut Q)
    (h : wpAny P .any ops.toArray Q ops.length (Array.replicate ops.length false) a w.drew) : (Code.region id ops.toArray true).wpIn Fence.wide m P Q a w :=
  wpIn_region_any hm (by simpa using wpAnyIn_of_wpAny_w (m := m) hnd hlo _ _ _ _ h)

/-- Reads, and one write at the end: the reads in the text's order, then the write. -/
theorem region_wide_tail {ops : List Oper} {id : Nat} {a : Act} {w : World} (n : Nat) (hm : P.follows .mixedOrders = true) (hnd : noDefer ops = true) (hlo : ¬ LetsOut Q) (hB : Region.lexTailB .any ops.toArray n = true)
    (h : wpStill P ops.toArray w.drew (fun a' => wpList P ops.toArray Q (ops.drop n) a' w.drew) (ops.take n) a) : (Code.region id ops.toArray true).wpIn Fence.wide m P Q a w := by
  refine region_wide hm hnd hlo ?_
  simp only [Region.lexTailB, Bool.and_eq_true, decide_eq_true_eq] at hB
  obtain ⟨⟨⟨⟨hsel, hn⟩, hs⟩, hc⟩, hlex⟩ := hB
  have hn' : n < ops.length := by simpa using hn
  have ht : (ops.take n).length = n := by simp; omega
  have hst : HeadInv .any ops.toArray n (Array.replicate ops.toArray.size false) :=
    ⟨by simp, fun j oj _ hl => (by rw [getD_replicate_false] at hl; cases hl), fun t _ ht => getD_in (by simpa using ht) (getD_replicate_false _ _)⟩
  have H := wpAnyL_lex (md := .any) (g := ops.toArray.size - n) hsel hs hc hn (ops.take n) 0 _ a (fun j hj => by rw [ht] at hj; simp [hj]) (by omega) hst (by rw [ht]; exact hlex) h
  have G := wpAny_of_head (Q' := Q) (g := ops.toArray.size - n) (fun listed a' hL => by
    have := wpAny_of_seq (md := .any) (Q' := Q) (ops.drop n) n listed a' w.drew (fun j => by simp) (by simpa using hL.1) hL.2
    simpa using this) _ _ _ H
  have e : (ops.take n).length + (ops.toArray.size - n) = ops.length := by simp; omega
  rw [e] at G
  simpa using G
/-- The same, the world behind the draw under a name. -/
theorem region_wide_named {ops : List Oper} {id : Nat} {a : Act} {w w1 : World} (n : Nat) (hm : P.follows .mixedOrders = true) (hnd : noDefer ops = true) (hlo : ¬ LetsOut Q) (hB : Region.lexTailB .any ops.toArray n = true) (hw : w.drew = w1)
    (h : wpStill P ops.toArray w1 (fun a' => wpList P ops.toArray Q (ops.drop n) a' w1) (ops.take n) a) : (Code.region id ops.toArray true).wpIn Fence.wide m P Q a w := by
  subst hw
  exact region_wide_tail n hm hnd hlo hB h
end
end Go.Proofs.YtldnelimemjaiaaDoor
/-
  slices.Chunk of a slice of bytes by eights, of a length that eights make up, hands the loop its windows in their order.
-/
namespace Go.Proofs.YtldnelimemjaiaaDoor
open Go.RowKit Go.Shelf
set_option maxRecDepth 100000
attribute [local go_sem] Oper.semAt_some

/-- What the walk goes on reading: the box of the slice, and that of the size. -/
def ReachC (Bs Bn : Nat) (A : Option Addr) (q cap : Nat) (W : World) : Prop :=
  W.cell? ⟨Bs, 0, none⟩ = some (.slice A (8 * q) cap) ∧ W.cell? ⟨Bn, 0, none⟩ = some (.int .i64 8)

theorem chunk_in (F : Fence) (n : Nat) (h : F.fn 90) (hro : F.round = none) (a : Option Addr) (len cap : Nat) (w : World) :
    CallsIn F n Tryd.prog 90 #[.slice a len cap, .int .i64 8] w fun e w' => e = .returned (.func (.func 97) #[] #[.pointer (some ⟨w.heap.size, 0, none⟩), .pointer (some ⟨w.heap.size + 1, 0, none⟩)]) ∧
      w' = (w.alloc (.cells #[.slice a len cap] 44)).alloc (.cells #[.int .i64 8] 3) := by
  refine callsIn_of_wp Tryd.func90 rfl h ?_ hro
  simp only [Tryd.ntmps90, List.size_toArray, List.length_cons, List.length_nil, Nat.reduceAdd, Nat.reduceSub, Array.replicate_succ, Array.replicate_zero, List.push_toArray, List.append_toArray, List.nil_append, List.cons_append]
  gi_wp2
  go_ret
  exact ⟨rfl, rfl⟩

/-- s[l:], where it is not empty. -/
theorem slice_l (W : World) (g off len cap l : Nat) (hl : l < len) (hc : len ≤ cap) : (Instr.slice 44 (.slice (some ⟨g, off, none⟩) len cap) (some (.int .i64 (l : Int))) none none).run Tryd.prog W = .ok (.slice (some ⟨g, off + l, none⟩) (len - l) (cap - l)) W := by
  rw [run_slice_l W 44 _ _ _ (by kernel_rfl) .i64 _ (by omega) (by omega)]
  have hz : (Go.sizeOf (Tryd.prog.elem 44)).run Tryd.prog W = .ok 1 W := by kernel_rfl
  rw [hz]
  simp [Result.andThen, sliced, Addr.add]
  rw [if_neg (by omega)]
  by_cases h0 : l = 0
  · subst h0; simp
  · rw [if_neg h0]
/-- The window of number x. -/
@[reducible] def win (b off : Nat) (x : Nat) : Array Value := #[.slice (some ⟨b, off + 8 * x, none⟩) 8 8]

set_option maxHeartbeats 2000000 in
theorem chunk1_in (n : Nat) (hn : 1 ≤ n) (l Bs Bn b off q cap : Nat) (A : Option Addr) (hA : 0 < q → A = some ⟨b, off, none⟩) (hqc : 8 * q ≤ cap) (hcm : cap ≤ 9223372036854775807) (J Jx : List (Fin q) → World → Prop)
    (hY : ∀ pre x W, J pre W → pre.length < q → YieldAt Fence.wide (n - 1) Tryd.prog l (win b off x.val) W fun e W' =>
      (e = .returned (.bool true) ∧ J (pre ++ [x]) W' ∧ (ReachC Bs Bn A q cap W → ReachC Bs Bn A q cap W')) ∨ (e = .returned (.bool false) ∧ Jx (pre ++ [x]) W'))
    (hJd : ∀ pre W, J pre W → J pre W.drew)
    (W : World) (hR : ReachC Bs Bn A q cap W) (h0 : J [] W) :
    CallsIn Fence.wide n Tryd.prog 97 #[.func (.yield l) #[] #[], .pointer (some ⟨Bs, 0, none⟩), .pointer (some ⟨Bn, 0, none⟩)] W fun e W' => (∃ v, e = .returned v) ∧
      ((∃ ys, ys.map (·.val) = List.range q ∧ J ys W') ∨ (∃ pre, pre.map (·.val) = List.range pre.length ∧ Jx pre W')) := by
  refine callsIn_of_wp Tryd.func97 rfl trivial ?_ rfl
  simp only [Tryd.ntmps97, List.size_toArray, List.length_cons, List.length_nil, Nat.reduceAdd, Nat.reduceSub, Array.replicate_succ, Array.replicate_zero, List.push_toArray, List.append_toArray, List.nil_append, List.cons_append]
  have hmx : Tryd.prog.follows Departure.mixedOrders = true := by kernel_rfl
  have HR := Lib.hid hR
  clear hR
  gi_wp2
  gi_loopw [4] (fun i wr => ∃ pre : List (Fin q), pre.map (·.val) = List.range pre.length ∧ pre.length ≤ q ∧ i = .int .i64 ((8 * pre.length : Nat) : Int) ∧ J pre wr ∧ ReachC Bs Bn A q cap wr)
    (fun i _ => 8 * q - (intOf i).toNat)
  case atStart => exact ⟨[], rfl, Nat.zero_le _, rfl, h0, HR.out⟩
  case round =>
    obtain ⟨pre, hC, hle, rfl, hJs, hRs⟩ := hrel
    obtain ⟨k, hk⟩ : ∃ k, pre.length = k := ⟨_, rfl⟩
    have hb1 := hRs.1
    have hb2 := hRs.2
    obtain ⟨m, hm⟩ : ∃ m : Nat, 8 * k = m := ⟨_, rfl⟩
    obtain ⟨L, hL⟩ : ∃ L : Nat, 8 * q = L := ⟨_, rfl⟩
    rw [hL] at hb1
    rw [hk, hm]
    by_cases hlt : k < q
    · rw [hA (by omega)] at hb1
      have hmL : m < L := by omega
      have hm8 : m + 8 ≤ L := by omega
      have hLc : L ≤ cap := by omega
      have HRs := Lib.hid hRs; clear hRs
      have HM := Lib.hid hm; clear hm
      have HL := Lib.hid hL; clear hL
      have HK := Lib.hid hk; clear hk
      have h8 : ((m : Int) < (L : Int)) := by omega
      have h80 : (0 : Int) ≤ (m : Int) := by omega
      have h8m : (L : Int) ≤ 9223372036854775807 := by omega
      have hsl := fun W => slice_l W b off L cap m hmL hLc
      have hmin : min (8 : Int) ((L - m : Nat) : Int) = 8 := by omega
      gi_wp2
      refine region_wide_tail 6 hmx (by kernel_rfl) (fun h => by obtain ⟨_, _, ⟨v, hv⟩, _⟩ := h; cases hv) (by kernel_rfl) ?_
      simp only [List.take_succ_cons, List.take_zero, List.drop_succ_cons, List.drop_zero]
      repeat still_step
      refine wpStill_nil ?_
      obtain ⟨fn, tmps, assign, body, hy, hR⟩ := hY pre ⟨k, hlt⟩ wr.drew (hJd _ _ hJs) (by rw [HK.out]; exact hlt)
      have hw : win b off k = #[.slice (some ⟨b, off + m, none⟩) 8 8] := by rw [win, HM.out]
      dsimp only at hy
      rw [hw] at hy
      clear hw
      have HC := Lib.hid hC; clear hC
      go_wp2
      gi_wp2
      refine hR.mono ?_
      rintro e W3 (⟨rfl, hJ3, hk3⟩ | ⟨rfl, hJx3⟩)
      · have hr3 := hk3 HRs.out
        have hb3 := hr3.2
        have HR3 := Lib.hid hr3; clear hr3 hk3
        gi_wp2
        go_roundw
        case rel => exact ⟨pre ++ [⟨k, hlt⟩], by simp [HC.out, List.range_succ, HK.out], by simp; rw [HK.out]; omega, by simp [HK.out]; have := HM.out; omega, hJ3, HR3.out⟩
        case measure => simp [intOf]; have := HM.out; have := HL.out; omega
      · gi_wp2
        refine bodyPost_ret (results_none rfl _ _ _) rfl ?_
        exact ⟨⟨_, rfl⟩, .inr ⟨_, by simp [HC.out, List.range_succ, HK.out], hJx3⟩⟩
    · have hkq : k = q := by omega
      have hmL : m = L := by omega
      rw [hmL]
      have HRs := Lib.hid hRs; clear hRs
      have HM := Lib.hid hm; clear hm
      have HL := Lib.hid hL; clear hL
      have HK := Lib.hid hk; clear hk
      have HKQ := Lib.hid hkq; clear hkq
      have HC := Lib.hid hC; clear hC
      clear hmL
      gi_wp2
      go_end0
      exact ⟨⟨_, rfl⟩, .inl ⟨pre, by rw [HC.out, HK.out, HKQ.out], hJs⟩⟩

theorem reachC_putObj {Bs Bn : Nat} {A : Option Addr} {q cap : Nat} {W : World} (l : Nat) (o o' : Obj) (h : W.heap[l]? = some o) (ho : o.isCells = false) (hR : ReachC Bs Bn A q cap W) : ReachC Bs Bn A q cap (W.putObj l o') := by
  have hk : ∀ r, some l = some r → ∃ o : Obj, W.heap[r]? = some o ∧ o.isCells = false := fun r e => by cases e; exact ⟨_, h, ho⟩
  exact ⟨cell_kept hR.1 (grownBy_putObj' W l o') hk, cell_kept hR.2 (grownBy_putObj' W l o') hk⟩

theorem stopsC (n : Nat) (hn : 1 ≤ n) (Bs Bn b off q cap : Nat) (A : Option Addr) (hA : 0 < q → A = some ⟨b, off, none⟩) (hqc : 8 * q ≤ cap) (hcm : cap ≤ 9223372036854775807) (w : World) (hBs : Bs < w.heap.size) (hBn : Bn < w.heap.size) (hR : ReachC Bs Bn A q cap w) :
    SeqStopsK Fence.wide n Tryd.prog 97 #[.pointer (some ⟨Bs, 0, none⟩), .pointer (some ⟨Bn, 0, none⟩)] (fun x : Fin q => win b off x.val) (fun W W' => ReachC Bs Bn A q cap W → ReachC Bs Bn A q cap W')
      (fun ys => ys.map (·.val) = List.range q) (fun pre => pre.map (·.val) = List.range pre.length) q w := fun l J Jx W hW hJ _ hY h0 =>
  chunk1_in n hn l Bs Bn b off q cap A hA hqc hcm J Jx hY (fun s W1 h => hJ s W1 W1.drew none h (only_drew (World.grownBy.refl W1 none)) (fun r e => by cases e)) W
    ⟨(hW.cell (p := ⟨Bs, 0, none⟩) hBs).trans hR.1, (hW.cell (p := ⟨Bn, 0, none⟩) hBn).trans hR.2⟩ h0
end Go.Proofs.YtldnelimemjaiaaDoor
/-
  mix.Four, whatever bytes it is handed, answers the four words of these bytes; nothing that was there is written.
-/
namespace Go.Proofs.YtldnelimemjaiaaDoor
open Go.RowKit Go.Shelf
set_option maxRecDepth 100000
attribute [local go_sem] Oper.semAt_some

/-- b[:h], b nil or not. -/
theorem slice_to (W : World) (a : Option Addr) (len cap h : Nat) (hc : h ≤ cap) : (Instr.slice 44 (.slice a len cap) none (some (.int .i64 (h : Int))) none).run Tryd.prog W = .ok (.slice a h cap) W := by
  rw [run_slice_h W 44 _ _ _ (by kernel_rfl) .i64 _ (by omega) (by omega)]
  have hz : (Go.sizeOf (Tryd.prog.elem 44)).run Tryd.prog W = .ok 1 W := by kernel_rfl
  rw [hz]
  cases a <;> simp [Result.andThen, sliced, Addr.add]
/-- b[l:], b nil or not. -/
theorem slice_from (a : Option Addr) (len cap l : Nat) (hl : l ≤ len) (hc : len ≤ cap) : ∃ A', (∀ W : World, (Instr.slice 44 (.slice a len cap) (some (.int .i64 (l : Int))) none none).run Tryd.prog W = .ok (.slice A' (len - l) (cap - l)) W) ∧ (l < len → ∀ b off, a = some ⟨b, off, none⟩ → A' = some ⟨b, off + l, none⟩) := by
  have hz : ∀ W : World, (Go.sizeOf (Tryd.prog.elem 44)).run Tryd.prog W = .ok 1 W := fun W => by kernel_rfl
  cases a with
  | none =>
    refine ⟨none, fun W => ?_, fun _ b off h => by cases h⟩
    rw [run_slice_l W 44 _ _ _ (by kernel_rfl) .i64 _ (by omega) (by omega), hz]
    simp [Result.andThen, sliced]
    try omega
  | some x =>
    refine ⟨if cap = l then some x else some (if l = 0 then x else x.add l), fun W => ?_, fun h b off e => ?_⟩
    · rw [run_slice_l W 44 _ _ _ (by kernel_rfl) .i64 _ (by omega) (by omega), hz]
      have e0 : (if l = 0 then x else x.add l) = x.add l := by
        by_cases h0 : l = 0
        · subst h0; simp [Addr.add]
        · rw [if_neg h0]
      simp [Result.andThen, sliced, e0]
    · cases e
      rw [if_neg (by omega)]
      by_cases h0 : l = 0
      · subst h0; simp
      · rw [if_neg h0]; unfold Addr.add; rw [if_neg h0]

/-- Eight bytes of a text, one byte 1 and noughts behind it. -/
def octP (s : List UInt8) (j : Nat) : List UInt8 := [byteP s j, byteP s (j + 1), byteP s (j + 2), byteP s (j + 3), byteP s (j + 4), byteP s (j + 5), byteP s (j + 6), byteP s (j + 7)]
theorem octP_get (s : List UInt8) (j i : Nat) (h : i < (octP s j).length) : (octP s j)[i] = byteP s (j + i) := by
  have h8 : i < 8 := h
  have : i = 0 ∨ i = 1 ∨ i = 2 ∨ i = 3 ∨ i = 4 ∨ i = 5 ∨ i = 6 ∨ i = 7 := by omega
  rcases this with rfl | rfl | rfl | rfl | rfl | rfl | rfl | rfl <;> rfl
theorem octP_lo (s : List UInt8) (j : Nat) : (octP s j).take 4 = quadP s j := rfl
theorem octP_hi (s : List UInt8) (j : Nat) : ((octP s j).drop 4).take 4 = quadP s (j + 4) := rfl

/-- The words behind these pieces, whichever they are. -/
def foldP (s : List UInt8) (pre : List Nat) : W4 := pre.foldl (fun x k => stepW x (wordP s (8 * k)) (wordP s (8 * k + 4))) ⟨1, 2, 3, 4⟩
theorem foldP_snoc (s : List UInt8) (pre : List Nat) (k : Nat) : foldP s (pre ++ [k]) = stepW (foldP s pre) (wordP s (8 * k)) (wordP s (8 * k + 4)) := by simp [foldP]
theorem foldP_range (s : List UInt8) : ∀ k, foldP s (List.range k) = behind s k
  | 0 => rfl
  | k + 1 => by rw [List.range_succ, foldP_snoc, foldP_range s k]; rfl

theorem vals_length (s : List UInt8) : (vals s).length = s.length := by simp [vals]
/-- What copy lays at the beginning of eight noughts, and one byte 1 behind it. -/
theorem octP_laid (s : List UInt8) (L r : Nat) (hr : r < 8) (hs : s.length = L + r) :
    ((splice (List.replicate 8 (Value.int .u8 0)) 0 (vals (s.drop L))).toArray).setIfInBounds r (.int .u8 1) = (vals (octP s L)).toArray := by
  have hcl : (vals (s.drop L)).length = r := by rw [vals_length, List.length_drop]; omega
  obtain ⟨Z, hZ⟩ : ∃ Z, List.replicate 8 (Value.int .u8 0) = Z := ⟨_, rfl⟩
  have hZl : Z.length = 8 := by rw [← hZ]; rfl
  have hZg : ∀ i (h : i < Z.length), Z[i] = .int .u8 0 := by subst hZ; intro i h; exact List.getElem_replicate _
  rw [hZ]
  clear hZ
  have hlen : (splice Z 0 (vals (s.drop L))).length = 8 := by rw [length_splice _ _ _ (by omega), hZl]
  have ho : (vals (octP s L)).length = 8 := by rw [vals_length]; rfl
  apply Array.ext
  · rw [Array.size_setIfInBounds, List.size_toArray, List.size_toArray, hlen, ho]
  intro i h1 h2
  have hi8 : i < (octP s L).length := by rw [List.size_toArray, vals_length] at h2; exact h2
  have hi9 : i < 8 := hi8
  have hR : ((vals (octP s L)).toArray)[i] = .int .u8 ((byteP s (L + i)).toNat : Int) := by
    have hget := octP_get s L i hi8
    show (List.map (fun x : UInt8 => Value.int .u8 (x.toNat : Int)) (octP s L))[i]'(by rw [List.length_map]; exact hi8) = _
    rw [List.getElem_map, hget]
  refine Eq.trans ?_ hR.symm
  rw [Array.getElem_setIfInBounds (by rw [List.size_toArray, hlen]; exact hi9)]
  by_cases e : r = i
  · subst e
    rw [if_pos rfl]
    unfold byteP
    rw [dif_neg (by omega), if_pos (by omega)]
    rfl
  · rw [if_neg e]
    simp only [List.getElem_toArray, splice, List.take_zero, List.nil_append, Nat.zero_add]
    by_cases hlt : i < r
    · rw [List.getElem_append_left (by rw [hcl]; exact hlt)]
      simp only [vals, List.getElem_map, List.getElem_drop]
      unfold byteP
      rw [dif_pos (by omega)]
    · rw [List.getElem_append_right (by rw [hcl]; omega)]
      simp only [List.getElem_drop, hZg]
      unfold byteP
      rw [dif_neg (by omega), if_neg (by omega)]
      rfl

/-- What the loop of Four keeps: the block of x, that of the result, and what lay below. -/
def FourI (s : List UInt8) (g q : Nat) (w : World) (pre : List (Fin q)) (W : World) : Prop :=
  (Blk W (g + 1) 115 (cl (foldP s (pre.map (·.val)))) ∧ Blk W g 115 #[.int .u32 0, .int .u32 0, .int .u32 0, .int .u32 0]) ∧ Below g w W

theorem keepsOthers_below {W W' : World} (h : Below W.heap.size W W') : KeepsOthers W W' := ⟨h.size, fun k _ hk _ => (h.block k (Array.getElem?_eq_some_iff.1 hk).1).trans hk⟩
theorem keepsOthers_set4 (W : World) (g : Nat) (v0 v1 v2 v3 : Value) : KeepsOthers W ((((W.setCell ⟨g, 0, none⟩ v0).setCell ⟨g, 1, none⟩ v1).setCell ⟨g, 2, none⟩ v2).setCell ⟨g, 3, none⟩ v3) :=
  (((KeepsOthers.setCell _ _ _).trans (KeepsOthers.setCell _ _ _)).trans (KeepsOthers.setCell _ _ _)).trans (KeepsOthers.setCell _ _ _)
theorem cell_set4 {W : World} {g : Nat} {p : Addr} (hp : p.block ≠ g) (v0 v1 v2 v3 : Value) : ((((W.setCell ⟨g, 0, none⟩ v0).setCell ⟨g, 1, none⟩ v1).setCell ⟨g, 2, none⟩ v2).setCell ⟨g, 3, none⟩ v3).cell? p = W.cell? p := by
  have hne : ∀ i, (⟨g, i, none⟩ : Addr) ≠ p := fun i e => hp (by rw [← e])
  rw [World.cell?_setCell_other _ _ _ _ (hne 3), World.cell?_setCell_other _ _ _ _ (hne 2), World.cell?_setCell_other _ _ _ _ (hne 1), World.cell?_setCell_other _ _ _ _ (hne 0)]
theorem reachC_step {Bs Bn g : Nat} {A : Option Addr} {q cap : Nat} {W W1 : World} (hBs : Bs ≠ g) (hBn : Bn ≠ g) (hb : Below W.heap.size W W1) (v0 v1 v2 v3 : Value) (hR : ReachC Bs Bn A q cap W) :
    ReachC Bs Bn A q cap ((((W1.setCell ⟨g, 0, none⟩ v0).setCell ⟨g, 1, none⟩ v1).setCell ⟨g, 2, none⟩ v2).setCell ⟨g, 3, none⟩ v3) := by
  have h1 := World.block_lt_of_cell? W _ hR.1
  have h2 := World.block_lt_of_cell? W _ hR.2
  exact ⟨(cell_set4 (p := ⟨Bs, 0, none⟩) hBs _ _ _ _).trans ((hb.cell h1).trans hR.1), (cell_set4 (p := ⟨Bn, 0, none⟩) hBn _ _ _ _).trans ((hb.cell h2).trans hR.2)⟩
theorem blk_own {β : Type} (B : Nat) (t : TypeId) (f : β → Array Value) : Own (fun s W => Blk W B t (f s)) := fun s X Y row hs hg hrow =>
  Blk.grown hs hg (fun e' => by obtain ⟨o, ho, hc⟩ := hrow B e'.symm; rw [show X.heap[B]? = _ from hs] at ho; cases ho; cases hc)

set_option maxHeartbeats 2000000 in
theorem four_in (m : Nat) (hn : 3 ≤ m) (a : Option Addr) (len cap : Nat) (s : List UInt8) (w : World) (hA : Bsl w w.heap.size a len cap s) (hlen : len ≤ 4294967295) :
    CallsIn Fence.wide m Tryd.prog 77 #[.slice a len cap] w fun e W' => e = .returned (ag (fourW s)) ∧ Below w.heap.size w W' := by
  have hro : Fence.wide.round = none := rfl
  have hmx : Tryd.prog.follows Departure.mixedOrders = true := by kernel_rfl
  obtain ⟨q, hq⟩ : ∃ q, len / 8 = q := ⟨_, rfl⟩
  obtain ⟨r, hr⟩ : ∃ r, len % 8 = r := ⟨_, rfl⟩
  obtain ⟨L, hL⟩ : ∃ L, 8 * q = L := ⟨_, rfl⟩
  have hLl : L ≤ len := by omega
  have hlc := hA.2.1
  have hcm := hA.2.2.1
  have e1 : (len : Int) % 8 = (r : Int) := by omega
  have e2 : (len : Int) - (r : Int) = (L : Int) := by omega
  have hto := fun W => slice_to W a len cap L (by omega)
  obtain ⟨A', hfrom, hA'⟩ := slice_from a len cap L hLl hlc
  have i0 : (0 : Int) ≤ len := by omega
  have i1 : (len : Int) ≤ 4294967295 := by omega
  have i2 : (0 : Int) ≤ (r : Int) := by omega
  have i3 : (r : Int) ≤ 7 := by omega
  have HA := Lib.hid hA; clear hA
  have HA' := Lib.hid hA'; clear hA'
  have HQ := Lib.hid hq; clear hq
  have HR := Lib.hid hr; clear hr
  have HL := Lib.hid hL; clear hL
  have HFrom := Lib.hid hfrom; clear hfrom
  refine callsIn_of_wp_marks Tryd.func77 rfl trivial ?_ hro
  simp only [Tryd.ntmps77, List.size_toArray, List.length_cons, List.length_nil, Nat.reduceAdd, Nat.reduceSub, Array.replicate_succ, Array.replicate_zero, List.push_toArray, List.append_toArray, List.nil_append, List.cons_append]
  have hd : 1 ≤ m := by omega
  gi_wp2_with (refine ⟨trivial, ?_⟩; (gi_at_call 90; refine (chunk_in Fence.wide (m - 1) trivial hro _ _ _ _).mono ?_; rintro e w' ⟨rfl, rfl⟩))
  obtain ⟨g, hg⟩ : ∃ g, w.heap.size = g := ⟨_, rfl⟩
  obtain ⟨W0, hW0⟩ : ∃ W0, ((((w.alloc (Obj.cells #[Value.int IntKind.u32 0, Value.int IntKind.u32 0, Value.int IntKind.u32 0, Value.int IntKind.u32 0] 115)).alloc (Obj.cells #[Value.int IntKind.u32 1, Value.int IntKind.u32 2, Value.int IntKind.u32 3, Value.int IntKind.u32 4] 115)).alloc (Obj.cells #[Value.slice a L cap] 44)).alloc (Obj.cells #[Value.int IntKind.i64 8] 3)) = W0 := ⟨_, rfl⟩
  have hsz : W0.heap.size = g + 4 := by rw [← hW0]; simp [hg]
  have hB0 : Below g w W0 := by rw [← hW0, ← hg]; exact ((((Below.refl _ w).alloc (Nat.le_refl _) _).alloc (by simp) _).alloc (by simp; omega) _).alloc (by simp; omega) _
  have b0 : Blk W0 g 115 #[.int .u32 0, .int .u32 0, .int .u32 0, .int .u32 0] := by rw [← hW0, ← hg]; exact (((Blk.new w _ _).alloc _).alloc _).alloc _
  have b1 : Blk W0 (g + 1) 115 (cl ⟨1, 2, 3, 4⟩) := by
    have := ((Blk.new (w.alloc (Obj.cells #[Value.int IntKind.u32 0, Value.int IntKind.u32 0, Value.int IntKind.u32 0, Value.int IntKind.u32 0] 115)) 115 (cl ⟨1, 2, 3, 4⟩)).alloc (Obj.cells #[Value.slice a L cap] 44)).alloc (Obj.cells #[Value.int IntKind.i64 8] 3)
    rw [World.size_alloc, hg] at this
    rw [← hW0]
    exact this
  have b2 : Blk W0 (g + 2) 44 #[.slice a L cap] := by
    have := (Blk.new ((w.alloc (Obj.cells #[Value.int IntKind.u32 0, Value.int IntKind.u32 0, Value.int IntKind.u32 0, Value.int IntKind.u32 0] 115)).alloc (Obj.cells (cl ⟨1, 2, 3, 4⟩) 115)) 44 #[.slice a L cap]).alloc (Obj.cells #[Value.int IntKind.i64 8] 3)
    rw [World.size_alloc, World.size_alloc, hg] at this
    rw [← hW0]
    exact this
  have b3 : Blk W0 (g + 3) 3 #[.int .i64 8] := by
    have := (Blk.new (((w.alloc (Obj.cells #[Value.int IntKind.u32 0, Value.int IntKind.u32 0, Value.int IntKind.u32 0, Value.int IntKind.u32 0] 115)).alloc (Obj.cells (cl ⟨1, 2, 3, 4⟩) 115)).alloc (Obj.cells #[Value.slice a L cap] 44)) 3 #[.int .i64 8])
    rw [World.size_alloc, World.size_alloc, World.size_alloc, hg] at this
    rw [← hW0]
    exact this
  obtain ⟨b, off, hbo⟩ : ∃ b off, 0 < len → a = some ⟨b, off, none⟩ ∧ b < g ∧ ∀ i (h : i < s.length), w.cell? ⟨b, off + i, none⟩ = some (.int .u8 ((s[i]).toNat : Int)) := by
    rcases Nat.eq_zero_or_pos len with h0 | h0
    · exact ⟨0, 0, fun h => by omega⟩
    · obtain ⟨b, off, h1, h2, h3⟩ := HA.out.2.2.2.2 h0
      exact ⟨b, off, fun _ => ⟨h1, by omega, h3⟩⟩
  have hqL : 8 * q = L := HL.out
  rw [hW0, hg]
  have hR : ReachC (g + 2) (g + 3) a q cap W0 := ⟨by rw [hqL]; exact b2.cell 0, b3.cell 0⟩
  refine wpIn_rangeFunc_ownG hro hd (gf := 97) (lb := #[.pointer (some ⟨g + 1 + 1, 0, none⟩), .pointer (some ⟨g + 1 + 1 + 1, 0, none⟩)]) rfl trivial (enters_of Tryd.func97 (by kernel_rfl) rfl)
    (stopsC (m - 1) (by omega) (g + 1 + 1) (g + 1 + 1 + 1) b off q cap a (fun h => (hbo (by omega)).1) (by omega) (by unfold maxLen at hcm; omega) W0 (by omega) (by omega) hR) (fun h k r => k (h r)) (fun W l o o' _ h ho _ => reachC_putObj l o o' h ho) (Below.refl _ _) (fun _ => rfl)
    (FourI s g q w) (fun _ _ _ => False) ?hI (fun _ _ _ _ _ hs _ _ => hs) ⟨⟨b1, b0⟩, hB0⟩
    (fun x => { tmps := #[Value.slice a len cap, undef, Value.pointer (some { block := g, off := 0 }), Value.pointer (some { block := g + 1, off := 0 }), Value.int IntKind.i64 ↑L, .slice (some ⟨b, off + 8 * x.val, none⟩) 8 8, undef, Value.agg #[Value.int IntKind.u32 1, Value.int IntKind.u32 2, Value.int IntKind.u32 3, Value.int IntKind.u32 4], Value.slice a len cap, Value.int IntKind.i64 ↑len, Value.slice a len cap, Value.int IntKind.i64 ↑len, Value.int IntKind.i64 ↑r, Value.int IntKind.i64 ↑L, Value.slice a len cap, Value.int IntKind.i64 ↑L, Value.slice a L cap, Value.func (Fn.func 97) #[] #[Value.pointer (some { block := g + 1 + 1, off := 0 }), Value.pointer (some { block := g + 1 + 1 + 1, off := 0 })], .slice (some ⟨b, off + 8 * x.val, none⟩) 8 8, undef, undef, undef, undef, undef, undef, undef, undef, undef, undef, undef, undef, undef, undef, undef, undef, undef, undef, undef, undef, undef], defers := [] }) ?assign ?body ?done ?stop
  case hI => exact OwnFrom.and (OwnFrom.and ((blk_own _ _ _).from _) ((blk_own _ _ _).from _)) (ownFrom_below (by omega) (by omega))
  case assign =>
    intro l x W K hK
    gi_wp2
    exact hK
  case body =>
    rintro l pre x W ⟨⟨hx, hr0⟩, hB⟩ _
    have c0 := hx.cell 0
    have c1 := hx.cell 1
    have c2 := hx.cell 2
    have c3 := hx.cell 3
    have hbt := hbo (by have := x.isLt; omega)
    have htk := take_any (foldP s (pre.map (·.val))) b (off + 8 * x.val) 8 (octP s (8 * x.val)) rfl (by omega) (by omega) W (Nat.lt_of_lt_of_le hbt.2.1 (by rw [← hg]; exact hB.size)) (fun i hi => by
      have hi8 : i < 8 := hi
      have hxq := x.isLt
      have hls : s.length = len := HA.out.1
      rw [octP_get, Nat.add_assoc, hB.cell (p := ⟨b, off + (8 * x.val + i), none⟩) hbt.2.1, hbt.2.2 (8 * x.val + i) (by omega)]
      unfold byteP
      rw [dif_pos (by omega)])
    rw [octP_lo, octP_hi] at htk
    have HX := Lib.hid hx; clear hx
    have HR0 := Lib.hid hr0; clear hr0
    have HB := Lib.hid hB; clear hB
    have HT := Lib.hid htk; clear htk
    have HBO := Lib.hid hbo; clear hbo
    have HBT := Lib.hid hbt; clear hbt
    have hd2 : 1 ≤ m - 1 - 1 := by omega
    gi_wp2
    refine ⟨trivial, ?_⟩
    refine (CallsIn.inRound l (callsIn_wide.2 HT.out)).mono ?_
    rintro e W1 ⟨rfl, bb⟩
    have hx1 := HX.out.below bb HX.out.lt
    have hr1 := HR0.out.below bb HR0.out.lt
    have hb1 := HB.out.trans (bb.mono (by rw [← hg]; exact HB.out.size))
    have f := fun i => hx1.frozen i
    have d0 := hx1.cell 0
    have d1 := hx1.cell 1
    have d2 := hx1.cell 2
    have d3 := hx1.cell 3
    have HX1 := Lib.hid hx1; clear hx1
    have HR1 := Lib.hid hr1; clear hr1
    have HB1 := Lib.hid hb1; clear hb1
    have HBB := Lib.hid bb; clear bb
    clear c0 c1 c2 c3
    have hy : foldP s ((pre ++ [x]).map (·.val)) = stepW (foldP s (pre.map (·.val))) (BitVec.ofNat 32 (leN (quadP s (8 * x.val)))) (BitVec.ofNat 32 (leN (quadP s (8 * x.val + 4)))) := by rw [List.map_append, List.map_cons, List.map_nil, foldP_snoc]; rfl
    obtain ⟨y, hy'⟩ : ∃ y, stepW (foldP s (pre.map (·.val))) (BitVec.ofNat 32 (leN (quadP s (8 * x.val)))) (BitVec.ofNat 32 (leN (quadP s (8 * x.val + 4)))) = y := ⟨_, rfl⟩
    rw [hy'] at hy ⊢
    clear hy' HT
    have HY := Lib.hid hy; clear hy
    gi_wp2
    exact ⟨((keepsOthers_below HBB.out).trans (keepsOthers_set4 _ _ _ _ _ _)).from _, fun hr => reachC_step (by omega) (by omega) HBB.out _ _ _ _ hr,
      ⟨by rw [HY.out]; exact HX1.out.set4 _ _ _ _, (((HR1.out.far (by simp) _).far (by simp) _).far (by simp) _).far (by simp) _⟩, below_set4 HB1.out (by omega) _ _ _ _⟩
  case done =>
    rintro D ys W hD hC ⟨⟨hx, hr0⟩, hB⟩ hK
    have hC' : ys.map (·.val) = List.range q := hC
    rw [hC', foldP_range] at hx
    clear hC hC'
    have hD' : g + 4 ≤ D := by omega
    have HX := Lib.hid hx; clear hx
    have HR0 := Lib.hid hr0; clear hr0
    have HB := Lib.hid hB; clear hB
    have HK := Lib.hid hK; clear hK
    have HBO := Lib.hid hbo; clear hbo
    have hfr := HFrom.out
    have HSZ := Lib.hid hsz; clear hsz
    have HW0 := Lib.hid hW0; clear hW0
    have HG := Lib.hid hg; clear hg
    have HQL := Lib.hid hqL; clear hqL
    have HB0 := Lib.hid hB0; clear hB0 b0 b1 b2 b3 hR
    gi_wp2
    obtain ⟨t, ht⟩ : ∃ t, W.heap.size = t := ⟨_, rfl⟩
    obtain ⟨W1, hW1⟩ : ∃ W1, (W.alloc (Obj.cells #[Value.int IntKind.u8 0, Value.int IntKind.u8 0, Value.int IntKind.u8 0, Value.int IntKind.u8 0, Value.int IntKind.u8 0, Value.int IntKind.u8 0, Value.int IntKind.u8 0, Value.int IntKind.u8 0] 132)).drew = W1 := ⟨_, rfl⟩
    have hbt : Blk W1 t 132 (List.replicate 8 (Value.int .u8 0)).toArray := by rw [← hW1, ← ht]; exact (Blk.new W _ _).drew
    have hx1 : Blk W1 (g + 1) 115 (cl (behind s q)) := by rw [← hW1]; exact (HX.out.alloc _).drew
    have hr1 : Blk W1 g 115 #[.int .u32 0, .int .u32 0, .int .u32 0, .int .u32 0] := by rw [← hW1]; exact (HR0.out.alloc _).drew
    have hgW : g ≤ W.heap.size := by rw [← HG.out]; exact HB.out.size
    have hb1 : Below g w W1 := by rw [← hW1]; exact (HB.out.alloc hgW _).drew
    have hk1 : W1.heap[D]? = some (.deferred (some [])) := by
      rw [← hW1]
      exact (Below.heap_alloc W _ D (Array.getElem?_eq_some_iff.1 HK.out).1).trans HK.out
    have hst : W1.heap.size = t + 1 := by rw [← hW1, ← ht]; simp
    have hgt : g + 1 < t := by rw [← ht]; exact HX.out.lt
    have hDt : D < t := by rw [← ht]; exact (Array.getElem?_eq_some_iff.1 HK.out).1
    rw [ht]
    have HW1 := Lib.hid hW1; clear hW1
    have HT := Lib.hid ht; clear ht
    have HBT := Lib.hid hbt; clear hbt
    have HX1 := Lib.hid hx1; clear hx1
    have HR1 := Lib.hid hr1; clear hr1
    have HB1 := Lib.hid hb1; clear hb1
    have HK1 := Lib.hid hk1; clear hk1
    have HST := Lib.hid hst; clear hst
    refine region_wide_named 4 hmx (by kernel_rfl) (fun h => by obtain ⟨_, _, h, _⟩ := h; cases h) (by kernel_rfl) HW1.out ?_
    simp only [List.take_succ_cons, List.take_zero, List.drop_succ_cons, List.drop_zero]
    repeat still_step
    refine wpStill_nil ?_
    have hls : s.length = L + r := by rw [HA.out.1]; have := HQ.out; have := HR.out; have := HQL.out; omega
    have hcl : (vals (s.drop L)).length = r := by rw [vals_length, List.length_drop]; omega
    refine wpList_copy_splice rfl (.tmp 22) (.tmp 25) 44 44 rfl 5 Tryd.underlying44 (by kernel_rfl) (some ⟨t, 0, none⟩) A' 8 8 (len - L) (cap - L) rfl rfl t 0 (List.replicate 8 (.int .u8 0)) 132 HBT.out (vals (s.drop L)) ?_ ?_ ?_ ?_ t W1 (Below.refl _ _) (Nat.le_refl _) ?_
    · rw [hcl]
      have : len - L = r := by have := HA.out.1; omega
      rw [this]
      show r = min r 8
      omega
    · intro hpos
      have hlp : L < len := by have := HA.out.1; omega
      obtain ⟨ea, hbg, hc⟩ := HBO.out (by omega)
      refine ⟨rfl, ⟨b, off + L, none⟩, HA'.out hlp b off ea, fun j v hv => ?_⟩
      obtain ⟨hj, rfl⟩ := vals_get hv
      have hj' : L + j < s.length := by rw [List.length_drop] at hj; omega
      have e1 : (⟨b, off + L, none⟩ : Addr).add j = ⟨b, off + (L + j), none⟩ := by
        unfold Addr.add
        by_cases h0 : j = 0
        · subst h0; simp
        · rw [if_neg h0]; simp; omega
      rw [e1, HB1.out.cell (p := ⟨b, off + (L + j), none⟩) hbg, hc (L + j) hj']
      simp only [List.getElem_drop]
    · rw [hcl]; simp; omega
    · intro v hv
      obtain ⟨y, _, rfl⟩ := List.mem_map.1 hv
      rfl
    · intro W2 hh hb2
      rw [hcl]
      have hbt2 : Blk W2 t 132 (splice (List.replicate 8 (Value.int .u8 0)) 0 (vals (s.drop L))).toArray := hh.out
      have hsp : (splice (List.replicate 8 (Value.int .u8 0)) 0 (vals (s.drop L))).length = 8 := by rw [length_splice _ _ _ (by rw [hcl]; simp; omega)]; rfl
      have hlr : ∃ u, W2.cell? ⟨t, r, none⟩ = some u := by
        rw [hbt2.cell r]
        exact ⟨_, Array.getElem?_eq_getElem (by rw [List.size_toArray, hsp]; omega)⟩
      obtain ⟨u, hu⟩ := hlr
      have hfz := hbt2.frozen r
      have hset := octP_laid s L r (by omega) hls
      have j0 : (r : Int) < 8 := by omega
      have hx2 := HX1.out.below hb2 hgt
      have hr2 := HR1.out.below hb2 (by omega)
      have hbw2 : Below g w W2 := HB1.out.trans (hb2.mono (by omega))
      have hk2 : W2.heap[D]? = some (.deferred (some [])) := (hb2.block D hDt).trans HK1.out
      have HX2 := Lib.hid hx2; clear hx2
      have HR2 := Lib.hid hr2; clear hr2
      have HBW2 := Lib.hid hbw2; clear hbw2
      have HK2 := Lib.hid hk2; clear hk2
      have HBT2 := Lib.hid hbt2; clear hbt2
      have HSET := Lib.hid hset; clear hset
      have HLS := Lib.hid hls; clear hls
      have HCL := Lib.hid hcl; clear hcl
      have HB2 := Lib.hid hb2; clear hb2
      clear hsp hh
      go_wp2
      gi_wp2
      obtain ⟨W3, hW3⟩ : ∃ W3, (W2.setCell ⟨t, r, none⟩ (Value.int IntKind.u8 1)).drew = W3 := ⟨_, rfl⟩
      have hbt3 : Blk W3 t 132 (vals (octP s L)).toArray := by rw [← hW3, ← HSET.out]; exact (HBT2.out.set_ r _).drew
      have hx3 : Blk W3 (g + 1) 115 (cl (behind s q)) := by rw [← hW3]; exact (HX2.out.far (by simp; omega) _).drew
      have hr3 : Blk W3 g 115 #[.int .u32 0, .int .u32 0, .int .u32 0, .int .u32 0] := by rw [← hW3]; exact (HR2.out.far (by simp; omega) _).drew
      have hb3 : Below g w W3 := by rw [← hW3]; exact (HBW2.out.setCell (p := ⟨t, r, none⟩) (by simp; omega) _).drew
      have hk3 : W3.heap[D]? = some (.deferred (some [])) := by rw [← hW3]; exact (Below.heap_setCell W2 ⟨t, r, none⟩ _ D (by simp; omega)).trans HK2.out
      have htk := take_any (behind s q) t 0 8 (octP s L) rfl (by omega) (by omega) W3 hbt3.lt (fun i hi => by
        have hi8 : i < 8 := hi
        rw [Nat.zero_add, hbt3.cell i, List.getElem?_toArray]
        show (List.map _ (octP s L))[i]? = _
        rw [List.getElem?_map, List.getElem?_eq_getElem hi]
        rfl)
      rw [octP_lo, octP_hi] at htk
      have hst : stepW (behind s q) (BitVec.ofNat 32 (leN (quadP s L))) (BitVec.ofNat 32 (leN (quadP s (L + 4)))) = behind s (q + 1) := by rw [← HQL.out]; rfl
      rw [hst] at htk
      have c0 := hx3.cell 0
      have c1 := hx3.cell 1
      have c2 := hx3.cell 2
      have c3 := hx3.cell 3
      have HW3 := Lib.hid hW3; clear hW3
      have HTK := Lib.hid htk; clear htk hst
      have HX3 := Lib.hid hx3; clear hx3
      have HR3 := Lib.hid hr3; clear hr3
      have HB3 := Lib.hid hb3; clear hb3
      have HK3 := Lib.hid hk3; clear hk3
      clear hbt3 hfz hu
      refine region_wide_named 2 hmx (by kernel_rfl) (fun h => by obtain ⟨_, _, h, _⟩ := h; cases h) (by kernel_rfl) HW3.out ?_
      simp only [List.take_succ_cons, List.take_zero, List.drop_succ_cons, List.drop_zero]
      repeat still_step
      refine wpStill_nil ?_
      go_wp2_with fail
      refine HTK.out.mono ?_
      rintro e W4 ⟨rfl, b4⟩
      obtain ⟨y, hy⟩ : ∃ y, behind s (q + 1) = y := ⟨_, rfl⟩
      rw [hy]
      have hx4 := HX3.out.below b4 HX3.out.lt
      have hr4 := HR3.out.below b4 HR3.out.lt
      have hb4 : Below g w W4 := HB3.out.trans (b4.mono (by rw [← HG.out]; exact HB3.out.size))
      have hk4 : W4.heap[D]? = some (.deferred (some [])) := (b4.block D (Array.getElem?_eq_some_iff.1 HK3.out).1).trans HK3.out
      have f := fun i => hx4.frozen i
      have d0 := hx4.cell 0
      have d1 := hx4.cell 1
      have d2 := hx4.cell 2
      have d3 := hx4.cell 3
      have hxl : ∀ x : BitVec 32, bits .xor .u32 (x.toNat : Int) (len : Int) = ((xo x (BitVec.ofNat 32 len)).toNat : Int) := fun x => by
        have e : (BitVec.ofNat 32 len).toNat = len := by rw [BitVec.toNat_ofNat]; exact Nat.mod_eq_of_lt (by omega)
        have := xor32 x (BitVec.ofNat 32 len)
        rwa [e] at this
      have HY := Lib.hid hy; clear hy
      have HX4 := Lib.hid hx4; clear hx4
      have HR4 := Lib.hid hr4; clear hr4
      have HB4 := Lib.hid hb4; clear hb4
      have HK4 := Lib.hid hk4; clear hk4
      clear b4 c0 c1 c2 c3
      go_wp2
      obtain ⟨W5, hW5⟩ : ∃ W5, ((((W4.setCell ⟨g + 1, 0, none⟩ (.int .u32 (y.a.toNat : Int))).setCell ⟨g + 1, 1, none⟩ (.int .u32 (y.b.toNat : Int))).setCell ⟨g + 1, 2, none⟩ (.int .u32 (y.c.toNat : Int))).setCell ⟨g + 1, 3, none⟩ (.int .u32 (y.d.toNat : Int))) = W5 := ⟨_, rfl⟩
      have hx5 : Blk W5 (g + 1) 115 (cl y) := hW5 ▸ HX4.out.set4 _ _ _ _
      have hr5 : Blk W5 g 115 #[.int .u32 0, .int .u32 0, .int .u32 0, .int .u32 0] := hW5 ▸ (((HR4.out.far (by simp) _).far (by simp) _).far (by simp) _).far (by simp) _
      have hb5 : Below g w W5 := hW5 ▸ below_set4 HB4.out (by omega) _ _ _ _
      have hk5 : W5.heap[D]? = some (.deferred (some [])) := hW5 ▸ (keepsOthers_set4 W4 (g + 1) _ _ _ _).same D _ HK4.out rfl
      rw [hW5]
      clear hW5 f d0 d1 d2 d3 e1 e2 hto hfr HX4 HR4 HB4 HK4
      have f := fun i => hx5.frozen i
      have d0 := hx5.cell 0
      have d1 := hx5.cell 1
      have d2 := hx5.cell 2
      have d3 := hx5.cell 3
      have HX5 := Lib.hid hx5; clear hx5
      have HR5 := Lib.hid hr5; clear hr5
      have HB5 := Lib.hid hb5; clear hb5
      have HK5 := Lib.hid hk5; clear hk5
      gi_wp2_with (fail)
      refine ⟨trivial, ?_⟩
      refine (callsIn_wide.2 (turns_any ⟨y.a, xo y.b (BitVec.ofNat 32 len), y.c, y.d⟩ 8 (by omega) _)).mono ?_
      rintro e W6 ⟨rfl, b6⟩
      have hz : turnsW 8 ⟨y.a, xo y.b (BitVec.ofNat 32 len), y.c, y.d⟩ = fourW s := by
        have h1 : s.length = len := HA.out.1
        have h2 : len / 8 = q := HQ.out
        unfold fourW
        rw [h1, h2, HY.out]
      rw [hz]
      obtain ⟨z, hz'⟩ : ∃ z, fourW s = z := ⟨_, rfl⟩
      rw [hz']
      have hr6 : Blk W6 g 115 _ := (HR5.out.far (p := ⟨g + 1, 1, none⟩) (by simp) (.int .u32 ((xo y.b (BitVec.ofNat 32 len)).toNat : Int))).below b6 (by simp; exact HR5.out.lt)
      have hb6 : Below g w W6 := (HB5.out.setCell (p := ⟨g + 1, 1, none⟩) (by simp) _).trans (b6.mono (by simp; rw [← HG.out]; exact HB5.out.size))
      have hk6 : W6.heap[D]? = some (.deferred (some [])) := (b6.block D (by simp; exact (Array.getElem?_eq_some_iff.1 HK5.out).1)).trans ((Below.heap_setCell W5 ⟨g + 1, 1, none⟩ _ D (by simp; omega)).trans HK5.out)
      have HZ := Lib.hid hz'; clear hz' hz
      clear f d0 d1 d2 d3 b6
      have f := fun i => hr6.frozen i
      have d0 := hr6.cell 0
      have d1 := hr6.cell 1
      have d2 := hr6.cell 2
      have d3 := hr6.cell 3
      have HR6 := Lib.hid hr6; clear hr6
      have HB6 := Lib.hid hb6; clear hb6
      have HK6 := Lib.hid hk6; clear hk6
      gi_wp2_with (fail)
      obtain ⟨W7, hW7⟩ : ∃ W7, ((((W6.setCell ⟨g, 0, none⟩ (.int .u32 (z.a.toNat : Int))).setCell ⟨g, 1, none⟩ (.int .u32 (z.b.toNat : Int))).setCell ⟨g, 2, none⟩ (.int .u32 (z.c.toNat : Int))).setCell ⟨g, 3, none⟩ (.int .u32 (z.d.toNat : Int))) = W7 := ⟨_, rfl⟩
      have hr7 : Blk W7 g 115 (cl z) := hW7 ▸ HR6.out.set4 _ _ _ _
      have hb7 : Below g w W7 := hW7 ▸ below_set4 HB6.out (Nat.le_refl _) _ _ _ _
      have hk7 : W7.heap[D]? = some (.deferred (some [])) := hW7 ▸ (keepsOthers_set4 W6 g _ _ _ _).same D _ HK6.out rfl
      rw [hW7]
      clear hW7 f d0 d1 d2 d3
      refine ⟨by simp, .inl ⟨_, _, rfl, run_takeDeferred hk7, ?_⟩⟩
      have hr8 : Blk (W7.putObj D (.deferred none)) g 115 (cl z) := hr7.grown (grownBy_putObj' W7 D (.deferred none)) (fun e => by injection e; omega)
      have e0 := hr8.cell 0
      have e1 := hr8.cell 1
      have e2 := hr8.cell 2
      have e3 := hr8.cell 3
      trace_state
      refine ⟨ag z, by simp [results, Tryd.f77, go_sem, e0, e1, e2, e3], ?_, ?_⟩
      · rw [HZ.out]
      · rw [HG.out]
        exact hb7.trans (belowK_b (w := w) (by rw [HG.out]; exact Nat.le_refl _) W7 D _ _ (by rw [HG.out]; omega) hk7 rfl rfl)
  case stop =>
    rintro D c pre W _ _ h _
    exact h.elim
end Go.Proofs.YtldnelimemjaiaaDoor
/-
  mix.Four, mix.Sum and mix.Key, whatever bytes they are handed, answer the four words of these bytes, the first of them, and all of them as bytes; nothing that was there is written.
-/
namespace Go.Proofs.YtldnelimemjaiaaDoor
open Go.RowKit Go.Shelf
set_option maxRecDepth 100000

theorem four_any (a : Option Addr) (len cap : Nat) (s : List UInt8) (w : World) (hA : Bsl w w.heap.size a len cap s) (hlen : len ≤ 4294967295) :
    Calls Tryd.prog 77 #[.slice a len cap] w fun e W' => e = .returned (ag (fourW s)) ∧ Below w.heap.size w W' :=
  callsIn_wide.1 (four_in 3 (Nat.le_refl _) a len cap s w hA hlen)

theorem sum_any (a : Option Addr) (len cap : Nat) (s : List UInt8) (w : World) (hA : Bsl w w.heap.size a len cap s) (hlen : len ≤ 4294967295) :
    Calls Tryd.prog 53 #[.slice a len cap] w fun e W' => e = .returned (.int .u32 ((fourW s).a.toNat : Int)) ∧ Below w.heap.size w W' := by
  have hf := four_any a len cap s w hA hlen
  have HF := Lib.hid hf; clear hf hA
  obtain ⟨x, hx⟩ : ∃ x, fourW s = x := ⟨_, rfl⟩
  rw [hx] at HF ⊢
  clear hx
  have hi : ∀ W : World, (Instr.index 115 (ag x) (.int .i64 0)).run Tryd.prog W = .ok (.int .u32 (x.a.toNat : Int)) W := fun W => by kernel_rfl
  go_enter Tryd.func53, Tryd.ntmps53
  go_wp2_with fail
  refine HF.out.mono ?_
  rintro e W1 ⟨rfl, b1⟩
  have HB := Lib.hid b1; clear b1
  go_wp2_with fail
  go_ret
  exact ⟨rfl, HB.out⟩

/-- The word of number k. -/
def nthW (x : W4) (k : Nat) : BitVec 32 := if k = 0 then x.a else if k = 1 then x.b else if k = 2 then x.c else x.d
theorem indexW (x : W4) (k : Nat) (hk : k < 4) (W : World) : (Instr.index 115 (ag x) (.int .i64 (k : Int))).run Tryd.prog W = .ok (.int .u32 ((nthW x k).toNat : Int)) W := by
  have : k = 0 ∨ k = 1 ∨ k = 2 ∨ k = 3 := by omega
  rcases this with rfl | rfl | rfl | rfl
  · exact (show (Instr.index 115 (ag x) (.int .i64 0)).run Tryd.prog W = .ok (.int .u32 (x.a.toNat : Int)) W by kernel_rfl)
  · exact (show (Instr.index 115 (ag x) (.int .i64 1)).run Tryd.prog W = .ok (.int .u32 (x.b.toNat : Int)) W by kernel_rfl)
  · exact (show (Instr.index 115 (ag x) (.int .i64 2)).run Tryd.prog W = .ok (.int .u32 (x.c.toNat : Int)) W by kernel_rfl)
  · exact (show (Instr.index 115 (ag x) (.int .i64 3)).run Tryd.prog W = .ok (.int .u32 (x.d.toNat : Int)) W by kernel_rfl)
/-- The bytes of the first k words. -/
def bytesW (x : W4) : Nat → List UInt8
  | 0 => []
  | k + 1 => bytesW x k ++ leB 4 (nthW x k).toNat
theorem bytesW_length (x : W4) : ∀ k, (bytesW x k).length = 4 * k
  | 0 => rfl
  | k + 1 => by rw [bytesW, List.length_append, bytesW_length x k, leB_length]; omega

/-- What Key leaves: sixteen bytes in new memory. -/
def KeyPost (x : W4) (w : World) (e : Ending) (W' : World) : Prop :=
  ∃ g cap, e = .returned (.slice (some ⟨g, 0, none⟩) 16 cap) ∧ w.heap.size ≤ g ∧ g < W'.heap.size ∧ 16 ≤ cap ∧ cap ≤ maxLen ∧ Holds W' g (bytesW x 4) ∧ Below w.heap.size w W'

end Go.Proofs.YtldnelimemjaiaaDoor
/-
  slices.Grow of nil, and slices.Concat of lists of bytes: new memory that holds them all, one behind the other; nothing that was there is written.
-/
namespace Go.Proofs.YtldnelimemjaiaaDoor
open Go.RowKit Go.Shelf
set_option maxRecDepth 100000

set_option maxHeartbeats 1000000 in
theorem grow_any (n : Nat) (h0 : 0 < n) (hn : n ≤ 100000) (w : World) : Calls Tryd.prog 75 #[.slice none 0 0, .int .i64 n] w fun e w' => ∃ v, e = .returned v ∧ w'.ownsRow w.heap.size 5 1 v 0 (vals []) ∧ Below w.heap.size w w' := by
  obtain ⟨i0, hi, hz0, hz1, hz2⟩ := info_parts infoU8
  have hr : ∀ ty, (Builtin.append_ #[44, 3] ty #[.slice none 0 0, .int .i64 n]).run Tryd.prog w =
      .ok (.slice (some ⟨w.heap.size, 0, none⟩) n (grownCap w n 0 5)) (w.drew.alloc (.cells (Builtin.zeroCells (Value.int .u8 0).cells n ++ Builtin.zeroCells (Value.int .u8 0).cells (grownCap w n 0 5 - n)) 5)) := fun ty =>
    Lib.run_append_nil_zeros w 44 3 ty 5 i0 (.int .u8 0) .i64 .i64 Tryd.underlying44 Tryd.underlying3 hi hz0 n h0 (by omega) (by omega) (by rw [hz2]; omega)
  have hG1 : n ≤ grownCap w n 0 5 := grownCap_ge w _ _ _
  have hG2 : grownCap w n 0 5 ≤ maxLen := grownCap_le_maxLen w n 0 5 (by unfold maxLen; omega)
  obtain ⟨G, hG⟩ : ∃ G, grownCap w n 0 5 = G := ⟨_, rfl⟩
  rw [hG] at hr hG1 hG2
  obtain ⟨cs, hcs⟩ : ∃ cs, Builtin.zeroCells (Value.int .u8 0).cells n ++ Builtin.zeroCells (Value.int .u8 0).cells (G - n) = cs := ⟨_, rfl⟩
  have hsz : cs.size = G := by
    rw [← hcs]
    simp [Builtin.zeroCells, Value.cells]
    omega
  rw [hcs] at hr
  have z5 : ∀ w, (Go.sizeOf 5).run Tryd.prog w = .ok 1 w := fun w => by kernel_rfl
  have n1 : ¬ ((n : Int) < 0) := by omega
  have n2 : (0 : Int) < n := by omega
  have n3 : (n : Int) ≤ 100000 := by omega
  have g0 : (G : Int) ≤ 9223372036854775807 := by unfold maxLen at hG2; omega
  have hown : (w.drew.alloc (.cells cs 5)).ownsRow w.heap.size 5 1 (.slice (some ⟨w.heap.size, 0, none⟩) 0 G) 0 (vals []) :=
    ⟨rfl, .inr ⟨w.heap.size, G, cs, rfl, Nat.le_refl _, by have := heap_alloc_new w.drew (.cells cs 5); simpa using this, Nat.zero_le _, hG2, by omega, by simp [vals]⟩⟩
  have hbel : Below w.heap.size w (w.drew.alloc (.cells cs 5)) := (Below.refl _ w).drew.alloc (by simp) _
  have HO := Lib.hid hown; clear hown
  have HB := Lib.hid hbel; clear hbel
  have HG2 := Lib.hid hG2; clear hG2
  clear hG hcs hsz hi hz0 hz1 hz2
  go_enter Tryd.func75, Tryd.ntmps75
  go_wp2_with (at_builtin; refine Lib.wpList_append_run _ rfl _ _ _ _ rfl _ _ rfl rfl _ _ (hr _) ?_)
  go_ret
  exact ⟨_, rfl, HO.out, HB.out⟩

/-- A list of bytes as it is handed in. -/
structure Part where
  a : Option Addr
  len : Nat
  cap : Nat
  s : List UInt8
/-- Lists, one behind the other. -/
def flat (ps : List Part) : List UInt8 := ps.flatMap (·.s)
theorem flat_take_succ (ps : List Part) (k : Nat) (h : k < ps.length) : flat (ps.take (k + 1)) = flat (ps.take k) ++ (ps[k]).s := by
  unfold flat
  rw [List.take_succ_eq_append_getElem h, List.flatMap_append]
  simp
theorem flat_take_le (ps : List Part) (k : Nat) : (flat (ps.take k)).length ≤ (flat ps).length := by
  have : flat ps = flat (ps.take k) ++ flat (ps.drop k) := by
    unfold flat
    rw [← List.flatMap_append, List.take_append_drop]
  rw [this, List.length_append]
  omega

/-- A new list that holds s. -/
def NewPost (s : List UInt8) (w : World) (e : Ending) (w' : World) : Prop :=
  ∃ g cap, e = .returned (.slice (some ⟨g, 0, none⟩) s.length cap) ∧ w.heap.size ≤ g ∧ g < w'.heap.size ∧ s.length ≤ cap ∧ cap ≤ maxLen ∧ Holds w' g s ∧ Below w.heap.size w w'

/-- The same, the call's own. -/
def OwnPost (s : List UInt8) (w : World) (e : Ending) (w' : World) : Prop := ∃ v, e = .returned v ∧ w'.ownsRow w.heap.size 5 1 v s.length (vals s) ∧ Below w.heap.size w w'

set_option maxHeartbeats 2000000 in
theorem concat_own (r c : Nat) (ps : List Part) (w : World) (hr : r < w.heap.size) (hl : ps.length ≤ 1000) (_hc : ps.length ≤ c)
    (hcell : ∀ i (h : i < ps.length), w.cell? ⟨r, i, none⟩ = some (.slice (ps[i]).a (ps[i]).len (ps[i]).cap)) (hb : ∀ i (h : i < ps.length), Bsl w w.heap.size (ps[i]).a (ps[i]).len (ps[i]).cap (ps[i]).s)
    (h0 : 0 < (flat ps).length) (hm : (flat ps).length ≤ 100000) :
    Calls Tryd.prog 51 #[.slice (some ⟨r, 0, none⟩) ps.length c] w (OwnPost (flat ps) w) := by
  obtain ⟨n, hn⟩ : ∃ n, ps.length = n := ⟨_, rfl⟩
  have HN := Lib.hid hn
  rw [hn] at hl ⊢
  clear hn
  have n0 : (0 : Int) ≤ n := by omega
  have n1 : (n : Int) ≤ 1000 := by omega
  have HC := Lib.hid hcell; clear hcell
  have HB := Lib.hid hb; clear hb
  have HM := Lib.hid hm; clear hm
  have H0 := Lib.hid h0; clear h0
  go_enter Tryd.func51, Tryd.ntmps51
  go_wp2_with fail
  go_loop [3, 11] (fun z i => ∃ k : Nat, k ≤ n ∧ i = .int .i64 k ∧ z = .int .i64 ((flat (ps.take k)).length : Nat)) (fun _ i => n - (intOf i).toNat)
  case atStart => exact ⟨0, Nat.zero_le _, rfl, rfl⟩
  case round =>
    obtain ⟨k, hk, rfl, rfl⟩ := hrel
    by_cases hlt : k < n
    · have hkp : k < ps.length := by rw [HN.out]; exact hlt
      have hce := HC.out k hkp
      have hbe := (HB.out k hkp).1
      have hsu := flat_take_succ ps k hkp
      have hle := flat_take_le ps (k + 1)
      rw [hsu, List.length_append, hbe] at hle
      have hsl : (flat (ps.take (k + 1))).length = (flat (ps.take k)).length + (ps[k]).len := by rw [hsu, List.length_append, hbe]
      obtain ⟨p, hp⟩ : ∃ p, ps[k] = p := ⟨_, rfl⟩
      rw [hp] at hce hle hsl
      obtain ⟨m, hm⟩ : ∃ m, (flat (ps.take k)).length = m := ⟨_, rfl⟩
      rw [hm] at hle hsl ⊢
      obtain ⟨pa, pl, pc, pss⟩ := p
      dsimp only at hce hle hsl
      have hmm := HM.out
      have m0 : (0 : Int) ≤ (m : Int) := by omega
      have m1 : (m : Int) + (pl : Int) ≤ 100000 := by omega
      have m2 : (0 : Int) ≤ (pl : Int) := by omega
      have m3 : ¬ ((m : Int) + (pl : Int) < 0) := by omega
      have k0 : (k : Int) < n := by omega
      have HSL := Lib.hid hsl; clear hsl
      clear hp hm hsu hbe hle hmm
      go_wp2_with fail
      go_round
      case rel => exact ⟨k + 1, by omega, by go_num, by rw [HSL.out]; go_num⟩
      case measure => simp [intOf]; omega
    · obtain rfl : k = n := by omega
      have ht : ps.take k = ps := List.take_of_length_le (by rw [HN.out]; exact Nat.le_refl _)
      rw [ht]
      obtain ⟨m, hm⟩ : ∃ m, (flat ps).length = m := ⟨_, rfl⟩
      have gr := grow_any m (by rw [← hm]; exact H0.out) (by rw [← hm]; exact HM.out) w
      rw [hm]
      have GR := Lib.hid gr; clear gr
      have HML := Lib.hid hm; clear hm ht
      go_wp2_with fail
      refine GR.out.mono ?_
      rintro e w1 ⟨v, rfl, ho, b1⟩
      have HO := Lib.hid ho; clear ho
      have HB1 := Lib.hid b1; clear b1
      go_wp2_with fail
      go_loopw [6, 27] (fun v i wr => ∃ j : Nat, j ≤ k ∧ i = .int .i64 j ∧ wr.ownsRow w.heap.size 5 1 v (flat (ps.take j)).length (vals (flat (ps.take j))) ∧ Below w.heap.size w wr) (fun _ i _ => k - (intOf i).toNat)
      case atStart => exact ⟨0, Nat.zero_le _, rfl, HO.out, HB1.out⟩
      case round =>
        obtain ⟨j, hj, rfl, ho2, hb2⟩ := hrel
        by_cases hlt2 : j < k
        · have hkp : j < ps.length := by rw [HN.out]; exact hlt2
          have hce := (hb2.cell (p := ⟨r, j, none⟩) hr).trans (HC.out j hkp)
          have hbs := ((HB.out j hkp).below hb2).more hb2.size
          have hbe := (HB.out j hkp).1
          have hsu := flat_take_succ ps j hkp
          have hle := flat_take_le ps (j + 1)
          rw [hsu, List.length_append, hbe] at hle
          obtain ⟨p, hp⟩ : ∃ p, ps[j] = p := ⟨_, rfl⟩
          rw [hp] at hce hle hsu hbs hbe
          obtain ⟨t, ht⟩ : ∃ t, flat (ps.take j) = t := ⟨_, rfl⟩
          rw [ht] at hle hsu ho2
          obtain ⟨pa, pl, pc, pss⟩ := p
          dsimp only at hce hle hsu hbs hbe
          have hmm := HM.out
          have k0 : (j : Int) < k := by omega
          have hnm : t.length + pl ≤ 100000 := by omega
          have HSU := Lib.hid hsu; clear hsu
          have HO2 := Lib.hid ho2; clear ho2
          have HB2 := Lib.hid hb2; clear hb2
          have HBS := Lib.hid hbs; clear hbs
          have HBE := Lib.hid hbe; clear hbe
          clear hp ht hle hmm
          go_wp2_with (at_builtin; refine wpList_append_bsl rfl (.tmp 31) (.tmp 32) rfl w.heap.size u6 t.length _ rfl HO2.out wr.heap.size pa pl pc pss rfl HBS.out hnm HB2.out.size ?_; intro v' W3 hown' hg')
          have hb3 : Below w.heap.size w W3 := HB2.out.grown hg' HB2.out.size (fun k e => (HO2.out.lt k e).1)
          have HO3 := Lib.hid hown'; clear hown'
          have HB3 := Lib.hid hb3; clear hb3 hg'
          go_wp2_with fail
          go_roundw
          case rel => exact ⟨j + 1, by omega, by go_num, by rw [HSU.out, List.length_append, HBE.out]; exact HO3.out, HB3.out⟩
          case measure => simp [intOf]; omega
        · obtain rfl : j = k := by omega
          have ht : ps.take j = ps := List.take_of_length_le (by rw [HN.out]; exact Nat.le_refl _)
          rw [ht] at ho2
          have HO2 := Lib.hid ho2
          have HB2 := Lib.hid hb2; clear hb2
          clear ho2 ht
          go_wp2_with fail
          go_ret
          exact ⟨_, rfl, HO2.out, HB2.out⟩
theorem concat_any (r c : Nat) (ps : List Part) (w : World) (hr : r < w.heap.size) (hl : ps.length ≤ 1000) (hc : ps.length ≤ c)
    (hcell : ∀ i (h : i < ps.length), w.cell? ⟨r, i, none⟩ = some (.slice (ps[i]).a (ps[i]).len (ps[i]).cap)) (hb : ∀ i (h : i < ps.length), Bsl w w.heap.size (ps[i]).a (ps[i]).len (ps[i]).cap (ps[i]).s)
    (h0 : 0 < (flat ps).length) (hm : (flat ps).length ≤ 100000) :
    Calls Tryd.prog 51 #[.slice (some ⟨r, 0, none⟩) ps.length c] w (NewPost (flat ps) w) := by
  refine (concat_own r c ps w hr hl hc hcell hb h0 hm).mono ?_
  rintro e w' ⟨v, rfl, ho, hb⟩
  obtain ⟨g, cap', rfl, hgb, hgl, hgc, hgm, hgs, hgh⟩ := bsl_of_own ho h0
  exact ⟨g, cap', rfl, hgb, hgl, hgc, hgm, hgh, hb⟩
end Go.Proofs.YtldnelimemjaiaaDoor
/-
  label.blockOf, whatever label that may be it is handed, answers the label's block; nothing that was there is written.
-/
namespace Go.Proofs.YtldnelimemjaiaaDoor
open Go.RowKit Go.Shelf
set_option maxRecDepth 100000

/-- A new list that holds a label's block. -/
def BlockPost (l : Lb) (w : World) (e : Ending) (w' : World) : Prop := ∃ g, e = .returned (.slice (some ⟨g, 0, none⟩) 256 256) ∧ w.heap.size ≤ g ∧ Bsl w' w'.heap.size (some ⟨g, 0, none⟩) 256 256 (blockL l) ∧ Below w.heap.size w w'
set_option maxHeartbeats 4000000 in
theorem lBlock_any (l : Lb) (hw : WfL l) (hm : MayL l) (w : World) (hz : Szs w) : Calls Tryd.prog 27 #[lbV l] w (BlockPost l w) := by
  have hmx : Tryd.prog.follows Departure.mixedOrders = true := by kernel_rfl
  obtain ⟨w0, hw0⟩ : ∃ w0, w.alloc (.cells (lbC l).toArray 38) = w0 := ⟨_, rfl⟩
  have hb0 : Below w.heap.size w w0 := by rw [← hw0]; exact (Below.refl _ w).alloc (Nat.le_refl _) _
  have hk : Blk w0 w.heap.size 38 (lbC l).toArray := by rw [← hw0]; exact Blk.new w _ _
  have hp := Write_any l.2.2 hw.2.2 w0 (hz.step hb0)
  rw [pwriteO, if_pos hm.2.2.2] at hp
  have hfl : flat [⟨none, 1, 1, [67]⟩, ⟨none, 4, 4, leB 4 l.1⟩, ⟨none, 4, 4, leB 4 l.2.1⟩, ⟨none, 16, 16, bytesP l.2.2⟩] = summedL l := by simp [flat, summedL]
  have hsl := summedL_length l
  have hbl : ovrL (ovrL (List.replicate 256 0) 0 (summedL l)) 25 (leB 4 (sumN (summedL l))) = blockL l := by
    have e1 : ovrL (List.replicate 256 0) 0 (summedL l) = summedL l ++ List.replicate 231 0 := by simp [ovrL, hsl]
    rw [e1, ovrL, leB_length, List.take_append_of_le_length (by omega), List.take_of_length_le (by omega), List.drop_append, List.drop_of_length_le (by omega), hsl]
    simp [blockL]
  have hwg := hw.1
  have hwe := hw.2.1
  obtain ⟨g, e, a, b, c, d, f⟩ := l
  obtain ⟨S, hS⟩ : ∃ S, summedL (g, e, a, b, c, d, f) = S := ⟨_, rfl⟩
  rw [hS] at hfl hsl hbl
  clear hS
  have c0 := hk.cell 0
  obtain ⟨c0, c1, c2, c3, c4, c5, c6⟩ := hk.seven
  simp only [lbC] at hw0
  have HF : Hid (∀ q0 q1 q2 q3 k3, flat [⟨q0, 1, 1, [67]⟩, ⟨q1, 4, 4, leB 4 g⟩, ⟨q2, 4, 4, leB 4 e⟩, ⟨q3, 16, k3, bytesP (a, b, c, d, f)⟩] = S) := Lib.hid fun _ _ _ _ _ => hfl
  have HSL := Lib.hid hsl
  have HBL := Lib.hid hbl
  have HP := Lib.hid hp
  have HB := Lib.hid hb0
  have HK := Lib.hid hk
  have HB1 := Lib.hid (lBytes_any g hwg)
  have HB2 := Lib.hid (lBytes_any e hwe)
  clear hp hb0 hk hfl hsl hbl hwg hwe hw hm hz
  go_enter Tryd.func27, Tryd.ntmps27
  go_wp2_with (go_at_call 50
               refine HP.out.mono ?_
               rintro ev w1 ⟨v1, rfl, o1, b1⟩
               rw [bytesP_length] at o1
               obtain ⟨A1, C1, rfl, s1⟩ := own_to o1
               have HS1 := Lib.hid s1
               have HB1w := Lib.hid (HB.out.trans (b1.mono HB.out.size))
               obtain ⟨c0, c1, c2, c3, c4, c5, c6⟩ := (HK.out.below b1 HK.out.lt).seven
               clear o1 s1 b1)
  go_cut [5] from 13 to 34 (fun v wx => ∃ Az Cz, v = .slice Az 25 Cz ∧ Bsl wx wx.heap.size Az 25 Cz S ∧ Below w.heap.size w wx)
  case first =>
    obtain ⟨wd, hwd⟩ : ∃ wd, w1.drew = wd := ⟨_, rfl⟩
    have HBd := Lib.hid (show Below w.heap.size w wd by rw [← hwd]; exact HB1w.out.drew)
    have bd : Below w1.heap.size w1 wd := by rw [← hwd]; exact (Below.refl _ _).drew
    have srd := HS1.out.step bd
    have d0 : wd.cell? ⟨w.heap.size, 0, none⟩ = some (.int .u32 (g : Int)) := (bd.cell (p := ⟨w.heap.size, 0, none⟩) (World.block_lt_of_cell? w1 _ c0)).trans c0
    have d1 : wd.cell? ⟨w.heap.size, 1, none⟩ = some (.int .u32 (e : Int)) := (bd.cell (p := ⟨w.heap.size, 1, none⟩) (World.block_lt_of_cell? w1 _ c1)).trans c1
    have C0 := fun X (hX : Below wd.heap.size wd X) => (hX.cell (p := ⟨w.heap.size, 0, none⟩) (World.block_lt_of_cell? wd _ d0)).trans d0
    have C1 := fun X (hX : Below wd.heap.size wd X) => (hX.cell (p := ⟨w.heap.size, 1, none⟩) (World.block_lt_of_cell? wd _ d1)).trans d1
    have hbwd : Below wd.heap.size wd wd := Below.refl _ _
    clear c0 c1 d0 d1 bd
    refine wpI_start (Below wd.heap.size wd) [1, 2, 4, 5, 7, 0, 3, 6, 8, 9, 10] hmx rfl hwd ?_
    clear hwd
    iterate 5 (
      refine wpI_read (v := ?_) hbwd rfl (by kernel_rfl) (by kernel_rfl) (by kernel_rfl) (fun _ _ _ h => h) (.inl ⟨by rfl, ?_⟩) ?_
      rotate_left
      · intro X hX
        have hXa := C0 X hX
        have hXb := C1 X hX
        clear hX
        go_simp
        with_reducible rfl
      try simp only [Act.put, List.setIfInBounds_toArray, List.set_cons_zero, List.set_cons_succ])
    clear C0 C1
    refine wpI_fork rfl rfl (by kernel_rfl) (fun K hK => ?_) (fun K hK => ?_)
    · go_simp
      have sn1 : Bsl (wd.alloc (.cells #[.int .u8 67] 5)) (wd.alloc (.cells #[.int .u8 67] 5)).heap.size (some ⟨wd.heap.size, 0, none⟩) 1 1 [67] := one_bsl wd 67
      have bn1 : Below wd.heap.size wd (wd.alloc (.cells #[.int .u8 67] 5)) := (Below.refl _ _).alloc (Nat.le_refl _) _
      obtain ⟨wx1, hx1⟩ : ∃ x, wd.alloc (.cells #[.int .u8 67] 5) = x := ⟨_, rfl⟩
      obtain ⟨p0_, hp0⟩ : ∃ p, wd.heap.size = p := ⟨_, rfl⟩
      rw [hx1] at sn1 bn1 ⊢
      rw [hp0] at sn1 ⊢
      clear hx1 hp0
      have srd_1 := srd.step bn1
      have hB1 := bn1
      refine hK _ _ hB1 ?_
      clear hK K
      try simp only [Act.put, List.setIfInBounds_toArray, List.set_cons_zero, List.set_cons_succ]
      refine wpI_lone rfl (by kernel_rfl) (fun K hK => ?_)
      go_simp
      refine (HB1.out wx1).mono ?_
      rintro ev wx2 ⟨p1_, rfl, zn2, sn2, bn2⟩
      clear zn2
      have srd_1_2 := srd_1.step bn2
      have sn1_2 := sn1.step bn2
      have hB2 := hB1.trans (bn2.mono hB1.size)
      refine hK _ _ hB2 ?_
      clear hK K
      try simp only [Act.put, List.setIfInBounds_toArray, List.set_cons_zero, List.set_cons_succ]
      refine wpI_lone rfl (by kernel_rfl) (fun K hK => ?_)
      go_simp
      refine (HB2.out wx2).mono ?_
      rintro ev wx3 ⟨p2_, rfl, zn3, sn3, bn3⟩
      clear zn3
      have srd_1_2_3 := srd_1_2.step bn3
      have sn1_2_3 := sn1_2.step bn3
      have sn2_3 := sn2.step bn3
      have hB3 := hB2.trans (bn3.mono hB2.size)
      refine hK _ _ hB3 ?_
      clear hK K
      try simp only [Act.put, List.setIfInBounds_toArray, List.set_cons_zero, List.set_cons_succ]
      refine wpI_lone rfl (by kernel_rfl) (fun K hK => ?_)
      go_simp
      have bq : Below wx3.heap.size wx3 (wx3.alloc (.cells #[.slice (some ⟨p0_, 0, none⟩) 1 1, .slice (some ⟨p1_, 0, none⟩) 4 4, .slice (some ⟨p2_, 0, none⟩) 4 4, .slice A1 16 C1] 44)) := (Below.refl _ _).alloc (Nat.le_refl _) _
      have xq := Blk.new wx3 44 #[.slice (some ⟨p0_, 0, none⟩) 1 1, .slice (some ⟨p1_, 0, none⟩) 4 4, .slice (some ⟨p2_, 0, none⟩) 4 4, .slice A1 16 C1]
      obtain ⟨wq, hq⟩ : ∃ x, wx3.alloc (.cells #[.slice (some ⟨p0_, 0, none⟩) 1 1, .slice (some ⟨p1_, 0, none⟩) 4 4, .slice (some ⟨p2_, 0, none⟩) 4 4, .slice A1 16 C1] 44) = x := ⟨_, rfl⟩
      obtain ⟨r, hr⟩ : ∃ p, wx3.heap.size = p := ⟨_, rfl⟩
      rw [hq] at bq xq ⊢
      have hbq := hB3.trans (bq.mono hB3.size)
      have hcc := concat_own r 4 [⟨some ⟨p0_, 0, none⟩, 1, 1, [67]⟩, ⟨some ⟨p1_, 0, none⟩, 4, 4, leB 4 g⟩, ⟨some ⟨p2_, 0, none⟩, 4, 4, leB 4 e⟩, ⟨A1, 16, C1, bytesP (a, b, c, d, f)⟩] wq (by rw [← hr]; exact xq.lt) (by simp) (by simp)
        (by intro i hi; rw [← hr]; match i, hi with | 0, _ => exact xq.cell 0 | 1, _ => exact xq.cell 1 | 2, _ => exact xq.cell 2 | 3, _ => exact xq.cell 3)
        (by intro i hi; match i, hi with | 0, _ => exact sn1_2_3.step bq | 1, _ => exact sn2_3.step bq | 2, _ => exact sn3.step bq | 3, _ => exact srd_1_2_3.step bq)
        (by simp [flat, leB_length, bytesP_length]) (by simp [flat, leB_length, bytesP_length])
      rw [HF.out] at hcc
      rw [hr]
      refine hK _ _ hbq ?_
      clear hK K hq hr xq bq
      try simp only [Act.put, List.setIfInBounds_toArray, List.set_cons_zero, List.set_cons_succ]
      refine wpI_lone rfl (by kernel_rfl) (fun K hK => ?_)
      go_simp
      refine hcc.mono ?_
      rintro ev wz ⟨v, rfl, oz, bz⟩
      rw [HSL.out] at oz
      obtain ⟨Az, Cz, rfl, sz⟩ := own_to oz
      have hbz := hbq.trans (bz.mono hbq.size)
      refine hK _ _ hbz ?_
      clear hK K hcc
      try simp only [Act.put, List.setIfInBounds_toArray, List.set_cons_zero, List.set_cons_succ]
      iterate 1 (
        refine wpI_read (v := ?_) hbz rfl (by kernel_rfl) (by kernel_rfl) (by kernel_rfl) (fun _ _ _ h => h) (.inl ⟨by rfl, ?_⟩) ?_
        rotate_left
        · intro X hX
          clear hX
          go_simp
          with_reducible rfl
        try simp only [Act.put, List.setIfInBounds_toArray, List.set_cons_zero, List.set_cons_succ])
      refine wpI_done (by kernel_rfl) ?_
      go_wp2_with fail
      go_meet
      exact ⟨Az, Cz, rfl, sz, HBd.out.trans (hbz.mono HBd.out.size)⟩
    · go_simp
      refine (HB1.out wd).mono ?_
      rintro ev wx4 ⟨p1_, rfl, zn4, sn4, bn4⟩
      clear zn4
      have srd_4 := srd.step bn4
      have hB4 := bn4
      refine hK _ _ hB4 ?_
      clear hK K
      try simp only [Act.put, List.setIfInBounds_toArray, List.set_cons_zero, List.set_cons_succ]
      refine wpI_fork rfl rfl (by kernel_rfl) (fun K hK => ?_) (fun K hK => ?_)
      · go_simp
        have sn5 : Bsl (wx4.alloc (.cells #[.int .u8 67] 5)) (wx4.alloc (.cells #[.int .u8 67] 5)).heap.size (some ⟨wx4.heap.size, 0, none⟩) 1 1 [67] := one_bsl wx4 67
        have bn5 : Below wx4.heap.size wx4 (wx4.alloc (.cells #[.int .u8 67] 5)) := (Below.refl _ _).alloc (Nat.le_refl _) _
        obtain ⟨wx5, hx5⟩ : ∃ x, wx4.alloc (.cells #[.int .u8 67] 5) = x := ⟨_, rfl⟩
        obtain ⟨p0_, hp0⟩ : ∃ p, wx4.heap.size = p := ⟨_, rfl⟩
        rw [hx5] at sn5 bn5 ⊢
        rw [hp0] at sn5 ⊢
        clear hx5 hp0
        have srd_4_5 := srd_4.step bn5
        have sn4_5 := sn4.step bn5
        have hB5 := hB4.trans (bn5.mono hB4.size)
        refine hK _ _ hB5 ?_
        clear hK K
        try simp only [Act.put, List.setIfInBounds_toArray, List.set_cons_zero, List.set_cons_succ]
        refine wpI_lone rfl (by kernel_rfl) (fun K hK => ?_)
        go_simp
        refine (HB2.out wx5).mono ?_
        rintro ev wx6 ⟨p2_, rfl, zn6, sn6, bn6⟩
        clear zn6
        have srd_4_5_6 := srd_4_5.step bn6
        have sn4_5_6 := sn4_5.step bn6
        have sn5_6 := sn5.step bn6
        have hB6 := hB5.trans (bn6.mono hB5.size)
        refine hK _ _ hB6 ?_
        clear hK K
        try simp only [Act.put, List.setIfInBounds_toArray, List.set_cons_zero, List.set_cons_succ]
        refine wpI_lone rfl (by kernel_rfl) (fun K hK => ?_)
        go_simp
        have bq : Below wx6.heap.size wx6 (wx6.alloc (.cells #[.slice (some ⟨p0_, 0, none⟩) 1 1, .slice (some ⟨p1_, 0, none⟩) 4 4, .slice (some ⟨p2_, 0, none⟩) 4 4, .slice A1 16 C1] 44)) := (Below.refl _ _).alloc (Nat.le_refl _) _
        have xq := Blk.new wx6 44 #[.slice (some ⟨p0_, 0, none⟩) 1 1, .slice (some ⟨p1_, 0, none⟩) 4 4, .slice (some ⟨p2_, 0, none⟩) 4 4, .slice A1 16 C1]
        obtain ⟨wq, hq⟩ : ∃ x, wx6.alloc (.cells #[.slice (some ⟨p0_, 0, none⟩) 1 1, .slice (some ⟨p1_, 0, none⟩) 4 4, .slice (some ⟨p2_, 0, none⟩) 4 4, .slice A1 16 C1] 44) = x := ⟨_, rfl⟩
        obtain ⟨r, hr⟩ : ∃ p, wx6.heap.size = p := ⟨_, rfl⟩
        rw [hq] at bq xq ⊢
        have hbq := hB6.trans (bq.mono hB6.size)
        have hcc := concat_own r 4 [⟨some ⟨p0_, 0, none⟩, 1, 1, [67]⟩, ⟨some ⟨p1_, 0, none⟩, 4, 4, leB 4 g⟩, ⟨some ⟨p2_, 0, none⟩, 4, 4, leB 4 e⟩, ⟨A1, 16, C1, bytesP (a, b, c, d, f)⟩] wq (by rw [← hr]; exact xq.lt) (by simp) (by simp)
          (by intro i hi; rw [← hr]; match i, hi with | 0, _ => exact xq.cell 0 | 1, _ => exact xq.cell 1 | 2, _ => exact xq.cell 2 | 3, _ => exact xq.cell 3)
          (by intro i hi; match i, hi with | 0, _ => exact sn5_6.step bq | 1, _ => exact sn4_5_6.step bq | 2, _ => exact sn6.step bq | 3, _ => exact srd_4_5_6.step bq)
          (by simp [flat, leB_length, bytesP_length]) (by simp [flat, leB_length, bytesP_length])
        rw [HF.out] at hcc
        rw [hr]
        refine hK _ _ hbq ?_
        clear hK K hq hr xq bq
        try simp only [Act.put, List.setIfInBounds_toArray, List.set_cons_zero, List.set_cons_succ]
        refine wpI_lone rfl (by kernel_rfl) (fun K hK => ?_)
        go_simp
        refine hcc.mono ?_
        rintro ev wz ⟨v, rfl, oz, bz⟩
        rw [HSL.out] at oz
        obtain ⟨Az, Cz, rfl, sz⟩ := own_to oz
        have hbz := hbq.trans (bz.mono hbq.size)
        refine hK _ _ hbz ?_
        clear hK K hcc
        try simp only [Act.put, List.setIfInBounds_toArray, List.set_cons_zero, List.set_cons_succ]
        iterate 1 (
          refine wpI_read (v := ?_) hbz rfl (by kernel_rfl) (by kernel_rfl) (by kernel_rfl) (fun _ _ _ h => h) (.inl ⟨by rfl, ?_⟩) ?_
          rotate_left
          · intro X hX
            clear hX
            go_simp
            with_reducible rfl
          try simp only [Act.put, List.setIfInBounds_toArray, List.set_cons_zero, List.set_cons_succ])
        refine wpI_done (by kernel_rfl) ?_
        go_wp2_with fail
        go_meet
        exact ⟨Az, Cz, rfl, sz, HBd.out.trans (hbz.mono HBd.out.size)⟩
      · go_simp
        refine (HB2.out wx4).mono ?_
        rintro ev wx7 ⟨p2_, rfl, zn7, sn7, bn7⟩
        clear zn7
        have srd_4_7 := srd_4.step bn7
        have sn4_7 := sn4.step bn7
        have hB7 := hB4.trans (bn7.mono hB4.size)
        refine hK _ _ hB7 ?_
        clear hK K
        try simp only [Act.put, List.setIfInBounds_toArray, List.set_cons_zero, List.set_cons_succ]
        refine wpI_lone rfl (by kernel_rfl) (fun K hK => ?_)
        go_simp
        have sn8 : Bsl (wx7.alloc (.cells #[.int .u8 67] 5)) (wx7.alloc (.cells #[.int .u8 67] 5)).heap.size (some ⟨wx7.heap.size, 0, none⟩) 1 1 [67] := one_bsl wx7 67
        have bn8 : Below wx7.heap.size wx7 (wx7.alloc (.cells #[.int .u8 67] 5)) := (Below.refl _ _).alloc (Nat.le_refl _) _
        obtain ⟨wx8, hx8⟩ : ∃ x, wx7.alloc (.cells #[.int .u8 67] 5) = x := ⟨_, rfl⟩
        obtain ⟨p0_, hp0⟩ : ∃ p, wx7.heap.size = p := ⟨_, rfl⟩
        rw [hx8] at sn8 bn8 ⊢
        rw [hp0] at sn8 ⊢
        clear hx8 hp0
        have srd_4_7_8 := srd_4_7.step bn8
        have sn4_7_8 := sn4_7.step bn8
        have sn7_8 := sn7.step bn8
        have hB8 := hB7.trans (bn8.mono hB7.size)
        refine hK _ _ hB8 ?_
        clear hK K
        try simp only [Act.put, List.setIfInBounds_toArray, List.set_cons_zero, List.set_cons_succ]
        refine wpI_lone rfl (by kernel_rfl) (fun K hK => ?_)
        go_simp
        have bq : Below wx8.heap.size wx8 (wx8.alloc (.cells #[.slice (some ⟨p0_, 0, none⟩) 1 1, .slice (some ⟨p1_, 0, none⟩) 4 4, .slice (some ⟨p2_, 0, none⟩) 4 4, .slice A1 16 C1] 44)) := (Below.refl _ _).alloc (Nat.le_refl _) _
        have xq := Blk.new wx8 44 #[.slice (some ⟨p0_, 0, none⟩) 1 1, .slice (some ⟨p1_, 0, none⟩) 4 4, .slice (some ⟨p2_, 0, none⟩) 4 4, .slice A1 16 C1]
        obtain ⟨wq, hq⟩ : ∃ x, wx8.alloc (.cells #[.slice (some ⟨p0_, 0, none⟩) 1 1, .slice (some ⟨p1_, 0, none⟩) 4 4, .slice (some ⟨p2_, 0, none⟩) 4 4, .slice A1 16 C1] 44) = x := ⟨_, rfl⟩
        obtain ⟨r, hr⟩ : ∃ p, wx8.heap.size = p := ⟨_, rfl⟩
        rw [hq] at bq xq ⊢
        have hbq := hB8.trans (bq.mono hB8.size)
        have hcc := concat_own r 4 [⟨some ⟨p0_, 0, none⟩, 1, 1, [67]⟩, ⟨some ⟨p1_, 0, none⟩, 4, 4, leB 4 g⟩, ⟨some ⟨p2_, 0, none⟩, 4, 4, leB 4 e⟩, ⟨A1, 16, C1, bytesP (a, b, c, d, f)⟩] wq (by rw [← hr]; exact xq.lt) (by simp) (by simp)
          (by intro i hi; rw [← hr]; match i, hi with | 0, _ => exact xq.cell 0 | 1, _ => exact xq.cell 1 | 2, _ => exact xq.cell 2 | 3, _ => exact xq.cell 3)
          (by intro i hi; match i, hi with | 0, _ => exact sn8.step bq | 1, _ => exact sn4_7_8.step bq | 2, _ => exact sn7_8.step bq | 3, _ => exact srd_4_7_8.step bq)
          (by simp [flat, leB_length, bytesP_length]) (by simp [flat, leB_length, bytesP_length])
        rw [HF.out] at hcc
        rw [hr]
        refine hK _ _ hbq ?_
        clear hK K hq hr xq bq
        try simp only [Act.put, List.setIfInBounds_toArray, List.set_cons_zero, List.set_cons_succ]
        refine wpI_lone rfl (by kernel_rfl) (fun K hK => ?_)
        go_simp
        refine hcc.mono ?_
        rintro ev wz ⟨v, rfl, oz, bz⟩
        rw [HSL.out] at oz
        obtain ⟨Az, Cz, rfl, sz⟩ := own_to oz
        have hbz := hbq.trans (bz.mono hbq.size)
        refine hK _ _ hbz ?_
        clear hK K hcc
        try simp only [Act.put, List.setIfInBounds_toArray, List.set_cons_zero, List.set_cons_succ]
        iterate 1 (
          refine wpI_read (v := ?_) hbz rfl (by kernel_rfl) (by kernel_rfl) (by kernel_rfl) (fun _ _ _ h => h) (.inl ⟨by rfl, ?_⟩) ?_
          rotate_left
          · intro X hX
            clear hX
            go_simp
            with_reducible rfl
          try simp only [Act.put, List.setIfInBounds_toArray, List.set_cons_zero, List.set_cons_succ])
        refine wpI_done (by kernel_rfl) ?_
        go_wp2_with fail
        go_meet
        exact ⟨Az, Cz, rfl, sz, HBd.out.trans (hbz.mono HBd.out.size)⟩
  case rest =>
    obtain ⟨Az, Cz, rfl, sz, bz⟩ := hcut
    obtain ⟨z, hz⟩ : ∃ z : List UInt8, List.replicate 256 0 = z := ⟨_, rfl⟩
    have hmk : ∀ W : World, (Instr.makeSlice 44 (.int .i64 256) (.int .i64 256)).run Tryd.prog W = .ok (.slice (some ⟨W.heap.size, 0, none⟩) 256 256) (W.alloc (.cells (ar z) 5)) := by rw [← hz]; exact mkBytes 256 (by omega)
    have hzl : z.length = 256 := by rw [← hz]; exact List.length_replicate ..
    rw [hz] at HBL
    have HZ256 := Lib.hid hzl
    have HZO : Hid ((ovrL z 0 S).length = 256) := Lib.hid (by rw [ovrL_length (by have := HSL.out; omega)]; exact hzl)
    clear hz hzl HB1 HB2 HF HP
    obtain ⟨G, hG⟩ : ∃ G, wc.heap.size = G := ⟨_, rfl⟩
    have hsl : ∀ W : World, (Instr.slice 44 (.slice (some ⟨G, 0, none⟩) 256 256) (some (.int .i64 25)) none none).run Tryd.prog W = .ok (.slice (some ⟨G, 25, none⟩) 231 231) W := fun W => slice_from_l W G 0 256 256 25 (by omega) (by omega)
    go_wp2_with fail
    obtain ⟨wm, hwm⟩ : ∃ wm, (wc.alloc (.cells (ar z) 5)).drew = wm := ⟨_, rfl⟩
    have HBm := Lib.hid (show Below w.heap.size w wm by rw [← hwm]; exact (bz.alloc bz.size _).drew)
    have HGL := Lib.hid (show w.heap.size ≤ G by rw [← hG]; exact bz.size)
    have xwm : Blk wm G 5 (ar z) := by rw [← hwm, ← hG]; exact (Blk.new wc _ _).drew
    have HGM := Lib.hid xwm.lt
    have bm : Below G wc wm := by rw [← hwm, ← hG]; exact ((Below.refl _ _).alloc (Nat.le_refl _) _).drew
    have swm : Bsl wm G Az 25 Cz S := by rw [hG] at sz; exact sz.below bm
    have HSM := Lib.hid swm
    have bwm : Below G wm wm := Below.refl _ _
    clear bm bz sz hmk
    refine wpI_start (Below G wm) [0, 1, 2, 5, 3, 4, 6, 7, 8] hmx rfl hwm ?_
    clear hwm hG
    iterate 4 (
      refine wpI_read (v := ?_) bwm rfl (by kernel_rfl) (by kernel_rfl) (by kernel_rfl) (fun _ _ _ h => h) (.inl ⟨by rfl, ?_⟩) ?_
      rotate_left
      · intro X hX
        clear hX
        go_simp
        with_reducible rfl
      try simp only [Act.put, List.setIfInBounds_toArray, List.set_cons_zero, List.set_cons_succ])
    refine wpI_lone rfl (by kernel_rfl) (fun K hK => ?_)
    refine wpI_copy_part rfl (.tmp 25) (.tmp 26) rfl G 0 256 25 256 rfl z xwm G Az Cz S rfl swm (by omega) (by omega) (by have := HZ256.out; omega) ?_
    intro wy101 xn101 gn101 zn101
    have bn101 : Below G wm wy101 := below_only bwm (Nat.le_refl G) gn101 (by have := bwm.size; have := HGM.out; omega)
    have sn101 : Bsl wy101 G Az 25 Cz S := HSM.out.below bn101
    refine hK _ _ bn101 ?_
    clear hK K
    try simp only [Act.put, List.setIfInBounds_toArray, List.set_cons_zero, List.set_cons_succ]
    iterate 1 (
      refine wpI_read (v := ?_) bn101 rfl (by kernel_rfl) (by kernel_rfl) (by kernel_rfl) (fun _ _ _ h => h) (.inl ⟨by rfl, ?_⟩) ?_
      rotate_left
      · intro X hX
        clear hX
        go_simp
        with_reducible rfl
      try simp only [Act.put, List.setIfInBounds_toArray, List.set_cons_zero, List.set_cons_succ])
    refine wpI_lone rfl (by kernel_rfl) (fun K hK => ?_)
    go_simp
    refine (sum_any Az 25 Cz S wy101 (sn101.more (by have := bn101.size; have := HGM.out; omega)) (by omega)).mono ?_
    rintro ev wy102 ⟨rfl, bb102⟩
    have bn102 : Below G wm wy102 := bn101.trans (bb102.mono (by have := bn101.size; have := HGM.out; omega))
    have sn102 : Bsl wy102 G Az 25 Cz S := HSM.out.below bn102
    have xn102 := xn101.below bb102 xn101.lt
    refine hK _ _ bn102 ?_
    clear hK K
    try simp only [Act.put, List.setIfInBounds_toArray, List.set_cons_zero, List.set_cons_succ]
    refine wpI_lone rfl (by kernel_rfl) (fun K hK => ?_)
    go_simp
    refine (lBytes_any (sumN S) (sumN_lt S) wy102).mono ?_
    rintro ev wy103 ⟨gs, rfl, zs, nn103, bb103⟩
    have hgs : G < gs := by have := bn102.size; have := HGM.out; omega
    have bn103 : Below G wm wy103 := bn102.trans (bb103.mono (by have := bn102.size; have := HGM.out; omega))
    have sn103 : Bsl wy103 G Az 25 Cz S := HSM.out.below bn103
    have xn103 := xn102.below bb103 xn102.lt
    refine hK _ _ bn103 ?_
    clear hK K
    try simp only [Act.put, List.setIfInBounds_toArray, List.set_cons_zero, List.set_cons_succ]
    refine wpI_lone rfl (by kernel_rfl) (fun K hK => ?_)
    refine wpI_copy_part rfl (.tmp 28) (.tmp 31) rfl G 25 231 4 231 rfl (ovrL z 0 S) xn103 wy103.heap.size (some ⟨gs, 0, none⟩) 4 (leB 4 (sumN S)) rfl nn103 (by omega) (by omega) (by have := HZO.out; omega) ?_
    intro wy104 xn104 gn104 zn104
    have bn104 : Below G wm wy104 := below_only bn103 (Nat.le_refl G) gn104 (by have := bn103.size; have := HGM.out; omega)
    have sn104 : Bsl wy104 G Az 25 Cz S := HSM.out.below bn104
    have nn104 := nn103.beside gn104 (by omega)
    refine hK _ _ bn104 ?_
    clear hK K
    try simp only [Act.put, List.setIfInBounds_toArray, List.set_cons_zero, List.set_cons_succ]
    refine wpI_done (by kernel_rfl) ?_
    have hfin := xn104
    rw [HBL.out] at hfin
    have hfb := bn104
    clear xn104 bn104
    go_wp2_with fail
    go_ret
    exact ⟨G, rfl, HGL.out, hfin.bsl (blockL_length _) (by omega), HBm.out.trans (hfb.mono HGL.out)⟩
end Go.Proofs.YtldnelimemjaiaaDoor
/-
  label.labelOf, whatever block it is handed, answers the label whose block it is, or that it is none's; nothing that was there is written.
-/
namespace Go.Proofs.YtldnelimemjaiaaDoor
open Go.RowKit Go.Shelf
set_option maxRecDepth 100000

theorem lEqual_any (a : Option Addr) (la ca : Nat) (s : List UInt8) (b : Option Addr) (lb cb : Nat) (t : List UInt8) (w : World) (hA : Bsl w w.heap.size a la ca s) (hB : Bsl w w.heap.size b lb cb t) :
    Calls Tryd.prog 41 #[.slice a la ca, .slice b lb cb] w fun e w' => e = .returned (.bool (decide (s = t))) ∧ w = w' := by
  have c1 := hA.conv
  have c2 := hB.conv
  have eq : ((strOf s).toList == (strOf t).toList) = decide (s = t) := by
    rw [strOf_toList, strOf_toList]
    by_cases h : s = t <;> simp [h]
  have HE := Lib.hid eq; clear eq hA hB
  go_enter Tryd.func41, Tryd.ntmps41
  go_wp2_with fail
  go_ret
  exact ⟨by rw [← HE.out]; rfl, rfl⟩
theorem labelO_eq (b : List UInt8) : labelO b = if MayP (readL b).2.2 then (if MayL (readL b) ∧ b = blockL (readL b) then some (readL b) else none) else none := rfl
/-- A label, and whether it is one. -/
def ofV : Option Lb → Lb × Bool
  | some l => (l, true)
  | none => (l0, false)
set_option maxHeartbeats 4000000 in
theorem lOf_any (A : Option Addr) (cap : Nat) (s : List UInt8) (w : World) (hB : Bsl w w.heap.size A 256 cap s) (hz : Szs w) : Calls Tryd.prog 20 #[.slice A 256 cap] w fun e w' => e = .returned (.tuple #[lbV (ofV (labelO s)).1, .bool (ofV (labelO s)).2]) ∧ Below w.heap.size w w' := by
  have hmx : Tryd.prog.follows Departure.mixedOrders = true := by kernel_rfl
  have hl := hB.1
  obtain ⟨b0, o0, rfl, hblt, hcell⟩ := hB.2.2.2.2 (by omega)
  obtain ⟨A, hA⟩ : ∃ A : Option Addr, some (⟨b0, o0, none⟩ : Addr) = A := ⟨_, rfl⟩
  have hcap := hB.2.1
  have hsl : ∀ X : World, (Instr.slice 44 (.slice (some ⟨b0, o0, none⟩) 256 cap) (some (.int .i64 9)) (some (.int .i64 25)) none).run Tryd.prog X = .ok (.slice (some ⟨b0, o0 + 9, none⟩) 16 (cap - 9)) X := fun X => slice_lh X b0 o0 256 cap 9 16 (by omega) (by omega)
  have hwin := hB.win 9 16 (by omega)
  rw [hA] at hsl hB
  have hk : Blk (w.alloc (.cells #[.int .u32 0, .int .u32 0, .int .i64 0, .int .u32 0, .int .u32 0, .int .u32 0, .int .u32 0] 38)) w.heap.size 38 #[.int .u32 0, .int .u32 0, .int .i64 0, .int .u32 0, .int .u32 0, .int .u32 0, .int .u32 0] := Blk.new w _ _
  have hb1 : Below w.heap.size w (w.alloc (.cells #[.int .u32 0, .int .u32 0, .int .i64 0, .int .u32 0, .int .u32 0, .int .u32 0, .int .u32 0] 38)) := (Below.refl _ w).alloc (Nat.le_refl _) _
  have hrd := Read_any _ _ _ _ _ (hwin.step hb1) (hz.step hb1)
  have hlw : ((s.drop 9).take 16).length = 16 := hwin.1
  have HO := Lib.hid (labelO_eq s)
  have hwf := wf_readL s
  obtain ⟨R, hR⟩ : ∃ R, labelO s = R := ⟨_, rfl⟩
  rw [hR] at HO ⊢
  clear hR
  obtain ⟨L, hL⟩ : ∃ L, readL s = L := ⟨_, rfl⟩
  have e1 : leN ((s.drop 1).take 4) = L.1 := by rw [← hL]; rfl
  have e2 : leN ((s.drop 5).take 4) = L.2.1 := by rw [← hL]; rfl
  have e3 : getP ((s.drop 9).take 16) = L.2.2 := by rw [← hL]; rfl
  rw [hL] at hwf HO
  rw [preadO, if_pos hlw, e3] at hrd
  obtain ⟨g, e, a, b, c, d, f⟩ := L
  simp only at e1 e2 e3 hrd HO
  have HG := Lib.hid e1
  have HE := Lib.hid e2
  have HWF := Lib.hid hwf
  have HK := Lib.hid hk
  have HB1 := Lib.hid hb1
  have HZ := Lib.hid hz
  rw [hA]
  clear hL e1 e2 e3 hlw hwin hwf hk hb1 hz hl hblt hcell hcap hA
  by_cases hmp : MayP (a, b, c, d, f)
  · rw [if_pos hmp] at hrd
    rw [if_pos hmp] at HO
    have HR := Lib.hid hrd
    clear hrd hmp
    go_enter Tryd.func20, Tryd.ntmps20
    go_wp2_with (go_at_call 39
                 refine HR.out.mono ?_
                 rintro ev w1 ⟨rfl, b1⟩
                 have HB2 := Lib.hid (HB1.out.trans (b1.mono (by simp)))
                 have HK2 := Lib.hid (HK.out.below b1 HK.out.lt)
                 have HB3 := Lib.hid (HB2.out.alloc HB2.out.size (.cells #[.int .i64 a, .int .u32 (b : Int), .int .u32 (c : Int), .int .u32 (d : Int), .int .u32 (f : Int)] 36))
                 have HK3 := Lib.hid (HK2.out.alloc (.cells #[.int .i64 a, .int .u32 (b : Int), .int .u32 (c : Int), .int .u32 (d : Int), .int .u32 (f : Int)] 36))
                 have HP3 := Lib.hid (Blk.new w1 36 #[.int .i64 a, .int .u32 (b : Int), .int .u32 (c : Int), .int .u32 (d : Int), .int .u32 (f : Int)])
                 obtain ⟨WC, hWC⟩ : ∃ x, w1.alloc (.cells #[.int .i64 a, .int .u32 (b : Int), .int .u32 (c : Int), .int .u32 (d : Int), .int .u32 (f : Int)] 36) = x := ⟨_, rfl⟩
                 obtain ⟨GP, hGP⟩ : ∃ x, w1.heap.size = x := ⟨_, rfl⟩
                 rw [hWC] at HB3 HK3 HP3
                 rw [hGP] at HP3
                 clear b1)
    clear hWC hGP
    have c0 : True := trivial
    have c1 : True := trivial
    have c2 : True := trivial
    have c3 : True := trivial
    have c4 : True := trivial
    go_cut [6] from 16 to 34 (fun v wx => ∃ ga, v = .pointer (some ⟨ga, 0, none⟩) ∧ w.heap.size < ga ∧ Blk wx ga 38 #[.int .u32 (g : Int), .int .u32 (e : Int), .int .i64 a, .int .u32 (b : Int), .int .u32 (c : Int), .int .u32 (d : Int), .int .u32 (f : Int)] ∧ Below w.heap.size w wx ∧ Blk wx w.heap.size 38 #[.int .u32 0, .int .u32 0, .int .i64 0, .int .u32 0, .int .u32 0, .int .u32 0, .int .u32 0])
    case first =>
      obtain ⟨wd, hwd⟩ : ∃ wd, WC.drew = wd := ⟨_, rfl⟩
      have HBd := Lib.hid (show Below w.heap.size w wd by rw [← hwd]; exact HB3.out.drew)
      have HKd := Lib.hid (show Blk wd w.heap.size 38 #[.int .u32 0, .int .u32 0, .int .i64 0, .int .u32 0, .int .u32 0, .int .u32 0, .int .u32 0] by rw [← hwd]; exact HK3.out.drew)
      have HGd := Lib.hid HKd.out.lt
      have xp : Blk wd GP 36 #[.int .i64 a, .int .u32 (b : Int), .int .u32 (c : Int), .int .u32 (d : Int), .int .u32 (f : Int)] := by rw [← hwd]; exact HP3.out.drew
      have HS := Lib.hid (hB.step HBd.out)
      have HN1 : Hid (∀ X, Below wd.heap.size wd X → Calls Tryd.prog 40 #[.slice A 256 cap, .int .i64 1] X fun e w' => e = .returned (.int .u32 (g : Int)) ∧ Below X.heap.size X w') := Lib.hid fun X hX => by
        have := lNum_any (HS.out.step hX) 1 (by omega)
        rwa [HG.out] at this
      have HN3 : Hid (∀ X, Below wd.heap.size wd X → Calls Tryd.prog 40 #[.slice A 256 cap, .int .i64 5] X fun e' w' => e' = .returned (.int .u32 (e : Int)) ∧ Below X.heap.size X w') := Lib.hid fun X hX => by
        have := lNum_any (HS.out.step hX) 5 (by omega)
        rwa [HE.out] at this
      obtain ⟨p0_, p1_, p2_, p3_, p4_⟩ := xp.five
      have P0 := fun X (hX : Below wd.heap.size wd X) => (hX.cell (p := ⟨GP, 0, none⟩) xp.lt).trans p0_
      have P1 := fun X (hX : Below wd.heap.size wd X) => (hX.cell (p := ⟨GP, 1, none⟩) xp.lt).trans p1_
      have P2 := fun X (hX : Below wd.heap.size wd X) => (hX.cell (p := ⟨GP, 2, none⟩) xp.lt).trans p2_
      have P3 := fun X (hX : Below wd.heap.size wd X) => (hX.cell (p := ⟨GP, 3, none⟩) xp.lt).trans p3_
      have P4 := fun X (hX : Below wd.heap.size wd X) => (hX.cell (p := ⟨GP, 4, none⟩) xp.lt).trans p4_
      have hbwd : Below wd.heap.size wd wd := Below.refl _ _
      clear p0_ p1_ p2_ p3_ p4_ xp c0 c1 c2 c3 c4
      refine wpI_start (Below wd.heap.size wd) [0, 2, 4, 1, 6, 3, 5, 7] hmx rfl hwd ?_
      clear hwd
      iterate 3 (
        refine wpI_read (v := ?_) hbwd rfl (by kernel_rfl) (by kernel_rfl) (by kernel_rfl) (fun _ _ _ h => h) (.inl ⟨by rfl, ?_⟩) ?_
        rotate_left
        · intro X hX
          have q0 := P0 X hX
          have q1 := P1 X hX
          have q2 := P2 X hX
          have q3 := P3 X hX
          have q4 := P4 X hX
          clear hX
          go_simp
          with_reducible rfl
        try simp only [Act.put, List.setIfInBounds_toArray, List.set_cons_zero, List.set_cons_succ])
      clear P0 P1 P2 P3 P4
      refine wpI_fork rfl rfl (by kernel_rfl) (fun K hK => ?_) (fun K hK => ?_)
      · go_simp
        refine (HN1.out wd hbwd).mono ?_
        rintro ev wx1 ⟨rfl, bn1⟩
        have hb1 := hbwd.trans (bn1.mono hbwd.size)
        refine hK _ _ hb1 ?_
        clear hK K
        try simp only [Act.put, List.setIfInBounds_toArray, List.set_cons_zero, List.set_cons_succ]
        refine wpI_turn [3, 6, 5, 7] rfl ?_
        refine wpI_fork rfl rfl (by kernel_rfl) (fun K hK => ?_) (fun K hK => ?_)
        · go_simp
          refine (HN3.out wx1 hb1).mono ?_
          rintro ev wx2 ⟨rfl, bn2⟩
          have hb2 := hb1.trans (bn2.mono hb1.size)
          refine hK _ _ hb2 ?_
          clear hK K
          try simp only [Act.put, List.setIfInBounds_toArray, List.set_cons_zero, List.set_cons_succ]
          refine wpI_turn [5, 6, 7] rfl ?_
          iterate 1 (
            refine wpI_read (v := ?_) hb2 rfl (by kernel_rfl) (by kernel_rfl) (by kernel_rfl) (fun _ _ _ h => h) (.inl ⟨by rfl, ?_⟩) ?_
            rotate_left
            · intro X hX
              clear hX
              go_simp
              with_reducible rfl
            try simp only [Act.put, List.setIfInBounds_toArray, List.set_cons_zero, List.set_cons_succ])
          refine wpI_lone rfl (by kernel_rfl) (fun K hK => ?_)
          go_simp
          have hb3 := hb2.alloc hb2.size (.cells #[.int .u32 0, .int .u32 0, .int .i64 0, .int .u32 0, .int .u32 0, .int .u32 0, .int .u32 0] 38)
          have xa3 := Blk.new wx2 38 #[.int .u32 0, .int .u32 0, .int .i64 0, .int .u32 0, .int .u32 0, .int .u32 0, .int .u32 0]
          obtain ⟨wx3, hwa⟩ : ∃ x, wx2.alloc (.cells #[.int .u32 0, .int .u32 0, .int .i64 0, .int .u32 0, .int .u32 0, .int .u32 0, .int .u32 0] 38) = x := ⟨_, rfl⟩
          obtain ⟨ga, hga⟩ : ∃ ga, wx2.heap.size = ga := ⟨_, rfl⟩
          have hgl : wd.heap.size ≤ ga := by rw [← hga]; exact hb2.size
          rw [hwa] at hb3 xa3 ⊢
          rw [hga] at xa3 ⊢
          refine hK _ _ hb3 ?_
          clear hK K hwa hga
          try simp only [Act.put, List.setIfInBounds_toArray, List.set_cons_zero, List.set_cons_succ]
          refine wpI_lone rfl (by kernel_rfl) (fun K hK => ?_)
          have d0 := xa3.cell 0
          have d1 := xa3.cell 1
          have d2 := xa3.cell 2
          have d3 := xa3.cell 3
          have d4 := xa3.cell 4
          have d5 := xa3.cell 5
          have d6 := xa3.cell 6
          have hfz := fun i => xa3.frozen i
          go_simp
          have hxs := xa3.set7 (.int .u32 (g : Int)) (.int .u32 (e : Int)) (.int .i64 a) (.int .u32 (b : Int)) (.int .u32 (c : Int)) (.int .u32 (d : Int)) (.int .u32 (f : Int))
          have hbs := below_set7 hb3 hgl (.int .u32 (g : Int)) (.int .u32 (e : Int)) (.int .i64 a) (.int .u32 (b : Int)) (.int .u32 (c : Int)) (.int .u32 (d : Int)) (.int .u32 (f : Int))
          obtain ⟨ws, hws⟩ : ∃ ws, set7 wx3 ga (.int .u32 (g : Int)) (.int .u32 (e : Int)) (.int .i64 a) (.int .u32 (b : Int)) (.int .u32 (c : Int)) (.int .u32 (d : Int)) (.int .u32 (f : Int)) = ws := ⟨_, rfl⟩
          rw [hws] at hxs hbs
          simp only [set7] at hws
          rw [hws]
          refine hK _ _ hbs ?_
          clear hK K d0 d1 d2 d3 d4 d5 d6 hfz hws
          try simp only [Act.put, List.setIfInBounds_toArray, List.set_cons_zero, List.set_cons_succ]
          refine wpI_done (by kernel_rfl) ?_
          go_wp2_with fail
          go_meet
          exact ⟨ga, rfl, Nat.lt_of_lt_of_le HGd.out hgl, hxs, HBd.out.trans (hbs.mono HBd.out.size), HKd.out.below hbs HKd.out.lt⟩
        · go_simp
          have hb4 := hb1.alloc hb1.size (.cells #[.int .u32 0, .int .u32 0, .int .i64 0, .int .u32 0, .int .u32 0, .int .u32 0, .int .u32 0] 38)
          have xa4 := Blk.new wx1 38 #[.int .u32 0, .int .u32 0, .int .i64 0, .int .u32 0, .int .u32 0, .int .u32 0, .int .u32 0]
          obtain ⟨wx4, hwa⟩ : ∃ x, wx1.alloc (.cells #[.int .u32 0, .int .u32 0, .int .i64 0, .int .u32 0, .int .u32 0, .int .u32 0, .int .u32 0] 38) = x := ⟨_, rfl⟩
          obtain ⟨ga, hga⟩ : ∃ ga, wx1.heap.size = ga := ⟨_, rfl⟩
          have hgl : wd.heap.size ≤ ga := by rw [← hga]; exact hb1.size
          rw [hwa] at hb4 xa4 ⊢
          rw [hga] at xa4 ⊢
          refine hK _ _ hb4 ?_
          clear hK K hwa hga
          try simp only [Act.put, List.setIfInBounds_toArray, List.set_cons_zero, List.set_cons_succ]
          refine wpI_lone rfl (by kernel_rfl) (fun K hK => ?_)
          go_simp
          refine (HN3.out wx4 hb4).mono ?_
          rintro ev wx5 ⟨rfl, bn5⟩
          have hb5 := hb4.trans (bn5.mono hb4.size)
          have xa5 := xa4.below bn5 xa4.lt
          refine hK _ _ hb5 ?_
          clear hK K
          try simp only [Act.put, List.setIfInBounds_toArray, List.set_cons_zero, List.set_cons_succ]
          iterate 1 (
            refine wpI_read (v := ?_) hb5 rfl (by kernel_rfl) (by kernel_rfl) (by kernel_rfl) (fun _ _ _ h => h) (.inl ⟨by rfl, ?_⟩) ?_
            rotate_left
            · intro X hX
              clear hX
              go_simp
              with_reducible rfl
            try simp only [Act.put, List.setIfInBounds_toArray, List.set_cons_zero, List.set_cons_succ])
          refine wpI_lone rfl (by kernel_rfl) (fun K hK => ?_)
          have d0 := xa5.cell 0
          have d1 := xa5.cell 1
          have d2 := xa5.cell 2
          have d3 := xa5.cell 3
          have d4 := xa5.cell 4
          have d5 := xa5.cell 5
          have d6 := xa5.cell 6
          have hfz := fun i => xa5.frozen i
          go_simp
          have hxs := xa5.set7 (.int .u32 (g : Int)) (.int .u32 (e : Int)) (.int .i64 a) (.int .u32 (b : Int)) (.int .u32 (c : Int)) (.int .u32 (d : Int)) (.int .u32 (f : Int))
          have hbs := below_set7 hb5 hgl (.int .u32 (g : Int)) (.int .u32 (e : Int)) (.int .i64 a) (.int .u32 (b : Int)) (.int .u32 (c : Int)) (.int .u32 (d : Int)) (.int .u32 (f : Int))
          obtain ⟨ws, hws⟩ : ∃ ws, set7 wx5 ga (.int .u32 (g : Int)) (.int .u32 (e : Int)) (.int .i64 a) (.int .u32 (b : Int)) (.int .u32 (c : Int)) (.int .u32 (d : Int)) (.int .u32 (f : Int)) = ws := ⟨_, rfl⟩
          rw [hws] at hxs hbs
          simp only [set7] at hws
          rw [hws]
          refine hK _ _ hbs ?_
          clear hK K d0 d1 d2 d3 d4 d5 d6 hfz hws
          try simp only [Act.put, List.setIfInBounds_toArray, List.set_cons_zero, List.set_cons_succ]
          refine wpI_done (by kernel_rfl) ?_
          go_wp2_with fail
          go_meet
          exact ⟨ga, rfl, Nat.lt_of_lt_of_le HGd.out hgl, hxs, HBd.out.trans (hbs.mono HBd.out.size), HKd.out.below hbs HKd.out.lt⟩
      · go_simp
        have hb6 := hbwd.alloc hbwd.size (.cells #[.int .u32 0, .int .u32 0, .int .i64 0, .int .u32 0, .int .u32 0, .int .u32 0, .int .u32 0] 38)
        have xa6 := Blk.new wd 38 #[.int .u32 0, .int .u32 0, .int .i64 0, .int .u32 0, .int .u32 0, .int .u32 0, .int .u32 0]
        obtain ⟨wx6, hwa⟩ : ∃ x, wd.alloc (.cells #[.int .u32 0, .int .u32 0, .int .i64 0, .int .u32 0, .int .u32 0, .int .u32 0, .int .u32 0] 38) = x := ⟨_, rfl⟩
        obtain ⟨ga, hga⟩ : ∃ ga, wd.heap.size = ga := ⟨_, rfl⟩
        have hgl : wd.heap.size ≤ ga := by rw [← hga]; exact hbwd.size
        rw [hwa] at hb6 xa6 ⊢
        rw [hga] at xa6 ⊢
        refine hK _ _ hb6 ?_
        clear hK K hwa hga
        try simp only [Act.put, List.setIfInBounds_toArray, List.set_cons_zero, List.set_cons_succ]
        refine wpI_lone rfl (by kernel_rfl) (fun K hK => ?_)
        go_simp
        refine (HN1.out wx6 hb6).mono ?_
        rintro ev wx7 ⟨rfl, bn7⟩
        have hb7 := hb6.trans (bn7.mono hb6.size)
        have xa7 := xa6.below bn7 xa6.lt
        refine hK _ _ hb7 ?_
        clear hK K
        try simp only [Act.put, List.setIfInBounds_toArray, List.set_cons_zero, List.set_cons_succ]
        refine wpI_lone rfl (by kernel_rfl) (fun K hK => ?_)
        go_simp
        refine (HN3.out wx7 hb7).mono ?_
        rintro ev wx8 ⟨rfl, bn8⟩
        have hb8 := hb7.trans (bn8.mono hb7.size)
        have xa8 := xa7.below bn8 xa7.lt
        refine hK _ _ hb8 ?_
        clear hK K
        try simp only [Act.put, List.setIfInBounds_toArray, List.set_cons_zero, List.set_cons_succ]
        iterate 1 (
          refine wpI_read (v := ?_) hb8 rfl (by kernel_rfl) (by kernel_rfl) (by kernel_rfl) (fun _ _ _ h => h) (.inl ⟨by rfl, ?_⟩) ?_
          rotate_left
          · intro X hX
            clear hX
            go_simp
            with_reducible rfl
          try simp only [Act.put, List.setIfInBounds_toArray, List.set_cons_zero, List.set_cons_succ])
        refine wpI_lone rfl (by kernel_rfl) (fun K hK => ?_)
        have d0 := xa8.cell 0
        have d1 := xa8.cell 1
        have d2 := xa8.cell 2
        have d3 := xa8.cell 3
        have d4 := xa8.cell 4
        have d5 := xa8.cell 5
        have d6 := xa8.cell 6
        have hfz := fun i => xa8.frozen i
        go_simp
        have hxs := xa8.set7 (.int .u32 (g : Int)) (.int .u32 (e : Int)) (.int .i64 a) (.int .u32 (b : Int)) (.int .u32 (c : Int)) (.int .u32 (d : Int)) (.int .u32 (f : Int))
        have hbs := below_set7 hb8 hgl (.int .u32 (g : Int)) (.int .u32 (e : Int)) (.int .i64 a) (.int .u32 (b : Int)) (.int .u32 (c : Int)) (.int .u32 (d : Int)) (.int .u32 (f : Int))
        obtain ⟨ws, hws⟩ : ∃ ws, set7 wx8 ga (.int .u32 (g : Int)) (.int .u32 (e : Int)) (.int .i64 a) (.int .u32 (b : Int)) (.int .u32 (c : Int)) (.int .u32 (d : Int)) (.int .u32 (f : Int)) = ws := ⟨_, rfl⟩
        rw [hws] at hxs hbs
        simp only [set7] at hws
        rw [hws]
        refine hK _ _ hbs ?_
        clear hK K d0 d1 d2 d3 d4 d5 d6 hfz hws
        try simp only [Act.put, List.setIfInBounds_toArray, List.set_cons_zero, List.set_cons_succ]
        refine wpI_done (by kernel_rfl) ?_
        go_wp2_with fail
        go_meet
        exact ⟨ga, rfl, Nat.lt_of_lt_of_le HGd.out hgl, hxs, HBd.out.trans (hbs.mono HBd.out.size), HKd.out.below hbs HKd.out.lt⟩
    case rest =>
      obtain ⟨ga, rfl, hgl, hxp, hbx, hkx⟩ := hcut
      obtain ⟨c0, c1, c2, c3, c4, c5, c6⟩ := hxp.seven
      have HBx := Lib.hid hbx
      have HKx := Lib.hid hkx
      have HPx := Lib.hid hxp
      have hml := lMay_any (g, e, a, b, c, d, f) wc
      have hbs := hB.step hbx
      clear hbx hkx hxp
      by_cases hmay : MayL (g, e, a, b, c, d, f)
      · rw [decide_eq_true hmay] at hml
        have hbk := fun W hz => lBlock_any (g, e, a, b, c, d, f) HWF.out hmay W hz
        obtain ⟨BK, hBK⟩ : ∃ BK, blockL (g, e, a, b, c, d, f) = BK := ⟨_, rfl⟩
        rw [hBK] at HO
        have HBE := Lib.hid hBK
        have HM := Lib.hid hml
        have HBK := Lib.hid hbk
        have HS := Lib.hid hbs
        clear hml hbk hbs hBK
        by_cases heq : s = BK
        · have hO : some (g, e, a, b, c, d, f) = R := by rw [HO.out, if_pos ⟨hmay, heq⟩]
          subst hO
          have ev : decide (s = BK) = true := decide_eq_true heq
          clear HO heq hmay
          go_wp2_with (first
            | (go_at_call 26
               refine HM.out.mono ?_
               rintro ev1 w2 ⟨rfl, b2⟩
               have HB4 := Lib.hid (HBx.out.trans (b2.mono HBx.out.size))
               have HK4 := Lib.hid (HKx.out.below b2 HKx.out.lt)
               have HP4 := Lib.hid (HPx.out.below b2 HPx.out.lt)
               have HS4 := Lib.hid (HS.out.step b2)
               obtain ⟨c0, c1, c2, c3, c4, c5, c6⟩ := HP4.out.seven
               clear b2)
            | (go_at_call 27
               refine (HBK.out w2 (HZ.out.step HB4.out)).mono ?_
               rintro ev2 w3 ⟨gb, rfl, zb, sb, b3⟩
               rw [HBE.out] at sb
               have HB5 := Lib.hid (HB4.out.trans (b3.mono HB4.out.size))
               have HK5 := Lib.hid (HK4.out.below b3 HK4.out.lt)
               have HP5 := Lib.hid (HP4.out.below b3 HP4.out.lt)
               have HQ := Lib.hid (lEqual_any A 256 cap s (some ⟨gb, 0, none⟩) 256 256 BK w3 (HS4.out.step b3) sb)
               clear b3 sb zb)
            | (go_at_call 41
               refine HQ.out.mono ?_
               rintro ev3 w4 ⟨rfl, rfl⟩
               rw [ev]
               obtain ⟨c0, c1, c2, c3, c4, c5, c6⟩ := HP5.out.seven
               have d0 : w3.cell? ⟨w.heap.size, 0, none⟩ = some (.int .u32 0) := HK5.out.cell 0
               have d1 : w3.cell? ⟨w.heap.size, 1, none⟩ = some (.int .u32 0) := HK5.out.cell 1
               have d2 : w3.cell? ⟨w.heap.size, 2, none⟩ = some (.int .i64 0) := HK5.out.cell 2
               have d3 : w3.cell? ⟨w.heap.size, 3, none⟩ = some (.int .u32 0) := HK5.out.cell 3
               have d4 : w3.cell? ⟨w.heap.size, 4, none⟩ = some (.int .u32 0) := HK5.out.cell 4
               have d5 : w3.cell? ⟨w.heap.size, 5, none⟩ = some (.int .u32 0) := HK5.out.cell 5
               have d6 : w3.cell? ⟨w.heap.size, 6, none⟩ = some (.int .u32 0) := HK5.out.cell 6
               have fr : ∀ i, w3.frozen? ⟨w.heap.size, i, none⟩ = false := fun i => HK5.out.frozen i
               clear ev))
          obtain ⟨wf, hwf⟩ : ∃ wf, set7 w3 w.heap.size (.int .u32 (g : Int)) (.int .u32 (e : Int)) (.int .i64 a) (.int .u32 (b : Int)) (.int .u32 (c : Int)) (.int .u32 (d : Int)) (.int .u32 (f : Int)) = wf := ⟨_, rfl⟩
          have hXF := HK5.out.set7 (.int .u32 (g : Int)) (.int .u32 (e : Int)) (.int .i64 a) (.int .u32 (b : Int)) (.int .u32 (c : Int)) (.int .u32 (d : Int)) (.int .u32 (f : Int))
          have hBF := below_set7 HB5.out (Nat.le_refl w.heap.size) (.int .u32 (g : Int)) (.int .u32 (e : Int)) (.int .i64 a) (.int .u32 (b : Int)) (.int .u32 (c : Int)) (.int .u32 (d : Int)) (.int .u32 (f : Int))
          rw [hwf] at hXF hBF
          simp only [set7] at hwf
          rw [hwf]
          clear hwf d0 d1 d2 d3 d4 d5 d6 fr
          have e0 := hXF.cell 0
          have e1 := hXF.cell 1
          have e2 := hXF.cell 2
          have e3 := hXF.cell 3
          have e4 := hXF.cell 4
          have e5 := hXF.cell 5
          have e6 := hXF.cell 6
          exact bodyPost_ret (v := .tuple #[lbV (g, e, a, b, c, d, f), .bool true]) (by simp [results, Tryd.f20, go_sem, e0, e1, e2, e3, e4, e5, e6]) rfl ⟨rfl, hBF⟩
        · have hO : none = R := by rw [HO.out, if_neg (fun h => heq h.2)]
          subst hO
          have ev : decide (s = BK) = false := decide_eq_false heq
          clear HO heq hmay
          go_wp2_with (first
            | (go_at_call 26
               refine HM.out.mono ?_
               rintro ev1 w2 ⟨rfl, b2⟩
               have HB4 := Lib.hid (HBx.out.trans (b2.mono HBx.out.size))
               have HK4 := Lib.hid (HKx.out.below b2 HKx.out.lt)
               have HP4 := Lib.hid (HPx.out.below b2 HPx.out.lt)
               have HS4 := Lib.hid (HS.out.step b2)
               obtain ⟨c0, c1, c2, c3, c4, c5, c6⟩ := HP4.out.seven
               clear b2)
            | (go_at_call 27
               refine (HBK.out w2 (HZ.out.step HB4.out)).mono ?_
               rintro ev2 w3 ⟨gb, rfl, zb, sb, b3⟩
               rw [HBE.out] at sb
               have HB5 := Lib.hid (HB4.out.trans (b3.mono HB4.out.size))
               have HK5 := Lib.hid (HK4.out.below b3 HK4.out.lt)
               have HP5 := Lib.hid (HP4.out.below b3 HP4.out.lt)
               have HQ := Lib.hid (lEqual_any A 256 cap s (some ⟨gb, 0, none⟩) 256 256 BK w3 (HS4.out.step b3) sb)
               clear b3 sb zb)
            | (go_at_call 41
               refine HQ.out.mono ?_
               rintro ev3 w4 ⟨rfl, rfl⟩
               rw [ev]
               obtain ⟨c0, c1, c2, c3, c4, c5, c6⟩ := HP5.out.seven
               have d0 : w3.cell? ⟨w.heap.size, 0, none⟩ = some (.int .u32 0) := HK5.out.cell 0
               have d1 : w3.cell? ⟨w.heap.size, 1, none⟩ = some (.int .u32 0) := HK5.out.cell 1
               have d2 : w3.cell? ⟨w.heap.size, 2, none⟩ = some (.int .i64 0) := HK5.out.cell 2
               have d3 : w3.cell? ⟨w.heap.size, 3, none⟩ = some (.int .u32 0) := HK5.out.cell 3
               have d4 : w3.cell? ⟨w.heap.size, 4, none⟩ = some (.int .u32 0) := HK5.out.cell 4
               have d5 : w3.cell? ⟨w.heap.size, 5, none⟩ = some (.int .u32 0) := HK5.out.cell 5
               have d6 : w3.cell? ⟨w.heap.size, 6, none⟩ = some (.int .u32 0) := HK5.out.cell 6
               have fr : ∀ i, w3.frozen? ⟨w.heap.size, i, none⟩ = false := fun i => HK5.out.frozen i
               clear ev))
          obtain ⟨wf, hwf⟩ : ∃ wf, set7 w3 w.heap.size (.int .u32 0) (.int .u32 0) (.int .i64 0) (.int .u32 0) (.int .u32 0) (.int .u32 0) (.int .u32 0) = wf := ⟨_, rfl⟩
          have hXF := HK5.out.set7 (.int .u32 0) (.int .u32 0) (.int .i64 0) (.int .u32 0) (.int .u32 0) (.int .u32 0) (.int .u32 0)
          have hBF := below_set7 HB5.out (Nat.le_refl w.heap.size) (.int .u32 0) (.int .u32 0) (.int .i64 0) (.int .u32 0) (.int .u32 0) (.int .u32 0) (.int .u32 0)
          rw [hwf] at hXF hBF
          simp only [set7] at hwf
          rw [hwf]
          clear hwf d0 d1 d2 d3 d4 d5 d6 fr
          have e0 := hXF.cell 0
          have e1 := hXF.cell 1
          have e2 := hXF.cell 2
          have e3 := hXF.cell 3
          have e4 := hXF.cell 4
          have e5 := hXF.cell 5
          have e6 := hXF.cell 6
          exact bodyPost_ret (v := .tuple #[lbV l0, .bool false]) (by simp [results, Tryd.f20, go_sem, e0, e1, e2, e3, e4, e5, e6]) rfl ⟨rfl, hBF⟩
      · have hO : none = R := by rw [HO.out, if_neg (fun h => hmay h.1)]
        subst hO
        rw [decide_eq_false hmay] at hml
        have HM := Lib.hid hml
        clear hml HO hmay hbs
        go_wp2_with (go_at_call 26
                     refine HM.out.mono ?_
                     rintro ev1 w2 ⟨rfl, b2⟩
                     have HB4 := Lib.hid (HBx.out.trans (b2.mono HBx.out.size))
                     have HK4 := Lib.hid (HKx.out.below b2 HKx.out.lt)
                     have d0 : w2.cell? ⟨w.heap.size, 0, none⟩ = some (.int .u32 0) := HK4.out.cell 0
                     have d1 : w2.cell? ⟨w.heap.size, 1, none⟩ = some (.int .u32 0) := HK4.out.cell 1
                     have d2 : w2.cell? ⟨w.heap.size, 2, none⟩ = some (.int .i64 0) := HK4.out.cell 2
                     have d3 : w2.cell? ⟨w.heap.size, 3, none⟩ = some (.int .u32 0) := HK4.out.cell 3
                     have d4 : w2.cell? ⟨w.heap.size, 4, none⟩ = some (.int .u32 0) := HK4.out.cell 4
                     have d5 : w2.cell? ⟨w.heap.size, 5, none⟩ = some (.int .u32 0) := HK4.out.cell 5
                     have d6 : w2.cell? ⟨w.heap.size, 6, none⟩ = some (.int .u32 0) := HK4.out.cell 6
                     have fr : ∀ i, w2.frozen? ⟨w.heap.size, i, none⟩ = false := fun i => HK4.out.frozen i
                     clear b2)
        obtain ⟨wf, hwf⟩ : ∃ wf, set7 w2 w.heap.size (.int .u32 0) (.int .u32 0) (.int .i64 0) (.int .u32 0) (.int .u32 0) (.int .u32 0) (.int .u32 0) = wf := ⟨_, rfl⟩
        have hXF := HK4.out.set7 (.int .u32 0) (.int .u32 0) (.int .i64 0) (.int .u32 0) (.int .u32 0) (.int .u32 0) (.int .u32 0)
        have hBF := below_set7 HB4.out (Nat.le_refl w.heap.size) (.int .u32 0) (.int .u32 0) (.int .i64 0) (.int .u32 0) (.int .u32 0) (.int .u32 0) (.int .u32 0)
        rw [hwf] at hXF hBF
        simp only [set7] at hwf
        rw [hwf]
        clear hwf d0 d1 d2 d3 d4 d5 d6 fr
        have e0 := hXF.cell 0
        have e1 := hXF.cell 1
        have e2 := hXF.cell 2
        have e3 := hXF.cell 3
        have e4 := hXF.cell 4
        have e5 := hXF.cell 5
        have e6 := hXF.cell 6
        exact bodyPost_ret (v := .tuple #[lbV l0, .bool false]) (by simp [results, Tryd.f20, go_sem, e0, e1, e2, e3, e4, e5, e6]) rfl ⟨rfl, hBF⟩
  · rw [if_neg hmp] at hrd
    rw [if_neg hmp] at HO
    obtain rfl := HO.out
    have HR := Lib.hid hrd
    clear hrd hmp
    go_enter Tryd.func20, Tryd.ntmps20
    go_wp2_with (go_at_call 39
                 refine HR.out.mono ?_
                 rintro ev w1 ⟨rfl, b1⟩
                 have HB2 := Lib.hid (HB1.out.trans (b1.mono (by simp)))
                 have HK2 := Lib.hid (HK.out.below b1 HK.out.lt)
                 have HB3 := Lib.hid (HB2.out.alloc HB2.out.size (.cells #[.int .i64 0, .int .u32 0, .int .u32 0, .int .u32 0, .int .u32 0] 36))
                 have HK3 := Lib.hid (HK2.out.alloc (.cells #[.int .i64 0, .int .u32 0, .int .u32 0, .int .u32 0, .int .u32 0] 36))
                 have d0 : (w1.alloc (.cells #[.int .i64 0, .int .u32 0, .int .u32 0, .int .u32 0, .int .u32 0] 36)).cell? ⟨w.heap.size, 0, none⟩ = some (.int .u32 0) := HK3.out.cell 0
                 have d1 : (w1.alloc (.cells #[.int .i64 0, .int .u32 0, .int .u32 0, .int .u32 0, .int .u32 0] 36)).cell? ⟨w.heap.size, 1, none⟩ = some (.int .u32 0) := HK3.out.cell 1
                 have d2 : (w1.alloc (.cells #[.int .i64 0, .int .u32 0, .int .u32 0, .int .u32 0, .int .u32 0] 36)).cell? ⟨w.heap.size, 2, none⟩ = some (.int .i64 0) := HK3.out.cell 2
                 have d3 : (w1.alloc (.cells #[.int .i64 0, .int .u32 0, .int .u32 0, .int .u32 0, .int .u32 0] 36)).cell? ⟨w.heap.size, 3, none⟩ = some (.int .u32 0) := HK3.out.cell 3
                 have d4 : (w1.alloc (.cells #[.int .i64 0, .int .u32 0, .int .u32 0, .int .u32 0, .int .u32 0] 36)).cell? ⟨w.heap.size, 4, none⟩ = some (.int .u32 0) := HK3.out.cell 4
                 have d5 : (w1.alloc (.cells #[.int .i64 0, .int .u32 0, .int .u32 0, .int .u32 0, .int .u32 0] 36)).cell? ⟨w.heap.size, 5, none⟩ = some (.int .u32 0) := HK3.out.cell 5
                 have d6 : (w1.alloc (.cells #[.int .i64 0, .int .u32 0, .int .u32 0, .int .u32 0, .int .u32 0] 36)).cell? ⟨w.heap.size, 6, none⟩ = some (.int .u32 0) := HK3.out.cell 6
                 have fr : ∀ i, (w1.alloc (.cells #[.int .i64 0, .int .u32 0, .int .u32 0, .int .u32 0, .int .u32 0] 36)).frozen? ⟨w.heap.size, i, none⟩ = false := fun i => HK3.out.frozen i
                 clear b1)
    obtain ⟨wf, hwf⟩ : ∃ wf, set7 (w1.alloc (.cells #[.int .i64 0, .int .u32 0, .int .u32 0, .int .u32 0, .int .u32 0] 36)) w.heap.size (.int .u32 0) (.int .u32 0) (.int .i64 0) (.int .u32 0) (.int .u32 0) (.int .u32 0) (.int .u32 0) = wf := ⟨_, rfl⟩
    have hXF := HK3.out.set7 (.int .u32 0) (.int .u32 0) (.int .i64 0) (.int .u32 0) (.int .u32 0) (.int .u32 0) (.int .u32 0)
    have hBF := below_set7 HB3.out (Nat.le_refl w.heap.size) (.int .u32 0) (.int .u32 0) (.int .i64 0) (.int .u32 0) (.int .u32 0) (.int .u32 0) (.int .u32 0)
    rw [hwf] at hXF hBF
    simp only [set7] at hwf
    rw [hwf]
    clear hwf d0 d1 d2 d3 d4 d5 d6 fr
    have e0 := hXF.cell 0
    have e1 := hXF.cell 1
    have e2 := hXF.cell 2
    have e3 := hXF.cell 3
    have e4 := hXF.cell 4
    have e5 := hXF.cell 5
    have e6 := hXF.cell 6
    exact bodyPost_ret (v := .tuple #[lbV l0, .bool false]) (by simp [results, Tryd.f20, go_sem, e0, e1, e2, e3, e4, e5, e6]) rfl ⟨rfl, hBF⟩
end Go.Proofs.YtldnelimemjaiaaDoor
/-
  dev.New answers 256 blocks of noughts, in one new piece; slices.Repeat of one block.
-/
namespace Go.Proofs.YtldnelimemjaiaaDoor
open Go.RowKit Go.Shelf
set_option maxRecDepth 100000

theorem dMul64 (w : World) : Calls Tryd.prog 73 #[.int .u64 1, .int .u64 256] w fun e w' => e = .returned (.tuple #[.int .u64 0, .int .u64 256]) ∧ w = w' := by
  go_enter Tryd.func73, Tryd.ntmps73
  go_wp2_with fail
  go_ret2
  exact ⟨rfl, rfl⟩
theorem dMul (w : World) : Calls Tryd.prog 47 #[.int .u64 1, .int .u64 256] w fun e w' => e = .returned (.tuple #[.int .u64 0, .int .u64 256]) ∧ w = w' := by
  go_enter Tryd.func47, Tryd.ntmps47
  go_wp2_with (go_at_call 73; refine (dMul64 _).mono ?_; rintro e w' ⟨rfl, rfl⟩)
  go_ret2
  exact ⟨rfl, rfl⟩
/-- 256 cells, of which n are v. -/
def repR (v : Value) (n : Nat) : List Value := List.replicate n v ++ List.replicate (256 - n) (.slice none 0 0)
theorem repR_length (v : Value) (n : Nat) (h : n ≤ 256) : (repR v n).length = 256 := by simp [repR]; omega
theorem repR_splice (v : Value) (n k : Nat) : splice (repR v n) n (List.replicate k v) = repR v (n + k) := by
  unfold splice repR
  have e1 : (List.replicate n v ++ List.replicate (256 - n) (Value.slice none 0 0)).take n = List.replicate n v := by simp
  have e2 : (List.replicate n v ++ List.replicate (256 - n) (Value.slice none 0 0)).drop (n + (List.replicate k v).length) = List.replicate (256 - (n + k)) (.slice none 0 0) := by
    rw [List.drop_append, List.drop_of_length_le (by simp; try omega)]
    simp
    omega
  rw [e1, e2, ← List.append_assoc, List.replicate_append_replicate]
theorem rep_get {v u : Value} {k j : Nat} (h : (List.replicate k v)[j]? = some u) : j < k ∧ u = v := by
  rw [List.getElem?_replicate] at h
  split at h
  · rename_i h1
    cases h
    exact ⟨h1, rfl⟩
  · cases h
theorem infoSl1 : (Tryd.prog.info? 44).map (·.size) = some 1 := by kernel_rfl
theorem step_copy_rep {ops : Array Oper} {o : Oper} {a : Act} {w w0 : World} {K : Act → World → Prop} {Q : Exit → Act → World → Prop} {E : Prop} (v : Value) (hv : v.oneCell' = true) (hgd : o.guard = none) (d s : Operand)
    (ho : o.op = .call { callee := .builtin .copy, args := #[d, s], argTypes := #[27, 27] }) (g5 n : Nat) (hn : n ≤ 128)
    (hd : a.eval d = .slice (some ⟨g5, n, none⟩) (256 - n) (256 - n)) (hs : a.eval s = .slice (some ⟨g5, 0, none⟩) n 256) (hx : Blk w g5 44 (repR v n).toArray) (hb : Below g5 w0 w)
    (h : ∀ w', Blk w' g5 44 (repR v (n + n)).toArray → Below g5 w0 w' → K (a.put o.dst (.int .i64 n)) w') :
    if Region.wanted o (yielded ops a.tmps) = true then Oper.wp Tryd.prog o a w K Q else E := by
  have hl : (List.replicate n v).length = n := by simp
  refine step_copy_splice hgd d s 27 27 ho 44 Tryd.underlying27 infoSl1 (some ⟨g5, n, none⟩) (some ⟨g5, 0, none⟩) (256 - n) (256 - n) n 256 hd hs g5 n (repR v n) 44 hx (List.replicate n v) (by rw [hl]; simp [Nat.min_def]; omega)
         (fun _ => ⟨rfl, _, rfl, fun j u hu => ?_⟩) (by rw [hl, repR_length v n (by omega)]; omega) (fun u hu => by rw [List.eq_of_mem_replicate hu]; exact hv) g5 w0 hb (Nat.le_refl _) ?_
  · obtain ⟨hj, rfl⟩ := rep_get hu
    have := hx.cell j
    rw [List.getElem?_toArray, repR, List.getElem?_append_left (by simpa using hj), List.getElem?_replicate, if_pos hj] at this
    rw [← this]
    congr 1
    unfold Addr.add
    simp
    exact fun h => h.symm
  · intro w2 hx2 hb2
    rw [hl]
    refine h w2 ?_ hb2
    have := hx2.out
    rwa [repR_splice v n n] at this
theorem rows_l (W : World) (g n : Nat) (hn : n < 256) : (Instr.slice 27 (.slice (some ⟨g, 0, none⟩) 256 256) (some (.int .i64 (n : Int))) none none).run Tryd.prog W = .ok (.slice (some ⟨g, n, none⟩) (256 - n) (256 - n)) W := by
  rw [run_slice_l W 27 _ _ _ (by kernel_rfl) .i64 _ (by omega) (by omega)]
  have hz : (Go.sizeOf (Tryd.prog.elem 27)).run Tryd.prog W = .ok 1 W := by kernel_rfl
  rw [hz]
  have e : ¬ 256 = n := by omega
  simp only [Result.andThen, sliced, Int.toNat_natCast, if_neg e]
  simp [Addr.add]
  exact fun h => h.symm
theorem rows_h (W : World) (g n : Nat) (hn : n < 256) : (Instr.slice 27 (.slice (some ⟨g, 0, none⟩) 256 256) none (some (.int .i64 (n : Int))) none).run Tryd.prog W = .ok (.slice (some ⟨g, 0, none⟩) n 256) W := by
  rw [run_slice_h W 27 _ _ _ (by kernel_rfl) .i64 _ (by omega) (by omega)]
  have hz : (Go.sizeOf (Tryd.prog.elem 27)).run Tryd.prog W = .ok 1 W := by kernel_rfl
  rw [hz]
  simp [Result.andThen, sliced, Addr.add]
/-- The row that Repeat answers. -/
def RepPost (v : Value) (w : World) (e : Ending) (w' : World) : Prop := ∃ g, e = .returned (.slice (some ⟨g, 0, none⟩) 256 256) ∧ w.heap.size ≤ g ∧ Blk w' g 44 (repR v 256).toArray ∧ Below w.heap.size w w'
theorem wpList_copy_one {w w0 : World} {ops : Array Oper} {rest : List Oper} {o : Oper} {a : Act} {Q : Exit → Act → World → Prop} (v : Value) (hv : v.oneCell' = true) (hgd : o.guard = none) (d s : Operand) (ho : o.op = .call { callee := .builtin .copy, args := #[d, s], argTypes := #[27, 27] }) (g g5 : Nat)
    (hd : a.eval d = .slice (some ⟨g5, 0, none⟩) 256 256) (hs : a.eval s = .slice (some ⟨g, 0, none⟩) 1 1) (hx : Blk w g5 44 (repR v 0).toArray) (hN : w.cell? ⟨g, 0, none⟩ = some v) (hb : Below g5 w0 w)
    (h : ∀ w', Blk w' g5 44 (repR v 1).toArray → Below g5 w0 w' → wpList Tryd.prog ops Q rest (a.put o.dst (.int .i64 1)) w') : wpList Tryd.prog ops Q (o :: rest) a w := by
  refine wpList_copy_splice hgd d s 27 27 ho 44 Tryd.underlying27 infoSl1 (some ⟨g5, 0, none⟩) (some ⟨g, 0, none⟩) 256 256 1 1 hd hs g5 0 (repR v 0) 44 hx (List.replicate 1 v) rfl
         (fun _ => ⟨rfl, _, rfl, fun j u hu => ?_⟩) (by rw [repR_length v 0 (by omega)]; simp) (fun u hu => by rw [List.eq_of_mem_replicate hu]; exact hv) g5 w0 hb (Nat.le_refl _) ?_
  · obtain ⟨hj, rfl⟩ := rep_get hu
    obtain rfl : j = 0 := by omega
    exact hN
  · intro w2 hx2 hb2
    refine h w2 ?_ hb2
    have := hx2.out
    rwa [repR_splice v 0 1] at this
set_option maxHeartbeats 4000000 in
theorem dRepeat_any (v : Value) (hv : v.oneCell' = true) (g : Nat) (w : World) (hN : w.cell? ⟨g, 0, none⟩ = some v) :
    Calls Tryd.prog 25 #[.slice (some ⟨g, 0, none⟩) 1 1, .int .i64 256] w (RepPost v w) := by
  have hmk : ∀ W : World, (Instr.makeSlice 27 (.int .i64 256) (.int .i64 256)).run Tryd.prog W = .ok (.slice (some ⟨W.heap.size, 0, none⟩) 256 256) (W.alloc (.cells (repR v 0).toArray 44)) := fun W => by
    have e : (repR v 0).toArray = Array.replicate 256 (.slice none 0 0) := by
      unfold repR
      rw [List.replicate_zero, List.nil_append, Nat.sub_zero, List.toArray_replicate]
    rw [e]
    exact make_rows 256 (by omega) W
  have hg := World.block_lt_of_cell? w _ hN
  have b1 : Below w.heap.size w (w.alloc (.cells (repR v 0).toArray 44)) := (Below.refl _ w).alloc (Nat.le_refl _) _
  have x1 := Blk.new w 44 (repR v 0).toArray
  have n1 : (w.alloc (.cells (repR v 0).toArray 44)).cell? ⟨g, 0, none⟩ = some v := (b1.cell (p := ⟨g, 0, none⟩) hg).trans hN
  obtain ⟨g5, hg5⟩ : ∃ g5, w.heap.size = g5 := ⟨_, rfl⟩
  have HX1 := Lib.hid x1; clear x1
  have HN1 := Lib.hid n1; clear n1 hN
  have HB1 := Lib.hid b1; clear b1 hg
  have HG := Lib.hid hg5; clear hg5
  go_enter Tryd.func25, Tryd.ntmps25
  go_wp2_with (first
    | (go_at_call 47; refine (dMul _).mono ?_; rintro e w' ⟨rfl, rfl⟩)
    | (with_reducible refine dAtCopy ?_
       refine wpList_copy_one v hv rfl (.tmp 31) (.tmp 32) rfl g w.heap.size rfl rfl HX1.out HN1.out HB1.out ?_
       intro w2 hx2 hb2
       have HX2 := Lib.hid hx2
       have HB2 := Lib.hid hb2
       clear hx2 hb2))
  rw [HG.out] at HX2 HB2 ⊢
  go_loopw [8] (fun i wr => ∃ j n : Nat, j ≤ 8 ∧ n = 2 ^ j ∧ i = .int .i64 n ∧ Blk wr g5 44 (repR v n).toArray ∧ Below g5 w wr) (fun i _ => 256 - (intOf i).toNat)
  case atStart => exact ⟨0, 1, by omega, rfl, rfl, HX2.out, HB2.out⟩
  case round =>
    obtain ⟨j, n, hj, hn, rfl, hx, hb⟩ := hrel
    have HX := Lib.hid hx; clear hx
    have HB := Lib.hid hb; clear hb
    have n0 : (0 : Int) ≤ n := by omega
    by_cases h8 : j < 8
    · have hn128 : n ≤ 128 := by
        have : 2 ^ j ≤ 2 ^ 7 := Nat.pow_le_pow_right (by omega) (by omega)
        omega
      have hpos : 0 < n := by rw [hn]; exact Nat.two_pow_pos j
      have hn2 : n + n = 2 ^ (j + 1) := by rw [Nat.pow_succ, hn]; omega
      have i1 : (n : Int) < 256 := by omega
      have s1 := fun W => rows_l W g5 n (by omega)
      have s2 := fun W => rows_h W g5 n (by omega)
      have HX' := Lib.hid HX.out.drew
      have HB' := Lib.hid HB.out.drew
      have HN2 := Lib.hid hn2
      have hsum : IntKind.i64.wrap ((n : Int) + n) = (n : Int) + n := IntWalk.i64_in _ (by omega)
      have HP := Lib.hid hpos
      clear hn hn2 hpos
      go_wp2_with fail
      go_region_law (refine step_copy_rep v hv rfl (.tmp 41) (.tmp 44) rfl g5 n hn128 (by simp [Act.eval, Act.put]) (by simp [Act.eval, Act.put]) HX'.out HB'.out ?_; intro w4 hx4 hb4; have HX4 := Lib.hid hx4; have HB4 := Lib.hid hb4; clear hx4 hb4)
      refine ⟨⟨.int .i64 ((n : Int) + n), _, _, _, _, _, _, _, _, _, _, _, _, _, ⟨j + 1, n + n, by omega, HN2.out, by go_num, HX4.out, HB4.out⟩, rfl⟩, ?_⟩
      have := HP.out
      show 256 - (intOf (.int .i64 ((n : Int) + n))).toNat < 256 - (intOf (.int .i64 (n : Int))).toNat
      simp [intOf]
      omega
    · obtain rfl : j = 8 := by omega
      subst hn
      go_wp2_with fail
      go_ret
      exact ⟨g5, rfl, by rw [HG.out]; exact Nat.le_refl _, HX.out, by rw [HG.out]; exact HB.out⟩
/-- A disk of noughts. -/
def newD : DkL := (List.replicate 256 (List.replicate 256 0), [])
theorem newD_get {i : Nat} (h : i < 256) : newD.1.getD i [] = List.replicate 256 0 := by
  show (List.replicate 256 (List.replicate 256 (0 : UInt8))).getD i [] = _
  rw [List.getD_eq_getElem?_getD, List.getElem?_replicate, if_pos h]
  rfl
theorem newD_len : newD.1.length = 256 := List.length_replicate ..
theorem newD_may : MayD newD := ⟨⟨newD_len, fun i hi => by rw [newD_get hi]; exact List.length_replicate ..⟩, Nat.zero_le _, fun i hi => absurd hi (Nat.not_lt_zero _)⟩
set_option maxHeartbeats 1000000 in
theorem dNew_any (w : World) : Calls Tryd.prog 9 #[] w (LaidPost newD w) := by
  have hmk : ∀ W : World, (Instr.makeSlice 44 (.int .i64 256) (.int .i64 256)).run Tryd.prog W = .ok (.slice (some ⟨W.heap.size, 0, none⟩) 256 256) (W.alloc (.cells (ar (List.replicate 256 0)) 5)) := make_bytes 256 (by omega)
  obtain ⟨B, hB⟩ : ∃ B, w.heap.size = B := ⟨_, rfl⟩
  obtain ⟨Z, hZ⟩ : ∃ Z : List UInt8, List.replicate 256 0 = Z := ⟨_, rfl⟩
  rw [hZ] at hmk
  obtain ⟨w0, hw0⟩ : ∃ w0, ((w.alloc (.cells #[.slice none 0 0, .slice none 0 0] 30)).alloc (.cells (ar Z) 5)).alloc (.cells #[.slice (some ⟨w.heap.size + 1, 0, none⟩) 256 256] 44) = w0 := ⟨_, rfl⟩
  have b0 : Below w.heap.size w w0 := by rw [← hw0]; exact below_alloc3' w _ _ _
  have z0 : w0.heap.size = B + 3 := by rw [← hw0, ← hB]; simp
  have x0 : Blk w0 B 30 #[.slice none 0 0, .slice none 0 0] := by rw [← hw0, ← hB]; exact blk3_0 w _ _ _ _
  have x1 : Blk w0 (B + 1) 5 (ar Z) := by rw [← hw0, ← hB]; exact blk3_1 w _ _ _ _
  have x2 : Blk w0 (B + 2) 44 #[.slice (some ⟨B + 1, 0, none⟩) 256 256] := by rw [← hw0, ← hB]; exact blk3_2 w _ _ _ _
  have hr := dRepeat_any (.slice (some ⟨B + 1, 0, none⟩) 256 256) rfl (B + 2) w0 (x2.cell 0)
  have HR := Lib.hid hr
  have HX0 := Lib.hid x0
  have HX1 := Lib.hid x1
  have HB := Lib.hid b0
  have HZ := Lib.hid z0
  have HBB := Lib.hid hB
  have HZZ := Lib.hid hZ
  rw [hB] at hw0
  clear hr x0 x1 x2 b0 z0 hZ
  go_enter Tryd.func9, Tryd.ntmps9
  go_wp2_with fail
  clear hw0
  refine HR.out.mono ?_
  rintro e w1 ⟨g, rfl, hge, hx, b1⟩
  have hz := HZ.out
  have y1 := HX1.out.below b1 HX1.out.lt
  have hzs := HZZ.out
  have hbs : Bsl w1 w1.heap.size (some ⟨B + 1, 0, none⟩) 256 256 Z := by
    refine ⟨by rw [← hzs]; exact List.length_replicate .., Nat.le_refl _, by unfold maxLen; omega, fun e => (by cases e), fun _ => ⟨B + 1, 0, rfl, y1.lt, fun i hi => ?_⟩⟩
    rw [Nat.zero_add, y1.cell, ar_get Z i hi]
  have hbl : Bls w1 w1.heap.size (some ⟨g, 0, none⟩) 256 256 newD.1 := by
    refine ⟨newD_len, Nat.le_refl _, by unfold maxLen; omega, fun _ => ⟨g, 0, rfl, hx.lt, fun i hi => ?_⟩⟩
    have e : newD.1.getD i [] = Z := by rw [newD_get hi]; exact hzs
    have el : Z.length = 256 := by rw [← hzs]; exact List.length_replicate ..
    rw [e, el]
    refine ⟨some ⟨B + 1, 0, none⟩, 256, ?_, hbs⟩
    rw [Nat.zero_add, hx.cell, List.getElem?_toArray, repR, Nat.sub_self, List.replicate_zero, List.append_nil, List.getElem?_replicate, if_pos hi]
  have hla := dLaid_any ⟨some ⟨g, 0, none⟩, 256, none, 0⟩ newD w1 ⟨by rw [newD_len]; exact hbl, wts_nil _ _⟩ (may_fits newD_may)
  simp only [newD_len] at hla
  have e2 : newD.2.length = 0 := rfl
  rw [e2] at hla
  have HLA := Lib.hid hla
  have HXr := Lib.hid (HX0.out.below b1 HX0.out.lt)
  have HB1 := Lib.hid (HB.out.trans (b1.mono HB.out.size))
  have HZ1 := Lib.hid (show B + 3 ≤ w1.heap.size by have := b1.size; omega)
  clear hge hx b1 y1 hzs hbs hbl hla e2 hz HR
  go_wp2_with fail
  refine HLA.out.mono ?_
  rintro e w4 ⟨x4, rfl, h4, b4⟩
  have hz := HZ1.out
  have y4 := HXr.out.below b4 HXr.out.lt
  have d0 := y4.cell 0
  have d1 := y4.cell 1
  have hf := fun i => y4.frozen i
  have hbb := HBB.out
  obtain ⟨ba4, bc4, wa4, wc4⟩ := x4
  have HK := Lib.hid (fun (u v : Value) => laid_far (g := B) (lo' := B) h4 (by omega) (by omega) u v)
  have HBF := Lib.hid (fun (u v : Value) => ((HB1.out.trans (b4.mono (by omega))).setCell (p := ⟨B, 0, none⟩) (Nat.le_of_eq hbb) u).setCell (p := ⟨B, 1, none⟩) (Nat.le_of_eq hbb) v)
  have HXF := Lib.hid (fun (u v : Value) => (y4.set_ 0 u).set_ 1 v)
  clear h4 b4 y4 hz HLA HXr HB1 hbb
  simp only [dval]
  go_wp2_with fail
  have hKD := HK.out (.slice ba4 newD.1.length bc4) (.slice wa4 newD.2.length wc4)
  have hBF := HBF.out (.slice ba4 newD.1.length bc4) (.slice wa4 newD.2.length wc4)
  have hXF := HXF.out (.slice ba4 newD.1.length bc4) (.slice wa4 newD.2.length wc4)
  obtain ⟨wf, hwf⟩ : ∃ wf, ((w4.setCell ⟨B, 0, none⟩ (.slice ba4 newD.1.length bc4)).setCell ⟨B, 1, none⟩ (.slice wa4 newD.2.length wc4)) = wf := ⟨_, rfl⟩
  rw [hwf] at hKD hBF hXF ⊢
  clear hwf d0 d1 hf
  have e0 := hXF.cell 0
  have e1 := hXF.cell 1
  refine bodyPost_ret (v := dval ⟨ba4, bc4, wa4, wc4⟩ newD) (by simp [results, Tryd.f9, go_sem, e0, e1, dval]) rfl ?_
  exact ⟨⟨ba4, bc4, wa4, wc4⟩, rfl, by rw [HBB.out]; exact hKD, hBF⟩
end Go.Proofs.YtldnelimemjaiaaDoor
/-
  A region that draws its order, walked in one order of one's own, where some operations (F) ask nothing of the world: such may stand beside one that writes.
-/
namespace Go.Proofs.YtldnelimemjaiaaDoor
open Go Go.RowKit
set_option maxRecDepth 100000

section
variable {P : Program} {ops : Array Oper} {Q : Exit → Act → World → Prop} {md : Region.Mode} {F : Nat → Bool}

/-- Each other operation comes ahead of that of number i, or behind it, or asks nothing of the world. -/
def lastF (F : Nat → Bool) (md : Region.Mode) (ops : Array Oper) (i : Nat) : Bool := (List.range ops.size).all fun k => k == i || F k || waitsB md ops ops.size i k || waitsB md ops ops.size k i
theorem lastF_not {L : Array Bool} {i j : Nat} (hF : F i = false) (hc : Closed md ops L) (hi : i ∈ Region.ready md ops L) (hj : j ∈ Region.ready md ops L) (hne : j ≠ i) : lastF F md ops j ≠ true := by
  intro h
  unfold lastF at h
  simp only [List.all_eq_true, List.mem_range] at h
  obtain ⟨_, oi, hoi, di⟩ := mem_ready.1 hi
  obtain ⟨_, oj, hoj, dj⟩ := mem_ready.1 hj
  have h1 := h i (Array.getElem?_eq_some_iff.1 hoi).1
  simp only [Bool.or_eq_true, beq_iff_eq, Ne.symm hne, hF, Bool.false_eq_true, false_or] at h1
  rcases h1 with h1 | h1
  · exact unready hi (waits_listed hc _ j h1 fun o ho e he hb => by rw [hoj] at ho; cases ho; exact dj e he hb)
  · exact unready hj (waits_listed hc _ i h1 fun o ho e he hb => by rw [hoi] at ho; cases ho; exact di e he hb)
/-- Whatever order is picked from here on; what lay as it lay still does behind each operation but such as stand alone in the order. -/
def wpMovF (P : Program) (F : Nat → Bool) (md : Region.Mode) (ops : Array Oper) (Q : Exit → Act → World → Prop) : Nat → Array Bool → Act → World → Prop
  | 0, listed, a, w => Region.ready md ops listed = [] ∧ Q .normal a w
  | fuel + 1, listed, a, w =>
    (Region.ready md ops listed = [] → Q .normal a w) ∧
    ∀ i ∈ Region.ready md ops listed, wpOp P ops Q i (fun a' w' => (lastF F md ops i = true ∨ Stays w w') ∧ wpMovF P F md ops Q fuel (listed.setIfInBounds i true) a' w') a w
theorem wpAny_of_movF : ∀ (fuel : Nat) (listed : Array Bool) (a : Act) (w : World), wpMovF P F md ops Q fuel listed a w → wpAny P md ops Q fuel listed a w
  | 0, _, _, _, h => h
  | fuel + 1, _, _, _, h => ⟨h.1, fun i hi => wpOp_mono (fun a' w' h' => wpAny_of_movF fuel _ a' w' h'.2) (h.2 i hi)⟩

theorem wpMovF_first {i : Nat} {oi : Oper} {v : Value} (hF : F i = false) (hi : ops[i]? = some oi) (hsel : ∀ (j : Nat) (o : Oper) cs b, ops[j]? = some o → o.op ≠ .select cs b)
    (hQ : ∀ c a w, Q (.panic c) (a.put oi.dst v) w → Q (.panic c) a w) :
    ∀ (fuel : Nat) (listed : Array Bool) (a : Act) (w : World),
      (∀ j oj, ops[j]? = some oj → j ≠ i → listed.getD j true = false → (∀ e ∈ oj.after, Region.binds md e = true → e.on ≠ i) → oi.apart ops oj = true) →
      Closed md ops listed → i ∈ Region.ready md ops listed → YieldsIf P ops (Stays w) oi v a →
      wpMovF P F md ops Q fuel (listed.setIfInBounds i true) (a.put oi.dst v) w → wpMovF P F md ops Q (fuel + 1) listed a w := by
  intro fuel
  induction fuel with
  | zero =>
    intro listed a w _ hcl hr hy H
    refine ⟨fun h => (by rw [h] at hr; cases hr), fun j hj => ?_⟩
    by_cases hji : j = i
    · subst hji; exact hy.wpOp hi (Stays.refl w) ⟨.inr (Stays.refl w), H⟩
    · have := ready_mono hj hji
      rw [H.1] at this
      cases this
  | succ fuel ih =>
    intro listed a w hfree hcl hr hy H
    refine ⟨fun h => (by rw [h] at hr; cases hr), fun j hj => ?_⟩
    by_cases hji : j = i
    · subst hji; exact hy.wpOp hi (Stays.refl w) ⟨.inr (Stays.refl w), H⟩
    · have g1 := H.2 j (ready_mono hj hji)
      obtain ⟨hjun, oj, hoj, hall⟩ := mem_ready.1 hj
      have hnot : ∀ e ∈ oj.after, Region.binds md e = true → e.on ≠ i := by
        intro e he hb heq
        have t1 := hall e he hb
        have t0 := (mem_ready.1 hr).1
        rw [heq] at t1
        rcases Nat.lt_or_ge i listed.size with h' | h'
        · simp [h'] at t0 t1; rw [t0] at t1; cases t1
        · simp [Array.getElem?_eq_none h'] at t1
      have g2 := wpOp_putIf hoj (hfree j oj hoj hji hjun hnot) (fun cs b => hsel i oi cs b hi) (fun cs b => hsel j oj cs b hoj) hQ hy g1
      have hnl := lastF_not hF hcl hr hj hji
      refine wpOp_mono (fun a' w' g3 => ⟨.inr (g3.2.1.resolve_left hnl), ih (listed.setIfInBounds j true) a' w' ?_ (closed_set hcl hj) (ready_mono hr (Ne.symm hji)) (yieldsIf_weaken g3.1 fun W hW => (g3.2.1.resolve_left hnl).trans hW) ?_⟩) g2
      · intro k ok hk hki hun hno
        refine hfree k ok hk hki ?_ hno
        by_cases hjk : j = k
        · subst hjk; exact hjun
        · rw [getD_set_ne true hjk] at hun; exact hun
      · rw [Array.setIfInBounds_comm _ _ hji]
        exact g3.2.2

theorem wpMovF_pure {i : Nat} {oi : Oper} {v : Value} (hi : ops[i]? = some oi) (hsel : ∀ (j : Nat) (o : Oper) cs b, ops[j]? = some o → o.op ≠ .select cs b)
    (hQ : ∀ c a w, Q (.panic c) (a.put oi.dst v) w → Q (.panic c) a w) :
    ∀ (fuel : Nat) (listed : Array Bool) (a : Act) (w : World),
      (∀ j oj, ops[j]? = some oj → j ≠ i → listed.getD j true = false → (∀ e ∈ oj.after, Region.binds md e = true → e.on ≠ i) → oi.apart ops oj = true) →
      Closed md ops listed → i ∈ Region.ready md ops listed → YieldsIf P ops (fun _ => True) oi v a →
      wpMovF P F md ops Q fuel (listed.setIfInBounds i true) (a.put oi.dst v) w → wpMovF P F md ops Q (fuel + 1) listed a w := by
  intro fuel
  induction fuel with
  | zero =>
    intro listed a w _ hcl hr hy H
    refine ⟨fun h => (by rw [h] at hr; cases hr), fun j hj => ?_⟩
    by_cases hji : j = i
    · subst hji; exact hy.wpOp hi True.intro ⟨.inr (Stays.refl w), H⟩
    · have := ready_mono hj hji
      rw [H.1] at this
      cases this
  | succ fuel ih =>
    intro listed a w hfree hcl hr hy H
    refine ⟨fun h => (by rw [h] at hr; cases hr), fun j hj => ?_⟩
    by_cases hji : j = i
    · subst hji; exact hy.wpOp hi True.intro ⟨.inr (Stays.refl w), H⟩
    · have g1 := H.2 j (ready_mono hj hji)
      obtain ⟨hjun, oj, hoj, hall⟩ := mem_ready.1 hj
      have hnot : ∀ e ∈ oj.after, Region.binds md e = true → e.on ≠ i := by
        intro e he hb heq
        have t1 := hall e he hb
        have t0 := (mem_ready.1 hr).1
        rw [heq] at t1
        rcases Nat.lt_or_ge i listed.size with h' | h'
        · simp [h'] at t0 t1; rw [t0] at t1; cases t1
        · simp [Array.getElem?_eq_none h'] at t1
      have g2 := wpOp_putIf hoj (hfree j oj hoj hji hjun hnot) (fun cs b => hsel i oi cs b hi) (fun cs b => hsel j oj cs b hoj) hQ hy g1
      refine wpOp_mono (fun a' w' g3 => ⟨g3.2.1, ih (listed.setIfInBounds j true) a' w' ?_ (closed_set hcl hj) (ready_mono hr (Ne.symm hji)) g3.1 ?_⟩) g2
      · intro k ok hk hki hun hno
        refine hfree k ok hk hki ?_ hno
        by_cases hjk : j = k
        · subst hjk; exact hjun
        · rw [getD_set_ne true hjk] at hun; exact hun
      · rw [Array.setIfInBounds_comm _ _ hji]
        exact g3.2.2

/-- In the order σ. -/
def wpF (P : Program) (F : Nat → Bool) (md : Region.Mode) (ops : List Oper) (Q : Exit → Act → World → Prop) (σ : List Nat) (listed : Array Bool) (a : Act) (w : World) : Prop := wpMovF P F md ops.toArray Q σ.length listed a w

theorem wpF_start {l : List Oper} {id : Nat} {a : Act} {w w1 : World} (F : Nat → Bool) (σ : List Nat) (hm : P.follows .mixedOrders = true) (hl : σ.length = l.length) (hw : w.drew = w1)
    (h : wpF P F .any l Q σ (Array.replicate l.length false) a w1) : (Code.region id l.toArray true).wp P Q a w := by
  subst hw
  refine wp_region_any hm (wpAny_of_movF (F := F) _ _ _ _ ?_)
  unfold wpF at h
  rw [hl] at h
  simpa using h
theorem wpF_read {l : List Oper} {i : Nat} {σ : List Nat} {oi : Oper} {v : Value} {listed : Array Bool} {a : Act} {w : World} (hF : F i = false) (hi : nthOp l i = some oi)
    (hs : Region.noSelect l.toArray = true) (hf : Region.free md l.toArray listed i = true) (hr : (Region.ready md l.toArray listed).contains i = true)
    (hQ : ∀ c a w, Q (.panic c) (a.put oi.dst v) w → Q (.panic c) a w) (hy : YieldsIf P l.toArray (Stays w) oi v a)
    (h : wpF P F md l Q σ (listed.setIfInBounds i true) (a.put oi.dst v) w) (hcl : closedB md l.toArray listed = true := by kernel_rfl) : wpF P F md l Q (i :: σ) listed a w :=
  wpMovF_first hF (by rw [← nthOp_eq]; exact hi) (Region.noSelect_spec hs) hQ σ.length listed a w (Region.free_spec (by rw [← nthOp_eq]; exact hi) hf) (closedB_spec hcl) (by simpa using hr) hy h
theorem wpF_pure {l : List Oper} {i : Nat} {σ : List Nat} {oi : Oper} {v : Value} {listed : Array Bool} {a : Act} {w : World} (hi : nthOp l i = some oi)
    (hs : Region.noSelect l.toArray = true) (hf : Region.free md l.toArray listed i = true) (hr : (Region.ready md l.toArray listed).contains i = true)
    (hQ : ∀ c a w, Q (.panic c) (a.put oi.dst v) w → Q (.panic c) a w) (hy : YieldsIf P l.toArray (fun _ => True) oi v a)
    (h : wpF P F md l Q σ (listed.setIfInBounds i true) (a.put oi.dst v) w) (hcl : closedB md l.toArray listed = true := by kernel_rfl) : wpF P F md l Q (i :: σ) listed a w :=
  wpMovF_pure (by rw [← nthOp_eq]; exact hi) (Region.noSelect_spec hs) hQ σ.length listed a w (Region.free_spec (by rw [← nthOp_eq]; exact hi) hf) (closedB_spec hcl) (by simpa using hr) hy h
theorem wpF_lone {l : List Oper} {i : Nat} {σ : List Nat} {o : Oper} {listed : Array Bool} {a : Act} {w : World} (hi : nthOp l i = some o) (hr : Region.ready md l.toArray listed = [i])
    (h : ∀ K : Act → World → Prop, (∀ a' w', Stays w w' → wpF P F md l Q σ (listed.setIfInBounds i true) a' w' → K a' w') → if Region.wanted o (yielded l.toArray a.tmps) then o.wp P a w K Q else K (a.put o.dst undef) w) :
    wpF P F md l Q (i :: σ) listed a w := by
  refine ⟨fun h0 => (by rw [hr] at h0; cases h0), fun j hj => ?_⟩
  rw [hr, List.mem_singleton] at hj
  subst hj
  exact wpOp_of hi (h (fun a' w' => (lastF F md l.toArray j = true ∨ Stays w w') ∧ wpMovF P F md l.toArray Q σ.length (listed.setIfInBounds j true) a' w') (fun a' w' hS hs => ⟨.inr hS, hs⟩))
/-- An operation that has its own place in the order. -/
theorem wpF_last {l : List Oper} {i : Nat} {σ : List Nat} {o : Oper} {listed : Array Bool} {a : Act} {w : World} (hi : nthOp l i = some o) (hr : Region.ready md l.toArray listed = [i]) (hl : lastF F md l.toArray i = true)
    (h : ∀ K : Act → World → Prop, (∀ a' w', wpF P F md l Q σ (listed.setIfInBounds i true) a' w' → K a' w') → if Region.wanted o (yielded l.toArray a.tmps) then o.wp P a w K Q else K (a.put o.dst undef) w) :
    wpF P F md l Q (i :: σ) listed a w := by
  refine ⟨fun h0 => (by rw [hr] at h0; cases h0), fun j hj => ?_⟩
  rw [hr, List.mem_singleton] at hj
  subst hj
  exact wpOp_of hi (h (fun a' w' => (lastF F md l.toArray j = true ∨ Stays w w') ∧ wpMovF P F md l.toArray Q σ.length (listed.setIfInBounds j true) a' w') (fun a' w' hs => ⟨.inl hl, hs⟩))
/-- Two operations stand side by side: both ways. -/
theorem wpF_fork {l : List Oper} {i j : Nat} {σ : List Nat} {oi oj : Oper} {listed : Array Bool} {a : Act} {w : World} (hi : nthOp l i = some oi) (hj : nthOp l j = some oj) (hr : Region.ready md l.toArray listed = [i, j])
    (h1 : ∀ K : Act → World → Prop, (∀ a' w', Stays w w' → wpF P F md l Q (j :: σ) (listed.setIfInBounds i true) a' w' → K a' w') → if Region.wanted oi (yielded l.toArray a.tmps) then oi.wp P a w K Q else K (a.put oi.dst undef) w)
    (h2 : ∀ K : Act → World → Prop, (∀ a' w', Stays w w' → wpF P F md l Q (i :: σ) (listed.setIfInBounds j true) a' w' → K a' w') → if Region.wanted oj (yielded l.toArray a.tmps) then oj.wp P a w K Q else K (a.put oj.dst undef) w) :
    wpF P F md l Q (i :: j :: σ) listed a w := by
  refine ⟨fun h0 => (by rw [hr] at h0; cases h0), fun k hk => ?_⟩
  rw [hr] at hk
  rcases List.mem_cons.1 hk with rfl | hk
  · exact wpOp_of hi (h1 (fun a' w' => (lastF F md l.toArray k = true ∨ Stays w w') ∧ wpMovF P F md l.toArray Q (j :: σ).length (listed.setIfInBounds k true) a' w') (fun a' w' hS hs => ⟨.inr hS, hs⟩))
  · rw [List.mem_singleton] at hk
    subst hk
    exact wpOp_of hj (h2 (fun a' w' => (lastF F md l.toArray k = true ∨ Stays w w') ∧ wpMovF P F md l.toArray Q (i :: σ).length (listed.setIfInBounds k true) a' w') (fun a' w' hS hs => ⟨.inr hS, hs⟩))
theorem wpF_done {l : List Oper} {listed : Array Bool} {a : Act} {w : World} (hr : Region.ready md l.toArray listed = []) (h : Q .normal a w) : wpF P F md l Q [] listed a w := ⟨hr, h⟩
end
end Go.Proofs.YtldnelimemjaiaaDoor
/-
  Layer 9's own words of the law: a block of one byte; the first byte of a block that is written twice; alive.
-/
namespace Go.Proofs.YtldnelimemjaiaaDoor
open Go.RowKit Go.Shelf
set_option maxRecDepth 100000

theorem repl_succ (k : Nat) (u : UInt8) : List.replicate k u ++ [u] = List.replicate (k + 1) u := by rw [List.replicate_succ']
def slN : Value → Nat
  | .slice _ n _ => n
  | _ => 0
theorem write_ok {D : DkL} {p : Int} {s : List UInt8} (hm : MayD D) (hp : 0 ≤ p ∧ p < 256) (hs : s.length = 256) (hn : D.2.length ≠ 4096) : writeO D p s = (withD D p s, 0) := by
  rw [writeO, if_pos hm, if_pos hp, if_pos hs, if_neg hn]
theorem crash_ok {D : DkL} {ks : List Bool} (hm : MayD D) (hl : ks.length = D.2.length) : crashO D ks = (keptD D (fun i => ks.getD i false), 0) := by
  rw [crashO, if_pos hm, if_pos hl]
theorem read_ok {D : DkL} {p : Nat} (hm : MayD D) (hp : p < 256) : readO D p = (leftD D (fun _ => true) p, 0) := by
  rw [readO, if_pos hm, if_pos (by omega), Int.toNat_natCast]
/-- Where none waits, a block is as it lasts. -/
theorem left_still {D : DkL} (h : D.2 = []) (mk : Nat → Bool) (p : Nat) : leftD D mk p = D.1.getD p [] := by
  unfold leftD
  rw [h]
  rfl
theorem of_len (u : UInt8) : (List.replicate 256 u).length = 256 := List.length_replicate ..
theorem OutD.far {w : World} {lo g : Nat} {x : DAt} {D : DkL} (h : OutD w lo x D) (hg : g < lo) (u v : Value) : OutD ((w.setCell ⟨g, 0, none⟩ u).setCell ⟨g, 1, none⟩ v) lo x D := by
  rcases h with h | h
  · exact .inl h
  · exact .inr (laid_far h hg (Nat.le_refl _) u v)
/-- What first sees. -/
def seenF (one two : Bool) : UInt8 := if two then 8 else if one then 7 else 0
theorem first_left (one two : Bool) : leftD (withD (withD newD 20 (List.replicate 256 7)) 20 (List.replicate 256 8)) (fun i => [one, two].getD i false) 20 = List.replicate 256 (seenF one two) := by
  cases one <;> cases two <;> rfl
end Go.Proofs.YtldnelimemjaiaaDoor
/-
  label.Put, whatever disk and label it is handed, answers the disk on which the label's block waits, or why not; nothing that was there is written.
-/
namespace Go.Proofs.YtldnelimemjaiaaDoor
open Go.RowKit Go.Shelf
set_option maxRecDepth 100000

theorem put_boxes (w : World) (u v : Value) (l : Lb) : ∃ w0, ((w.alloc (.cells #[u, v] 30)).alloc (.cells (lbC l).toArray 38)).alloc (.cells #[.slice none 0 0, .slice none 0 0] 30) = w0 ∧ Below w.heap.size w w0 ∧ w0.heap.size = w.heap.size + 3 ∧ Blk w0 w.heap.size 30 #[u, v] ∧ Blk w0 (w.heap.size + 1) 38 (lbC l).toArray ∧ Blk w0 (w.heap.size + 2) 30 #[.slice none 0 0, .slice none 0 0] := by
  refine ⟨_, rfl, below_alloc3' w _ _ _, by simp, ((Blk.new w _ _).alloc _).alloc _, ?_, ?_⟩
  · have := (Blk.new (w.alloc (.cells #[u, v] 30)) 38 (lbC l).toArray).alloc (.cells #[.slice none 0 0, .slice none 0 0] 30)
    rwa [World.size_alloc] at this
  · have := Blk.new ((w.alloc (.cells #[u, v] 30)).alloc (.cells (lbC l).toArray 38)) 30 #[.slice none 0 0, .slice none 0 0]
    rwa [World.size_alloc, World.size_alloc] at this
set_option maxHeartbeats 4000000 in
theorem lPut_any (x : DAt) (D : DkL) (l : Lb) (w : World) (h : Dsk w w.heap.size x D) (hw : WfL l) (hz : Szs w) : Calls Tryd.prog 10 #[dval x D, lbV l] w (ToldD (putO D l) w) := by
  have hmx : Tryd.prog.follows Departure.mixedOrders = true := by kernel_rfl
  obtain ⟨w0, hw0, b0, z0, x0, xl, x1⟩ := put_boxes w (.slice x.ba D.1.length x.bc) (.slice x.wa D.2.length x.wc) l
  have h0 := h.step b0
  have hc := dCheck_any x D w0 h0
  have c0 := x0.cell 0
  have c1 := x0.cell 1
  have HX0 := Lib.hid x0
  have HXL := Lib.hid xl
  have HX1 := Lib.hid x1
  have HB := Lib.hid b0
  have HZ0 := Lib.hid z0
  have HD := Lib.hid h0
  have HZ := Lib.hid (hz.step b0)
  have HML : Hid (∀ W, Calls Tryd.prog 26 #[lbV l] W fun e w' => e = .returned (.bool (decide (MayL l))) ∧ Below W.heap.size W w') := Lib.hid fun W => lMay_any l W
  have HBK : Hid (MayL l → ∀ W, Szs W → Calls Tryd.prog 27 #[lbV l] W (BlockPost l W)) := Lib.hid fun hm W hz => lBlock_any l hw hm W hz
  have HSL : Hid (∀ W, Calls Tryd.prog 12 #[.int .u32 (l.1 : Int)] W fun e w' => e = .returned (.int .i64 ((l.1 % 4 : Nat) : Int)) ∧ W = w') := Lib.hid fun W => lSlot_any l.1 hw.1 W
  have HWR : Hid (∀ W a c, Dsk W W.heap.size x D → Bsl W W.heap.size a 256 c (blockL l) → Calls Tryd.prog 16 #[dval x D, .int .i64 ((l.1 % 4 : Nat) : Int), .slice a 256 c] W (ToldD (writeO D ((l.1 % 4 : Nat) : Int) (blockL l)) W)) := Lib.hid fun W a c h1 h2 => dWrite_any x D _ a 256 c _ W h1 h2
  have HO := Lib.hid (show putO D l = if MayD D then (if MayL l then writeO D ((l.1 % 4 : Nat) : Int) (blockL l) else (([], []), 8)) else (([], []), 8) from rfl)
  obtain ⟨R, hR⟩ : ∃ R, putO D l = R := ⟨_, rfl⟩
  rw [hR] at HO ⊢
  obtain ⟨BK, hBK⟩ : ∃ BK, blockL l = BK := ⟨_, rfl⟩
  rw [hBK] at HO HWR
  have HBE := Lib.hid hBK
  obtain ⟨sl, hsl⟩ : ∃ sl, ((l.1 % 4 : Nat) : Int) = sl := ⟨_, rfl⟩
  rw [hsl] at HO HWR HSL
  obtain ⟨g, e, a, b, c, d, f⟩ := l
  simp only [lbC] at hw0
  simp only at HSL
  clear b0 z0 x0 xl x1 h0 h hw hz hR hBK hsl
  rw [checkO] at hc
  by_cases hm : MayD D
  · rw [if_pos hm] at hc HO
    by_cases hl : MayL (g, e, a, b, c, d, f)
    · rw [if_pos hl] at HO
      rw [decide_eq_true hl] at HML
      have HBK2 := Lib.hid (HBK.out hl)
      have HC := Lib.hid hc
      simp only [dval] at HC HWR ⊢
      clear hc hm hl HBK
      go_enter Tryd.func10, Tryd.ntmps10
      go_wp2_with (first
        | (go_at_call 18
           refine HC.out.mono ?_
           rintro ev1 w1 ⟨rfl, b1⟩
           have HB1 := Lib.hid (HB.out.trans (b1.mono HB.out.size))
           have HY0 := Lib.hid (HX0.out.below b1 HX0.out.lt)
           have HYL := Lib.hid (HXL.out.below b1 HXL.out.lt)
           have HY1 := Lib.hid (HX1.out.below b1 HX1.out.lt)
           have HD1 := Lib.hid (HD.out.step b1)
           have HZ1 := Lib.hid (HZ.out.step b1)
           obtain ⟨e0, e1, e2, e3, e4, e5, e6⟩ := HYL.out.seven
           clear b1)
        | (go_at_call 26
           refine (HML.out w1).mono ?_
           rintro ev2 w2 ⟨rfl, b2⟩
           have HB2 := Lib.hid (HB1.out.trans (b2.mono HB1.out.size))
           have HU0 := Lib.hid (HY0.out.below b2 HY0.out.lt)
           have HUL := Lib.hid (HYL.out.below b2 HYL.out.lt)
           have HU1 := Lib.hid (HY1.out.below b2 HY1.out.lt)
           have HD2 := Lib.hid (HD1.out.step b2)
           have HZ2 := Lib.hid (HZ1.out.step b2)
           clear b2))
      clear c0 c1 e0 e1 e2 e3 e4 e5 e6
      obtain ⟨wd, hwd⟩ : ∃ wd, w2.drew = wd := ⟨_, rfl⟩
      have bd : Below w2.heap.size w2 wd := by rw [← hwd]; exact (Below.refl _ _).drew
      have HBd := Lib.hid (HB2.out.trans (bd.mono HB2.out.size))
      have x0 := HU0.out.below bd HU0.out.lt
      have xl := HUL.out.below bd HUL.out.lt
      have HX1d := Lib.hid (HU1.out.below bd HU1.out.lt)
      have HDd := Lib.hid (HD2.out.step bd)
      have HZd := Lib.hid (HZ2.out.step bd)
      have hle : w.heap.size + 2 ≤ wd.heap.size := Nat.le_of_lt HX1d.out.lt
      have C0 := fun X (hX : Below (w.heap.size + 2) wd X) => (x0.below hX (by omega)).cell 0
      have C1 := fun X (hX : Below (w.heap.size + 2) wd X) => (x0.below hX (by omega)).cell 1
      have E := fun X (hX : Below (w.heap.size + 2) wd X) => (xl.below hX (by omega)).seven
      have hbwd : Below (w.heap.size + 2) wd wd := Below.refl _ _
      clear x0 xl bd
      refine wpI_start (Below (w.heap.size + 2) wd) [0, 1, 2, 4, 3, 5, 6, 7, 8, 9, 10] hmx rfl hwd ?_
      clear hwd
      iterate 4 (
        refine wpI_read (v := ?_) hbwd rfl (by kernel_rfl) (by kernel_rfl) (by kernel_rfl) (fun _ _ _ h => h) (.inl ⟨by rfl, ?_⟩) ?_
        rotate_left
        · intro X hX
          have p0 := C0 X hX
          have p1 := C1 X hX
          obtain ⟨q0, q1, q2, q3, q4, q5, q6⟩ := E X hX
          clear hX
          go_simp
          with_reducible rfl
        try simp only [Act.put, List.setIfInBounds_toArray, List.set_cons_zero, List.set_cons_succ])
      clear C0 C1 E
      refine wpI_lone rfl (by kernel_rfl) (fun K hK => ?_)
      go_simp
      refine (HSL.out wd).mono ?_
      rintro ev3 w3 ⟨rfl, rfl⟩
      refine hK _ _ hbwd ?_
      clear hK K
      try simp only [Act.put, List.setIfInBounds_toArray, List.set_cons_zero, List.set_cons_succ]
      refine wpI_lone rfl (by kernel_rfl) (fun K hK => ?_)
      go_simp
      refine (HBK2.out wd HZd.out).mono ?_
      rintro ev4 w4 ⟨gb, rfl, zb, sb, b4⟩
      rw [HBE.out] at sb
      have hb4 := b4.mono hle
      refine hK _ _ hb4 ?_
      clear hK K zb
      try simp only [Act.put, List.setIfInBounds_toArray, List.set_cons_zero, List.set_cons_succ]
      refine wpI_lone rfl (by kernel_rfl) (fun K hK => ?_)
      go_simp
      refine (HWR.out w4 _ _ (HDd.out.step b4) sb).mono ?_
      rintro ev5 w5 ⟨x5, rfl, o5, b5⟩
      have hb5 := b4.trans (b5.mono b4.size)
      have HU5 := Lib.hid (HX1d.out.below hb5 HX1d.out.lt)
      have hlo : w.heap.size + 2 < w4.heap.size := Nat.lt_of_lt_of_le HX1d.out.lt b4.size
      rw [← HO.out] at o5 ⊢
      have hb5' := hb5.mono hle
      refine hK _ _ hb5' ?_
      clear hK K
      try simp only [Act.put, List.setIfInBounds_toArray, List.set_cons_zero, List.set_cons_succ]
      simp only [dval]
      obtain ⟨F, c'⟩ := R
      obtain ⟨n1, hn1⟩ : ∃ n, F.1.length = n := ⟨_, rfl⟩
      obtain ⟨n2, hn2⟩ : ∃ n, F.2.length = n := ⟨_, rfl⟩
      simp only [hn1, hn2]
      iterate 2 (
        refine wpI_read (v := ?_) hb5' rfl (by kernel_rfl) (by kernel_rfl) (by kernel_rfl) (fun _ _ _ h => h) (.inl ⟨by rfl, ?_⟩) ?_
        rotate_left
        · intro X hX
          clear hX
          go_simp
          with_reducible rfl
        try simp only [Act.put, List.setIfInBounds_toArray, List.set_cons_zero, List.set_cons_succ])
      refine wpI_lone rfl (by kernel_rfl) (fun K hK => ?_)
      have d0 := HU5.out.cell 0
      have d1 := HU5.out.cell 1
      have hf := fun i => HU5.out.frozen i
      go_simp
      have HKD := Lib.hid ((o5.far hlo (.slice x5.ba n1 x5.bc) (.slice x5.wa n2 x5.wc)).lower (lo' := w.heap.size) (by omega))
      have hbs := (hb5'.setCell (p := ⟨w.heap.size + 2, 0, none⟩) (Nat.le_refl _) (.slice x5.ba n1 x5.bc)).setCell (p := ⟨w.heap.size + 2, 1, none⟩) (Nat.le_refl _) (.slice x5.wa n2 x5.wc)
      have HBF := Lib.hid (((HBd.out.trans (hb5.mono HBd.out.size)).setCell (p := ⟨w.heap.size + 2, 0, none⟩) (Nat.le_add_right _ _) (.slice x5.ba n1 x5.bc)).setCell (p := ⟨w.heap.size + 2, 1, none⟩) (Nat.le_add_right _ _) (.slice x5.wa n2 x5.wc))
      have HXF := Lib.hid ((HU5.out.set_ 0 (.slice x5.ba n1 x5.bc)).set_ 1 (.slice x5.wa n2 x5.wc))
      obtain ⟨wf, hwf⟩ : ∃ wf, ((w5.setCell ⟨w.heap.size + 2, 0, none⟩ (.slice x5.ba n1 x5.bc)).setCell ⟨w.heap.size + 2, 1, none⟩ (.slice x5.wa n2 x5.wc)) = wf := ⟨_, rfl⟩
      rw [hwf] at HKD hbs HBF HXF ⊢
      refine hK _ _ hbs ?_
      clear hK K d0 d1 hf hwf o5
      try simp only [Act.put, List.setIfInBounds_toArray, List.set_cons_zero, List.set_cons_succ]
      iterate 1 (
        refine wpI_read (v := ?_) hbs rfl (by kernel_rfl) (by kernel_rfl) (by kernel_rfl) (fun _ _ _ h => h) (.inl ⟨by rfl, ?_⟩) ?_
        rotate_left
        · intro X hX
          clear hX
          go_simp
          with_reducible rfl
        try simp only [Act.put, List.setIfInBounds_toArray, List.set_cons_zero, List.set_cons_succ])
      clear hbs
      refine wpI_done (by kernel_rfl) ?_
      go_wp2_with fail
      have e0 := HXF.out.cell 0
      have e1 := HXF.out.cell 1
      refine bodyPost_ret (v := .tuple #[.agg #[.slice x5.ba n1 x5.bc, .slice x5.wa n2 x5.wc], .int .i64 c']) (by simp [results, Tryd.f10, go_sem, e0, e1]) rfl ?_
      exact ⟨x5, by simp only [dval, hn1, hn2], HKD.out, HBF.out⟩
    · rw [if_neg hl] at HO
      rw [decide_eq_false hl] at HML
      obtain rfl := HO.out
      have HC := Lib.hid hc
      simp only [dval] at HC ⊢
      clear hc hm hl HBK HWR
      go_enter Tryd.func10, Tryd.ntmps10
      go_wp2_with (first
        | (go_at_call 18
           refine HC.out.mono ?_
           rintro ev1 w1 ⟨rfl, b1⟩
           have HB1 := Lib.hid (HB.out.trans (b1.mono HB.out.size))
           have HYL := Lib.hid (HXL.out.below b1 HXL.out.lt)
           have HY1 := Lib.hid (HX1.out.below b1 HX1.out.lt)
           obtain ⟨e0, e1, e2, e3, e4, e5, e6⟩ := HYL.out.seven
           clear b1)
        | (go_at_call 26
           refine (HML.out w1).mono ?_
           rintro ev2 w2 ⟨rfl, b2⟩
           have HB2 := Lib.hid (HB1.out.trans (b2.mono HB1.out.size))
           have HU1 := Lib.hid (HY1.out.below b2 HY1.out.lt)
           have d0 := HU1.out.cell 0
           have d1 := HU1.out.cell 1
           have hf := fun i => HU1.out.frozen i
           clear b2))
      clear c0 c1 e0 e1 e2 e3 e4 e5 e6
      have hBF := (HB2.out.setCell (p := ⟨w.heap.size + 2, 0, none⟩) (Nat.le_add_right _ _) (.slice none 0 0)).setCell (p := ⟨w.heap.size + 2, 1, none⟩) (Nat.le_add_right _ _) (.slice none 0 0)
      have hXF := (HU1.out.set_ 0 (.slice none 0 0)).set_ 1 (.slice none 0 0)
      obtain ⟨wf, hwf⟩ : ∃ wf, ((w2.setCell ⟨w.heap.size + 2, 0, none⟩ (.slice none 0 0)).setCell ⟨w.heap.size + 2, 1, none⟩ (.slice none 0 0)) = wf := ⟨_, rfl⟩
      rw [hwf] at hBF hXF ⊢
      clear hwf d0 d1 hf
      have e0 := hXF.cell 0
      have e1 := hXF.cell 1
      exact bodyPost_ret (v := .tuple #[.agg #[.slice none 0 0, .slice none 0 0], .int .i64 8]) (by simp [results, Tryd.f10, go_sem, e0, e1]) rfl (toldD_no rfl hBF)
  · rw [if_neg hm] at hc HO
    obtain rfl := HO.out
    have HC := Lib.hid hc
    simp only [dval] at HC ⊢
    clear hc hm HBK HWR HML
    go_enter Tryd.func10, Tryd.ntmps10
    go_wp2_with (go_at_call 18
                 refine HC.out.mono ?_
                 rintro ev1 w1 ⟨rfl, b1⟩
                 have HB1 := Lib.hid (HB.out.trans (b1.mono HB.out.size))
                 have HY1 := Lib.hid (HX1.out.below b1 HX1.out.lt)
                 have d0 := HY1.out.cell 0
                 have d1 := HY1.out.cell 1
                 have hf := fun i => HY1.out.frozen i
                 clear b1)
    clear c0 c1
    have hBF := (HB1.out.setCell (p := ⟨w.heap.size + 2, 0, none⟩) (Nat.le_add_right _ _) (.slice none 0 0)).setCell (p := ⟨w.heap.size + 2, 1, none⟩) (Nat.le_add_right _ _) (.slice none 0 0)
    have hXF := (HY1.out.set_ 0 (.slice none 0 0)).set_ 1 (.slice none 0 0)
    obtain ⟨wf, hwf⟩ : ∃ wf, ((w1.setCell ⟨w.heap.size + 2, 0, none⟩ (.slice none 0 0)).setCell ⟨w.heap.size + 2, 1, none⟩ (.slice none 0 0)) = wf := ⟨_, rfl⟩
    rw [hwf] at hBF hXF ⊢
    clear hwf d0 d1 hf
    have e0 := hXF.cell 0
    have e1 := hXF.cell 1
    exact bodyPost_ret (v := .tuple #[.agg #[.slice none 0 0, .slice none 0 0], .int .i64 8]) (by simp [results, Tryd.f10, go_sem, e0, e1]) rfl (toldD_no rfl hBF)
end Go.Proofs.YtldnelimemjaiaaDoor
/-
  slices.SortFunc over labels, as label.Find calls it: the row holds the same labels, and their Gens fall.
-/
namespace Go.Proofs.YtldnelimemjaiaaDoor
open Go.RowKit Go.Shelf
set_option maxRecDepth 100000

def lSort_ren : Go.Shelf.Ren := ⟨fun | 6 => 21 | 15 => 43 | 14 => 42 | 28 => 70 | 29 => 71 | 20 => 62 | 21 => 63 | 22 => 64 | 23 => 65 | 24 => 66 | 25 => 67 | 26 => 68 | 27 => 69 | 46 => 84 | 47 => 85 | 48 => 86 | 49 => 87 | 50 => 88 | 57 => 96 | n => n, fun | 22 => 23 | 24 => 38 | 25 => 58 | 3 => 3 | 39 => 80 | 0 => 0 | 53 => 34 | 55 => 107 | 4 => 4 | 46 => 101 | 45 => 100 | 50 => 95 | 5 => 5 | 9 => 9 | 66 => 121 | 70 => 125 | 76 => 137 | 77 => 138 | n => n, fun | n => n⟩
theorem lSort_lays : Go.Proofs.SlLaysF0.n6 Tryd.prog lSort_ren := {
  mixed := by kernel_rfl
  f6 := ⟨Tryd.f21.name, by decide, Tryd.func21.trans (congrArg some (by kernel_rfl))⟩
  f14 := ⟨Tryd.f42.name, by decide, Tryd.func42.trans (congrArg some (by kernel_rfl))⟩
  f15 := Tryd.func43.trans (congrArg some (by kernel_rfl))
  f20 := ⟨Tryd.f62.name, by decide, Tryd.func62.trans (congrArg some (by kernel_rfl))⟩
  f21 := ⟨Tryd.f63.name, by decide, Tryd.func63.trans (congrArg some (by kernel_rfl))⟩
  f22 := ⟨Tryd.f64.name, by decide, Tryd.func64.trans (congrArg some (by kernel_rfl))⟩
  f23 := ⟨Tryd.f65.name, by decide, Tryd.func65.trans (congrArg some (by kernel_rfl))⟩
  f24 := ⟨Tryd.f66.name, by decide, Tryd.func66.trans (congrArg some (by kernel_rfl))⟩
  f25 := ⟨Tryd.f67.name, by decide, Tryd.func67.trans (congrArg some (by kernel_rfl))⟩
  f26 := ⟨Tryd.f68.name, by decide, Tryd.func68.trans (congrArg some (by kernel_rfl))⟩
  f27 := ⟨Tryd.f69.name, by decide, Tryd.func69.trans (congrArg some (by kernel_rfl))⟩
  f28 := Tryd.func70.trans (congrArg some (by kernel_rfl))
  f29 := Tryd.func71.trans (congrArg some (by kernel_rfl))
  f46 := ⟨Tryd.f84.name, by decide, Tryd.func84.trans (congrArg some (by kernel_rfl))⟩
  f47 := Tryd.func85.trans (congrArg some (by kernel_rfl))
  f48 := Tryd.func86.trans (congrArg some (by kernel_rfl))
  f49 := ⟨Tryd.f87.name, by decide, Tryd.func87.trans (congrArg some (by kernel_rfl))⟩
  f50 := ⟨Tryd.f88.name, by decide, Tryd.func88.trans (congrArg some (by kernel_rfl))⟩
  f57 := ⟨Tryd.f96.name, by decide, Tryd.func96.trans (congrArg some (by kernel_rfl))⟩
  t0 := Tryd.underlying0
  a0 := Tryd.isAgg0
  z0 := Tryd.sizeOf0
  v0 := Tryd.zeroValue0
  t3 := Tryd.underlying3
  a3 := Tryd.isAgg3
  z3 := Tryd.sizeOf3
  v3 := Tryd.zeroValue3
  t4 := Tryd.underlying4
  a4 := Tryd.isAgg4
  z4 := Tryd.sizeOf4
  v4 := Tryd.zeroValue4
  t5 := Tryd.underlying5
  a5 := Tryd.isAgg5
  z5 := Tryd.sizeOf5
  v5 := Tryd.zeroValue5
  t9 := Tryd.underlying9
  a9 := Tryd.isAgg9
  z9 := Tryd.sizeOf9
  v9 := Tryd.zeroValue9
  t22 := Tryd.underlying23
  a22 := Tryd.isAgg23
  z22 := Tryd.sizeOf23
  v22 := Tryd.zeroValue23
  t25 := Tryd.underlying58
  a25 := Tryd.isAgg58
  z25 := Tryd.sizeOf58
  v25 := Tryd.zeroValue58
  t39 := Tryd.underlying80
  a39 := Tryd.isAgg80
  z39 := Tryd.sizeOf80
  v39 := Tryd.zeroValue80
  t45 := Tryd.underlying100
  a45 := Tryd.isAgg100
  z45 := Tryd.sizeOf100
  v45 := Tryd.zeroValue100
  t46 := Tryd.underlying101
  a46 := Tryd.isAgg101
  z46 := Tryd.sizeOf101
  v46 := Tryd.zeroValue101
  t50 := Tryd.underlying95
  a50 := Tryd.isAgg95
  z50 := Tryd.sizeOf95
  v50 := Tryd.zeroValue95
  t53 := Tryd.underlying34
  a53 := Tryd.isAgg34
  z53 := Tryd.sizeOf34
  v53 := Tryd.zeroValue34
  t55 := Tryd.underlying107
  a55 := Tryd.isAgg107
  z55 := Tryd.sizeOf107
  v55 := Tryd.zeroValue107
  t66 := Tryd.underlying121
  a66 := Tryd.isAgg121
  z66 := Tryd.sizeOf121
  v66 := Tryd.zeroValue121
  t70 := Tryd.underlying125
  a70 := Tryd.isAgg125
  z70 := Tryd.sizeOf125
  v70 := Tryd.zeroValue125
  t76 := Tryd.underlying137
  a76 := Tryd.isAgg137
  z76 := Tryd.sizeOf137
  v76 := Tryd.zeroValue137
  t77 := Tryd.underlying138
  a77 := Tryd.isAgg138
  z77 := Tryd.sizeOf138
  v77 := Tryd.zeroValue138 }
theorem lNaN_any (x : Nat) (w : World) : Calls Tryd.prog 44 #[.int .u32 (x : Int)] w fun e w' => e = .returned (.bool false) ∧ w = w' := by
  go_enter Tryd.func44, Tryd.ntmps44
  go_wp2_with fail
  go_ret
  exact ⟨by simp, rfl⟩
theorem lCmp_any (x y : Nat) (w : World) : Calls Tryd.prog 23 #[.int .u32 (x : Int), .int .u32 (y : Int)] w fun e w' => e = .returned (.int .i64 (Lib.compareInt (x : Int) (y : Int))) ∧ w = w' := by
  have h1 := lNaN_any x
  have h2 := lNaN_any y
  rw [Lib.compareInt]
  by_cases h : (x : Int) < (y : Int)
  · rw [if_pos h]
    go_enter Tryd.func23, Tryd.ntmps23
    go_wp2_with (first
      | (go_at_call 44; refine (h1 _).mono ?_; rintro ev w1 ⟨rfl, rfl⟩; clear h1)
      | (go_at_call 44; refine (h2 _).mono ?_; rintro ev w1 ⟨rfl, rfl⟩))
    go_ret
    exact ⟨rfl, rfl⟩
  · rw [if_neg h]
    by_cases h' : (x : Int) > (y : Int)
    · rw [if_pos h']
      go_enter Tryd.func23, Tryd.ntmps23
      go_wp2_with (first
        | (go_at_call 44; refine (h1 _).mono ?_; rintro ev w1 ⟨rfl, rfl⟩; clear h1)
        | (go_at_call 44; refine (h2 _).mono ?_; rintro ev w1 ⟨rfl, rfl⟩))
      go_ret
      exact ⟨rfl, rfl⟩
    · rw [if_neg h']
      go_enter Tryd.func23, Tryd.ntmps23
      go_wp2_with (first
        | (go_at_call 44; refine (h1 _).mono ?_; rintro ev w1 ⟨rfl, rfl⟩; clear h1)
        | (go_at_call 44; refine (h2 _).mono ?_; rintro ev w1 ⟨rfl, rfl⟩))
      go_ret
      exact ⟨rfl, rfl⟩
/-- What the closure answers. -/
def lbCmp (l m : Lb) : Int := Lib.compareInt (m.1 : Int) (l.1 : Int)
theorem lClosure (l m : Lb) (w : World) : Calls Tryd.prog 22 #[.agg (lbC l).toArray, .agg (lbC m).toArray] w fun e w' => e = .returned (.int .i64 (lbCmp l m)) ∧ ∃ q os', w' = Sort.grow (w.drewN q) os' := by
  have hc := fun W => lCmp_any m.1 l.1 W
  unfold lbCmp
  obtain ⟨r, hr⟩ : ∃ r, Lib.compareInt (m.1 : Int) (l.1 : Int) = r := ⟨_, rfl⟩
  rw [hr] at hc ⊢
  clear hr
  simp only [lbC]
  go_enter Tryd.func22, Tryd.ntmps22
  go_wp2_with (go_at_call 23; refine (hc _).mono ?_; rintro ev w1 ⟨rfl, rfl⟩)
  go_ret
  exact ⟨rfl, 0, _, by rw [Sort.alloc_eq_grow, Sort.alloc_eq_grow, Sort.grow_grow]; rfl⟩
theorem lbCmp_swo : Sort.SWO (Go.Proofs.ltOf lbCmp) := by
  have h : ∀ l m : Lb, Go.Proofs.ltOf lbCmp l m = decide (m.1 < l.1) := fun l m => by
    unfold Go.Proofs.ltOf lbCmp Lib.compareInt
    by_cases h1 : (m.1 : Int) < (l.1 : Int)
    · rw [if_pos h1]; simp; omega
    · rw [if_neg h1]
      by_cases h2 : (m.1 : Int) > (l.1 : Int)
      · rw [if_pos h2]; simp; omega
      · rw [if_neg h2]; simp; omega
  exact ⟨fun x => by rw [h]; simp, fun x y z => by rw [h, h, h]; simp; omega, fun x y z => by rw [h, h, h]; simp; omega⟩
theorem lbCmp_lt (l m : Lb) : Go.Proofs.ltOf lbCmp l m = decide (m.1 < l.1) := by
  unfold Go.Proofs.ltOf lbCmp Lib.compareInt
  by_cases h1 : (m.1 : Int) < (l.1 : Int)
  · rw [if_pos h1]; simp; omega
  · rw [if_neg h1]
    by_cases h2 : (m.1 : Int) > (l.1 : Int)
    · rw [if_pos h2]; simp; omega
    · rw [if_neg h2]; simp; omega
/-- The cells of labels, flat. -/
theorem flat_lbCs (L : List Lb) : Go.Sort.flatK lbC 7 L.toArray = (lbCs L).toArray := by
  apply Array.ext
  · simp [lbCs_length]
  · intro t h1 h2
    have h1' : t < L.length * 7 := by simpa using h1
    have hi : t / 7 < L.length := by omega
    have hg := Go.Sort.get_flatK lbC 7 L.toArray t (by simpa using h1')
    rw [getElem!_pos _ t h1] at hg
    rw [hg]
    have e1 : L.toArray[t / 7]! = L[t / 7] := by rw [getElem!_pos _ _ (by simpa using hi)]; simp
    rw [e1]
    have hl : (lbC L[t / 7]).length = 7 := rfl
    have hj : t % 7 < (lbC L[t / 7]).length := by rw [hl]; omega
    have hx := lbCs_get L (t / 7) hi (t % 7) ((lbC L[t / 7])[t % 7]) (List.getElem?_eq_getElem hj)
    have e2 : t / 7 * 7 + t % 7 = t := by omega
    rw [e2] at hx
    rw [getElem!_pos (lbC L[t / 7]) (t % 7) hj, List.getElem_toArray]
    have h2' : t < (lbCs L).length := by simpa using h2
    rw [List.getElem?_eq_getElem h2'] at hx
    exact (Option.some.inj hx).symm
theorem lbRow_holds {w : World} {base g cap : Nat} {L : List Lb} (h : LRow w base (.slice (some ⟨g, 0, none⟩) L.length cap) L) : Go.Sort.HoldsK lbC 7 w g 0 L.toArray := by
  obtain ⟨⟨hl, ⟨h2, _⟩ | ⟨g', cap', cur, h2, hb, h3, h4, h5, h6, h7⟩⟩, hw⟩ := h
  · cases h2
  · cases h2
    intro j hj
    rw [flat_lbCs] at hj ⊢
    have hj' : j < (lbCs L).length := by simpa using hj
    have hs : j < L.length * 7 := by rw [← lbCs_length]; exact hj'
    refine ⟨?_, ?_⟩
    · rw [Nat.zero_add, cell_of_row w g j cur 38 (0, 0) h3, getElem!_pos _ j hj]
      have e : cur.toList[j]? = (lbCs L)[j]? := by rw [← h7, List.getElem?_take_of_lt hs]
      rw [← Array.getElem?_toList, e, List.getElem?_eq_getElem hj']
      simp
    · exact Blk.frozen (show Blk w g 38 cur from h3) _
/-- The row behind the sort. -/
theorem lbRow_sorted {w : World} {base g cap n : Nat} {L L' : List Lb} {os : Array Obj} (h : LRow w base (.slice (some ⟨g, 0, none⟩) L.length cap) L) (hp : L'.Perm L) :
    LRow (sortWorldK lbC 7 w g 0 n L'.toArray os) base (.slice (some ⟨g, 0, none⟩) L.length cap) L' ∧ w.grownBy (sortWorldK lbC 7 w g 0 n L'.toArray os) (some g) := by
  obtain ⟨⟨hl, ⟨h2, _⟩ | ⟨g', cap', cur, h2, hb, h3, h4, h5, h6, h7⟩⟩, hw⟩ := h
  · cases h2
  · cases h2
    have hlt : g < w.heap.size := (Array.getElem?_eq_some_iff.1 h3).1
    have hn : L'.length = L.length := hp.length_eq
    have hF : Go.Sort.flatK lbC 7 L'.toArray = (lbCs L').toArray := flat_lbCs L'
    have hz : (lbCs L').length = L.length * 7 := by rw [lbCs_length, hn]
    have hput : ∀ k, k < w.heap.size → (sortWorldK lbC 7 w g 0 n L'.toArray os).heap[k]? = (w.heap.modify g (Go.Sort.onCells (Go.Sort.putCells id 0 (lbCs L').toArray)))[k]? := fun k hk => by
      unfold sortWorldK
      rw [Go.Sort.heap_grow_old _ _ (by rw [Go.Sort.putRowK, Go.Sort.size_putRow]; exact hk), Go.Sort.putRowK, hF]
      rfl
    have hg : (sortWorldK lbC 7 w g 0 n L'.toArray os).heap[g]? = some (.cells (Go.Sort.putCells id 0 (lbCs L').toArray cur) 38 (0, 0)) := by
      rw [hput g hlt, Array.getElem?_modify, if_pos rfl, h3]
      rfl
    have hsz : (Go.Sort.putCells id 0 (lbCs L').toArray cur).size = cur.size := by simp [Go.Sort.putCells]
    have htk : (Go.Sort.putCells id 0 (lbCs L').toArray cur).toList.take (L.length * 7) = lbCs L' := by
      apply List.ext_getElem?
      intro j
      by_cases hj : j < L.length * 7
      · have hjc : j < cur.size := by rw [h6]; exact Nat.lt_of_lt_of_le hj (Nat.mul_le_mul_right 7 h4)
        rw [List.getElem?_take_of_lt hj, Array.getElem?_toList]
        simp only [Go.Sort.putCells, Array.getElem?_mapIdx, Array.getElem?_eq_getElem hjc, Option.map_some, List.size_toArray]
        rw [if_pos ⟨Nat.zero_le _, by omega⟩, Nat.sub_zero, getElem!_pos _ j (by simpa using (by omega : j < (lbCs L').length)), List.getElem?_eq_getElem (by omega)]
        simp
      · rw [List.getElem?_eq_none (by simp; omega), List.getElem?_eq_none (by omega)]
    refine ⟨⟨⟨by rw [lbCs_length], .inr ⟨g, cap, _, by rw [hn], hb, hg, by omega, h5, by rw [hsz]; exact h6, by rw [hn]; exact htk⟩⟩, fun p hp' => hw p (hp.mem_iff.1 hp')⟩, ?_⟩
    refine ⟨rfl, rfl, rfl, ?_, fun i hi hne => ?_⟩
    · unfold sortWorldK
      rw [Go.Sort.size_grow, Go.Sort.putRowK, Go.Sort.size_putRow]
      exact Nat.le_add_right _ _
    · rw [hput i hi, Array.getElem?_modify, if_neg (fun e => hne (by rw [e]))]
/-- The row is sorted. -/
theorem lSort_any (a : Option Addr) (cap : Nat) (L : List Lb) (w : World) (base : Nat) (h : LRow w base (.slice a L.length cap) L) (h4 : L.length ≤ 4) :
    Calls Tryd.prog 21 #[.slice a L.length cap, .func (.func 22) #[] #[]] w fun e w' => e = .returned (.tuple #[]) ∧ ∃ L', L'.Perm L ∧ Falls L' ∧ LRow w' base (.slice a L.length cap) L' ∧ w.grownBy w' (Value.ownBlock (.slice a L.length cap)) := by
  by_cases h0 : L.length = 0
  · obtain rfl : L = [] := List.eq_nil_of_length_eq_zero h0
    have hn := AnyF.slices_SortFunc_none lSort_lays a cap (.func (.func 22) #[] #[]) w
    refine hn.mono ?_
    rintro e w' ⟨rfl, rfl⟩
    exact ⟨rfl, [], List.Perm.refl _, List.Pairwise.nil, h, World.grownBy.refl _ _⟩
  · have hr := h
    obtain ⟨⟨hl, ⟨h2, h3⟩ | ⟨g, cap', cur, h2, hb, h3, _⟩⟩, hw⟩ := hr
    · exact absurd h3 h0
    · cases h2
      have hlt : g < w.heap.size := (Array.getElem?_eq_some_iff.1 h3).1
      have eg : ∀ args w, (callFunc 22 args).run Tryd.prog w = .ok (.enter 22 args) w := enters_of Tryd.func22 (by kernel_rfl) rfl
      have hcmp : CmpLays Tryd.prog 22 #[] lbC 7 lbCmp g 0 L.toArray.size w := fun _ _ _ _ x y => lClosure x y _
      have hlen : ∀ (n : Nat) (W : World), n ≤ 12 → Calls Tryd.prog 43 #[.int .u64 n] W fun e w' => (∃ l : Int, e = .returned (.int .i64 l)) ∧ w' = W := fun n W hn => by
        have hb := Any.bits_Len (SlLaysF0.n15.bits (P := Tryd.prog) (ρ := lSort_ren) { lSort_lays with }) n W (by omega) (by omega)
        exact hb.mono fun _ _ ⟨he, hw⟩ => ⟨⟨_, he⟩, hw⟩
      have hs := AnyQ.slices_SortFunc_small_sorted lSort_lays 7 Tryd.isAgg38 Tryd.sizeOf38 lbC (fun _ => rfl) (fun x v hv => by
        simp only [lbC, List.mem_cons, List.not_mem_nil, or_false] at hv
        rcases hv with rfl | rfl | rfl | rfl | rfl | rfl | rfl <;> rfl) lbCmp 22 #[] lbCmp_swo g 0 cap L.toArray w eg hcmp (lbRow_holds h) hlt (by simp; omega) hlen
      have hsz : L.toArray.size = L.length := by simp
      rw [hsz] at hs
      refine hs.mono ?_
      rintro e w' ⟨rfl, d', n, os, hp, hf, rfl⟩
      obtain ⟨p1, _, p3⟩ := hp
      have hd : d'.size = L.length := by rw [p1]; simp
      have e1 : (d'.extract 0 L.length) = d' := by rw [← hd]; simp
      have e2 : (L.toArray.extract 0 L.length) = L.toArray := by simp
      rw [e1, e2] at p3
      have hperm : d'.toList.Perm L := by simpa using p3
      have hfall : Falls d'.toList := by
        refine List.pairwise_iff_getElem.2 fun i j hi hj hij => ?_
        have hi' : i < d'.size := by simpa using hi
        have hj' : j < d'.size := by simpa using hj
        have := hf i j (Nat.zero_le _) hij (by rw [← hd]; exact hj')
        rw [lbCmp_lt, getElem!_pos d' i hi', getElem!_pos d' j hj'] at this
        simp only [decide_eq_false_iff_not] at this
        simp only [Array.getElem_toList]
        omega
      have hrow := lbRow_sorted (n := n) (os := os) h hperm
      rw [Array.toArray_toList] at hrow
      exact ⟨rfl, d'.toList, hperm, hfall, hrow.1, hrow.2⟩
end Go.Proofs.YtldnelimemjaiaaDoor
/-
  append of bytes to a row of one's own, at any place of a walk; in a region that draws its order.
-/
namespace Go.Proofs.YtldnelimemjaiaaDoor
open Go.RowKit Go.Shelf
set_option maxRecDepth 100000

/-- append(v, nil...), whatever capacity nil is written with. -/
theorem run_app_none {P : Program} {w : World} (base : Nat) (t ty e : TypeId) (i : TypeInfo) (size c : Nat) (ht : P.underlying t = some (.slice e)) (hi : P.info? e = some i)
    (v : Value) (n : Nat) (xs : List Value) (hown : w.ownsRow base e size v n xs) : (Builtin.append_ #[t, t] ty #[v, .slice none 0 c]).run P w = .ok v w := by
  rcases hown.2 with ⟨rfl, rfl⟩ | ⟨g, cap, cur, rfl, _, _, hnc, _⟩
  · simp [Builtin.append_, run_underlying ht, sizeOf, typeInfo, hi, Builtin.lenOf, Builtin.firstCells]
  · simp [Builtin.append_, run_underlying ht, sizeOf, typeInfo, hi, Builtin.lenOf, Builtin.firstCells, hnc, storeCells]
section
variable {w : World} {o : Oper} {a : Act} {K : Act → World → Prop} {Q : Exit → Act → World → Prop}
theorem wp_app_own (s x : Operand)
    (ho : o.op = .call { callee := .builtin .append, args := #[s, x], argTypes := #[44, 44] })
    (base : Nat) (v : Value) (n : Nat) (xs : List UInt8) (hs : a.eval s = v) (hown : w.ownsRow base 5 1 v n (vals xs))
    (B : Nat) (A : Option Addr) (m c : Nat) (news : List UInt8) (hx : a.eval x = .slice A m c) (hr : Bsl w B A m c news)
    (hnm : n + m ≤ 100000000000000) (hbase : base ≤ w.heap.size)
    (h : ∀ v' w', w'.ownsRow base 5 1 v' (n + m) (vals (xs ++ news)) → w.grownBy w' v.ownBlock → K (a.put o.dst v') w') : o.wp Tryd.prog a w K Q := by
  obtain ⟨i0, hi, hz0, hz1, hz2⟩ := info_parts infoU8
  obtain ⟨h1, h2, h3, h4, h5⟩ := hr
  cases A with
  | none =>
    have hc := h4 rfl
    have hm : m = 0 := by omega
    subst hm; subst hc
    obtain rfl : news = [] := List.eq_nil_of_length_eq_zero h1
    have hrun := run_app_none (P := Tryd.prog) (w := w) base 44 o.type 5 i0 1 0 Tryd.underlying44 hi v n (vals xs) hown
    unfold Oper.wp
    simp [execOp, ho, resolve, invoke, builtin, hs, hx, hrun, Result.andThen]
    exact h v w (by simpa using hown) (World.grownBy.refl w _)
  | some ad =>
    refine wp_append_own w s x 44 ho base 5 i0 (.int .u8 0) 1 1 Tryd.underlying44 hi hz0 hz1 hz2 rfl (by decide) v n (vals xs) hs hown ad m c (vals news) hx (by simp [vals, h1]) (fun j u hu => ?_) (fun u hu => ?_) (by unfold maxLen; omega) (by omega) hbase ?_
    · obtain ⟨hj, rfl⟩ := vals_get hu
      obtain ⟨b, off, e, _, hc⟩ := h5 (by omega)
      cases e
      rw [← hc j hj]
      congr 1
      unfold Addr.add
      split <;> simp_all
    · obtain ⟨y, _, rfl⟩ := List.mem_map.1 hu
      rfl
    · intro v' w' h2 h3 _
      exact h v' w' (by rw [← vals_append]; exact h2) h3
end
section
variable {l : List Oper} {Q : Exit → Act → World → Prop} {md : Region.Mode} {S : World → Prop} {i : Nat} {σ : List Nat} {o : Oper} {listed : Array Bool} {a : Act} {w : World}
/-- Where its turn comes alone. -/
theorem wpI_app_own (hi : nthOp l i = some o) (hr : Region.ready md l.toArray listed = [i]) (hgd : o.guard = none) (s x : Operand)
    (ho : o.op = .call { callee := .builtin .append, args := #[s, x], argTypes := #[44, 44] })
    (base : Nat) (v : Value) (n : Nat) (xs : List UInt8) (hs : a.eval s = v) (hown : w.ownsRow base 5 1 v n (vals xs))
    (B : Nat) (A : Option Addr) (m c : Nat) (news : List UInt8) (hx : a.eval x = .slice A m c) (hb : Bsl w B A m c news)
    (hnm : n + m ≤ 100000000000000) (hbase : base ≤ w.heap.size)
    (h : ∀ v' w', w'.ownsRow base 5 1 v' (n + m) (vals (xs ++ news)) → w.grownBy w' v.ownBlock → S w' ∧ wpI Tryd.prog md S l Q σ (listed.setIfInBounds i true) (a.put o.dst v') w') : wpI Tryd.prog md S l Q (i :: σ) listed a w :=
  wpI_lone hi hr fun K hK => by
    rw [if_pos (by simp [Region.wanted, hgd])]
    exact wp_app_own s x ho base v n xs hs hown B A m c news hx hb hnm hbase fun v' w' h1 h2 => hK _ _ (h v' w' h1 h2).1 (h v' w' h1 h2).2
end
/-- A slice literal of one byte. -/
theorem one_own (w : World) (x : UInt8) : (w.alloc (.cells #[.int .u8 (x.toNat : Int)] 5)).ownsRow w.heap.size 5 1 (.slice (some ⟨w.heap.size, 0, none⟩) 1 1) 1 (vals [x]) :=
  ⟨rfl, .inr ⟨w.heap.size, 1, _, rfl, Nat.le_refl _, heap_alloc_new w _, Nat.le_refl _, by unfold maxLen; omega, rfl, rfl⟩⟩
end Go.Proofs.YtldnelimemjaiaaDoor
/-
  append of labels to a row of the call's own.
-/
namespace Go.Proofs.YtldnelimemjaiaaDoor
open Go.RowKit Go.Shelf
set_option maxRecDepth 100000

theorem infoLb : (Tryd.prog.info? 38).map (fun i => (i.zero, i.size, i.bytes)) = some (some (.agg #[.int .u32 0, .int .u32 0, .int .i64 0, .int .u32 0, .int .u32 0, .int .u32 0, .int .u32 0]), 7, 32) := by kernel_rfl
theorem lbCs_mem {L : List Lb} {u : Value} (h : u ∈ lbCs L) : u.oneCell' = true := by
  obtain ⟨p, _, hu⟩ := List.mem_flatMap.1 h
  simp only [lbC, List.mem_cons, List.not_mem_nil, or_false] at hu
  rcases hu with rfl | rfl | rfl | rfl | rfl | rfl | rfl <;> rfl
/-- The cells of a slice of pointers. -/
theorem Lbs.row {w : World} {B b off len cap : Nat} {L : List Lb} (h : Lbs w B (some ⟨b, off, none⟩) len cap L) (j : Nat) (u : Value) (hu : (lbCs L)[j]? = some u) : w.cell? ⟨b, off + j, none⟩ = some u := by
  have hj : j < L.length * 7 := by
    rcases Nat.lt_or_ge j (lbCs L).length with hj | hj
    · rw [lbCs_length] at hj; exact hj
    · rw [List.getElem?_eq_none hj] at hu; cases hu
  have hi : j / 7 < L.length := by omega
  obtain ⟨b', off', e, _, hc⟩ := h.2.2.2.2 (by rw [← h.1]; omega)
  cases e
  have hlen : (lbC L[j / 7]).length = 7 := rfl
  have hr : j % 7 < (lbC L[j / 7]).length := by rw [hlen]; omega
  have hg := lbCs_get L (j / 7) hi (j % 7) _ (List.getElem?_eq_getElem hr)
  have ej : j / 7 * 7 + j % 7 = j := by omega
  rw [ej, hu] at hg
  have := (hc (j / 7) hi).2 (j % 7) _ (List.getElem?_eq_getElem hr)
  rw [Nat.add_assoc, ej] at this
  rw [this, hg]
section
variable {w : World} {o : Oper} {a : Act} {K : Act → World → Prop} {Q : Exit → Act → World → Prop} {ops : Array Oper} {rest : List Oper}
theorem wp_append_lrow (x y : Operand) (ho : o.op = .call { callee := .builtin .append, args := #[x, y], argTypes := #[23, 23] })
    (base : Nat) (v : Value) (L : List Lb) (hx : a.eval x = v) (hr : LRow w base v L) (B : Nat) (A : Option Addr) (m c : Nat) (M : List Lb) (hy : a.eval y = .slice A m c) (hs : Lbs w B A m c M)
    (hn : L.length + m ≤ 1000000) (hbase : base ≤ w.heap.size)
    (h : ∀ v' w', LRow w' base v' (L ++ M) → w.grownBy w' v.ownBlock → K (a.put o.dst v') w') : o.wp Tryd.prog a w K Q := by
  obtain ⟨i0, hi0, hz0, hz1, hz2⟩ := info_parts infoLb
  obtain ⟨h1, h2⟩ := hr
  have hwf : ∀ p ∈ L ++ M, WfL p := fun p hp => by
    rcases List.mem_append.1 hp with hp | hp
    · exact h2 p hp
    · exact hs.wf hp
  have hml := hs.1
  cases A with
  | none =>
    have hc := hs.2.2.2.1 rfl
    have hm : m = 0 := by have := hs.2.1; omega
    subst hm; subst hc
    obtain rfl : M = [] := List.eq_nil_of_length_eq_zero hml
    have hrun := run_app_none (P := Tryd.prog) (w := w) base 23 o.type 38 i0 7 0 Tryd.underlying23 hi0 v L.length (lbCs L) h1
    unfold Oper.wp
    simp [execOp, ho, resolve, invoke, builtin, hx, hy, hrun, Result.andThen]
    refine h v w ?_ (World.grownBy.refl w _)
    rw [List.append_nil]
    exact ⟨h1, h2⟩
  | some ad =>
    refine wp_append_own w x y 23 ho base 38 i0 (.agg #[.int .u32 0, .int .u32 0, .int .i64 0, .int .u32 0, .int .u32 0, .int .u32 0, .int .u32 0]) 7 32 Tryd.underlying23 hi0 hz0 hz1 hz2 rfl (by decide) v L.length (lbCs L) hx h1 ad m c (lbCs M) hy (by rw [lbCs_length, hml]) (fun j u hu => ?_) (fun u hu => lbCs_mem hu) (by unfold maxLen; omega) (by omega) hbase fun v' w' h6 h7 _ => ?_
    · have hj : 0 < m := by
        rcases Nat.eq_zero_or_pos m with h0 | h0
        · obtain rfl : M = [] := List.eq_nil_of_length_eq_zero (by omega)
          simp [lbCs] at hu
        · exact h0
      obtain ⟨b, off, e, _, _⟩ := hs.2.2.2.2 hj
      cases e
      have e1 : (⟨b, off, none⟩ : Addr).add j = ⟨b, off + j, none⟩ := by unfold Addr.add; split <;> simp_all
      rw [e1]
      exact hs.row j u hu
    · refine h v' w' ⟨?_, hwf⟩ h7
      rw [List.length_append, hml, lbCs_append]
      exact h6
theorem wpList_append_lrow (hgd : o.guard = none) (x y : Operand) (ho : o.op = .call { callee := .builtin .append, args := #[x, y], argTypes := #[23, 23] })
    (base : Nat) (v : Value) (L : List Lb) (hx : a.eval x = v) (hr : LRow w base v L) (B : Nat) (A : Option Addr) (m c : Nat) (M : List Lb) (hy : a.eval y = .slice A m c) (hs : Lbs w B A m c M)
    (hn : L.length + m ≤ 1000000) (hbase : base ≤ w.heap.size)
    (h : ∀ v' w', LRow w' base v' (L ++ M) → w.grownBy w' v.ownBlock → wpList Tryd.prog ops Q rest (a.put o.dst v') w') : wpList Tryd.prog ops Q (o :: rest) a w :=
  wpList_plain hgd fun _ hK => wp_append_lrow x y ho base v L hx hr B A m c M hy hs hn hbase fun v' w' h1 h2 => hK _ _ (h v' w' h1 h2)
end
/-- A slice literal of one pointer. -/
theorem one_lbs (w : World) (p : Lb) (hp : WfL p) : Lbs (w.alloc (.cells (lbC p).toArray 38)) (w.alloc (.cells (lbC p).toArray 38)).heap.size (some ⟨w.heap.size, 0, none⟩) 1 1 [p] :=
  ⟨rfl, Nat.le_refl _, by unfold maxLen; omega, fun e => (by cases e), fun _ => ⟨w.heap.size, 0, rfl, by simp, fun i hi => by
    have : i = 0 := by simpa using hi
    subst this
    refine ⟨hp, fun j u hu => ?_⟩
    rw [(Blk.new w 38 (lbC p).toArray).cell]
    simpa using hu⟩⟩
theorem LRow.own {w w' : World} {base g : Nat} {v : Value} {L : List Lb} (h : LRow w base v L) (hg : w.grownBy w' (some g)) (hne : ∀ k, v.ownBlock = some k → k ≠ g) : LRow w' base v L := ⟨own_other h.1 hg hne, h.2⟩
end Go.Proofs.YtldnelimemjaiaaDoor
/-
  label.Find, whatever disk it is handed, answers the labels that stand, the greatest Gen first, or why not; nothing that was there is written.
-/
namespace Go.Proofs.YtldnelimemjaiaaDoor
open Go.RowKit Go.Shelf
set_option maxRecDepth 100000

/-- A list of labels, the call's own, and an error's number. -/
def OutLs (o : List Lb × Int) (w : World) (e : Ending) (w' : World) : Prop := ∃ v, e = .returned (.tuple #[v, .int .i64 o.2]) ∧ LRow w' w.heap.size v o.1 ∧ Below w.heap.size w w'
theorem slotsL_some {f : Nat → Option Lb} {k : Nat} {l : Lb} (h : f k = some l) : slotsL f (k + 1) = slotsL f k ++ [l] := by
  rw [slotsL, h]
theorem slotsL_none {f : Nat → Option Lb} {k : Nat} (h : f k = none) : slotsL f (k + 1) = slotsL f k := by
  rw [slotsL, h]
theorem atAppendL {P : Program} {ops : Array Oper} {Q : Exit → Act → World → Prop} {a : Act} {w : World} {rest : List Oper} {d : Option Tmp} {ty : TypeId} {x : Array Operand} {y : Array TypeId} {pos : String} {af : Array Edge} (h : wpList P ops Q (⟨d, .call { callee := .builtin .append, args := x, argTypes := y }, ty, pos, af, none⟩ :: rest) a w) : wpList P ops Q (⟨d, .call { callee := .builtin .append, args := x, argTypes := y }, ty, pos, af, none⟩ :: rest) a w := h
set_option maxHeartbeats 4000000 in
theorem lFind_any (x : DAt) (D : DkL) (w : World) (h : Dsk w w.heap.size x D) (hz : Szs w) : Calls Tryd.prog 8 #[dval x D] w (OutLs (findO D) w) := by
  have b0 := (Below.refl w.heap.size w).alloc (Nat.le_refl _) (.cells #[.slice x.ba D.1.length x.bc, .slice x.wa D.2.length x.wc] 30)
  have x0 := Blk.new w 30 #[.slice x.ba D.1.length x.bc, .slice x.wa D.2.length x.wc]
  have h0 := h.step b0
  have hc := dCheck_any x D _ h0
  rw [checkO] at hc
  rw [findO]
  have HB := Lib.hid b0
  have HX := Lib.hid x0
  have HD := Lib.hid h0
  have HZ := Lib.hid hz
  have HW := Lib.hid h
  by_cases hm : MayD D
  · rw [if_pos hm] at hc ⊢
    have HR : Hid (∀ (p : Nat) (W : World), p < 4 → Dsk W W.heap.size x D → Calls Tryd.prog 19 #[dval x D, .int .i64 (p : Int)] W (ToldL (leftD D (fun _ => true) p, 0) W)) := Lib.hid fun p W hp hd => by
      have := dRead_any x D (p : Int) W hd
      rwa [read_ok hm (by omega)] at this
    have HL : Hid (∀ p, p < 4 → (leftD D (fun _ => true) p).length = 256) := Lib.hid fun p hp => leftD_length hm _ (by omega)
    have HC := Lib.hid hc
    simp only [dval] at HC HR ⊢
    clear b0 x0 h0 h hz hc hm
    go_enter Tryd.func8, Tryd.ntmps8
    go_wp2_with (go_at_call 18; refine HC.out.mono ?_; rintro ev w1 ⟨rfl, b1⟩; have HB1 := Lib.hid (HB.out.trans (b1.mono HB.out.size)); have HX1 := Lib.hid (HX.out.below b1 HX.out.lt); have HD1 := Lib.hid (HD.out.step b1); clear b1)
    have HS1 := Lib.hid (show w.heap.size + 1 ≤ w1.heap.size from HX1.out.lt)
    go_loopw [5, 16] (fun v i wr => ∃ k : Nat, k ≤ 4 ∧ i = .int .i64 k ∧ LRow wr (w.heap.size + 1) v (slotsL (seenL D) k) ∧ Below (w.heap.size + 1) w1 wr) (fun _ i _ => 4 - (intOf i).toNat)
    case atStart => exact ⟨0, Nat.zero_le _, rfl, lrow_nil _ _, Below.refl _ _⟩
    case round =>
      obtain ⟨k, hk, rfl, hrow, hb⟩ := hrel
      obtain ⟨av, cv, rfl, _⟩ := hrow.lbs
      have k0 : (0 : Int) ≤ k := by omega
      have HRW := Lib.hid hrow
      have HN := Lib.hid hb
      have HBr := Lib.hid (HB1.out.trans (hb.mono (Nat.le_succ _)))
      have HSZ := Lib.hid (Nat.le_trans HS1.out hb.size)
      clear hrow hb
      have c0 := (HX1.out.below HN.out (Nat.lt_succ_self _)).cell 0
      have c1 := (HX1.out.below HN.out (Nat.lt_succ_self _)).cell 1
      by_cases hlt : k < 4
      · have k1 : (k : Int) < 4 := by omega
        obtain ⟨S, hS⟩ : ∃ S, leftD D (fun _ => true) k = S := ⟨_, rfl⟩
        have HS := Lib.hid hS
        have hsee : seenL D k = match labelO S with
          | some l => if l.1 % 4 = k then some l else none
          | none => none := by rw [← hS]; rfl
        clear hS
        cases hlab : labelO S with
        | none =>
          rw [hlab] at hsee
          have hsl := slotsL_none (f := seenL D) (k := k) hsee
          have HSL := Lib.hid hsl
          clear hsee hsl
          go_wp2_with (first
                        | (go_at_call 19
                           refine (HR.out k wr hlt (HW.out.step HBr.out)).mono ?_
                           rintro ev w2 ⟨v2, rfl, o2, b2⟩
                           rw [HL.out k hlt, HS.out] at o2
                           obtain ⟨A2, C2, rfl, s2⟩ := own_to o2
                           have HB2 := Lib.hid (HBr.out.trans (b2.mono HBr.out.size))
                           have hof := lOf_any A2 C2 S w2 s2 (HZ.out.step HB2.out)
                           rw [hlab] at hof
                           simp only [ofV] at hof
                           have HOF := Lib.hid hof
                           have HRW2 := Lib.hid (HRW.out.below b2)
                           have HN2 := Lib.hid (HN.out.trans (b2.mono HSZ.out))
                           have HSZ2 := Lib.hid (Nat.le_trans HSZ.out b2.size)
                           have e0 := (HX1.out.below HN2.out (Nat.lt_succ_self _)).cell 0
                           clear o2 s2 b2 hof)
                        | (go_at_call 20
                           refine HOF.out.mono ?_
                           rintro ev w3 ⟨rfl, b3⟩
                           have HB3 := Lib.hid (HB2.out.trans (b3.mono HB2.out.size))
                           have HRW3 := Lib.hid (HRW2.out.below b3)
                           have HN3 := Lib.hid (HN2.out.trans (b3.mono HSZ2.out))
                           have HSZ3 := Lib.hid (Nat.le_trans HSZ2.out b3.size)
                           have ba : Below w3.heap.size w3 (w3.alloc (.cells #[.int .u32 0, .int .u32 0, .int .i64 0, .int .u32 0, .int .u32 0, .int .u32 0, .int .u32 0] 38)) := (Below.refl _ _).alloc (Nat.le_refl _) _
                           have HB4 := Lib.hid (HB3.out.trans (ba.mono HB3.out.size))
                           have HRW4 := Lib.hid (HRW3.out.below ba)
                           have HN4 := Lib.hid (HN3.out.trans (ba.mono HSZ3.out))
                           have HSZ4 := Lib.hid (Nat.le_trans HSZ3.out ba.size)
                           clear ba b3))
          go_roundw
          case rel => exact ⟨k + 1, by omega, by go_num, by rw [HSL.out]; exact HRW4.out, HN4.out⟩
          case measure => simp [intOf]; omega
        | some l =>
          rw [hlab] at hsee
          simp only at hsee
          have hwl := (labelO_some hlab).2.1
          obtain ⟨g, e, a, b, c, d, f⟩ := l
          simp only at hsee
          have g0 : (0 : Int) ≤ ((g % 4 : Nat) : Int) := by omega
          by_cases hk4 : g % 4 = k
          · rw [if_pos hk4] at hsee
            have hsl := slotsL_some (f := seenL D) (k := k) hsee
            have HSL := Lib.hid hsl
            have hkk : (((g % 4 : Nat) : Int) == (k : Int)) = true := by simp; omega
            clear hsee hsl hk4
            go_wp2_with (first
                          | (go_at_call 19
                             refine (HR.out k wr hlt (HW.out.step HBr.out)).mono ?_
                             rintro ev w2 ⟨v2, rfl, o2, b2⟩
                             rw [HL.out k hlt, HS.out] at o2
                             obtain ⟨A2, C2, rfl, s2⟩ := own_to o2
                             have HB2 := Lib.hid (HBr.out.trans (b2.mono HBr.out.size))
                             have hof := lOf_any A2 C2 S w2 s2 (HZ.out.step HB2.out)
                             rw [hlab] at hof
                             simp only [ofV] at hof
                             have HOF := Lib.hid hof
                             have HRW2 := Lib.hid (HRW.out.below b2)
                             have HN2 := Lib.hid (HN.out.trans (b2.mono HSZ.out))
                             have HSZ2 := Lib.hid (Nat.le_trans HSZ.out b2.size)
                             have e0 := (HX1.out.below HN2.out (Nat.lt_succ_self _)).cell 0
                             clear o2 s2 b2 hof)
                          | (go_at_call 20
                             refine HOF.out.mono ?_
                             rintro ev w3 ⟨rfl, b3⟩
                             have HB3 := Lib.hid (HB2.out.trans (b3.mono HB2.out.size))
                             have HRW3 := Lib.hid (HRW2.out.below b3)
                             have HN3 := Lib.hid (HN2.out.trans (b3.mono HSZ2.out))
                             have HSZ3 := Lib.hid (Nat.le_trans HSZ2.out b3.size)
                             have ba : Below w3.heap.size w3 (w3.alloc (.cells #[.int .u32 (g : Int), .int .u32 (e : Int), .int .i64 a, .int .u32 (b : Int), .int .u32 (c : Int), .int .u32 (d : Int), .int .u32 (f : Int)] 38)) := (Below.refl _ _).alloc (Nat.le_refl _) _
                             have HB4 := Lib.hid (HB3.out.trans (ba.mono HB3.out.size))
                             have HRW4 := Lib.hid (HRW3.out.below ba)
                             have HN4 := Lib.hid (HN3.out.trans (ba.mono HSZ3.out))
                             have HSZ4 := Lib.hid (Nat.le_trans HSZ3.out ba.size)
                             clear ba b3)
                          | (go_at_call 12
                             refine (lSlot_any g hwl.1 _).mono ?_
                             rintro ev w5 ⟨rfl, rfl⟩)
                          | (with_reducible refine atAppendL ?_
                             have bb : Below (w3.alloc (.cells #[.int .u32 (g : Int), .int .u32 (e : Int), .int .i64 a, .int .u32 (b : Int), .int .u32 (c : Int), .int .u32 (d : Int), .int .u32 (f : Int)] 38)).heap.size (w3.alloc (.cells #[.int .u32 (g : Int), .int .u32 (e : Int), .int .i64 a, .int .u32 (b : Int), .int .u32 (c : Int), .int .u32 (d : Int), .int .u32 (f : Int)] 38)) ((w3.alloc (.cells #[.int .u32 (g : Int), .int .u32 (e : Int), .int .i64 a, .int .u32 (b : Int), .int .u32 (c : Int), .int .u32 (d : Int), .int .u32 (f : Int)] 38)).alloc (.cells #[.int .u32 (g : Int), .int .u32 (e : Int), .int .i64 a, .int .u32 (b : Int), .int .u32 (c : Int), .int .u32 (d : Int), .int .u32 (f : Int)] 38)) := (Below.refl _ _).alloc (Nat.le_refl _) _
                             have HRW5 := Lib.hid (HRW4.out.below bb)
                             have HN5 := Lib.hid (HN4.out.trans (bb.mono HSZ4.out))
                             have HSZ5 := Lib.hid (Nat.le_trans HSZ4.out bb.size)
                             have hone := one_lbs (w3.alloc (.cells #[.int .u32 (g : Int), .int .u32 (e : Int), .int .i64 a, .int .u32 (b : Int), .int .u32 (c : Int), .int .u32 (d : Int), .int .u32 (f : Int)] 38)) (g, e, a, b, c, d, f) hwl
                             simp only [World.size_alloc] at hone
                             clear bb
                             refine wpList_append_lrow rfl (.tmp 38) (.tmp 40) rfl (w.heap.size + 1) (.slice av (slotsL (seenL D) k).length cv) (slotsL (seenL D) k) rfl HRW5.out _ _ 1 1 [(g, e, a, b, c, d, f)] rfl hone (by have := slotsL_length (seenL D) k; omega) HSZ5.out ?_
                             intro v6 w6 r6 g6
                             have HR6 := Lib.hid r6
                             have HN6 := Lib.hid (app_below HN5.out HRW5.out.1 g6 HSZ5.out)
                             clear r6 g6 hone))
            go_roundw
            case rel => exact ⟨k + 1, by omega, by go_num, by rw [HSL.out]; exact HR6.out, HN6.out⟩
            case measure => simp [intOf]; omega
          · rw [if_neg hk4] at hsee
            have hsl := slotsL_none (f := seenL D) (k := k) hsee
            have HSL := Lib.hid hsl
            have hkk : (((g % 4 : Nat) : Int) == (k : Int)) = false := by simp; omega
            clear hsee hsl hk4
            go_wp2_with (first
                          | (go_at_call 19
                             refine (HR.out k wr hlt (HW.out.step HBr.out)).mono ?_
                             rintro ev w2 ⟨v2, rfl, o2, b2⟩
                             rw [HL.out k hlt, HS.out] at o2
                             obtain ⟨A2, C2, rfl, s2⟩ := own_to o2
                             have HB2 := Lib.hid (HBr.out.trans (b2.mono HBr.out.size))
                             have hof := lOf_any A2 C2 S w2 s2 (HZ.out.step HB2.out)
                             rw [hlab] at hof
                             simp only [ofV] at hof
                             have HOF := Lib.hid hof
                             have HRW2 := Lib.hid (HRW.out.below b2)
                             have HN2 := Lib.hid (HN.out.trans (b2.mono HSZ.out))
                             have HSZ2 := Lib.hid (Nat.le_trans HSZ.out b2.size)
                             have e0 := (HX1.out.below HN2.out (Nat.lt_succ_self _)).cell 0
                             clear o2 s2 b2 hof)
                          | (go_at_call 20
                             refine HOF.out.mono ?_
                             rintro ev w3 ⟨rfl, b3⟩
                             have HB3 := Lib.hid (HB2.out.trans (b3.mono HB2.out.size))
                             have HRW3 := Lib.hid (HRW2.out.below b3)
                             have HN3 := Lib.hid (HN2.out.trans (b3.mono HSZ2.out))
                             have HSZ3 := Lib.hid (Nat.le_trans HSZ2.out b3.size)
                             have ba : Below w3.heap.size w3 (w3.alloc (.cells #[.int .u32 (g : Int), .int .u32 (e : Int), .int .i64 a, .int .u32 (b : Int), .int .u32 (c : Int), .int .u32 (d : Int), .int .u32 (f : Int)] 38)) := (Below.refl _ _).alloc (Nat.le_refl _) _
                             have HB4 := Lib.hid (HB3.out.trans (ba.mono HB3.out.size))
                             have HRW4 := Lib.hid (HRW3.out.below ba)
                             have HN4 := Lib.hid (HN3.out.trans (ba.mono HSZ3.out))
                             have HSZ4 := Lib.hid (Nat.le_trans HSZ3.out ba.size)
                             clear ba b3)
                          | (go_at_call 12
                             refine (lSlot_any g hwl.1 _).mono ?_
                             rintro ev w5 ⟨rfl, rfl⟩))
            go_roundw
            case rel => exact ⟨k + 1, by omega, by go_num, by rw [HSL.out]; exact HRW4.out, HN4.out⟩
            case measure => simp [intOf]; omega
      · obtain rfl : k = 4 := by omega
        have hl4 := slotsL_length (seenL D) 4
        have heq := fun (L' : List Lb) (h1 : L'.Perm (slotsL (seenL D) 4)) (h2 : Falls L') => standL_eq (seenL_slotted D) h1 h2
        obtain ⟨L, hL⟩ : ∃ L, slotsL (seenL D) 4 = L := ⟨_, rfl⟩
        rw [hL] at HRW hl4 heq ⊢
        have hso := lSort_any av cv L wr (w.heap.size + 1) HRW.out hl4
        have HSO := Lib.hid hso
        have HEQ := Lib.hid heq
        clear hso heq hL hl4
        go_wp2_with (go_at_call 21
                     refine HSO.out.mono ?_
                     rintro ev w2 ⟨rfl, L', p2, f2, r2, g2⟩
                     have hE := HEQ.out L' p2 f2
                     have HN2 := Lib.hid (app_below HN.out HRW.out.1 g2 HSZ.out)
                     have HL2 := Lib.hid (And.intro p2.length_eq hE)
                     have HR2 := Lib.hid r2
                     clear p2 f2 g2 hE r2)
        go_ret2
        refine ⟨_, rfl, ?_, HB1.out.trans (HN2.out.mono (Nat.le_succ _))⟩
        rw [findL, ← HL2.out.2]
        exact HR2.out.mono (Nat.le_succ _)
  · rw [if_neg hm] at hc ⊢
    have HC := Lib.hid hc
    simp only [dval] at HC ⊢
    clear b0 x0 h0 h hz hc hm
    go_enter Tryd.func8, Tryd.ntmps8
    go_wp2_with (go_at_call 18; refine HC.out.mono ?_; rintro ev w1 ⟨rfl, b1⟩; have HB1 := Lib.hid (HB.out.trans (b1.mono HB.out.size)); clear b1)
    go_ret2
    exact ⟨_, rfl, lrow_nil _ _, HB1.out⟩
end Go.Proofs.YtldnelimemjaiaaDoor
/-
  Words for the document's own Twin of a disk: rows of the call's own whose pieces lie each in a block of its own.
-/
namespace Go.Proofs.YtldnelimemjaiaaDoor
open Go.RowKit Go.Shelf
set_option maxRecDepth 100000

theorem own_val {w : World} {base n : Nat} {v : Value} {s : List UInt8} (h : w.ownsRow base 5 1 v n (vals s)) : ∃ A c, v = .slice A n c ∧ ∀ B, BslO w B A n c s := by
  obtain ⟨A, c, rfl⟩ := own_slice h
  exact ⟨A, c, rfl, fun B => BslO.own h B⟩
/-- The pieces' values: those that are there yet. -/
def ifDone (k i : Nat) (v : Value) : Value := if i < k then v else .slice none 0 0
theorem done_yes {k i : Nat} {v : Value} (h : i < k) : ifDone k i v = v := if_pos h
theorem done_no {k i : Nat} {v : Value} (h : ¬ i < k) : ifDone k i v = .slice none 0 0 := if_neg h
/-- One value more. -/
def putV (vs : Nat → Value) (k : Nat) (v : Value) (i : Nat) : Value := if i = k then v else vs i
theorem put_same (vs : Nat → Value) (k : Nat) (v : Value) : putV vs k v k = v := if_pos rfl
theorem put_ne {vs : Nat → Value} {k i : Nat} {v : Value} (h : i ≠ k) : putV vs k v i = vs i := if_neg h
/-- A disk whose first k pieces are there, each in a block of its own. -/
def TwI (base hb hw : Nat) (D : DkL) (k : Nat) (w : World) : Prop :=
  ∃ (vs : Nat → Value) (cb cw : Array Value), Blk w hb 44 cb ∧ cb.size = D.1.length ∧ Blk w hw 64 cw ∧ cw.size = D.2.length * 2 ∧
    (∀ i, i < D.1.length → cb[i]? = some (ifDone k i (vs i))) ∧
    (∀ j, j < D.2.length → cw[j * 2 + 1]? = some (ifDone k (D.1.length + j) (vs (D.1.length + j))) ∧ (D.1.length + j < k → cw[j * 2]? = some (.int .i64 (wr_ D.2 j).1))) ∧
    (∀ i, i < k → w.ownsRow base 5 1 (vs i) ((pieces D).getD i []).length (vals ((pieces D).getD i []))) ∧
    (∀ i j, i < j → j < k → ∀ b, (vs i).ownBlock = some b → (vs j).ownBlock ≠ some b)
theorem TwI.below {base hb hw k : Nat} {D : DkL} {w w' : World} (h : TwI base hb hw D k w) (hb' : Below w.heap.size w w') : TwI base hb hw D k w' := by
  obtain ⟨vs, cb, cw, h1, h2, h3, h4, h5, h6, h7, h8⟩ := h
  exact ⟨vs, cb, cw, h1.below hb' h1.lt, h2, h3.below hb' h3.lt, h4, h5, h6, fun i hi => own_below (h7 i hi) hb', h8⟩
theorem own_ne {w : World} {base n g : Nat} {v : Value} {xs : List Value} {t : TypeId} {cs : Array Value} (h : w.ownsRow base 5 1 v n xs) (hg : Blk w g t cs) (ht : t ≠ 5) : ∀ b, v.ownBlock = some b → b ≠ g := by
  intro b hb
  obtain ⟨_, ⟨rfl, _⟩ | ⟨g', cap, cur, rfl, _, h3, _⟩⟩ := h
  · cases hb
  · obtain rfl : g' = b := Option.some.inj hb
    exact fun e => (show Blk w g' _ cur from h3).ne hg (Ne.symm ht) e
/-- The next block is there. -/
theorem TwI.block {base hb hw k : Nat} {D : DkL} {w w' : World} {v : Value} (h : TwI base hb hw D k w) (hk : k < D.1.length) (hb' : Below w.heap.size w w') (hv : w'.ownsRow w.heap.size 5 1 v (D.1.getD k []).length (vals (D.1.getD k []))) (hbase : base ≤ w.heap.size) :
    TwI base hb hw D (k + 1) (w'.setCell ⟨hb, k, none⟩ v) := by
  have h0 := h.below hb'
  obtain ⟨vs, cb, cw, h1, h2, h3, h4, h5, h6, h7, h8⟩ := h
  have hlt : ∀ i, i < k → ∀ b, (vs i).ownBlock = some b → b < w.heap.size := fun i hi b e => ((h7 i hi).lt b e).2
  have x1 := h1.below hb' h1.lt
  have x3 := h3.below hb' h3.lt
  have hne : hw ≠ hb := x3.ne x1 (by decide)
  have gs : w'.grownBy (w'.setCell ⟨hb, k, none⟩ v) (some hb) := only_setCell (World.grownBy.refl w' _) (.inl rfl) _
  have hps : (pieces D).getD k [] = D.1.getD k [] := pieces_left hk
  refine ⟨putV vs k v, _, cw, x1.set_ k v, by simpa using h2, x3.far (by simpa using hne) _, h4, fun i hi => ?_, fun j hj => ?_, fun i hi => ?_, fun i j hij hj b e1 e2 => ?_⟩
  · rw [Array.getElem?_setIfInBounds]
    by_cases e : k = i
    · subst e
      rw [if_pos rfl, if_pos (by omega), done_yes (by omega), put_same]
    · rw [if_neg e, h5 i hi, put_ne (Ne.symm e)]
      by_cases e2 : i < k
      · rw [done_yes e2, done_yes (by omega)]
      · rw [done_no e2, done_no (by omega)]
  · obtain ⟨e1, e2⟩ := h6 j hj
    refine ⟨?_, fun hh => absurd hh (by omega)⟩
    rw [e1, done_no (by omega), done_no (by omega)]
  · by_cases e : i = k
    · subst e
      rw [put_same, hps]
      exact own_mono (own_other hv gs (own_ne hv x1 (by decide))) hbase
    · rw [put_ne e]
      have := own_below (h7 i (by omega)) hb'
      exact own_other this gs (own_ne this x1 (by decide))
  · rw [put_ne (by omega)] at e1
    by_cases e : j = k
    · subst e
      rw [put_same] at e2
      have h9 := hlt i (by omega) b e1
      have h10 := (hv.lt b e2).1
      omega
    · rw [put_ne e] at e2
      exact h8 i j hij (by omega) b e1 e2
/-- The next write's place is there. -/
theorem TwI.at_ {base hb hw k j : Nat} {D : DkL} {w : World} {u : Value} (h : TwI base hb hw D k w) (hk : k ≤ D.1.length + j) : TwI base hb hw D k (w.setCell ⟨hw, j * 2, none⟩ u) := by
  obtain ⟨vs, cb, cw, h1, h2, h3, h4, h5, h6, h7, h8⟩ := h
  have hne : hb ≠ hw := h1.ne h3 (by decide)
  have gs : w.grownBy (w.setCell ⟨hw, j * 2, none⟩ u) (some hw) := only_setCell (World.grownBy.refl w _) (.inl rfl) _
  refine ⟨vs, cb, _, h1.far (by simpa using hne) _, h2, h3.set_ _ _, by simpa using h4, h5, fun i hi => ?_, fun i hi => own_other (h7 i hi) gs (own_ne (h7 i hi) h3 (by decide)), h8⟩
  obtain ⟨e1, e2⟩ := h6 i hi
  refine ⟨by rw [Array.getElem?_setIfInBounds, if_neg (by omega)]; exact e1, fun hh => ?_⟩
  rw [Array.getElem?_setIfInBounds, if_neg (by omega)]
  exact e2 hh
/-- The next write is there. -/
theorem TwI.write {base hb hw k j : Nat} {D : DkL} {w w' : World} {v : Value} (h : TwI base hb hw D k w) (hk : k = D.1.length + j) (hj : j < D.2.length) (hat : w.cell? ⟨hw, j * 2, none⟩ = some (.int .i64 (wr_ D.2 j).1)) (hb' : Below w.heap.size w w') (hv : w'.ownsRow w.heap.size 5 1 v (wr_ D.2 j).2.length (vals (wr_ D.2 j).2)) (hbase : base ≤ w.heap.size) :
    TwI base hb hw D (k + 1) (w'.setCell ⟨hw, j * 2 + 1, none⟩ v) := by
  obtain ⟨vs, cb, cw, h1, h2, h3, h4, h5, h6, h7, h8⟩ := h
  have hlt : ∀ i, i < k → ∀ b, (vs i).ownBlock = some b → b < w.heap.size := fun i hi b e => ((h7 i hi).lt b e).2
  have x1 := h1.below hb' h1.lt
  have x3 := h3.below hb' h3.lt
  have hne : hb ≠ hw := x1.ne x3 (by decide)
  rw [h3.cell] at hat
  have gs : w'.grownBy (w'.setCell ⟨hw, j * 2 + 1, none⟩ v) (some hw) := only_setCell (World.grownBy.refl w' _) (.inl rfl) _
  have hps : (pieces D).getD k [] = (wr_ D.2 j).2 := by rw [hk]; exact pieces_right hj
  refine ⟨putV vs k v, cb, _, x1.far (by simpa using hne) _, h2, x3.set_ _ _, by simpa using h4, fun i hi => ?_, fun i hi => ?_, fun i hi => ?_, fun i i' hij hi' b e1 e2 => ?_⟩
  · rw [h5 i hi, put_ne (by omega), done_yes (by omega), done_yes (by omega)]
  · obtain ⟨e1, e2⟩ := h6 i hi
    by_cases e : i = j
    · subst e
      subst hk
      refine ⟨?_, fun _ => ?_⟩
      · rw [Array.getElem?_setIfInBounds, if_pos rfl, if_pos (by omega), done_yes (by omega), put_same]
      · rw [Array.getElem?_setIfInBounds, if_neg (by omega)]
        exact hat
    · refine ⟨?_, fun hh => ?_⟩
      · rw [Array.getElem?_setIfInBounds, if_neg (by omega), e1, put_ne (by omega)]
        by_cases e3 : D.1.length + i < k
        · rw [done_yes e3, done_yes (by omega)]
        · rw [done_no e3, done_no (by omega)]
      · rw [Array.getElem?_setIfInBounds, if_neg (by omega)]
        exact e2 (by omega)
  · by_cases e : i = k
    · subst e
      rw [put_same, hps]
      exact own_mono (own_other hv gs (own_ne hv x3 (by decide))) hbase
    · rw [put_ne e]
      have := own_below (h7 i (by omega)) hb'
      exact own_other this gs (own_ne this x3 (by decide))
  · rw [put_ne (by omega)] at e1
    by_cases e : i' = k
    · subst e
      rw [put_same] at e2
      have h9 := hlt i (by omega) b e1
      have h10 := (hv.lt b e2).1
      omega
    · rw [put_ne e] at e2
      exact h8 i i' hij (by omega) b e1 e2
/-- A disk all of whose pieces are there. -/
def Tw (w : World) (base : Nat) (x : DAt) (D : DkL) : Prop :=
  ∃ hb hw, x = ⟨some ⟨hb, 0, none⟩, D.1.length, some ⟨hw, 0, none⟩, D.2.length⟩ ∧ base ≤ hb ∧ base ≤ hw ∧ Fits D ∧ (∀ i, i < D.2.length → (Lit.int .i64 (wr_ D.2 i).1).wf = true) ∧ TwI base hb hw D (D.1.length + D.2.length) w
theorem Tw.below {w w' : World} {base : Nat} {x : DAt} {D : DkL} (h : Tw w base x D) (hb : Below w.heap.size w w') : Tw w' base x D := by
  obtain ⟨a, b, c, d, e, f, g, h1⟩ := h
  exact ⟨a, b, c, d, e, f, g, h1.below hb⟩
theorem Tw.brow {w : World} {base : Nat} {x : DAt} {D : DkL} (h : Tw w base x D) (C : Nat) : BRowC w C base (.slice x.ba D.1.length x.bc) D.1 := by
  obtain ⟨hb, hw, rfl, k1, k2, hf, hwf, vs, cb, cw, h1, h2, h3, h4, h5, h6, h7, h8⟩ := h
  refine ⟨cb.toList, ⟨by simp [h2], .inr ⟨hb, D.1.length, cb, rfl, k1, h1, Nat.le_refl _, by have := hf.1; unfold maxLen; omega, by omega, List.take_of_length_le (by simp [h2])⟩⟩, fun i hi => ?_⟩
  have ho := h7 i (by omega)
  rw [pieces_left hi] at ho
  obtain ⟨A, c, e, hs⟩ := own_val ho
  refine ⟨A, c, ?_, hs C⟩
  have := h5 i hi
  rw [done_yes (by omega), e] at this
  rw [List.getD_eq_getElem?_getD, Array.getElem?_toList, this]
  rfl
theorem Tw.wrow {w : World} {base : Nat} {x : DAt} {D : DkL} (h : Tw w base x D) (C : Nat) : WRowC w C base (.slice x.wa D.2.length x.wc) D.2 := by
  obtain ⟨hb, hw, rfl, k1, k2, hf, hwf, vs, cb, cw, h1, h2, h3, h4, h5, h6, h7, h8⟩ := h
  refine ⟨cw.toList, ⟨by simp [h4], .inr ⟨hw, D.2.length, cw, rfl, k2, h3, Nat.le_refl _, by have := hf.2.1; unfold maxLen; omega, h4, List.take_of_length_le (by simp [h4])⟩⟩, fun i hi => ?_⟩
  have ho := h7 (D.1.length + i) (by omega)
  rw [pieces_right hi] at ho
  obtain ⟨A, c, e, hs⟩ := own_val ho
  obtain ⟨e1, e2⟩ := h6 i hi
  rw [done_yes (by omega), e] at e1
  refine ⟨hwf i hi, ?_, A, c, ?_, hs C⟩
  · rw [List.getD_eq_getElem?_getD, Array.getElem?_toList, e2 (by omega)]
    rfl
  · rw [List.getD_eq_getElem?_getD, Array.getElem?_toList, e1]
    rfl
theorem Tw.dsk {w : World} {base : Nat} {x : DAt} {D : DkL} (h : Tw w base x D) : Dsk w w.heap.size x D := by
  obtain ⟨a, c, e1, h1⟩ := (h.brow 0).bls
  obtain ⟨a', c', e2, h2⟩ := (h.wrow 0).wts
  cases e1
  cases e2
  exact ⟨h1, h2⟩
/-- A disk that stays where a box of disks is written. -/
def DskT (w : World) (x : DAt) (D : DkL) : Prop := Dsk w w.heap.size x D ∧ ∀ g cs u v, Blk w g 30 cs → Dsk ((w.setCell ⟨g, 0, none⟩ u).setCell ⟨g, 1, none⟩ v) w.heap.size x D
theorem rows_dsk {w : World} {C C' b1 b2 : Nat} {x : DAt} {D : DkL} (h1 : BRowC w C b1 (.slice x.ba D.1.length x.bc) D.1) (h2 : WRowC w C' b2 (.slice x.wa D.2.length x.wc) D.2) : Dsk w w.heap.size x D := by
  obtain ⟨a, c, e1, h1⟩ := h1.bls
  obtain ⟨a', c', e2, h2⟩ := h2.wts
  cases e1
  cases e2
  exact ⟨h1, h2⟩
theorem rows_dskT {w : World} {b1 b2 : Nat} {x : DAt} {D : DkL} (h1 : BRowC w 0 b1 (.slice x.ba D.1.length x.bc) D.1) (h2 : WRowC w 0 b2 (.slice x.wa D.2.length x.wc) D.2) : DskT w x D :=
  ⟨rows_dsk h1 h2, fun g cs u v hg => by
    have gs : w.grownBy ((w.setCell ⟨g, 0, none⟩ u).setCell ⟨g, 1, none⟩ v) (some g) := only_two w g u v
    have := rows_dsk (h1.row gs (Nat.zero_le _) hg (by decide) (by decide)) (h2.row gs (Nat.zero_le _) hg (by decide) (by decide))
    simpa using this⟩
theorem Tw.dskT {w : World} {base : Nat} {x : DAt} {D : DkL} (h : Tw w base x D) : DskT w x D := rows_dskT (h.brow 0) (h.wrow 0)
/-- Two stores beside it. -/
theorem tw_far {w : World} {base base' g : Nat} {x : DAt} {D : DkL} {cs : Array Value} (h : Tw w base x D) (hg : Blk w g 30 cs) (hl : base' ≤ base) (u v : Value) : Tw ((w.setCell ⟨g, 0, none⟩ u).setCell ⟨g, 1, none⟩ v) base' x D := by
  obtain ⟨hb, hw, h0, k1, k2, hf, hwf, vs, cb, cw, h1, h2, h3, h4, h5, h6, h7, h8⟩ := h
  have n1 : hb ≠ g := h1.ne hg (by decide)
  have n2 : hw ≠ g := h3.ne hg (by decide)
  have gs : w.grownBy ((w.setCell ⟨g, 0, none⟩ u).setCell ⟨g, 1, none⟩ v) (some g) := only_two w g u v
  exact ⟨hb, hw, h0, by omega, by omega, hf, hwf, vs, cb, cw, (h1.far (by simpa using n1) _).far (by simpa using n1) _, h2, (h3.far (by simpa using n2) _).far (by simpa using n2) _, h4, h5, h6, fun i hi => own_mono (own_other (h7 i hi) gs (own_ne (h7 i hi) hg (by decide))) hl, h8⟩
end Go.Proofs.YtldnelimemjaiaaDoor
