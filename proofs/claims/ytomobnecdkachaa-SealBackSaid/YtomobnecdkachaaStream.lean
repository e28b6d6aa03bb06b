/-
  cipher's stream, of a key, a number and a length that may be, is so many bytes of its pieces, in new memory; nothing that was there is written.
-/
import Derived.Test.YtomobnecdkachaaPieces
namespace Go.Proofs.Ytomobnecdkachaa
open Go.RowKit Go.Shelf
set_option maxRecDepth 100000
attribute [local go_sem] Oper.semAt_some

/-- The first n bytes of a stream. -/
def stW (k : List UInt8) (iv n : Nat) : List UInt8 := (piecesW k iv n).take n
theorem stW_length (k : List UInt8) (iv n : Nat) : (stW k iv n).length = n := by rw [stW, List.length_take, piecesW_length]; omega
theorem piecesW_more (k : List UInt8) (iv m : Nat) : ∀ d, ∃ r, piecesW k iv (m + d) = piecesW k iv m ++ r
  | 0 => ⟨[], by simp⟩
  | d + 1 => by
    obtain ⟨r, hr⟩ := piecesW_more k iv m d
    exact ⟨r ++ pieceW k iv (m + d), by rw [← Nat.add_assoc, piecesW, hr, List.append_assoc]⟩
theorem piecesW_take (k : List UInt8) (iv m n d : Nat) (h : n ≤ 16 * m) : (piecesW k iv (m + d)).take n = (piecesW k iv m).take n := by
  obtain ⟨r, hr⟩ := piecesW_more k iv m d
  rw [hr, List.take_append_of_le_length (by rw [piecesW_length]; exact h)]
theorem stW_of (k : List UInt8) (iv m n : Nat) (h : n ≤ 16 * m) : (piecesW k iv m).take n = stW k iv n := by
  rw [← piecesW_take k iv m n n h, Nat.add_comm, piecesW_take k iv n n m (by omega), stW]
/-- Fewer bytes begin more. -/
theorem stW_take (k : List UInt8) (iv f n : Nat) (h : f ≤ n) : (stW k iv n).take f = stW k iv f := by
  rw [stW, List.take_take, Nat.min_eq_left h, stW_of k iv n f (by omega)]

/-- What the loop keeps behind c bytes s. -/
def StI (g n : Nat) (w : World) (c : Nat) (s : List UInt8) (W : World) : Prop :=
  Blk W g 3 #[.int .i64 n] ∧ Blk W (g + 2) 22 #[.slice (some ⟨g + 1, 0, none⟩) c n] ∧ W.ownsRow g 5 1 (.slice (some ⟨g + 1, 0, none⟩) c n) c (vals s) ∧ Below g w W
theorem StI.below {g n : Nat} {w : World} {c : Nat} {s : List UInt8} {W W' : World} {B : Nat} (h : StI g n w c s W) (hb : Below B W W') (hB : g + 3 ≤ B) : StI g n w c s W' := by
  obtain ⟨h1, h2, h3, h4⟩ := h
  refine ⟨h1.below hb (by omega), h2.below hb (by omega), ?_, h4.trans (hb.mono (by omega))⟩
  obtain ⟨e1, ⟨e2, _⟩ | ⟨g', cap, cur, e3, e4, e5, e6⟩⟩ := h3
  · cases e2
  · cases e3
    exact ⟨e1, .inr ⟨g + 1, n, cur, rfl, e4, (hb.block _ (by omega)).trans e5, e6⟩⟩

theorem make_cap (n : Nat) (hn : n ≤ 4096) : ∃ cs : Array Value, cs.size = n ∧ ∀ W : World, (Instr.makeSlice 22 (.int .i64 0) (.int .i64 n)).run Try.prog W = .ok (.slice (some ⟨W.heap.size, 0, none⟩) 0 n) (W.alloc (.cells cs 5)) := by
  obtain ⟨i0, hi, hz0, hz1, hz2⟩ := info_parts infoU8
  refine ⟨madeCells (Value.int .u8 0).cells (n * i0.size), by rw [size_madeCells, hz1, Nat.mul_one], fun W => ?_⟩
  have hr := run_make (P := Try.prog) W 22 5 i0 (.int .u8 0) Try.underlying22 hi hz0 .i64 .i64 0 n (Int.le_refl _) (by omega) (by rw [hz2]; omega) (by omega)
  simpa using hr

set_option maxHeartbeats 4000000 in
theorem stream_in (m : Nat) (hm : 3 ≤ m) (A : Option Addr) (cap : Nat) (k : List UInt8) (iv n : Nat) (hiv : iv < 4294967296) (hn : n ≤ 4096) (w : World) (hA : Bsl w w.heap.size A 16 cap k) :
    CallsIn Fence.wide m Try.prog 26 #[.slice A 16 cap, .int .u32 iv, .int .i64 n] w fun e W' =>
      e = .returned (.slice (some ⟨w.heap.size + 1, 0, none⟩) n n) ∧ W'.ownsRow w.heap.size 5 1 (.slice (some ⟨w.heap.size + 1, 0, none⟩) n n) n (vals (stW k iv n)) ∧ Below w.heap.size w W' := by
  have hro : Fence.wide.round = none := rfl
  obtain ⟨cs, hcs, hmk⟩ := make_cap n hn
  have n0 : (0 : Int) ≤ n := by omega
  have n1 : (n : Int) ≤ 4096 := by omega
  have HA := Lib.hid hA; clear hA
  refine callsIn_of_wp_marks Try.func26 rfl trivial ?_ hro
  simp only [Try.ntmps26, List.size_toArray, List.length_cons, List.length_nil, Nat.reduceAdd, Nat.reduceSub, Array.replicate_succ, Array.replicate_zero, List.push_toArray, List.append_toArray, List.nil_append, List.cons_append]
  have hd : 1 ≤ m := by omega
  gi_wp2_with (refine ⟨trivial, ?_⟩; (gi_at_call 37; refine (pieces_make (m - 1) _ _ _ _ _).mono ?_; rintro e w' ⟨rfl, rfl⟩))
  obtain ⟨g, hg⟩ : ∃ g, w.heap.size = g := ⟨_, rfl⟩
  obtain ⟨W0, hW0⟩ : ∃ W0, (((((w.alloc (Obj.cells #[Value.int IntKind.i64 ↑n] 3)).alloc (Obj.cells cs 5)).alloc (Obj.cells #[Value.slice (some { block := w.heap.size + 1, off := 0 }) 0 n] 22)).alloc (Obj.cells #[Value.slice A 16 cap] 22)).alloc (Obj.cells #[Value.int IntKind.u32 ↑iv] 23)) = W0 := ⟨_, rfl⟩
  have hsz : W0.heap.size = g + 5 := by rw [← hW0]; simp [hg]
  have hB0 : Below g w W0 := by rw [← hW0, ← hg]; exact (((((Below.refl _ w).alloc (Nat.le_refl _) _).alloc (by simp) _).alloc (by simp; omega) _).alloc (by simp; omega) _).alloc (by simp; omega) _
  have x0 : Blk W0 g 3 #[.int .i64 n] := by rw [← hW0, ← hg]; exact ((((Blk.new w _ _).alloc _).alloc _).alloc _).alloc _
  have x1 : Blk W0 (g + 1) 5 cs := by
    have := (((Blk.new (w.alloc (Obj.cells #[Value.int IntKind.i64 ↑n] 3)) 5 cs).alloc (Obj.cells #[Value.slice (some { block := w.heap.size + 1, off := 0 }) 0 n] 22)).alloc (Obj.cells #[Value.slice A 16 cap] 22)).alloc (Obj.cells #[Value.int IntKind.u32 ↑iv] 23)
    rwa [World.size_alloc, hW0, hg] at this
  have x2 : Blk W0 (g + 2) 22 #[.slice (some ⟨g + 1, 0, none⟩) 0 n] := by
    have := ((Blk.new ((w.alloc (Obj.cells #[Value.int IntKind.i64 ↑n] 3)).alloc (Obj.cells cs 5)) 22 #[Value.slice (some { block := w.heap.size + 1, off := 0 }) 0 n]).alloc (Obj.cells #[Value.slice A 16 cap] 22)).alloc (Obj.cells #[Value.int IntKind.u32 ↑iv] 23)
    rwa [World.size_alloc, World.size_alloc, hW0, hg] at this
  have x3 : Blk W0 (g + 3) 22 #[.slice A 16 cap] := by
    have := (Blk.new (((w.alloc (Obj.cells #[Value.int IntKind.i64 ↑n] 3)).alloc (Obj.cells cs 5)).alloc (Obj.cells #[Value.slice (some { block := w.heap.size + 1, off := 0 }) 0 n] 22)) 22 #[Value.slice A 16 cap]).alloc (Obj.cells #[Value.int IntKind.u32 ↑iv] 23)
    rwa [World.size_alloc, World.size_alloc, World.size_alloc, hW0, hg] at this
  have x4 : Blk W0 (g + 4) 23 #[.int .u32 iv] := by
    have := Blk.new ((((w.alloc (Obj.cells #[Value.int IntKind.i64 ↑n] 3)).alloc (Obj.cells cs 5)).alloc (Obj.cells #[Value.slice (some { block := w.heap.size + 1, off := 0 }) 0 n] 22)).alloc (Obj.cells #[Value.slice A 16 cap] 22)) 23 #[Value.int IntKind.u32 ↑iv]
    rwa [World.size_alloc, World.size_alloc, World.size_alloc, World.size_alloc, hW0, hg] at this
  have hA0 : Bsl W0 W0.heap.size A 16 cap k := (HA.out.below (hg ▸ hB0)).more hB0.size
  have i0 : StI g n w 0 [] W0 := ⟨x0, x2, ⟨rfl, .inr ⟨g + 1, n, cs, rfl, by omega, x1, Nat.zero_le _, by unfold maxLen; omega, by omega, rfl⟩⟩, hB0⟩
  have hseq := pieces_in (m - 1) A cap k iv (n / 16 + 1) W0.heap.size (g + 3) (g + 4) hiv (by omega) W0 (x3.cell 0) (x4.cell 0) hA0 (Nat.le_refl _)
  rw [hW0, hg]
  clear hW0 x0 x1 x2 x3 x4 hB0 hmk hcs hA0 HA
  refine range_endless (gf := 43) (lb := #[.pointer (some ⟨g + 3, 0, none⟩), .pointer (some ⟨g + 4, 0, none⟩)]) rfl (enters_of Try.func43 (by kernel_rfl) rfl) pv (fun _ => rfl)
    (fun j x W => Bsl W W.heap.size (some ⟨x.1, 0, none⟩) 16 x.2 (pieceW k iv j)) ?hT (n / 16 + 1) (fun j W => (16 * j < n ∨ j = 0) ∧ StI g n w (16 * j) (piecesW k iv j) W) (fun c W => c = .exit 0 ∧ StI g n w n (stW k iv n) W) ?hI ?hIx ?hN ⟨.inr rfl, i0⟩ hseq
    (fun x => { tmps := #[Value.slice A 16 cap, Value.int IntKind.u32 ↑iv, Value.int IntKind.i64 ↑n, undef, undef,
          Value.pointer (some { block := g, off := 0 }), Value.slice none 0 0,
          Value.pointer (some { block := g + 1 + 1, off := 0 }), Value.slice (some ⟨x.1, 0, none⟩) 16 x.2, Value.int IntKind.i64 ↑n,
          Value.slice (some { block := g + 1, off := 0 }) 0 n, Value.slice A 16 cap,
          Value.int IntKind.u32 ↑iv,
          Value.func (Fn.func 43) #[]
            #[Value.pointer (some { block := g + 1 + 1 + 1, off := 0 }),
              Value.pointer (some { block := g + 1 + 1 + 1 + 1, off := 0 })],
          Value.slice (some ⟨x.1, 0, none⟩) 16 x.2, undef, undef, undef, undef, undef, undef, undef, undef, undef, undef, undef, undef, undef, undef,
          undef, undef], defers := [] }) ?assign ?body ?stop
  case hT =>
    intro j x W l r o' h hl
    exact h.cellsFrom (cellsFrom_putObj (B := 0) o' hl rfl) (Nat.zero_le _)
  case hI =>
    rintro j X Y ⟨h1, h2⟩ hb
    exact ⟨h1, h2.below hb (by omega)⟩
  case hIx =>
    rintro c X Y ⟨h1, h2⟩ hb
    exact ⟨h1, h2.below hb (by omega)⟩
  case hN =>
    rintro j X ⟨h1, _⟩
    omega
  case assign =>
    intro l x W K hK
    gi_wp2
    exact hK
  case body =>
    rintro l j ⟨p, c⟩ W ⟨hjn, hn0, hb0, hr0, hB⟩ hT
    have hmx : Try.prog.follows Departure.mixedOrders = true := by kernel_rfl
    obtain ⟨i0', hi, hz0, hz1, hz2⟩ := info_parts infoU8
    obtain ⟨L, hL⟩ : ∃ L, 16 * j = L := ⟨_, rfl⟩
    rw [hL] at hb0 hr0 hjn
    have hLn : L ≤ n := by omega
    obtain ⟨mm, hmm⟩ : ∃ mm : Nat, min 16 (n - L) = mm := ⟨_, rfl⟩
    have hmin : min (16 : Int) ((n : Int) - L) = (mm : Int) := by omega
    have hwr : IntKind.i64.wrap ((n : Int) - (L : Int)) = (n : Int) - L := by rw [IntKind.wrap_i64]; omega
    have hc16 : mm ≤ c := by have := hT.2.1; dsimp only at this; omega
    have hto := fun W => slice_to W (some ⟨p, 0, none⟩) 16 c mm hc16
    obtain ⟨M, hM⟩ : ∃ M, L + mm = M := ⟨_, rfl⟩
    have hMn : M ≤ n := by omega
    have hnx : vals (piecesW k iv j) ++ vals ((pieceW k iv j).take mm) = vals (if M = n then stW k iv n else piecesW k iv (j + 1)) := by
      rw [vals_append]
      congr 1
      have e1 : piecesW k iv j ++ (pieceW k iv j).take mm = (piecesW k iv (j + 1)).take M := by
        have e2 : M - 16 * j = mm := by omega
        rw [piecesW, List.take_append, piecesW_length, List.take_of_length_le (l := piecesW k iv j) (by rw [piecesW_length]; omega), e2]
      rw [e1]
      by_cases h : M = n
      · rw [if_pos h, h, stW_of k iv (j + 1) n (by omega)]
      · rw [if_neg h, List.take_of_length_le (by rw [piecesW_length]; omega)]
    obtain ⟨w2, hrun, ho2, hg2⟩ := run_append_fits (P := Try.prog) W.drew g 22 22 5 i0' 1 Try.underlying22 hi hz1 (g + 1) L n (vals (piecesW k iv j)) hr0 ⟨p, 0, none⟩ mm c (vals ((pieceW k iv j).take mm))
      (by simp [vals, pieceW_length]; omega) (fun t u hu => by
        obtain ⟨ht, rfl⟩ := vals_get hu
        obtain ⟨b, o, e, _, hc⟩ := hT.2.2.2.2 (by omega)
        cases e
        have ht' : t < (pieceW k iv j).length := by rw [List.length_take] at ht; omega
        have := hc t ht'
        rw [Nat.zero_add] at this
        have e1 : (⟨p, 0, none⟩ : Addr).add t = ⟨p, t, none⟩ := by unfold Addr.add; split <;> simp_all
        rw [e1, List.getElem_take]
        exact this) (fun u hu => by obtain ⟨y, _, rfl⟩ := List.mem_map.1 hu; rfl) (by omega)
    rw [hM, hnx] at ho2
    rw [hM] at hrun
    have c0 : W.cell? ⟨g, 0, none⟩ = some (.int .i64 n) := hn0.cell 0
    have c2 : W.cell? ⟨g + 1 + 1, 0, none⟩ = some (.slice (some ⟨g + 1, 0, none⟩) L n) := hb0.cell 0
    have k0 : Blk w2 g 3 #[.int .i64 n] := hn0.drew.grown hg2 (by simp)
    have k2 : Blk w2 (g + 2) 22 #[.slice (some ⟨g + 1, 0, none⟩) L n] := hb0.drew.grown hg2 (by simp)
    have d0 : w2.cell? ⟨g, 0, none⟩ = some (.int .i64 n) := k0.cell 0
    have d2 : w2.cell? ⟨g + 1 + 1, 0, none⟩ = some (.slice (some ⟨g + 1, 0, none⟩) L n) := k2.cell 0
    have f2 : w2.frozen? ⟨g + 1 + 1, 0, none⟩ = false := k2.frozen 0
    have ox : StI g n w M (if M = n then stW k iv n else piecesW k iv (j + 1)) (w2.setCell ⟨g + 2, 0, none⟩ (.slice (some ⟨g + 1, 0, none⟩) M n)) := by
      refine ⟨k0.far (by simp) _, k2.set_ 0 _, ?_, (hB.drew.grown hg2 (by have := hB.size; simp; omega) (fun k e => by cases e; omega)).setCell (p := ⟨g + 2, 0, none⟩) (by simp) _⟩
      obtain ⟨e1, ⟨e2, _⟩ | ⟨g', cap', cur, e3, e4, e5, e6⟩⟩ := ho2
      · cases e2
      · cases e3
        exact ⟨e1, .inr ⟨g + 1, n, cur, rfl, e4, (Below.heap_setCell w2 ⟨g + 2, 0, none⟩ _ (g + 1) (by simp)).trans e5, e6⟩⟩
    have oa : AllFrom W0.heap.size W (w2.setCell ⟨g + 2, 0, none⟩ (.slice (some ⟨g + 1, 0, none⟩) M n)) := by
      refine ⟨by simpa [World.setCell] using hg2.size, fun k o hk ho => ?_⟩
      exact (Below.heap_setCell w2 ⟨g + 2, 0, none⟩ _ k (by simp; omega)).trans ((hg2.block k (Array.getElem?_eq_some_iff.1 ho).1 (by simp; omega)).trans ho)
    have OX := Lib.hid ox; clear ox
    have OA := Lib.hid oa; clear oa
    clear hn0 hb0 hr0 hB hT k0 k2 ho2 hg2 hnx
    have HL := Lib.hid hL; clear hL
    have HM := Lib.hid hM; clear hM
    have HMM := Lib.hid hmm; clear hmm
    have HJN := Lib.hid hjn; clear hjn
    have q1 : (L : Int) ≤ n := by omega
    have q2 : (0 : Int) ≤ L := by omega
    dsimp only
    gi_wp2_with fail
    refine region_round_tail 10 hmx (by kernel_rfl) (fun h => by obtain ⟨_, _, h⟩ := h; exact h) (by kernel_rfl) ?_
    simp only [List.take_succ_cons, List.take_zero, List.drop_succ_cons, List.drop_zero]
    repeat still_step
    refine wpStill_nil ?_
    by_cases hMn2 : M = n
    · have hq : ((M : Int) == (n : Int)) = true := by simp; omega
      rw [if_pos hMn2] at OX
      go_wp2_with (at_builtin; refine Lib.wpList_append_run _ rfl (.tmp 15) (.tmp 24) _ _ rfl _ _ rfl rfl _ _ hrun ?_)
      gi_wp2_with fail
      rw [hMn2] at OX OA
      exact ⟨OA.out, rfl, OX.out⟩
    · have hq : ((M : Int) == (n : Int)) = false := by simp; omega
      rw [if_neg hMn2] at OX
      go_wp2_with (at_builtin; refine Lib.wpList_append_run _ rfl (.tmp 15) (.tmp 24) _ _ rfl _ _ rfl rfl _ _ hrun ?_)
      gi_wp2_with fail
      have e1 : 16 * (j + 1) = M := by have := HL.out; have := HM.out; have := HMM.out; omega
      refine ⟨OA.out, ?_⟩
      show (16 * (j + 1) < n ∨ j + 1 = 0) ∧ StI g n w (16 * (j + 1)) (piecesW k iv (j + 1)) _
      rw [e1]
      exact ⟨.inl (by omega), OX.out⟩
  case stop =>
    rintro D c W hD ⟨rfl, hn0, hb0, hr0, hB⟩ hK
    have c2 : W.cell? ⟨g + 1 + 1, 0, none⟩ = some (.slice (some ⟨g + 1, 0, none⟩) n n) := hb0.cell 0
    have HR := Lib.hid hr0; clear hr0
    have HB := Lib.hid hB; clear hB
    have HK := Lib.hid hK; clear hK
    clear hn0 hb0
    have HG := Lib.hid hg; clear hg
    gi_wp2_with fail
    refine ⟨by simp, .inl ⟨_, _, rfl, run_takeDeferred HK.out, ?_⟩⟩
    have hD' : D ≠ g + 1 := by omega
    have hDg : g ≤ D := by omega
    refine ⟨.slice (some ⟨g + 1, 0, none⟩) n n, by simp [results, Try.f26, go_sem], ?_, ?_, ?_⟩
    · rw [HG.out]
    · rw [HG.out]
      exact HR.out.kept (grownBy_putObj' W D _) (.inr (by simp [Value.ownBlock]; omega))
    · rw [HG.out]
      exact HB.out.trans (below_putObj _ hDg)
end Go.Proofs.Ytomobnecdkachaa
