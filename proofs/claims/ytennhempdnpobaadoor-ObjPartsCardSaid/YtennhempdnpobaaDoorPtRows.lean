/-
  ptr.Rows, whatever bytes it is handed; nothing that was there is written.
-/
import Derived.Test.YtennhempdnpobaaDoorPtTop
import Derived.Test.YtennhempdnpobaaDoorChunk16
namespace Go.Proofs.YtennhempdnpobaaDoor
open Go.RowKit Go.Shelf
set_option maxRecDepth 100000
attribute [local go_sem] Oper.semAt_some

/-- The window of number i. -/
def winP (s : List UInt8) (i : Nat) : List UInt8 := (s.drop (16 * i)).take 16
/-- The pointers of a row. -/
def rowsL (s : List UInt8) : List Pt := (List.range 16).map fun i => getP (winP s i)
/-- What Rows answers. -/
def rowsO (s : List UInt8) : List Pt × Int := if s.length = 256 then (if ∀ p ∈ rowsL s, MayP p then (rowsL s, 0) else ([], 8)) else ([], 3)
/-- A list of pointers of the call's own, and an error's number. -/
def OutL (L : List Pt) (c : Int) (w : World) (e : Ending) (w' : World) : Prop := ∃ v, e = .returned (.tuple #[v, .int .i64 c]) ∧ PRow w' w.heap.size v L ∧ Below w.heap.size w w'

/-- What the loop keeps. -/
def RwI (s : List UInt8) (g q : Nat) (pre : List (Fin q)) (W : World) : Prop :=
  Blk W g 22 #[.slice none 0 0] ∧ Blk W (g + 1) 25 #[.int .i64 0] ∧ Blk W (g + 3) 22 #[.slice (some ⟨g + 2, 0, none⟩) pre.length 16] ∧
    W.ownsRow g 42 5 (.slice (some ⟨g + 2, 0, none⟩) pre.length 16) pre.length (ptCs (pre.map fun x => getP (winP s x.val))) ∧ ∀ x ∈ pre, MayP (getP (winP s x.val))
/-- What stands where it was left. -/
def RwX (s : List UInt8) (g : Nat) (W : World) : Prop := Blk W g 22 #[.slice none 0 0] ∧ Blk W (g + 1) 25 #[.int .i64 8] ∧ ∃ i, i < 16 ∧ ¬ MayP (getP (winP s i))
theorem own_kept5 {w w' : World} {B g n cap : Nat} {e : TypeId} {size : Nat} {xs : List Value} {row : Option Nat} (h : w.ownsRow B e size (.slice (some ⟨g, 0, none⟩) n cap) n xs) (hg : w.grownBy w' row) (hk : ∀ r, row = some r → ∃ o : Obj, w.heap[r]? = some o ∧ o.isCells = false) : w'.ownsRow B e size (.slice (some ⟨g, 0, none⟩) n cap) n xs := by
  refine h.kept hg (.inr fun er => ?_)
  obtain ⟨o, ho, hc⟩ := hk g (by simpa [Value.ownBlock] using er.symm)
  obtain ⟨h1, ⟨h2, h3⟩ | ⟨g', cap', cur, h2, hb, hh, _⟩⟩ := h
  · cases h2
  · cases h2
    rw [hh] at ho; cases ho; cases hc
theorem own5_blk {w : World} {B g n cap : Nat} {e : TypeId} {size : Nat} {xs : List Value} (h : w.ownsRow B e size (.slice (some ⟨g, 0, none⟩) n cap) n xs) : ∃ cs, Blk w g e cs := by
  obtain ⟨h1, ⟨h2, h3⟩ | ⟨g', cap', cur, h2, hb, hh, _⟩⟩ := h
  · cases h2
  · cases h2
    exact ⟨_, hh⟩
theorem rwI_own (s : List UInt8) (g q : Nat) : Own (RwI s g q) := fun pre A B row hs hg hr => by
  obtain ⟨h1, h2, h3, h4, h5⟩ := hs
  exact ⟨blk_kept h1 hg hr, blk_kept h2 hg hr, blk_kept h3 hg hr, own_kept5 h4 hg hr, h5⟩
theorem rwX_own {β : Type} (s : List UInt8) (g : Nat) : Own (fun (_ : β) W => RwX s g W) := fun pre A B row hs hg hr => by
  obtain ⟨h1, h2, h3⟩ := hs
  exact ⟨blk_kept h1 hg hr, blk_kept h2 hg hr, h3⟩
theorem kept_below {W W' : World} (h : Below W.heap.size W W') : KeepsOthers W W' := ⟨h.size, fun k _ hk _ => (h.block k (Array.getElem?_eq_some_iff.1 hk).1).trans hk⟩
theorem atAppendIn {F : Fence} {n : Nat} {P : Program} {ops : Array Oper} {Q : Exit → Act → World → Prop} {a : Act} {w : World} {rest : List Oper} {d : Option Tmp} {ty : TypeId} {x : Array Operand} {y : Array TypeId} {pos : String} {af : Array Edge} (h : wpListIn F n P ops Q (⟨d, .call { callee := .builtin .append, args := x, argTypes := y }, ty, pos, af, none⟩ :: rest) a w) : wpListIn F n P ops Q (⟨d, .call { callee := .builtin .append, args := x, argTypes := y }, ty, pos, af, none⟩ :: rest) a w := h
theorem below_putO {B l : Nat} (W : World) (o : Obj) (h : B ≤ l) : Below B W (W.putObj l o) := ⟨rfl, rfl, rfl, by simp, fun k hk => World.putObj_heap_other (by omega)⟩
theorem infoPt : (Tryd.prog.info? 42).map (fun i => (i.zero, i.size, i.bytes)) = some (some (.agg #[.int .i64 0, .int .u32 0, .int .u32 0, .int .u32 0, .int .u32 0]), 5, 24) := by kernel_rfl
theorem make_pts : ∃ cs : Array Value, cs.size = 80 ∧ ∀ W : World, (Instr.makeSlice 22 (.int .i64 0) (.int .i64 16)).run Tryd.prog W = .ok (.slice (some ⟨W.heap.size, 0, none⟩) 0 16) (W.alloc (.cells cs 42)) := by
  obtain ⟨i0, hi, hz0, hz1, hz2⟩ := info_parts infoPt
  refine ⟨madeCells (Value.agg #[.int .i64 0, .int .u32 0, .int .u32 0, .int .u32 0, .int .u32 0]).cells (16 * i0.size), by rw [size_madeCells, hz1], fun W => ?_⟩
  have hr := run_make (P := Tryd.prog) W 22 42 i0 (.agg #[.int .i64 0, .int .u32 0, .int .u32 0, .int .u32 0, .int .u32 0]) Tryd.underlying22 hi hz0 .i64 .i64 0 16 (Int.le_refl _) (by omega) (by rw [hz2]; omega) (by omega)
  simpa using hr
set_option maxHeartbeats 4000000 in
theorem rows_in (m : Nat) (hm : 3 ≤ m) (a : Option Addr) (cap : Nat) (s : List UInt8) (w : World) (hB : Bsl w w.heap.size a 256 cap s) (hz : Szs w) :
    CallsIn Fence.wide m Tryd.prog 21 #[.slice a 256 cap] w (OutL (rowsO s).1 (rowsO s).2 w) := by
  have hro : Fence.wide.round = none := rfl
  have hmx : Tryd.prog.follows Departure.mixedOrders = true := by kernel_rfl
  obtain ⟨cs, hcs, hmk⟩ := make_pts
  have hs := hB.1
  obtain ⟨b, off, ea, hblt, hcell⟩ := hB.2.2.2.2 (by omega)
  subst ea
  have hcap := hB.2.1
  have hcm := hB.2.2.1
  obtain ⟨R, hR⟩ : ∃ R, rowsO s = R := ⟨_, rfl⟩
  rw [hR]
  have HRR := Lib.hid hR; clear hR
  have HCS := Lib.hid hcs; clear hcs
  have HB := Lib.hid hB; clear hB
  have HZ := Lib.hid hz; clear hz
  have HS := Lib.hid hs; clear hs
  have HCE := Lib.hid hcell; clear hcell
  refine callsIn_of_wp_marks Tryd.func21 rfl trivial ?_ hro
  simp only [Tryd.ntmps21, List.size_toArray, List.length_cons, List.length_nil, Nat.reduceAdd, Nat.reduceSub, Array.replicate_succ, Array.replicate_zero, List.push_toArray, List.append_toArray, List.nil_append, List.cons_append]
  have hd : 1 ≤ m := by omega
  gi_wp2_with (refine ⟨trivial, ?_⟩; (gi_at_call 34; refine (chunk_in Fence.wide (m - 1) trivial hro _ _ _ _).mono ?_; rintro e w' ⟨rfl, rfl⟩))
  obtain ⟨g, hg⟩ : ∃ g, w.heap.size = g := ⟨_, rfl⟩
  obtain ⟨W0, hW0⟩ : ∃ W0, ((((((w.alloc (Obj.cells #[Value.slice none 0 0] 22)).alloc (Obj.cells #[Value.int IntKind.i64 0] 25)).alloc (Obj.cells cs 42)).alloc (Obj.cells #[Value.slice (some { block := w.heap.size + 1 + 1, off := 0 }) 0 16] 22)).alloc (Obj.cells #[Value.slice (some { block := b, off := off }) 256 cap] 28)).alloc (Obj.cells #[Value.int IntKind.i64 16] 3)) = W0 := ⟨_, rfl⟩
  have hsz : W0.heap.size = g + 6 := by rw [← hW0]; simp [hg]
  have hB0 : Below g w W0 := by rw [← hW0, ← hg]; exact ((((((Below.refl _ w).alloc (Nat.le_refl _) _).alloc (by simp) _).alloc (by simp; omega) _).alloc (by simp; omega) _).alloc (by simp; omega) _).alloc (by simp; omega) _
  have b0 : Blk W0 (g) 22 #[.slice none 0 0] := by
    have := (((((Blk.new w 22 #[.slice none 0 0]).alloc (Obj.cells #[Value.int IntKind.i64 0] 25)).alloc (Obj.cells cs 42)).alloc (Obj.cells #[Value.slice (some { block := w.heap.size + 1 + 1, off := 0 }) 0 16] 22)).alloc (Obj.cells #[Value.slice (some { block := b, off := off }) 256 cap] 28)).alloc (Obj.cells #[Value.int IntKind.i64 16] 3)
    rw [hW0, hg] at this
    exact this
  have b1 : Blk W0 (g + 1) 25 #[.int .i64 0] := by
    have := ((((Blk.new (w.alloc (Obj.cells #[Value.slice none 0 0] 22)) 25 #[.int .i64 0]).alloc (Obj.cells cs 42)).alloc (Obj.cells #[Value.slice (some { block := w.heap.size + 1 + 1, off := 0 }) 0 16] 22)).alloc (Obj.cells #[Value.slice (some { block := b, off := off }) 256 cap] 28)).alloc (Obj.cells #[Value.int IntKind.i64 16] 3)
    rw [World.size_alloc, hW0, hg] at this
    exact this
  have b2 : Blk W0 (g + 2) 42 cs := by
    have := (((Blk.new ((w.alloc (Obj.cells #[Value.slice none 0 0] 22)).alloc (Obj.cells #[Value.int IntKind.i64 0] 25)) 42 cs).alloc (Obj.cells #[Value.slice (some { block := w.heap.size + 1 + 1, off := 0 }) 0 16] 22)).alloc (Obj.cells #[Value.slice (some { block := b, off := off }) 256 cap] 28)).alloc (Obj.cells #[Value.int IntKind.i64 16] 3)
    rw [World.size_alloc, World.size_alloc, hW0, hg] at this
    exact this
  have b3 : Blk W0 (g + 3) 22 #[.slice (some ⟨g + 1 + 1, 0, none⟩) 0 16] := by
    have := ((Blk.new (((w.alloc (Obj.cells #[Value.slice none 0 0] 22)).alloc (Obj.cells #[Value.int IntKind.i64 0] 25)).alloc (Obj.cells cs 42)) 22 #[.slice (some ⟨w.heap.size + 1 + 1, 0, none⟩) 0 16]).alloc (Obj.cells #[Value.slice (some { block := b, off := off }) 256 cap] 28)).alloc (Obj.cells #[Value.int IntKind.i64 16] 3)
    rw [World.size_alloc, World.size_alloc, World.size_alloc, hW0, hg] at this
    exact this
  have b4 : Blk W0 (g + 4) 28 #[.slice (some ⟨b, off, none⟩) 256 cap] := by
    have := (Blk.new ((((w.alloc (Obj.cells #[Value.slice none 0 0] 22)).alloc (Obj.cells #[Value.int IntKind.i64 0] 25)).alloc (Obj.cells cs 42)).alloc (Obj.cells #[Value.slice (some { block := w.heap.size + 1 + 1, off := 0 }) 0 16] 22)) 28 #[.slice (some ⟨b, off, none⟩) 256 cap]).alloc (Obj.cells #[Value.int IntKind.i64 16] 3)
    rw [World.size_alloc, World.size_alloc, World.size_alloc, World.size_alloc, hW0, hg] at this
    exact this
  have b5 : Blk W0 (g + 5) 3 #[.int .i64 16] := by
    have := Blk.new (((((w.alloc (Obj.cells #[Value.slice none 0 0] 22)).alloc (Obj.cells #[Value.int IntKind.i64 0] 25)).alloc (Obj.cells cs 42)).alloc (Obj.cells #[Value.slice (some { block := w.heap.size + 1 + 1, off := 0 }) 0 16] 22)).alloc (Obj.cells #[Value.slice (some { block := b, off := off }) 256 cap] 28)) 3 #[.int .i64 16]
    rw [World.size_alloc, World.size_alloc, World.size_alloc, World.size_alloc, World.size_alloc, hW0, hg] at this
    exact this
  obtain ⟨q, hq⟩ : ∃ q, q = 16 := ⟨_, rfl⟩
  have hqL : 16 * q = 256 := by omega
  have ho0 : W0.ownsRow g 42 5 (.slice (some ⟨g + 2, 0, none⟩) 0 16) 0 [] :=
    ⟨rfl, .inr ⟨g + 2, 16, cs, rfl, by omega, b2, Nat.zero_le _, by unfold maxLen; omega, by rw [HCS.out], rfl⟩⟩
  rw [hW0, hg]
  have hR : ReachC (g + 4) (g + 5) (some ⟨b, off, none⟩) q cap W0 := ⟨by rw [hqL]; exact b4.cell 0, b5.cell 0⟩
  refine wpIn_rangeFunc_ownG hro hd (gf := 48) (lb := #[.pointer (some ⟨g + 1 + 1 + 1 + 1, 0, none⟩), .pointer (some ⟨g + 1 + 1 + 1 + 1 + 1, 0, none⟩)]) rfl trivial (enters_of Tryd.func48 (by kernel_rfl) rfl)
    (stopsC (m - 1) (by omega) (g + 1 + 1 + 1 + 1) (g + 1 + 1 + 1 + 1 + 1) b off q cap (some ⟨b, off, none⟩) (fun _ => rfl) (by omega) (by unfold maxLen at hcm; omega) W0 (by omega) (by omega) hR) (fun h k r => k (h r)) (fun W l o o' _ h ho _ => reachC_putObj l o o' h ho) (Below.refl _ _) (fun _ => rfl)
    (fun pre W => RwI s g q pre W ∧ Below g w W) (fun c _ W => c = .ret ∧ RwX s g W ∧ Below g w W) ?hI ?hIx ⟨⟨b0, b1, b3, ho0, fun _ h => by cases h⟩, hB0⟩
    (fun x => { tmps := #[Value.slice (some { block := b, off := off }) 256 cap, undef, Value.pointer (some { block := g, off := 0 }), Value.pointer (some { block := g + 1, off := 0 }), Value.pointer (some { block := g + 1 + 1 + 1, off := 0 }),
          .slice (some ⟨b, off + 16 * x.val, none⟩) 16 16, undef, undef, Value.slice (some { block := b, off := off }) 256 cap, Value.int IntKind.i64 256, Value.bool false,
          Value.slice (some { block := g + 1 + 1, off := 0 }) 0 16, Value.slice (some { block := b, off := off }) 256 cap,
          Value.func (Fn.func 48) #[] #[Value.pointer (some { block := g + 1 + 1 + 1 + 1, off := 0 }), Value.pointer (some { block := g + 1 + 1 + 1 + 1 + 1, off := 0 })],
          .slice (some ⟨b, off + 16 * x.val, none⟩) 16 16, undef, undef, undef, undef, undef, undef, undef, undef, undef, undef, undef, undef, undef], defers := [] }) ?assign ?body ?done ?stop
  case hI => exact OwnFrom.and ((rwI_own s g q).from _) (ownFrom_below (by omega) (by omega))
  case hIx =>
    intro c
    exact fun pre A B row hs hg' hr => ⟨hs.1, ((rwX_own s g).from _) pre A B row hs.2.1 hg' hr, (ownFrom_below (by omega) (by omega)) pre A B row hs.2.2 hg' hr⟩
  case assign =>
    intro l x W K hK
    gi_wp2
    exact hK
  case body =>
    rintro l pre x W ⟨⟨h1, h2, h3, h4, h5⟩, hb⟩ hpl
    obtain ⟨n, hn⟩ : ∃ n, pre.length = n := ⟨_, rfl⟩
    obtain ⟨j, hj⟩ : ∃ j, x.val = j := ⟨_, rfl⟩
    have hj16 : j < 16 := by rw [← hj]; have := x.isLt; omega
    rw [hn] at h3 h4 hpl
    rw [hj]
    have hzW : g ≤ W.heap.size := by rw [← hg]; exact hb.size
    have hlen : (winP s j).length = 16 := win_length (by have := HS.out; omega)
    have hbW : Bsl W W.heap.size (some ⟨b, off + 16 * j, none⟩) 16 16 (winP s j) := by
      refine ⟨hlen, Nat.le_refl _, by unfold maxLen; omega, fun e => (by cases e), fun _ => ⟨b, off + 16 * j, rfl, by omega, fun i hi => ?_⟩⟩
      have hi' : 16 * j + i < s.length := by have := HS.out; omega
      rw [Nat.add_assoc, hb.cell (p := ⟨b, off + (16 * j + i), none⟩) (by rw [← hg]; exact hblt), HCE.out (16 * j + i) hi']
      simp [winP]
    have hread := Read_any _ 16 16 (winP s j) W hbW (HZ.out.below hb (by rw [← hg]; exact HZ.out.1))
    rw [preadO, if_pos hlen] at hread
    have hwf := wf_getP (winP s j)
    obtain ⟨P, hP⟩ : ∃ P, getP (winP s j) = P := ⟨_, rfl⟩
    rw [hP] at hread hwf
    by_cases hmay : MayP P
    · rw [if_pos hmay] at hread
      obtain ⟨a', b', c', d', e'⟩ := P
      have HRD := Lib.hid hread
      have H1 := Lib.hid h1
      have H2 := Lib.hid h2
      have H3 := Lib.hid h3
      have H4 := Lib.hid h4
      have H5 := Lib.hid h5
      have HBW := Lib.hid hb
      have HN := Lib.hid hn
      have HJ := Lib.hid hj
      have HP := Lib.hid hP
      have HMY := Lib.hid hmay
      have HWF := Lib.hid hwf
      have HG := Lib.hid hg
      clear hread h1 h2 h3 h4 h5 hb hn hj hP hmay hwf hg hbW hlen b0 b1 b2 b3 b4 b5 ho0 hR hB0 hW0
      have hd2 : 1 ≤ m - 1 - 1 := by omega
      gi_wp2
      refine ⟨trivial, ?_⟩
      refine (CallsIn.inRound l (callsIn_wide.2 HRD.out)).mono ?_
      rintro e W1 ⟨rfl, bb⟩
      have g3 := H3.out.below bb H3.out.lt
      have c3 : ∀ o : Obj, (W1.alloc o).cell? ⟨g + 1 + 1 + 1, 0, none⟩ = some (.slice (some ⟨g + 2, 0, none⟩) n 16) := fun o => (g3.alloc o).cell 0
      have HBB := Lib.hid bb
      clear bb g3
      obtain ⟨W2, hW2⟩ : ∃ W2, (W1.alloc (.cells #[.int .i64 a', .int .u32 (b' : Int), .int .u32 (c' : Int), .int .u32 (d' : Int), .int .u32 (e' : Int)] 42)).alloc (.cells #[.int .i64 a', .int .u32 (b' : Int), .int .u32 (c' : Int), .int .u32 (d' : Int), .int .u32 (e' : Int)] 42) = W2 := ⟨_, rfl⟩
      have hb12 : Below W1.heap.size W1 W2 := by rw [← hW2]; exact ((Below.refl _ W1).alloc (Nat.le_refl _) _).alloc (by simp) _
      have hxn : Blk W2 (W1.heap.size + 1) 42 #[.int .i64 a', .int .u32 (b' : Int), .int .u32 (c' : Int), .int .u32 (d' : Int), .int .u32 (e' : Int)] := by
        have := Blk.new (W1.alloc (.cells #[.int .i64 a', .int .u32 (b' : Int), .int .u32 (c' : Int), .int .u32 (d' : Int), .int .u32 (e' : Int)] 42)) 42 #[.int .i64 a', .int .u32 (b' : Int), .int .u32 (c' : Int), .int .u32 (d' : Int), .int .u32 (e' : Int)]
        rw [hW2, World.size_alloc] at this
        exact this
      have hb2 : Below W.heap.size W W2 := HBB.out.trans (hb12.mono HBB.out.size)
      have ho2 := own_below (own_below H4.out HBB.out) hb12
      have x0 := H1.out.below hb2 H1.out.lt
      have x1 := H2.out.below hb2 H2.out.lt
      have x3 := H3.out.below hb2 H3.out.lt
      have hBW2 : Below g w W2 := HBW.out.trans (hb2.mono hzW)
      obtain ⟨i0, hi, hz0, hz1, hz2⟩ := info_parts infoPt
      have HW2 := Lib.hid hW2
      have HX0 := Lib.hid x0
      have HX1 := Lib.hid x1
      have HX3 := Lib.hid x3
      have HO2 := Lib.hid ho2
      have HB2 := Lib.hid hb2
      have HBW2 := Lib.hid hBW2
      have HXN := Lib.hid hxn
      clear hW2 x0 x1 x3 ho2 hb2 hBW2 hxn hb12
      gi_wp2_with (with_reducible refine atAppendIn ?_
                   rw [HW2.out]
                   refine wpListIn_append_fits W2 rfl (.tmp 23) (.tmp 25) 22 rfl g 42 i0 5 Tryd.underlying22 hi hz1 (g + 2) n 16 _ rfl HO2.out ⟨W1.heap.size + 1, 0, none⟩ 1 1 (ptC (a', b', c', d', e')) rfl rfl
                     (fun t u hu => by
                        have e1 : (⟨W1.heap.size + 1, 0, none⟩ : Addr).add t = ⟨W1.heap.size + 1, t, none⟩ := by unfold Addr.add; split <;> simp_all
                        rw [e1, HXN.out.cell t]
                        show (ptC (a', b', c', d', e')).toArray[t]? = some u
                        rw [List.getElem?_toArray]
                        exact hu)
                     (fun u hu => by
                        simp only [ptC, List.mem_cons, List.not_mem_nil, or_false] at hu
                        rcases hu with rfl | rfl | rfl | rfl | rfl <;> rfl) (by omega) ?_
                   intro W3 ho3 hg3
                   have y3 := HX3.out.grown hg3 (by simp)
                   have c4 : W3.cell? ⟨g + 1 + 1 + 1, 0, none⟩ = some (.slice (some ⟨g + 2, 0, none⟩) n 16) := y3.cell 0
                   have f4 : W3.frozen? ⟨g + 1 + 1 + 1, 0, none⟩ = false := y3.frozen 0
                   have HO3 := Lib.hid ho3
                   have HG3 := Lib.hid hg3
                   have Y3 := Lib.hid y3
                   clear ho3 hg3 y3)
      obtain ⟨W4, hW4⟩ : ∃ W4, W3.setCell ⟨g + 3, 0, none⟩ (.slice (some ⟨g + 2, 0, none⟩) (n + 1) 16) = W4 := ⟨_, rfl⟩
      have gs : W3.grownBy W4 (some (g + 3)) := by rw [← hW4]; exact only_setCell (World.grownBy.refl _ _) (.inl rfl) _
      have OX : RwI s g q (pre ++ [x]) W4 ∧ Below g w W4 := by
        have hl : (pre ++ [x]).length = n + 1 := by rw [List.length_append, HN.out]; rfl
        have el : ptCs ((pre ++ [x]).map fun x => getP (winP s x.val)) = ptCs (pre.map fun x => getP (winP s x.val)) ++ ptC (a', b', c', d', e') := by
          rw [List.map_append, ptCs_append, List.map_cons, List.map_nil, HJ.out, HP.out]
          rfl
        refine ⟨⟨(HX0.out.grown HG3.out (by simp)).grown gs (by simp), (HX1.out.grown HG3.out (by simp)).grown gs (by simp), ?_, ?_, fun y hy => ?_⟩, ?_⟩
        · rw [hl, ← hW4]; exact Y3.out.set_ 0 _
        · rw [hl, el]; exact own_other HO3.out gs (fun k e => by simp [Value.ownBlock] at e; omega)
        · rcases List.mem_append.1 hy with hy | hy
          · exact H5.out y hy
          · rw [List.mem_singleton] at hy
            subst hy
            rw [HJ.out, HP.out]
            exact HMY.out
        · exact below_only (below_only HBW2.out (by omega) HG3.out (by have := HB2.out.size; omega)) (by omega) gs (by have := HB2.out.size; have := HG3.out.size; omega)
      have hk4 : KeepsOthers W W4 := ((kept_below HB2.out).trans (keepsOthers_grown HG3.out (own5_blk HO2.out).choose_spec)).trans (by rw [← hW4]; exact KeepsOthers.setCell W3 _ _)
      have hr4 : ReachC (g + 4) (g + 5) (some ⟨b, off, none⟩) q cap W → ReachC (g + 4) (g + 5) (some ⟨b, off, none⟩) q cap W4 := fun hr => by
        have l1 : g + 4 < W.heap.size := World.block_lt_of_cell? W _ hr.1
        have l2 : g + 5 < W.heap.size := World.block_lt_of_cell? W _ hr.2
        have z2 := HB2.out.size
        have z3 := HG3.out.size
        refine ⟨?_, ?_⟩
        · rw [World.cell?_of_block (a := ⟨g + 4, 0, none⟩) (gs.block (g + 4) (by omega) (by simp)), World.cell?_of_block (a := ⟨g + 4, 0, none⟩) (HG3.out.block (g + 4) (by omega) (by simp)), HB2.out.cell l1]
          exact hr.1
        · rw [World.cell?_of_block (a := ⟨g + 5, 0, none⟩) (gs.block (g + 5) (by omega) (by simp)), World.cell?_of_block (a := ⟨g + 5, 0, none⟩) (HG3.out.block (g + 5) (by omega) (by simp)), HB2.out.cell l2]
          exact hr.2
      rw [hW4]
      exact ⟨hk4.from _, hr4, OX⟩
    · rw [if_neg hmay] at hread
      have HRD := Lib.hid hread
      have H1 := Lib.hid h1
      have H2 := Lib.hid h2
      have HBW := Lib.hid hb
      have HMY := Lib.hid (show ∃ i, i < 16 ∧ ¬ MayP (getP (winP s i)) from ⟨j, hj16, by rw [hP]; exact hmay⟩)
      have HG := Lib.hid hg
      clear hread h1 h2 h3 h4 h5 hb hn hj hP hmay hwf hg hbW hlen b0 b1 b2 b3 b4 b5 ho0 hR hB0 hW0
      have hd2 : 1 ≤ m - 1 - 1 := by omega
      gi_wp2
      refine ⟨trivial, ?_⟩
      refine (CallsIn.inRound l (callsIn_wide.2 HRD.out)).mono ?_
      rintro e W1 ⟨rfl, bb⟩
      have y0 := H1.out.below bb H1.out.lt
      have y1 := H2.out.below bb H2.out.lt
      have c0 : ∀ o : Obj, (W1.alloc o).cell? ⟨g, 0, none⟩ = some (.slice none 0 0) := fun o => (y0.alloc o).cell 0
      have c1 : ∀ o : Obj, (W1.alloc o).cell? ⟨g + 1, 0, none⟩ = some (.int .i64 0) := fun o => (y1.alloc o).cell 0
      have f0 : ∀ o : Obj, (W1.alloc o).frozen? ⟨g, 0, none⟩ = false := fun o => (y0.alloc o).frozen 0
      have f1 : ∀ o : Obj, (W1.alloc o).frozen? ⟨g + 1, 0, none⟩ = false := fun o => (y1.alloc o).frozen 0
      have Y0 := Lib.hid y0
      have Y1 := Lib.hid y1
      have HBB := Lib.hid bb
      clear y0 y1 bb
      gi_wp2_with fail
      clear c0 c1 f0 f1
      obtain ⟨W2, hW2⟩ : ∃ W2, W1.alloc (.cells #[.int .i64 0, .int .u32 0, .int .u32 0, .int .u32 0, .int .u32 0] 42) = W2 := ⟨_, rfl⟩
      have hb2 : Below W.heap.size W W2 := by rw [← hW2]; exact HBB.out.trans (((Below.refl _ W1).alloc (Nat.le_refl _) _).mono HBB.out.size)
      have x0 : Blk W2 g 22 #[.slice none 0 0] := by rw [← hW2]; exact Y0.out.alloc _
      have x1 : Blk W2 (g + 1) 25 #[.int .i64 0] := by rw [← hW2]; exact Y1.out.alloc _
      have hBW2 : Below g w W2 := HBW.out.trans (hb2.mono hzW)
      rw [hW2]
      clear hW2
      obtain ⟨W4, hW4⟩ : ∃ W4, (W2.setCell ⟨g, 0, none⟩ (.slice none 0 0)).setCell ⟨g + 1, 0, none⟩ (.int .i64 8) = W4 := ⟨_, rfl⟩
      have OX : RwX s g W4 ∧ Below g w W4 := by
        rw [← hW4]
        refine ⟨⟨?_, ?_, HMY.out⟩, (hBW2.setCell (p := ⟨g, 0, none⟩) (Nat.le_refl _) _).setCell (p := ⟨g + 1, 0, none⟩) (by show g ≤ g + 1; omega) _⟩
        · exact (x0.set_ 0 (.slice none 0 0)).far (by show g ≠ g + 1; omega) _
        · exact (x1.far (by show g + 1 ≠ g; omega) _).set_ 0 (.int .i64 8)
      have hk4 : KeepsOthers W W4 := by rw [← hW4]; exact ((kept_below hb2).trans (KeepsOthers.setCell W2 _ _)).trans (KeepsOthers.setCell _ _ _)
      rw [hW4]
      exact ⟨hk4.from _, rfl, OX⟩
  case done =>
    rintro D ys W hD hC ⟨⟨h1, h2, h3, h4, h5⟩, hb⟩ hK
    have hC' : ys.map (·.val) = List.range q := hC
    have hl : ys.length = 16 := by have := congrArg List.length hC'; simp at this; omega
    rw [hl] at h3 h4
    have hys : ys.map (fun x => getP (winP s x.val)) = rowsL s := by
      have : ys.map (fun x => getP (winP s x.val)) = (ys.map (·.val)).map fun i => getP (winP s i) := by rw [List.map_map]; rfl
      rw [this, hC', hq, rowsL]
    have hall : ∀ p ∈ rowsL s, MayP p := fun p hp => by
      rw [← hys] at hp
      obtain ⟨x, hx, rfl⟩ := List.mem_map.1 hp
      exact h5 x hx
    rw [hys] at h4
    have hRR := HRR.out
    rw [rowsO, if_pos HS.out, if_pos hall] at hRR
    subst hRR
    have hDg : g + 6 ≤ D := by omega
    have c0 : W.cell? ⟨g, 0, none⟩ = some (.slice none 0 0) := h1.cell 0
    have c1 : W.cell? ⟨g + 1, 0, none⟩ = some (.int .i64 0) := h2.cell 0
    have c3 : W.cell? ⟨g + 1 + 1 + 1, 0, none⟩ = some (.slice (some ⟨g + 2, 0, none⟩) 16 16) := h3.cell 0
    have f0 : W.frozen? ⟨g, 0, none⟩ = false := h1.frozen 0
    have f1 : W.frozen? ⟨g + 1, 0, none⟩ = false := h2.frozen 0
    obtain ⟨W7, hW7⟩ : ∃ W7, (W.setCell ⟨g, 0, none⟩ (.slice (some ⟨g + 2, 0, none⟩) 16 16)).setCell ⟨g + 1, 0, none⟩ (.int .i64 0) = W7 := ⟨_, rfl⟩
    have x0 : Blk W7 g 22 #[.slice (some ⟨g + 2, 0, none⟩) 16 16] := by rw [← hW7]; exact (h1.set_ 0 _).far (by show g ≠ g + 1; omega) _
    have x1 : Blk W7 (g + 1) 25 #[.int .i64 0] := by rw [← hW7]; exact (h2.far (by show g + 1 ≠ g; omega) _).set_ 0 (.int .i64 0)
    have gs0 : W.grownBy (W.setCell ⟨g, 0, none⟩ (.slice (some ⟨g + 2, 0, none⟩) 16 16)) (some g) := only_setCell (World.grownBy.refl _ _) (.inl rfl) _
    have gs1 : (W.setCell ⟨g, 0, none⟩ (.slice (some ⟨g + 2, 0, none⟩) 16 16)).grownBy W7 (some (g + 1)) := by rw [← hW7]; exact only_setCell (World.grownBy.refl _ _) (.inl rfl) _
    have ho7 : W7.ownsRow g 42 5 (.slice (some ⟨g + 2, 0, none⟩) 16 16) 16 (ptCs (rowsL s)) := own_other (own_other h4 gs0 (fun k e => by simp [Value.ownBlock] at e; omega)) gs1 (fun k e => by simp [Value.ownBlock] at e; omega)
    have hb7 : Below g w W7 := by rw [← hW7]; exact (hb.setCell (p := ⟨g, 0, none⟩) (Nat.le_refl _) _).setCell (p := ⟨g + 1, 0, none⟩) (by show g ≤ g + 1; omega) _
    have hk7 : W7.heap[D]? = some (.deferred (some [])) := by rw [← hW7]; exact (Below.heap_setCell _ ⟨g + 1, 0, none⟩ _ D (by show D ≠ g + 1; omega)).trans ((Below.heap_setCell W ⟨g, 0, none⟩ _ D (by show D ≠ g; omega)).trans hK)
    have HX0 := Lib.hid x0
    have HX1 := Lib.hid x1
    have HO7 := Lib.hid ho7
    have HB7 := Lib.hid hb7
    have HK7 := Lib.hid hk7
    have HG := Lib.hid hg
    clear h1 h2 h3 h4 h5 hb hK hC hC' hl hys hall x0 x1 gs0 gs1 ho7 hb7 hk7 b0 b1 b2 b3 b4 b5 ho0 hR hB0 hW0 hg
    gi_wp2_with fail
    clear hW7 c0 c1 c3 f0 f1
    refine ⟨by simp, .inl ⟨_, _, rfl, run_takeDeferred HK7.out, ?_⟩⟩
    have gd := grownBy_putObj' W7 D (.deferred none)
    have z0 := HX0.out.grown gd (fun e => by injection e; omega)
    have z1 := HX1.out.grown gd (fun e => by injection e; omega)
    have e0 := z0.cell 0
    have e1 := z1.cell 0
    refine ⟨.tuple #[.slice (some ⟨g + 2, 0, none⟩) 16 16, .int .i64 0], by simp [results, Tryd.f21, go_sem, e0, e1], _, rfl, ⟨?_, fun p hp => ?_⟩, ?_⟩
    · rw [HG.out]
      exact own_other HO7.out gd (fun k e => by simp [Value.ownBlock] at e; omega)
    · obtain ⟨i, _, rfl⟩ := List.mem_map.1 hp
      exact wf_getP _
    · rw [HG.out]
      exact HB7.out.trans (below_putO _ _ (by omega))
  case stop =>
    rintro D c pre W hD hSp ⟨rfl, ⟨h1, h2, i, hi, hno⟩, hb⟩ hK
    have hno' : ¬ ∀ p ∈ rowsL s, MayP p := fun hall => hno (hall _ (List.mem_map.2 ⟨i, List.mem_range.2 hi, rfl⟩))
    have hRR := HRR.out
    rw [rowsO, if_pos HS.out, if_neg hno'] at hRR
    subst hRR
    have hDg : g + 6 ≤ D := by omega
    have HX0 := Lib.hid h1
    have HX1 := Lib.hid h2
    have HB7 := Lib.hid hb
    have HK7 := Lib.hid hK
    have HG := Lib.hid hg
    clear h1 h2 hno hno' hb hK hSp b0 b1 b2 b3 b4 b5 ho0 hR hB0 hW0 hg
    gi_wp2_with fail
    refine ⟨by simp, .inl ⟨_, _, rfl, run_takeDeferred HK7.out, ?_⟩⟩
    have gd := grownBy_putObj' W D (.deferred none)
    have z0 := HX0.out.grown gd (fun e => by injection e; omega)
    have z1 := HX1.out.grown gd (fun e => by injection e; omega)
    have e0 := z0.cell 0
    have e1 := z1.cell 0
    refine ⟨.tuple #[.slice none 0 0, .int .i64 8], by simp [results, Tryd.f21, go_sem, e0, e1], _, rfl, prow_nil _ _, ?_⟩
    rw [HG.out]
    exact HB7.out.trans (below_putO _ _ (by omega))
theorem Rows_any (a : Option Addr) (len cap : Nat) (s : List UInt8) (w : World) (hB : Bsl w w.heap.size a len cap s) (hz : Szs w) : Calls Tryd.prog 21 #[.slice a len cap] w (OutL (rowsO s).1 (rowsO s).2 w) := by
  by_cases h : s.length = 256
  · obtain rfl : len = 256 := by rw [← hB.1]; exact h
    exact callsIn_wide.1 (rows_in 3 (Nat.le_refl _) a cap s w hB hz)
  · rw [rowsO, if_neg h]
    have hl := hB.1
    have hne : ¬ (len : Int) = 256 := by omega
    have i0 : (0 : Int) ≤ (len : Int) := by omega
    have i1 : (len : Int) ≤ 9223372036854775807 := by have h1 := hB.2.1; have h2 := hB.2.2.1; unfold maxLen at h2; omega
    have hb2 : Below w.heap.size w ((w.alloc (.cells #[.slice none 0 0] 22)).alloc (.cells #[.int .i64 3] 25)) := ((Below.refl _ w).alloc (Nat.le_refl _) _).alloc (by simp) _
    have x0 : Blk ((w.alloc (.cells #[.slice none 0 0] 22)).alloc (.cells #[.int .i64 3] 25)) w.heap.size 22 #[.slice none 0 0] := (Blk.new w _ _).alloc _
    have x1 : Blk ((w.alloc (.cells #[.slice none 0 0] 22)).alloc (.cells #[.int .i64 3] 25)) (w.heap.size + 1) 25 #[.int .i64 3] := by
      have := Blk.new (w.alloc (.cells #[.slice none 0 0] 22)) 25 #[.int .i64 3]
      rw [World.size_alloc] at this
      exact this
    have HX0 := Lib.hid x0
    have HX1 := Lib.hid x1
    have HB2 := Lib.hid hb2
    clear hl h hB hz x0 x1 hb2
    go_enter Tryd.func21, Tryd.ntmps21
    go_wp2_with fail
    have e0 := HX0.out.cell 0
    have e1 := HX1.out.cell 0
    exact bodyPost_ret (v := .tuple #[.slice none 0 0, .int .i64 3]) (by simp [results, Tryd.f21, go_sem, e0, e1]) rfl ⟨_, rfl, prow_nil _ _, HB2.out⟩
end Go.Proofs.YtennhempdnpobaaDoor
