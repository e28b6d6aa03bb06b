/-
  Layer 9: all bytes of a disk that is the caller's own become other ones.
-/
import Derived.Test.YtgpojnhhcobcbaaDevTop
import Derived.Test.YtgpojnhhcobcbaaDevTamper
namespace Go.Proofs.Ytgpojnhhcobcbaa
open Go.RowKit Go.Shelf
set_option maxRecDepth 100000

/-- Where the pieces lie. -/
def WipeOK (g n m T : Nat) (cb cw : Array Value) : Prop :=
  (∀ i, i < n → ∃ o l, cb[i]? = some (.slice (some ⟨g, o, none⟩) l l) ∧ l ≤ T ∧ ∀ k, k < l → o + k < T) ∧ ∀ i, i < m → ∃ o l, cw[i * 2 + 1]? = some (.slice (some ⟨g, o, none⟩) l l) ∧ l ≤ T ∧ ∀ k, k < l → o + k < T
def WipeI (g hb hw B n m T : Nat) (cb cw : Array Value) (w0 w : World) : Prop :=
  Blk w B 25 #[.slice (some ⟨hb, 0, none⟩) n n, .slice (some ⟨hw, 0, none⟩) m m] ∧ Blk w hb 30 cb ∧ Blk w hw 55 cw ∧ (∃ t : List UInt8, t.length = T ∧ Blk w g 5 (ar t)) ∧ w0.grownBy w (some g)
theorem WipeI.step {g hb hw B n m T : Nat} {cb cw : Array Value} {w0 w : World} (h : WipeI g hb hw B n m T cb cw w0 w) (j : Nat) (y : UInt8) : WipeI g hb hw B n m T cb cw w0 (w.setCell ⟨g, j, none⟩ (.int .u8 (y.toNat : Int))) := by
  obtain ⟨h1, h2, h3, ⟨t, h4, h5⟩, h6⟩ := h
  refine ⟨h1.far (p := ⟨g, j, none⟩) (h1.ne h5 (by decide)) _, h2.far (p := ⟨g, j, none⟩) (h2.ne h5 (by decide)) _, h3.far (p := ⟨g, j, none⟩) (h3.ne h5 (by decide)) _, ⟨t.set j y, by rw [List.length_set, h4], ?_⟩, only_setCell h6 (p := ⟨g, j, none⟩) (.inl rfl) _⟩
  have := h5.set_ j (.int .u8 (y.toNat : Int))
  rwa [ar_set] at this
theorem WipeI.drew {g hb hw B n m T : Nat} {cb cw : Array Value} {w0 w : World} (h : WipeI g hb hw B n m T cb cw w0 w) : WipeI g hb hw B n m T cb cw w0 w.drew := by
  obtain ⟨h1, h2, h3, ⟨t, h4, h5⟩, h6⟩ := h
  exact ⟨h1.drew, h2.drew, h3.drew, ⟨t, h4, h5.drew⟩, only_drew h6⟩
theorem WipeI.byte {g hb hw B n m T : Nat} {cb cw : Array Value} {w0 w : World} (h : WipeI g hb hw B n m T cb cw w0 w) {j : Nat} (hj : j < T) : ∃ y : UInt8, w.cell? ⟨g, j, none⟩ = some (.int .u8 (y.toNat : Int)) ∧ w.frozen? ⟨g, j, none⟩ = false := by
  obtain ⟨_, _, _, ⟨t, h4, h5⟩, _⟩ := h
  refine ⟨t[j], ?_, h5.frozen j⟩
  rw [h5.cell, ar_get t j (by omega)]
/-- A disk laid in one piece, at block r. -/
def LaidR (w : World) (lo r : Nat) (x : DAt) (D : DkL) : Prop :=
  ∃ hb hw, x = ⟨some ⟨hb, 0, none⟩, D.1.length, some ⟨hw, 0, none⟩, D.2.length⟩ ∧ lo ≤ r ∧ lo ≤ hb ∧ lo ≤ hw ∧ D.1.length ≤ 1000000 ∧ D.2.length ≤ 1000000 ∧ sumD D ≤ 1000000000000 ∧
    (∀ i, i < D.2.length → (Lit.int .i64 (wr_ D.2 i).1).wf = true) ∧ Blk w r 5 (ar (roomP (pieces D) (sumD D) (D.1.length + D.2.length))) ∧
    (∃ cb, Blk w hb 30 cb ∧ cb.size = D.1.length ∧ ∀ i, i < D.1.length → ∃ v, cb[i]? = some v ∧ PieceV r (pieces D) i v) ∧
    ∃ cw, Blk w hw 55 cw ∧ cw.size = D.2.length * 2 ∧ ∀ i, i < D.2.length → cw[i * 2]? = some (.int .i64 (wr_ D.2 i).1) ∧ ∃ v, cw[i * 2 + 1]? = some v ∧ PieceV r (pieces D) (D.1.length + i) v
theorem Laid.row {w : World} {lo : Nat} {x : DAt} {D : DkL} (h : Laid w lo x D) : ∃ r, LaidR w lo r x D := h
theorem LaidR.laid {w : World} {lo r : Nat} {x : DAt} {D : DkL} (h : LaidR w lo r x D) : Laid w lo x D := ⟨r, h⟩
theorem LaidR.low {w : World} {lo r : Nat} {x : DAt} {D : DkL} (h : LaidR w lo r x D) : lo ≤ r ∧ r < w.heap.size := by
  obtain ⟨_, _, _, h1, _, _, _, _, _, _, h2, _⟩ := h
  exact ⟨h1, h2.lt⟩
/-- What a call answers that makes a disk; row: the block of its bytes, if there are any. -/
def OutR (w : World) (lo : Nat) (row : Option Nat) (x : DAt) (D : DkL) : Prop := (x = ⟨none, 0, none, 0⟩ ∧ D = ([], []) ∧ row = none) ∨ ∃ r, row = some r ∧ LaidR w lo r x D
theorem OutD.row {w : World} {lo : Nat} {x : DAt} {D : DkL} (h : OutD w lo x D) : ∃ row, OutR w lo row x D := by
  rcases h with ⟨h1, h2⟩ | h
  · exact ⟨none, .inl ⟨h1, h2, rfl⟩⟩
  · obtain ⟨r, hr⟩ := h.row
    exact ⟨some r, .inr ⟨r, rfl, hr⟩⟩
theorem OutR.out {w : World} {lo : Nat} {row : Option Nat} {x : DAt} {D : DkL} (h : OutR w lo row x D) : OutD w lo x D := by
  rcases h with ⟨h1, h2, _⟩ | ⟨r, _, h⟩
  · exact .inl ⟨h1, h2⟩
  · exact .inr h.laid
theorem OutR.low {w : World} {lo : Nat} {row : Option Nat} {x : DAt} {D : DkL} (h : OutR w lo row x D) : ∀ r, row = some r → lo ≤ r ∧ r < w.heap.size := by
  rintro r rfl
  rcases h with ⟨_, _, e⟩ | ⟨r', e, h⟩
  · cases e
  · cases e
    exact h.low
/-- What a disk that is laid in one piece gives. -/
theorem LaidR.wipe {w : World} {lo g : Nat} {x : DAt} {D : DkL} (h : LaidR w lo g x D) :
    ∃ hb hw n m T cb cw, dval x D = .agg #[.slice (some ⟨hb, 0, none⟩) n n, .slice (some ⟨hw, 0, none⟩) m m] ∧ n ≤ 1000000 ∧ m ≤ 1000000 ∧ T ≤ 1000000000000 ∧ WipeOK g n m T cb cw ∧
      WipeI g hb hw w.heap.size n m T cb cw w (w.alloc (.cells #[.slice (some ⟨hb, 0, none⟩) n n, .slice (some ⟨hw, 0, none⟩) m m] 25)) := by
  obtain ⟨hb, hw, rfl, k1, k2, k3, h1, h2, h3, h4, h5, ⟨cb, h6, h7, h8⟩, cw, h9, h10, h11⟩ := h
  have hst : startP (pieces D) (D.1.length + D.2.length) = sumD D := startP_sumD D
  have hpc : ∀ i v, i < D.1.length + D.2.length → PieceV g (pieces D) i v → ∃ o l, v = .slice (some ⟨g, o, none⟩) l l ∧ l ≤ sumD D ∧ ∀ k, k < l → o + k < sumD D := by
    rintro i v hi ⟨o, e, ho⟩
    have hs := startP_succ (P := pieces D) (k := i) (by rw [pieces_length]; exact hi)
    have hm := startP_mono (P := pieces D) (show i + 1 ≤ D.1.length + D.2.length by omega)
    refine ⟨o, _, e, by omega, fun k hk => ?_⟩
    have := ho (by omega)
    omega
  refine ⟨hb, hw, D.1.length, D.2.length, sumD D, cb, cw, rfl, h1, h2, h3, ⟨fun i hi => ?_, fun i hi => ?_⟩, Blk.new w _ _, h6.alloc _, h9.alloc _, ⟨_, roomP_length (by rw [hst]; exact Nat.le_refl _), h5.alloc _⟩, only_alloc (World.grownBy.refl w _) _⟩
  · obtain ⟨v, e1, e2⟩ := h8 i hi
    obtain ⟨o, l, rfl, e3⟩ := hpc i v (by omega) e2
    exact ⟨o, l, e1, e3⟩
  · obtain ⟨_, v, e1, e2⟩ := h11 i hi
    obtain ⟨o, l, rfl, e3⟩ := hpc (D.1.length + i) v (by omega) e2
    exact ⟨o, l, e1, e3⟩
theorem xor255 (y : UInt8) : bits .xor .u8 (y.toNat : Int) 255 = ((y ^^^ 255).toNat : Int) := xor8 y 255
set_option maxHeartbeats 2000000 in
theorem wipe_laid (g hb hw n m T : Nat) (cb cw : Array Value) (w : World) (hn : n ≤ 1000000) (hm : m ≤ 1000000) (hT : T ≤ 1000000000000) (hok : WipeOK g n m T cb cw)
    (hI : WipeI g hb hw w.heap.size n m T cb cw w (w.alloc (.cells #[.slice (some ⟨hb, 0, none⟩) n n, .slice (some ⟨hw, 0, none⟩) m m] 25))) :
    Calls Try.prog 27 #[.agg #[.slice (some ⟨hb, 0, none⟩) n n, .slice (some ⟨hw, 0, none⟩) m m]] w (fun e w' => e = .returned (.tuple #[]) ∧ w.grownBy w' (some g)) := by
  have hmx : Try.prog.follows Departure.mixedOrders = true := by kernel_rfl
  obtain ⟨B, hB⟩ : ∃ B, w.heap.size = B := ⟨_, rfl⟩
  rw [hB] at hI
  have HI := Lib.hid hI
  have HOK := Lib.hid hok
  have n0 : (0 : Int) ≤ n := by omega
  have n1 : (n : Int) ≤ 1000000 := by omega
  have m0 : (0 : Int) ≤ m := by omega
  have m1 : (m : Int) ≤ 1000000 := by omega
  clear hI hok
  go_enter Try.func27, Try.ntmps27
  go_wp2_with fail
  go_loopw [2, 3] (fun i _ wr => ∃ k : Nat, k ≤ n ∧ i = .int .i64 k ∧ Hid (WipeI g hb hw B n m T cb cw w wr)) (fun i _ _ => n - (intOf i).toNat)
  case atStart => exact ⟨0, Nat.zero_le _, rfl, HI⟩
  case round =>
    obtain ⟨k, hk, rfl, HR⟩ := hrel
    clear HI
    have i0 : (0 : Int) ≤ k := by omega
    have r0 := HR.out.1.cell 0
    by_cases hlt : k < n
    · have i1 : (k : Int) < n := by omega
      obtain ⟨o, l, hcb, hlT, hol⟩ := HOK.out.1 k hlt
      go_wp2_with fail
      go_loopw [3] (fun j wr => ∃ q : Nat, q ≤ l ∧ j = .int .i64 q ∧ Hid (WipeI g hb hw B n m T cb cw w wr)) (fun j _ => l - (intOf j).toNat)
      case atStart => exact ⟨0, Nat.zero_le _, rfl, HR⟩
      case round =>
        obtain ⟨q, hq, rfl, HQ⟩ := hrel
        clear HR r0
        have q0 : (0 : Int) ≤ q := by omega
        have l0 : (0 : Int) ≤ l := by omega
        have l1 : (l : Int) ≤ 1000000000000 := by omega
        have r0 := HQ.out.1.cell 0
        have r1 := (HQ.out.2.1.cell (k)).trans hcb
        by_cases hlq : q < l
        · have q1 : (q : Int) < l := by omega
          obtain ⟨wd, hwd⟩ : ∃ wd, wr.drew = wd := ⟨_, rfl⟩
          have hD : WipeI g hb hw B n m T cb cw w wd := by rw [← hwd]; exact HQ.out.drew
          obtain ⟨y, hy, hfz⟩ := hD.byte (hol q hlq)
          have s0 := hD.1.cell 0
          have s1 := (hD.2.1.cell (k)).trans hcb
          have C0 := fun X (hX : Below wd.heap.size wd X) => (hX.cell (p := ⟨B, 0, none⟩) (World.block_lt_of_cell? wd _ s0)).trans s0
          have C1 := fun X (hX : Below wd.heap.size wd X) => (hX.cell (p := ⟨hb, k, none⟩) (World.block_lt_of_cell? wd _ s1)).trans s1
          have C2 := fun X (hX : Below wd.heap.size wd X) => (hX.cell (p := ⟨g, o + q, none⟩) (World.block_lt_of_cell? wd _ hy)).trans hy
          have hS : Below wd.heap.size wd wd := Below.refl _ _
          have hxor := xor255 y
          have HF := Lib.hid (hD.step (o + q) (y ^^^ 255))
          obtain ⟨z, hz⟩ : ∃ z, (y ^^^ 255).toNat = z := ⟨_, rfl⟩
          rw [hz] at hxor HF
          clear hD s0 s1 hz
          go_wp2_with fail
          clear r0 r1
          refine wpS_start [0, 1, 2, 3, 4, 5, 6, 7, 8, 9, 10, 11, 12, 13, 14, 15, 16] hmx rfl hwd ?_
          clear hwd
          iterate 16 (
            refine wpS_read (v := ?_) rfl (by kernel_rfl) (by kernel_rfl) (by kernel_rfl) (fun _ _ _ h => h) (.inl ⟨by rfl, ?_⟩) ?_
            rotate_left
            · intro X hX
              have hX0 := C0 X (hX _ hS)
              have hX1 := C1 X (hX _ hS)
              have hX2 := C2 X (hX _ hS)
              clear hX
              go_simp
              with_reducible rfl
            try simp only [Act.put, List.setIfInBounds_toArray, List.set_cons_zero, List.set_cons_succ])
          clear C0 C1 C2 hS
          refine wpS_last rfl (by kernel_rfl) (by kernel_rfl) (fun K hK => ?_)
          go_simp
          refine hK _ _ ?_
          clear hK K
          try simp only [Act.put, List.setIfInBounds_toArray, List.set_cons_zero, List.set_cons_succ]
          refine wpS_done (by kernel_rfl) ?_
          go_wp2_with fail
          go_roundw
          case rel => exact ⟨q + 1, by omega, by go_num, HF⟩
          case measure => simp [intOf]; omega
        · obtain rfl : q = l := by omega
          go_wp2_with fail
          clear r0 r1
          go_roundw
          case rel => exact ⟨k + 1, by omega, by go_num, HQ⟩
          case measure => simp [intOf]; omega
    · have i2 : ¬ (k : Int) < n := by omega
      go_wp2_with fail
      clear r0
      go_loopw [4, 5] (fun i _ wr => ∃ p : Nat, p ≤ m ∧ i = .int .i64 p ∧ Hid (WipeI g hb hw B n m T cb cw w wr)) (fun i _ _ => m - (intOf i).toNat)
      case atStart => exact ⟨0, Nat.zero_le _, rfl, HR⟩
      case round =>
        obtain ⟨p, hp, rfl, HP⟩ := hrel
        clear HR
        have p0 : (0 : Int) ≤ p := by omega
        have r0 := HP.out.1.cell 1
        by_cases hlt : p < m
        · have p1 : (p : Int) < m := by omega
          obtain ⟨o, l, hcb, hlT, hol⟩ := HOK.out.2 p hlt
          go_wp2_with fail
          go_loopw [5] (fun j wr => ∃ q : Nat, q ≤ l ∧ j = .int .i64 q ∧ Hid (WipeI g hb hw B n m T cb cw w wr)) (fun j _ => l - (intOf j).toNat)
          case atStart => exact ⟨0, Nat.zero_le _, rfl, HP⟩
          case round =>
            obtain ⟨q, hq, rfl, HQ⟩ := hrel
            clear HP r0
            have q0 : (0 : Int) ≤ q := by omega
            have l0 : (0 : Int) ≤ l := by omega
            have l1 : (l : Int) ≤ 1000000000000 := by omega
            have r0 := HQ.out.1.cell 1
            have r1 := (HQ.out.2.2.1.cell (p * 2 + 1)).trans hcb
            by_cases hlq : q < l
            · have q1 : (q : Int) < l := by omega
              obtain ⟨wd, hwd⟩ : ∃ wd, wr.drew = wd := ⟨_, rfl⟩
              have hD : WipeI g hb hw B n m T cb cw w wd := by rw [← hwd]; exact HQ.out.drew
              obtain ⟨y, hy, hfz⟩ := hD.byte (hol q hlq)
              have s0 := hD.1.cell 1
              have s1 := (hD.2.2.1.cell (p * 2 + 1)).trans hcb
              have C0 := fun X (hX : Below wd.heap.size wd X) => (hX.cell (p := ⟨B, 1, none⟩) (World.block_lt_of_cell? wd _ s0)).trans s0
              have C1 := fun X (hX : Below wd.heap.size wd X) => (hX.cell (p := ⟨hw, p * 2 + 1, none⟩) (World.block_lt_of_cell? wd _ s1)).trans s1
              have C2 := fun X (hX : Below wd.heap.size wd X) => (hX.cell (p := ⟨g, o + q, none⟩) (World.block_lt_of_cell? wd _ hy)).trans hy
              have hS : Below wd.heap.size wd wd := Below.refl _ _
              have hxor := xor255 y
              have HF := Lib.hid (hD.step (o + q) (y ^^^ 255))
              obtain ⟨z, hz⟩ : ∃ z, (y ^^^ 255).toNat = z := ⟨_, rfl⟩
              rw [hz] at hxor HF
              clear hD s0 s1 hz
              go_wp2_with fail
              clear r0 r1
              refine wpS_start [0, 1, 2, 3, 4, 5, 6, 7, 8, 9, 10, 11, 12, 13, 14, 15, 16, 17, 18] hmx rfl hwd ?_
              clear hwd
              iterate 18 (
                refine wpS_read (v := ?_) rfl (by kernel_rfl) (by kernel_rfl) (by kernel_rfl) (fun _ _ _ h => h) (.inl ⟨by rfl, ?_⟩) ?_
                rotate_left
                · intro X hX
                  have hX0 := C0 X (hX _ hS)
                  have hX1 := C1 X (hX _ hS)
                  have hX2 := C2 X (hX _ hS)
                  clear hX
                  go_simp
                  with_reducible rfl
                try simp only [Act.put, List.setIfInBounds_toArray, List.set_cons_zero, List.set_cons_succ])
              clear C0 C1 C2 hS
              refine wpS_last rfl (by kernel_rfl) (by kernel_rfl) (fun K hK => ?_)
              go_simp
              refine hK _ _ ?_
              clear hK K
              try simp only [Act.put, List.setIfInBounds_toArray, List.set_cons_zero, List.set_cons_succ]
              refine wpS_done (by kernel_rfl) ?_
              go_wp2_with fail
              go_roundw
              case rel => exact ⟨q + 1, by omega, by go_num, HF⟩
              case measure => simp [intOf]; omega
            · obtain rfl : q = l := by omega
              go_wp2_with fail
              clear r0 r1
              go_roundw
              case rel => exact ⟨p + 1, by omega, by go_num, HQ⟩
              case measure => simp [intOf]; omega
        · have p2 : ¬ (p : Int) < m := by omega
          go_wp2_with fail
          clear r0
          refine bodyPost_end (results_none rfl _ _ _) rfl ?_
          exact ⟨rfl, HP.out.2.2.2.2⟩
/-- wipe, handed a disk that is the caller's own: the block of its bytes alone is written. -/
theorem wipe_row (lo : Nat) (row : Option Nat) (x : DAt) (D : DkL) (w : World) (h : OutR w lo row x D) : Calls Try.prog 27 #[dval x D] w (fun e w' => e = .returned (.tuple #[]) ∧ w.grownBy w' row) := by
  rcases h with ⟨rfl, rfl, rfl⟩ | ⟨r, rfl, h⟩
  · have HX := Lib.hid (Blk.new w 25 #[.slice none 0 0, .slice none 0 0])
    have HB := Lib.hid (only_alloc (World.grownBy.refl w none) (.cells #[.slice none 0 0, .slice none 0 0] 25))
    show Calls Try.prog 27 #[.agg #[.slice none 0 0, .slice none 0 0]] w _
    go_enter Try.func27, Try.ntmps27
    go_wp2_with fail
    go_loopw [2] (fun i wr => i = .int .i64 0 ∧ Hid (Blk wr w.heap.size 25 #[.slice none 0 0, .slice none 0 0]) ∧ Hid (w.grownBy wr none)) (fun _ _ => 0)
    case atStart => exact ⟨rfl, HX, HB⟩
    case round =>
      obtain ⟨rfl, HX, HB⟩ := hrel
      have r0 := HX.out.cell 0
      go_wp2_with fail
      clear r0
      go_loopw [4] (fun i wr => i = .int .i64 0 ∧ Hid (Blk wr w.heap.size 25 #[.slice none 0 0, .slice none 0 0]) ∧ Hid (w.grownBy wr none)) (fun _ _ => 0)
      case atStart => exact ⟨rfl, HX, HB⟩
      case round =>
        obtain ⟨rfl, HX, HB⟩ := hrel
        have r0 := HX.out.cell 1
        go_wp2_with fail
        refine bodyPost_end (results_none rfl _ _ _) rfl ?_
        exact ⟨rfl, HB.out⟩
  · obtain ⟨hb, hw, n, m, T, cb, cw, e, h2, h3, h4, h5, h6⟩ := h.wipe
    rw [e]
    exact wipe_laid r hb hw n m T cb cw w h2 h3 h4 h5 h6
theorem wipe_any (lo : Nat) (x : DAt) (D : DkL) (w : World) (h : OutD w lo x D) (hlo : lo ≤ w.heap.size) : Calls Try.prog 27 #[dval x D] w (fun e w' => e = .returned (.tuple #[]) ∧ Below lo w w') := by
  obtain ⟨row, hr⟩ := h.row
  refine (wipe_row lo row x D w hr).mono ?_
  rintro e w' ⟨rfl, hg⟩
  exact ⟨rfl, (Below.refl lo w).grown hg hlo fun r e => (hr.low r e).1⟩
end Go.Proofs.Ytgpojnhhcobcbaa
