/-
  ptr.put: the bytes of a pointer whose numbers have room, in a row of the call's own.
-/
import Derived.Test.YtennhempdnpobaaDoorPtCode
namespace Go.Proofs.YtennhempdnpobaaDoor
open Go.RowKit Go.Shelf
set_option maxRecDepth 100000

/-- make([]byte, 0, 16). -/
theorem make_room (n : Nat) (hn : n ≤ 1000000) (W : World) : (Instr.makeSlice 28 (.int .i64 0) (.int .i64 (n : Int))).run Tryd.prog W = .ok (.slice (some ⟨W.heap.size, 0, none⟩) 0 n) (W.alloc (.cells (Array.replicate n (.int .u8 0)) 5)) := by
  obtain ⟨i0, hi, hz0, hz1, hz2⟩ := info_parts infoU8
  have hr := run_make (P := Tryd.prog) W 28 5 i0 (.int .u8 0) Tryd.underlying28 hi hz0 .i64 .i64 0 n (by omega) (by omega) (by rw [hz2]; omega) (by omega)
  rw [hz1] at hr
  simp only [Int.toNat_natCast] at hr
  have e : madeCells (Value.int .u8 0).cells (n * 1) = Array.replicate n (Value.int .u8 0) := by
    apply Array.ext
    · simp [size_madeCells]
    · intro i h1 h2
      simp [madeCells, Value.cells, Nat.mod_one]
  rw [e] at hr
  exact hr
theorem own_room0 (w : World) (n : Nat) (hn : n ≤ 1000000) : (w.alloc (.cells (Array.replicate n (.int .u8 0)) 5)).ownsRow w.heap.size 5 1 (.slice (some ⟨w.heap.size, 0, none⟩) 0 n) 0 (vals []) :=
  ⟨rfl, .inr ⟨w.heap.size, n, _, rfl, Nat.le_refl _, heap_alloc_new w _, Nat.zero_le _, by unfold maxLen; omega, by simp, rfl⟩⟩
/-- The bytes of the first numbers. -/
def putTo (p : Pt) : Nat → List UInt8
  | 0 => []
  | 1 => leB 1 p.1.toNat
  | 2 => leB 1 p.1.toNat ++ leB 3 p.2.1
  | 3 => leB 1 p.1.toNat ++ leB 3 p.2.1 ++ leB 4 p.2.2.1
  | 4 => leB 1 p.1.toNat ++ leB 3 p.2.1 ++ leB 4 p.2.2.1 ++ leB 4 p.2.2.2.1
  | _ => bytesP p
/-- How many bytes the first numbers have. -/
def stP : Nat → Nat
  | 0 => 0
  | 1 => 1
  | 2 => 4
  | 3 => 8
  | 4 => 12
  | _ => 16
set_option maxHeartbeats 1000000 in
theorem put_any (p : Pt) (hw : WfP p) (hroom : (0 ≤ p.1 ∧ p.1 < 256) ∧ p.2.1 < 16777216) (w : World) (hz : Szs w) : Calls Tryd.prog 53 #[ptV p] w (OwnV 16 (bytesP p) w) := by
  obtain ⟨a, b, c, d, e⟩ := p
  obtain ⟨_, _, h4, h5, h6⟩ := hw
  obtain ⟨⟨h1, h2⟩, h3⟩ := hroom
  dsimp only at h1 h2 h3 h4 h5 h6
  obtain ⟨A, rfl⟩ := Int.eq_ofNat_of_zero_le h1
  have i1 : (0 : Int) ≤ (b : Int) := by omega
  have i2 : (b : Int) ≤ 4294967295 := by omega
  have i3 : (0 : Int) ≤ (c : Int) := by omega
  have i4 : (c : Int) ≤ 4294967295 := by omega
  have i5 : (0 : Int) ≤ (d : Int) := by omega
  have i6 : (d : Int) ≤ 4294967295 := by omega
  have i7 : (0 : Int) ≤ (e : Int) := by omega
  have i8 : (e : Int) ≤ 4294967295 := by omega
  have hmk : ∀ W : World, (Instr.makeSlice 28 (.int .i64 0) (.int .i64 16)).run Tryd.prog W = _ := make_room 16 (by omega)
  have HZ := Lib.hid hz; clear hz
  obtain ⟨g, hg⟩ : ∃ g, w.heap.size = g := ⟨_, rfl⟩
  have HG := Lib.hid hg
  have hz3 := HZ.out.2
  obtain ⟨z0, z1, z2, z3, z4⟩ := hz3
  have y0 : ∀ o1 o2 o3 : Obj, (((w.alloc o1).alloc o2).alloc o3).cell? ⟨0, 0, none⟩ = some (.int .i64 1) := fun o1 o2 o3 => (HZ.out.step (below_alloc3' w o1 o2 o3)).2.1
  have y1 : ∀ o1 o2 o3 : Obj, (((w.alloc o1).alloc o2).alloc o3).cell? ⟨0, 1, none⟩ = some (.int .i64 3) := fun o1 o2 o3 => (HZ.out.step (below_alloc3' w o1 o2 o3)).2.2.1
  have y2 : ∀ o1 o2 o3 : Obj, (((w.alloc o1).alloc o2).alloc o3).cell? ⟨0, 2, none⟩ = some (.int .i64 4) := fun o1 o2 o3 => (HZ.out.step (below_alloc3' w o1 o2 o3)).2.2.2.1
  have y3 : ∀ o1 o2 o3 : Obj, (((w.alloc o1).alloc o2).alloc o3).cell? ⟨0, 3, none⟩ = some (.int .i64 4) := fun o1 o2 o3 => (HZ.out.step (below_alloc3' w o1 o2 o3)).2.2.2.2.1
  have y4 : ∀ o1 o2 o3 : Obj, (((w.alloc o1).alloc o2).alloc o3).cell? ⟨0, 4, none⟩ = some (.int .i64 4) := fun o1 o2 o3 => (HZ.out.step (below_alloc3' w o1 o2 o3)).2.2.2.2.2
  clear z0 z1 z2 z3 z4
  go_enter Tryd.func53, Tryd.ntmps53
  go_wp2_with fail
  clear y0 y1 y2 y3 y4
  go_loopw [4, 26] (fun v i wr => ∃ j : Nat, j ≤ 5 ∧ i = .int .i64 j ∧ wr.ownsRow (g + 2) 5 1 v (stP j) (vals (putTo (A, b, c, d, e) j)) ∧ Below g w wr ∧ Blk wr (g + 1) 79 #[.int .i64 (A : Int), .int .i64 (b : Int), .int .i64 (c : Int), .int .i64 (d : Int), .int .i64 (e : Int)] ∧ g + 3 ≤ wr.heap.size)
    (fun _ i _ => 5 - (intOf i).toNat)
  case atStart =>
    have hz2 : ((w.alloc (Obj.cells #[Value.int IntKind.i64 (A : Int), Value.int IntKind.u32 (b : Int), Value.int IntKind.u32 (c : Int), Value.int IntKind.u32 (d : Int), Value.int IntKind.u32 (e : Int)] 42)).alloc (Obj.cells #[Value.int IntKind.i64 (A : Int), Value.int IntKind.i64 (b : Int), Value.int IntKind.i64 (c : Int), Value.int IntKind.i64 (d : Int), Value.int IntKind.i64 (e : Int)] 79)).heap.size = g + 2 := by simp [hg]
    have hz1 : (w.alloc (Obj.cells #[Value.int IntKind.i64 (A : Int), Value.int IntKind.u32 (b : Int), Value.int IntKind.u32 (c : Int), Value.int IntKind.u32 (d : Int), Value.int IntKind.u32 (e : Int)] 42)).heap.size = g + 1 := by simp [hg]
    refine ⟨0, by omega, rfl, ?_, ?_, ?_, ?_⟩
    · have := own_room0 ((w.alloc (Obj.cells #[Value.int IntKind.i64 (A : Int), Value.int IntKind.u32 (b : Int), Value.int IntKind.u32 (c : Int), Value.int IntKind.u32 (d : Int), Value.int IntKind.u32 (e : Int)] 42)).alloc (Obj.cells #[Value.int IntKind.i64 (A : Int), Value.int IntKind.i64 (b : Int), Value.int IntKind.i64 (c : Int), Value.int IntKind.i64 (d : Int), Value.int IntKind.i64 (e : Int)] 79)) 16 (by omega)
      rw [hz2] at this
      exact this
    · have := below_alloc3' w (Obj.cells #[Value.int IntKind.i64 (A : Int), Value.int IntKind.u32 (b : Int), Value.int IntKind.u32 (c : Int), Value.int IntKind.u32 (d : Int), Value.int IntKind.u32 (e : Int)] 42) (Obj.cells #[Value.int IntKind.i64 (A : Int), Value.int IntKind.i64 (b : Int), Value.int IntKind.i64 (c : Int), Value.int IntKind.i64 (d : Int), Value.int IntKind.i64 (e : Int)] 79) (Obj.cells (Array.replicate 16 (Value.int IntKind.u8 0)) 5)
      rw [hg] at this
      exact this
    · have := (Blk.new (w.alloc (Obj.cells #[Value.int IntKind.i64 (A : Int), Value.int IntKind.u32 (b : Int), Value.int IntKind.u32 (c : Int), Value.int IntKind.u32 (d : Int), Value.int IntKind.u32 (e : Int)] 42)) 79 #[Value.int IntKind.i64 (A : Int), Value.int IntKind.i64 (b : Int), Value.int IntKind.i64 (c : Int), Value.int IntKind.i64 (d : Int), Value.int IntKind.i64 (e : Int)]).alloc (Obj.cells (Array.replicate 16 (Value.int IntKind.u8 0)) 5)
      rw [hz1] at this
      exact this
    · simp [hg]
  case round =>
    obtain ⟨j, hj, rfl, ho, hb, hn, hs⟩ := hrel
    have HO := Lib.hid ho; clear ho
    have HL := Lib.hid hb; clear hb
    have HN := Lib.hid hn; clear hn
    have HS := Lib.hid hs; clear hs
    obtain ⟨v, hv⟩ : ∃ v : Value, u4 = v := ⟨_, rfl⟩
    rw [hv] at HO ⊢
    clear hv
    have hcs : j = 0 ∨ j = 1 ∨ j = 2 ∨ j = 3 ∨ j = 4 ∨ j = 5 := by omega
    rcases hcs with rfl | rfl | rfl | rfl | rfl | rfl
    · have hn : wr.cell? ⟨g + 1, 0, none⟩ = some (.int .i64 ((A : Nat) : Int)) := HN.out.cell 0
      have hidx := szIdx0 wr
      have hput : ∀ (W : World), Calls Tryd.prog 40 #[.int .i64 (A : Nat), .int .i64 1] W _ := fun W => put_ok A 1 (by omega) (by omega) (by omega) W
      have HP := Lib.hid (hput wr); clear hput
      go_wp2_with fail
      refine HP.out.mono ?_
      rintro ev w1 ⟨rfl, hh, b1, s1⟩
      have HB1 := Lib.hid (bsl_of_holds (cap := 1) (leB_length 1 A) (Nat.le_refl _) (by unfold maxLen; omega) s1 hh)
      have HO1 := Lib.hid (own_below HO.out b1)
      have hsz1 : wr.heap.size ≤ w1.heap.size := b1.size
      have HS1 := Lib.hid hsz1; clear hsz1
      have HL1 := Lib.hid (HL.out.trans (b1.mono (by have := HS.out; omega)))
      have HN1 := Lib.hid (HN.out.below b1 HN.out.lt)
      clear hh s1 b1
      go_wp2_with (at_builtin
                   refine wpList_append_bsl rfl (.tmp 38) (.tmp 39) rfl (g + 2) v 0 _ rfl HO1.out w1.heap.size (some ⟨wr.heap.size + 1, 0, none⟩) 1 1 (leB 1 A) rfl HB1.out (by omega) (by have := HS.out; have := HS1.out; omega) ?_
                   intro v2 w2 h2 hgr2
                   have HO2 := Lib.hid h2; clear h2
                   have HGR := Lib.hid hgr2; clear hgr2)
      go_roundw
      case rel =>
        have hne : ∀ r, v.ownBlock = some r → g + 2 ≤ r := fun r hr => (HO1.out.lt r hr).1
        refine ⟨1, by omega, by first | rfl | go_num, ?_, ?_, ?_, ?_⟩
        · have := HO2.out; simpa [putTo, stP, bytesP] using this
        · exact HL1.out.grown HGR.out (by have := HS.out; have := HS1.out; omega) (fun r hr => by have := hne r hr; omega)
        · exact HN1.out.grown HGR.out (fun er => by have := hne (g + 1) er.symm; omega)
        · have := HGR.out.size; have := HS1.out; have := HS.out; omega
      case measure => simp [intOf]
    · have hn : wr.cell? ⟨g + 1, 1, none⟩ = some (.int .i64 ((b : Nat) : Int)) := HN.out.cell 1
      have hidx := szIdx1 wr
      have hput : ∀ (W : World), Calls Tryd.prog 40 #[.int .i64 (b : Nat), .int .i64 3] W _ := fun W => put_ok b 3 (by omega) (by omega) (by omega) W
      have HP := Lib.hid (hput wr); clear hput
      go_wp2_with fail
      refine HP.out.mono ?_
      rintro ev w1 ⟨rfl, hh, b1, s1⟩
      have HB1 := Lib.hid (bsl_of_holds (cap := 3) (leB_length 3 b) (Nat.le_refl _) (by unfold maxLen; omega) s1 hh)
      have HO1 := Lib.hid (own_below HO.out b1)
      have hsz1 : wr.heap.size ≤ w1.heap.size := b1.size
      have HS1 := Lib.hid hsz1; clear hsz1
      have HL1 := Lib.hid (HL.out.trans (b1.mono (by have := HS.out; omega)))
      have HN1 := Lib.hid (HN.out.below b1 HN.out.lt)
      clear hh s1 b1
      go_wp2_with (at_builtin
                   refine wpList_append_bsl rfl (.tmp 38) (.tmp 39) rfl (g + 2) v 1 _ rfl HO1.out w1.heap.size (some ⟨wr.heap.size + 1, 0, none⟩) 3 3 (leB 3 b) rfl HB1.out (by omega) (by have := HS.out; have := HS1.out; omega) ?_
                   intro v2 w2 h2 hgr2
                   have HO2 := Lib.hid h2; clear h2
                   have HGR := Lib.hid hgr2; clear hgr2)
      go_roundw
      case rel =>
        have hne : ∀ r, v.ownBlock = some r → g + 2 ≤ r := fun r hr => (HO1.out.lt r hr).1
        refine ⟨2, by omega, by first | rfl | go_num, ?_, ?_, ?_, ?_⟩
        · have := HO2.out; simpa [putTo, stP, bytesP] using this
        · exact HL1.out.grown HGR.out (by have := HS.out; have := HS1.out; omega) (fun r hr => by have := hne r hr; omega)
        · exact HN1.out.grown HGR.out (fun er => by have := hne (g + 1) er.symm; omega)
        · have := HGR.out.size; have := HS1.out; have := HS.out; omega
      case measure => simp [intOf]
    · have hn : wr.cell? ⟨g + 1, 2, none⟩ = some (.int .i64 ((c : Nat) : Int)) := HN.out.cell 2
      have hidx := szIdx2 wr
      have hput : ∀ (W : World), Calls Tryd.prog 40 #[.int .i64 (c : Nat), .int .i64 4] W _ := fun W => put_ok c 4 (by omega) (by omega) (by omega) W
      have HP := Lib.hid (hput wr); clear hput
      go_wp2_with fail
      refine HP.out.mono ?_
      rintro ev w1 ⟨rfl, hh, b1, s1⟩
      have HB1 := Lib.hid (bsl_of_holds (cap := 4) (leB_length 4 c) (Nat.le_refl _) (by unfold maxLen; omega) s1 hh)
      have HO1 := Lib.hid (own_below HO.out b1)
      have hsz1 : wr.heap.size ≤ w1.heap.size := b1.size
      have HS1 := Lib.hid hsz1; clear hsz1
      have HL1 := Lib.hid (HL.out.trans (b1.mono (by have := HS.out; omega)))
      have HN1 := Lib.hid (HN.out.below b1 HN.out.lt)
      clear hh s1 b1
      go_wp2_with (at_builtin
                   refine wpList_append_bsl rfl (.tmp 38) (.tmp 39) rfl (g + 2) v 4 _ rfl HO1.out w1.heap.size (some ⟨wr.heap.size + 1, 0, none⟩) 4 4 (leB 4 c) rfl HB1.out (by omega) (by have := HS.out; have := HS1.out; omega) ?_
                   intro v2 w2 h2 hgr2
                   have HO2 := Lib.hid h2; clear h2
                   have HGR := Lib.hid hgr2; clear hgr2)
      go_roundw
      case rel =>
        have hne : ∀ r, v.ownBlock = some r → g + 2 ≤ r := fun r hr => (HO1.out.lt r hr).1
        refine ⟨3, by omega, by first | rfl | go_num, ?_, ?_, ?_, ?_⟩
        · have := HO2.out; simpa [putTo, stP, bytesP] using this
        · exact HL1.out.grown HGR.out (by have := HS.out; have := HS1.out; omega) (fun r hr => by have := hne r hr; omega)
        · exact HN1.out.grown HGR.out (fun er => by have := hne (g + 1) er.symm; omega)
        · have := HGR.out.size; have := HS1.out; have := HS.out; omega
      case measure => simp [intOf]
    · have hn : wr.cell? ⟨g + 1, 3, none⟩ = some (.int .i64 ((d : Nat) : Int)) := HN.out.cell 3
      have hidx := szIdx3 wr
      have hput : ∀ (W : World), Calls Tryd.prog 40 #[.int .i64 (d : Nat), .int .i64 4] W _ := fun W => put_ok d 4 (by omega) (by omega) (by omega) W
      have HP := Lib.hid (hput wr); clear hput
      go_wp2_with fail
      refine HP.out.mono ?_
      rintro ev w1 ⟨rfl, hh, b1, s1⟩
      have HB1 := Lib.hid (bsl_of_holds (cap := 4) (leB_length 4 d) (Nat.le_refl _) (by unfold maxLen; omega) s1 hh)
      have HO1 := Lib.hid (own_below HO.out b1)
      have hsz1 : wr.heap.size ≤ w1.heap.size := b1.size
      have HS1 := Lib.hid hsz1; clear hsz1
      have HL1 := Lib.hid (HL.out.trans (b1.mono (by have := HS.out; omega)))
      have HN1 := Lib.hid (HN.out.below b1 HN.out.lt)
      clear hh s1 b1
      go_wp2_with (at_builtin
                   refine wpList_append_bsl rfl (.tmp 38) (.tmp 39) rfl (g + 2) v 8 _ rfl HO1.out w1.heap.size (some ⟨wr.heap.size + 1, 0, none⟩) 4 4 (leB 4 d) rfl HB1.out (by omega) (by have := HS.out; have := HS1.out; omega) ?_
                   intro v2 w2 h2 hgr2
                   have HO2 := Lib.hid h2; clear h2
                   have HGR := Lib.hid hgr2; clear hgr2)
      go_roundw
      case rel =>
        have hne : ∀ r, v.ownBlock = some r → g + 2 ≤ r := fun r hr => (HO1.out.lt r hr).1
        refine ⟨4, by omega, by first | rfl | go_num, ?_, ?_, ?_, ?_⟩
        · have := HO2.out; simpa [putTo, stP, bytesP] using this
        · exact HL1.out.grown HGR.out (by have := HS.out; have := HS1.out; omega) (fun r hr => by have := hne r hr; omega)
        · exact HN1.out.grown HGR.out (fun er => by have := hne (g + 1) er.symm; omega)
        · have := HGR.out.size; have := HS1.out; have := HS.out; omega
      case measure => simp [intOf]
    · have hn : wr.cell? ⟨g + 1, 4, none⟩ = some (.int .i64 ((e : Nat) : Int)) := HN.out.cell 4
      have hidx := szIdx4 wr
      have hput : ∀ (W : World), Calls Tryd.prog 40 #[.int .i64 (e : Nat), .int .i64 4] W _ := fun W => put_ok e 4 (by omega) (by omega) (by omega) W
      have HP := Lib.hid (hput wr); clear hput
      go_wp2_with fail
      refine HP.out.mono ?_
      rintro ev w1 ⟨rfl, hh, b1, s1⟩
      have HB1 := Lib.hid (bsl_of_holds (cap := 4) (leB_length 4 e) (Nat.le_refl _) (by unfold maxLen; omega) s1 hh)
      have HO1 := Lib.hid (own_below HO.out b1)
      have hsz1 : wr.heap.size ≤ w1.heap.size := b1.size
      have HS1 := Lib.hid hsz1; clear hsz1
      have HL1 := Lib.hid (HL.out.trans (b1.mono (by have := HS.out; omega)))
      have HN1 := Lib.hid (HN.out.below b1 HN.out.lt)
      clear hh s1 b1
      go_wp2_with (at_builtin
                   refine wpList_append_bsl rfl (.tmp 38) (.tmp 39) rfl (g + 2) v 12 _ rfl HO1.out w1.heap.size (some ⟨wr.heap.size + 1, 0, none⟩) 4 4 (leB 4 e) rfl HB1.out (by omega) (by have := HS.out; have := HS1.out; omega) ?_
                   intro v2 w2 h2 hgr2
                   have HO2 := Lib.hid h2; clear h2
                   have HGR := Lib.hid hgr2; clear hgr2)
      go_roundw
      case rel =>
        have hne : ∀ r, v.ownBlock = some r → g + 2 ≤ r := fun r hr => (HO1.out.lt r hr).1
        refine ⟨5, by omega, by first | rfl | go_num, ?_, ?_, ?_, ?_⟩
        · have := HO2.out; simpa [putTo, stP, bytesP] using this
        · exact HL1.out.grown HGR.out (by have := HS.out; have := HS1.out; omega) (fun r hr => by have := hne r hr; omega)
        · exact HN1.out.grown HGR.out (fun er => by have := hne (g + 1) er.symm; omega)
        · have := HGR.out.size; have := HS1.out; have := HS.out; omega
      case measure => simp [intOf]
    · go_wp2_with fail
      go_ret
      have := HO.out
      refine ⟨_, rfl, own_mono this (by have := HG.out; omega), ?_⟩
      rw [HG.out]
      exact HL.out
end Go.Proofs.YtennhempdnpobaaDoor
