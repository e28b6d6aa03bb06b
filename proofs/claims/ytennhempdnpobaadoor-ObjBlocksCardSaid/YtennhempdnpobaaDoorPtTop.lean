/-
  ptr.Check, ptr.Write and ptr.Read, whatever they are handed; nothing that was there is written.
-/
import Derived.Test.YtennhempdnpobaaDoorPtPut
import Derived.Test.YtennhempdnpobaaDoorPtGet
import Derived.Test.YtennhempdnpobaaDoorPtChk
namespace Go.Proofs.YtennhempdnpobaaDoor
open Go.RowKit Go.Shelf
set_option maxRecDepth 100000

/-- A list of the call's own, and an error's number. -/
def OutB (S : List UInt8) (c : Int) (w : World) (e : Ending) (w' : World) : Prop := ∃ v, e = .returned (.tuple #[v, .int .i64 c]) ∧ w'.ownsRow w.heap.size 5 1 v S.length (vals S) ∧ Below w.heap.size w w'
theorem outB_no {w w' : World} {c : Int} {e : Ending} (he : e = .returned (.tuple #[.slice none 0 0, .int .i64 c])) (hb : Below w.heap.size w w') : OutB [] c w e w' := ⟨_, he, own_nil _ _, hb⟩
/-- A pointer, and an error's number. -/
def OutP (p : Pt) (c : Int) (w : World) (e : Ending) (w' : World) : Prop := e = .returned (.tuple #[ptV p, .int .i64 c]) ∧ Below w.heap.size w w'
/-- What Write answers. -/
def pwriteO (p : Pt) : List UInt8 × Int := if MayP p then (bytesP p, 0) else ([], 8)
/-- What Read answers. -/
def preadO (s : List UInt8) : Pt × Int := if s.length = 16 then (if MayP (getP s) then (getP s, 0) else (p0, 8)) else (p0, 3)

theorem Write_any (p : Pt) (hw : WfP p) (w : World) (hz : Szs w) : Calls Tryd.prog 41 #[ptV p] w (OutB (pwriteO p).1 (pwriteO p).2 w) := by
  have hm := mayBe_any p (w.alloc (.cells (ptC p).toArray 42))
  have hb1 : Below w.heap.size w (w.alloc (.cells (ptC p).toArray 42)) := (Below.refl _ w).alloc (Nat.le_refl _) _
  have HB := Lib.hid hb1; clear hb1
  have HZ := Lib.hid hz; clear hz
  have HW := Lib.hid hw; clear hw
  have hk : Blk (w.alloc (.cells (ptC p).toArray 42)) w.heap.size 42 (ptC p).toArray := Blk.new w _ _
  have HK := Lib.hid hk; clear hk
  rw [pwriteO]
  by_cases h : MayP p
  · rw [if_pos h]
    rw [decide_eq_true h] at hm
    have HR := Lib.hid h.room
    clear h
    obtain ⟨a, b, c, d, e⟩ := p
    have HM := Lib.hid hm; clear hm
    go_enter Tryd.func41, Tryd.ntmps41
    go_wp2_with (first
      | (go_at_call 33
         refine HM.out.mono ?_
         rintro ev w1 ⟨rfl, b1⟩
         have HB1 := Lib.hid (HB.out.trans (b1.mono (by simp [ptC])))
         obtain ⟨c0, c1, c2, c3, c4⟩ := (HK.out.below b1 HK.out.lt).five
         have HP := Lib.hid (put_any (a, b, c, d, e) HW.out HR.out w1 (HZ.out.step HB1.out))
         clear b1)
      | (go_at_call 53
         refine HP.out.mono ?_
         rintro ev w2 ⟨v2, rfl, o2, b2⟩
         have HO2 := Lib.hid (own_mono o2 HB1.out.size)
         have HB2 := Lib.hid (HB1.out.trans (b2.mono HB1.out.size))
         clear b2 o2))
    go_ret2
    refine ⟨v2, rfl, ?_, HB2.out⟩
    rw [bytesP_length]
    exact HO2.out
  · rw [if_neg h]
    rw [decide_eq_false h] at hm
    obtain ⟨a, b, c, d, e⟩ := p
    have HM := Lib.hid hm; clear hm
    go_enter Tryd.func41, Tryd.ntmps41
    go_wp2_with (go_at_call 33; refine HM.out.mono ?_; rintro ev w1 ⟨rfl, b1⟩; have HB1 := Lib.hid (HB.out.trans (b1.mono (by simp [ptC]))); clear b1)
    refine bodyPost_ret (v := .tuple #[.slice none 0 0, .int .i64 8]) (by simp [results, Tryd.f41, go_sem]) rfl ?_
    exact outB_no rfl HB1.out

theorem Read_any (a : Option Addr) (len cap : Nat) (s : List UInt8) (w : World) (hB : Bsl w w.heap.size a len cap s) (hz : Szs w) : Calls Tryd.prog 19 #[.slice a len cap] w (OutP (preadO s).1 (preadO s).2 w) := by
  have hl := hB.1
  rw [preadO]
  have hk : Blk (w.alloc (.cells #[.int .i64 0, .int .u32 0, .int .u32 0, .int .u32 0, .int .u32 0] 42)) w.heap.size 42 #[.int .i64 0, .int .u32 0, .int .u32 0, .int .u32 0, .int .u32 0] := Blk.new w _ _
  have hb1 : Below w.heap.size w (w.alloc (.cells #[.int .i64 0, .int .u32 0, .int .u32 0, .int .u32 0, .int .u32 0] 42)) := (Below.refl _ w).alloc (Nat.le_refl _) _
  have HK := Lib.hid hk; clear hk
  have HB1 := Lib.hid hb1; clear hb1
  have i0 : (0 : Int) ≤ (len : Int) := by omega
  have i1 : (len : Int) ≤ 9223372036854775807 := by have h1 := hB.2.1; have h2 := hB.2.2.1; unfold maxLen at h2; omega
  by_cases h16 : s.length = 16
  · rw [if_pos h16]
    obtain rfl : len = 16 := by omega
    have hb2 : Bsl (w.alloc (.cells #[.int .i64 0, .int .u32 0, .int .u32 0, .int .u32 0, .int .u32 0] 42)) (w.alloc (.cells #[.int .i64 0, .int .u32 0, .int .u32 0, .int .u32 0, .int .u32 0] 42)).heap.size a 16 cap s := hB.step HB1.out
    have HG := Lib.hid (get_any a cap s _ hb2 (hz.step HB1.out)); clear hb2
    have hm := fun w => mayBe_any (getP s) w
    obtain ⟨P, hP⟩ : ∃ P, getP s = P := ⟨_, rfl⟩
    rw [hP] at HG hm ⊢
    clear hP hl hz hB h16
    by_cases h : MayP P
    · rw [if_pos h]
      rw [decide_eq_true h] at hm
      clear h
      obtain ⟨a', b', c', d', e'⟩ := P
      have HM := Lib.hid hm; clear hm
      go_enter Tryd.func19, Tryd.ntmps19
      go_wp2_with (first
        | (go_at_call 32
           refine HG.out.mono ?_
           rintro ev w1 ⟨rfl, b1⟩
           have HB2 := Lib.hid (HB1.out.trans (b1.mono (by simp)))
           have HK2 := Lib.hid (HK.out.below b1 HK.out.lt)
           have HB3 := Lib.hid (HB2.out.alloc HB2.out.size (.cells #[.int .i64 a', .int .u32 (b' : Int), .int .u32 (c' : Int), .int .u32 (d' : Int), .int .u32 (e' : Int)] 42))
           have HK3 := Lib.hid (HK2.out.alloc (.cells #[.int .i64 a', .int .u32 (b' : Int), .int .u32 (c' : Int), .int .u32 (d' : Int), .int .u32 (e' : Int)] 42))
           have HP3 := Lib.hid (Blk.new w1 42 #[.int .i64 a', .int .u32 (b' : Int), .int .u32 (c' : Int), .int .u32 (d' : Int), .int .u32 (e' : Int)])
           clear b1)
        | (go_at_call 33
           refine (HM.out _).mono ?_
           rintro ev w2 ⟨rfl, b2⟩
           have HB4 := Lib.hid (HB3.out.trans (b2.mono HB3.out.size))
           have HK4 := Lib.hid (HK3.out.below b2 HK3.out.lt)
           obtain ⟨c0, c1, c2, c3, c4⟩ := (HP3.out.below b2 HP3.out.lt).five
           have d0 : w2.cell? ⟨w.heap.size, 0, none⟩ = some (.int .i64 0) := HK4.out.cell 0
           have d1 : w2.cell? ⟨w.heap.size, 1, none⟩ = some (.int .u32 0) := HK4.out.cell 1
           have d2 : w2.cell? ⟨w.heap.size, 2, none⟩ = some (.int .u32 0) := HK4.out.cell 2
           have d3 : w2.cell? ⟨w.heap.size, 3, none⟩ = some (.int .u32 0) := HK4.out.cell 3
           have d4 : w2.cell? ⟨w.heap.size, 4, none⟩ = some (.int .u32 0) := HK4.out.cell 4
           have fr : ∀ i, w2.frozen? ⟨w.heap.size, i, none⟩ = false := fun i => HK4.out.frozen i
           clear b2))
      obtain ⟨wf, hwf⟩ : ∃ wf, set5 w2 w.heap.size (.int .i64 a') (.int .u32 (b' : Int)) (.int .u32 (c' : Int)) (.int .u32 (d' : Int)) (.int .u32 (e' : Int)) = wf := ⟨_, rfl⟩
      have HXF := Lib.hid (HK4.out.set5 (.int .i64 a') (.int .u32 (b' : Int)) (.int .u32 (c' : Int)) (.int .u32 (d' : Int)) (.int .u32 (e' : Int)))
      have HBF := Lib.hid (below_set5 HB4.out (Nat.le_refl w.heap.size) (.int .i64 a') (.int .u32 (b' : Int)) (.int .u32 (c' : Int)) (.int .u32 (d' : Int)) (.int .u32 (e' : Int)))
      rw [hwf] at HXF HBF
      simp only [set5] at hwf
      rw [hwf]
      clear hwf d0 d1 d2 d3 d4 fr
      have e0 := HXF.out.cell 0
      have e1 := HXF.out.cell 1
      have e2 := HXF.out.cell 2
      have e3 := HXF.out.cell 3
      have e4 := HXF.out.cell 4
      exact bodyPost_ret (v := .tuple #[ptV (a', b', c', d', e'), .int .i64 0]) (by simp [results, Tryd.f19, go_sem, e0, e1, e2, e3, e4]) rfl ⟨rfl, HBF.out⟩
    · rw [if_neg h]
      rw [decide_eq_false h] at hm
      clear h
      obtain ⟨a', b', c', d', e'⟩ := P
      have HM := Lib.hid hm; clear hm
      go_enter Tryd.func19, Tryd.ntmps19
      go_wp2_with (first
        | (go_at_call 32
           refine HG.out.mono ?_
           rintro ev w1 ⟨rfl, b1⟩
           have HB2 := Lib.hid (HB1.out.trans (b1.mono (by simp)))
           have HK2 := Lib.hid (HK.out.below b1 HK.out.lt)
           have HB3 := Lib.hid (HB2.out.alloc HB2.out.size (.cells #[.int .i64 a', .int .u32 (b' : Int), .int .u32 (c' : Int), .int .u32 (d' : Int), .int .u32 (e' : Int)] 42))
           have HK3 := Lib.hid (HK2.out.alloc (.cells #[.int .i64 a', .int .u32 (b' : Int), .int .u32 (c' : Int), .int .u32 (d' : Int), .int .u32 (e' : Int)] 42))
           have HP3 := Lib.hid (Blk.new w1 42 #[.int .i64 a', .int .u32 (b' : Int), .int .u32 (c' : Int), .int .u32 (d' : Int), .int .u32 (e' : Int)])
           clear b1)
        | (go_at_call 33
           refine (HM.out _).mono ?_
           rintro ev w2 ⟨rfl, b2⟩
           have HB4 := Lib.hid (HB3.out.trans (b2.mono HB3.out.size))
           have HK4 := Lib.hid (HK3.out.below b2 HK3.out.lt)
           obtain ⟨c0, c1, c2, c3, c4⟩ := (HP3.out.below b2 HP3.out.lt).five
           have d0 : w2.cell? ⟨w.heap.size, 0, none⟩ = some (.int .i64 0) := HK4.out.cell 0
           have d1 : w2.cell? ⟨w.heap.size, 1, none⟩ = some (.int .u32 0) := HK4.out.cell 1
           have d2 : w2.cell? ⟨w.heap.size, 2, none⟩ = some (.int .u32 0) := HK4.out.cell 2
           have d3 : w2.cell? ⟨w.heap.size, 3, none⟩ = some (.int .u32 0) := HK4.out.cell 3
           have d4 : w2.cell? ⟨w.heap.size, 4, none⟩ = some (.int .u32 0) := HK4.out.cell 4
           have fr : ∀ i, w2.frozen? ⟨w.heap.size, i, none⟩ = false := fun i => HK4.out.frozen i
           clear b2))
      obtain ⟨wf, hwf⟩ : ∃ wf, set5 w2 w.heap.size (.int .i64 0) (.int .u32 0) (.int .u32 0) (.int .u32 0) (.int .u32 0) = wf := ⟨_, rfl⟩
      have HXF := Lib.hid (HK4.out.set5 (.int .i64 0) (.int .u32 0) (.int .u32 0) (.int .u32 0) (.int .u32 0))
      have HBF := Lib.hid (below_set5 HB4.out (Nat.le_refl w.heap.size) (.int .i64 0) (.int .u32 0) (.int .u32 0) (.int .u32 0) (.int .u32 0))
      rw [hwf] at HXF HBF
      simp only [set5] at hwf
      rw [hwf]
      clear hwf d0 d1 d2 d3 d4 fr
      have e0 := HXF.out.cell 0
      have e1 := HXF.out.cell 1
      have e2 := HXF.out.cell 2
      have e3 := HXF.out.cell 3
      have e4 := HXF.out.cell 4
      exact bodyPost_ret (v := .tuple #[ptV p0, .int .i64 8]) (by simp [results, Tryd.f19, go_sem, e0, e1, e2, e3, e4]) rfl ⟨rfl, HBF.out⟩
  · rw [if_neg h16]
    have hne : ¬ (len : Int) = 16 := by omega
    have d0 : (w.alloc (.cells #[.int .i64 0, .int .u32 0, .int .u32 0, .int .u32 0, .int .u32 0] 42)).cell? ⟨w.heap.size, 0, none⟩ = some (.int .i64 0) := HK.out.cell 0
    have d1 : (w.alloc (.cells #[.int .i64 0, .int .u32 0, .int .u32 0, .int .u32 0, .int .u32 0] 42)).cell? ⟨w.heap.size, 1, none⟩ = some (.int .u32 0) := HK.out.cell 1
    have d2 : (w.alloc (.cells #[.int .i64 0, .int .u32 0, .int .u32 0, .int .u32 0, .int .u32 0] 42)).cell? ⟨w.heap.size, 2, none⟩ = some (.int .u32 0) := HK.out.cell 2
    have d3 : (w.alloc (.cells #[.int .i64 0, .int .u32 0, .int .u32 0, .int .u32 0, .int .u32 0] 42)).cell? ⟨w.heap.size, 3, none⟩ = some (.int .u32 0) := HK.out.cell 3
    have d4 : (w.alloc (.cells #[.int .i64 0, .int .u32 0, .int .u32 0, .int .u32 0, .int .u32 0] 42)).cell? ⟨w.heap.size, 4, none⟩ = some (.int .u32 0) := HK.out.cell 4
    have fr : ∀ i, (w.alloc (.cells #[.int .i64 0, .int .u32 0, .int .u32 0, .int .u32 0, .int .u32 0] 42)).frozen? ⟨w.heap.size, i, none⟩ = false := fun i => HK.out.frozen i
    go_enter Tryd.func19, Tryd.ntmps19
    go_wp2_with fail
    exact bodyPost_ret (v := .tuple #[ptV p0, .int .i64 3]) (by simp [results, Tryd.f19, go_sem, d0, d1, d2, d3, d4]) rfl ⟨rfl, HB1.out⟩
end Go.Proofs.YtennhempdnpobaaDoor
