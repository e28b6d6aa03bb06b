/-
  The closure of dev.laid cuts a piece off the room and fills it.
-/
import Derived.Laws.CopyOwn
import Derived.Test.YtgpojnhhcobcbaaDisk
import Derived.Test.YtgpojnhhcobcbaaDiskFlat
namespace Go.Proofs.Ytgpojnhhcobcbaa
open Go.RowKit Go.Shelf
set_option maxRecDepth 100000

theorem dAtCopy {P : Program} {ops : Array Oper} {Q : Exit → Act → World → Prop} {a : Act} {w : World} {rest : List Oper} {d : Option Tmp} {ty : TypeId} {x : Array Operand} {y : Array TypeId} {pos : String} {af : Array Edge} (h : wpList P ops Q (⟨d, .call { callee := .builtin .copy, args := x, argTypes := y }, ty, pos, af, none⟩ :: rest) a w) : wpList P ops Q (⟨d, .call { callee := .builtin .copy, args := x, argTypes := y }, ty, pos, af, none⟩ :: rest) a w := h
theorem infoU1 : (Try.prog.info? 5).map (·.size) = some 1 := by kernel_rfl
/-- copy(dst, src) over a part of a row that is known whole; nothing else is written. -/
theorem wpList_copy_bsl {w : World} {ops : Array Oper} {rest : List Oper} {o : Oper} {a : Act} {Q : Exit → Act → World → Prop} (hgd : o.guard = none) (d s : Operand)
    (ho : o.op = .call { callee := .builtin .copy, args := #[d, s], argTypes := #[30, 30] })
    (g off n cap : Nat) (hd : a.eval d = .slice (some ⟨g, off, none⟩) n cap) (t : List UInt8) (hg : Blk w g 5 (ar t))
    (B : Nat) (A : Option Addr) (c : Nat) (news : List UInt8) (hs : a.eval s = .slice A n c) (hb : Bsl w B A n c news) (hfit : 0 < n → off + n ≤ t.length)
    (h : ∀ w', (0 < n → Blk w' g 5 (ar (overL t off news))) → (n = 0 → w' = w) → w.grownBy w' (some g) → w'.heap.size = w.heap.size → wpList Try.prog ops Q rest (a.put o.dst (.int .i64 n)) w') : wpList Try.prog ops Q (o :: rest) a w := by
  obtain ⟨h1, h2, h3, h4, h5⟩ := hb
  rcases Nat.eq_zero_or_pos n with h0 | h0
  · subst h0
    refine wpList_copy_nothing hgd d s 30 30 ho 5 Try.underlying30 infoU1 _ _ 0 cap 0 c hd hs rfl ?_
    exact h w (fun hh => absurd hh (Nat.lt_irrefl _)) (fun _ => rfl) (World.grownBy.refl w _) rfl
  · obtain ⟨b, of, rfl, _, hc⟩ := h5 h0
    have hl : (vals news).length = n := by simp [vals, h1]
    refine wpList_copy_own hgd d s 30 30 ho 5 Try.underlying30 infoU1 g off n cap ⟨b, of, none⟩ n c hd hs (ar t) 5 hg (vals news) (by rw [hl]; simp) (fun j v hv => ?_) (by rw [hl, ar_size]; exact hfit h0) (fun v hv => ?_) ?_
    · obtain ⟨hj, rfl⟩ := vals_get hv
      have : (⟨b, of, none⟩ : Addr).add j = ⟨b, of + j, none⟩ := by unfold Addr.add; split <;> simp_all
      rw [this]
      exact hc j hj
    · obtain ⟨y, _, rfl⟩ := List.mem_map.1 hv
      rfl
    · have e : ((ar t).toList.take off ++ (vals news ++ (ar t).toList.drop (off + (vals news).length))).toArray = ar (overL t off news) := by
        rw [hl]
        simp [ar, overL, vals, h1]
      rw [e]
      have hx : (goInt (vals news).length) = .int .i64 n := by rw [hl]; rfl
      rw [hx]
      refine h _ (fun _ => Blk.setRow hg) (fun hh => by omega) ⟨rfl, rfl, rfl, by simp [World.setRow], fun i hi hne => setRow_other w g i _ (fun e => hne (by rw [e]))⟩ (by simp [World.setRow])
/-- room[:n:n]. -/
theorem cut_hm (W : World) (g o r n : Nat) (hn : n ≤ r) : (Instr.slice 30 (.slice (some ⟨g, o, none⟩) r r) none (some (.int .i64 (n : Int))) (some (.int .i64 (n : Int)))).run Try.prog W = .ok (.slice (some ⟨g, o, none⟩) n n) W := by
  rw [run_slice_hm W 30 _ _ _ (by kernel_rfl) .i64 .i64 _ _ (by omega) (by omega) (by omega)]
  have hz : (Go.sizeOf (Try.prog.elem 30)).run Try.prog W = .ok 1 W := by kernel_rfl
  rw [hz]
  simp [Result.andThen, sliced, Addr.add]
/-- room[n:]. -/
theorem cut_l (W : World) (g o r n : Nat) (hn : n ≤ r) : (Instr.slice 30 (.slice (some ⟨g, o, none⟩) r r) (some (.int .i64 (n : Int))) none none).run Try.prog W = .ok (.slice (some ⟨g, if r = n then o else o + n, none⟩) (r - n) (r - n)) W := by
  rw [run_slice_l W 30 _ _ _ (by kernel_rfl) .i64 _ (by omega) (by omega)]
  have hz : (Go.sizeOf (Try.prog.elem 30)).run Try.prog W = .ok 1 W := by kernel_rfl
  rw [hz]
  simp [Result.andThen, sliced, Addr.add]
  split <;> simp
/-- What the closure does: the piece it answers, the room that is left. -/
def CutPost (gv g o r n : Nat) (t s : List UInt8) (w : World) (e : Ending) (w' : World) : Prop :=
  e = .returned (.slice (some ⟨g, o, none⟩) n n) ∧ w'.heap.size = w.heap.size ∧
    (∃ o', Blk w' gv 30 #[.slice (some ⟨g, o', none⟩) (r - n) (r - n)] ∧ (0 < r - n → o' = o + n)) ∧
    Blk w' g 5 (ar (if n = 0 then t else overL t o s)) ∧ ∃ w1, w.grownBy w1 (some gv) ∧ w1.grownBy w' (some g)
theorem dCut_any (B : Nat) (A : Option Addr) (n c gv g o r : Nat) (t s : List UInt8) (w : World) (hA : Bsl w B A n c s) (hBv : B ≤ gv) (hne : gv ≠ g) (hv : Blk w gv 30 #[.slice (some ⟨g, o, none⟩) r r]) (hg : Blk w g 5 (ar t)) (hn : n ≤ r) (ho : 0 < r → o + r ≤ t.length) :
    Calls Try.prog 63 #[.slice A n c, .pointer (some ⟨gv, 0, none⟩)] w (CutPost gv g o r n t s w) := by
  have k1 := fun W => cut_hm W g o r n hn
  have k2 := fun W => cut_l W g o r n hn
  obtain ⟨o', ho'⟩ : ∃ o', (if r = n then o else o + n) = o' := ⟨_, rfl⟩
  rw [ho'] at k2
  have c0 := hv.cell 0
  have f0 := hv.frozen 0
  have i0 : (0 : Int) ≤ n := by omega
  obtain ⟨w1, hw1⟩ : ∃ w1, w.setCell ⟨gv, 0, none⟩ (.slice (some ⟨g, o', none⟩) (r - n) (r - n)) = w1 := ⟨_, rfl⟩
  have x1 : Blk w1 gv 30 #[.slice (some ⟨g, o', none⟩) (r - n) (r - n)] := by rw [← hw1]; exact hv.set_ 0 _
  have g1 : w.grownBy w1 (some gv) := by rw [← hw1]; exact only_setCell (World.grownBy.refl w _) (.inl rfl) _
  have y1 : Blk w1 g 5 (ar t) := hg.grown g1 (fun e => hne (Option.some.inj e).symm)
  have z1 : w1.heap.size = w.heap.size := by rw [← hw1]; simp [World.setCell]
  have hA1 : Bsl w1 B A n c s := hA.below (below_only (Below.refl B w) hBv g1 (by have := hv.lt; omega))
  have HX := Lib.hid x1
  have HG := Lib.hid g1
  have HY := Lib.hid y1
  have HZ := Lib.hid z1
  have HA := Lib.hid hA1
  have HW := Lib.hid hw1
  have HO := Lib.hid ho'
  have HT := Lib.hid ho
  clear hA hv hg x1 g1 y1 z1 hA1 hw1 ho' ho
  go_enter Try.func63, Try.ntmps63
  go_wp2_with (with_reducible refine dAtCopy ?_
               rw [HW.out]
               refine wpList_copy_bsl rfl (.tmp 15) (.tmp 16) rfl g o n n rfl t HY.out B A c s rfl HA.out (fun hh => by have := HT.out (by omega); omega) ?_
               intro w2 x2 e2 g2 z2
               have HX2 := Lib.hid (HX.out.grown g2 (fun e => hne (Option.some.inj e)))
               have HY2 := Lib.hid x2
               have HE2 := Lib.hid e2
               have HG2 := Lib.hid g2
               have HZ2 := Lib.hid z2
               clear x2 e2 g2 z2)
  go_ret
  refine ⟨rfl, by rw [HZ2.out, HZ.out], ⟨o', HX2.out, fun hh => ?_⟩, ?_, w1, HG.out, HG2.out⟩
  · rw [← HO.out, if_neg (by omega)]
  · split
    · rename_i h0
      rw [HE2.out h0]
      exact HY.out
    · rename_i h0
      exact HY2.out (by omega)
end Go.Proofs.Ytgpojnhhcobcbaa
