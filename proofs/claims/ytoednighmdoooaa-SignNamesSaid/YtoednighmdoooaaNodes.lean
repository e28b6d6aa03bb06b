/-
  Words for lists of nodes (Go's [][]byte): a row of one's own whose cells hold slices of sixteen bytes each; appends where there is room; slices.Clone, bytes.Equal.
-/
import Derived.Test.YtoednighmdoooaaChainTop
import Derived.Test.YtoednighmdoooaaSignMath
import Derived.Test.YtoednighmdoooaaMovB
namespace Go.Proofs.Ytoednighmdoooaa
open Go.RowKit Go.Shelf
set_option maxRecDepth 100000

theorem equal_any (a : Option Addr) (la ca : Nat) (s : List UInt8) (b : Option Addr) (lb cb : Nat) (t : List UInt8) (w : World) (hA : Bsl w w.heap.size a la ca s) (hB : Bsl w w.heap.size b lb cb t) :
    Calls Try.prog 20 #[.slice a la ca, .slice b lb cb] w fun e w' => e = .returned (.bool (decide (s = t))) ∧ w = w' := by
  have c1 := hA.conv
  have c2 := hB.conv
  have eq : ((strOf s).toList == (strOf t).toList) = decide (s = t) := by
    rw [strOf_toList, strOf_toList]
    by_cases h : s = t <;> simp [h]
  have HE := Lib.hid eq; clear eq hA hB
  go_enter Try.func20, Try.ntmps20
  go_wp2_with fail
  go_ret
  exact ⟨by rw [← HE.out]; rfl, rfl⟩

/-- A slice of sixteen bytes that lies at or behind block lo, and reads as x. -/
def At16 (w : World) (lo : Nat) (v : Value) (x : List UInt8) : Prop := ∃ b c, v = .slice (some ⟨b, 0, none⟩) 16 c ∧ lo ≤ b ∧ Bsl w w.heap.size (some ⟨b, 0, none⟩) 16 c x
theorem At16.step {w w' : World} {lo : Nat} {v : Value} {x : List UInt8} (h : At16 w lo v x) (hb : Below w.heap.size w w') : At16 w' lo v x := by
  obtain ⟨b, c, h1, h2, h3⟩ := h
  exact ⟨b, c, h1, h2, h3.step hb⟩
theorem Bsl.beside {w w' : World} {b off len cap g : Nat} {s : List UInt8} (h : Bsl w w.heap.size (some ⟨b, off, none⟩) len cap s) (hg : w.grownBy w' (some g)) (hne : b ≠ g) : Bsl w' w'.heap.size (some ⟨b, off, none⟩) len cap s := by
  obtain ⟨h1, h2, h3, h4, h5⟩ := h
  refine ⟨h1, h2, h3, h4, fun hl => ?_⟩
  obtain ⟨b', off', e, hlt, hc⟩ := h5 hl
  cases e
  refine ⟨b, off, rfl, Nat.lt_of_lt_of_le hlt hg.size, fun i hi => ?_⟩
  rw [← hc i hi]
  exact World.cell?_of_block (a := ⟨b, off + i, none⟩) (hg.block b hlt (fun e => hne (Option.some.inj e)))
theorem At16.beside {w w' : World} {lo g : Nat} {v : Value} {x : List UInt8} (h : At16 w lo v x) (hg : w.grownBy w' (some g)) (hl : g < lo) : At16 w' lo v x := by
  obtain ⟨b, c, h1, h2, h3⟩ := h
  exact ⟨b, c, h1, h2, h3.beside hg (by omega)⟩
theorem At16.one {w : World} {lo : Nat} {v : Value} {x : List UInt8} (h : At16 w lo v x) : v.oneCell' = true := by
  obtain ⟨b, c, rfl, _⟩ := h
  rfl
/-- Such slices, one behind the other. -/
def Nodes (w : World) (lo : Nat) (vs : List Value) (n : Nat) (f : Nat → List UInt8) : Prop := vs.length = n ∧ ∀ i, i < n → At16 w lo (vs.getD i undef) (f i)
section
variable {w w' : World} {lo n g : Nat} {vs : List Value} {f : Nat → List UInt8}
theorem nodes_nil (w : World) (lo : Nat) (f : Nat → List UInt8) : Nodes w lo [] 0 f := ⟨rfl, fun i h => by omega⟩
theorem Nodes.step (h : Nodes w lo vs n f) (hb : Below w.heap.size w w') : Nodes w' lo vs n f := ⟨h.1, fun i hi => (h.2 i hi).step hb⟩
theorem Nodes.beside (h : Nodes w lo vs n f) (hg : w.grownBy w' (some g)) (hl : g < lo) : Nodes w' lo vs n f := ⟨h.1, fun i hi => (h.2 i hi).beside hg hl⟩
theorem Nodes.snoc {v : Value} (h : Nodes w lo vs n f) (hv : At16 w lo v (f n)) : Nodes w lo (vs ++ [v]) (n + 1) f := by
  refine ⟨by simp [h.1], fun i hi => ?_⟩
  rcases Nat.lt_or_ge i n with h1 | h1
  · rw [List.getD_eq_getElem?_getD, List.getElem?_append_left (by rw [h.1]; exact h1), ← List.getD_eq_getElem?_getD]
    exact h.2 i h1
  · obtain rfl : i = n := by omega
    rw [List.getD_eq_getElem?_getD, List.getElem?_append_right (by rw [h.1]; exact Nat.le_refl _), h.1]
    simpa using hv
theorem Nodes.lower {lo' : Nat} (h : Nodes w lo vs n f) (hl : lo' ≤ lo) : Nodes w lo' vs n f := ⟨h.1, fun i hi => by
  obtain ⟨b, c, h1, h2, h3⟩ := h.2 i hi
  exact ⟨b, c, h1, by omega, h3⟩⟩
end
/-- A cell of a row of one's own. -/
theorem own_cell {w : World} {B g n cap : Nat} {e : TypeId} {xs : List Value} (h : w.ownsRow B e 1 (.slice (some ⟨g, 0, none⟩) n cap) n xs) (i : Nat) (hi : i < n) : w.cell? ⟨g, i, none⟩ = some (xs.getD i undef) := by
  obtain ⟨h1, ⟨h2, h3⟩ | ⟨g', cap', cur, h2, hb, hh, hnc, hcm, hsz, ht⟩⟩ := h
  · cases h2
  · cases h2
    have hl : i < xs.length := by rw [h1]; omega
    rw [cell_of_row w g i cur e (0, 0) hh, List.getD_eq_getElem?_getD, List.getElem?_eq_getElem hl, ← Array.getElem?_toList]
    have : cur.toList[i]? = xs[i]? := by rw [← ht, List.getElem?_take_of_lt (by omega)]
    rw [this, List.getElem?_eq_getElem hl]
    rfl
theorem own_lt {w : World} {B g n cap : Nat} {e : TypeId} {xs : List Value} (h : w.ownsRow B e 1 (.slice (some ⟨g, 0, none⟩) n cap) n xs) : B ≤ g ∧ g < w.heap.size := h.lt g rfl
theorem own_room {w : World} {B g n cap : Nat} {e : TypeId} {xs : List Value} (h : w.ownsRow B e 1 (.slice (some ⟨g, 0, none⟩) n cap) n xs) : n ≤ cap ∧ cap ≤ maxLen := by
  obtain ⟨h1, ⟨h2, h3⟩ | ⟨g', cap', cur, h2, hb, hh, hnc, hcm, hsz, ht⟩⟩ := h
  · cases h2
  · cases h2
    exact ⟨hnc, hcm⟩

theorem infoSl : (Try.prog.info? 22).map (fun i => (i.zero, i.size, i.bytes)) = some (some (.slice none 0 0), 1, 24) := by kernel_rfl
/-- The slice of one new cell, as append takes it. -/
theorem one_cell {w : World} {b : Nat} {t : TypeId} {u : Value} (hb : Blk w b t #[u]) : ∀ j v, ([u])[j]? = some v → w.cell? ((⟨b, 0, none⟩ : Addr).add j) = some v := by
  intro j v h
  rcases j with _ | j
  · obtain rfl : u = v := by simpa using h
    have e : (⟨b, 0, none⟩ : Addr).add 0 = ⟨b, 0, none⟩ := by simp [Addr.add]
    rw [e]
    exact hb.cell 0
  · simp at h
/-- An append of one slice to a row of the call's own that has room. -/
theorem wpList_append_node {w : World} {ops : Array Oper} {rest : List Oper} {o : Oper} {a : Act} {Q : Exit → Act → World → Prop} (hgd : o.guard = none) (s x : Operand)
    (ho : o.op = .call { callee := .builtin .append, args := #[s, x], argTypes := #[42, 42] })
    (base g n cap : Nat) (xs : List Value) (hs : a.eval s = .slice (some ⟨g, 0, none⟩) n cap) (hown : w.ownsRow base 22 1 (.slice (some ⟨g, 0, none⟩) n cap) n xs)
    (b : Nat) (u : Value) (hx : a.eval x = .slice (some ⟨b, 0, none⟩) 1 1) (hb : Blk w b 22 #[u]) (hu : u.oneCell' = true) (hcap : n + 1 ≤ cap)
    (h : ∀ w', w'.ownsRow base 22 1 (.slice (some ⟨g, 0, none⟩) (n + 1) cap) (n + 1) (xs ++ [u]) → w.grownBy w' (some g) → wpList Try.prog ops Q rest (a.put o.dst (.slice (some ⟨g, 0, none⟩) (n + 1) cap)) w') : wpList Try.prog ops Q (o :: rest) a w := by
  obtain ⟨i0, hi, hz0, hz1, hz2⟩ := info_parts infoSl
  exact wpList_append_fits w hgd s x 42 ho base 22 i0 1 Try.underlying42 hi hz1 g n cap xs hs hown ⟨b, 0, none⟩ 1 1 [u] hx (by simp) (one_cell hb) (fun v hv => by
    obtain rfl : v = u := by simpa using hv
    exact hu) hcap h
section
variable {ops : List Oper} {Q : Exit → Act → World → Prop} {md : Region.Mode} {i : Nat} {σ : List Nat} {o : Oper} {listed : Array Bool} {a : Act} {w : World}
/-- The same, at its own place in an order. -/
theorem wpS_append_node (hi : nthOp ops i = some o) (hr : Region.ready md ops.toArray listed = [i]) (hl : lastB md ops.toArray i = true) (hgd : o.guard = none) (s x : Operand)
    (ho : o.op = .call { callee := .builtin .append, args := #[s, x], argTypes := #[42, 42] })
    (base g n cap : Nat) (xs : List Value) (hs : a.eval s = .slice (some ⟨g, 0, none⟩) n cap) (hown : w.ownsRow base 22 1 (.slice (some ⟨g, 0, none⟩) n cap) n xs)
    (b : Nat) (u : Value) (hx : a.eval x = .slice (some ⟨b, 0, none⟩) 1 1) (hb : Blk w b 22 #[u]) (hu : u.oneCell' = true) (hcap : n + 1 ≤ cap)
    (h : ∀ w', w'.ownsRow base 22 1 (.slice (some ⟨g, 0, none⟩) (n + 1) cap) (n + 1) (xs ++ [u]) → w.grownBy w' (some g) → wpS Try.prog md ops Q σ (listed.setIfInBounds i true) (a.put o.dst (.slice (some ⟨g, 0, none⟩) (n + 1) cap)) w') : wpS Try.prog md ops Q (i :: σ) listed a w :=
  wpS_last hi hr hl fun K hK => by
    rw [if_pos (by simp [Region.wanted, hgd])]
    obtain ⟨i0, hi0, hz0, hz1, hz2⟩ := info_parts infoSl
    obtain ⟨w', hrun, h2, h3⟩ := run_append_fits (P := Try.prog) w base 42 o.type 22 i0 1 Try.underlying42 hi0 hz1 g n cap xs hown ⟨b, 0, none⟩ 1 1 [u] (by simp) (one_cell hb) (fun v hv => by
      obtain rfl : v = u := by simpa using hv
      exact hu) hcap
    unfold Oper.wp execOp
    simp only [ho, resolve, invoke, builtin, Sem.run_bind, Sem.run_pure, Result.andThen_ok, List.map_toArray, List.map_cons, List.map_nil, hs, hx, hrun]
    exact hK _ _ (h w' h2 h3)
end
/-- A region that draws its order, in a round, in an order of one's own. -/
theorem wpS_round {P : Program} {Q : Exit → Act → World → Prop} {l m : Nat} {ops : List Oper} {id : Nat} {a : Act} {w w1 : World} (σ : List Nat) (hm : P.follows .mixedOrders = true) (hnd : noDefer ops = true) (hlo : ¬ LetsOut Q) (hl : σ.length = ops.length) (hw : w.drew = w1)
    (h : wpS P .any ops Q σ (Array.replicate ops.length false) a w1) : (Code.region id ops.toArray true).wpIn (Fence.wide.inRound l) m P Q a w := by
  subst hw
  refine region_round hm hnd hlo (wpAny_of_mov _ _ _ _ ?_)
  unfold wpS at h
  rw [hl] at h
  simpa using h
end Go.Proofs.Ytoednighmdoooaa
