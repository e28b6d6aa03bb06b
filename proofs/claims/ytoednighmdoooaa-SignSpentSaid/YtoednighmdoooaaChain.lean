/-
  chain's values of all places, its public key of last values; Public, Sign, Recover, whatever they are handed.
-/
import Derived.Test.YtoednighmdoooaaMade
import Derived.Laws.CopyOwn
import Derived.OwnWalk
namespace Go.Proofs.Ytoednighmdoooaa
open Go.RowKit Go.Shelf
set_option maxRecDepth 100000

set_option maxHeartbeats 4000000 in
theorem values_any (a : Option Addr) (cap : Nat) (sd : List UInt8) (l : Nat) (hl : l < 8) (gn off cn : Nat) (ds : List Nat) (hd : ∀ k, k < 10 → ds.getD k 0 ≤ 15) (w : World) (hA : Bsl w w.heap.size a 16 cap sd) (hN : Nsl w w.heap.size (some ⟨gn, off, none⟩) 10 cn ds) :
    Calls Try.prog 45 #[.slice a 16 cap, .int .i64 l, .slice (some ⟨gn, off, none⟩) 10 cn] w fun e w' => ∃ v, e = .returned v ∧ w'.ownsRow w.heap.size 5 1 v 160 (vals (valsL sd l ds 10)) ∧ Below w.heap.size w w' := by
  have hz := zeroV
  have sl := sliceAtV
  have hmk : ∀ W : World, (Instr.makeSlice 22 (.int .i64 0) (.int .i64 160)).run Try.prog W = .ok (.slice (some ⟨W.heap.size, 0, none⟩) 0 160) (W.alloc (.cells (Array.replicate 160 (.int .u8 0)) 5)) := fun W => by kernel_rfl
  have hown : (w.alloc (.cells (Array.replicate 160 (.int .u8 0)) 5)).ownsRow w.heap.size 5 1 (.slice (some ⟨w.heap.size, 0, none⟩) 0 160) 0 (vals []) :=
    ⟨rfl, .inr ⟨w.heap.size, 160, _, rfl, Nat.le_refl _, heap_alloc_new w _, Nat.zero_le _, by unfold maxLen; omega, by kernel_rfl, rfl⟩⟩
  have HO := Lib.hid hown; clear hown
  have HB := Lib.hid ((Below.refl _ w).alloc (Nat.le_refl _) (.cells (Array.replicate 160 (.int .u8 0)) 5))
  obtain ⟨Z, hZ⟩ : ∃ Z : Array Value, Array.replicate 160 (.int .u8 0) = Z := ⟨_, rfl⟩
  rw [hZ] at HO HB
  simp only [hZ] at hmk
  clear hZ
  have HA := Lib.hid hA; clear hA
  have HN := Lib.hid hN; clear hN
  have HD := Lib.hid hd; clear hd
  have l0 : (0 : Int) ≤ l := by omega
  have l1 : (l : Int) < 8 := by omega
  go_enter Try.func45, Try.ntmps45
  go_wp2_with fail
  go_loopw [7, 14] (fun v i wr => ∃ k : Nat, k ≤ 10 ∧ i = .int .i64 k ∧ wr.ownsRow w.heap.size 5 1 v (16 * k) (vals (valsL sd l ds k)) ∧ Below w.heap.size w wr) (fun _ i _ => 10 - (intOf i).toNat)
  case atStart => exact ⟨0, by omega, rfl, HO.out, HB.out⟩
  case round =>
    obtain ⟨k, hk, rfl, ho, hb⟩ := hrel
    have k0 : (0 : Int) ≤ k := by omega
    by_cases hlt : k < 10
    · have k2 : (k : Int) < 10 := by omega
      have hc := (HN.out.below hb).cellD k hlt
      have h15 := HD.out k hlt
      have hs : valsL sd l ds (k + 1) = valsL sd l ds k ++ valL sd l k (ds.getD k 0) := rfl
      obtain ⟨d, hdd⟩ : ∃ d, ds.getD k 0 = d := ⟨_, rfl⟩
      rw [hdd] at hc h15 hs
      clear hdd
      have HS := Lib.hid hs; clear hs
      have d0 : (0 : Int) ≤ d := by omega
      have d1 : (d : Int) ≤ 15 := by omega
      have o1 := two_nsl wr l k
      obtain ⟨w3, hw3⟩ : ∃ w3, wr.alloc (.cells #[.int .i64 (l : Int), .int .i64 (k : Int)] 3) = w3 := ⟨_, rfl⟩
      have b3 : Below wr.heap.size wr w3 := by rw [← hw3]; exact (Below.refl _ wr).alloc (Nat.le_refl _) _
      have q1 := ((HA.out.below hb).more hb.size).step b3
      rw [hw3] at o1
      have hmd := made_any _ 16 _ _ _ 0 2 2 _ w3 q1 (by omega) o1 (by omega) (by omega) (fun i hi => by
        have : i = 0 ∨ i = 1 := by omega
        rcases this with rfl | rfl
        · show l < 256; omega
        · show k < 256; omega)
      have HM := Lib.hid hmd; clear hmd o1 q1
      have HO3 := Lib.hid (own_below ho b3); clear ho
      have HB3 := Lib.hid (hb.trans (b3.mono hb.size)); clear hb b3
      go_wp2_with fail
      clear hw3
      refine HM.out.mono ?_
      rintro e w4 ⟨rfl, b4⟩
      have HO4 := Lib.hid (own_below HO3.out b4)
      have HB4 := Lib.hid (HB3.out.trans (b4.mono HB3.out.size)); clear b4 HM HO3 HB3
      have hon := on_any l k 0 d hl hlt (by omega) (keyL (sd ++ u8s [l, k])) (keyL_length _) w4
      have HON := Lib.hid hon; clear hon
      go_wp2_with fail
      refine HON.out.mono ?_
      rintro e w5 ⟨rfl, b5⟩
      have ho5 := own_below HO4.out b5
      have HNE := Lib.hid (fun k e => Nat.ne_of_lt (ho5.lt k e).2)
      have HO5 := Lib.hid (ho5.alloc (.cells (ar zs) 72)); clear ho5
      have hb5 := (HB4.out.trans (b5.mono HB4.out.size))
      have HB5 := Lib.hid (hb5.alloc hb5.size (.cells (ar zs) 72)); clear b5 HON HO4 HB4
      have HX5 := Lib.hid (Blk.new w5 72 (ar zs))
      have HL := Lib.hid (onL_length l k 0 _ (keyL_length (sd ++ u8s [l, k])) d)
      obtain ⟨V, hV⟩ : ∃ V, onL l k 0 (keyL (sd ++ u8s [l, k])) d = V := ⟨_, rfl⟩
      have HV := Lib.hid (show valL sd l k d = V from hV)
      rw [hV] at HL ⊢
      clear hV
      have hsz5 := hb5.size
      clear hb5
      go_wp2_with (first
        | (with_reducible refine at_store ?_
           refine wpList_store_ar rfl (.tmp 10) (.tmp 27) rfl w5.heap.size _ zs rfl rfl HL.out HX5.out zs_length ?_
           intro w6 hx6 hg6
           have HO6 := Lib.hid (own_other HO5.out hg6 HNE.out)
           have HB6 := Lib.hid (HB5.out.grown hg6 HB5.out.size (fun k e => by injection e with e; omega)); clear hg6
           have HQ6 := Lib.hid (hx6.bsl HL.out (by omega)); clear hx6)
        | (at_builtin
           refine wpList_append_bsl rfl (.tmp 28) (.tmp 29) rfl w.heap.size _ (16 * k) _ rfl HO6.out _ (some ⟨w5.heap.size, 0, none⟩) 16 16 V rfl HQ6.out (by omega) HB6.out.size ?_
           intro v7 w7 hown7 hg7
           have HB7 := Lib.hid (app_below HB6.out HO6.out hg7 HB6.out.size); clear hg7
           have HO7 := Lib.hid hown7; clear hown7))
      go_roundw
      case rel => exact ⟨k + 1, by omega, by go_num, by rw [HS.out, HV.out]; exact HO7.out, HB7.out⟩
      case measure => simp [intOf]; omega
    · obtain rfl : k = 10 := by omega
      have HOr := Lib.hid ho; clear ho
      have HBr := Lib.hid hb; clear hb
      go_wp2_with fail
      go_ret
      exact ⟨_, rfl, HOr.out, HBr.out⟩

set_option maxHeartbeats 2000000 in
theorem public_any (l : Nat) (hl : l < 8) (a : Option Addr) (len cap : Nat) (s : List UInt8) (hlen : len ≤ 20000) (w : World) (hA : Bsl w w.heap.size a len cap s) :
    Calls Try.prog 49 #[.int .i64 l, .slice a len cap] w (NewL 16 (pubL l s) w) := by
  have hz := zeroV
  have sl := sliceAtV
  have l0 : (0 : Int) ≤ l := by omega
  have l1 : (l : Int) < 8 := by omega
  have o1 := one_nsl w l
  obtain ⟨w3, hw3⟩ : ∃ w3, w.alloc (.cells #[.int .i64 (l : Int)] 3) = w3 := ⟨_, rfl⟩
  have b3 : Below w.heap.size w w3 := by rw [← hw3]; exact (Below.refl _ w).alloc (Nat.le_refl _) _
  have q1 := hA.step b3
  rw [hw3] at o1
  have hmd := made_any _ _ _ _ _ 0 1 1 _ w3 q1 hlen o1 (by omega) (by omega) (fun i hi => by
    have : i = 0 := by omega
    subst this
    show l < 256; omega)
  have HM := Lib.hid hmd; clear hmd o1 q1 hA
  have HB3 := Lib.hid b3; clear b3
  go_enter Try.func49, Try.ntmps49
  go_wp2_with fail
  clear hw3
  refine HM.out.mono ?_
  rintro e w5 ⟨rfl, b5⟩
  have hb5 := HB3.out.trans (b5.mono HB3.out.size)
  have HB5 := Lib.hid (hb5.alloc hb5.size (.cells (ar zs) 72)); clear b5 HM
  have HX5 := Lib.hid (Blk.new w5 72 (ar zs))
  have hsz5 := hb5.size
  clear hb5
  obtain ⟨V, hV⟩ : ∃ V, keyL (s ++ u8s [l]) = V := ⟨_, rfl⟩
  have HV := Lib.hid (show pubL l s = V from hV)
  have HL := Lib.hid (show V.length = 16 by rw [← hV]; exact keyL_length _)
  rw [hV]
  clear hV
  go_wp2_with (with_reducible refine at_store ?_
               refine wpList_store_ar rfl (.tmp 5) (.tmp 9) rfl w5.heap.size _ zs rfl rfl HL.out HX5.out zs_length ?_
               intro w6 hx6 hg6
               have HB6 := Lib.hid (HB5.out.grown hg6 HB5.out.size (fun k e => by injection e with e; omega)); clear hg6
               have HQ6 := Lib.hid (hx6.bsl HL.out (by omega)); clear hx6)
  go_ret
  exact ⟨_, _, rfl, hsz5, by rw [HV.out]; exact HQ6.out, HB6.out⟩

theorem mul64_ten (w : World) : Calls Try.prog 70 #[.int .u64 1, .int .u64 10] w fun e w' => e = .returned (.tuple #[.int .u64 0, .int .u64 10]) ∧ w = w' := by
  go_enter Try.func70, Try.ntmps70
  go_wp2_with fail
  go_ret2
  exact ⟨rfl, rfl⟩
theorem mul_ten (w : World) : Calls Try.prog 60 #[.int .u64 1, .int .u64 10] w fun e w' => e = .returned (.tuple #[.int .u64 0, .int .u64 10]) ∧ w = w' := by
  go_enter Try.func60, Try.ntmps60
  go_wp2_with (go_at_call 70; refine (mul64_ten _).mono ?_; rintro e w' ⟨rfl, rfl⟩)
  go_ret2
  exact ⟨rfl, rfl⟩

/-- Ten cells, of which n are 15. -/
def tenR (n : Nat) : List Value := valsN (List.replicate n 15 ++ List.replicate (10 - n) 0)
theorem ten_splice (n k : Nat) (h : (n = 0 ∧ k = 1) ∨ (n = 1 ∧ k = 1) ∨ (n = 2 ∧ k = 2) ∨ (n = 4 ∧ k = 4) ∨ (n = 8 ∧ k = 2)) : splice (tenR n) n (valsN (List.replicate k 15)) = tenR (n + k) := by
  rcases h with ⟨rfl, rfl⟩ | ⟨rfl, rfl⟩ | ⟨rfl, rfl⟩ | ⟨rfl, rfl⟩ | ⟨rfl, rfl⟩ <;> rfl
theorem ten_length (n : Nat) (h : n ≤ 10) : (tenR n).length = 10 := by simp [tenR, valsN]; omega
theorem ten_get (n j : Nat) (h : j < n) : (tenR n)[j]? = some (.int .i64 15) := by
  simp [tenR, valsN, List.getElem?_append, h]
theorem fif_get {k j : Nat} {v : Value} (h : (valsN (List.replicate k 15))[j]? = some v) : j < k ∧ v = .int .i64 15 := by
  obtain ⟨hj, rfl⟩ := valsN_get h
  have : j < k := by simpa using hj
  exact ⟨this, by simp⟩
theorem fif_one (k : Nat) : ∀ v ∈ valsN (List.replicate k 15), v.oneCell' = true := by
  intro v hv
  obtain ⟨x, _, rfl⟩ := List.mem_map.1 hv
  rfl
theorem infoI1 : (Try.prog.info? 3).map (·.size) = some 1 := by kernel_rfl
theorem at_copy {P : Program} {ops : Array Oper} {Q : Exit → Act → World → Prop} {a : Act} {w : World} {rest : List Oper} {d : Option Tmp} {ty : TypeId} {x : Array Operand} {y : Array TypeId} {pos : String} {af : Array Edge} (h : wpList P ops Q (⟨d, .call { callee := .builtin .copy, args := x, argTypes := y }, ty, pos, af, none⟩ :: rest) a w) : wpList P ops Q (⟨d, .call { callee := .builtin .copy, args := x, argTypes := y }, ty, pos, af, none⟩ :: rest) a w := h
section
variable {ops : Array Oper} {Q : Exit → Act → World → Prop} {a : Act} {w w0 : World} {rest : List Oper} {o : Oper}
theorem wpList_copy_ten (hgd : o.guard = none) (d s : Operand) (ho : o.op = .call { callee := .builtin .copy, args := #[d, s], argTypes := #[66, 66] }) (g g5 : Nat)
    (hd : a.eval d = .slice (some ⟨g5, 0, none⟩) 10 10) (hs : a.eval s = .slice (some ⟨g, 0, none⟩) 1 1) (hx : Blk w g5 3 (tenR 0).toArray) (hN : w.cell? ⟨g, 0, none⟩ = some (.int .i64 15)) (hb : Below g5 w0 w)
    (h : ∀ w', Blk w' g5 3 (tenR 1).toArray → Below g5 w0 w' → wpList Try.prog ops Q rest (a.put o.dst (.int .i64 1)) w') : wpList Try.prog ops Q (o :: rest) a w := by
  refine wpList_copy_splice hgd d s 66 66 ho 3 Try.underlying66 infoI1 (some ⟨g5, 0, none⟩) (some ⟨g, 0, none⟩) 10 10 1 1 hd hs g5 0 (tenR 0) 3 hx (valsN (List.replicate 1 15)) rfl
         (fun _ => ⟨rfl, _, rfl, fun j v hv => ?_⟩) (by decide) (fif_one 1) g5 w0 hb (Nat.le_refl _) ?_
  · obtain ⟨hj, rfl⟩ := fif_get hv
    obtain rfl : j = 0 := by omega
    exact hN
  · intro w2 hx2 hb2
    refine h w2 ?_ hb2
    have := hx2.out
    rwa [ten_splice 0 1 (.inl ⟨rfl, rfl⟩)] at this
end
theorem step_copy_ten {ops : Array Oper} {o : Oper} {a : Act} {w w0 : World} {K : Act → World → Prop} {Q : Exit → Act → World → Prop} {E : Prop} (hgd : o.guard = none) (d s : Operand)
    (ho : o.op = .call { callee := .builtin .copy, args := #[d, s], argTypes := #[66, 66] }) (g5 n m k : Nat) (hm : n + m = 10) (hnk : (n = 1 ∧ k = 1) ∨ (n = 2 ∧ k = 2) ∨ (n = 4 ∧ k = 4) ∨ (n = 8 ∧ k = 2))
    (hd : a.eval d = .slice (some ⟨g5, n, none⟩) m m) (hs : a.eval s = .slice (some ⟨g5, 0, none⟩) n 10) (hk : k = Nat.min n m) (hx : Blk w g5 3 (tenR n).toArray) (hb : Below g5 w0 w)
    (h : ∀ w', Blk w' g5 3 (tenR (n + k)).toArray → Below g5 w0 w' → K (a.put o.dst (.int .i64 k)) w') :
    if Region.wanted o (yielded ops a.tmps) = true then Oper.wp Try.prog o a w K Q else E := by
  have hl : (valsN (List.replicate k 15)).length = k := by simp [valsN]
  refine step_copy_splice hgd d s 66 66 ho 3 Try.underlying66 infoI1 (some ⟨g5, n, none⟩) (some ⟨g5, 0, none⟩) m m n 10 hd hs g5 n (tenR n) 3 hx (valsN (List.replicate k 15)) (by rw [hl, hk])
         (fun _ => ⟨rfl, _, rfl, fun j v hv => ?_⟩) (by rw [hl, ten_length n (by omega)]; omega) (fif_one k) g5 w0 hb (Nat.le_refl _) ?_
  · obtain ⟨hj, rfl⟩ := fif_get hv
    have := hx.cell j
    rw [List.getElem?_toArray, ten_get n j (by omega)] at this
    rw [← this]
    congr 1
    unfold Addr.add
    simp
    exact fun h => h.symm
  · intro w2 hx2 hb2
    rw [hl]
    refine h w2 ?_ hb2
    have := hx2.out
    rwa [ten_splice n k (.inr hnk)] at this
set_option maxHeartbeats 4000000 in
theorem repeat_any (g : Nat) (w : World) (hN : Nsl w w.heap.size (some ⟨g, 0, none⟩) 1 1 [15]) :
    Calls Try.prog 51 #[.slice (some ⟨g, 0, none⟩) 1 1, .int .i64 10] w (NewN 10 lasts w) := by
  have hmk : ∀ W : World, (Instr.makeSlice 66 (.int .i64 10) (.int .i64 10)).run Try.prog W = .ok (.slice (some ⟨W.heap.size, 0, none⟩) 10 10) (W.alloc (.cells (tenR 0).toArray 3)) := fun W => by kernel_rfl
  have b1 : Below w.heap.size w (w.alloc (.cells (tenR 0).toArray 3)) := (Below.refl _ w).alloc (Nat.le_refl _) _
  have x1 := Blk.new w 3 (tenR 0).toArray
  have n1 : (w.alloc (.cells (tenR 0).toArray 3)).cell? ⟨g, 0, none⟩ = some (.int .i64 15) := (hN.below b1).cell0 0 (by omega)
  obtain ⟨g5, hg5⟩ : ∃ g5, w.heap.size = g5 := ⟨_, rfl⟩
  have HX1 := Lib.hid x1; clear x1
  have HN1 := Lib.hid n1; clear n1 hN
  have HB1 := Lib.hid b1; clear b1
  have HG := Lib.hid hg5; clear hg5
  go_enter Try.func51, Try.ntmps51
  go_wp2_with (first
    | (go_at_call 60; refine (mul_ten _).mono ?_; rintro e w' ⟨rfl, rfl⟩)
    | (with_reducible refine at_copy ?_
       refine wpList_copy_ten rfl (.tmp 31) (.tmp 32) rfl g w.heap.size rfl rfl HX1.out HN1.out HB1.out ?_
       intro w2 hx2 hb2
       have HX2 := Lib.hid hx2
       have HB2 := Lib.hid hb2
       clear hx2 hb2))
  rw [HG.out] at HX2 HB2 ⊢
  go_loopw [8] (fun i wr => ∃ n : Nat, (n = 1 ∨ n = 2 ∨ n = 4 ∨ n = 8 ∨ n = 10) ∧ i = .int .i64 n ∧ Blk wr g5 3 (tenR n).toArray ∧ Below g5 w wr) (fun i _ => 10 - (intOf i).toNat)
  case atStart => exact ⟨1, .inl rfl, rfl, HX2.out, HB2.out⟩
  case round =>
    obtain ⟨n, hn, rfl, hx, hb⟩ := hrel
    have HX := Lib.hid hx; clear hx
    have HB := Lib.hid hb; clear hb
    rcases hn with rfl | rfl | rfl | rfl | rfl
    · have s1 : ∀ W : World, (Instr.slice 66 (.slice (some ⟨g5, 0, none⟩) 10 10) (some (.int .i64 1)) none none).run Try.prog W = .ok (.slice (some ⟨g5, 1, none⟩) 9 9) W := fun W => by kernel_rfl
      have s2 : ∀ W : World, (Instr.slice 66 (.slice (some ⟨g5, 0, none⟩) 10 10) none (some (.int .i64 1)) none).run Try.prog W = .ok (.slice (some ⟨g5, 0, none⟩) 1 10) W := fun W => by kernel_rfl
      have HX' := Lib.hid HX.out.drew
      have HB' := Lib.hid HB.out.drew
      go_wp2_with fail
      go_region_law (refine step_copy_ten rfl (.tmp 41) (.tmp 44) rfl g5 1 9 1 rfl (by decide) (by simp [Act.eval, Act.put]) (by simp [Act.eval, Act.put]) rfl HX'.out HB'.out ?_; intro w4 hx4 hb4; have HX4 := Lib.hid hx4; have HB4 := Lib.hid hb4; clear hx4 hb4)
      refine ⟨⟨.int .i64 2, _, _, _, _, _, _, _, _, _, _, _, _, _, ⟨2, by decide, rfl, HX4.out, HB4.out⟩, rfl⟩, ?_⟩
      show (10 - 2 : Nat) < 10 - 1
      decide
    · have s1 : ∀ W : World, (Instr.slice 66 (.slice (some ⟨g5, 0, none⟩) 10 10) (some (.int .i64 2)) none none).run Try.prog W = .ok (.slice (some ⟨g5, 2, none⟩) 8 8) W := fun W => by kernel_rfl
      have s2 : ∀ W : World, (Instr.slice 66 (.slice (some ⟨g5, 0, none⟩) 10 10) none (some (.int .i64 2)) none).run Try.prog W = .ok (.slice (some ⟨g5, 0, none⟩) 2 10) W := fun W => by kernel_rfl
      have HX' := Lib.hid HX.out.drew
      have HB' := Lib.hid HB.out.drew
      go_wp2_with fail
      go_region_law (refine step_copy_ten rfl (.tmp 41) (.tmp 44) rfl g5 2 8 2 rfl (by decide) (by simp [Act.eval, Act.put]) (by simp [Act.eval, Act.put]) rfl HX'.out HB'.out ?_; intro w4 hx4 hb4; have HX4 := Lib.hid hx4; have HB4 := Lib.hid hb4; clear hx4 hb4)
      refine ⟨⟨.int .i64 4, _, _, _, _, _, _, _, _, _, _, _, _, _, ⟨4, by decide, rfl, HX4.out, HB4.out⟩, rfl⟩, ?_⟩
      show (10 - 4 : Nat) < 10 - 2
      decide
    · have s1 : ∀ W : World, (Instr.slice 66 (.slice (some ⟨g5, 0, none⟩) 10 10) (some (.int .i64 4)) none none).run Try.prog W = .ok (.slice (some ⟨g5, 4, none⟩) 6 6) W := fun W => by kernel_rfl
      have s2 : ∀ W : World, (Instr.slice 66 (.slice (some ⟨g5, 0, none⟩) 10 10) none (some (.int .i64 4)) none).run Try.prog W = .ok (.slice (some ⟨g5, 0, none⟩) 4 10) W := fun W => by kernel_rfl
      have HX' := Lib.hid HX.out.drew
      have HB' := Lib.hid HB.out.drew
      go_wp2_with fail
      go_region_law (refine step_copy_ten rfl (.tmp 41) (.tmp 44) rfl g5 4 6 4 rfl (by decide) (by simp [Act.eval, Act.put]) (by simp [Act.eval, Act.put]) rfl HX'.out HB'.out ?_; intro w4 hx4 hb4; have HX4 := Lib.hid hx4; have HB4 := Lib.hid hb4; clear hx4 hb4)
      refine ⟨⟨.int .i64 8, _, _, _, _, _, _, _, _, _, _, _, _, _, ⟨8, by decide, rfl, HX4.out, HB4.out⟩, rfl⟩, ?_⟩
      show (10 - 8 : Nat) < 10 - 4
      decide
    · have s1 : ∀ W : World, (Instr.slice 66 (.slice (some ⟨g5, 0, none⟩) 10 10) (some (.int .i64 8)) none none).run Try.prog W = .ok (.slice (some ⟨g5, 8, none⟩) 2 2) W := fun W => by kernel_rfl
      have s2 : ∀ W : World, (Instr.slice 66 (.slice (some ⟨g5, 0, none⟩) 10 10) none (some (.int .i64 8)) none).run Try.prog W = .ok (.slice (some ⟨g5, 0, none⟩) 8 10) W := fun W => by kernel_rfl
      have HX' := Lib.hid HX.out.drew
      have HB' := Lib.hid HB.out.drew
      go_wp2_with fail
      go_region_law (refine step_copy_ten rfl (.tmp 41) (.tmp 44) rfl g5 8 2 2 rfl (by decide) (by simp [Act.eval, Act.put]) (by simp [Act.eval, Act.put]) rfl HX'.out HB'.out ?_; intro w4 hx4 hb4; have HX4 := Lib.hid hx4; have HB4 := Lib.hid hb4; clear hx4 hb4)
      refine ⟨⟨.int .i64 10, _, _, _, _, _, _, _, _, _, _, _, _, _, ⟨10, by decide, rfl, HX4.out, HB4.out⟩, rfl⟩, ?_⟩
      show (10 - 10 : Nat) < 10 - 8
      decide
    · go_wp2_with fail
      go_ret
      refine ⟨_, rfl, ⟨rfl, .inr ⟨g5, 10, _, rfl, by rw [HG.out]; exact Nat.le_refl _, HX.out, Nat.le_refl _, by unfold maxLen; omega, rfl, rfl⟩⟩, by rw [HG.out]; exact HB.out⟩
end Go.Proofs.Ytoednighmdoooaa
