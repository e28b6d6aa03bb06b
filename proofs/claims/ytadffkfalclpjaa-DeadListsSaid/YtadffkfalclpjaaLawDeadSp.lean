/-
  Law 16's spoil: the blocks of a row of pointers of the call's own are written to, and nothing else; other rows stay rows.
-/
import Derived.Test.YtadffkfalclpjaaDdTwo
import Derived.Test.YtadffkfalclpjaaPtIn
namespace Go.Proofs.Ytadffkfalclpjaa
open Go.RowKit Go.Shelf
set_option maxRecDepth 100000

/-- A row of so many pointers, not below block B, whatever they are. -/
def Sp (w : World) (B : Nat) (v : Value) (n : Nat) : Prop := (v = .slice none 0 0 ∧ n = 0) ∨ ∃ g cap cur, v = .slice (some ⟨g, 0, none⟩) n cap ∧ B ≤ g ∧ Blk w g 25 cur ∧ n * 5 ≤ cur.size ∧ n ≤ 1000000 ∧ (∀ i, i < cur.size → ∃ u : Value, cur[i]? = some u)
theorem sp_of {w : World} {B : Nat} {v : Value} {l : List Pt} (h : PRow w B v l) (hl : l.length ≤ 1000000) : Sp w B v l.length := by
  obtain ⟨_, ⟨rfl, h0⟩ | ⟨g, cap, cur, rfl, h2, h3, h4, h5, h6, _⟩⟩ := h.1
  · exact .inl ⟨rfl, h0⟩
  · exact .inr ⟨g, cap, cur, rfl, h2, h3, by rw [h6]; exact Nat.mul_le_mul_right 5 h4, hl, fun i hi => ⟨cur[i], Array.getElem?_eq_getElem hi⟩⟩
theorem Sp.below {w w' : World} {B : Nat} {v : Value} {n : Nat} (h : Sp w B v n) (hb : Below w.heap.size w w') : Sp w' B v n := by
  rcases h with h | ⟨g, cap, cur, e, h1, h2, h3⟩
  · exact .inl h
  · exact .inr ⟨g, cap, cur, e, h1, h2.below hb h2.lt, h3⟩
theorem Sp.set {w : World} {B : Nat} {v : Value} {n : Nat} (h : Sp w B v n) (g i : Nat) (u : Value) : Sp (w.setCell ⟨g, i, none⟩ u) B v n := by
  rcases h with h | ⟨k, cap, cur, e, h1, h2, h3, h4, h5⟩
  · exact .inl h
  · by_cases ek : k = g
    · subst ek
      refine .inr ⟨k, cap, _, e, h1, h2.set_ i u, by simpa using h3, h4, fun j hj => ⟨_, Array.getElem?_eq_getElem hj⟩⟩
    · exact .inr ⟨k, cap, cur, e, h1, h2.far (p := ⟨g, i, none⟩) ek u, h3, h4, h5⟩
set_option maxHeartbeats 2000000 in
theorem dlSpoil_any (v : Value) (n B : Nat) (w : World) (h : Sp w B v n) : Calls Try.prog 16 #[v] w fun e w' => e = .returned (.tuple #[]) ∧ Below B w w' ∧ ∀ B' v' n', Sp w B' v' n' → Sp w' B' v' n' := by
  rcases h with ⟨rfl, rfl⟩ | ⟨g, cap, cur, rfl, hB, hk, hc, hn, hu⟩
  · go_enter Try.func16, Try.ntmps16
    go_wp2_with fail
    go_loopw [2] (fun i wr => i = .int .i64 0 ∧ wr = w) (fun _ _ => 0)
    case atStart => exact ⟨rfl, rfl⟩
    case round =>
      obtain ⟨rfl, rfl⟩ := hrel
      go_wp2_with fail
      go_end0
      exact ⟨rfl, Below.refl _ _, fun _ _ _ h => h⟩
  · have n0 : (0 : Int) ≤ n := by omega
    have n1 : (n : Int) ≤ 1000000 := by omega
    have HS := Lib.hid (show Sp w B (.slice (some ⟨g, 0, none⟩) n cap) n from .inr ⟨g, cap, cur, rfl, hB, hk, hc, hn, hu⟩)
    have HBG := Lib.hid hB
    clear hk hc hn hu hB
    go_enter Try.func16, Try.ntmps16
    go_wp2_with fail
    go_loopw [2] (fun i wr => ∃ j : Nat, j ≤ n ∧ i = .int .i64 j ∧ Below B w wr ∧ (∀ B' v' n', Sp w B' v' n' → Sp wr B' v' n')) (fun i _ => n - (intOf i).toNat)
    case atStart => exact ⟨0, Nat.zero_le _, rfl, Below.refl _ _, fun _ _ _ h => h⟩
    case round =>
      obtain ⟨j, hj, rfl, hb, hs⟩ := hrel
      have j0 : (0 : Int) ≤ j := by omega
      have HB := Lib.hid hb
      have HK := Lib.hid hs
      clear hb hs
      by_cases hlt : j < n
      · have j1 : (j : Int) < n := by omega
        rcases HK.out _ _ _ HS.out with ⟨e, _⟩ | ⟨g', cap', cur', e, _, hk, hc, _, hu⟩
        · cases e
        · cases e
          obtain ⟨u, hu⟩ := hu (j * 5) (by omega)
          have hz := hk.frozen (j * 5)
          have hcl : wr.cell? ⟨g, j * 5, none⟩ = some u := by rw [hk.cell]; exact hu
          clear hk hc hu
          go_wp2_with fail
          go_roundw
          case rel => exact ⟨j + 1, by omega, by go_num, HB.out.setCell (p := ⟨g, j * 5, none⟩) HBG.out _, fun B' v' n' h => (HK.out _ _ _ h).set g _ _⟩
          case measure => simp [intOf]; omega
      · obtain rfl : j = n := by omega
        go_wp2_with fail
        go_end0
        exact ⟨rfl, HB.out, HK.out⟩
end Go.Proofs.Ytadffkfalclpjaa
