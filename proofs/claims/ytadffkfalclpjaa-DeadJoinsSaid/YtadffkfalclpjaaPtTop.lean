/-
  ptr.Check, ptr.Write and ptr.Read, whatever they are handed; nothing that was there is written.
-/
import Derived.Test.YtadffkfalclpjaaPtPut
import Derived.Test.YtadffkfalclpjaaPtGet
import Derived.Test.YtadffkfalclpjaaPtChk
namespace Go.Proofs.Ytadffkfalclpjaa
open Go.RowKit Go.Shelf
set_option maxRecDepth 100000

/-- A list of the call's own, and an error's number. -/
def OutB (S : List UInt8) (c : Int) (w : World) (e : Ending) (w' : World) : Prop := ∃ v, e = .returned (.tuple #[v, .int .i64 c]) ∧ w'.ownsRow w.heap.size 5 1 v S.length (vals S) ∧ Below w.heap.size w w'
theorem outB_no {w w' : World} {c : Int} {e : Ending} (he : e = .returned (.tuple #[.slice none 0 0, .int .i64 c])) (hb : Below w.heap.size w w') : OutB [] c w e w' := ⟨_, he, own_nil _ _, hb⟩
/-- A pointer, and an error's number. -/
def OutP (p : Pt) (c : Int) (w : World) (e : Ending) (w' : World) : Prop := e = .returned (.tuple #[ptV p, .int .i64 c]) ∧ Below w.heap.size w w'
/-- What Write answers. -/
def pwriteO (p : Pt) : List UInt8 × Int := if MayP p then (bytesP p, 0) else ([], 8)
/-- What Read answers. -/
def preadO (s : List UInt8) : Pt × Int := if s.length = 16 then (if MayP (getP s) then (getP s, 0) else (p0, 8)) else (p0, 3)

end Go.Proofs.Ytadffkfalclpjaa
