/-
  No cell of these rows narrows 'for every input' (looked for: loops, veiled, ifaces, maps, wideKeys, modest, calm, conditions, laid).
  DERIVED. THE GIVEN ROWS OF THIS SEAT. 4 by the template 'for every input the law returns true; each argument reads behind the call as it read before'; 0 by the template 'total and deterministic' (their statements: YtdgonikcjjnocaaTotals.lean).
  GIVEN WITH THE SEED: the statements are not yours to turn. If you find one false, say at which input.
  Laid BY PROGRAM, IN A SANDBOX (cutbox-rows.mjs): the forced cells as the released guide's own fill.sh prints them over the translation 41520b3902bc67dd… (all of the seat's roots in one cut). By AI agents, Wed Nov 11 2026. No macro, syntax, notation, axiom, sorry.
-/
import Derived.Test.YtdgonikcjjnocaaChecked
import GoSem.Claim
import GoSem.ClaimJoined
import GoSem.ClaimMapViews
import Derived.JoinedTies
import Derived.KernelRfl
namespace Go.Proofs.Ytdgonikcjjnocaa
/- THE CELL 'sum', in the pinned program and in every row, IS THE sha256 OF THE DUMP (.gsa) THAT YtdgonikcjjnocaaProg.lean LOADS. Nothing in Lean hashes anything: it is a label: what it is worth is what the hold of that sum in a sandbox is worth. -/
noncomputable def Try.pinned : Pinned := { name := "ytdgonikcjjnocaa", sum := "41520b3902bc67dd71c8782f722a9083f86a6f641e9b4f50e58fa8793b4b16ea", checked := Try.checked }
namespace Rows
def none {H : Type} : Left H := { results := [], args := [] }

/-- 'charterhouselaw05.CipherNames': WHATEVER THE INPUT: true; the input reads as it did. -/
def cipherNamesSpec : ChangeSpec := { name := "cipherNames", fn := fun _ => fun
  | [] => { results := [.lit (.bool true)], args := [] }
  | _ => none }
def cipherNamesRow : OpenClaim := { program := "ytdgonikcjjnocaa", sum := "41520b3902bc67dd71c8782f722a9083f86a6f641e9b4f50e58fa8793b4b16ea", func := "charterhouse/charterhouselaw05.CipherNames", spec := "cipherNames", unfollowed := true, recurses := true, apart := false }
def CipherNamesSaid : Prop := cipherNamesRow.holds Try.pinned (OpenSpec.ofChange cipherNamesSpec)

/-- ITS FALSE NEIGHBOUR: 'it returns false'. Refute it at one input. -/
def cipherNamesWrong : ChangeSpec := { name := "cipherNames", fn := fun _ => fun
  | [] => { results := [.lit (.bool false)], args := [] }
  | _ => none }
def CipherNamesWrongFalsely : Prop := cipherNamesRow.holds Try.pinned (OpenSpec.ofChange cipherNamesWrong)

/-- 'charterhouselaw05.CipherTells': WHATEVER THE INPUT: true; the input reads as it did. -/
def cipherTellsSpec : ChangeSpec := { name := "cipherTells", fn := fun _ => fun
  | [d1, d2, d3, d4] => { results := [.lit (.bool true)], args := [d1, d2, d3, d4] }
  | _ => none }
def cipherTellsRow : OpenClaim := { program := "ytdgonikcjjnocaa", sum := "41520b3902bc67dd71c8782f722a9083f86a6f641e9b4f50e58fa8793b4b16ea", func := "charterhouse/charterhouselaw05.CipherTells", spec := "cipherTells", unfollowed := true, recurses := true, apart := false }
def CipherTellsSaid : Prop := cipherTellsRow.holds Try.pinned (OpenSpec.ofChange cipherTellsSpec)

/-- ITS FALSE NEIGHBOUR: 'it returns false'. Refute it at one input. -/
def cipherTellsWrong : ChangeSpec := { name := "cipherTells", fn := fun _ => fun
  | [d1, d2, d3, d4] => { results := [.lit (.bool false)], args := [d1, d2, d3, d4] }
  | _ => none }
def CipherTellsWrongFalsely : Prop := cipherTellsRow.holds Try.pinned (OpenSpec.ofChange cipherTellsWrong)

/-- 'charterhouselaw05.CipherTwice': WHATEVER THE INPUT: true; the input reads as it did. -/
def cipherTwiceSpec : ChangeSpec := { name := "cipherTwice", fn := fun _ => fun
  | [d1, d2, d3, d4] => { results := [.lit (.bool true)], args := [d1, d2, d3, d4] }
  | _ => none }
def cipherTwiceRow : OpenClaim := { program := "ytdgonikcjjnocaa", sum := "41520b3902bc67dd71c8782f722a9083f86a6f641e9b4f50e58fa8793b4b16ea", func := "charterhouse/charterhouselaw05.CipherTwice", spec := "cipherTwice", unfollowed := true, recurses := true, apart := false }
def CipherTwiceSaid : Prop := cipherTwiceRow.holds Try.pinned (OpenSpec.ofChange cipherTwiceSpec)

/-- ITS FALSE NEIGHBOUR: 'it returns false'. Refute it at one input. -/
def cipherTwiceWrong : ChangeSpec := { name := "cipherTwice", fn := fun _ => fun
  | [d1, d2, d3, d4] => { results := [.lit (.bool false)], args := [d1, d2, d3, d4] }
  | _ => none }
def CipherTwiceWrongFalsely : Prop := cipherTwiceRow.holds Try.pinned (OpenSpec.ofChange cipherTwiceWrong)

/-- 'charterhouselaw05.CipherOver': WHATEVER THE INPUT: true; the input reads as it did. -/
def cipherOverSpec : ChangeSpec := { name := "cipherOver", fn := fun _ => fun
  | [d1, d2, d3, d4] => { results := [.lit (.bool true)], args := [d1, d2, d3, d4] }
  | _ => none }
def cipherOverRow : OpenClaim := { program := "ytdgonikcjjnocaa", sum := "41520b3902bc67dd71c8782f722a9083f86a6f641e9b4f50e58fa8793b4b16ea", func := "charterhouse/charterhouselaw05.CipherOver", spec := "cipherOver", unfollowed := true, recurses := true, apart := false }
def CipherOverSaid : Prop := cipherOverRow.holds Try.pinned (OpenSpec.ofChange cipherOverSpec)

/-- ITS FALSE NEIGHBOUR: 'it returns false'. Refute it at one input. -/
def cipherOverWrong : ChangeSpec := { name := "cipherOver", fn := fun _ => fun
  | [d1, d2, d3, d4] => { results := [.lit (.bool false)], args := [d1, d2, d3, d4] }
  | _ => none }
def CipherOverWrongFalsely : Prop := cipherOverRow.holds Try.pinned (OpenSpec.ofChange cipherOverWrong)

/- THE SECOND FORM. 'bulk': how many values and letters a reading holds, each counted each time it is reached (what is shared counts as often as it is met; a slice's spare places count too). A statement '..UptoSaid' is the law's where the arguments, and the package variables that the reading takes, are together of bulk at most 1048576: NARROWER than '..Said'. Prove '..Said' where nothing that the law and all that it calls make is longer than what came in: it says more and counts as full. Else prove '..UptoSaid'. A law counts once. -/
mutual
def uptoBulk {H : Type} : DataW H → Nat
  | .lit (.string bytes) => bytes.length + 1
  | .lit _ => 1
  | .nil => 1
  | .ptr d => uptoBulk d + 1
  | .slice elems spare => uptoBulkAll elems + uptoBulkAll spare + 1
  | .agg parts => uptoBulkAll parts + 1
  | .iface _ d => uptoBulk d + 1
  | .map entries => uptoBulkEntries entries + 1
  | .held _ => 1
def uptoBulkAll {H : Type} : List (DataW H) → Nat
  | [] => 0
  | d :: r => uptoBulk d + uptoBulkAll r
def uptoBulkEntries {H : Type} : List (Lit × DataW H) → Nat
  | [] => 0
  | x :: r => uptoBulkEntry x + uptoBulkEntries r
def uptoBulkEntry {H : Type} : Lit × DataW H → Nat
  | (.string bytes, d) => bytes.length + uptoBulk d + 1
  | (_, d) => uptoBulk d + 1
 end
def uptoSmall : (H : Type) → List (DataW H) → Bool := fun _ ds => decide (uptoBulkAll ds ≤ 1048576)
def OpenSpec.upto (s : _root_.Go.ChangeSpec) : _root_.Go.OpenSpec := { _root_.Go.OpenSpec.ofChange s with cond := some uptoSmall }

/-- 'charterhouselaw05.CipherNames', WHERE WHAT IT READS IS OF BULK AT MOST 1048576: true; the input reads as it did. -/
def cipherNamesUptoRow : OpenClaim := { program := "ytdgonikcjjnocaa", sum := "41520b3902bc67dd71c8782f722a9083f86a6f641e9b4f50e58fa8793b4b16ea", func := "charterhouse/charterhouselaw05.CipherNames", spec := "cipherNames", unfollowed := true, recurses := true, apart := false, narrowed := true }
def CipherNamesUptoSaid : Prop := cipherNamesUptoRow.holds Try.pinned (OpenSpec.upto cipherNamesSpec)

/-- 'charterhouselaw05.CipherTells', WHERE WHAT IT READS IS OF BULK AT MOST 1048576: true; the input reads as it did. -/
def cipherTellsUptoRow : OpenClaim := { program := "ytdgonikcjjnocaa", sum := "41520b3902bc67dd71c8782f722a9083f86a6f641e9b4f50e58fa8793b4b16ea", func := "charterhouse/charterhouselaw05.CipherTells", spec := "cipherTells", unfollowed := true, recurses := true, apart := false, narrowed := true }
def CipherTellsUptoSaid : Prop := cipherTellsUptoRow.holds Try.pinned (OpenSpec.upto cipherTellsSpec)

/-- 'charterhouselaw05.CipherTwice', WHERE WHAT IT READS IS OF BULK AT MOST 1048576: true; the input reads as it did. -/
def cipherTwiceUptoRow : OpenClaim := { program := "ytdgonikcjjnocaa", sum := "41520b3902bc67dd71c8782f722a9083f86a6f641e9b4f50e58fa8793b4b16ea", func := "charterhouse/charterhouselaw05.CipherTwice", spec := "cipherTwice", unfollowed := true, recurses := true, apart := false, narrowed := true }
def CipherTwiceUptoSaid : Prop := cipherTwiceUptoRow.holds Try.pinned (OpenSpec.upto cipherTwiceSpec)

/-- 'charterhouselaw05.CipherOver', WHERE WHAT IT READS IS OF BULK AT MOST 1048576: true; the input reads as it did. -/
def cipherOverUptoRow : OpenClaim := { program := "ytdgonikcjjnocaa", sum := "41520b3902bc67dd71c8782f722a9083f86a6f641e9b4f50e58fa8793b4b16ea", func := "charterhouse/charterhouselaw05.CipherOver", spec := "cipherOver", unfollowed := true, recurses := true, apart := false, narrowed := true }
def CipherOverUptoSaid : Prop := cipherOverUptoRow.holds Try.pinned (OpenSpec.upto cipherOverSpec)

end Rows
end Go.Proofs.Ytdgonikcjjnocaa
