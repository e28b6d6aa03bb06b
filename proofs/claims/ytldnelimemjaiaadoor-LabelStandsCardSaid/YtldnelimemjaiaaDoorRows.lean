/-
  NARROWER THAN 'FOR EVERY INPUT', by the rows' own cells (each row's printed sentence says how): LabelNames: laid · LabelStands: laid · LabelApart: laid · LabelLost: laid.
  DERIVED. THE GIVEN ROWS OF THIS SEAT. 4 by the template 'for every input the law returns true; each argument reads behind the call as it read before'; 0 by the template 'total and deterministic' (their statements: YtldnelimemjaiaaDoorTotals.lean).
  GIVEN WITH THE SEED: the statements are not yours to turn. If you find one false, say at which input.
  Laid BY PROGRAM, IN A SANDBOX (cutbox-rows.mjs): the forced cells as the released guide's own fill.sh prints them over the translation 75fd5c4812a1702d… (all of the seat's roots in one cut). By AI agents, Wed Nov 11 2026. No macro, syntax, notation, axiom, sorry.
-/
import Derived.Test.YtldnelimemjaiaaDoorChecked
import GoSem.Claim
import GoSem.ClaimJoined
import GoSem.ClaimMapViews
import Derived.JoinedTies
import Derived.KernelRfl
namespace Go.Proofs.YtldnelimemjaiaaDoor
/- THE CELL 'sum', in the pinned program and in every row, IS THE sha256 OF THE DUMP (.gsa) THAT YtldnelimemjaiaaDoorProg.lean LOADS. Nothing in Lean hashes anything: it is a label: what it is worth is what the hold of that sum in a sandbox is worth. -/
noncomputable def Tryd.pinned : Pinned := { name := "ytldnelimemjaiaadoor", sum := "75fd5c4812a1702d774e4565fc4bd262212c0d3a777228ba137ad2d090897782", checked := Tryd.checked }
namespace Rows
def none {H : Type} : Left H := { results := [], args := [] }

/- WHAT THE LISTED PACKAGE-LEVEL VARIABLES READ AS WHEN THE CALL BEGINS. Each datum BY PROGRAM (the guide's laid-datum.mjs) off the statement by which the dump's own 'gosem.cut.vars' lays the variable. In a bare row this is a premise. The card (YtldnelimemjaiaaDoorCards.lean) ties it to the program's text. -/
def laid_charterhouse_ptr_sizes {H : Type} : DataW H := .agg [.lit (.int .i64 1), .lit (.int .i64 3), .lit (.int .i64 4), .lit (.int .i64 4), .lit (.int .i64 4)]

/-- 'charterhouselaw11.LabelNames': WHATEVER THE INPUT: true; the input reads as it did. -/
def labelNamesSpec : ChangeSpec := { name := "labelNames", fn := fun _ => fun
  | [] => { results := [.lit (.bool true)], args := [] }
  | _ => none }
def labelNamesRow : OpenClaim := { program := "ytldnelimemjaiaadoor", sum := "75fd5c4812a1702d774e4565fc4bd262212c0d3a777228ba137ad2d090897782", func := "charterhouse/charterhouselaw11.LabelNames", spec := "labelNames", unfollowed := true, recurses := true, named := ["charterhouse/ptr.sizes"], apart := false, laid := [("charterhouse/ptr.sizes", laid_charterhouse_ptr_sizes)] }
def LabelNamesSaid : Prop := labelNamesRow.holds Tryd.pinned (OpenSpec.ofChange labelNamesSpec)

/-- ITS FALSE NEIGHBOUR: 'it returns false'. Refute it at one input. -/
def labelNamesWrong : ChangeSpec := { name := "labelNames", fn := fun _ => fun
  | [] => { results := [.lit (.bool false)], args := [] }
  | _ => none }
def LabelNamesWrongFalsely : Prop := labelNamesRow.holds Tryd.pinned (OpenSpec.ofChange labelNamesWrong)

/-- 'charterhouselaw11.LabelStands': WHATEVER THE INPUT: true; the input reads as it did. -/
def labelStandsSpec : ChangeSpec := { name := "labelStands", fn := fun _ => fun
  | [d1, d2] => { results := [.lit (.bool true)], args := [d1, d2] }
  | _ => none }
def labelStandsRow : OpenClaim := { program := "ytldnelimemjaiaadoor", sum := "75fd5c4812a1702d774e4565fc4bd262212c0d3a777228ba137ad2d090897782", func := "charterhouse/charterhouselaw11.LabelStands", spec := "labelStands", unfollowed := true, recurses := true, named := ["charterhouse/ptr.sizes"], apart := false, laid := [("charterhouse/ptr.sizes", laid_charterhouse_ptr_sizes)] }
def LabelStandsSaid : Prop := labelStandsRow.holds Tryd.pinned (OpenSpec.ofChange labelStandsSpec)

/-- ITS FALSE NEIGHBOUR: 'it returns false'. Refute it at one input. -/
def labelStandsWrong : ChangeSpec := { name := "labelStands", fn := fun _ => fun
  | [d1, d2] => { results := [.lit (.bool false)], args := [d1, d2] }
  | _ => none }
def LabelStandsWrongFalsely : Prop := labelStandsRow.holds Tryd.pinned (OpenSpec.ofChange labelStandsWrong)

/-- 'charterhouselaw11.LabelApart': WHATEVER THE INPUT: true; the input reads as it did. -/
def labelApartSpec : ChangeSpec := { name := "labelApart", fn := fun _ => fun
  | [d1, d2, d3, d4, d5] => { results := [.lit (.bool true)], args := [d1, d2, d3, d4, d5] }
  | _ => none }
def labelApartRow : OpenClaim := { program := "ytldnelimemjaiaadoor", sum := "75fd5c4812a1702d774e4565fc4bd262212c0d3a777228ba137ad2d090897782", func := "charterhouse/charterhouselaw11.LabelApart", spec := "labelApart", unfollowed := true, recurses := true, named := ["charterhouse/ptr.sizes"], apart := false, laid := [("charterhouse/ptr.sizes", laid_charterhouse_ptr_sizes)] }
def LabelApartSaid : Prop := labelApartRow.holds Tryd.pinned (OpenSpec.ofChange labelApartSpec)

/-- ITS FALSE NEIGHBOUR: 'it returns false'. Refute it at one input. -/
def labelApartWrong : ChangeSpec := { name := "labelApart", fn := fun _ => fun
  | [d1, d2, d3, d4, d5] => { results := [.lit (.bool false)], args := [d1, d2, d3, d4, d5] }
  | _ => none }
def LabelApartWrongFalsely : Prop := labelApartRow.holds Tryd.pinned (OpenSpec.ofChange labelApartWrong)

/-- 'charterhouselaw11.LabelLost': WHATEVER THE INPUT: true; the input reads as it did. -/
def labelLostSpec : ChangeSpec := { name := "labelLost", fn := fun _ => fun
  | [d1, d2, d3] => { results := [.lit (.bool true)], args := [d1, d2, d3] }
  | _ => none }
def labelLostRow : OpenClaim := { program := "ytldnelimemjaiaadoor", sum := "75fd5c4812a1702d774e4565fc4bd262212c0d3a777228ba137ad2d090897782", func := "charterhouse/charterhouselaw11.LabelLost", spec := "labelLost", unfollowed := true, recurses := true, named := ["charterhouse/ptr.sizes"], apart := false, laid := [("charterhouse/ptr.sizes", laid_charterhouse_ptr_sizes)] }
def LabelLostSaid : Prop := labelLostRow.holds Tryd.pinned (OpenSpec.ofChange labelLostSpec)

/-- ITS FALSE NEIGHBOUR: 'it returns false'. Refute it at one input. -/
def labelLostWrong : ChangeSpec := { name := "labelLost", fn := fun _ => fun
  | [d1, d2, d3] => { results := [.lit (.bool false)], args := [d1, d2, d3] }
  | _ => none }
def LabelLostWrongFalsely : Prop := labelLostRow.holds Tryd.pinned (OpenSpec.ofChange labelLostWrong)

/- THE SECOND FORM. 'bulk': how many values and letters a reading holds, each counted each time it is reached (what is shared counts as often as it is met; a slice's spare places count too). A statement '..UptoSaid' is the law's where the arguments, and the package variables that the reading takes, are together of bulk at most 1048576: NARROWER than '..Said'. Prove '..Said' where nothing that the law and all that it calls make is longer than what came in: it says more and counts as full. Else prove '..UptoSaid'. A law counts once. -/
mutual
def uptoBulk {H : Type} : DataW H → Nat
  | .lit (.string bytes) => bytes.length + 1
  | .lit _ => 1
  | .nil => 1
  | .ptr d => uptoBulk d + 1
  | .slice elems spare => uptoBulkAll elems + uptoBulkAll spare + 1
  | .agg parts => uptoBulkAll parts + 1
  | .iface _ d => uptoBulk d + 1
  | .map entries => uptoBulkEntries entries + 1
  | .held _ => 1
def uptoBulkAll {H : Type} : List (DataW H) → Nat
  | [] => 0
  | d :: r => uptoBulk d + uptoBulkAll r
def uptoBulkEntries {H : Type} : List (Lit × DataW H) → Nat
  | [] => 0
  | x :: r => uptoBulkEntry x + uptoBulkEntries r
def uptoBulkEntry {H : Type} : Lit × DataW H → Nat
  | (.string bytes, d) => bytes.length + uptoBulk d + 1
  | (_, d) => uptoBulk d + 1
 end
def uptoSmall : (H : Type) → List (DataW H) → Bool := fun _ ds => decide (uptoBulkAll ds ≤ 1048576)
def OpenSpec.upto (s : _root_.Go.ChangeSpec) : _root_.Go.OpenSpec := { _root_.Go.OpenSpec.ofChange s with cond := some uptoSmall }

/-- 'charterhouselaw11.LabelNames', WHERE WHAT IT READS IS OF BULK AT MOST 1048576: true; the input reads as it did. -/
def labelNamesUptoRow : OpenClaim := { program := "ytldnelimemjaiaadoor", sum := "75fd5c4812a1702d774e4565fc4bd262212c0d3a777228ba137ad2d090897782", func := "charterhouse/charterhouselaw11.LabelNames", spec := "labelNames", unfollowed := true, recurses := true, named := ["charterhouse/ptr.sizes"], apart := false, laid := [("charterhouse/ptr.sizes", laid_charterhouse_ptr_sizes)], narrowed := true }
def LabelNamesUptoSaid : Prop := labelNamesUptoRow.holds Tryd.pinned (OpenSpec.upto labelNamesSpec)

/-- 'charterhouselaw11.LabelStands', WHERE WHAT IT READS IS OF BULK AT MOST 1048576: true; the input reads as it did. -/
def labelStandsUptoRow : OpenClaim := { program := "ytldnelimemjaiaadoor", sum := "75fd5c4812a1702d774e4565fc4bd262212c0d3a777228ba137ad2d090897782", func := "charterhouse/charterhouselaw11.LabelStands", spec := "labelStands", unfollowed := true, recurses := true, named := ["charterhouse/ptr.sizes"], apart := false, laid := [("charterhouse/ptr.sizes", laid_charterhouse_ptr_sizes)], narrowed := true }
def LabelStandsUptoSaid : Prop := labelStandsUptoRow.holds Tryd.pinned (OpenSpec.upto labelStandsSpec)

/-- 'charterhouselaw11.LabelApart', WHERE WHAT IT READS IS OF BULK AT MOST 1048576: true; the input reads as it did. -/
def labelApartUptoRow : OpenClaim := { program := "ytldnelimemjaiaadoor", sum := "75fd5c4812a1702d774e4565fc4bd262212c0d3a777228ba137ad2d090897782", func := "charterhouse/charterhouselaw11.LabelApart", spec := "labelApart", unfollowed := true, recurses := true, named := ["charterhouse/ptr.sizes"], apart := false, laid := [("charterhouse/ptr.sizes", laid_charterhouse_ptr_sizes)], narrowed := true }
def LabelApartUptoSaid : Prop := labelApartUptoRow.holds Tryd.pinned (OpenSpec.upto labelApartSpec)

/-- 'charterhouselaw11.LabelLost', WHERE WHAT IT READS IS OF BULK AT MOST 1048576: true; the input reads as it did. -/
def labelLostUptoRow : OpenClaim := { program := "ytldnelimemjaiaadoor", sum := "75fd5c4812a1702d774e4565fc4bd262212c0d3a777228ba137ad2d090897782", func := "charterhouse/charterhouselaw11.LabelLost", spec := "labelLost", unfollowed := true, recurses := true, named := ["charterhouse/ptr.sizes"], apart := false, laid := [("charterhouse/ptr.sizes", laid_charterhouse_ptr_sizes)], narrowed := true }
def LabelLostUptoSaid : Prop := labelLostUptoRow.holds Tryd.pinned (OpenSpec.upto labelLostSpec)

end Rows
end Go.Proofs.YtldnelimemjaiaaDoor
