/-
  NARROWER THAN 'FOR EVERY INPUT', by the rows' own cells (each row's printed sentence says how): SetNames: laid · SetTells: laid · SetYoung: laid · SetParts: laid · SetLater: laid · SetAlone: laid.
  DERIVED. THE GIVEN ROWS OF THIS SEAT. 6 by the template 'for every input the law returns true; each argument reads behind the call as it read before'; 0 by the template 'total and deterministic' (their statements: YtbggkfomfeeikaaGreatDoorTotals.lean).
  GIVEN WITH THE SEED: the statements are not yours to turn. If you find one false, say at which input.
  Laid BY PROGRAM, IN A SANDBOX (cutbox-rows.mjs): the forced cells as the released guide's own fill.sh prints them over the translation 17259434eda77a2e… (all of the seat's roots in one cut). By AI agents, Wed Nov 11 2026. No macro, syntax, notation, axiom, sorry.
-/
import Derived.Test.YtbggkfomfeeikaaGreatDoorChecked
import GoSem.Claim
import GoSem.ClaimJoined
import GoSem.ClaimMapViews
import Derived.JoinedTies
import Derived.KernelRfl
namespace Go.Proofs.YtbggkfomfeeikaaGreatDoor
/- THE CELL 'sum', in the pinned program and in every row, IS THE sha256 OF THE DUMP (.gsa) THAT YtbggkfomfeeikaaGreatDoorProg.lean LOADS. Nothing in Lean hashes anything: it is a label: what it is worth is what the hold of that sum in a sandbox is worth. -/
noncomputable def Tryz.pinned : Pinned := { name := "ytbggkfomfeeikaagreatdoor", sum := "17259434eda77a2e700fd7050d78f52a4cd977864a574ddfe291b52c948fddcd", checked := Tryz.checked }
namespace Rows
def none {H : Type} : Left H := { results := [], args := [] }

/- WHAT THE LISTED PACKAGE-LEVEL VARIABLES READ AS WHEN THE CALL BEGINS. Each datum BY PROGRAM (the guide's laid-datum.mjs) off the statement by which the dump's own 'gosem.cut.vars' lays the variable. In a bare row this is a premise. The card (YtbggkfomfeeikaaGreatDoorCards.lean) ties it to the program's text. -/
def laid_charterhouse_ptr_sizes {H : Type} : DataW H := .agg [.lit (.int .i64 1), .lit (.int .i64 3), .lit (.int .i64 4), .lit (.int .i64 4), .lit (.int .i64 4)]

/-- 'charterhouselaw15.SetNames': WHATEVER THE INPUT: true; the input reads as it did. -/
def setNamesSpec : ChangeSpec := { name := "setNames", fn := fun _ => fun
  | [] => { results := [.lit (.bool true)], args := [] }
  | _ => none }
def setNamesRow : OpenClaim := { program := "ytbggkfomfeeikaagreatdoor", sum := "17259434eda77a2e700fd7050d78f52a4cd977864a574ddfe291b52c948fddcd", func := "charterhouse/charterhouselaw15.SetNames", spec := "setNames", unfollowed := true, recurses := true, named := ["charterhouse/ptr.sizes"], apart := false, laid := [("charterhouse/ptr.sizes", laid_charterhouse_ptr_sizes)] }
def SetNamesSaid : Prop := setNamesRow.holds Tryz.pinned (OpenSpec.ofChange setNamesSpec)

/-- ITS FALSE NEIGHBOUR: 'it returns false'. Refute it at one input. -/
def setNamesWrong : ChangeSpec := { name := "setNames", fn := fun _ => fun
  | [] => { results := [.lit (.bool false)], args := [] }
  | _ => none }
def SetNamesWrongFalsely : Prop := setNamesRow.holds Tryz.pinned (OpenSpec.ofChange setNamesWrong)

/-- 'charterhouselaw15.SetTells': WHATEVER THE INPUT: true; the input reads as it did. -/
def setTellsSpec : ChangeSpec := { name := "setTells", fn := fun _ => fun
  | [d1, d2, d3, d4] => { results := [.lit (.bool true)], args := [d1, d2, d3, d4] }
  | _ => none }
def setTellsRow : OpenClaim := { program := "ytbggkfomfeeikaagreatdoor", sum := "17259434eda77a2e700fd7050d78f52a4cd977864a574ddfe291b52c948fddcd", func := "charterhouse/charterhouselaw15.SetTells", spec := "setTells", unfollowed := true, recurses := true, named := ["charterhouse/ptr.sizes"], apart := false, laid := [("charterhouse/ptr.sizes", laid_charterhouse_ptr_sizes)] }
def SetTellsSaid : Prop := setTellsRow.holds Tryz.pinned (OpenSpec.ofChange setTellsSpec)

/-- ITS FALSE NEIGHBOUR: 'it returns false'. Refute it at one input. -/
def setTellsWrong : ChangeSpec := { name := "setTells", fn := fun _ => fun
  | [d1, d2, d3, d4] => { results := [.lit (.bool false)], args := [d1, d2, d3, d4] }
  | _ => none }
def SetTellsWrongFalsely : Prop := setTellsRow.holds Tryz.pinned (OpenSpec.ofChange setTellsWrong)

/-- 'charterhouselaw15.SetYoung': WHATEVER THE INPUT: true; the input reads as it did. -/
def setYoungSpec : ChangeSpec := { name := "setYoung", fn := fun _ => fun
  | [d1, d2, d3] => { results := [.lit (.bool true)], args := [d1, d2, d3] }
  | _ => none }
def setYoungRow : OpenClaim := { program := "ytbggkfomfeeikaagreatdoor", sum := "17259434eda77a2e700fd7050d78f52a4cd977864a574ddfe291b52c948fddcd", func := "charterhouse/charterhouselaw15.SetYoung", spec := "setYoung", unfollowed := true, recurses := true, named := ["charterhouse/ptr.sizes"], apart := false, laid := [("charterhouse/ptr.sizes", laid_charterhouse_ptr_sizes)] }
def SetYoungSaid : Prop := setYoungRow.holds Tryz.pinned (OpenSpec.ofChange setYoungSpec)

/-- ITS FALSE NEIGHBOUR: 'it returns false'. Refute it at one input. -/
def setYoungWrong : ChangeSpec := { name := "setYoung", fn := fun _ => fun
  | [d1, d2, d3] => { results := [.lit (.bool false)], args := [d1, d2, d3] }
  | _ => none }
def SetYoungWrongFalsely : Prop := setYoungRow.holds Tryz.pinned (OpenSpec.ofChange setYoungWrong)

/-- 'charterhouselaw15.SetParts': WHATEVER THE INPUT: true; the input reads as it did. -/
def setPartsSpec : ChangeSpec := { name := "setParts", fn := fun _ => fun
  | [d1, d2] => { results := [.lit (.bool true)], args := [d1, d2] }
  | _ => none }
def setPartsRow : OpenClaim := { program := "ytbggkfomfeeikaagreatdoor", sum := "17259434eda77a2e700fd7050d78f52a4cd977864a574ddfe291b52c948fddcd", func := "charterhouse/charterhouselaw15.SetParts", spec := "setParts", unfollowed := true, recurses := true, named := ["charterhouse/ptr.sizes"], apart := false, laid := [("charterhouse/ptr.sizes", laid_charterhouse_ptr_sizes)] }
def SetPartsSaid : Prop := setPartsRow.holds Tryz.pinned (OpenSpec.ofChange setPartsSpec)

/-- ITS FALSE NEIGHBOUR: 'it returns false'. Refute it at one input. -/
def setPartsWrong : ChangeSpec := { name := "setParts", fn := fun _ => fun
  | [d1, d2] => { results := [.lit (.bool false)], args := [d1, d2] }
  | _ => none }
def SetPartsWrongFalsely : Prop := setPartsRow.holds Tryz.pinned (OpenSpec.ofChange setPartsWrong)

/-- 'charterhouselaw15.SetLater': WHATEVER THE INPUT: true; the input reads as it did. -/
def setLaterSpec : ChangeSpec := { name := "setLater", fn := fun _ => fun
  | [d1, d2, d3, d4] => { results := [.lit (.bool true)], args := [d1, d2, d3, d4] }
  | _ => none }
def setLaterRow : OpenClaim := { program := "ytbggkfomfeeikaagreatdoor", sum := "17259434eda77a2e700fd7050d78f52a4cd977864a574ddfe291b52c948fddcd", func := "charterhouse/charterhouselaw15.SetLater", spec := "setLater", unfollowed := true, recurses := true, named := ["charterhouse/ptr.sizes"], apart := false, laid := [("charterhouse/ptr.sizes", laid_charterhouse_ptr_sizes)] }
def SetLaterSaid : Prop := setLaterRow.holds Tryz.pinned (OpenSpec.ofChange setLaterSpec)

/-- ITS FALSE NEIGHBOUR: 'it returns false'. Refute it at one input. -/
def setLaterWrong : ChangeSpec := { name := "setLater", fn := fun _ => fun
  | [d1, d2, d3, d4] => { results := [.lit (.bool false)], args := [d1, d2, d3, d4] }
  | _ => none }
def SetLaterWrongFalsely : Prop := setLaterRow.holds Tryz.pinned (OpenSpec.ofChange setLaterWrong)

/-- 'charterhouselaw15.SetAlone': WHATEVER THE INPUT: true; the input reads as it did. -/
def setAloneSpec : ChangeSpec := { name := "setAlone", fn := fun _ => fun
  | [d1, d2, d3, d4, d5] => { results := [.lit (.bool true)], args := [d1, d2, d3, d4, d5] }
  | _ => none }
def setAloneRow : OpenClaim := { program := "ytbggkfomfeeikaagreatdoor", sum := "17259434eda77a2e700fd7050d78f52a4cd977864a574ddfe291b52c948fddcd", func := "charterhouse/charterhouselaw15.SetAlone", spec := "setAlone", unfollowed := true, recurses := true, named := ["charterhouse/ptr.sizes"], apart := false, laid := [("charterhouse/ptr.sizes", laid_charterhouse_ptr_sizes)] }
def SetAloneSaid : Prop := setAloneRow.holds Tryz.pinned (OpenSpec.ofChange setAloneSpec)

/-- ITS FALSE NEIGHBOUR: 'it returns false'. Refute it at one input. -/
def setAloneWrong : ChangeSpec := { name := "setAlone", fn := fun _ => fun
  | [d1, d2, d3, d4, d5] => { results := [.lit (.bool false)], args := [d1, d2, d3, d4, d5] }
  | _ => none }
def SetAloneWrongFalsely : Prop := setAloneRow.holds Tryz.pinned (OpenSpec.ofChange setAloneWrong)

/- THE SECOND FORM. 'bulk': how many values and letters a reading holds, each counted each time it is reached (what is shared counts as often as it is met; a slice's spare places count too). A statement '..UptoSaid' is the law's where the arguments, and the package variables that the reading takes, are together of bulk at most 1048576: NARROWER than '..Said'. Prove '..Said' where nothing that the law and all that it calls make is longer than what came in: it says more and counts as full. Else prove '..UptoSaid'. A law counts once. -/
mutual
def uptoBulk {H : Type} : DataW H → Nat
  | .lit (.string bytes) => bytes.length + 1
  | .lit _ => 1
  | .nil => 1
  | .ptr d => uptoBulk d + 1
  | .slice elems spare => uptoBulkAll elems + uptoBulkAll spare + 1
  | .agg parts => uptoBulkAll parts + 1
  | .iface _ d => uptoBulk d + 1
  | .map entries => uptoBulkEntries entries + 1
  | .held _ => 1
def uptoBulkAll {H : Type} : List (DataW H) → Nat
  | [] => 0
  | d :: r => uptoBulk d + uptoBulkAll r
def uptoBulkEntries {H : Type} : List (Lit × DataW H) → Nat
  | [] => 0
  | x :: r => uptoBulkEntry x + uptoBulkEntries r
def uptoBulkEntry {H : Type} : Lit × DataW H → Nat
  | (.string bytes, d) => bytes.length + uptoBulk d + 1
  | (_, d) => uptoBulk d + 1
 end
def uptoSmall : (H : Type) → List (DataW H) → Bool := fun _ ds => decide (uptoBulkAll ds ≤ 1048576)
def OpenSpec.upto (s : _root_.Go.ChangeSpec) : _root_.Go.OpenSpec := { _root_.Go.OpenSpec.ofChange s with cond := some uptoSmall }

/-- 'charterhouselaw15.SetNames', WHERE WHAT IT READS IS OF BULK AT MOST 1048576: true; the input reads as it did. -/
def setNamesUptoRow : OpenClaim := { program := "ytbggkfomfeeikaagreatdoor", sum := "17259434eda77a2e700fd7050d78f52a4cd977864a574ddfe291b52c948fddcd", func := "charterhouse/charterhouselaw15.SetNames", spec := "setNames", unfollowed := true, recurses := true, named := ["charterhouse/ptr.sizes"], apart := false, laid := [("charterhouse/ptr.sizes", laid_charterhouse_ptr_sizes)], narrowed := true }
def SetNamesUptoSaid : Prop := setNamesUptoRow.holds Tryz.pinned (OpenSpec.upto setNamesSpec)

/-- 'charterhouselaw15.SetTells', WHERE WHAT IT READS IS OF BULK AT MOST 1048576: true; the input reads as it did. -/
def setTellsUptoRow : OpenClaim := { program := "ytbggkfomfeeikaagreatdoor", sum := "17259434eda77a2e700fd7050d78f52a4cd977864a574ddfe291b52c948fddcd", func := "charterhouse/charterhouselaw15.SetTells", spec := "setTells", unfollowed := true, recurses := true, named := ["charterhouse/ptr.sizes"], apart := false, laid := [("charterhouse/ptr.sizes", laid_charterhouse_ptr_sizes)], narrowed := true }
def SetTellsUptoSaid : Prop := setTellsUptoRow.holds Tryz.pinned (OpenSpec.upto setTellsSpec)

/-- 'charterhouselaw15.SetYoung', WHERE WHAT IT READS IS OF BULK AT MOST 1048576: true; the input reads as it did. -/
def setYoungUptoRow : OpenClaim := { program := "ytbggkfomfeeikaagreatdoor", sum := "17259434eda77a2e700fd7050d78f52a4cd977864a574ddfe291b52c948fddcd", func := "charterhouse/charterhouselaw15.SetYoung", spec := "setYoung", unfollowed := true, recurses := true, named := ["charterhouse/ptr.sizes"], apart := false, laid := [("charterhouse/ptr.sizes", laid_charterhouse_ptr_sizes)], narrowed := true }
def SetYoungUptoSaid : Prop := setYoungUptoRow.holds Tryz.pinned (OpenSpec.upto setYoungSpec)

/-- 'charterhouselaw15.SetParts', WHERE WHAT IT READS IS OF BULK AT MOST 1048576: true; the input reads as it did. -/
def setPartsUptoRow : OpenClaim := { program := "ytbggkfomfeeikaagreatdoor", sum := "17259434eda77a2e700fd7050d78f52a4cd977864a574ddfe291b52c948fddcd", func := "charterhouse/charterhouselaw15.SetParts", spec := "setParts", unfollowed := true, recurses := true, named := ["charterhouse/ptr.sizes"], apart := false, laid := [("charterhouse/ptr.sizes", laid_charterhouse_ptr_sizes)], narrowed := true }
def SetPartsUptoSaid : Prop := setPartsUptoRow.holds Tryz.pinned (OpenSpec.upto setPartsSpec)

/-- 'charterhouselaw15.SetLater', WHERE WHAT IT READS IS OF BULK AT MOST 1048576: true; the input reads as it did. -/
def setLaterUptoRow : OpenClaim := { program := "ytbggkfomfeeikaagreatdoor", sum := "17259434eda77a2e700fd7050d78f52a4cd977864a574ddfe291b52c948fddcd", func := "charterhouse/charterhouselaw15.SetLater", spec := "setLater", unfollowed := true, recurses := true, named := ["charterhouse/ptr.sizes"], apart := false, laid := [("charterhouse/ptr.sizes", laid_charterhouse_ptr_sizes)], narrowed := true }
def SetLaterUptoSaid : Prop := setLaterUptoRow.holds Tryz.pinned (OpenSpec.upto setLaterSpec)

/-- 'charterhouselaw15.SetAlone', WHERE WHAT IT READS IS OF BULK AT MOST 1048576: true; the input reads as it did. -/
def setAloneUptoRow : OpenClaim := { program := "ytbggkfomfeeikaagreatdoor", sum := "17259434eda77a2e700fd7050d78f52a4cd977864a574ddfe291b52c948fddcd", func := "charterhouse/charterhouselaw15.SetAlone", spec := "setAlone", unfollowed := true, recurses := true, named := ["charterhouse/ptr.sizes"], apart := false, laid := [("charterhouse/ptr.sizes", laid_charterhouse_ptr_sizes)], narrowed := true }
def SetAloneUptoSaid : Prop := setAloneUptoRow.holds Tryz.pinned (OpenSpec.upto setAloneSpec)

end Rows
end Go.Proofs.YtbggkfomfeeikaaGreatDoor
