/-
  NARROWER THAN 'FOR EVERY INPUT', by the rows' own cells (each row's printed sentence says how): PtrNames: laid · PtrBytes: laid · PtrBack: laid · PtrRows: laid · PtrUnlike: laid · PtrPlaces: laid.
  DERIVED. THE GIVEN ROWS OF THIS SEAT. 6 by the template 'for every input the law returns true; each argument reads behind the call as it read before'; 0 by the template 'total and deterministic' (their statements: YtlogglmdfnakkaaDoorTotals.lean).
  GIVEN WITH THE SEED: the statements are not yours to turn. If you find one false, say at which input.
  Laid BY PROGRAM, IN A SANDBOX (cutbox-rows.mjs): the forced cells as the released guide's own fill.sh prints them over the translation 8292902902091533… (all of the seat's roots in one cut). By AI agents, Wed Nov 11 2026. No macro, syntax, notation, axiom, sorry.
-/
import Derived.Test.YtlogglmdfnakkaaDoorChecked
import GoSem.Claim
import GoSem.ClaimJoined
import GoSem.ClaimMapViews
import Derived.JoinedTies
import Derived.KernelRfl
namespace Go.Proofs.YtlogglmdfnakkaaDoor
/- THE CELL 'sum', in the pinned program and in every row, IS THE sha256 OF THE DUMP (.gsa) THAT YtlogglmdfnakkaaDoorProg.lean LOADS. Nothing in Lean hashes anything: it is a label: what it is worth is what the hold of that sum in a sandbox is worth. -/
noncomputable def Tryd.pinned : Pinned := { name := "ytlogglmdfnakkaadoor", sum := "8292902902091533f370f725641bfb91308d6d1034fbd2f92dc07f283122f8b8", checked := Tryd.checked }
namespace Rows
def none {H : Type} : Left H := { results := [], args := [] }

/- WHAT THE LISTED PACKAGE-LEVEL VARIABLES READ AS WHEN THE CALL BEGINS. Each datum BY PROGRAM (the guide's laid-datum.mjs) off the statement by which the dump's own 'gosem.cut.vars' lays the variable. In a bare row this is a premise. The card (YtlogglmdfnakkaaDoorCards.lean) ties it to the program's text. -/
def laid_charterhouse_ptr_sizes {H : Type} : DataW H := .agg [.lit (.int .i64 1), .lit (.int .i64 3), .lit (.int .i64 4), .lit (.int .i64 4), .lit (.int .i64 4)]

/-- 'charterhouselaw10.PtrNames': WHATEVER THE INPUT: true; the input reads as it did. -/
def ptrNamesSpec : ChangeSpec := { name := "ptrNames", fn := fun _ => fun
  | [] => { results := [.lit (.bool true)], args := [] }
  | _ => none }
def ptrNamesRow : OpenClaim := { program := "ytlogglmdfnakkaadoor", sum := "8292902902091533f370f725641bfb91308d6d1034fbd2f92dc07f283122f8b8", func := "charterhouse/charterhouselaw10.PtrNames", spec := "ptrNames", unfollowed := true, recurses := true, named := ["charterhouse/ptr.sizes"], apart := false, laid := [("charterhouse/ptr.sizes", laid_charterhouse_ptr_sizes)] }
def PtrNamesSaid : Prop := ptrNamesRow.holds Tryd.pinned (OpenSpec.ofChange ptrNamesSpec)

/-- ITS FALSE NEIGHBOUR: 'it returns false'. Refute it at one input. -/
def ptrNamesWrong : ChangeSpec := { name := "ptrNames", fn := fun _ => fun
  | [] => { results := [.lit (.bool false)], args := [] }
  | _ => none }
def PtrNamesWrongFalsely : Prop := ptrNamesRow.holds Tryd.pinned (OpenSpec.ofChange ptrNamesWrong)

/-- 'charterhouselaw10.PtrBytes': WHATEVER THE INPUT: true; the input reads as it did. -/
def ptrBytesSpec : ChangeSpec := { name := "ptrBytes", fn := fun _ => fun
  | [d1, d2, d3] => { results := [.lit (.bool true)], args := [d1, d2, d3] }
  | _ => none }
def ptrBytesRow : OpenClaim := { program := "ytlogglmdfnakkaadoor", sum := "8292902902091533f370f725641bfb91308d6d1034fbd2f92dc07f283122f8b8", func := "charterhouse/charterhouselaw10.PtrBytes", spec := "ptrBytes", unfollowed := true, recurses := true, named := ["charterhouse/ptr.sizes"], apart := false, laid := [("charterhouse/ptr.sizes", laid_charterhouse_ptr_sizes)] }
def PtrBytesSaid : Prop := ptrBytesRow.holds Tryd.pinned (OpenSpec.ofChange ptrBytesSpec)

/-- ITS FALSE NEIGHBOUR: 'it returns false'. Refute it at one input. -/
def ptrBytesWrong : ChangeSpec := { name := "ptrBytes", fn := fun _ => fun
  | [d1, d2, d3] => { results := [.lit (.bool false)], args := [d1, d2, d3] }
  | _ => none }
def PtrBytesWrongFalsely : Prop := ptrBytesRow.holds Tryd.pinned (OpenSpec.ofChange ptrBytesWrong)

/-- 'charterhouselaw10.PtrBack': WHATEVER THE INPUT: true; the input reads as it did. -/
def ptrBackSpec : ChangeSpec := { name := "ptrBack", fn := fun _ => fun
  | [d1, d2] => { results := [.lit (.bool true)], args := [d1, d2] }
  | _ => none }
def ptrBackRow : OpenClaim := { program := "ytlogglmdfnakkaadoor", sum := "8292902902091533f370f725641bfb91308d6d1034fbd2f92dc07f283122f8b8", func := "charterhouse/charterhouselaw10.PtrBack", spec := "ptrBack", unfollowed := true, recurses := true, named := ["charterhouse/ptr.sizes"], apart := false, laid := [("charterhouse/ptr.sizes", laid_charterhouse_ptr_sizes)] }
def PtrBackSaid : Prop := ptrBackRow.holds Tryd.pinned (OpenSpec.ofChange ptrBackSpec)

/-- ITS FALSE NEIGHBOUR: 'it returns false'. Refute it at one input. -/
def ptrBackWrong : ChangeSpec := { name := "ptrBack", fn := fun _ => fun
  | [d1, d2] => { results := [.lit (.bool false)], args := [d1, d2] }
  | _ => none }
def PtrBackWrongFalsely : Prop := ptrBackRow.holds Tryd.pinned (OpenSpec.ofChange ptrBackWrong)

/-- 'charterhouselaw10.PtrRows': WHATEVER THE INPUT: true; the input reads as it did. -/
def ptrRowsSpec : ChangeSpec := { name := "ptrRows", fn := fun _ => fun
  | [d1, d2] => { results := [.lit (.bool true)], args := [d1, d2] }
  | _ => none }
def ptrRowsRow : OpenClaim := { program := "ytlogglmdfnakkaadoor", sum := "8292902902091533f370f725641bfb91308d6d1034fbd2f92dc07f283122f8b8", func := "charterhouse/charterhouselaw10.PtrRows", spec := "ptrRows", unfollowed := true, recurses := true, named := ["charterhouse/ptr.sizes"], apart := false, laid := [("charterhouse/ptr.sizes", laid_charterhouse_ptr_sizes)] }
def PtrRowsSaid : Prop := ptrRowsRow.holds Tryd.pinned (OpenSpec.ofChange ptrRowsSpec)

/-- ITS FALSE NEIGHBOUR: 'it returns false'. Refute it at one input. -/
def ptrRowsWrong : ChangeSpec := { name := "ptrRows", fn := fun _ => fun
  | [d1, d2] => { results := [.lit (.bool false)], args := [d1, d2] }
  | _ => none }
def PtrRowsWrongFalsely : Prop := ptrRowsRow.holds Tryd.pinned (OpenSpec.ofChange ptrRowsWrong)

/-- 'charterhouselaw10.PtrUnlike': WHATEVER THE INPUT: true; the input reads as it did. -/
def ptrUnlikeSpec : ChangeSpec := { name := "ptrUnlike", fn := fun _ => fun
  | [d1, d2] => { results := [.lit (.bool true)], args := [d1, d2] }
  | _ => none }
def ptrUnlikeRow : OpenClaim := { program := "ytlogglmdfnakkaadoor", sum := "8292902902091533f370f725641bfb91308d6d1034fbd2f92dc07f283122f8b8", func := "charterhouse/charterhouselaw10.PtrUnlike", spec := "ptrUnlike", unfollowed := true, recurses := true, named := ["charterhouse/ptr.sizes"], apart := false, laid := [("charterhouse/ptr.sizes", laid_charterhouse_ptr_sizes)] }
def PtrUnlikeSaid : Prop := ptrUnlikeRow.holds Tryd.pinned (OpenSpec.ofChange ptrUnlikeSpec)

/-- ITS FALSE NEIGHBOUR: 'it returns false'. Refute it at one input. -/
def ptrUnlikeWrong : ChangeSpec := { name := "ptrUnlike", fn := fun _ => fun
  | [d1, d2] => { results := [.lit (.bool false)], args := [d1, d2] }
  | _ => none }
def PtrUnlikeWrongFalsely : Prop := ptrUnlikeRow.holds Tryd.pinned (OpenSpec.ofChange ptrUnlikeWrong)

/-- 'charterhouselaw10.PtrPlaces': WHATEVER THE INPUT: true; the input reads as it did. -/
def ptrPlacesSpec : ChangeSpec := { name := "ptrPlaces", fn := fun _ => fun
  | [d] => { results := [.lit (.bool true)], args := [d] }
  | _ => none }
def ptrPlacesRow : OpenClaim := { program := "ytlogglmdfnakkaadoor", sum := "8292902902091533f370f725641bfb91308d6d1034fbd2f92dc07f283122f8b8", func := "charterhouse/charterhouselaw10.PtrPlaces", spec := "ptrPlaces", unfollowed := true, recurses := true, named := ["charterhouse/ptr.sizes"], apart := false, laid := [("charterhouse/ptr.sizes", laid_charterhouse_ptr_sizes)] }
def PtrPlacesSaid : Prop := ptrPlacesRow.holds Tryd.pinned (OpenSpec.ofChange ptrPlacesSpec)

/-- ITS FALSE NEIGHBOUR: 'it returns false'. Refute it at one input. -/
def ptrPlacesWrong : ChangeSpec := { name := "ptrPlaces", fn := fun _ => fun
  | [d] => { results := [.lit (.bool false)], args := [d] }
  | _ => none }
def PtrPlacesWrongFalsely : Prop := ptrPlacesRow.holds Tryd.pinned (OpenSpec.ofChange ptrPlacesWrong)

/- THE SECOND FORM. 'bulk': how many values and letters a reading holds, each counted each time it is reached (what is shared counts as often as it is met; a slice's spare places count too). A statement '..UptoSaid' is the law's where the arguments, and the package variables that the reading takes, are together of bulk at most 1048576: NARROWER than '..Said'. Prove '..Said' where nothing that the law and all that it calls make is longer than what came in: it says more and counts as full. Else prove '..UptoSaid'. A law counts once. -/
mutual
def uptoBulk {H : Type} : DataW H → Nat
  | .lit (.string bytes) => bytes.length + 1
  | .lit _ => 1
  | .nil => 1
  | .ptr d => uptoBulk d + 1
  | .slice elems spare => uptoBulkAll elems + uptoBulkAll spare + 1
  | .agg parts => uptoBulkAll parts + 1
  | .iface _ d => uptoBulk d + 1
  | .map entries => uptoBulkEntries entries + 1
  | .held _ => 1
def uptoBulkAll {H : Type} : List (DataW H) → Nat
  | [] => 0
  | d :: r => uptoBulk d + uptoBulkAll r
def uptoBulkEntries {H : Type} : List (Lit × DataW H) → Nat
  | [] => 0
  | x :: r => uptoBulkEntry x + uptoBulkEntries r
def uptoBulkEntry {H : Type} : Lit × DataW H → Nat
  | (.string bytes, d) => bytes.length + uptoBulk d + 1
  | (_, d) => uptoBulk d + 1
 end
def uptoSmall : (H : Type) → List (DataW H) → Bool := fun _ ds => decide (uptoBulkAll ds ≤ 1048576)
def OpenSpec.upto (s : _root_.Go.ChangeSpec) : _root_.Go.OpenSpec := { _root_.Go.OpenSpec.ofChange s with cond := some uptoSmall }

/-- 'charterhouselaw10.PtrNames', WHERE WHAT IT READS IS OF BULK AT MOST 1048576: true; the input reads as it did. -/
def ptrNamesUptoRow : OpenClaim := { program := "ytlogglmdfnakkaadoor", sum := "8292902902091533f370f725641bfb91308d6d1034fbd2f92dc07f283122f8b8", func := "charterhouse/charterhouselaw10.PtrNames", spec := "ptrNames", unfollowed := true, recurses := true, named := ["charterhouse/ptr.sizes"], apart := false, laid := [("charterhouse/ptr.sizes", laid_charterhouse_ptr_sizes)], narrowed := true }
def PtrNamesUptoSaid : Prop := ptrNamesUptoRow.holds Tryd.pinned (OpenSpec.upto ptrNamesSpec)

/-- 'charterhouselaw10.PtrBytes', WHERE WHAT IT READS IS OF BULK AT MOST 1048576: true; the input reads as it did. -/
def ptrBytesUptoRow : OpenClaim := { program := "ytlogglmdfnakkaadoor", sum := "8292902902091533f370f725641bfb91308d6d1034fbd2f92dc07f283122f8b8", func := "charterhouse/charterhouselaw10.PtrBytes", spec := "ptrBytes", unfollowed := true, recurses := true, named := ["charterhouse/ptr.sizes"], apart := false, laid := [("charterhouse/ptr.sizes", laid_charterhouse_ptr_sizes)], narrowed := true }
def PtrBytesUptoSaid : Prop := ptrBytesUptoRow.holds Tryd.pinned (OpenSpec.upto ptrBytesSpec)

/-- 'charterhouselaw10.PtrBack', WHERE WHAT IT READS IS OF BULK AT MOST 1048576: true; the input reads as it did. -/
def ptrBackUptoRow : OpenClaim := { program := "ytlogglmdfnakkaadoor", sum := "8292902902091533f370f725641bfb91308d6d1034fbd2f92dc07f283122f8b8", func := "charterhouse/charterhouselaw10.PtrBack", spec := "ptrBack", unfollowed := true, recurses := true, named := ["charterhouse/ptr.sizes"], apart := false, laid := [("charterhouse/ptr.sizes", laid_charterhouse_ptr_sizes)], narrowed := true }
def PtrBackUptoSaid : Prop := ptrBackUptoRow.holds Tryd.pinned (OpenSpec.upto ptrBackSpec)

/-- 'charterhouselaw10.PtrRows', WHERE WHAT IT READS IS OF BULK AT MOST 1048576: true; the input reads as it did. -/
def ptrRowsUptoRow : OpenClaim := { program := "ytlogglmdfnakkaadoor", sum := "8292902902091533f370f725641bfb91308d6d1034fbd2f92dc07f283122f8b8", func := "charterhouse/charterhouselaw10.PtrRows", spec := "ptrRows", unfollowed := true, recurses := true, named := ["charterhouse/ptr.sizes"], apart := false, laid := [("charterhouse/ptr.sizes", laid_charterhouse_ptr_sizes)], narrowed := true }
def PtrRowsUptoSaid : Prop := ptrRowsUptoRow.holds Tryd.pinned (OpenSpec.upto ptrRowsSpec)

/-- 'charterhouselaw10.PtrUnlike', WHERE WHAT IT READS IS OF BULK AT MOST 1048576: true; the input reads as it did. -/
def ptrUnlikeUptoRow : OpenClaim := { program := "ytlogglmdfnakkaadoor", sum := "8292902902091533f370f725641bfb91308d6d1034fbd2f92dc07f283122f8b8", func := "charterhouse/charterhouselaw10.PtrUnlike", spec := "ptrUnlike", unfollowed := true, recurses := true, named := ["charterhouse/ptr.sizes"], apart := false, laid := [("charterhouse/ptr.sizes", laid_charterhouse_ptr_sizes)], narrowed := true }
def PtrUnlikeUptoSaid : Prop := ptrUnlikeUptoRow.holds Tryd.pinned (OpenSpec.upto ptrUnlikeSpec)

/-- 'charterhouselaw10.PtrPlaces', WHERE WHAT IT READS IS OF BULK AT MOST 1048576: true; the input reads as it did. -/
def ptrPlacesUptoRow : OpenClaim := { program := "ytlogglmdfnakkaadoor", sum := "8292902902091533f370f725641bfb91308d6d1034fbd2f92dc07f283122f8b8", func := "charterhouse/charterhouselaw10.PtrPlaces", spec := "ptrPlaces", unfollowed := true, recurses := true, named := ["charterhouse/ptr.sizes"], apart := false, laid := [("charterhouse/ptr.sizes", laid_charterhouse_ptr_sizes)], narrowed := true }
def PtrPlacesUptoSaid : Prop := ptrPlacesUptoRow.holds Tryd.pinned (OpenSpec.upto ptrPlacesSpec)

end Rows
end Go.Proofs.YtlogglmdfnakkaaDoor
