/-
  NARROWER THAN 'FOR EVERY INPUT', by the rows' own cells (each row's printed sentence says how): ObjNames: laid · ObjBlocks: laid · ObjBack: laid · ObjParts: laid · ObjBounds: laid.
  DERIVED. THE GIVEN ROWS OF THIS SEAT. 5 by the template 'for every input the law returns true; each argument reads behind the call as it read before'; 0 by the template 'total and deterministic' (their statements: YtennhempdnpobaaDoorTotals.lean).
  GIVEN WITH THE SEED: the statements are not yours to turn. If you find one false, say at which input.
  Laid BY PROGRAM, IN A SANDBOX (cutbox-rows.mjs): the forced cells as the released guide's own fill.sh prints them over the translation b80aa8f457846511… (all of the seat's roots in one cut). By AI agents, Wed Nov 11 2026. No macro, syntax, notation, axiom, sorry.
-/
import Derived.Test.YtennhempdnpobaaDoorChecked
import GoSem.Claim
import GoSem.ClaimJoined
import GoSem.ClaimMapViews
import Derived.JoinedTies
import Derived.KernelRfl
namespace Go.Proofs.YtennhempdnpobaaDoor
/- THE CELL 'sum', in the pinned program and in every row, IS THE sha256 OF THE DUMP (.gsa) THAT YtennhempdnpobaaDoorProg.lean LOADS. Nothing in Lean hashes anything: it is a label: what it is worth is what the hold of that sum in a sandbox is worth. -/
noncomputable def Tryd.pinned : Pinned := { name := "ytennhempdnpobaadoor", sum := "b80aa8f457846511bbe158c3135958dcf51a74ee1e74d0695cf5251f4657c181", checked := Tryd.checked }
namespace Rows
def none {H : Type} : Left H := { results := [], args := [] }

/- WHAT THE LISTED PACKAGE-LEVEL VARIABLES READ AS WHEN THE CALL BEGINS. Each datum BY PROGRAM (the guide's laid-datum.mjs) off the statement by which the dump's own 'gosem.cut.vars' lays the variable. In a bare row this is a premise. The card (YtennhempdnpobaaDoorCards.lean) ties it to the program's text. -/
def laid_charterhouse_ptr_sizes {H : Type} : DataW H := .agg [.lit (.int .i64 1), .lit (.int .i64 3), .lit (.int .i64 4), .lit (.int .i64 4), .lit (.int .i64 4)]

/-- 'charterhouselaw14.ObjNames': WHATEVER THE INPUT: true; the input reads as it did. -/
def objNamesSpec : ChangeSpec := { name := "objNames", fn := fun _ => fun
  | [] => { results := [.lit (.bool true)], args := [] }
  | _ => none }
def objNamesRow : OpenClaim := { program := "ytennhempdnpobaadoor", sum := "b80aa8f457846511bbe158c3135958dcf51a74ee1e74d0695cf5251f4657c181", func := "charterhouse/charterhouselaw14.ObjNames", spec := "objNames", unfollowed := true, recurses := true, named := ["charterhouse/ptr.sizes"], apart := false, laid := [("charterhouse/ptr.sizes", laid_charterhouse_ptr_sizes)] }
def ObjNamesSaid : Prop := objNamesRow.holds Tryd.pinned (OpenSpec.ofChange objNamesSpec)

/-- ITS FALSE NEIGHBOUR: 'it returns false'. Refute it at one input. -/
def objNamesWrong : ChangeSpec := { name := "objNames", fn := fun _ => fun
  | [] => { results := [.lit (.bool false)], args := [] }
  | _ => none }
def ObjNamesWrongFalsely : Prop := objNamesRow.holds Tryd.pinned (OpenSpec.ofChange objNamesWrong)

/-- 'charterhouselaw14.ObjBlocks': WHATEVER THE INPUT: true; the input reads as it did. -/
def objBlocksSpec : ChangeSpec := { name := "objBlocks", fn := fun _ => fun
  | [d1, d2, d3] => { results := [.lit (.bool true)], args := [d1, d2, d3] }
  | _ => none }
def objBlocksRow : OpenClaim := { program := "ytennhempdnpobaadoor", sum := "b80aa8f457846511bbe158c3135958dcf51a74ee1e74d0695cf5251f4657c181", func := "charterhouse/charterhouselaw14.ObjBlocks", spec := "objBlocks", unfollowed := true, recurses := true, named := ["charterhouse/ptr.sizes"], apart := false, laid := [("charterhouse/ptr.sizes", laid_charterhouse_ptr_sizes)] }
def ObjBlocksSaid : Prop := objBlocksRow.holds Tryd.pinned (OpenSpec.ofChange objBlocksSpec)

/-- ITS FALSE NEIGHBOUR: 'it returns false'. Refute it at one input. -/
def objBlocksWrong : ChangeSpec := { name := "objBlocks", fn := fun _ => fun
  | [d1, d2, d3] => { results := [.lit (.bool false)], args := [d1, d2, d3] }
  | _ => none }
def ObjBlocksWrongFalsely : Prop := objBlocksRow.holds Tryd.pinned (OpenSpec.ofChange objBlocksWrong)

/-- 'charterhouselaw14.ObjBack': WHATEVER THE INPUT: true; the input reads as it did. -/
def objBackSpec : ChangeSpec := { name := "objBack", fn := fun _ => fun
  | [d1, d2] => { results := [.lit (.bool true)], args := [d1, d2] }
  | _ => none }
def objBackRow : OpenClaim := { program := "ytennhempdnpobaadoor", sum := "b80aa8f457846511bbe158c3135958dcf51a74ee1e74d0695cf5251f4657c181", func := "charterhouse/charterhouselaw14.ObjBack", spec := "objBack", unfollowed := true, recurses := true, named := ["charterhouse/ptr.sizes"], apart := false, laid := [("charterhouse/ptr.sizes", laid_charterhouse_ptr_sizes)] }
def ObjBackSaid : Prop := objBackRow.holds Tryd.pinned (OpenSpec.ofChange objBackSpec)

/-- ITS FALSE NEIGHBOUR: 'it returns false'. Refute it at one input. -/
def objBackWrong : ChangeSpec := { name := "objBack", fn := fun _ => fun
  | [d1, d2] => { results := [.lit (.bool false)], args := [d1, d2] }
  | _ => none }
def ObjBackWrongFalsely : Prop := objBackRow.holds Tryd.pinned (OpenSpec.ofChange objBackWrong)

/-- 'charterhouselaw14.ObjParts': WHATEVER THE INPUT: true; the input reads as it did. -/
def objPartsSpec : ChangeSpec := { name := "objParts", fn := fun _ => fun
  | [d1, d2] => { results := [.lit (.bool true)], args := [d1, d2] }
  | _ => none }
def objPartsRow : OpenClaim := { program := "ytennhempdnpobaadoor", sum := "b80aa8f457846511bbe158c3135958dcf51a74ee1e74d0695cf5251f4657c181", func := "charterhouse/charterhouselaw14.ObjParts", spec := "objParts", unfollowed := true, recurses := true, named := ["charterhouse/ptr.sizes"], apart := false, laid := [("charterhouse/ptr.sizes", laid_charterhouse_ptr_sizes)] }
def ObjPartsSaid : Prop := objPartsRow.holds Tryd.pinned (OpenSpec.ofChange objPartsSpec)

/-- ITS FALSE NEIGHBOUR: 'it returns false'. Refute it at one input. -/
def objPartsWrong : ChangeSpec := { name := "objParts", fn := fun _ => fun
  | [d1, d2] => { results := [.lit (.bool false)], args := [d1, d2] }
  | _ => none }
def ObjPartsWrongFalsely : Prop := objPartsRow.holds Tryd.pinned (OpenSpec.ofChange objPartsWrong)

/-- 'charterhouselaw14.ObjBounds': WHATEVER THE INPUT: true; the input reads as it did. -/
def objBoundsSpec : ChangeSpec := { name := "objBounds", fn := fun _ => fun
  | [d1, d2, d3, d4, d5] => { results := [.lit (.bool true)], args := [d1, d2, d3, d4, d5] }
  | _ => none }
def objBoundsRow : OpenClaim := { program := "ytennhempdnpobaadoor", sum := "b80aa8f457846511bbe158c3135958dcf51a74ee1e74d0695cf5251f4657c181", func := "charterhouse/charterhouselaw14.ObjBounds", spec := "objBounds", unfollowed := true, recurses := true, named := ["charterhouse/ptr.sizes"], apart := false, laid := [("charterhouse/ptr.sizes", laid_charterhouse_ptr_sizes)] }
def ObjBoundsSaid : Prop := objBoundsRow.holds Tryd.pinned (OpenSpec.ofChange objBoundsSpec)

/-- ITS FALSE NEIGHBOUR: 'it returns false'. Refute it at one input. -/
def objBoundsWrong : ChangeSpec := { name := "objBounds", fn := fun _ => fun
  | [d1, d2, d3, d4, d5] => { results := [.lit (.bool false)], args := [d1, d2, d3, d4, d5] }
  | _ => none }
def ObjBoundsWrongFalsely : Prop := objBoundsRow.holds Tryd.pinned (OpenSpec.ofChange objBoundsWrong)

/- THE SECOND FORM. 'bulk': how many values and letters a reading holds, each counted each time it is reached (what is shared counts as often as it is met; a slice's spare places count too). A statement '..UptoSaid' is the law's where the arguments, and the package variables that the reading takes, are together of bulk at most 1048576: NARROWER than '..Said'. Prove '..Said' where nothing that the law and all that it calls make is longer than what came in: it says more and counts as full. Else prove '..UptoSaid'. A law counts once. -/
mutual
def uptoBulk {H : Type} : DataW H → Nat
  | .lit (.string bytes) => bytes.length + 1
  | .lit _ => 1
  | .nil => 1
  | .ptr d => uptoBulk d + 1
  | .slice elems spare => uptoBulkAll elems + uptoBulkAll spare + 1
  | .agg parts => uptoBulkAll parts + 1
  | .iface _ d => uptoBulk d + 1
  | .map entries => uptoBulkEntries entries + 1
  | .held _ => 1
def uptoBulkAll {H : Type} : List (DataW H) → Nat
  | [] => 0
  | d :: r => uptoBulk d + uptoBulkAll r
def uptoBulkEntries {H : Type} : List (Lit × DataW H) → Nat
  | [] => 0
  | x :: r => uptoBulkEntry x + uptoBulkEntries r
def uptoBulkEntry {H : Type} : Lit × DataW H → Nat
  | (.string bytes, d) => bytes.length + uptoBulk d + 1
  | (_, d) => uptoBulk d + 1
 end
def uptoSmall : (H : Type) → List (DataW H) → Bool := fun _ ds => decide (uptoBulkAll ds ≤ 1048576)
def OpenSpec.upto (s : _root_.Go.ChangeSpec) : _root_.Go.OpenSpec := { _root_.Go.OpenSpec.ofChange s with cond := some uptoSmall }

/-- 'charterhouselaw14.ObjNames', WHERE WHAT IT READS IS OF BULK AT MOST 1048576: true; the input reads as it did. -/
def objNamesUptoRow : OpenClaim := { program := "ytennhempdnpobaadoor", sum := "b80aa8f457846511bbe158c3135958dcf51a74ee1e74d0695cf5251f4657c181", func := "charterhouse/charterhouselaw14.ObjNames", spec := "objNames", unfollowed := true, recurses := true, named := ["charterhouse/ptr.sizes"], apart := false, laid := [("charterhouse/ptr.sizes", laid_charterhouse_ptr_sizes)], narrowed := true }
def ObjNamesUptoSaid : Prop := objNamesUptoRow.holds Tryd.pinned (OpenSpec.upto objNamesSpec)

/-- 'charterhouselaw14.ObjBlocks', WHERE WHAT IT READS IS OF BULK AT MOST 1048576: true; the input reads as it did. -/
def objBlocksUptoRow : OpenClaim := { program := "ytennhempdnpobaadoor", sum := "b80aa8f457846511bbe158c3135958dcf51a74ee1e74d0695cf5251f4657c181", func := "charterhouse/charterhouselaw14.ObjBlocks", spec := "objBlocks", unfollowed := true, recurses := true, named := ["charterhouse/ptr.sizes"], apart := false, laid := [("charterhouse/ptr.sizes", laid_charterhouse_ptr_sizes)], narrowed := true }
def ObjBlocksUptoSaid : Prop := objBlocksUptoRow.holds Tryd.pinned (OpenSpec.upto objBlocksSpec)

/-- 'charterhouselaw14.ObjBack', WHERE WHAT IT READS IS OF BULK AT MOST 1048576: true; the input reads as it did. -/
def objBackUptoRow : OpenClaim := { program := "ytennhempdnpobaadoor", sum := "b80aa8f457846511bbe158c3135958dcf51a74ee1e74d0695cf5251f4657c181", func := "charterhouse/charterhouselaw14.ObjBack", spec := "objBack", unfollowed := true, recurses := true, named := ["charterhouse/ptr.sizes"], apart := false, laid := [("charterhouse/ptr.sizes", laid_charterhouse_ptr_sizes)], narrowed := true }
def ObjBackUptoSaid : Prop := objBackUptoRow.holds Tryd.pinned (OpenSpec.upto objBackSpec)

/-- 'charterhouselaw14.ObjParts', WHERE WHAT IT READS IS OF BULK AT MOST 1048576: true; the input reads as it did. -/
def objPartsUptoRow : OpenClaim := { program := "ytennhempdnpobaadoor", sum := "b80aa8f457846511bbe158c3135958dcf51a74ee1e74d0695cf5251f4657c181", func := "charterhouse/charterhouselaw14.ObjParts", spec := "objParts", unfollowed := true, recurses := true, named := ["charterhouse/ptr.sizes"], apart := false, laid := [("charterhouse/ptr.sizes", laid_charterhouse_ptr_sizes)], narrowed := true }
def ObjPartsUptoSaid : Prop := objPartsUptoRow.holds Tryd.pinned (OpenSpec.upto objPartsSpec)

/-- 'charterhouselaw14.ObjBounds', WHERE WHAT IT READS IS OF BULK AT MOST 1048576: true; the input reads as it did. -/
def objBoundsUptoRow : OpenClaim := { program := "ytennhempdnpobaadoor", sum := "b80aa8f457846511bbe158c3135958dcf51a74ee1e74d0695cf5251f4657c181", func := "charterhouse/charterhouselaw14.ObjBounds", spec := "objBounds", unfollowed := true, recurses := true, named := ["charterhouse/ptr.sizes"], apart := false, laid := [("charterhouse/ptr.sizes", laid_charterhouse_ptr_sizes)], narrowed := true }
def ObjBoundsUptoSaid : Prop := objBoundsUptoRow.holds Tryd.pinned (OpenSpec.upto objBoundsSpec)

end Rows
end Go.Proofs.YtennhempdnpobaaDoor
