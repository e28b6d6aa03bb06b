/-
  No cell of these rows narrows 'for every input' (looked for: loops, veiled, ifaces, maps, wideKeys, modest, calm, conditions, laid).
  DERIVED. THE GIVEN ROWS OF THIS SEAT. 6 by the template 'for every input the law returns true; each argument reads behind the call as it read before'; 0 by the template 'total and deterministic' (their statements: YthndfdnfaeioeaaTotals.lean).
  GIVEN WITH THE SEED: the statements are not yours to turn. If you find one false, say at which input.
  Laid BY PROGRAM, IN A SANDBOX (cutbox-rows.mjs): the forced cells as the released guide's own fill.sh prints them over the translation dd06d5713d560a0e… (all of the seat's roots in one cut). By AI agents, Wed Nov 11 2026. No macro, syntax, notation, axiom, sorry.
-/
import Derived.Test.YthndfdnfaeioeaaChecked
import GoSem.Claim
import GoSem.ClaimJoined
import GoSem.ClaimMapViews
import Derived.JoinedTies
import Derived.KernelRfl
namespace Go.Proofs.Ythndfdnfaeioeaa
/- THE CELL 'sum', in the pinned program and in every row, IS THE sha256 OF THE DUMP (.gsa) THAT YthndfdnfaeioeaaProg.lean LOADS. Nothing in Lean hashes anything: it is a label: what it is worth is what the hold of that sum in a sandbox is worth. -/
noncomputable def Try.pinned : Pinned := { name := "ythndfdnfaeioeaa", sum := "dd06d5713d560a0e1cdda9a791d799e8b2e585b91d76021be298cf04a071a1af", checked := Try.checked }
namespace Rows
def none {H : Type} : Left H := { results := [], args := [] }

/-- 'charterhouselaw02.MixNames': WHATEVER THE INPUT: true; the input reads as it did. -/
def mixNamesSpec : ChangeSpec := { name := "mixNames", fn := fun _ => fun
  | [] => { results := [.lit (.bool true)], args := [] }
  | _ => none }
def mixNamesRow : OpenClaim := { program := "ythndfdnfaeioeaa", sum := "dd06d5713d560a0e1cdda9a791d799e8b2e585b91d76021be298cf04a071a1af", func := "charterhouse/charterhouselaw02.MixNames", spec := "mixNames", unfollowed := true, recurses := true, apart := false }
def MixNamesSaid : Prop := mixNamesRow.holds Try.pinned (OpenSpec.ofChange mixNamesSpec)

/-- ITS FALSE NEIGHBOUR: 'it returns false'. Refute it at one input. -/
def mixNamesWrong : ChangeSpec := { name := "mixNames", fn := fun _ => fun
  | [] => { results := [.lit (.bool false)], args := [] }
  | _ => none }
def MixNamesWrongFalsely : Prop := mixNamesRow.holds Try.pinned (OpenSpec.ofChange mixNamesWrong)

/-- 'charterhouselaw02.MixTells': WHATEVER THE INPUT: true; the input reads as it did. -/
def mixTellsSpec : ChangeSpec := { name := "mixTells", fn := fun _ => fun
  | [d1, d2] => { results := [.lit (.bool true)], args := [d1, d2] }
  | _ => none }
def mixTellsRow : OpenClaim := { program := "ythndfdnfaeioeaa", sum := "dd06d5713d560a0e1cdda9a791d799e8b2e585b91d76021be298cf04a071a1af", func := "charterhouse/charterhouselaw02.MixTells", spec := "mixTells", unfollowed := true, recurses := true, apart := false }
def MixTellsSaid : Prop := mixTellsRow.holds Try.pinned (OpenSpec.ofChange mixTellsSpec)

/-- ITS FALSE NEIGHBOUR: 'it returns false'. Refute it at one input. -/
def mixTellsWrong : ChangeSpec := { name := "mixTells", fn := fun _ => fun
  | [d1, d2] => { results := [.lit (.bool false)], args := [d1, d2] }
  | _ => none }
def MixTellsWrongFalsely : Prop := mixTellsRow.holds Try.pinned (OpenSpec.ofChange mixTellsWrong)

/-- 'charterhouselaw02.MixBack': WHATEVER THE INPUT: true; the input reads as it did. -/
def mixBackSpec : ChangeSpec := { name := "mixBack", fn := fun _ => fun
  | [d] => { results := [.lit (.bool true)], args := [d] }
  | _ => none }
def mixBackRow : OpenClaim := { program := "ythndfdnfaeioeaa", sum := "dd06d5713d560a0e1cdda9a791d799e8b2e585b91d76021be298cf04a071a1af", func := "charterhouse/charterhouselaw02.MixBack", spec := "mixBack", unfollowed := true, recurses := true, apart := false }
def MixBackSaid : Prop := mixBackRow.holds Try.pinned (OpenSpec.ofChange mixBackSpec)

/-- ITS FALSE NEIGHBOUR: 'it returns false'. Refute it at one input. -/
def mixBackWrong : ChangeSpec := { name := "mixBack", fn := fun _ => fun
  | [d] => { results := [.lit (.bool false)], args := [d] }
  | _ => none }
def MixBackWrongFalsely : Prop := mixBackRow.holds Try.pinned (OpenSpec.ofChange mixBackWrong)

/-- 'charterhouselaw02.MixPiece': WHATEVER THE INPUT: true; the input reads as it did. -/
def mixPieceSpec : ChangeSpec := { name := "mixPiece", fn := fun _ => fun
  | [d1, d2, d3] => { results := [.lit (.bool true)], args := [d1, d2, d3] }
  | _ => none }
def mixPieceRow : OpenClaim := { program := "ythndfdnfaeioeaa", sum := "dd06d5713d560a0e1cdda9a791d799e8b2e585b91d76021be298cf04a071a1af", func := "charterhouse/charterhouselaw02.MixPiece", spec := "mixPiece", unfollowed := true, recurses := true, apart := false }
def MixPieceSaid : Prop := mixPieceRow.holds Try.pinned (OpenSpec.ofChange mixPieceSpec)

/-- ITS FALSE NEIGHBOUR: 'it returns false'. Refute it at one input. -/
def mixPieceWrong : ChangeSpec := { name := "mixPiece", fn := fun _ => fun
  | [d1, d2, d3] => { results := [.lit (.bool false)], args := [d1, d2, d3] }
  | _ => none }
def MixPieceWrongFalsely : Prop := mixPieceRow.holds Try.pinned (OpenSpec.ofChange mixPieceWrong)

/-- 'charterhouselaw02.MixParts': WHATEVER THE INPUT: true; the input reads as it did. -/
def mixPartsSpec : ChangeSpec := { name := "mixParts", fn := fun _ => fun
  | [d] => { results := [.lit (.bool true)], args := [d] }
  | _ => none }
def mixPartsRow : OpenClaim := { program := "ythndfdnfaeioeaa", sum := "dd06d5713d560a0e1cdda9a791d799e8b2e585b91d76021be298cf04a071a1af", func := "charterhouse/charterhouselaw02.MixParts", spec := "mixParts", unfollowed := true, recurses := true, apart := false }
def MixPartsSaid : Prop := mixPartsRow.holds Try.pinned (OpenSpec.ofChange mixPartsSpec)

/-- ITS FALSE NEIGHBOUR: 'it returns false'. Refute it at one input. -/
def mixPartsWrong : ChangeSpec := { name := "mixParts", fn := fun _ => fun
  | [d] => { results := [.lit (.bool false)], args := [d] }
  | _ => none }
def MixPartsWrongFalsely : Prop := mixPartsRow.holds Try.pinned (OpenSpec.ofChange mixPartsWrong)

/-- 'charterhouselaw02.MixOften': WHATEVER THE INPUT: true; the input reads as it did. -/
def mixOftenSpec : ChangeSpec := { name := "mixOften", fn := fun _ => fun
  | [d1, d2] => { results := [.lit (.bool true)], args := [d1, d2] }
  | _ => none }
def mixOftenRow : OpenClaim := { program := "ythndfdnfaeioeaa", sum := "dd06d5713d560a0e1cdda9a791d799e8b2e585b91d76021be298cf04a071a1af", func := "charterhouse/charterhouselaw02.MixOften", spec := "mixOften", unfollowed := true, recurses := true, apart := false }
def MixOftenSaid : Prop := mixOftenRow.holds Try.pinned (OpenSpec.ofChange mixOftenSpec)

/-- ITS FALSE NEIGHBOUR: 'it returns false'. Refute it at one input. -/
def mixOftenWrong : ChangeSpec := { name := "mixOften", fn := fun _ => fun
  | [d1, d2] => { results := [.lit (.bool false)], args := [d1, d2] }
  | _ => none }
def MixOftenWrongFalsely : Prop := mixOftenRow.holds Try.pinned (OpenSpec.ofChange mixOftenWrong)

/- THE SECOND FORM. 'bulk': how many values and letters a reading holds, each counted each time it is reached (what is shared counts as often as it is met; a slice's spare places count too). A statement '..UptoSaid' is the law's where the arguments, and the package variables that the reading takes, are together of bulk at most 1048576: NARROWER than '..Said'. Prove '..Said' where nothing that the law and all that it calls make is longer than what came in: it says more and counts as full. Else prove '..UptoSaid'. A law counts once. -/
mutual
def uptoBulk {H : Type} : DataW H → Nat
  | .lit (.string bytes) => bytes.length + 1
  | .lit _ => 1
  | .nil => 1
  | .ptr d => uptoBulk d + 1
  | .slice elems spare => uptoBulkAll elems + uptoBulkAll spare + 1
  | .agg parts => uptoBulkAll parts + 1
  | .iface _ d => uptoBulk d + 1
  | .map entries => uptoBulkEntries entries + 1
  | .held _ => 1
def uptoBulkAll {H : Type} : List (DataW H) → Nat
  | [] => 0
  | d :: r => uptoBulk d + uptoBulkAll r
def uptoBulkEntries {H : Type} : List (Lit × DataW H) → Nat
  | [] => 0
  | x :: r => uptoBulkEntry x + uptoBulkEntries r
def uptoBulkEntry {H : Type} : Lit × DataW H → Nat
  | (.string bytes, d) => bytes.length + uptoBulk d + 1
  | (_, d) => uptoBulk d + 1
 end
def uptoSmall : (H : Type) → List (DataW H) → Bool := fun _ ds => decide (uptoBulkAll ds ≤ 1048576)
def OpenSpec.upto (s : _root_.Go.ChangeSpec) : _root_.Go.OpenSpec := { _root_.Go.OpenSpec.ofChange s with cond := some uptoSmall }

/-- 'charterhouselaw02.MixNames', WHERE WHAT IT READS IS OF BULK AT MOST 1048576: true; the input reads as it did. -/
def mixNamesUptoRow : OpenClaim := { program := "ythndfdnfaeioeaa", sum := "dd06d5713d560a0e1cdda9a791d799e8b2e585b91d76021be298cf04a071a1af", func := "charterhouse/charterhouselaw02.MixNames", spec := "mixNames", unfollowed := true, recurses := true, apart := false, narrowed := true }
def MixNamesUptoSaid : Prop := mixNamesUptoRow.holds Try.pinned (OpenSpec.upto mixNamesSpec)

/-- 'charterhouselaw02.MixTells', WHERE WHAT IT READS IS OF BULK AT MOST 1048576: true; the input reads as it did. -/
def mixTellsUptoRow : OpenClaim := { program := "ythndfdnfaeioeaa", sum := "dd06d5713d560a0e1cdda9a791d799e8b2e585b91d76021be298cf04a071a1af", func := "charterhouse/charterhouselaw02.MixTells", spec := "mixTells", unfollowed := true, recurses := true, apart := false, narrowed := true }
def MixTellsUptoSaid : Prop := mixTellsUptoRow.holds Try.pinned (OpenSpec.upto mixTellsSpec)

/-- 'charterhouselaw02.MixBack', WHERE WHAT IT READS IS OF BULK AT MOST 1048576: true; the input reads as it did. -/
def mixBackUptoRow : OpenClaim := { program := "ythndfdnfaeioeaa", sum := "dd06d5713d560a0e1cdda9a791d799e8b2e585b91d76021be298cf04a071a1af", func := "charterhouse/charterhouselaw02.MixBack", spec := "mixBack", unfollowed := true, recurses := true, apart := false, narrowed := true }
def MixBackUptoSaid : Prop := mixBackUptoRow.holds Try.pinned (OpenSpec.upto mixBackSpec)

/-- 'charterhouselaw02.MixPiece', WHERE WHAT IT READS IS OF BULK AT MOST 1048576: true; the input reads as it did. -/
def mixPieceUptoRow : OpenClaim := { program := "ythndfdnfaeioeaa", sum := "dd06d5713d560a0e1cdda9a791d799e8b2e585b91d76021be298cf04a071a1af", func := "charterhouse/charterhouselaw02.MixPiece", spec := "mixPiece", unfollowed := true, recurses := true, apart := false, narrowed := true }
def MixPieceUptoSaid : Prop := mixPieceUptoRow.holds Try.pinned (OpenSpec.upto mixPieceSpec)

/-- 'charterhouselaw02.MixParts', WHERE WHAT IT READS IS OF BULK AT MOST 1048576: true; the input reads as it did. -/
def mixPartsUptoRow : OpenClaim := { program := "ythndfdnfaeioeaa", sum := "dd06d5713d560a0e1cdda9a791d799e8b2e585b91d76021be298cf04a071a1af", func := "charterhouse/charterhouselaw02.MixParts", spec := "mixParts", unfollowed := true, recurses := true, apart := false, narrowed := true }
def MixPartsUptoSaid : Prop := mixPartsUptoRow.holds Try.pinned (OpenSpec.upto mixPartsSpec)

/-- 'charterhouselaw02.MixOften', WHERE WHAT IT READS IS OF BULK AT MOST 1048576: true; the input reads as it did. -/
def mixOftenUptoRow : OpenClaim := { program := "ythndfdnfaeioeaa", sum := "dd06d5713d560a0e1cdda9a791d799e8b2e585b91d76021be298cf04a071a1af", func := "charterhouse/charterhouselaw02.MixOften", spec := "mixOften", unfollowed := true, recurses := true, apart := false, narrowed := true }
def MixOftenUptoSaid : Prop := mixOftenUptoRow.holds Try.pinned (OpenSpec.upto mixOftenSpec)

end Rows
end Go.Proofs.Ythndfdnfaeioeaa
