/-
  DERIVED. GIVEN WITH THE SEED: THE CARDS: each row of YtennhempdnpobaaDoorRows.lean that lists a variable, with what it lists TIED to the program's text (the seventh form; the later family's looks); each row that meets fmt, with fmt's text TOLD by the authors' own Lean function (tested against real Go, not proved from fmt's source: count such statements apart). THE CARD IS WHAT COUNTS. Prove the row's statement (the work); the ties are given (YtennhempdnpobaaDoorTie.lean); close each card by the builder's one call (the guide's Derived/Test/ToyasCard.lean, 'card_holds'). Laid BY PROGRAM, IN A SANDBOX (cutbox-door.mjs). By AI agents, Wed Nov 11 2026. No macro, syntax, notation, axiom, sorry.
-/
import Derived.Test.YtennhempdnpobaaDoorRows
import GoSem.ClaimSeven
namespace Go.Proofs.YtennhempdnpobaaDoor
namespace Rows

/-- THE TIED CARD OF 'charterhouselaw14.ObjNames'. -/
def objNamesCard : Claim7 := { stood := { row := objNamesRow, standIns := [], harness := (true, "9c096aee4ee406317d9dbe43cdcffc293e6921eebae1b9d00dc56f9ab02557a7"), looks := false }, kinds := [], alts := [], laidByText := true, laidKinds := [.data], laidTests := true, laidLooks := .later }
def ObjNamesCardSaid : Prop := Claim7.holds Tryd.pinned (.plain (OpenSpec.ofChange objNamesSpec)) objNamesCard

/-- THE TIED CARD OF 'charterhouselaw14.ObjBlocks'. -/
def objBlocksCard : Claim7 := { stood := { row := objBlocksRow, standIns := [], harness := (true, "9c096aee4ee406317d9dbe43cdcffc293e6921eebae1b9d00dc56f9ab02557a7"), looks := false }, kinds := [], alts := [], laidByText := true, laidKinds := [.data], laidTests := true, laidLooks := .later }
def ObjBlocksCardSaid : Prop := Claim7.holds Tryd.pinned (.plain (OpenSpec.ofChange objBlocksSpec)) objBlocksCard

/-- THE TIED CARD OF 'charterhouselaw14.ObjBack'. -/
def objBackCard : Claim7 := { stood := { row := objBackRow, standIns := [], harness := (true, "9c096aee4ee406317d9dbe43cdcffc293e6921eebae1b9d00dc56f9ab02557a7"), looks := false }, kinds := [], alts := [], laidByText := true, laidKinds := [.data], laidTests := true, laidLooks := .later }
def ObjBackCardSaid : Prop := Claim7.holds Tryd.pinned (.plain (OpenSpec.ofChange objBackSpec)) objBackCard

/-- THE TIED CARD OF 'charterhouselaw14.ObjParts'. -/
def objPartsCard : Claim7 := { stood := { row := objPartsRow, standIns := [], harness := (true, "9c096aee4ee406317d9dbe43cdcffc293e6921eebae1b9d00dc56f9ab02557a7"), looks := false }, kinds := [], alts := [], laidByText := true, laidKinds := [.data], laidTests := true, laidLooks := .later }
def ObjPartsCardSaid : Prop := Claim7.holds Tryd.pinned (.plain (OpenSpec.ofChange objPartsSpec)) objPartsCard

/-- THE TIED CARD OF 'charterhouselaw14.ObjBounds'. -/
def objBoundsCard : Claim7 := { stood := { row := objBoundsRow, standIns := [], harness := (true, "9c096aee4ee406317d9dbe43cdcffc293e6921eebae1b9d00dc56f9ab02557a7"), looks := false }, kinds := [], alts := [], laidByText := true, laidKinds := [.data], laidTests := true, laidLooks := .later }
def ObjBoundsCardSaid : Prop := Claim7.holds Tryd.pinned (.plain (OpenSpec.ofChange objBoundsSpec)) objBoundsCard

/-- THE SECOND FORM's CARD OF 'charterhouselaw14.ObjNames'. -/
def objNamesUptoCard : Claim7 := { stood := { row := objNamesUptoRow, standIns := [], harness := (true, "9c096aee4ee406317d9dbe43cdcffc293e6921eebae1b9d00dc56f9ab02557a7"), looks := false }, kinds := [], alts := [], laidByText := true, laidKinds := [.data], laidTests := true, laidLooks := .later }
def ObjNamesUptoCardSaid : Prop := Claim7.holds Tryd.pinned (.plain (OpenSpec.upto objNamesSpec)) objNamesUptoCard

/-- THE SECOND FORM's CARD OF 'charterhouselaw14.ObjBlocks'. -/
def objBlocksUptoCard : Claim7 := { stood := { row := objBlocksUptoRow, standIns := [], harness := (true, "9c096aee4ee406317d9dbe43cdcffc293e6921eebae1b9d00dc56f9ab02557a7"), looks := false }, kinds := [], alts := [], laidByText := true, laidKinds := [.data], laidTests := true, laidLooks := .later }
def ObjBlocksUptoCardSaid : Prop := Claim7.holds Tryd.pinned (.plain (OpenSpec.upto objBlocksSpec)) objBlocksUptoCard

/-- THE SECOND FORM's CARD OF 'charterhouselaw14.ObjBack'. -/
def objBackUptoCard : Claim7 := { stood := { row := objBackUptoRow, standIns := [], harness := (true, "9c096aee4ee406317d9dbe43cdcffc293e6921eebae1b9d00dc56f9ab02557a7"), looks := false }, kinds := [], alts := [], laidByText := true, laidKinds := [.data], laidTests := true, laidLooks := .later }
def ObjBackUptoCardSaid : Prop := Claim7.holds Tryd.pinned (.plain (OpenSpec.upto objBackSpec)) objBackUptoCard

/-- THE SECOND FORM's CARD OF 'charterhouselaw14.ObjParts'. -/
def objPartsUptoCard : Claim7 := { stood := { row := objPartsUptoRow, standIns := [], harness := (true, "9c096aee4ee406317d9dbe43cdcffc293e6921eebae1b9d00dc56f9ab02557a7"), looks := false }, kinds := [], alts := [], laidByText := true, laidKinds := [.data], laidTests := true, laidLooks := .later }
def ObjPartsUptoCardSaid : Prop := Claim7.holds Tryd.pinned (.plain (OpenSpec.upto objPartsSpec)) objPartsUptoCard

/-- THE SECOND FORM's CARD OF 'charterhouselaw14.ObjBounds'. -/
def objBoundsUptoCard : Claim7 := { stood := { row := objBoundsUptoRow, standIns := [], harness := (true, "9c096aee4ee406317d9dbe43cdcffc293e6921eebae1b9d00dc56f9ab02557a7"), looks := false }, kinds := [], alts := [], laidByText := true, laidKinds := [.data], laidTests := true, laidLooks := .later }
def ObjBoundsUptoCardSaid : Prop := Claim7.holds Tryd.pinned (.plain (OpenSpec.upto objBoundsSpec)) objBoundsUptoCard
end Rows
end Go.Proofs.YtennhempdnpobaaDoor
