/-
  DERIVED. GIVEN WITH THE SEED: THE CARDS: each row of YtafbidhbmfdlkaaGreatDoorRows.lean that lists a variable, with what it lists TIED to the program's text (the seventh form; the later family's looks); each row that meets fmt, with fmt's text TOLD by the authors' own Lean function (tested against real Go, not proved from fmt's source: count such statements apart). THE CARD IS WHAT COUNTS. Prove the row's statement (the work); the ties are given (YtafbidhbmfdlkaaGreatDoorTie.lean); close each card by the builder's one call (the guide's Derived/Test/ToyasCard.lean, 'card_holds'). Laid BY PROGRAM, IN A SANDBOX (cutbox-door.mjs). By AI agents, Wed Nov 11 2026. No macro, syntax, notation, axiom, sorry.
-/
import Derived.Test.YtafbidhbmfdlkaaGreatDoorRows
import GoSem.ClaimSeven
namespace Go.Proofs.YtafbidhbmfdlkaaGreatDoor
namespace Rows

/-- THE TIED CARD OF 'charterhouselaw19.MountNames'. -/
def mountNamesCard : Claim7 := { stood := { row := mountNamesRow, standIns := [], harness := (true, "26b4ac6fc10199caea3d6e94810a24e666a3d3dc1c5f683f688e6421f6cb17b3"), looks := true }, kinds := [], alts := [], laidByText := true, laidKinds := [.data], laidTests := true, laidLooks := .later }
def MountNamesCardSaid : Prop := Claim7.holds Tryz.pinned (.plain (OpenSpec.ofChange mountNamesSpec)) mountNamesCard

/-- THE SECOND FORM's CARD OF 'charterhouselaw19.MountNames'. -/
def mountNamesUptoCard : Claim7 := { stood := { row := mountNamesUptoRow, standIns := [], harness := (true, "26b4ac6fc10199caea3d6e94810a24e666a3d3dc1c5f683f688e6421f6cb17b3"), looks := true }, kinds := [], alts := [], laidByText := true, laidKinds := [.data], laidTests := true, laidLooks := .later }
def MountNamesUptoCardSaid : Prop := Claim7.holds Tryz.pinned (.plain (OpenSpec.upto mountNamesSpec)) mountNamesUptoCard
end Rows
end Go.Proofs.YtafbidhbmfdlkaaGreatDoor
