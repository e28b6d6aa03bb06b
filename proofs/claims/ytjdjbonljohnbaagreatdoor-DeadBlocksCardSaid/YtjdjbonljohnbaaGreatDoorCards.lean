/-
  DERIVED. GIVEN WITH THE SEED: THE CARDS: each row of YtjdjbonljohnbaaGreatDoorRows.lean that lists a variable, with what it lists TIED to the program's text (the seventh form; the later family's looks); each row that meets fmt, with fmt's text TOLD by the authors' own Lean function (tested against real Go, not proved from fmt's source: count such statements apart). THE CARD IS WHAT COUNTS. Prove the row's statement (the work); the ties are given (YtjdjbonljohnbaaGreatDoorTie.lean); close each card by the builder's one call (the guide's Derived/Test/ToyasCard.lean, 'card_holds'). Laid BY PROGRAM, IN A SANDBOX (cutbox-door.mjs). By AI agents, Wed Nov 11 2026. No macro, syntax, notation, axiom, sorry.
-/
import Derived.Test.YtjdjbonljohnbaaGreatDoorRows
import GoSem.ClaimSeven
namespace Go.Proofs.YtjdjbonljohnbaaGreatDoor
namespace Rows

/-- THE TIED CARD OF 'charterhouselaw16.DeadBlocks'. -/
def deadBlocksCard : Claim7 := { stood := { row := deadBlocksRow, standIns := [], harness := (true, "4c1a804e62179eeba2b0233f1fd2d478ac9ae576d732f245597b47f852b9f004"), looks := true }, kinds := [], alts := [], laidByText := true, laidKinds := [.data], laidTests := true, laidLooks := .later }
def DeadBlocksCardSaid : Prop := Claim7.holds Tryz.pinned (.plain (OpenSpec.ofChange deadBlocksSpec)) deadBlocksCard

/-- THE SECOND FORM's CARD OF 'charterhouselaw16.DeadBlocks'. -/
def deadBlocksUptoCard : Claim7 := { stood := { row := deadBlocksUptoRow, standIns := [], harness := (true, "4c1a804e62179eeba2b0233f1fd2d478ac9ae576d732f245597b47f852b9f004"), looks := true }, kinds := [], alts := [], laidByText := true, laidKinds := [.data], laidTests := true, laidLooks := .later }
def DeadBlocksUptoCardSaid : Prop := Claim7.holds Tryz.pinned (.plain (OpenSpec.upto deadBlocksSpec)) deadBlocksUptoCard
end Rows
end Go.Proofs.YtjdjbonljohnbaaGreatDoor
