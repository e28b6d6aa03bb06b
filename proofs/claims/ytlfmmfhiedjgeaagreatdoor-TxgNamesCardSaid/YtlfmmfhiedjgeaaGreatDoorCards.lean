/-
  DERIVED. GIVEN WITH THE SEED: THE CARDS: each row of YtlfmmfhiedjgeaaGreatDoorRows.lean that lists a variable, with what it lists TIED to the program's text (the seventh form; the later family's looks); each row that meets fmt, with fmt's text TOLD by the authors' own Lean function (tested against real Go, not proved from fmt's source: count such statements apart). THE CARD IS WHAT COUNTS. Prove the row's statement (the work); the ties are given (YtlfmmfhiedjgeaaGreatDoorTie.lean); close each card by the builder's one call (the guide's Derived/Test/ToyasCard.lean, 'card_holds'). Laid BY PROGRAM, IN A SANDBOX (cutbox-door.mjs). By AI agents, Wed Nov 11 2026. No macro, syntax, notation, axiom, sorry.
-/
import Derived.Test.YtlfmmfhiedjgeaaGreatDoorRows
import GoSem.ClaimSeven
namespace Go.Proofs.YtlfmmfhiedjgeaaGreatDoor
namespace Rows

/-- THE TIED CARD OF 'charterhouselaw17.TxgNames'. -/
def txgNamesCard : Claim7 := { stood := { row := txgNamesRow, standIns := [], harness := (true, "cfd7e81b257220669a8ddb70903d15fa01e77fd1c4eecef3477909ae1dfa56a0"), looks := true }, kinds := [], alts := [], laidByText := true, laidKinds := [.data], laidTests := true, laidLooks := .later }
def TxgNamesCardSaid : Prop := Claim7.holds Tryz.pinned (.plain (OpenSpec.ofChange txgNamesSpec)) txgNamesCard

/-- THE SECOND FORM's CARD OF 'charterhouselaw17.TxgNames'. -/
def txgNamesUptoCard : Claim7 := { stood := { row := txgNamesUptoRow, standIns := [], harness := (true, "cfd7e81b257220669a8ddb70903d15fa01e77fd1c4eecef3477909ae1dfa56a0"), looks := true }, kinds := [], alts := [], laidByText := true, laidKinds := [.data], laidTests := true, laidLooks := .later }
def TxgNamesUptoCardSaid : Prop := Claim7.holds Tryz.pinned (.plain (OpenSpec.upto txgNamesSpec)) txgNamesUptoCard
end Rows
end Go.Proofs.YtlfmmfhiedjgeaaGreatDoor
