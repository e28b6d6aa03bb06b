/-
  DERIVED. GIVEN WITH THE SEED: THE CARDS: each row of YtadffkfalclpjaaGreatDoorRows.lean that lists a variable, with what it lists TIED to the program's text (the seventh form; the later family's looks); each row that meets fmt, with fmt's text TOLD by the authors' own Lean function (tested against real Go, not proved from fmt's source: count such statements apart). THE CARD IS WHAT COUNTS. Prove the row's statement (the work); the ties are given (YtadffkfalclpjaaGreatDoorTie.lean); close each card by the builder's one call (the guide's Derived/Test/ToyasCard.lean, 'card_holds'). Laid BY PROGRAM, IN A SANDBOX (cutbox-door.mjs). By AI agents, Wed Nov 11 2026. No macro, syntax, notation, axiom, sorry.
-/
import Derived.Test.YtadffkfalclpjaaGreatDoorRows
import GoSem.ClaimSeven
namespace Go.Proofs.YtadffkfalclpjaaGreatDoor
namespace Rows

/-- THE TIED CARD OF 'charterhouselaw16.DeadNames'. -/
def deadNamesCard : Claim7 := { stood := { row := deadNamesRow, standIns := [], harness := (true, "bcf11811969fb41d8ce6e77987b4bab2a692a7c6069e18ad063c1b3068739d7d"), looks := true }, kinds := [], alts := [], laidByText := true, laidKinds := [.data], laidTests := true, laidLooks := .later }
def DeadNamesCardSaid : Prop := Claim7.holds Tryz.pinned (.plain (OpenSpec.ofChange deadNamesSpec)) deadNamesCard

/-- THE TIED CARD OF 'charterhouselaw16.DeadBlocks'. -/
def deadBlocksCard : Claim7 := { stood := { row := deadBlocksRow, standIns := [], harness := (true, "bcf11811969fb41d8ce6e77987b4bab2a692a7c6069e18ad063c1b3068739d7d"), looks := true }, kinds := [], alts := [], laidByText := true, laidKinds := [.data], laidTests := true, laidLooks := .later }
def DeadBlocksCardSaid : Prop := Claim7.holds Tryz.pinned (.plain (OpenSpec.ofChange deadBlocksSpec)) deadBlocksCard

/-- THE TIED CARD OF 'charterhouselaw16.DeadBack'. -/
def deadBackCard : Claim7 := { stood := { row := deadBackRow, standIns := [], harness := (true, "bcf11811969fb41d8ce6e77987b4bab2a692a7c6069e18ad063c1b3068739d7d"), looks := true }, kinds := [], alts := [], laidByText := true, laidKinds := [.data], laidTests := true, laidLooks := .later }
def DeadBackCardSaid : Prop := Claim7.holds Tryz.pinned (.plain (OpenSpec.ofChange deadBackSpec)) deadBackCard

/-- THE SECOND FORM's CARD OF 'charterhouselaw16.DeadNames'. -/
def deadNamesUptoCard : Claim7 := { stood := { row := deadNamesUptoRow, standIns := [], harness := (true, "bcf11811969fb41d8ce6e77987b4bab2a692a7c6069e18ad063c1b3068739d7d"), looks := true }, kinds := [], alts := [], laidByText := true, laidKinds := [.data], laidTests := true, laidLooks := .later }
def DeadNamesUptoCardSaid : Prop := Claim7.holds Tryz.pinned (.plain (OpenSpec.upto deadNamesSpec)) deadNamesUptoCard

/-- THE SECOND FORM's CARD OF 'charterhouselaw16.DeadBlocks'. -/
def deadBlocksUptoCard : Claim7 := { stood := { row := deadBlocksUptoRow, standIns := [], harness := (true, "bcf11811969fb41d8ce6e77987b4bab2a692a7c6069e18ad063c1b3068739d7d"), looks := true }, kinds := [], alts := [], laidByText := true, laidKinds := [.data], laidTests := true, laidLooks := .later }
def DeadBlocksUptoCardSaid : Prop := Claim7.holds Tryz.pinned (.plain (OpenSpec.upto deadBlocksSpec)) deadBlocksUptoCard

/-- THE SECOND FORM's CARD OF 'charterhouselaw16.DeadBack'. -/
def deadBackUptoCard : Claim7 := { stood := { row := deadBackUptoRow, standIns := [], harness := (true, "bcf11811969fb41d8ce6e77987b4bab2a692a7c6069e18ad063c1b3068739d7d"), looks := true }, kinds := [], alts := [], laidByText := true, laidKinds := [.data], laidTests := true, laidLooks := .later }
def DeadBackUptoCardSaid : Prop := Claim7.holds Tryz.pinned (.plain (OpenSpec.upto deadBackSpec)) deadBackUptoCard
end Rows
end Go.Proofs.YtadffkfalclpjaaGreatDoor
