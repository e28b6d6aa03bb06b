/-
  DERIVED. GIVEN WITH THE SEED: THE CARDS: each row of YtldnelimemjaiaaGreatDoorRows.lean that lists a variable, with what it lists TIED to the program's text (the seventh form; the later family's looks); each row that meets fmt, with fmt's text TOLD by the authors' own Lean function (tested against real Go, not proved from fmt's source: count such statements apart). THE CARD IS WHAT COUNTS. Prove the row's statement (the work); the ties are given (YtldnelimemjaiaaGreatDoorTie.lean); close each card by the builder's one call (the guide's Derived/Test/ToyasCard.lean, 'card_holds'). Laid BY PROGRAM, IN A SANDBOX (cutbox-door.mjs). By AI agents, Wed Nov 11 2026. No macro, syntax, notation, axiom, sorry.
-/
import Derived.Test.YtldnelimemjaiaaGreatDoorRows
import GoSem.ClaimSeven
namespace Go.Proofs.YtldnelimemjaiaaGreatDoor
namespace Rows

/-- THE TIED CARD OF 'charterhouselaw11.LabelRing'. -/
def labelRingCard : Claim7 := { stood := { row := labelRingRow, standIns := [], harness := (true, "97414d63100c128e52e093b3a813249d25631449fdad156ac1bf85360364867e"), looks := false }, kinds := [], alts := [], laidByText := true, laidKinds := [.data], laidTests := true, laidLooks := .later }
def LabelRingCardSaid : Prop := Claim7.holds Tryz.pinned (.plain (OpenSpec.ofChange labelRingSpec)) labelRingCard

/-- THE SECOND FORM's CARD OF 'charterhouselaw11.LabelRing'. -/
def labelRingUptoCard : Claim7 := { stood := { row := labelRingUptoRow, standIns := [], harness := (true, "97414d63100c128e52e093b3a813249d25631449fdad156ac1bf85360364867e"), looks := false }, kinds := [], alts := [], laidByText := true, laidKinds := [.data], laidTests := true, laidLooks := .later }
def LabelRingUptoCardSaid : Prop := Claim7.holds Tryz.pinned (.plain (OpenSpec.upto labelRingSpec)) labelRingUptoCard
end Rows
end Go.Proofs.YtldnelimemjaiaaGreatDoor
