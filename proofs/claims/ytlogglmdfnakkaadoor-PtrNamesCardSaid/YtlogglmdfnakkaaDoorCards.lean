/-
  DERIVED. GIVEN WITH THE SEED: THE CARDS: each row of YtlogglmdfnakkaaDoorRows.lean that lists a variable, with what it lists TIED to the program's text (the seventh form; the later family's looks); each row that meets fmt, with fmt's text TOLD by the authors' own Lean function (tested against real Go, not proved from fmt's source: count such statements apart). THE CARD IS WHAT COUNTS. Prove the row's statement (the work); the ties are given (YtlogglmdfnakkaaDoorTie.lean); close each card by the builder's one call (the guide's Derived/Test/ToyasCard.lean, 'card_holds'). Laid BY PROGRAM, IN A SANDBOX (cutbox-door.mjs). By AI agents, Wed Nov 11 2026. No macro, syntax, notation, axiom, sorry.
-/
import Derived.Test.YtlogglmdfnakkaaDoorRows
import GoSem.ClaimSeven
namespace Go.Proofs.YtlogglmdfnakkaaDoor
namespace Rows

/-- THE TIED CARD OF 'charterhouselaw10.PtrNames'. -/
def ptrNamesCard : Claim7 := { stood := { row := ptrNamesRow, standIns := [], harness := (true, "cde8bf91465a8cfaf514a0ae3f505d89590e5edcd17c9f55f843cc34fa33debc"), looks := false }, kinds := [], alts := [], laidByText := true, laidKinds := [.data], laidTests := true, laidLooks := .later }
def PtrNamesCardSaid : Prop := Claim7.holds Tryd.pinned (.plain (OpenSpec.ofChange ptrNamesSpec)) ptrNamesCard

/-- THE TIED CARD OF 'charterhouselaw10.PtrBytes'. -/
def ptrBytesCard : Claim7 := { stood := { row := ptrBytesRow, standIns := [], harness := (true, "cde8bf91465a8cfaf514a0ae3f505d89590e5edcd17c9f55f843cc34fa33debc"), looks := false }, kinds := [], alts := [], laidByText := true, laidKinds := [.data], laidTests := true, laidLooks := .later }
def PtrBytesCardSaid : Prop := Claim7.holds Tryd.pinned (.plain (OpenSpec.ofChange ptrBytesSpec)) ptrBytesCard

/-- THE TIED CARD OF 'charterhouselaw10.PtrBack'. -/
def ptrBackCard : Claim7 := { stood := { row := ptrBackRow, standIns := [], harness := (true, "cde8bf91465a8cfaf514a0ae3f505d89590e5edcd17c9f55f843cc34fa33debc"), looks := false }, kinds := [], alts := [], laidByText := true, laidKinds := [.data], laidTests := true, laidLooks := .later }
def PtrBackCardSaid : Prop := Claim7.holds Tryd.pinned (.plain (OpenSpec.ofChange ptrBackSpec)) ptrBackCard

/-- THE TIED CARD OF 'charterhouselaw10.PtrRows'. -/
def ptrRowsCard : Claim7 := { stood := { row := ptrRowsRow, standIns := [], harness := (true, "cde8bf91465a8cfaf514a0ae3f505d89590e5edcd17c9f55f843cc34fa33debc"), looks := false }, kinds := [], alts := [], laidByText := true, laidKinds := [.data], laidTests := true, laidLooks := .later }
def PtrRowsCardSaid : Prop := Claim7.holds Tryd.pinned (.plain (OpenSpec.ofChange ptrRowsSpec)) ptrRowsCard

/-- THE TIED CARD OF 'charterhouselaw10.PtrUnlike'. -/
def ptrUnlikeCard : Claim7 := { stood := { row := ptrUnlikeRow, standIns := [], harness := (true, "cde8bf91465a8cfaf514a0ae3f505d89590e5edcd17c9f55f843cc34fa33debc"), looks := false }, kinds := [], alts := [], laidByText := true, laidKinds := [.data], laidTests := true, laidLooks := .later }
def PtrUnlikeCardSaid : Prop := Claim7.holds Tryd.pinned (.plain (OpenSpec.ofChange ptrUnlikeSpec)) ptrUnlikeCard

/-- THE TIED CARD OF 'charterhouselaw10.PtrPlaces'. -/
def ptrPlacesCard : Claim7 := { stood := { row := ptrPlacesRow, standIns := [], harness := (true, "cde8bf91465a8cfaf514a0ae3f505d89590e5edcd17c9f55f843cc34fa33debc"), looks := false }, kinds := [], alts := [], laidByText := true, laidKinds := [.data], laidTests := true, laidLooks := .later }
def PtrPlacesCardSaid : Prop := Claim7.holds Tryd.pinned (.plain (OpenSpec.ofChange ptrPlacesSpec)) ptrPlacesCard

/-- THE SECOND FORM's CARD OF 'charterhouselaw10.PtrNames'. -/
def ptrNamesUptoCard : Claim7 := { stood := { row := ptrNamesUptoRow, standIns := [], harness := (true, "cde8bf91465a8cfaf514a0ae3f505d89590e5edcd17c9f55f843cc34fa33debc"), looks := false }, kinds := [], alts := [], laidByText := true, laidKinds := [.data], laidTests := true, laidLooks := .later }
def PtrNamesUptoCardSaid : Prop := Claim7.holds Tryd.pinned (.plain (OpenSpec.upto ptrNamesSpec)) ptrNamesUptoCard

/-- THE SECOND FORM's CARD OF 'charterhouselaw10.PtrBytes'. -/
def ptrBytesUptoCard : Claim7 := { stood := { row := ptrBytesUptoRow, standIns := [], harness := (true, "cde8bf91465a8cfaf514a0ae3f505d89590e5edcd17c9f55f843cc34fa33debc"), looks := false }, kinds := [], alts := [], laidByText := true, laidKinds := [.data], laidTests := true, laidLooks := .later }
def PtrBytesUptoCardSaid : Prop := Claim7.holds Tryd.pinned (.plain (OpenSpec.upto ptrBytesSpec)) ptrBytesUptoCard

/-- THE SECOND FORM's CARD OF 'charterhouselaw10.PtrBack'. -/
def ptrBackUptoCard : Claim7 := { stood := { row := ptrBackUptoRow, standIns := [], harness := (true, "cde8bf91465a8cfaf514a0ae3f505d89590e5edcd17c9f55f843cc34fa33debc"), looks := false }, kinds := [], alts := [], laidByText := true, laidKinds := [.data], laidTests := true, laidLooks := .later }
def PtrBackUptoCardSaid : Prop := Claim7.holds Tryd.pinned (.plain (OpenSpec.upto ptrBackSpec)) ptrBackUptoCard

/-- THE SECOND FORM's CARD OF 'charterhouselaw10.PtrRows'. -/
def ptrRowsUptoCard : Claim7 := { stood := { row := ptrRowsUptoRow, standIns := [], harness := (true, "cde8bf91465a8cfaf514a0ae3f505d89590e5edcd17c9f55f843cc34fa33debc"), looks := false }, kinds := [], alts := [], laidByText := true, laidKinds := [.data], laidTests := true, laidLooks := .later }
def PtrRowsUptoCardSaid : Prop := Claim7.holds Tryd.pinned (.plain (OpenSpec.upto ptrRowsSpec)) ptrRowsUptoCard

/-- THE SECOND FORM's CARD OF 'charterhouselaw10.PtrUnlike'. -/
def ptrUnlikeUptoCard : Claim7 := { stood := { row := ptrUnlikeUptoRow, standIns := [], harness := (true, "cde8bf91465a8cfaf514a0ae3f505d89590e5edcd17c9f55f843cc34fa33debc"), looks := false }, kinds := [], alts := [], laidByText := true, laidKinds := [.data], laidTests := true, laidLooks := .later }
def PtrUnlikeUptoCardSaid : Prop := Claim7.holds Tryd.pinned (.plain (OpenSpec.upto ptrUnlikeSpec)) ptrUnlikeUptoCard

/-- THE SECOND FORM's CARD OF 'charterhouselaw10.PtrPlaces'. -/
def ptrPlacesUptoCard : Claim7 := { stood := { row := ptrPlacesUptoRow, standIns := [], harness := (true, "cde8bf91465a8cfaf514a0ae3f505d89590e5edcd17c9f55f843cc34fa33debc"), looks := false }, kinds := [], alts := [], laidByText := true, laidKinds := [.data], laidTests := true, laidLooks := .later }
def PtrPlacesUptoCardSaid : Prop := Claim7.holds Tryd.pinned (.plain (OpenSpec.upto ptrPlacesSpec)) ptrPlacesUptoCard
end Rows
end Go.Proofs.YtlogglmdfnakkaaDoor
