/-
  DERIVED. GIVEN WITH THE SEED: THE CARDS: each row of YtldnelimemjaiaaDoorRows.lean that lists a variable, with what it lists TIED to the program's text (the seventh form; the later family's looks); each row that meets fmt, with fmt's text TOLD by the authors' own Lean function (tested against real Go, not proved from fmt's source: count such statements apart). THE CARD IS WHAT COUNTS. Prove the row's statement (the work); the ties are given (YtldnelimemjaiaaDoorTie.lean); close each card by the builder's one call (the guide's Derived/Test/ToyasCard.lean, 'card_holds'). Laid BY PROGRAM, IN A SANDBOX (cutbox-door.mjs). By AI agents, Wed Nov 11 2026. No macro, syntax, notation, axiom, sorry.
-/
import Derived.Test.YtldnelimemjaiaaDoorRows
import GoSem.ClaimSeven
namespace Go.Proofs.YtldnelimemjaiaaDoor
namespace Rows

/-- THE TIED CARD OF 'charterhouselaw11.LabelNames'. -/
def labelNamesCard : Claim7 := { stood := { row := labelNamesRow, standIns := [], harness := (true, "a0c03aeb2c3c8afca9248673a81bc851ab9d8999465c8c424b427ffc7526f2b9"), looks := false }, kinds := [], alts := [], laidByText := true, laidKinds := [.data], laidTests := true, laidLooks := .later }
def LabelNamesCardSaid : Prop := Claim7.holds Tryd.pinned (.plain (OpenSpec.ofChange labelNamesSpec)) labelNamesCard

/-- THE TIED CARD OF 'charterhouselaw11.LabelStands'. -/
def labelStandsCard : Claim7 := { stood := { row := labelStandsRow, standIns := [], harness := (true, "a0c03aeb2c3c8afca9248673a81bc851ab9d8999465c8c424b427ffc7526f2b9"), looks := false }, kinds := [], alts := [], laidByText := true, laidKinds := [.data], laidTests := true, laidLooks := .later }
def LabelStandsCardSaid : Prop := Claim7.holds Tryd.pinned (.plain (OpenSpec.ofChange labelStandsSpec)) labelStandsCard

/-- THE TIED CARD OF 'charterhouselaw11.LabelApart'. -/
def labelApartCard : Claim7 := { stood := { row := labelApartRow, standIns := [], harness := (true, "a0c03aeb2c3c8afca9248673a81bc851ab9d8999465c8c424b427ffc7526f2b9"), looks := false }, kinds := [], alts := [], laidByText := true, laidKinds := [.data], laidTests := true, laidLooks := .later }
def LabelApartCardSaid : Prop := Claim7.holds Tryd.pinned (.plain (OpenSpec.ofChange labelApartSpec)) labelApartCard

/-- THE TIED CARD OF 'charterhouselaw11.LabelLost'. -/
def labelLostCard : Claim7 := { stood := { row := labelLostRow, standIns := [], harness := (true, "a0c03aeb2c3c8afca9248673a81bc851ab9d8999465c8c424b427ffc7526f2b9"), looks := false }, kinds := [], alts := [], laidByText := true, laidKinds := [.data], laidTests := true, laidLooks := .later }
def LabelLostCardSaid : Prop := Claim7.holds Tryd.pinned (.plain (OpenSpec.ofChange labelLostSpec)) labelLostCard

/-- THE SECOND FORM's CARD OF 'charterhouselaw11.LabelNames'. -/
def labelNamesUptoCard : Claim7 := { stood := { row := labelNamesUptoRow, standIns := [], harness := (true, "a0c03aeb2c3c8afca9248673a81bc851ab9d8999465c8c424b427ffc7526f2b9"), looks := false }, kinds := [], alts := [], laidByText := true, laidKinds := [.data], laidTests := true, laidLooks := .later }
def LabelNamesUptoCardSaid : Prop := Claim7.holds Tryd.pinned (.plain (OpenSpec.upto labelNamesSpec)) labelNamesUptoCard

/-- THE SECOND FORM's CARD OF 'charterhouselaw11.LabelStands'. -/
def labelStandsUptoCard : Claim7 := { stood := { row := labelStandsUptoRow, standIns := [], harness := (true, "a0c03aeb2c3c8afca9248673a81bc851ab9d8999465c8c424b427ffc7526f2b9"), looks := false }, kinds := [], alts := [], laidByText := true, laidKinds := [.data], laidTests := true, laidLooks := .later }
def LabelStandsUptoCardSaid : Prop := Claim7.holds Tryd.pinned (.plain (OpenSpec.upto labelStandsSpec)) labelStandsUptoCard

/-- THE SECOND FORM's CARD OF 'charterhouselaw11.LabelApart'. -/
def labelApartUptoCard : Claim7 := { stood := { row := labelApartUptoRow, standIns := [], harness := (true, "a0c03aeb2c3c8afca9248673a81bc851ab9d8999465c8c424b427ffc7526f2b9"), looks := false }, kinds := [], alts := [], laidByText := true, laidKinds := [.data], laidTests := true, laidLooks := .later }
def LabelApartUptoCardSaid : Prop := Claim7.holds Tryd.pinned (.plain (OpenSpec.upto labelApartSpec)) labelApartUptoCard

/-- THE SECOND FORM's CARD OF 'charterhouselaw11.LabelLost'. -/
def labelLostUptoCard : Claim7 := { stood := { row := labelLostUptoRow, standIns := [], harness := (true, "a0c03aeb2c3c8afca9248673a81bc851ab9d8999465c8c424b427ffc7526f2b9"), looks := false }, kinds := [], alts := [], laidByText := true, laidKinds := [.data], laidTests := true, laidLooks := .later }
def LabelLostUptoCardSaid : Prop := Claim7.holds Tryd.pinned (.plain (OpenSpec.upto labelLostSpec)) labelLostUptoCard
end Rows
end Go.Proofs.YtldnelimemjaiaaDoor
