/-
  DERIVED. GIVEN WITH THE SEED: THE CARDS: each row of YtbggkfomfeeikaaGreatDoorRows.lean that lists a variable, with what it lists TIED to the program's text (the seventh form; the later family's looks); each row that meets fmt, with fmt's text TOLD by the authors' own Lean function (tested against real Go, not proved from fmt's source: count such statements apart). THE CARD IS WHAT COUNTS. Prove the row's statement (the work); the ties are given (YtbggkfomfeeikaaGreatDoorTie.lean); close each card by the builder's one call (the guide's Derived/Test/ToyasCard.lean, 'card_holds'). Laid BY PROGRAM, IN A SANDBOX (cutbox-door.mjs). By AI agents, Wed Nov 11 2026. No macro, syntax, notation, axiom, sorry.
-/
import Derived.Test.YtbggkfomfeeikaaGreatDoorRows
import GoSem.ClaimSeven
namespace Go.Proofs.YtbggkfomfeeikaaGreatDoor
namespace Rows

/-- THE TIED CARD OF 'charterhouselaw15.SetNames'. -/
def setNamesCard : Claim7 := { stood := { row := setNamesRow, standIns := [], harness := (true, "6eb78afe75d66b60e405d7be45bb8640441719a8cd76b6fe37316bf265e6ec4e"), looks := false }, kinds := [], alts := [], laidByText := true, laidKinds := [.data], laidTests := true, laidLooks := .later }
def SetNamesCardSaid : Prop := Claim7.holds Tryz.pinned (.plain (OpenSpec.ofChange setNamesSpec)) setNamesCard

/-- THE TIED CARD OF 'charterhouselaw15.SetTells'. -/
def setTellsCard : Claim7 := { stood := { row := setTellsRow, standIns := [], harness := (true, "6eb78afe75d66b60e405d7be45bb8640441719a8cd76b6fe37316bf265e6ec4e"), looks := false }, kinds := [], alts := [], laidByText := true, laidKinds := [.data], laidTests := true, laidLooks := .later }
def SetTellsCardSaid : Prop := Claim7.holds Tryz.pinned (.plain (OpenSpec.ofChange setTellsSpec)) setTellsCard

/-- THE TIED CARD OF 'charterhouselaw15.SetYoung'. -/
def setYoungCard : Claim7 := { stood := { row := setYoungRow, standIns := [], harness := (true, "6eb78afe75d66b60e405d7be45bb8640441719a8cd76b6fe37316bf265e6ec4e"), looks := false }, kinds := [], alts := [], laidByText := true, laidKinds := [.data], laidTests := true, laidLooks := .later }
def SetYoungCardSaid : Prop := Claim7.holds Tryz.pinned (.plain (OpenSpec.ofChange setYoungSpec)) setYoungCard

/-- THE TIED CARD OF 'charterhouselaw15.SetParts'. -/
def setPartsCard : Claim7 := { stood := { row := setPartsRow, standIns := [], harness := (true, "6eb78afe75d66b60e405d7be45bb8640441719a8cd76b6fe37316bf265e6ec4e"), looks := false }, kinds := [], alts := [], laidByText := true, laidKinds := [.data], laidTests := true, laidLooks := .later }
def SetPartsCardSaid : Prop := Claim7.holds Tryz.pinned (.plain (OpenSpec.ofChange setPartsSpec)) setPartsCard

/-- THE TIED CARD OF 'charterhouselaw15.SetLater'. -/
def setLaterCard : Claim7 := { stood := { row := setLaterRow, standIns := [], harness := (true, "6eb78afe75d66b60e405d7be45bb8640441719a8cd76b6fe37316bf265e6ec4e"), looks := false }, kinds := [], alts := [], laidByText := true, laidKinds := [.data], laidTests := true, laidLooks := .later }
def SetLaterCardSaid : Prop := Claim7.holds Tryz.pinned (.plain (OpenSpec.ofChange setLaterSpec)) setLaterCard

/-- THE TIED CARD OF 'charterhouselaw15.SetAlone'. -/
def setAloneCard : Claim7 := { stood := { row := setAloneRow, standIns := [], harness := (true, "6eb78afe75d66b60e405d7be45bb8640441719a8cd76b6fe37316bf265e6ec4e"), looks := false }, kinds := [], alts := [], laidByText := true, laidKinds := [.data], laidTests := true, laidLooks := .later }
def SetAloneCardSaid : Prop := Claim7.holds Tryz.pinned (.plain (OpenSpec.ofChange setAloneSpec)) setAloneCard

/-- THE SECOND FORM's CARD OF 'charterhouselaw15.SetNames'. -/
def setNamesUptoCard : Claim7 := { stood := { row := setNamesUptoRow, standIns := [], harness := (true, "6eb78afe75d66b60e405d7be45bb8640441719a8cd76b6fe37316bf265e6ec4e"), looks := false }, kinds := [], alts := [], laidByText := true, laidKinds := [.data], laidTests := true, laidLooks := .later }
def SetNamesUptoCardSaid : Prop := Claim7.holds Tryz.pinned (.plain (OpenSpec.upto setNamesSpec)) setNamesUptoCard

/-- THE SECOND FORM's CARD OF 'charterhouselaw15.SetTells'. -/
def setTellsUptoCard : Claim7 := { stood := { row := setTellsUptoRow, standIns := [], harness := (true, "6eb78afe75d66b60e405d7be45bb8640441719a8cd76b6fe37316bf265e6ec4e"), looks := false }, kinds := [], alts := [], laidByText := true, laidKinds := [.data], laidTests := true, laidLooks := .later }
def SetTellsUptoCardSaid : Prop := Claim7.holds Tryz.pinned (.plain (OpenSpec.upto setTellsSpec)) setTellsUptoCard

/-- THE SECOND FORM's CARD OF 'charterhouselaw15.SetYoung'. -/
def setYoungUptoCard : Claim7 := { stood := { row := setYoungUptoRow, standIns := [], harness := (true, "6eb78afe75d66b60e405d7be45bb8640441719a8cd76b6fe37316bf265e6ec4e"), looks := false }, kinds := [], alts := [], laidByText := true, laidKinds := [.data], laidTests := true, laidLooks := .later }
def SetYoungUptoCardSaid : Prop := Claim7.holds Tryz.pinned (.plain (OpenSpec.upto setYoungSpec)) setYoungUptoCard

/-- THE SECOND FORM's CARD OF 'charterhouselaw15.SetParts'. -/
def setPartsUptoCard : Claim7 := { stood := { row := setPartsUptoRow, standIns := [], harness := (true, "6eb78afe75d66b60e405d7be45bb8640441719a8cd76b6fe37316bf265e6ec4e"), looks := false }, kinds := [], alts := [], laidByText := true, laidKinds := [.data], laidTests := true, laidLooks := .later }
def SetPartsUptoCardSaid : Prop := Claim7.holds Tryz.pinned (.plain (OpenSpec.upto setPartsSpec)) setPartsUptoCard

/-- THE SECOND FORM's CARD OF 'charterhouselaw15.SetLater'. -/
def setLaterUptoCard : Claim7 := { stood := { row := setLaterUptoRow, standIns := [], harness := (true, "6eb78afe75d66b60e405d7be45bb8640441719a8cd76b6fe37316bf265e6ec4e"), looks := false }, kinds := [], alts := [], laidByText := true, laidKinds := [.data], laidTests := true, laidLooks := .later }
def SetLaterUptoCardSaid : Prop := Claim7.holds Tryz.pinned (.plain (OpenSpec.upto setLaterSpec)) setLaterUptoCard

/-- THE SECOND FORM's CARD OF 'charterhouselaw15.SetAlone'. -/
def setAloneUptoCard : Claim7 := { stood := { row := setAloneUptoRow, standIns := [], harness := (true, "6eb78afe75d66b60e405d7be45bb8640441719a8cd76b6fe37316bf265e6ec4e"), looks := false }, kinds := [], alts := [], laidByText := true, laidKinds := [.data], laidTests := true, laidLooks := .later }
def SetAloneUptoCardSaid : Prop := Claim7.holds Tryz.pinned (.plain (OpenSpec.upto setAloneSpec)) setAloneUptoCard
end Rows
end Go.Proofs.YtbggkfomfeeikaaGreatDoor
