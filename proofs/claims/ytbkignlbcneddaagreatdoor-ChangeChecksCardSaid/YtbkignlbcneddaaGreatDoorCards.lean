/-
  DERIVED. GIVEN WITH THE SEED: THE CARDS: each row of YtbkignlbcneddaaGreatDoorRows.lean that lists a variable, with what it lists TIED to the program's text (the seventh form; the later family's looks); each row that meets fmt, with fmt's text TOLD by the authors' own Lean function (tested against real Go, not proved from fmt's source: count such statements apart). THE CARD IS WHAT COUNTS. Prove the row's statement (the work); the ties are given (YtbkignlbcneddaaGreatDoorTie.lean); close each card by the builder's one call (the guide's Derived/Test/ToyasCard.lean, 'card_holds'). Laid BY PROGRAM, IN A SANDBOX (cutbox-door.mjs). By AI agents, Wed Nov 11 2026. No macro, syntax, notation, axiom, sorry.
-/
import Derived.Test.YtbkignlbcneddaaGreatDoorRows
import GoSem.ClaimSeven
namespace Go.Proofs.YtbkignlbcneddaaGreatDoor
namespace Rows

/-- THE TIED CARD OF 'identitylaw16.ChangeChecks'. -/
def changeChecksCard : Claim7 := { stood := { row := changeChecksRow, standIns := [], harness := (true, "4845c298c3c6dd1739e200ae16957c9073783038539a6ea398ac44c870f13874"), looks := false }, kinds := [], alts := [], laidByText := true, laidKinds := [.data, .data, .data, .data, .data, .pinned], laidTests := true, laidLooks := .later }
def ChangeChecksCardSaid : Prop := Claim7.holds Tryz.pinned (.plain (OpenSpec.ofChange changeChecksSpec)) changeChecksCard

/-- THE TIED CARD OF 'identitylaw16.ChangeTexts'. -/
def changeTextsCard : Claim7 := { stood := { row := changeTextsRow, standIns := [], harness := (true, "4845c298c3c6dd1739e200ae16957c9073783038539a6ea398ac44c870f13874"), looks := false }, kinds := [], alts := [], laidByText := true, laidKinds := [.data, .data, .data, .data, .data, .pinned], laidTests := true, laidLooks := .later }
def ChangeTextsCardSaid : Prop := Claim7.holds Tryz.pinned (.plain (OpenSpec.ofChange changeTextsSpec)) changeTextsCard

/-- THE TIED CARD OF 'identitylaw16.ChangeMerges'. -/
def changeMergesCard : Claim7 := { stood := { row := changeMergesRow, standIns := [], harness := (true, "4845c298c3c6dd1739e200ae16957c9073783038539a6ea398ac44c870f13874"), looks := false }, kinds := [], alts := [], laidByText := true, laidKinds := [.data, .data, .data, .data, .data, .pinned], laidTests := true, laidLooks := .later }
def ChangeMergesCardSaid : Prop := Claim7.holds Tryz.pinned (.plain (OpenSpec.ofChange changeMergesSpec)) changeMergesCard

/-- THE TIED CARD OF 'identitylaw16.ChangeVectors'. -/
def changeVectorsCard : Claim7 := { stood := { row := changeVectorsRow, standIns := [], harness := (true, "4845c298c3c6dd1739e200ae16957c9073783038539a6ea398ac44c870f13874"), looks := false }, kinds := [], alts := [], laidByText := true, laidKinds := [.data, .data, .data, .data, .data, .pinned], laidTests := true, laidLooks := .later }
def ChangeVectorsCardSaid : Prop := Claim7.holds Tryz.pinned (.plain (OpenSpec.ofChange changeVectorsSpec)) changeVectorsCard

/-- THE TIED CARD OF 'identitylaw16.ChangeEdits'. -/
def changeEditsCard : Claim7 := { stood := { row := changeEditsRow, standIns := [], harness := (true, "4845c298c3c6dd1739e200ae16957c9073783038539a6ea398ac44c870f13874"), looks := false }, kinds := [], alts := [], laidByText := true, laidKinds := [.data, .data, .data, .data, .data, .pinned], laidTests := true, laidLooks := .later }
def ChangeEditsCardSaid : Prop := Claim7.holds Tryz.pinned (.plain (OpenSpec.ofChange changeEditsSpec)) changeEditsCard

/-- THE TIED CARD OF 'identitylaw16.ChangeBack'. -/
def changeBackCard : Claim7 := { stood := { row := changeBackRow, standIns := [], harness := (true, "4845c298c3c6dd1739e200ae16957c9073783038539a6ea398ac44c870f13874"), looks := false }, kinds := [], alts := [], laidByText := true, laidKinds := [.data, .data, .data, .data, .data, .pinned], laidTests := true, laidLooks := .later }
def ChangeBackCardSaid : Prop := Claim7.holds Tryz.pinned (.plain (OpenSpec.ofChange changeBackSpec)) changeBackCard

/-- THE TIED CARD OF 'identitylaw16.ChangeUnion'. -/
def changeUnionCard : Claim7 := { stood := { row := changeUnionRow, standIns := [], harness := (true, "4845c298c3c6dd1739e200ae16957c9073783038539a6ea398ac44c870f13874"), looks := false }, kinds := [], alts := [], laidByText := true, laidKinds := [.data, .data, .data, .data, .data, .pinned], laidTests := true, laidLooks := .later }
def ChangeUnionCardSaid : Prop := Claim7.holds Tryz.pinned (.plain (OpenSpec.ofChange changeUnionSpec)) changeUnionCard

/-- THE TIED CARD OF 'identitylaw16.ChangeTurns'. -/
def changeTurnsCard : Claim7 := { stood := { row := changeTurnsRow, standIns := [], harness := (true, "4845c298c3c6dd1739e200ae16957c9073783038539a6ea398ac44c870f13874"), looks := false }, kinds := [], alts := [], laidByText := true, laidKinds := [.data, .data, .data, .data, .data, .pinned], laidTests := true, laidLooks := .later }
def ChangeTurnsCardSaid : Prop := Claim7.holds Tryz.pinned (.plain (OpenSpec.ofChange changeTurnsSpec)) changeTurnsCard

/-- THE SECOND FORM's CARD OF 'identitylaw16.ChangeChecks'. -/
def changeChecksUptoCard : Claim7 := { stood := { row := changeChecksUptoRow, standIns := [], harness := (true, "4845c298c3c6dd1739e200ae16957c9073783038539a6ea398ac44c870f13874"), looks := false }, kinds := [], alts := [], laidByText := true, laidKinds := [.data, .data, .data, .data, .data, .pinned], laidTests := true, laidLooks := .later }
def ChangeChecksUptoCardSaid : Prop := Claim7.holds Tryz.pinned (.plain (OpenSpec.upto changeChecksSpec)) changeChecksUptoCard

/-- THE SECOND FORM's CARD OF 'identitylaw16.ChangeTexts'. -/
def changeTextsUptoCard : Claim7 := { stood := { row := changeTextsUptoRow, standIns := [], harness := (true, "4845c298c3c6dd1739e200ae16957c9073783038539a6ea398ac44c870f13874"), looks := false }, kinds := [], alts := [], laidByText := true, laidKinds := [.data, .data, .data, .data, .data, .pinned], laidTests := true, laidLooks := .later }
def ChangeTextsUptoCardSaid : Prop := Claim7.holds Tryz.pinned (.plain (OpenSpec.upto changeTextsSpec)) changeTextsUptoCard

/-- THE SECOND FORM's CARD OF 'identitylaw16.ChangeMerges'. -/
def changeMergesUptoCard : Claim7 := { stood := { row := changeMergesUptoRow, standIns := [], harness := (true, "4845c298c3c6dd1739e200ae16957c9073783038539a6ea398ac44c870f13874"), looks := false }, kinds := [], alts := [], laidByText := true, laidKinds := [.data, .data, .data, .data, .data, .pinned], laidTests := true, laidLooks := .later }
def ChangeMergesUptoCardSaid : Prop := Claim7.holds Tryz.pinned (.plain (OpenSpec.upto changeMergesSpec)) changeMergesUptoCard

/-- THE SECOND FORM's CARD OF 'identitylaw16.ChangeVectors'. -/
def changeVectorsUptoCard : Claim7 := { stood := { row := changeVectorsUptoRow, standIns := [], harness := (true, "4845c298c3c6dd1739e200ae16957c9073783038539a6ea398ac44c870f13874"), looks := false }, kinds := [], alts := [], laidByText := true, laidKinds := [.data, .data, .data, .data, .data, .pinned], laidTests := true, laidLooks := .later }
def ChangeVectorsUptoCardSaid : Prop := Claim7.holds Tryz.pinned (.plain (OpenSpec.upto changeVectorsSpec)) changeVectorsUptoCard

/-- THE SECOND FORM's CARD OF 'identitylaw16.ChangeEdits'. -/
def changeEditsUptoCard : Claim7 := { stood := { row := changeEditsUptoRow, standIns := [], harness := (true, "4845c298c3c6dd1739e200ae16957c9073783038539a6ea398ac44c870f13874"), looks := false }, kinds := [], alts := [], laidByText := true, laidKinds := [.data, .data, .data, .data, .data, .pinned], laidTests := true, laidLooks := .later }
def ChangeEditsUptoCardSaid : Prop := Claim7.holds Tryz.pinned (.plain (OpenSpec.upto changeEditsSpec)) changeEditsUptoCard

/-- THE SECOND FORM's CARD OF 'identitylaw16.ChangeBack'. -/
def changeBackUptoCard : Claim7 := { stood := { row := changeBackUptoRow, standIns := [], harness := (true, "4845c298c3c6dd1739e200ae16957c9073783038539a6ea398ac44c870f13874"), looks := false }, kinds := [], alts := [], laidByText := true, laidKinds := [.data, .data, .data, .data, .data, .pinned], laidTests := true, laidLooks := .later }
def ChangeBackUptoCardSaid : Prop := Claim7.holds Tryz.pinned (.plain (OpenSpec.upto changeBackSpec)) changeBackUptoCard

/-- THE SECOND FORM's CARD OF 'identitylaw16.ChangeUnion'. -/
def changeUnionUptoCard : Claim7 := { stood := { row := changeUnionUptoRow, standIns := [], harness := (true, "4845c298c3c6dd1739e200ae16957c9073783038539a6ea398ac44c870f13874"), looks := false }, kinds := [], alts := [], laidByText := true, laidKinds := [.data, .data, .data, .data, .data, .pinned], laidTests := true, laidLooks := .later }
def ChangeUnionUptoCardSaid : Prop := Claim7.holds Tryz.pinned (.plain (OpenSpec.upto changeUnionSpec)) changeUnionUptoCard

/-- THE SECOND FORM's CARD OF 'identitylaw16.ChangeTurns'. -/
def changeTurnsUptoCard : Claim7 := { stood := { row := changeTurnsUptoRow, standIns := [], harness := (true, "4845c298c3c6dd1739e200ae16957c9073783038539a6ea398ac44c870f13874"), looks := false }, kinds := [], alts := [], laidByText := true, laidKinds := [.data, .data, .data, .data, .data, .pinned], laidTests := true, laidLooks := .later }
def ChangeTurnsUptoCardSaid : Prop := Claim7.holds Tryz.pinned (.plain (OpenSpec.upto changeTurnsSpec)) changeTurnsUptoCard
end Rows
end Go.Proofs.YtbkignlbcneddaaGreatDoor
