/-
  DERIVED. GIVEN WITH THE SEED: THE CARDS: each row of YtclfjdnemafmeaaGreatDoorRows.lean that lists a variable, with what it lists TIED to the program's text (the seventh form; the later family's looks); each row that meets fmt, with fmt's text TOLD by the authors' own Lean function (tested against real Go, not proved from fmt's source: count such statements apart). THE CARD IS WHAT COUNTS. Prove the row's statement (the work); the ties are given (YtclfjdnemafmeaaGreatDoorTie.lean); close each card by the builder's one call (the guide's Derived/Test/ToyasCard.lean, 'card_holds'). Laid BY PROGRAM, IN A SANDBOX (cutbox-door.mjs). By AI agents, Wed Nov 11 2026. No macro, syntax, notation, axiom, sorry.
-/
import Derived.Test.YtclfjdnemafmeaaGreatDoorRows
import GoSem.ClaimSeven
namespace Go.Proofs.YtclfjdnemafmeaaGreatDoor
namespace Rows

/-- THE TIED CARD OF 'identitylaw07.SchemaChecks'. -/
def schemaChecksCard : Claim7 := { stood := { row := schemaChecksRow, standIns := [], harness := (true, "5dbec329baab729da7d1d64877b8554c464caae83b8cc17e777ba607b4cbab96"), looks := true }, kinds := [], alts := [], laidByText := true, laidKinds := [.data, .data, .data, .data, .sentinel, .sentinel, .data, .pinned], laidTests := true, laidLooks := .later }
def SchemaChecksCardSaid : Prop := Claim7.holds Tryz.pinned (.plain (OpenSpec.ofChange schemaChecksSpec)) schemaChecksCard

/-- THE TIED CARD OF 'identitylaw07.SchemaLooks'. -/
def schemaLooksCard : Claim7 := { stood := { row := schemaLooksRow, standIns := [], harness := (true, "5dbec329baab729da7d1d64877b8554c464caae83b8cc17e777ba607b4cbab96"), looks := true }, kinds := [], alts := [], laidByText := true, laidKinds := [.data, .data, .data, .data, .sentinel, .sentinel, .data, .pinned], laidTests := true, laidLooks := .later }
def SchemaLooksCardSaid : Prop := Claim7.holds Tryz.pinned (.plain (OpenSpec.ofChange schemaLooksSpec)) schemaLooksCard

/-- THE TIED CARD OF 'identitylaw07.SchemaNormals'. -/
def schemaNormalsCard : Claim7 := { stood := { row := schemaNormalsRow, standIns := [], harness := (true, "5dbec329baab729da7d1d64877b8554c464caae83b8cc17e777ba607b4cbab96"), looks := true }, kinds := [], alts := [], laidByText := true, laidKinds := [.data, .data, .data, .data, .sentinel, .sentinel, .data, .pinned], laidTests := true, laidLooks := .later }
def SchemaNormalsCardSaid : Prop := Claim7.holds Tryz.pinned (.plain (OpenSpec.ofChange schemaNormalsSpec)) schemaNormalsCard

/-- THE TIED CARD OF 'identitylaw07.SchemaValids'. -/
def schemaValidsCard : Claim7 := { stood := { row := schemaValidsRow, standIns := [], harness := (true, "5dbec329baab729da7d1d64877b8554c464caae83b8cc17e777ba607b4cbab96"), looks := true }, kinds := [], alts := [], laidByText := true, laidKinds := [.data, .data, .data, .data, .sentinel, .sentinel, .data, .pinned], laidTests := true, laidLooks := .later }
def SchemaValidsCardSaid : Prop := Claim7.holds Tryz.pinned (.plain (OpenSpec.ofChange schemaValidsSpec)) schemaValidsCard

/-- THE TIED CARD OF 'identitylaw07.SchemaTexts'. -/
def schemaTextsCard : Claim7 := { stood := { row := schemaTextsRow, standIns := [], harness := (true, "5dbec329baab729da7d1d64877b8554c464caae83b8cc17e777ba607b4cbab96"), looks := true }, kinds := [], alts := [], laidByText := true, laidKinds := [.data, .data, .data, .data, .sentinel, .sentinel, .data, .pinned], laidTests := true, laidLooks := .later }
def SchemaTextsCardSaid : Prop := Claim7.holds Tryz.pinned (.plain (OpenSpec.ofChange schemaTextsSpec)) schemaTextsCard

/-- THE TIED CARD OF 'identitylaw07.SchemaReturns'. -/
def schemaReturnsCard : Claim7 := { stood := { row := schemaReturnsRow, standIns := [], harness := (true, "5dbec329baab729da7d1d64877b8554c464caae83b8cc17e777ba607b4cbab96"), looks := true }, kinds := [], alts := [], laidByText := true, laidKinds := [.data, .data, .data, .data, .sentinel, .sentinel, .data, .pinned], laidTests := true, laidLooks := .later }
def SchemaReturnsCardSaid : Prop := Claim7.holds Tryz.pinned (.plain (OpenSpec.ofChange schemaReturnsSpec)) schemaReturnsCard

/-- THE TIED CARD OF 'identitylaw07.SchemaOrders'. -/
def schemaOrdersCard : Claim7 := { stood := { row := schemaOrdersRow, standIns := [], harness := (true, "5dbec329baab729da7d1d64877b8554c464caae83b8cc17e777ba607b4cbab96"), looks := true }, kinds := [], alts := [], laidByText := true, laidKinds := [.data, .data, .data, .data, .sentinel, .sentinel, .data, .pinned], laidTests := true, laidLooks := .later }
def SchemaOrdersCardSaid : Prop := Claim7.holds Tryz.pinned (.plain (OpenSpec.ofChange schemaOrdersSpec)) schemaOrdersCard

/-- THE TIED CARD OF 'identitylaw07.SchemaInherits'. -/
def schemaInheritsCard : Claim7 := { stood := { row := schemaInheritsRow, standIns := [], harness := (true, "5dbec329baab729da7d1d64877b8554c464caae83b8cc17e777ba607b4cbab96"), looks := true }, kinds := [], alts := [], laidByText := true, laidKinds := [.data, .data, .data, .data, .sentinel, .sentinel, .data, .pinned], laidTests := true, laidLooks := .later }
def SchemaInheritsCardSaid : Prop := Claim7.holds Tryz.pinned (.plain (OpenSpec.ofChange schemaInheritsSpec)) schemaInheritsCard

/-- THE SECOND FORM's CARD OF 'identitylaw07.SchemaChecks'. -/
def schemaChecksUptoCard : Claim7 := { stood := { row := schemaChecksUptoRow, standIns := [], harness := (true, "5dbec329baab729da7d1d64877b8554c464caae83b8cc17e777ba607b4cbab96"), looks := true }, kinds := [], alts := [], laidByText := true, laidKinds := [.data, .data, .data, .data, .sentinel, .sentinel, .data, .pinned], laidTests := true, laidLooks := .later }
def SchemaChecksUptoCardSaid : Prop := Claim7.holds Tryz.pinned (.plain (OpenSpec.upto schemaChecksSpec)) schemaChecksUptoCard

/-- THE SECOND FORM's CARD OF 'identitylaw07.SchemaLooks'. -/
def schemaLooksUptoCard : Claim7 := { stood := { row := schemaLooksUptoRow, standIns := [], harness := (true, "5dbec329baab729da7d1d64877b8554c464caae83b8cc17e777ba607b4cbab96"), looks := true }, kinds := [], alts := [], laidByText := true, laidKinds := [.data, .data, .data, .data, .sentinel, .sentinel, .data, .pinned], laidTests := true, laidLooks := .later }
def SchemaLooksUptoCardSaid : Prop := Claim7.holds Tryz.pinned (.plain (OpenSpec.upto schemaLooksSpec)) schemaLooksUptoCard

/-- THE SECOND FORM's CARD OF 'identitylaw07.SchemaNormals'. -/
def schemaNormalsUptoCard : Claim7 := { stood := { row := schemaNormalsUptoRow, standIns := [], harness := (true, "5dbec329baab729da7d1d64877b8554c464caae83b8cc17e777ba607b4cbab96"), looks := true }, kinds := [], alts := [], laidByText := true, laidKinds := [.data, .data, .data, .data, .sentinel, .sentinel, .data, .pinned], laidTests := true, laidLooks := .later }
def SchemaNormalsUptoCardSaid : Prop := Claim7.holds Tryz.pinned (.plain (OpenSpec.upto schemaNormalsSpec)) schemaNormalsUptoCard

/-- THE SECOND FORM's CARD OF 'identitylaw07.SchemaValids'. -/
def schemaValidsUptoCard : Claim7 := { stood := { row := schemaValidsUptoRow, standIns := [], harness := (true, "5dbec329baab729da7d1d64877b8554c464caae83b8cc17e777ba607b4cbab96"), looks := true }, kinds := [], alts := [], laidByText := true, laidKinds := [.data, .data, .data, .data, .sentinel, .sentinel, .data, .pinned], laidTests := true, laidLooks := .later }
def SchemaValidsUptoCardSaid : Prop := Claim7.holds Tryz.pinned (.plain (OpenSpec.upto schemaValidsSpec)) schemaValidsUptoCard

/-- THE SECOND FORM's CARD OF 'identitylaw07.SchemaTexts'. -/
def schemaTextsUptoCard : Claim7 := { stood := { row := schemaTextsUptoRow, standIns := [], harness := (true, "5dbec329baab729da7d1d64877b8554c464caae83b8cc17e777ba607b4cbab96"), looks := true }, kinds := [], alts := [], laidByText := true, laidKinds := [.data, .data, .data, .data, .sentinel, .sentinel, .data, .pinned], laidTests := true, laidLooks := .later }
def SchemaTextsUptoCardSaid : Prop := Claim7.holds Tryz.pinned (.plain (OpenSpec.upto schemaTextsSpec)) schemaTextsUptoCard

/-- THE SECOND FORM's CARD OF 'identitylaw07.SchemaReturns'. -/
def schemaReturnsUptoCard : Claim7 := { stood := { row := schemaReturnsUptoRow, standIns := [], harness := (true, "5dbec329baab729da7d1d64877b8554c464caae83b8cc17e777ba607b4cbab96"), looks := true }, kinds := [], alts := [], laidByText := true, laidKinds := [.data, .data, .data, .data, .sentinel, .sentinel, .data, .pinned], laidTests := true, laidLooks := .later }
def SchemaReturnsUptoCardSaid : Prop := Claim7.holds Tryz.pinned (.plain (OpenSpec.upto schemaReturnsSpec)) schemaReturnsUptoCard

/-- THE SECOND FORM's CARD OF 'identitylaw07.SchemaOrders'. -/
def schemaOrdersUptoCard : Claim7 := { stood := { row := schemaOrdersUptoRow, standIns := [], harness := (true, "5dbec329baab729da7d1d64877b8554c464caae83b8cc17e777ba607b4cbab96"), looks := true }, kinds := [], alts := [], laidByText := true, laidKinds := [.data, .data, .data, .data, .sentinel, .sentinel, .data, .pinned], laidTests := true, laidLooks := .later }
def SchemaOrdersUptoCardSaid : Prop := Claim7.holds Tryz.pinned (.plain (OpenSpec.upto schemaOrdersSpec)) schemaOrdersUptoCard

/-- THE SECOND FORM's CARD OF 'identitylaw07.SchemaInherits'. -/
def schemaInheritsUptoCard : Claim7 := { stood := { row := schemaInheritsUptoRow, standIns := [], harness := (true, "5dbec329baab729da7d1d64877b8554c464caae83b8cc17e777ba607b4cbab96"), looks := true }, kinds := [], alts := [], laidByText := true, laidKinds := [.data, .data, .data, .data, .sentinel, .sentinel, .data, .pinned], laidTests := true, laidLooks := .later }
def SchemaInheritsUptoCardSaid : Prop := Claim7.holds Tryz.pinned (.plain (OpenSpec.upto schemaInheritsSpec)) schemaInheritsUptoCard
end Rows
end Go.Proofs.YtclfjdnemafmeaaGreatDoor
