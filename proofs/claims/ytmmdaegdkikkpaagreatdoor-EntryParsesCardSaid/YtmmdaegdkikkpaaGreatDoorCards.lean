/-
  DERIVED. GIVEN WITH THE SEED: THE CARDS: each row of YtmmdaegdkikkpaaGreatDoorRows.lean that lists a variable, with what it lists TIED to the program's text (the seventh form; the later family's looks); each row that meets fmt, with fmt's text TOLD by the authors' own Lean function (tested against real Go, not proved from fmt's source: count such statements apart). THE CARD IS WHAT COUNTS. Prove the row's statement (the work); the ties are given (YtmmdaegdkikkpaaGreatDoorTie.lean); close each card by the builder's one call (the guide's Derived/Test/ToyasCard.lean, 'card_holds'). Laid BY PROGRAM, IN A SANDBOX (cutbox-door.mjs). By AI agents, Wed Nov 11 2026. No macro, syntax, notation, axiom, sorry.
-/
import Derived.Test.YtmmdaegdkikkpaaGreatDoorRows
import GoSem.ClaimSeven
namespace Go.Proofs.YtmmdaegdkikkpaaGreatDoor
namespace Rows

/-- THE TIED CARD OF 'identitylaw07.SchemaTexts'. -/
def schemaTextsCard : Claim7 := { stood := { row := schemaTextsRow, standIns := [], harness := (true, "512b8daf2250d93da8cfe2baa85e86ac81f09e554d0c3134b72145d7ba388e9a"), looks := true }, kinds := [], alts := [], laidByText := true, laidKinds := [.data, .data, .data, .data, .sentinel, .sentinel, .data, .pinned], laidTests := true, laidLooks := .later }
def SchemaTextsCardSaid : Prop := Claim7.holds Tryz.pinned (.plain (OpenSpec.ofChange schemaTextsSpec)) schemaTextsCard

/-- THE TIED CARD OF 'identitylaw08.EntryChecks'. -/
def entryChecksCard : Claim7 := { stood := { row := entryChecksRow, standIns := [], harness := (true, "512b8daf2250d93da8cfe2baa85e86ac81f09e554d0c3134b72145d7ba388e9a"), looks := true }, kinds := [], alts := [], laidByText := true, laidKinds := [.data, .data, .data, .data, .sentinel, .sentinel, .pinned], laidTests := true, laidLooks := .later }
def EntryChecksCardSaid : Prop := Claim7.holds Tryz.pinned (.plain (OpenSpec.ofChange entryChecksSpec)) entryChecksCard

/-- THE TIED CARD OF 'identitylaw08.EntryNormals'. -/
def entryNormalsCard : Claim7 := { stood := { row := entryNormalsRow, standIns := [], harness := (true, "512b8daf2250d93da8cfe2baa85e86ac81f09e554d0c3134b72145d7ba388e9a"), looks := true }, kinds := [], alts := [], laidByText := true, laidKinds := [.data, .data, .data, .data, .sentinel, .sentinel, .pinned], laidTests := true, laidLooks := .later }
def EntryNormalsCardSaid : Prop := Claim7.holds Tryz.pinned (.plain (OpenSpec.ofChange entryNormalsSpec)) entryNormalsCard

/-- THE TIED CARD OF 'identitylaw08.EntryApplies'. -/
def entryAppliesCard : Claim7 := { stood := { row := entryAppliesRow, standIns := [], harness := (true, "512b8daf2250d93da8cfe2baa85e86ac81f09e554d0c3134b72145d7ba388e9a"), looks := true }, kinds := [], alts := [], laidByText := true, laidKinds := [.data, .data, .data, .data, .sentinel, .sentinel, .pinned], laidTests := true, laidLooks := .later }
def EntryAppliesCardSaid : Prop := Claim7.holds Tryz.pinned (.plain (OpenSpec.ofChange entryAppliesSpec)) entryAppliesCard

/-- THE TIED CARD OF 'identitylaw08.EntryDiffs'. -/
def entryDiffsCard : Claim7 := { stood := { row := entryDiffsRow, standIns := [], harness := (true, "512b8daf2250d93da8cfe2baa85e86ac81f09e554d0c3134b72145d7ba388e9a"), looks := true }, kinds := [], alts := [], laidByText := true, laidKinds := [.data, .data, .data, .data, .sentinel, .sentinel, .pinned], laidTests := true, laidLooks := .later }
def EntryDiffsCardSaid : Prop := Claim7.holds Tryz.pinned (.plain (OpenSpec.ofChange entryDiffsSpec)) entryDiffsCard

/-- THE TIED CARD OF 'identitylaw08.EntryTexts'. -/
def entryTextsCard : Claim7 := { stood := { row := entryTextsRow, standIns := [], harness := (true, "512b8daf2250d93da8cfe2baa85e86ac81f09e554d0c3134b72145d7ba388e9a"), looks := true }, kinds := [], alts := [], laidByText := true, laidKinds := [.data, .data, .data, .data, .sentinel, .sentinel, .pinned], laidTests := true, laidLooks := .later }
def EntryTextsCardSaid : Prop := Claim7.holds Tryz.pinned (.plain (OpenSpec.ofChange entryTextsSpec)) entryTextsCard

/-- THE TIED CARD OF 'identitylaw08.EntryParses'. -/
def entryParsesCard : Claim7 := { stood := { row := entryParsesRow, standIns := [], harness := (true, "512b8daf2250d93da8cfe2baa85e86ac81f09e554d0c3134b72145d7ba388e9a"), looks := true }, kinds := [], alts := [], laidByText := true, laidKinds := [.data, .data, .data, .data, .sentinel, .sentinel, .pinned], laidTests := true, laidLooks := .later }
def EntryParsesCardSaid : Prop := Claim7.holds Tryz.pinned (.plain (OpenSpec.ofChange entryParsesSpec)) entryParsesCard

/-- THE TIED CARD OF 'identitylaw08.EntryReturns'. -/
def entryReturnsCard : Claim7 := { stood := { row := entryReturnsRow, standIns := [], harness := (true, "512b8daf2250d93da8cfe2baa85e86ac81f09e554d0c3134b72145d7ba388e9a"), looks := true }, kinds := [], alts := [], laidByText := true, laidKinds := [.data, .data, .data, .data, .sentinel, .sentinel, .pinned], laidTests := true, laidLooks := .later }
def EntryReturnsCardSaid : Prop := Claim7.holds Tryz.pinned (.plain (OpenSpec.ofChange entryReturnsSpec)) entryReturnsCard

/-- THE TIED CARD OF 'identitylaw08.EntryStable'. -/
def entryStableCard : Claim7 := { stood := { row := entryStableRow, standIns := [], harness := (true, "512b8daf2250d93da8cfe2baa85e86ac81f09e554d0c3134b72145d7ba388e9a"), looks := true }, kinds := [], alts := [], laidByText := true, laidKinds := [.data, .data, .data, .data, .sentinel, .sentinel, .pinned], laidTests := true, laidLooks := .later }
def EntryStableCardSaid : Prop := Claim7.holds Tryz.pinned (.plain (OpenSpec.ofChange entryStableSpec)) entryStableCard

/-- THE TIED CARD OF 'identitylaw08.EntryTurns'. -/
def entryTurnsCard : Claim7 := { stood := { row := entryTurnsRow, standIns := [], harness := (true, "512b8daf2250d93da8cfe2baa85e86ac81f09e554d0c3134b72145d7ba388e9a"), looks := true }, kinds := [], alts := [], laidByText := true, laidKinds := [.data, .data, .data, .data, .sentinel, .sentinel, .pinned], laidTests := true, laidLooks := .later }
def EntryTurnsCardSaid : Prop := Claim7.holds Tryz.pinned (.plain (OpenSpec.ofChange entryTurnsSpec)) entryTurnsCard

/-- THE SECOND FORM's CARD OF 'identitylaw07.SchemaTexts'. -/
def schemaTextsUptoCard : Claim7 := { stood := { row := schemaTextsUptoRow, standIns := [], harness := (true, "512b8daf2250d93da8cfe2baa85e86ac81f09e554d0c3134b72145d7ba388e9a"), looks := true }, kinds := [], alts := [], laidByText := true, laidKinds := [.data, .data, .data, .data, .sentinel, .sentinel, .data, .pinned], laidTests := true, laidLooks := .later }
def SchemaTextsUptoCardSaid : Prop := Claim7.holds Tryz.pinned (.plain (OpenSpec.upto schemaTextsSpec)) schemaTextsUptoCard

/-- THE SECOND FORM's CARD OF 'identitylaw08.EntryChecks'. -/
def entryChecksUptoCard : Claim7 := { stood := { row := entryChecksUptoRow, standIns := [], harness := (true, "512b8daf2250d93da8cfe2baa85e86ac81f09e554d0c3134b72145d7ba388e9a"), looks := true }, kinds := [], alts := [], laidByText := true, laidKinds := [.data, .data, .data, .data, .sentinel, .sentinel, .pinned], laidTests := true, laidLooks := .later }
def EntryChecksUptoCardSaid : Prop := Claim7.holds Tryz.pinned (.plain (OpenSpec.upto entryChecksSpec)) entryChecksUptoCard

/-- THE SECOND FORM's CARD OF 'identitylaw08.EntryNormals'. -/
def entryNormalsUptoCard : Claim7 := { stood := { row := entryNormalsUptoRow, standIns := [], harness := (true, "512b8daf2250d93da8cfe2baa85e86ac81f09e554d0c3134b72145d7ba388e9a"), looks := true }, kinds := [], alts := [], laidByText := true, laidKinds := [.data, .data, .data, .data, .sentinel, .sentinel, .pinned], laidTests := true, laidLooks := .later }
def EntryNormalsUptoCardSaid : Prop := Claim7.holds Tryz.pinned (.plain (OpenSpec.upto entryNormalsSpec)) entryNormalsUptoCard

/-- THE SECOND FORM's CARD OF 'identitylaw08.EntryApplies'. -/
def entryAppliesUptoCard : Claim7 := { stood := { row := entryAppliesUptoRow, standIns := [], harness := (true, "512b8daf2250d93da8cfe2baa85e86ac81f09e554d0c3134b72145d7ba388e9a"), looks := true }, kinds := [], alts := [], laidByText := true, laidKinds := [.data, .data, .data, .data, .sentinel, .sentinel, .pinned], laidTests := true, laidLooks := .later }
def EntryAppliesUptoCardSaid : Prop := Claim7.holds Tryz.pinned (.plain (OpenSpec.upto entryAppliesSpec)) entryAppliesUptoCard

/-- THE SECOND FORM's CARD OF 'identitylaw08.EntryDiffs'. -/
def entryDiffsUptoCard : Claim7 := { stood := { row := entryDiffsUptoRow, standIns := [], harness := (true, "512b8daf2250d93da8cfe2baa85e86ac81f09e554d0c3134b72145d7ba388e9a"), looks := true }, kinds := [], alts := [], laidByText := true, laidKinds := [.data, .data, .data, .data, .sentinel, .sentinel, .pinned], laidTests := true, laidLooks := .later }
def EntryDiffsUptoCardSaid : Prop := Claim7.holds Tryz.pinned (.plain (OpenSpec.upto entryDiffsSpec)) entryDiffsUptoCard

/-- THE SECOND FORM's CARD OF 'identitylaw08.EntryTexts'. -/
def entryTextsUptoCard : Claim7 := { stood := { row := entryTextsUptoRow, standIns := [], harness := (true, "512b8daf2250d93da8cfe2baa85e86ac81f09e554d0c3134b72145d7ba388e9a"), looks := true }, kinds := [], alts := [], laidByText := true, laidKinds := [.data, .data, .data, .data, .sentinel, .sentinel, .pinned], laidTests := true, laidLooks := .later }
def EntryTextsUptoCardSaid : Prop := Claim7.holds Tryz.pinned (.plain (OpenSpec.upto entryTextsSpec)) entryTextsUptoCard

/-- THE SECOND FORM's CARD OF 'identitylaw08.EntryParses'. -/
def entryParsesUptoCard : Claim7 := { stood := { row := entryParsesUptoRow, standIns := [], harness := (true, "512b8daf2250d93da8cfe2baa85e86ac81f09e554d0c3134b72145d7ba388e9a"), looks := true }, kinds := [], alts := [], laidByText := true, laidKinds := [.data, .data, .data, .data, .sentinel, .sentinel, .pinned], laidTests := true, laidLooks := .later }
def EntryParsesUptoCardSaid : Prop := Claim7.holds Tryz.pinned (.plain (OpenSpec.upto entryParsesSpec)) entryParsesUptoCard

/-- THE SECOND FORM's CARD OF 'identitylaw08.EntryReturns'. -/
def entryReturnsUptoCard : Claim7 := { stood := { row := entryReturnsUptoRow, standIns := [], harness := (true, "512b8daf2250d93da8cfe2baa85e86ac81f09e554d0c3134b72145d7ba388e9a"), looks := true }, kinds := [], alts := [], laidByText := true, laidKinds := [.data, .data, .data, .data, .sentinel, .sentinel, .pinned], laidTests := true, laidLooks := .later }
def EntryReturnsUptoCardSaid : Prop := Claim7.holds Tryz.pinned (.plain (OpenSpec.upto entryReturnsSpec)) entryReturnsUptoCard

/-- THE SECOND FORM's CARD OF 'identitylaw08.EntryStable'. -/
def entryStableUptoCard : Claim7 := { stood := { row := entryStableUptoRow, standIns := [], harness := (true, "512b8daf2250d93da8cfe2baa85e86ac81f09e554d0c3134b72145d7ba388e9a"), looks := true }, kinds := [], alts := [], laidByText := true, laidKinds := [.data, .data, .data, .data, .sentinel, .sentinel, .pinned], laidTests := true, laidLooks := .later }
def EntryStableUptoCardSaid : Prop := Claim7.holds Tryz.pinned (.plain (OpenSpec.upto entryStableSpec)) entryStableUptoCard

/-- THE SECOND FORM's CARD OF 'identitylaw08.EntryTurns'. -/
def entryTurnsUptoCard : Claim7 := { stood := { row := entryTurnsUptoRow, standIns := [], harness := (true, "512b8daf2250d93da8cfe2baa85e86ac81f09e554d0c3134b72145d7ba388e9a"), looks := true }, kinds := [], alts := [], laidByText := true, laidKinds := [.data, .data, .data, .data, .sentinel, .sentinel, .pinned], laidTests := true, laidLooks := .later }
def EntryTurnsUptoCardSaid : Prop := Claim7.holds Tryz.pinned (.plain (OpenSpec.upto entryTurnsSpec)) entryTurnsUptoCard
end Rows
end Go.Proofs.YtmmdaegdkikkpaaGreatDoor
