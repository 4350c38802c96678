/-
  DERIVED. GIVEN WITH THE SEED: THE CARDS: each row of YtgepcbggkfjlgaaGreatDoorRows.lean that lists a variable, with what it lists TIED to the program's text (the seventh form; the later family's looks); each row that meets fmt, with fmt's text TOLD by the authors' own Lean function (tested against real Go, not proved from fmt's source: count such statements apart). THE CARD IS WHAT COUNTS. Prove the row's statement (the work); the ties are given (YtgepcbggkfjlgaaGreatDoorTie.lean); close each card by the builder's one call (the guide's Derived/Test/ToyasCard.lean, 'card_holds'). Laid BY PROGRAM, IN A SANDBOX (cutbox-door.mjs). By AI agents, Wed Nov 11 2026. No macro, syntax, notation, axiom, sorry.
-/
import Derived.Test.YtgepcbggkfjlgaaGreatDoorRows
import GoSem.ClaimSeven
namespace Go.Proofs.YtgepcbggkfjlgaaGreatDoor
namespace Rows

/-- THE TIED CARD OF 'identitylaw24.KeysChecks'. -/
def keysChecksCard : Claim7 := { stood := { row := keysChecksRow, standIns := [], harness := (true, "3387832b3199973ca5dc2b77461299853eac111121031752c324d4814b0e8650"), looks := true }, kinds := [], alts := [], laidByText := true, laidKinds := [.data, .data, .data, .data, .sentinel, .sentinel, .pinned], laidTests := true, laidLooks := .later }
def KeysChecksCardSaid : Prop := Claim7.holds Tryz.pinned (.plain (OpenSpec.ofChange keysChecksSpec)) keysChecksCard

/-- THE TIED CARD OF 'identitylaw24.KeysChooses'. -/
def keysChoosesCard : Claim7 := { stood := { row := keysChoosesRow, standIns := [], harness := (true, "3387832b3199973ca5dc2b77461299853eac111121031752c324d4814b0e8650"), looks := true }, kinds := [], alts := [], laidByText := true, laidKinds := [.data, .data, .data, .data, .sentinel, .sentinel, .pinned], laidTests := true, laidLooks := .later }
def KeysChoosesCardSaid : Prop := Claim7.holds Tryz.pinned (.plain (OpenSpec.ofChange keysChoosesSpec)) keysChoosesCard

/-- THE TIED CARD OF 'identitylaw24.KeysRotates'. -/
def keysRotatesCard : Claim7 := { stood := { row := keysRotatesRow, standIns := [], harness := (true, "3387832b3199973ca5dc2b77461299853eac111121031752c324d4814b0e8650"), looks := true }, kinds := [], alts := [], laidByText := true, laidKinds := [.data, .data, .data, .data, .sentinel, .sentinel, .pinned], laidTests := true, laidLooks := .later }
def KeysRotatesCardSaid : Prop := Claim7.holds Tryz.pinned (.plain (OpenSpec.ofChange keysRotatesSpec)) keysRotatesCard

/-- THE TIED CARD OF 'identitylaw24.KeysFollows'. -/
def keysFollowsCard : Claim7 := { stood := { row := keysFollowsRow, standIns := [], harness := (true, "3387832b3199973ca5dc2b77461299853eac111121031752c324d4814b0e8650"), looks := true }, kinds := [], alts := [], laidByText := true, laidKinds := [.data, .data, .data, .data, .sentinel, .sentinel, .pinned], laidTests := true, laidLooks := .later }
def KeysFollowsCardSaid : Prop := Claim7.holds Tryz.pinned (.plain (OpenSpec.ofChange keysFollowsSpec)) keysFollowsCard

/-- THE TIED CARD OF 'identitylaw24.KeysPrunes'. -/
def keysPrunesCard : Claim7 := { stood := { row := keysPrunesRow, standIns := [], harness := (true, "3387832b3199973ca5dc2b77461299853eac111121031752c324d4814b0e8650"), looks := true }, kinds := [], alts := [], laidByText := true, laidKinds := [.data, .data, .data, .data, .sentinel, .sentinel, .pinned], laidTests := true, laidLooks := .later }
def KeysPrunesCardSaid : Prop := Claim7.holds Tryz.pinned (.plain (OpenSpec.ofChange keysPrunesSpec)) keysPrunesCard

/-- THE TIED CARD OF 'identitylaw24.KeysTexts'. -/
def keysTextsCard : Claim7 := { stood := { row := keysTextsRow, standIns := [], harness := (true, "3387832b3199973ca5dc2b77461299853eac111121031752c324d4814b0e8650"), looks := true }, kinds := [], alts := [], laidByText := true, laidKinds := [.data, .data, .data, .data, .sentinel, .sentinel, .pinned], laidTests := true, laidLooks := .later }
def KeysTextsCardSaid : Prop := Claim7.holds Tryz.pinned (.plain (OpenSpec.ofChange keysTextsSpec)) keysTextsCard

/-- THE TIED CARD OF 'identitylaw24.KeysGaps'. -/
def keysGapsCard : Claim7 := { stood := { row := keysGapsRow, standIns := [], harness := (true, "3387832b3199973ca5dc2b77461299853eac111121031752c324d4814b0e8650"), looks := true }, kinds := [], alts := [], laidByText := true, laidKinds := [.data, .data, .data, .data, .sentinel, .sentinel, .pinned], laidTests := true, laidLooks := .later }
def KeysGapsCardSaid : Prop := Claim7.holds Tryz.pinned (.plain (OpenSpec.ofChange keysGapsSpec)) keysGapsCard

/-- THE SECOND FORM's CARD OF 'identitylaw24.KeysChecks'. -/
def keysChecksUptoCard : Claim7 := { stood := { row := keysChecksUptoRow, standIns := [], harness := (true, "3387832b3199973ca5dc2b77461299853eac111121031752c324d4814b0e8650"), looks := true }, kinds := [], alts := [], laidByText := true, laidKinds := [.data, .data, .data, .data, .sentinel, .sentinel, .pinned], laidTests := true, laidLooks := .later }
def KeysChecksUptoCardSaid : Prop := Claim7.holds Tryz.pinned (.plain (OpenSpec.upto keysChecksSpec)) keysChecksUptoCard

/-- THE SECOND FORM's CARD OF 'identitylaw24.KeysChooses'. -/
def keysChoosesUptoCard : Claim7 := { stood := { row := keysChoosesUptoRow, standIns := [], harness := (true, "3387832b3199973ca5dc2b77461299853eac111121031752c324d4814b0e8650"), looks := true }, kinds := [], alts := [], laidByText := true, laidKinds := [.data, .data, .data, .data, .sentinel, .sentinel, .pinned], laidTests := true, laidLooks := .later }
def KeysChoosesUptoCardSaid : Prop := Claim7.holds Tryz.pinned (.plain (OpenSpec.upto keysChoosesSpec)) keysChoosesUptoCard

/-- THE SECOND FORM's CARD OF 'identitylaw24.KeysRotates'. -/
def keysRotatesUptoCard : Claim7 := { stood := { row := keysRotatesUptoRow, standIns := [], harness := (true, "3387832b3199973ca5dc2b77461299853eac111121031752c324d4814b0e8650"), looks := true }, kinds := [], alts := [], laidByText := true, laidKinds := [.data, .data, .data, .data, .sentinel, .sentinel, .pinned], laidTests := true, laidLooks := .later }
def KeysRotatesUptoCardSaid : Prop := Claim7.holds Tryz.pinned (.plain (OpenSpec.upto keysRotatesSpec)) keysRotatesUptoCard

/-- THE SECOND FORM's CARD OF 'identitylaw24.KeysFollows'. -/
def keysFollowsUptoCard : Claim7 := { stood := { row := keysFollowsUptoRow, standIns := [], harness := (true, "3387832b3199973ca5dc2b77461299853eac111121031752c324d4814b0e8650"), looks := true }, kinds := [], alts := [], laidByText := true, laidKinds := [.data, .data, .data, .data, .sentinel, .sentinel, .pinned], laidTests := true, laidLooks := .later }
def KeysFollowsUptoCardSaid : Prop := Claim7.holds Tryz.pinned (.plain (OpenSpec.upto keysFollowsSpec)) keysFollowsUptoCard

/-- THE SECOND FORM's CARD OF 'identitylaw24.KeysPrunes'. -/
def keysPrunesUptoCard : Claim7 := { stood := { row := keysPrunesUptoRow, standIns := [], harness := (true, "3387832b3199973ca5dc2b77461299853eac111121031752c324d4814b0e8650"), looks := true }, kinds := [], alts := [], laidByText := true, laidKinds := [.data, .data, .data, .data, .sentinel, .sentinel, .pinned], laidTests := true, laidLooks := .later }
def KeysPrunesUptoCardSaid : Prop := Claim7.holds Tryz.pinned (.plain (OpenSpec.upto keysPrunesSpec)) keysPrunesUptoCard

/-- THE SECOND FORM's CARD OF 'identitylaw24.KeysTexts'. -/
def keysTextsUptoCard : Claim7 := { stood := { row := keysTextsUptoRow, standIns := [], harness := (true, "3387832b3199973ca5dc2b77461299853eac111121031752c324d4814b0e8650"), looks := true }, kinds := [], alts := [], laidByText := true, laidKinds := [.data, .data, .data, .data, .sentinel, .sentinel, .pinned], laidTests := true, laidLooks := .later }
def KeysTextsUptoCardSaid : Prop := Claim7.holds Tryz.pinned (.plain (OpenSpec.upto keysTextsSpec)) keysTextsUptoCard

/-- THE SECOND FORM's CARD OF 'identitylaw24.KeysGaps'. -/
def keysGapsUptoCard : Claim7 := { stood := { row := keysGapsUptoRow, standIns := [], harness := (true, "3387832b3199973ca5dc2b77461299853eac111121031752c324d4814b0e8650"), looks := true }, kinds := [], alts := [], laidByText := true, laidKinds := [.data, .data, .data, .data, .sentinel, .sentinel, .pinned], laidTests := true, laidLooks := .later }
def KeysGapsUptoCardSaid : Prop := Claim7.holds Tryz.pinned (.plain (OpenSpec.upto keysGapsSpec)) keysGapsUptoCard
end Rows
end Go.Proofs.YtgepcbggkfjlgaaGreatDoor
