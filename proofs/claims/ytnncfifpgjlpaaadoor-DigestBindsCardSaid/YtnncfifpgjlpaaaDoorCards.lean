/-
  DERIVED. GIVEN WITH THE SEED: THE CARDS: each row of YtnncfifpgjlpaaaDoorRows.lean that lists a variable, with what it lists TIED to the program's text (the seventh form; the later family's looks); each row that meets fmt, with fmt's text TOLD by the authors' own Lean function (tested against real Go, not proved from fmt's source: count such statements apart). THE CARD IS WHAT COUNTS. Prove the row's statement (the work); the ties are given (YtnncfifpgjlpaaaDoorTie.lean); close each card by the builder's one call (the guide's Derived/Test/ToyasCard.lean, 'card_holds'). Laid BY PROGRAM, IN A SANDBOX (cutbox-door.mjs). By AI agents, Wed Nov 11 2026. No macro, syntax, notation, axiom, sorry.
-/
import Derived.Test.YtnncfifpgjlpaaaDoorRows
import GoSem.ClaimSeven
namespace Go.Proofs.YtnncfifpgjlpaaaDoor
namespace Rows

/-- THE TIED CARD OF 'identitylaw03.DigestSums'. -/
def digestSumsCard : Claim7 := { stood := { row := digestSumsRow, standIns := [], harness := (true, "c9ceb0c920ce27f03ceac5a3f40d067c89d0e82a01fe261786dec6d6abd8b91a"), looks := false }, kinds := [], alts := [], laidByText := true, laidKinds := [.data, .data, .data], laidTests := true, laidLooks := .later }
def DigestSumsCardSaid : Prop := Claim7.holds Tryd.pinned (.plain (OpenSpec.ofChange digestSumsSpec)) digestSumsCard

/-- THE TIED CARD OF 'identitylaw03.DigestHex'. -/
def digestHexCard : Claim7 := { stood := { row := digestHexRow, standIns := [], harness := (true, "c9ceb0c920ce27f03ceac5a3f40d067c89d0e82a01fe261786dec6d6abd8b91a"), looks := false }, kinds := [], alts := [], laidByText := true, laidKinds := [.data, .data, .data], laidTests := true, laidLooks := .later }
def DigestHexCardSaid : Prop := Claim7.holds Tryd.pinned (.plain (OpenSpec.ofChange digestHexSpec)) digestHexCard

/-- THE TIED CARD OF 'identitylaw03.DigestMacs'. -/
def digestMacsCard : Claim7 := { stood := { row := digestMacsRow, standIns := [], harness := (true, "c9ceb0c920ce27f03ceac5a3f40d067c89d0e82a01fe261786dec6d6abd8b91a"), looks := false }, kinds := [], alts := [], laidByText := true, laidKinds := [.data, .data, .data], laidTests := true, laidLooks := .later }
def DigestMacsCardSaid : Prop := Claim7.holds Tryd.pinned (.plain (OpenSpec.ofChange digestMacsSpec)) digestMacsCard

/-- THE TIED CARD OF 'identitylaw03.DigestRoots'. -/
def digestRootsCard : Claim7 := { stood := { row := digestRootsRow, standIns := [], harness := (true, "c9ceb0c920ce27f03ceac5a3f40d067c89d0e82a01fe261786dec6d6abd8b91a"), looks := false }, kinds := [], alts := [], laidByText := true, laidKinds := [.data, .data, .data], laidTests := true, laidLooks := .later }
def DigestRootsCardSaid : Prop := Claim7.holds Tryd.pinned (.plain (OpenSpec.ofChange digestRootsSpec)) digestRootsCard

/-- THE TIED CARD OF 'identitylaw03.DigestProves'. -/
def digestProvesCard : Claim7 := { stood := { row := digestProvesRow, standIns := [], harness := (true, "c9ceb0c920ce27f03ceac5a3f40d067c89d0e82a01fe261786dec6d6abd8b91a"), looks := false }, kinds := [], alts := [], laidByText := true, laidKinds := [.data, .data, .data], laidTests := true, laidLooks := .later }
def DigestProvesCardSaid : Prop := Claim7.holds Tryd.pinned (.plain (OpenSpec.ofChange digestProvesSpec)) digestProvesCard

/-- THE TIED CARD OF 'identitylaw03.DigestBack'. -/
def digestBackCard : Claim7 := { stood := { row := digestBackRow, standIns := [], harness := (true, "c9ceb0c920ce27f03ceac5a3f40d067c89d0e82a01fe261786dec6d6abd8b91a"), looks := false }, kinds := [], alts := [], laidByText := true, laidKinds := [.data, .data, .data], laidTests := true, laidLooks := .later }
def DigestBackCardSaid : Prop := Claim7.holds Tryd.pinned (.plain (OpenSpec.ofChange digestBackSpec)) digestBackCard

/-- THE TIED CARD OF 'identitylaw03.DigestProven'. -/
def digestProvenCard : Claim7 := { stood := { row := digestProvenRow, standIns := [], harness := (true, "c9ceb0c920ce27f03ceac5a3f40d067c89d0e82a01fe261786dec6d6abd8b91a"), looks := false }, kinds := [], alts := [], laidByText := true, laidKinds := [.data, .data, .data], laidTests := true, laidLooks := .later }
def DigestProvenCardSaid : Prop := Claim7.holds Tryd.pinned (.plain (OpenSpec.ofChange digestProvenSpec)) digestProvenCard

/-- THE TIED CARD OF 'identitylaw03.DigestBinds'. -/
def digestBindsCard : Claim7 := { stood := { row := digestBindsRow, standIns := [], harness := (true, "c9ceb0c920ce27f03ceac5a3f40d067c89d0e82a01fe261786dec6d6abd8b91a"), looks := false }, kinds := [], alts := [], laidByText := true, laidKinds := [.data, .data, .data], laidTests := true, laidLooks := .later }
def DigestBindsCardSaid : Prop := Claim7.holds Tryd.pinned (.plain (OpenSpec.ofChange digestBindsSpec)) digestBindsCard

/-- THE SECOND FORM's CARD OF 'identitylaw03.DigestSums'. -/
def digestSumsUptoCard : Claim7 := { stood := { row := digestSumsUptoRow, standIns := [], harness := (true, "c9ceb0c920ce27f03ceac5a3f40d067c89d0e82a01fe261786dec6d6abd8b91a"), looks := false }, kinds := [], alts := [], laidByText := true, laidKinds := [.data, .data, .data], laidTests := true, laidLooks := .later }
def DigestSumsUptoCardSaid : Prop := Claim7.holds Tryd.pinned (.plain (OpenSpec.upto digestSumsSpec)) digestSumsUptoCard

/-- THE SECOND FORM's CARD OF 'identitylaw03.DigestHex'. -/
def digestHexUptoCard : Claim7 := { stood := { row := digestHexUptoRow, standIns := [], harness := (true, "c9ceb0c920ce27f03ceac5a3f40d067c89d0e82a01fe261786dec6d6abd8b91a"), looks := false }, kinds := [], alts := [], laidByText := true, laidKinds := [.data, .data, .data], laidTests := true, laidLooks := .later }
def DigestHexUptoCardSaid : Prop := Claim7.holds Tryd.pinned (.plain (OpenSpec.upto digestHexSpec)) digestHexUptoCard

/-- THE SECOND FORM's CARD OF 'identitylaw03.DigestMacs'. -/
def digestMacsUptoCard : Claim7 := { stood := { row := digestMacsUptoRow, standIns := [], harness := (true, "c9ceb0c920ce27f03ceac5a3f40d067c89d0e82a01fe261786dec6d6abd8b91a"), looks := false }, kinds := [], alts := [], laidByText := true, laidKinds := [.data, .data, .data], laidTests := true, laidLooks := .later }
def DigestMacsUptoCardSaid : Prop := Claim7.holds Tryd.pinned (.plain (OpenSpec.upto digestMacsSpec)) digestMacsUptoCard

/-- THE SECOND FORM's CARD OF 'identitylaw03.DigestRoots'. -/
def digestRootsUptoCard : Claim7 := { stood := { row := digestRootsUptoRow, standIns := [], harness := (true, "c9ceb0c920ce27f03ceac5a3f40d067c89d0e82a01fe261786dec6d6abd8b91a"), looks := false }, kinds := [], alts := [], laidByText := true, laidKinds := [.data, .data, .data], laidTests := true, laidLooks := .later }
def DigestRootsUptoCardSaid : Prop := Claim7.holds Tryd.pinned (.plain (OpenSpec.upto digestRootsSpec)) digestRootsUptoCard

/-- THE SECOND FORM's CARD OF 'identitylaw03.DigestProves'. -/
def digestProvesUptoCard : Claim7 := { stood := { row := digestProvesUptoRow, standIns := [], harness := (true, "c9ceb0c920ce27f03ceac5a3f40d067c89d0e82a01fe261786dec6d6abd8b91a"), looks := false }, kinds := [], alts := [], laidByText := true, laidKinds := [.data, .data, .data], laidTests := true, laidLooks := .later }
def DigestProvesUptoCardSaid : Prop := Claim7.holds Tryd.pinned (.plain (OpenSpec.upto digestProvesSpec)) digestProvesUptoCard

/-- THE SECOND FORM's CARD OF 'identitylaw03.DigestBack'. -/
def digestBackUptoCard : Claim7 := { stood := { row := digestBackUptoRow, standIns := [], harness := (true, "c9ceb0c920ce27f03ceac5a3f40d067c89d0e82a01fe261786dec6d6abd8b91a"), looks := false }, kinds := [], alts := [], laidByText := true, laidKinds := [.data, .data, .data], laidTests := true, laidLooks := .later }
def DigestBackUptoCardSaid : Prop := Claim7.holds Tryd.pinned (.plain (OpenSpec.upto digestBackSpec)) digestBackUptoCard

/-- THE SECOND FORM's CARD OF 'identitylaw03.DigestProven'. -/
def digestProvenUptoCard : Claim7 := { stood := { row := digestProvenUptoRow, standIns := [], harness := (true, "c9ceb0c920ce27f03ceac5a3f40d067c89d0e82a01fe261786dec6d6abd8b91a"), looks := false }, kinds := [], alts := [], laidByText := true, laidKinds := [.data, .data, .data], laidTests := true, laidLooks := .later }
def DigestProvenUptoCardSaid : Prop := Claim7.holds Tryd.pinned (.plain (OpenSpec.upto digestProvenSpec)) digestProvenUptoCard

/-- THE SECOND FORM's CARD OF 'identitylaw03.DigestBinds'. -/
def digestBindsUptoCard : Claim7 := { stood := { row := digestBindsUptoRow, standIns := [], harness := (true, "c9ceb0c920ce27f03ceac5a3f40d067c89d0e82a01fe261786dec6d6abd8b91a"), looks := false }, kinds := [], alts := [], laidByText := true, laidKinds := [.data, .data, .data], laidTests := true, laidLooks := .later }
def DigestBindsUptoCardSaid : Prop := Claim7.holds Tryd.pinned (.plain (OpenSpec.upto digestBindsSpec)) digestBindsUptoCard
end Rows
end Go.Proofs.YtnncfifpgjlpaaaDoor
