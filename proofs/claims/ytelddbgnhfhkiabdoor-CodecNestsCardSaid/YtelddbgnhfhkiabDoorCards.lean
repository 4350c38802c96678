/-
  DERIVED. GIVEN WITH THE SEED: THE CARDS: each row of YtelddbgnhfhkiabDoorRows.lean that lists a variable, with what it lists TIED to the program's text (the seventh form; the later family's looks); each row that meets fmt, with fmt's text TOLD by the authors' own Lean function (tested against real Go, not proved from fmt's source: count such statements apart). THE CARD IS WHAT COUNTS. Prove the row's statement (the work); the ties are given (YtelddbgnhfhkiabDoorTie.lean); close each card by the builder's one call (the guide's Derived/Test/ToyasCard.lean, 'card_holds'). Laid BY PROGRAM, IN A SANDBOX (cutbox-door.mjs). By AI agents, Wed Nov 11 2026. No macro, syntax, notation, axiom, sorry.
-/
import Derived.Test.YtelddbgnhfhkiabDoorRows
import GoSem.ClaimSeven
namespace Go.Proofs.YtelddbgnhfhkiabDoor
namespace Rows

/-- THE TIED CARD OF 'identitylaw02.CodecReadsPairs'. -/
def codecReadsPairsCard : Claim7 := { stood := { row := codecReadsPairsRow, standIns := [], harness := (true, "c8a6d1ad5d01fced17f826646714dda11dfb9295c76650d8d80171f748442ba4"), looks := true }, kinds := [], alts := [], laidByText := true, laidKinds := [.data, .data, .data, .sentinel, .sentinel], laidTests := true, laidLooks := .later }
def CodecReadsPairsCardSaid : Prop := Claim7.holds Tryd.pinned (.plain (OpenSpec.ofChange codecReadsPairsSpec)) codecReadsPairsCard

/-- THE TIED CARD OF 'identitylaw02.CodecInts'. -/
def codecIntsCard : Claim7 := { stood := { row := codecIntsRow, standIns := [], harness := (true, "c8a6d1ad5d01fced17f826646714dda11dfb9295c76650d8d80171f748442ba4"), looks := true }, kinds := [], alts := [], laidByText := true, laidKinds := [.data, .data, .data, .sentinel, .sentinel], laidTests := true, laidLooks := .later }
def CodecIntsCardSaid : Prop := Claim7.holds Tryd.pinned (.plain (OpenSpec.ofChange codecIntsSpec)) codecIntsCard

/-- THE TIED CARD OF 'identitylaw02.CodecBase64'. -/
def codecBase64Card : Claim7 := { stood := { row := codecBase64Row, standIns := [], harness := (true, "c8a6d1ad5d01fced17f826646714dda11dfb9295c76650d8d80171f748442ba4"), looks := true }, kinds := [], alts := [], laidByText := true, laidKinds := [.data, .data, .data, .sentinel, .sentinel], laidTests := true, laidLooks := .later }
def CodecBase64CardSaid : Prop := Claim7.holds Tryd.pinned (.plain (OpenSpec.ofChange codecBase64Spec)) codecBase64Card

/-- THE TIED CARD OF 'identitylaw02.CodecNests'. -/
def codecNestsCard : Claim7 := { stood := { row := codecNestsRow, standIns := [], harness := (true, "c8a6d1ad5d01fced17f826646714dda11dfb9295c76650d8d80171f748442ba4"), looks := true }, kinds := [], alts := [], laidByText := true, laidKinds := [.data, .data, .data, .sentinel, .sentinel], laidTests := true, laidLooks := .later }
def CodecNestsCardSaid : Prop := Claim7.holds Tryd.pinned (.plain (OpenSpec.ofChange codecNestsSpec)) codecNestsCard

/-- THE SECOND FORM's CARD OF 'identitylaw02.CodecReadsPairs'. -/
def codecReadsPairsUptoCard : Claim7 := { stood := { row := codecReadsPairsUptoRow, standIns := [], harness := (true, "c8a6d1ad5d01fced17f826646714dda11dfb9295c76650d8d80171f748442ba4"), looks := true }, kinds := [], alts := [], laidByText := true, laidKinds := [.data, .data, .data, .sentinel, .sentinel], laidTests := true, laidLooks := .later }
def CodecReadsPairsUptoCardSaid : Prop := Claim7.holds Tryd.pinned (.plain (OpenSpec.upto codecReadsPairsSpec)) codecReadsPairsUptoCard

/-- THE SECOND FORM's CARD OF 'identitylaw02.CodecInts'. -/
def codecIntsUptoCard : Claim7 := { stood := { row := codecIntsUptoRow, standIns := [], harness := (true, "c8a6d1ad5d01fced17f826646714dda11dfb9295c76650d8d80171f748442ba4"), looks := true }, kinds := [], alts := [], laidByText := true, laidKinds := [.data, .data, .data, .sentinel, .sentinel], laidTests := true, laidLooks := .later }
def CodecIntsUptoCardSaid : Prop := Claim7.holds Tryd.pinned (.plain (OpenSpec.upto codecIntsSpec)) codecIntsUptoCard

/-- THE SECOND FORM's CARD OF 'identitylaw02.CodecBase64'. -/
def codecBase64UptoCard : Claim7 := { stood := { row := codecBase64UptoRow, standIns := [], harness := (true, "c8a6d1ad5d01fced17f826646714dda11dfb9295c76650d8d80171f748442ba4"), looks := true }, kinds := [], alts := [], laidByText := true, laidKinds := [.data, .data, .data, .sentinel, .sentinel], laidTests := true, laidLooks := .later }
def CodecBase64UptoCardSaid : Prop := Claim7.holds Tryd.pinned (.plain (OpenSpec.upto codecBase64Spec)) codecBase64UptoCard

/-- THE SECOND FORM's CARD OF 'identitylaw02.CodecNests'. -/
def codecNestsUptoCard : Claim7 := { stood := { row := codecNestsUptoRow, standIns := [], harness := (true, "c8a6d1ad5d01fced17f826646714dda11dfb9295c76650d8d80171f748442ba4"), looks := true }, kinds := [], alts := [], laidByText := true, laidKinds := [.data, .data, .data, .sentinel, .sentinel], laidTests := true, laidLooks := .later }
def CodecNestsUptoCardSaid : Prop := Claim7.holds Tryd.pinned (.plain (OpenSpec.upto codecNestsSpec)) codecNestsUptoCard
end Rows
end Go.Proofs.YtelddbgnhfhkiabDoor
