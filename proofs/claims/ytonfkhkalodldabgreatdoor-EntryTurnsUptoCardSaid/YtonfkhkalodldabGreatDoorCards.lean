/-
  DERIVED. GIVEN WITH THE SEED: THE CARDS: each row of YtonfkhkalodldabGreatDoorRows.lean that lists a variable, with what it lists TIED to the program's text (the seventh form; the later family's looks); each row that meets fmt, with fmt's text TOLD by the authors' own Lean function (tested against real Go, not proved from fmt's source: count such statements apart). THE CARD IS WHAT COUNTS. Prove the row's statement (the work); the ties are given (YtonfkhkalodldabGreatDoorTie.lean); close each card by the builder's one call (the guide's Derived/Test/ToyasCard.lean, 'card_holds'). Laid BY PROGRAM, IN A SANDBOX (cutbox-door.mjs). By AI agents, Wed Nov 11 2026. No macro, syntax, notation, axiom, sorry.
-/
import Derived.Test.YtonfkhkalodldabGreatDoorRows
import GoSem.ClaimSeven
namespace Go.Proofs.YtonfkhkalodldabGreatDoor
namespace Rows

/-- THE TIED CARD OF 'identitylaw08.EntryStable'. -/
def entryStableCard : Claim7 := { stood := { row := entryStableRow, standIns := [], harness := (true, "5359e70326bcf7d32018ebdd0292b1a20cf4bf997896ecc51581a02c0018d40e"), looks := true }, kinds := [], alts := [], laidByText := true, laidKinds := [.data, .data, .data, .data, .sentinel, .sentinel, .pinned], laidTests := true, laidLooks := .later }
def EntryStableCardSaid : Prop := Claim7.holds Tryz.pinned (.plain (OpenSpec.ofChange entryStableSpec)) entryStableCard

/-- THE TIED CARD OF 'identitylaw08.EntryTurns'. -/
def entryTurnsCard : Claim7 := { stood := { row := entryTurnsRow, standIns := [], harness := (true, "5359e70326bcf7d32018ebdd0292b1a20cf4bf997896ecc51581a02c0018d40e"), looks := true }, kinds := [], alts := [], laidByText := true, laidKinds := [.data, .data, .data, .data, .sentinel, .sentinel, .pinned], laidTests := true, laidLooks := .later }
def EntryTurnsCardSaid : Prop := Claim7.holds Tryz.pinned (.plain (OpenSpec.ofChange entryTurnsSpec)) entryTurnsCard

/-- THE SECOND FORM's CARD OF 'identitylaw08.EntryStable'. -/
def entryStableUptoCard : Claim7 := { stood := { row := entryStableUptoRow, standIns := [], harness := (true, "5359e70326bcf7d32018ebdd0292b1a20cf4bf997896ecc51581a02c0018d40e"), looks := true }, kinds := [], alts := [], laidByText := true, laidKinds := [.data, .data, .data, .data, .sentinel, .sentinel, .pinned], laidTests := true, laidLooks := .later }
def EntryStableUptoCardSaid : Prop := Claim7.holds Tryz.pinned (.plain (OpenSpec.upto entryStableSpec)) entryStableUptoCard

/-- THE SECOND FORM's CARD OF 'identitylaw08.EntryTurns'. -/
def entryTurnsUptoCard : Claim7 := { stood := { row := entryTurnsUptoRow, standIns := [], harness := (true, "5359e70326bcf7d32018ebdd0292b1a20cf4bf997896ecc51581a02c0018d40e"), looks := true }, kinds := [], alts := [], laidByText := true, laidKinds := [.data, .data, .data, .data, .sentinel, .sentinel, .pinned], laidTests := true, laidLooks := .later }
def EntryTurnsUptoCardSaid : Prop := Claim7.holds Tryz.pinned (.plain (OpenSpec.upto entryTurnsSpec)) entryTurnsUptoCard
end Rows
end Go.Proofs.YtonfkhkalodldabGreatDoor
