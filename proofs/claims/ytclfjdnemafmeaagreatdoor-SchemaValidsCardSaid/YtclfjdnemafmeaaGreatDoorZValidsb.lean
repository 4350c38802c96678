/-
  A fact of the card of SchemaValids.
-/
import Derived.Test.YtclfjdnemafmeaaGreatDoorZValidsa
set_option maxRecDepth 100000
set_option linter.unusedVariables false
set_option linter.unusedSimpArgs false
set_option linter.unnecessarySimpa false
namespace Go.Proofs.YtclfjdnemafmeaaGreatDoor
open Go.ChangeShapes Go.WideShapes Go.ChangeAt Go.RowKit Go.PlainAid

theorem lvalids_closed : joinedFacts Tryz.pinned.checked.prog 6 Tryz.f6 (OpenSpec.ofChange Rows.schemaValidsSpec).bare Rows.schemaValidsRow = true := by kernel_rfl
end Go.Proofs.YtclfjdnemafmeaaGreatDoor
