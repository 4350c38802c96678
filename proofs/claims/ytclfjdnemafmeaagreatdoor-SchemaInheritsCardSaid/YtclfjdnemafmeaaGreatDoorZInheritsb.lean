/-
  A fact of the row SchemaInherits.
-/
import Derived.Test.YtclfjdnemafmeaaGreatDoorQ25
set_option maxRecDepth 100000
set_option linter.unusedVariables false
set_option linter.unusedSimpArgs false
set_option linter.unnecessarySimpa false
namespace Go.Proofs.YtclfjdnemafmeaaGreatDoor
open Go.ChangeShapes Go.WideShapes Go.ChangeAt Go.RowKit Go.PlainAid

theorem linherits_closed : joinedFacts Tryz.pinned.checked.prog 10 Tryz.f10 (OpenSpec.ofChange Rows.schemaInheritsSpec).bare Rows.schemaInheritsRow = true := by kernel_rfl
end Go.Proofs.YtclfjdnemafmeaaGreatDoor
