/-
  Facts of the row entryTurns alone. No condition.
-/
import Derived.KernelRfl
import Derived.JoinedCond
import Derived.SevenTiedAt
import Derived.Test.YtonfkhkalodldabGreatDoorRows
import Derived.Test.YtonfkhkalodldabGreatDoorCards
import Derived.Test.YtonfkhkalodldabGreatDoorTie
set_option linter.unusedVariables false
set_option linter.unusedSimpArgs false
set_option linter.unnecessarySimpa false

section
set_option maxRecDepth 100000
namespace Go.Proofs.YtonfkhkalodldabGreatDoor
open Go.ChangeShapes Go.WideShapes Go.ChangeAt
theorem eturns_and {a b : Bool} (ha : a = true) (hb : b = true) : (a && b) = true := by rw [ha, hb]; rfl
set_option maxHeartbeats 40000000 in
theorem eturns_closed : joinedFacts Tryz.pinned.checked.prog 4 Tryz.f4 (Rows.OpenSpec.upto Rows.entryTurnsSpec).bare Rows.entryTurnsUptoRow = true := by
 unfold joinedFacts
 repeat' (with_reducible refine eturns_and ?_ ?_)
 all_goals (as_aux_lemma => kernel_rfl)
theorem eturns_goes : false = Rows.entryTurnsUptoRow.goesBy Tryz.pinned.checked.prog := by kernel_rfl
end Go.Proofs.YtonfkhkalodldabGreatDoor
end
