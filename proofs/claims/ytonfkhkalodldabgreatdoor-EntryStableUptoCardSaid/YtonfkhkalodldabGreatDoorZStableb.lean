/-
  Facts of the row entryStable alone. No condition.
-/
import Derived.KernelRfl
import Derived.JoinedCond
import Derived.SevenTiedAt
import Derived.Test.YtonfkhkalodldabGreatDoorRows
import Derived.Test.YtonfkhkalodldabGreatDoorCards
import Derived.Test.YtonfkhkalodldabGreatDoorTie
set_option linter.unusedVariables false
set_option linter.unusedSimpArgs false
set_option linter.unnecessarySimpa false

section
/-
  Facts of the row entryStable alone. No condition.
-/
set_option maxRecDepth 100000
namespace Go.Proofs.YtonfkhkalodldabGreatDoor
open Go.ChangeShapes Go.WideShapes Go.ChangeAt

theorem estable_and {a b : Bool} (ha : a = true) (hb : b = true) : (a && b) = true := by rw [ha, hb]; rfl
set_option maxHeartbeats 40000000 in
theorem estable_closed : joinedFacts Tryz.pinned.checked.prog 3 Tryz.f3 (Rows.OpenSpec.upto Rows.entryStableSpec).bare Rows.entryStableUptoRow = true := by
  unfold joinedFacts
  repeat' (with_reducible refine estable_and ?_ ?_)
  all_goals (as_aux_lemma => kernel_rfl)
theorem estable_goes : false = Rows.entryStableUptoRow.goesBy Tryz.pinned.checked.prog := by kernel_rfl
end Go.Proofs.YtonfkhkalodldabGreatDoor
end
