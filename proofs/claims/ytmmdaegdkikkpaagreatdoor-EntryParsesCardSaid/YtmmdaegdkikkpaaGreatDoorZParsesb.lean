/-
  Facts of the row entryParses alone. No condition.
-/
import Derived.KernelRfl
import Derived.JoinedCond
import Derived.SevenTiedAt
import Derived.Test.YtmmdaegdkikkpaaGreatDoorRows
import Derived.Test.YtmmdaegdkikkpaaGreatDoorCards
import Derived.Test.YtmmdaegdkikkpaaGreatDoorTie
set_option linter.unusedVariables false
set_option linter.unusedSimpArgs false
set_option linter.unnecessarySimpa false

section
set_option maxRecDepth 100000
namespace Go.Proofs.YtmmdaegdkikkpaaGreatDoor
open Go.ChangeShapes Go.WideShapes Go.ChangeAt
theorem eparses_and {a b:Bool} (ha:a=true) (hb:b=true):(a && b)=true:=by rw [ha,hb]; rfl
set_option maxHeartbeats 40000000 in
theorem eparses_closed:joinedFacts Tryz.pinned.checked.prog 9 Tryz.f9 (OpenSpec.ofChange Rows.entryParsesSpec).bare Rows.entryParsesRow=true:=by
 unfold joinedFacts
 repeat' (with_reducible refine eparses_and ?_ ?_)
 all_goals (as_aux_lemma=>kernel_rfl)
theorem eparses_goes:false=Rows.entryParsesRow.goesBy Tryz.pinned.checked.prog:=by kernel_rfl
end Go.Proofs.YtmmdaegdkikkpaaGreatDoor
end
