/-
  Contracts of the specification's Clean, of Name and of the specification's Name. Condition: at most 1000000000 bytes.
-/
import Derived.Test.YtminodinhbcgnaaDoorAttKind
import Derived.Test.YtminodinhbcgnaaDoorAttKind
set_option maxRecDepth 100000
set_option linter.unusedVariables false
set_option linter.unusedSimpArgs false
set_option linter.unnecessarySimpa false
namespace Go.Proofs.YtminodinhbcgnaaDoor
open Go.RowKit Go.PlainAid



end Go.Proofs.YtminodinhbcgnaaDoor
