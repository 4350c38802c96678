/-
  The shelf of this seat lies in one text. No condition.
-/
import Derived.Test.YtminodinhbcgnaaDoorShelfA
set_option linter.unusedVariables false
namespace Go.Proofs.YtminodinhbcgnaaDoor

end Go.Proofs.YtminodinhbcgnaaDoor
