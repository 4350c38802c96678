/-
  The shelf of this seat lies in one text. No condition.
-/
import Derived.Test.YtdjhhofmlefaaaaDoorShelfA
set_option linter.unusedVariables false
namespace Go.Proofs.YtdjhhofmlefaaaaDoor

end Go.Proofs.YtdjhhofmlefaaaaDoor
