/-
  The shelf of this seat lies in one text. No condition.
-/
import Derived.Test.YtmkcojgdhdmnnaaDoorShelfD
set_option linter.unusedVariables false
namespace Go.Proofs.YtmkcojgdhdmnnaaDoor

end Go.Proofs.YtmkcojgdhdmnnaaDoor
