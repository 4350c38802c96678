/-
  The shelf of this seat lies in one text. No condition.
-/
import Derived.Test.YtbogmmdmfbcbnaaDoorShelfD
set_option linter.unusedVariables false
namespace Go.Proofs.YtbogmmdmfbcbnaaDoor

end Go.Proofs.YtbogmmdmfbcbnaaDoor
