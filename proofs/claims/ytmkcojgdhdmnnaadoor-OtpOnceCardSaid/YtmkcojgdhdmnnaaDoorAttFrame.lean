/-
  What the proofs of this seat share (its statements list no variable: rows, no cards): arguments that are only read, slices of strings that came in.
-/
import Derived.Test.YtmkcojgdhdmnnaaDoorRows
import Derived.WalkKit
import Derived.ProofKit
import Derived.OpenShut
import Derived.Test.YtmkcojgdhdmnnaaDoorBaseE
import Derived.SliceStrings
import Derived.Test.YtmkcojgdhdmnnaaDoorLawFrame
set_option maxRecDepth 100000
set_option linter.unusedVariables false
set_option linter.unusedSimpArgs false
set_option linter.unnecessarySimpa false
namespace Go.Proofs.YtmkcojgdhdmnnaaDoor
open Go.ChangeShapes Go.WideShapes Go.ChangeAt Go.RowKit



end Go.Proofs.YtmkcojgdhdmnnaaDoor
