/-
  Contracts of codec.plain and codec.Escape, and of the specification's. Condition: at most 1000000000 bytes.
-/
import Derived.Test.YtbogmmdmfbcbnaaDoorCodecBuild
import Derived.Test.YtbogmmdmfbcbnaaDoorCodecA
set_option maxRecDepth 100000
set_option linter.unusedVariables false
set_option linter.unusedSimpArgs false
set_option linter.unnecessarySimpa false
namespace Go.Proofs.YtbogmmdmfbcbnaaDoor
open Go.RowKit Go.PlainAid

end Go.Proofs.YtbogmmdmfbcbnaaDoor
