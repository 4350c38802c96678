/-
  Contracts of the specification's Hex and Text. Condition: at most 1000000000 bytes.
-/
import Derived.Test.YtclecajbcmmddaaDigHex
set_option maxRecDepth 100000
set_option linter.unusedVariables false
set_option linter.unusedSimpArgs false
set_option linter.unnecessarySimpa false
namespace Go.Proofs.Ytclecajbcmmddaa
open Go.RowKit Go.PlainAid

def oL (l : List UInt8) : ByteArray := ⟨l.toArray⟩
theorem hexLow_sl : ∀ d : Nat, d < 16 → hexLow.extract d (d + 1) = oL [hexD d] := by decide +kernel
theorem oL_app (a b : List UInt8) : oL a ++ oL b = oL (a ++ b) := by
  apply ByteArray.ext
  rw [ByteArray.data_append]
  simp [oL]

end Go.Proofs.Ytclecajbcmmddaa
