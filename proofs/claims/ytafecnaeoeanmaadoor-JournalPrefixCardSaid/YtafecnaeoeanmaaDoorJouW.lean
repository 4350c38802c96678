/-
  What the journal laws' walks share.
-/
import Derived.Test.YtafecnaeoeanmaaDoorJouLaws
set_option maxRecDepth 100000
set_option linter.unusedVariables false
set_option linter.unusedSimpArgs false
set_option linter.unnecessarySimpa false
namespace Go.Proofs.YtafecnaeoeanmaaDoor
open Go.RowKit Go.PlainAid

theorem strs_of {w : World} {base n cap : Nat} {ao : Option Addr} {l : List ByteArray} (h : w.ownsRow base 9 1 (.slice ao n cap) n (scells l)) (hn : l.length = n) : StrsAt w ao n cap l := by
  obtain ⟨a, c, e, hs⟩ := strs_own h hn
  injection e with e1 _ e3
  subst e1 e3
  exact hs

end Go.Proofs.YtafecnaeoeanmaaDoor
