/-
  Plain functions for matching: what CutPrefix, CutSuffix and Cut give, the parts between one after the other, and the whole match. No condition.
-/
import Derived.Test.YtdjhhofmlefaaaaDoorFoldFold
import Derived.Test.YtdjhhofmlefaaaaDoorBaseE
import Derived.Lib.IndexMore
set_option linter.unusedVariables false
set_option linter.unusedSimpArgs false
set_option linter.unnecessarySimpa false
namespace Go.Proofs.YtdjhhofmlefaaaaDoor
open Go.PlainAid Go.RowKit

def occB : ByteArray → List ByteArray → Bool
  | _, [] => true
  | t, p :: r => cutOk t (lowS p) && occB (cutAft t (lowS p)) r
def between (ps : List ByteArray) : List ByteArray := (ps.drop 1).take (ps.length - 2)
def restS (s : ByteArray) (ps : List ByteArray) : ByteArray := preCut (foldS s) (lowS (partAt ps 0))
def matchB (s : ByteArray) (ps : List ByteArray) : Bool :=
  decide (2 ≤ ps.length) && preOk (foldS s) (lowS (partAt ps 0)) && sufOk (restS s ps) (lowS (partAt ps (ps.length - 1))) &&
    occB (sufCut (restS s ps) (lowS (partAt ps (ps.length - 1)))) (between ps)

theorem between_length (ps : List ByteArray) : (between ps).length = ps.length - 2 := by
  unfold between; rw [List.length_take, List.length_drop]; omega
theorem between_at (ps : List ByteArray) (j : Nat) (h : j < ps.length - 2) : partAt (between ps) j = partAt ps (j + 1) := by
  unfold partAt between
  rw [List.getD_eq_getElem?_getD, List.getD_eq_getElem?_getD, List.getElem?_take, if_pos h, List.getElem?_drop, Nat.add_comm]
theorem occ_next (u : ByteArray) (ps : List ByteArray) (k : Nat) (h : k < ps.length) : occB u (ps.drop k) = (cutOk u (lowS (partAt ps k)) && occB (cutAft u (lowS (partAt ps k))) (ps.drop (k + 1))) := by
  rw [drop_at ps k h]; rfl
theorem occ_end (u : ByteArray) (ps : List ByteArray) (k : Nat) (h : ps.length ≤ k) : occB u (ps.drop k) = true := by
  rw [List.drop_eq_nil_of_le h]; rfl

theorem IsStrs.between {w : World} {b off : Nat} {ps : List ByteArray} (h : IsStrs w b off ps) : IsStrs w b (off + 1) (between ps) :=
  ⟨h.1, fun j hj => by
    rw [between_length] at hj
    rw [between_at ps j hj, ← h.2 (j + 1) (by omega)]
    congr 2; omega⟩

end Go.Proofs.YtdjhhofmlefaaaaDoor
