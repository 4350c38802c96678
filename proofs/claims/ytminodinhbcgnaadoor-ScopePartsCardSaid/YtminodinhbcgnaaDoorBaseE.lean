/-
  What any text of this seat leans on: Cut, prefixes, suffixes; a slice of strings in memory; the library's own variable MaxLen. No condition.
-/
import Derived.Test.YtminodinhbcgnaaDoorBaseLow
import Derived.Lib.IndexMore
set_option maxRecDepth 100000
set_option linter.unusedVariables false
set_option linter.unusedSimpArgs false
set_option linter.unnecessarySimpa false
namespace Go.Proofs.YtminodinhbcgnaaDoor
open Go.PlainAid Go.RowKit

def cutOk (t p : ByteArray) : Bool := (Lib.cut t.data.toList p.data.toList).2.2
def cutBef (t p : ByteArray) : ByteArray := ⟨(Lib.cut t.data.toList p.data.toList).1.toArray⟩
def cutAft (t p : ByteArray) : ByteArray := ⟨(Lib.cut t.data.toList p.data.toList).2.1.toArray⟩
def preOk (t p : ByteArray) : Bool := Lib.hasPrefix t.data.toList p.data.toList
def preCut (t p : ByteArray) : ByteArray := ⟨(Lib.trimPrefix t.data.toList p.data.toList).toArray⟩
def sufOk (t p : ByteArray) : Bool := Lib.hasSuffix t.data.toList p.data.toList
def sufCut (t p : ByteArray) : ByteArray := ⟨(Lib.trimSuffix t.data.toList p.data.toList).toArray⟩
def partAt (ps : List ByteArray) (j : Nat) : ByteArray := ps.getD j ByteArray.empty
theorem cutAft_size (t p : ByteArray) : (cutAft t p).size ≤ t.size := by
  unfold cutAft Lib.cut
  rw [Lib.size_mk, Lib.size_eq]
  split <;> simp
theorem preCut_size (t p : ByteArray) : (preCut t p).size ≤ t.size := by
  unfold preCut Lib.trimPrefix
  rw [Lib.size_mk, Lib.size_eq]
  split <;> simp
theorem sufCut_size (t p : ByteArray) : (sufCut t p).size ≤ t.size := by
  unfold sufCut Lib.trimSuffix
  rw [Lib.size_mk, Lib.size_eq]
  split <;> simp
theorem drop_at (ps : List ByteArray) (k : Nat) (h : k < ps.length) : ps.drop k = partAt ps k :: ps.drop (k + 1) := by
  unfold partAt
  rw [List.getD_eq_getElem?_getD, List.getElem?_eq_getElem h, Option.getD_some]
  exact List.drop_eq_getElem_cons h
/-- a slice's strings, as they lie in memory -/
def IsStrs (w : World) (b off : Nat) (ps : List ByteArray) : Prop :=
  b < w.heap.size ∧ ∀ j, j < ps.length → w.cell? ⟨b, off + j, none⟩ = some (.string (partAt ps j))
theorem IsStrs.below {w w' : World} {b off : Nat} {ps : List ByteArray} (h : IsStrs w b off ps) {B : Nat} (hb : Below B w w') (hB : b < B) : IsStrs w' b off ps :=
  ⟨Nat.lt_of_lt_of_le h.1 hb.size, fun j hj => by rw [hb.cell (p := ⟨b, off + j, none⟩) hB]; exact h.2 j hj⟩
theorem cell_later {W W' : World} {a : Addr} {v : Value} (hb : Below W.heap.size W W') (h : W.cell? a = some v) : W'.cell? a = some v :=
  (hb.cell (World.block_lt_of_cell? W _ h)).trans h
/-- the library's own variable holds a number -/
def MaxOk (w : World) : Prop := ∃ m : Int, w.cell? ⟨0, 0, none⟩ = some (.int .i64 m)
theorem MaxOk.lt {w : World} (h : MaxOk w) : 0 < w.heap.size := by
  obtain ⟨m, hm⟩ := h
  exact World.block_lt_of_cell? w _ hm
theorem MaxOk.below {w w' : World} (h : MaxOk w) {B : Nat} (hb : Below B w w') (hB : 0 < B) : MaxOk w' := by
  obtain ⟨m, hm⟩ := h
  exact ⟨m, by rw [hb.cell (p := ⟨0, 0, none⟩) hB]; exact hm⟩

end Go.Proofs.YtminodinhbcgnaaDoor
