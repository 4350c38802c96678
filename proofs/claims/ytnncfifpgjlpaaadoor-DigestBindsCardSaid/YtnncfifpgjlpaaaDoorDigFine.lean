/-
  The elements of a path are small. No condition.
-/
import Derived.Test.YtnncfifpgjlpaaaDoorDigLaws
set_option linter.unusedVariables false
set_option linter.unusedSimpArgs false
set_option linter.unnecessarySimpa false
namespace Go.Proofs.YtnncfifpgjlpaaaDoor
open Go.RowKit Go.PlainAid

theorem all_mem' {ps : List ByteArray} (hp : ∀ j, j < ps.length → (partAt ps j).size ≤ 1000) : ∀ p ∈ ps, p.size ≤ 1000 := all_mem hp
theorem path_mem : ∀ (m : Nat) (l : List ByteArray) (i : Nat), l.length ≤ m → (∀ p ∈ l, p.size ≤ 1000) → (pathL l i).length ≤ l.length ∧ ∀ p ∈ pathL l i, p.size ≤ 1000 := by
  intro m
  induction m with
  | zero =>
    intro l i hm hp
    rw [pathL_one l i (by omega)]
    exact ⟨Nat.zero_le _, fun p h => by cases h⟩
  | succ m ih =>
    intro l i hm hp
    by_cases h1 : l.length ≤ 1
    · rw [pathL_one l i h1]
      exact ⟨Nat.zero_le _, fun p h => by cases h⟩
    · have hu := upL_len l
      have hf : ∀ p ∈ upL l, p.size ≤ 1000 := all_mem' (up_fine (fun j hj => hp _ (by
        unfold partAt
        rw [List.getD_eq_getElem?_getD, List.getElem?_eq_getElem hj]
        exact List.getElem_mem hj)))
      obtain ⟨k1, k2⟩ := ih (upL l) (i / 2) (by omega) hf
      rw [pathL_up l i h1]
      by_cases h2 : mate i < l.length
      · rw [if_pos h2]
        refine ⟨by rw [List.length_append]; simp; omega, fun p h => ?_⟩
        rcases List.mem_append.1 h with h | h
        · have : p = partAt l (mate i) := by simpa using h
          rw [this]
          unfold partAt
          rw [List.getD_eq_getElem?_getD, List.getElem?_eq_getElem h2]
          exact hp _ (List.getElem_mem h2)
        · exact k2 p h
      · rw [if_neg h2]
        refine ⟨by rw [List.nil_append]; omega, fun p h => k2 p (by rwa [List.nil_append] at h)⟩
theorem path_fine (ps : List ByteArray) (i : Nat) : (pathL (ps.map leafS) i).length ≤ ps.length ∧ ∀ j, j < (pathL (ps.map leafS) i).length → (partAt (pathL (ps.map leafS) i) j).size ≤ 1000 := by
  obtain ⟨k1, k2⟩ := path_mem _ (ps.map leafS) i (Nat.le_refl _) (all_mem' (leaf_fine ps))
  rw [List.length_map] at k1
  refine ⟨k1, fun j hj => ?_⟩
  unfold partAt
  rw [List.getD_eq_getElem?_getD, List.getElem?_eq_getElem hj]
  exact k2 _ (List.getElem_mem hj)

end Go.Proofs.YtnncfifpgjlpaaaDoor
