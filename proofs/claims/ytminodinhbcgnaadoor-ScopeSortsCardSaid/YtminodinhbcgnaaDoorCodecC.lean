/-
  Plain functions for the text forms of lists: the pieces between the bars, reading them, writing them. No condition.
-/
import Derived.Test.YtminodinhbcgnaaDoorCodecB
import Derived.Test.YtminodinhbcgnaaDoorBaseE
set_option maxRecDepth 100000
set_option linter.unusedVariables false
set_option linter.unusedSimpArgs false
set_option linter.unnecessarySimpa false
namespace Go.Proofs.YtminodinhbcgnaaDoor
open Go.PlainAid

/-- the pieces between the bytes b -/
def pieces (b : UInt8) : List UInt8 → List (List UInt8)
  | [] => [[]]
  | c :: l => if c = b then [] :: pieces b l else match pieces b l with
    | p :: r => (c :: p) :: r
    | [] => [[c]]
theorem occ_one (l : List UInt8) (b : UInt8) (i : Nat) : Lib.occAt l [b] i = true ↔ l[i]? = some b := by
  unfold Lib.occAt
  rw [← List.head?_drop]
  cases l.drop i with
  | nil => simp
  | cons c m =>
    simp only [List.isPrefixOf, Bool.and_true, List.head?_cons, Option.some.injEq, beq_iff_eq]
    exact eq_comm
theorem pieces_hit (b : UInt8) : ∀ (l : List UInt8) (i : Nat), l[i]? = some b → (∀ j, j < i → l[j]? ≠ some b) → pieces b l = l.take i :: pieces b (l.drop (i + 1))
  | [], i, h, _ => by simp at h
  | c :: l, 0, h, _ => by
    have : c = b := by simpa using h
    conv => lhs; unfold pieces
    rw [if_pos this]; rfl
  | c :: l, i + 1, h, hn => by
    have hc : c ≠ b := fun e => hn 0 (by omega) (by rw [e]; rfl)
    have ih := pieces_hit b l i (by simpa using h) (fun j hj => by have := hn (j + 1) (by omega); simpa using this)
    conv => lhs; unfold pieces
    rw [if_neg hc, ih]
    rfl
theorem pieces_miss (b : UInt8) : ∀ (l : List UInt8), (∀ j : Nat, l[j]? ≠ some b) → pieces b l = [l]
  | [], _ => rfl
  | c :: l, hn => by
    have hc : c ≠ b := fun e => hn 0 (by rw [e]; rfl)
    have ih := pieces_miss b l (fun j => by have := hn (j + 1); simpa using this)
    unfold pieces
    rw [if_neg hc, ih]
/-- Cut at one byte -/
theorem cut_one (t : ByteArray) (b : UInt8) : (cutOk t ⟨#[b]⟩ = true ∧ pieces b t.data.toList = (cutBef t ⟨#[b]⟩).data.toList :: pieces b (cutAft t ⟨#[b]⟩).data.toList ∧ (cutAft t ⟨#[b]⟩).size < t.size ∧ (cutBef t ⟨#[b]⟩).size ≤ t.size ∧
      (∀ j : Nat, (cutBef t ⟨#[b]⟩).data.toList[j]? ≠ some b)) ∨
    (cutOk t ⟨#[b]⟩ = false ∧ pieces b t.data.toList = [t.data.toList] ∧ cutBef t ⟨#[b]⟩ = t ∧ cutAft t ⟨#[b]⟩ = ⟨#[]⟩) := by
  have e : (⟨#[b]⟩ : ByteArray).data.toList = [b] := rfl
  rcases Lib.index_spec t.data.toList [b] with ⟨hi, hn⟩ | ⟨i, hi, hle, ho, hno⟩
  · refine .inr ?_
    have hcut : Lib.cut t.data.toList (⟨#[b]⟩ : ByteArray).data.toList = (t.data.toList, [], false) := by
      unfold Lib.cut; rw [e, hi]; rfl
    refine ⟨by unfold cutOk; rw [hcut], ?_, ?_, ?_⟩
    · refine pieces_miss b _ (fun j hj => ?_)
      have hlt : j < t.data.toList.length := (List.getElem?_eq_some_iff.1 hj).1
      have := hn j (by omega)
      rw [(occ_one _ _ _).2 hj] at this
      cases this
    · unfold cutBef; rw [hcut]
    · unfold cutAft; rw [hcut]
  · refine .inl ?_
    have hget := (occ_one _ _ _).1 ho
    have hlt : i < t.data.toList.length := (List.getElem?_eq_some_iff.1 hget).1
    have hcut : Lib.cut t.data.toList (⟨#[b]⟩ : ByteArray).data.toList = (t.data.toList.take i, t.data.toList.drop (i + 1), true) := by
      unfold Lib.cut; rw [e, hi, if_pos (by omega)]; simp
    have hno' : ∀ j, j < i → t.data.toList[j]? ≠ some b := fun j hj h => by
      have := hno j hj
      rw [(occ_one _ _ _).2 h] at this
      cases this
    have eb : (cutBef t ⟨#[b]⟩).data.toList = t.data.toList.take i := by unfold cutBef; rw [hcut]
    have ea : (cutAft t ⟨#[b]⟩).data.toList = t.data.toList.drop (i + 1) := by unfold cutAft; rw [hcut]
    refine ⟨by unfold cutOk; rw [hcut], ?_, ?_, ?_, ?_⟩
    · rw [eb, ea]; exact pieces_hit b _ i hget hno'
    · rw [Lib.size_eq, Lib.size_eq t, ea, List.length_drop]; omega
    · rw [Lib.size_eq, Lib.size_eq t, eb, List.length_take]; omega
    · intro j hj
      rw [eb, List.getElem?_take] at hj
      by_cases h : j < i
      · rw [if_pos h] at hj; exact hno' j h hj
      · rw [if_neg h] at hj; cases hj
/-- all pieces read -/
def readAll : List (List UInt8) → Option (List (List UInt8))
  | [] => some []
  | p :: r => match unesc p with
    | some x => (readAll r).map (x :: ·)
    | none => none
def splitL (l : List UInt8) : Option (List (List UInt8)) := if l = [45] then some [] else if l = [37, 50, 68] then some [[45]] else readAll (pieces 124 l)
def ofL (l : List UInt8) : ByteArray := ⟨l.toArray⟩
/-- the strings that Split returns, and its error -/
def splS (s : ByteArray) : List ByteArray := match splitL s.data.toList with
  | some l => l.map ofL
  | none => []
def splE (s : ByteArray) : Int := match splitL s.data.toList with
  | some _ => 0
  | none => 4
theorem unesc_le (l : List UInt8) : ∀ m, unesc l = some m → m.length ≤ l.length := by
  intro m h
  induction hn : l.length using Nat.strongRecOn generalizing l m with
  | ind n ih =>
    cases l with
    | nil => unfold unesc at h; cases h; simp
    | cons c r =>
      unfold unesc at h
      by_cases hc : c = 37
      · rw [if_pos hc] at h
        match r, h, hn with
        | a :: b :: r', h, hn =>
          simp only [] at h
          split at h
          · obtain ⟨x, hx, rfl⟩ := Option.map_eq_some_iff.1 h
            have := ih r'.length (by simp at hn; omega) r' x hx rfl
            simp at hn ⊢; omega
          · cases h
        | [a], h, _ => cases h
        | [], h, _ => cases h
      · rw [if_neg hc] at h
        split at h
        · obtain ⟨x, hx, rfl⟩ := Option.map_eq_some_iff.1 h
          have := ih r.length (by simp at hn; omega) r x hx rfl
          simp at hn ⊢; omega
        · cases h

end Go.Proofs.YtminodinhbcgnaaDoor
