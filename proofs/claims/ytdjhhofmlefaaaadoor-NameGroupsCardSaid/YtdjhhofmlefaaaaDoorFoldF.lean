/-
  Plain facts on comparing (a total order) and on folding (idempotent; values stay values). No condition.
-/
import Derived.Test.YtdjhhofmlefaaaaDoorFoldFold
import Derived.Test.YtdjhhofmlefaaaaDoorFoldC
import Derived.Test.YtdjhhofmlefaaaaDoorFoldD
import Derived.Test.YtdjhhofmlefaaaaDoorFoldE
set_option linter.unusedVariables false
set_option linter.unusedSimpArgs false
set_option linter.unnecessarySimpa false
namespace Go.Proofs.YtdjhhofmlefaaaaDoor
open Go.PlainAid

/-! ### the order -/
theorem cb_range : ∀ a b : List UInt8, Lib.compareBytes a b = -1 ∨ Lib.compareBytes a b = 0 ∨ Lib.compareBytes a b = 1
  | [], [] => by simp [Lib.compareBytes]
  | [], _ :: _ => by simp [Lib.compareBytes]
  | _ :: _, [] => by simp [Lib.compareBytes]
  | a :: x, b :: y => by
    unfold Lib.compareBytes
    split
    · exact .inl rfl
    · split
      · exact .inr (.inr rfl)
      · exact cb_range x y
theorem cb_anti : ∀ a b : List UInt8, Lib.compareBytes b a = - Lib.compareBytes a b
  | [], [] => by simp [Lib.compareBytes]
  | [], _ :: _ => by simp [Lib.compareBytes]
  | _ :: _, [] => by simp [Lib.compareBytes]
  | a :: x, b :: y => by
    unfold Lib.compareBytes
    by_cases h1 : a < b
    · have h2 : ¬ b < a := by rw [UInt8.lt_iff_toNat_lt] at *; omega
      simp [h1, h2]
    · by_cases h2 : b < a
      · simp [h1, h2]
      · simp only [h1, h2, if_false]
        exact cb_anti x y
theorem cb_zero : ∀ a b : List UInt8, Lib.compareBytes a b = 0 ↔ a = b
  | [], [] => by simp [Lib.compareBytes]
  | [], _ :: _ => by simp [Lib.compareBytes]
  | _ :: _, [] => by simp [Lib.compareBytes]
  | a :: x, b :: y => by
    unfold Lib.compareBytes
    by_cases h1 : a < b
    · have : a ≠ b := fun e => by subst e; rw [UInt8.lt_iff_toNat_lt] at h1; omega
      simp [h1, this]
    · by_cases h2 : b < a
      · have : a ≠ b := fun e => by subst e; rw [UInt8.lt_iff_toNat_lt] at h2; omega
        simp [h1, h2, this]
      · have h3 : a = b := by apply UInt8.toNat_inj.1; rw [UInt8.lt_iff_toNat_lt] at h1 h2; omega
        simp only [h1, h2, if_false]
        rw [cb_zero x y]
        simp [h3]
theorem cb_trans : ∀ a b c : List UInt8, Lib.compareBytes a b ≤ 0 → Lib.compareBytes b c ≤ 0 → Lib.compareBytes a c ≤ 0
  | [], _, [] => by simp [Lib.compareBytes]
  | [], _, _ :: _ => by simp [Lib.compareBytes]
  | _ :: _, [], _ => by simp [Lib.compareBytes]
  | _ :: _, _ :: _, [] => by simp [Lib.compareBytes]
  | a :: x, b :: y, c :: z => by
    unfold Lib.compareBytes
    intro h1 h2
    by_cases ab : a < b
    · by_cases bc : b < c
      · have : a < c := by rw [UInt8.lt_iff_toNat_lt] at *; omega
        simp [this]
      · by_cases cb : c < b
        · simp [bc, cb] at h2
        · have : a < c := by rw [UInt8.lt_iff_toNat_lt] at *; omega
          simp [this]
    · by_cases ba : b < a
      · simp [ab, ba] at h1
      · simp only [ab, ba, if_false] at h1
        by_cases bc : b < c
        · have : a < c := by rw [UInt8.lt_iff_toNat_lt] at *; omega
          simp [this]
        · by_cases cb : c < b
          · simp [bc, cb] at h2
          · simp only [bc, cb, if_false] at h2
            have n1 : ¬ a < c := by rw [UInt8.lt_iff_toNat_lt] at *; omega
            have n2 : ¬ c < a := by rw [UInt8.lt_iff_toNat_lt] at *; omega
            simp only [n1, n2, if_false]
            exact cb_trans x y z h1 h2
def compS (a b : ByteArray) : Int := if cmpS (foldS a) (foldS b) = 0 then cmpS a b else cmpS (foldS a) (foldS b)
theorem ba_ext {a b : ByteArray} (h : a.data.toList = b.data.toList) : a = b := by
  cases a; cases b; simp only [ByteArray.mk.injEq]; exact Array.toList_inj.1 h
theorem cmpS_zero (a b : ByteArray) : cmpS a b = 0 ↔ a = b := by
  unfold cmpS; rw [cb_zero]; exact ⟨ba_ext, fun h => by rw [h]⟩
theorem compS_range (a b : ByteArray) : compS a b = -1 ∨ compS a b = 0 ∨ compS a b = 1 := by
  unfold compS cmpS; split <;> exact cb_range _ _
theorem compS_anti (a b : ByteArray) : compS b a = - compS a b := by
  unfold compS
  have h1 := cb_anti (foldS a).data.toList (foldS b).data.toList
  have h2 := cb_anti a.data.toList b.data.toList
  unfold cmpS
  rw [h1, h2]
  by_cases h : Lib.compareBytes (foldS a).data.toList (foldS b).data.toList = 0
  · rw [if_pos h, if_pos (by omega)]
  · rw [if_neg h, if_neg (by omega)]
theorem compS_zero (a b : ByteArray) : compS a b = 0 ↔ a = b := by
  unfold compS
  by_cases h : cmpS (foldS a) (foldS b) = 0
  · rw [if_pos h, cmpS_zero]
  · rw [if_neg h]
    exact ⟨fun e => absurd e h, fun e => absurd (by rw [e]; exact (cmpS_zero _ _).2 rfl) h⟩
theorem compS_trans (a b c : ByteArray) (h1 : compS a b ≤ 0) (h2 : compS b c ≤ 0) : compS a c ≤ 0 := by
  unfold compS at *
  have t := cb_trans (foldS a).data.toList (foldS b).data.toList (foldS c).data.toList
  have t2 := cb_trans a.data.toList b.data.toList c.data.toList
  by_cases e1 : cmpS (foldS a) (foldS b) = 0
  · rw [if_pos e1] at h1
    have f1 := (cmpS_zero _ _).1 e1
    rw [f1]
    by_cases e2 : cmpS (foldS b) (foldS c) = 0
    · rw [if_pos e2] at h2
      rw [if_pos e2]
      exact t2 h1 h2
    · rw [if_neg e2] at h2
      rw [if_neg e2]; exact h2
  · rw [if_neg e1] at h1
    by_cases e2 : cmpS (foldS b) (foldS c) = 0
    · have f2 := (cmpS_zero _ _).1 e2
      rw [← f2, if_neg e1]; exact h1
    · rw [if_neg e2] at h2
      have h3 := t h1 h2
      by_cases e3 : cmpS (foldS a) (foldS c) = 0
      · have f3 := (cmpS_zero _ _).1 e3
        rw [f3] at h1 e1
        have := cb_anti (foldS b).data.toList (foldS c).data.toList
        unfold cmpS at h1 h2 e1 e2
        omega
      · rw [if_neg e3]; exact h3

/-! ### names are words, words are values -/
theorem name_word (s : ByteArray) (h : nameB s = true) : wordB s = true := by
  unfold nameB wordB at *
  simp only [Bool.and_eq_true, decide_eq_true_eq] at h ⊢
  refine ⟨h.1.1, ?_⟩
  rw [allB_iff] at *
  intro j hj
  have := h.2 j hj
  unfold nameP at this
  unfold wordP
  simp only [Bool.or_eq_true] at this ⊢
  rcases this with (h1 | h1) | h1
  · simp [h1]
  · simp [h1]
  · simp [h1]
theorem wordP_clean (c : Int) (h : wordP c = true) : cleanP c = true ∧ (c == 32) = false := by
  unfold wordP ltrI dgtI at h
  unfold cleanP
  simp only [Bool.or_eq_true, Bool.and_eq_true, decide_eq_true_eq, beq_iff_eq] at h
  have hc : 33 ≤ c ∧ c ≤ 126 := by omega
  refine ⟨?_, ?_⟩
  · simp; omega
  · simp; omega
theorem word_clean (s : ByteArray) (h : wordB s = true) : cleanB s = true := by
  unfold wordB at h
  unfold cleanB
  simp only [Bool.and_eq_true, decide_eq_true_eq] at h
  have ha := allB_iff.1 h.2
  rw [(wordP_clean _ (ha 0 (by omega))).2, (wordP_clean _ (ha (s.size - 1) (by omega))).2, allB_true (fun j hj => (wordP_clean _ (ha j hj)).1)]
  simp; omega

end Go.Proofs.YtdjhhofmlefaaaaDoor
