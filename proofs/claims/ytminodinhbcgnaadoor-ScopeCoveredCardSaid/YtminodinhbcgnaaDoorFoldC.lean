/-
  Plain functions for the kinds of strings: values, names, words. No condition.
-/
import Derived.Test.YtminodinhbcgnaaDoorFoldB
set_option maxRecDepth 100000
set_option linter.unusedVariables false
set_option linter.unusedSimpArgs false
set_option linter.unnecessarySimpa false
namespace Go.Proofs.YtminodinhbcgnaaDoor
open Go.PlainAid

def ltrI (c : Int) : Bool := (decide (65 ≤ c) && decide (c ≤ 90)) || (decide (97 ≤ c) && decide (c ≤ 122))
def dgtI (c : Int) : Bool := decide (48 ≤ c) && decide (c ≤ 57)
def nameP (c : Int) : Bool := ltrI c || dgtI c || c == 45
def wordP (c : Int) : Bool := ltrI c || dgtI c || c == 45 || c == 95 || c == 46 || c == 58
def cleanP (c : Int) : Bool := decide (32 ≤ c) && decide (c ≤ 126)
/-- every byte is of a kind -/
def allB (p : Int → Bool) (s : ByteArray) : Bool := (List.range s.size).all fun j => p (bt s j)
def cleanB (s : ByteArray) : Bool := decide (1 ≤ s.size) && decide (s.size ≤ 256) && !(bt s 0 == 32) && !(bt s (s.size - 1) == 32) && allB cleanP s
def nameB (s : ByteArray) : Bool := decide (1 ≤ s.size) && decide (s.size ≤ 64) && ltrI (bt s 0) && allB nameP s
def wordB (s : ByteArray) : Bool := decide (1 ≤ s.size) && decide (s.size ≤ 64) && allB wordP s

theorem allB_true {p : Int → Bool} {s : ByteArray} (h : ∀ j, j < s.size → p (bt s j) = true) : allB p s = true := by
  unfold allB; rw [List.all_eq_true]; intro j hj; exact h j (List.mem_range.1 hj)
theorem allB_false {p : Int → Bool} {s : ByteArray} (k : Nat) (hk : k < s.size) (h : p (bt s k) = false) : allB p s = false := by
  unfold allB; rw [List.all_eq_false]; exact ⟨k, List.mem_range.2 hk, by simp [h]⟩
theorem allB_iff {p : Int → Bool} {s : ByteArray} : allB p s = true ↔ ∀ j, j < s.size → p (bt s j) = true := by
  unfold allB; rw [List.all_eq_true]
  exact ⟨fun h j hj => h j (List.mem_range.2 hj), fun h j hj => h j (List.mem_range.1 hj)⟩
/-- one more byte of a kind -/
theorem all_next {p : Int → Bool} {s : ByteArray} {k : Nat} (h : ∀ j, j < k → p (bt s j) = true) (hk : p (bt s k) = true) : ∀ j, j < k + 1 → p (bt s j) = true := fun j hj => by
  by_cases e : j = k
  · rw [e]; exact hk
  · exact h j (by omega)

end Go.Proofs.YtminodinhbcgnaaDoor
