/-
  Plain functions for trimming and squeezing: pieces of a string from the left and from the right, what the loops of the specification leave, and the squeezed list round by round. No condition.
-/
import Derived.Test.YtminodinhbcgnaaDoorFoldA
set_option maxRecDepth 100000
set_option linter.unusedVariables false
set_option linter.unusedSimpArgs false
set_option linter.unnecessarySimpa false
namespace Go.Proofs.YtminodinhbcgnaaDoor
open Go.PlainAid

def dr (s : ByteArray) (k : Nat) : ByteArray := ⟨(s.data.toList.drop k).toArray⟩
def tk (s : ByteArray) (k : Nat) : ByteArray := ⟨(s.data.toList.take k).toArray⟩
theorem dr_zero (s : ByteArray) : dr s 0 = s := by unfold dr; rw [List.drop_zero, Lib.mk_data]
theorem tk_all (s : ByteArray) : tk s s.size = s := by unfold tk; rw [Lib.size_eq, List.take_length, Lib.mk_data]
theorem dr_size (s : ByteArray) (k : Nat) : (dr s k).size = s.size - k := by unfold dr; rw [Lib.size_mk, List.length_drop, ← Lib.size_eq]
theorem tk_size (s : ByteArray) (k : Nat) (h : k ≤ s.size) : (tk s k).size = k := by unfold tk; rw [Lib.size_mk, List.length_take, ← Lib.size_eq]; omega
theorem dr_next (s : ByteArray) (k : Nat) : (dr s k).extract 1 (dr s k).size = dr s (k + 1) := by
  rw [dr_size]; unfold dr; rw [Lib.extract_mk, List.drop_drop, List.take_of_length_le (by simp [List.length_drop]; omega)]
theorem tk_next (s : ByteArray) (k : Nat) : (tk s k).extract 0 (k - 1) = tk s (k - 1) := by
  unfold tk; rw [Lib.extract_mk, List.drop_zero, List.take_take]; congr 3; omega
theorem bt_list (s : ByteArray) (k : Nat) (c : UInt8) (h : s.data.toList[k]? = some c) : bt s k = (c.toNat : Int) := by
  have hk : k < s.size := by
    rw [Lib.size_eq]; exact (List.getElem?_eq_some_iff.1 h).1
  rw [bt_at s k hk]
  have := List.getElem?_eq_getElem (l := s.data.toList) (i := k) (by simpa using hk)
  rw [this] at h
  rw [Option.some.inj h]
theorem bt_dr (s : ByteArray) (k j : Nat) : bt (dr s k) j = bt s (k + j) := by
  by_cases h : k + j < s.size
  · have h1 : (dr s k).data.toList[j]? = some (s.data.toList[k + j]'(by simpa using h)) := by
      unfold dr
      rw [List.toList_toArray, List.getElem?_drop, List.getElem?_eq_getElem]
    rw [bt_list _ _ _ h1, bt_at s _ h]
  · rw [bt_end s (by omega), bt_end (dr s k) (by rw [dr_size]; omega)]
theorem bt_tk (s : ByteArray) (k j : Nat) (h : j < k) : bt (tk s k) j = bt s j := by
  by_cases hs : j < s.size
  · have h1 : (tk s k).data.toList[j]? = some (s.data.toList[j]'(by simpa using hs)) := by
      unfold tk
      rw [List.toList_toArray, List.getElem?_take, if_pos h, List.getElem?_eq_getElem]
    rw [bt_list _ _ _ h1, bt_at s _ hs]
  · rw [bt_end s (by omega), bt_end (tk s k) (by unfold tk; rw [Lib.size_mk, List.length_take, ← Lib.size_eq]; omega)]

theorem byte_32 (c : UInt8) (h : (c.toNat : Int) = 32) : c = 32 := UInt8.toNat_inj.1 (by have : (32 : UInt8).toNat = 32 := rfl; omega)

/-- where the loop from the left stands still -/
theorem left_stop (s : ByteArray) (k : Nat) (hk : k ≤ s.size) (h1 : ∀ j, j < k → bt s j = 32) (h2 : k < s.size → bt s k ≠ 32) : Lib.trimLeftB s.data.toList 32 = (dr s k).data.toList := by
  rw [Lib.trimLeftB_drop s.data.toList 32 k (by rw [← Lib.size_eq]; exact hk) (fun j b hj hb => byte_32 b (by rw [← bt_list s j b hb]; exact h1 j hj)) (fun b hb e => ?_)]
  · rfl
  · subst e
    have hlt : k < s.size := by rw [Lib.size_eq]; exact (List.getElem?_eq_some_iff.1 hb).1
    exact h2 hlt (bt_list s k 32 hb)
/-- where the loop from the right stands still -/
theorem right_stop (s : ByteArray) (k : Nat) (hk : k ≤ s.size) (h1 : ∀ j, k ≤ j → j < s.size → bt s j = 32) (h2 : 0 < k → bt s (k - 1) ≠ 32) : Lib.trimRightB s.data.toList 32 = (tk s k).data.toList := by
  rw [Lib.trimRightB_take s.data.toList 32 k (by rw [← Lib.size_eq]; exact hk) (fun j b hj hb => byte_32 b (by
      have hlt : j < s.size := by rw [Lib.size_eq]; exact (List.getElem?_eq_some_iff.1 hb).1
      rw [← bt_list s j b hb]; exact h1 j hj hlt)) (fun b hb e => ?_)]
  · rfl
  · intro e2
    subst e2
    exact h2 hb (bt_list s (k - 1) 32 e)

theorem right_cons (x : UInt8) (l : List UInt8) : Lib.trimRightB (x :: l) 32 = if (x == 32) = true ∧ Lib.trimRightB l 32 = [] then [] else x :: Lib.trimRightB l 32 := by
  unfold Lib.trimRightB
  rw [List.reverse_cons, List.dropWhile_append]
  by_cases h : (l.reverse.dropWhile (· == 32)) = []
  · rw [h]
    by_cases hx : (x == 32) = true
    · simp [List.dropWhile, hx]
    · simp [List.dropWhile, hx]
  · have h1 : (l.reverse.dropWhile (· == 32)).isEmpty = false := by cases e : l.reverse.dropWhile (· == 32) <;> simp_all
    rw [h1, if_neg (by simp), if_neg (by simp [h]), List.reverse_append]
    simp
theorem trim_swap (l : List UInt8) : Lib.trimLeftB (Lib.trimRightB l 32) 32 = Lib.trimRightB (Lib.trimLeftB l 32) 32 := by
  induction l with
  | nil => rfl
  | cons x l ih =>
    rw [right_cons]
    by_cases hx : (x == 32) = true
    · have e : Lib.trimLeftB (x :: l) 32 = Lib.trimLeftB l 32 := by unfold Lib.trimLeftB; rw [List.dropWhile_cons, if_pos hx]
      rw [e, ← ih]
      by_cases h : Lib.trimRightB l 32 = []
      · rw [if_pos ⟨hx, h⟩, h]
      · rw [if_neg (fun h2 => h h2.2)]
        unfold Lib.trimLeftB
        rw [List.dropWhile_cons, if_pos hx]
    · have e : Lib.trimLeftB (x :: l) 32 = x :: l := by unfold Lib.trimLeftB; rw [List.dropWhile_cons, if_neg hx]
      rw [e, right_cons, if_neg (fun h2 => hx h2.1)]
      unfold Lib.trimLeftB
      rw [List.dropWhile_cons, if_neg hx]

/-- the specification's order of trimming -/
def trimR (l : List UInt8) : List UInt8 := Lib.trimRightB (Lib.trimLeftB l 32) 32

/-- the squeezed list behind k rounds -/
def sqN (l : List UInt8) : Nat → List UInt8
  | 0 => []
  | k + 1 => sqN l k ++ (if l.getD k 0 = 32 ∧ 0 < k ∧ l.getD (k - 1) 0 = 32 then [] else [l.getD k 0])
def sqL (l : List UInt8) : List UInt8 := sqN l l.length

theorem sqN_le (l : List UInt8) : ∀ k, (sqN l k).length ≤ k
  | 0 => by simp [sqN]
  | k + 1 => by
    have := sqN_le l k
    simp only [sqN, List.length_append]
    split <;> simp <;> omega

theorem bt_getD (s : ByteArray) (k : Nat) : bt s k = ((s.data.toList.getD k 0).toNat : Int) := by
  by_cases h : k < s.size
  · rw [bt_at s k h, List.getD_eq_getElem?_getD, List.getElem?_eq_getElem (by simpa using h)]; rfl
  · rw [bt_end s (by omega), List.getD_eq_getElem?_getD, List.getElem?_eq_none (by rw [← Lib.size_eq]; omega)]; rfl
theorem getD_32 (s : ByteArray) (k : Nat) : s.data.toList.getD k 0 = 32 ↔ bt s k = 32 := by
  rw [bt_getD]
  constructor
  · intro h; rw [h]; rfl
  · intro h; exact byte_32 _ h
theorem sq_skip (s : ByteArray) (k : Nat) (h1 : bt s k = 32) (h2 : 0 < k) (h3 : bt s (k - 1) = 32) : sqN s.data.toList (k + 1) = sqN s.data.toList k := by
  simp only [sqN]
  rw [if_pos ⟨(getD_32 s k).2 h1, h2, (getD_32 s (k - 1)).2 h3⟩, List.append_nil]
theorem sq_keep (s : ByteArray) (k : Nat) (h : ¬ (bt s k = 32 ∧ 0 < k ∧ bt s (k - 1) = 32)) : bcells (sqN s.data.toList (k + 1)) = bcells (sqN s.data.toList k) ++ [Value.int .u8 (bt s k)] := by
  simp only [sqN]
  rw [if_neg (by rw [getD_32, getD_32]; exact h), bcells_append, bt_getD]
  rfl
theorem sq_keep_len (s : ByteArray) (k : Nat) (h : ¬ (bt s k = 32 ∧ 0 < k ∧ bt s (k - 1) = 32)) : (sqN s.data.toList (k + 1)).length = (sqN s.data.toList k).length + 1 := by
  simp only [sqN]
  rw [if_neg (by rw [getD_32, getD_32]; exact h)]
  simp

end Go.Proofs.YtminodinhbcgnaaDoor
