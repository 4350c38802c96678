/-
  Plain functions on lists of bytes for the layer fold (lower case, trimming, squeezing). Nothing of the program stands here. No condition.
-/
import Derived.Lib.Strings
import Derived.Lib.TrimByte
import Derived.Lib.Small
import Derived.PlainAid
set_option maxRecDepth 100000
set_option linter.unusedVariables false
set_option linter.unusedSimpArgs false
set_option linter.unnecessarySimpa false
namespace Go.Proofs.YtminodinhbcgnaaDoor
open Go.PlainAid

/-- a byte's lower-case form -/
def lowB (c : UInt8) : UInt8 := if 65 ≤ c.toNat ∧ c.toNat ≤ 90 then c + 32 else c
def lowL (l : List UInt8) : List UInt8 := l.map lowB
/-- the cells of bytes -/
def bcells (l : List UInt8) : List Value := l.map fun b => Value.int .u8 (b.toNat : Int)

theorem bcells_length (l : List UInt8) : (bcells l).length = l.length := by simp [bcells]
theorem bcells_append (l m : List UInt8) : bcells (l ++ m) = bcells l ++ bcells m := by simp [bcells]

theorem bt_at (s : ByteArray) (k : Nat) (h : k < s.size) : bt s k = ((s.data.toList[k]'(by simpa using h)).toNat : Int) := by
  unfold bt; rw [dif_pos h]; rfl

theorem lowB_hit (c : UInt8) (h1 : 65 ≤ (c.toNat : Int)) (h2 : (c.toNat : Int) ≤ 90) : ((lowB c).toNat : Int) = (c.toNat : Int) + 32 := by
  unfold lowB
  rw [if_pos ⟨by omega, by omega⟩, UInt8.toNat_add]
  have : (32 : UInt8).toNat = 32 := rfl
  omega
theorem lowB_miss (c : UInt8) (h : ¬ (65 ≤ (c.toNat : Int) ∧ (c.toNat : Int) ≤ 90)) : lowB c = c := by
  unfold lowB
  rw [if_neg (by omega)]

theorem take_succ (s : ByteArray) (k : Nat) (h : k < s.size) : s.data.toList.take (k + 1) = s.data.toList.take k ++ [s.data.toList[k]'(by simpa using h)] := by
  rw [List.take_succ_eq_append_getElem (by simpa using h)]

theorem low_step_hit (s : ByteArray) (k : Nat) (h : k < s.size) (h1 : 65 ≤ bt s k) (h2 : bt s k ≤ 90) :
    bcells (lowL (s.data.toList.take (k + 1))) = bcells (lowL (s.data.toList.take k)) ++ [Value.int .u8 (bt s k + 32)] := by
  rw [bt_at s k h] at *
  rw [take_succ s k h]
  simp only [lowL, bcells, List.map_append, List.map_cons, List.map_nil, lowB_hit _ h1 h2]
theorem low_step_miss (s : ByteArray) (k : Nat) (h : k < s.size) (h1 : ¬ (65 ≤ bt s k ∧ bt s k ≤ 90)) :
    bcells (lowL (s.data.toList.take (k + 1))) = bcells (lowL (s.data.toList.take k)) ++ [Value.int .u8 (bt s k)] := by
  rw [bt_at s k h] at *
  rw [take_succ s k h]
  simp only [lowL, bcells, List.map_append, List.map_cons, List.map_nil, lowB_miss _ h1]

theorem low_step (s : ByteArray) (k : Nat) (h : k < s.size) :
    (65 ≤ bt s k → bt s k ≤ 90 → bcells (lowL (s.data.toList.take (k + 1))) = bcells (lowL (s.data.toList.take k)) ++ [Value.int .u8 (bt s k + 97 - 65)]) ∧
    (¬ (65 ≤ bt s k ∧ bt s k ≤ 90) → bcells (lowL (s.data.toList.take (k + 1))) = bcells (lowL (s.data.toList.take k)) ++ [Value.int .u8 (bt s k)]) :=
  ⟨fun h1 h2 => by rw [low_step_hit s k h h1 h2]; congr 3; omega, fun h1 => low_step_miss s k h h1⟩

/-- byte j behind k rounds of lowering in place -/
def mixI (s : ByteArray) (k j : Nat) : Int := if j < k then (if 65 ≤ bt s j ∧ bt s j ≤ 90 then bt s j + 32 else bt s j) else bt s j
theorem mixI_zero (s : ByteArray) (j : Nat) : mixI s 0 j = bt s j := by unfold mixI; rw [if_neg (by omega)]
theorem mixI_self (s : ByteArray) (k : Nat) : mixI s k k = bt s k := by unfold mixI; rw [if_neg (by omega)]
theorem mixI_other (s : ByteArray) (k j : Nat) (h : j ≠ k) : mixI s (k + 1) j = mixI s k j := by
  unfold mixI
  by_cases h1 : j < k
  · rw [if_pos h1, if_pos (by omega)]
  · rw [if_neg h1, if_neg (by omega)]
theorem mixI_hit (s : ByteArray) (k : Nat) (h1 : 65 ≤ bt s k) (h2 : bt s k ≤ 90) : mixI s (k + 1) k = bt s k + 32 := by
  unfold mixI; rw [if_pos (by omega), if_pos ⟨h1, h2⟩]
theorem mixI_miss (s : ByteArray) (k : Nat) (h : ¬ (65 ≤ bt s k ∧ bt s k ≤ 90)) : mixI s (k + 1) k = bt s k := by
  unfold mixI; rw [if_pos (by omega), if_neg h]
theorem mixI_end (s : ByteArray) (j : Nat) (h : j < (lowL s.data.toList).length) : mixI s s.size j = (((lowL s.data.toList)[j]).toNat : Int) := by
  have hj : j < s.size := by rw [Lib.size_eq]; simpa [lowL] using h
  unfold mixI
  rw [if_pos hj, bt_at s j hj]
  simp only [lowL, List.getElem_map]
  by_cases hA : 65 ≤ ((s.data.toList[j]'(by simpa using hj)).toNat : Int) ∧ ((s.data.toList[j]'(by simpa using hj)).toNat : Int) ≤ 90
  · rw [if_pos hA, lowB_hit _ hA.1 hA.2]
  · rw [if_neg hA, lowB_miss _ hA]
theorem lowL_length (l : List UInt8) : (lowL l).length = l.length := by simp [lowL]

end Go.Proofs.YtminodinhbcgnaaDoor
