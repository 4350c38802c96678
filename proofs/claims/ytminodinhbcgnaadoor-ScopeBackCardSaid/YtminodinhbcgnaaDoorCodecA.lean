/-
  Plain functions for the escaped forms: which bytes stand as they are, hexadecimal digits, the escaped form and reading it back. No condition.
-/
import Derived.Test.YtminodinhbcgnaaDoorFoldA
import Derived.Lib.TrimByte
set_option maxRecDepth 100000
set_option linter.unusedVariables false
set_option linter.unusedSimpArgs false
set_option linter.unnecessarySimpa false
namespace Go.Proofs.YtminodinhbcgnaaDoor
open Go.PlainAid

def plainI (c : Int) : Bool := decide (33 ≤ c) && decide (c ≤ 126) && !(c == 37) && !(c == 124) && !(c == 44) && !(c == 61) && !(c == 59) && !(c == 34)
def plainC (c : UInt8) : Bool := plainI (c.toNat : Int)
def hexC (d : Nat) : UInt8 := if d < 10 then UInt8.ofNat (48 + d) else UInt8.ofNat (55 + d)
def escC (c : UInt8) : List UInt8 := if plainC c then [c] else [37, hexC (c.toNat / 16), hexC (c.toNat % 16)]
def escL (l : List UInt8) : List UInt8 := l.flatMap escC
def hexS : ByteArray := ⟨#[48, 49, 50, 51, 52, 53, 54, 55, 56, 57, 65, 66, 67, 68, 69, 70]⟩

theorem hexC_table : ∀ d : Nat, d < 16 → bt hexS d = ((hexC d).toNat : Int) := by decide +kernel
theorem escL_snoc (l : List UInt8) (c : UInt8) : escL (l ++ [c]) = escL l ++ escC c := by simp [escL]
theorem escC_length (c : UInt8) : (escC c).length ≤ 3 := by unfold escC; split <;> simp
theorem escL_length (l : List UInt8) : (escL l).length ≤ 3 * l.length := by
  induction l with
  | nil => simp [escL]
  | cons c l ih =>
    have e : escL (c :: l) = escC c ++ escL l := by simp [escL]
    rw [e, List.length_append, List.length_cons]
    have := escC_length c
    omega
theorem escC_plain (c : UInt8) (h : plainC c = true) : escC c = [c] := by unfold escC; rw [if_pos h]
theorem escC_other (c : UInt8) (h : plainC c = false) : escC c = [37, hexC (c.toNat / 16), hexC (c.toNat % 16)] := by unfold escC; rw [if_neg (by simp [h])]

theorem hex_hi (x : Int) (c : UInt8) (h : x = (c.toNat : Int)) : bt (⟨#[48, 49, 50, 51, 52, 53, 54, 55, 56, 57, 65, 66, 67, 68, 69, 70]⟩ : ByteArray) (x / 16).toNat = ((hexC (c.toNat / 16)).toNat : Int) := by
  have hc := c.toNat_lt
  have e : (x / 16).toNat = c.toNat / 16 := by omega
  rw [e]
  exact hexC_table _ (by omega)
theorem hex_lo (x : Int) (c : UInt8) (h : x = (c.toNat : Int)) : bt (⟨#[48, 49, 50, 51, 52, 53, 54, 55, 56, 57, 65, 66, 67, 68, 69, 70]⟩ : ByteArray) (x % 16).toNat = ((hexC (c.toNat % 16)).toNat : Int) := by
  have e : (x % 16).toNat = c.toNat % 16 := by omega
  rw [e]
  exact hexC_table _ (by omega)
/-- byte k of a string -/
def chr (s : ByteArray) (k : Nat) : UInt8 := s.data.toList.getD k 0
theorem bt_chr (s : ByteArray) (k : Nat) : bt s k = ((chr s k).toNat : Int) := by
  unfold chr
  by_cases h : k < s.size
  · rw [bt_at s k h, List.getD_eq_getElem?_getD, List.getElem?_eq_getElem (by simpa using h)]; rfl
  · rw [bt_end s (by omega), List.getD_eq_getElem?_getD, List.getElem?_eq_none (by rw [← Lib.size_eq]; omega)]; rfl
theorem take_chr (s : ByteArray) (k : Nat) (h : k < s.size) : s.data.toList.take (k + 1) = s.data.toList.take k ++ [chr s k] := by
  rw [take_succ s k h]; unfold chr; rw [List.getD_eq_getElem?_getD, List.getElem?_eq_getElem (by simpa using h)]; rfl
theorem esc_step (s : ByteArray) (k : Nat) (h : k < s.size) : escL (s.data.toList.take (k + 1)) = escL (s.data.toList.take k) ++ escC (chr s k) := by rw [take_chr s k h, escL_snoc]
theorem plain_chr (s : ByteArray) (k : Nat) : plainC (chr s k) = plainI (bt s k) := by unfold plainC; rw [bt_chr]

end Go.Proofs.YtminodinhbcgnaaDoor
