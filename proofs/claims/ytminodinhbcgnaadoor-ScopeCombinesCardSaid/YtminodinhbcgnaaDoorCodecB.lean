/-
  Plain functions for reading escaped forms. No condition.
-/
import Derived.Test.YtminodinhbcgnaaDoorCodecA
import Derived.Test.YtminodinhbcgnaaDoorFoldB
import Derived.Lib.Bytealg
set_option maxRecDepth 100000
set_option linter.unusedVariables false
set_option linter.unusedSimpArgs false
set_option linter.unnecessarySimpa false
namespace Go.Proofs.YtminodinhbcgnaaDoor
open Go.PlainAid

/-- the value of a hexadecimal digit, or -1 -/
def hexV (c : UInt8) : Int := Lib.indexByte hexS.data.toList c
theorem hexV_range : ∀ n : Nat, n < 256 → -1 ≤ hexV (UInt8.ofNat n) ∧ hexV (UInt8.ofNat n) ≤ 15 := by decide +kernel
theorem hexV_le (c : UInt8) : -1 ≤ hexV c ∧ hexV c ≤ 15 := by
  have := hexV_range c.toNat c.toNat_lt
  rwa [UInt8.ofNat_toNat] at this
/-- the byte with two hexadecimal digits, unless it stands as it is -/
def decC (a b : UInt8) : Option UInt8 :=
  if hexV a < 0 ∨ hexV b < 0 then none else if plainI (16 * hexV a + hexV b) then none else some (UInt8.ofNat (16 * hexV a + hexV b).toNat)
def unesc : List UInt8 → Option (List UInt8)
  | [] => some []
  | c :: r => if c = 37 then (match r with
      | a :: b :: r' => match decC a b with
        | some d => (unesc r').map (d :: ·)
        | none => none
      | _ => none) else if plainC c then (unesc r).map (c :: ·) else none
/-- what 'escaped' returns -/
def escO (t : ByteArray) : Option UInt8 := if t.size < 2 then none else decC (chr t 0) (chr t 1)

theorem drop_chr (s : ByteArray) (i : Nat) (h : i < s.size) : s.data.toList.drop i = chr s i :: s.data.toList.drop (i + 1) := by
  unfold chr
  rw [List.getD_eq_getElem?_getD, List.getElem?_eq_getElem (by simpa using h)]
  exact List.drop_eq_getElem_cons (by simpa using h)
theorem chr_dr (s : ByteArray) (i j : Nat) : chr (dr s i) j = chr s (i + j) := by
  unfold chr dr
  rw [List.toList_toArray, List.getD_eq_getElem?_getD, List.getD_eq_getElem?_getD, List.getElem?_drop]
theorem unesc_pct (s : ByteArray) (i : Nat) (h : i < s.size) (h37 : chr s i = 37) : unesc (s.data.toList.drop i) = match escO (dr s (i + 1)) with
    | some d => (unesc (s.data.toList.drop (i + 3))).map (d :: ·)
    | none => none := by
  rw [drop_chr s i h]
  conv => lhs; unfold unesc
  rw [if_pos h37]
  unfold escO
  rw [dr_size]
  by_cases h2 : s.size - (i + 1) < 2
  · rw [if_pos h2]
    have hl : (s.data.toList.drop (i + 1)).length < 2 := by rw [List.length_drop, ← Lib.size_eq]; exact h2
    match e : s.data.toList.drop (i + 1), hl with
    | [], _ => rfl
    | [x], _ => rfl
  · rw [if_neg h2, drop_chr s (i + 1) (by omega), drop_chr s (i + 1 + 1) (by omega), chr_dr, chr_dr]

end Go.Proofs.YtminodinhbcgnaaDoor
