/-
  The contract of the specification's ReadHex. Condition: at most 1000000000 bytes.
-/
import Derived.Test.YtclecajbcmmddaaDigRead
set_option maxRecDepth 100000
set_option linter.unusedVariables false
set_option linter.unusedSimpArgs false
set_option linter.unnecessarySimpa false
namespace Go.Proofs.Ytclecajbcmmddaa
open Go.RowKit Go.PlainAid

theorem hexO_cases (c : UInt8) : (48 ≤ c.toNat ∧ c.toNat ≤ 57 ∧ hexO c = some (c.toNat - 48)) ∨ (97 ≤ c.toNat ∧ c.toNat ≤ 102 ∧ hexO c = some (c.toNat - 87)) ∨
    (c.toNat < 48 ∧ hexO c = none) ∨ (57 < c.toNat ∧ c.toNat < 97 ∧ hexO c = none) ∨ (102 < c.toNat ∧ hexO c = none) := by
  unfold hexO
  by_cases h1 : 48 ≤ c.toNat ∧ c.toNat ≤ 57
  · rw [if_pos h1]; exact .inl ⟨h1.1, h1.2, rfl⟩
  · rw [if_neg h1]
    by_cases h2 : 97 ≤ c.toNat ∧ c.toNat ≤ 102
    · rw [if_pos h2]; exact .inr (.inl ⟨h2.1, h2.2, rfl⟩)
    · rw [if_neg h2]
      have : c.toNat < 48 ∨ (57 < c.toNat ∧ c.toNat < 97) ∨ 102 < c.toNat := by omega
      rcases this with h | ⟨h, h'⟩ | h
      · exact .inr (.inr (.inl ⟨h, rfl⟩))
      · exact .inr (.inr (.inr (.inl ⟨h, h', rfl⟩)))
      · exact .inr (.inr (.inr (.inr ⟨h, rfl⟩)))

end Go.Proofs.Ytclecajbcmmddaa
