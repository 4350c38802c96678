/-
  Plain functions for comparing and for matching. No condition.
-/
import Derived.Test.YtdjhhofmlefaaaaDoorFoldB
import Derived.Lib.Bytealg
import Derived.Lib.IndexMore
import GoSem.Op.String
set_option linter.unusedVariables false
set_option linter.unusedSimpArgs false
set_option linter.unnecessarySimpa false
namespace Go.Proofs.YtdjhhofmlefaaaaDoor
open Go.PlainAid

/-- the order of two lists of bytes by the model's two tests -/
theorem cmp_tests : ∀ (a b : List UInt8), Lib.compareBytes a b = if Op.bytesLess a b = true then -1 else if (a == b) = true then 0 else 1
  | [], [] => by simp [Lib.compareBytes, Op.bytesLess]
  | [], _ :: _ => by simp [Lib.compareBytes, Op.bytesLess]
  | _ :: _, [] => by simp [Lib.compareBytes, Op.bytesLess]
  | a :: x, b :: y => by
    have ih := cmp_tests x y
    unfold Lib.compareBytes Op.bytesLess
    by_cases h1 : a < b
    · simp [h1]
    · by_cases h2 : b < a
      · have h3 : (a == b) = false := by
          rw [beq_eq_false_iff_ne]; intro e; subst e; exact absurd h2 (by simp [UInt8.lt_iff_toNat_lt])
        have h4 : (a :: x == b :: y) = false := by
          rw [beq_eq_false_iff_ne]; intro e; cases e; exact absurd h2 (by simp [UInt8.lt_iff_toNat_lt])
        simp only [h1, h2, h3, h4]
        simp
      · have h3 : a = b := by
          apply UInt8.toNat_inj.1
          rw [UInt8.lt_iff_toNat_lt] at h1 h2
          omega
        subst h3
        rw [if_neg h1, if_neg h2, ih]
        simp [h1]
def cmpS (a b : ByteArray) : Int := Lib.compareBytes a.data.toList b.data.toList

end Go.Proofs.YtdjhhofmlefaaaaDoor
