/-
  What the proof laws share: the library's variables lie as the contracts ask; the row of strings that long reads. No condition.
-/
import Derived.Test.YtbogmmdmfbcbnaaDoorPrfE
import Derived.Test.YtbogmmdmfbcbnaaDoorLawFrame
import Derived.Stop.LaidErr
set_option linter.unusedVariables false
set_option linter.unusedSimpArgs false
set_option linter.unnecessarySimpa false
namespace Go.Proofs.YtbogmmdmfbcbnaaDoor
open Go.ChangeShapes Go.WideShapes Go.ChangeAt Go.RowKit Go.PlainAid

theorem pow_of {W : World} (hL : laidMetH Tryd.prog [("math/bits.deBruijn32tab", Rows.laid_math_bits_deBruijn32tab), ("math/bits.deBruijn64tab", Rows.laid_math_bits_deBruijn64tab), ("internal/strconv.uint64pow10", Rows.laid_internal_strconv_uint64pow10)] W) : PowOk W := by
  rw [MakeChecks.laidMetH_plain _ _ _ (by kernel_rfl)] at hL
  exact Lib.tabIs_of_head (g := 1) (by kernel_rfl) (by kernel_rfl) Tryd.underlying82 Tryd.underlying58 (by kernel_rfl) (by kernel_rfl) hL.tail.tail
theorem int_range {n : Int} (h : (Lit.int .i64 n).wf = true) : -9223372036854775808 ≤ n ∧ n ≤ 9223372036854775807 := by
  unfold Lit.wf at h
  rw [Bool.and_eq_true, decide_eq_true_iff, decide_eq_true_iff] at h
  exact h
theorem beq_i (x : Int) : (x == x) = true := beq_self_eq_true _
theorem bne_i (x : Int) : (x != x) = false := bne_self_eq_false _
theorem beq_b (x : Bool) : (x == x) = true := beq_self_eq_true _
theorem beq_s (x : ByteArray) : (x.toList == x.toList) = true := beq_self_eq_true _
theorem bne_s (x : ByteArray) : (x.toList != x.toList) = false := bne_self_eq_false _
/-- strings that the call lays in a row -/
theorem strs_new (w : World) (l : List ByteArray) : IsStrs (w.alloc (.cells (l.map Value.string).toArray 9)) w.heap.size 0 l := by
  refine ⟨by rw [World.size_alloc]; omega, fun j hj => ?_⟩
  rw [Nat.zero_add]
  refine (kbc_new w (.cells (l.map Value.string).toArray 9)).cell ?_
  rw [← Array.getElem?_toList, List.toList_toArray, List.getElem?_map]
  unfold partAt
  rw [List.getD_eq_getElem?_getD, List.getElem?_eq_getElem hj]; rfl
end Go.Proofs.YtbogmmdmfbcbnaaDoor
