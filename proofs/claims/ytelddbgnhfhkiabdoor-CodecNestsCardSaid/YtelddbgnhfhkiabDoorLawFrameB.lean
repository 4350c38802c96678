/-
  What the codec laws of a seat share: that the library's variables which codec reads lie as its contracts ask.
-/
import Derived.Test.YtelddbgnhfhkiabDoorLawFrame
import Derived.Test.YtelddbgnhfhkiabDoorCodecLive
import Derived.Stop.LaidErr
set_option linter.unusedVariables false
set_option linter.unusedSimpArgs false
set_option linter.unnecessarySimpa false
namespace Go.Proofs.YtelddbgnhfhkiabDoor
open Go.ChangeShapes Go.WideShapes Go.ChangeAt Go.RowKit

theorem star : "*" ++ "errors.errorString" = "*errors.errorString" := by decide
theorem tp_row (u : TypeId) (h : Tryd.prog.typeName? 3 u = some "*errors.errorString") : u = 101 :=
  typeName_ptr_named (nm := "errors.errorString") (by rw [star]; kernel_rfl) (by kernel_rfl) (by decide) u (by rw [star]; exact h)

theorem cok {W : World} (hL : laidMetH Tryd.prog [("math/bits.deBruijn32tab", Rows.laid_math_bits_deBruijn32tab), ("math/bits.deBruijn64tab", Rows.laid_math_bits_deBruijn64tab), ("internal/strconv.uint64pow10", Rows.laid_internal_strconv_uint64pow10), ("strconv.ErrRange", Rows.laid_strconv_ErrRange), ("strconv.ErrSyntax", Rows.laid_strconv_ErrSyntax)] W)
    (hsh : W.ShapedOpen Tryd.prog) : COk W := by
  rw [MakeChecks.laidMetH_plain _ _ _ (by kernel_rfl)] at hL
  refine ⟨max_ok hsh, ?_, ?_⟩
  · exact Lib.tabIs_of_head (g := 3) (by kernel_rfl) (by kernel_rfl) Tryd.underlying105 Tryd.underlying86 (by kernel_rfl) (by kernel_rfl) hL.tail.tail
  · obtain ⟨a, s, h, _⟩ := laid_sentinel hL.tail.tail.tail (g := 2) (by kernel_rfl) (by kernel_rfl) Tryd.underlying59 tp_row Tryd.underlying101 Tryd.underlying103 rfl rfl Tryd.underlying9 (by kernel_rfl) (by kernel_rfl)
    exact ⟨_, _, h⟩

end Go.Proofs.YtelddbgnhfhkiabDoor
