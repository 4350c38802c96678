/-
  What the otp laws share: the library's table of powers lies as the contracts ask, and what a case's numbers are. No condition.
-/
import Derived.Test.YtmkcojgdhdmnnaaDoorOtpY
import Derived.Test.YtmkcojgdhdmnnaaDoorLawFrame
import Derived.Stop.LaidErr
set_option linter.unusedVariables false
set_option linter.unusedSimpArgs false
set_option linter.unnecessarySimpa false
namespace Go.Proofs.YtmkcojgdhdmnnaaDoor
open Go.ChangeShapes Go.WideShapes Go.ChangeAt Go.RowKit Go.PlainAid

theorem pok {W : World} (hL : laidMetH Tryd.prog [("math/bits.deBruijn32tab", Rows.laid_math_bits_deBruijn32tab), ("math/bits.deBruijn64tab", Rows.laid_math_bits_deBruijn64tab), ("internal/strconv.uint64pow10", Rows.laid_internal_strconv_uint64pow10)] W) : PowOk W := by
  rw [MakeChecks.laidMetH_plain _ _ _ (by kernel_rfl)] at hL
  exact Lib.tabIs_of_head (g := 1) (by kernel_rfl) (by kernel_rfl) Tryd.underlying95 Tryd.underlying48 (by kernel_rfl) (by kernel_rfl) hL.tail.tail
theorem int_range {n : Int} (h : (Lit.int .i64 n).wf = true) : -9223372036854775808 ≤ n ∧ n ≤ 9223372036854775807 := by
  unfold Lit.wf at h
  rw [Bool.and_eq_true, decide_eq_true_iff, decide_eq_true_iff] at h
  exact h
theorem beq_i (x : Int) : (x == x) = true := beq_self_eq_true _
theorem bne_i (x : Int) : (x != x) = false := bne_self_eq_false _
theorem beq_b (x : Bool) : (x == x) = true := beq_self_eq_true _
theorem beq_s (x : ByteArray) : (x.toList == x.toList) = true := beq_self_eq_true _
theorem fit_yes {x : Tr} (h : fitB x = true) : x.sec.size ≤ 300 ∧ x.code.size ≤ 300 := by
  unfold fitB at h
  rwa [Bool.and_eq_true, decide_eq_true_eq, decide_eq_true_eq] at h
/-- what a law with a case keeps -/
structure TrI (W : World) (x : Tr) (V : World) : Prop where
  low : Below W.heap.size W V
  box : KbC V W.heap.size (tB x)
theorem TrI.step {W V X : World} {x : Tr} (h : TrI W x V) (hb : Below V.heap.size V X) : TrI W x X := ⟨h.low.trans (hb.mono h.low.size), h.box.step hb⟩
theorem trI_new (W : World) (x : Tr) : TrI W x (W.alloc (tB x)) := ⟨box_below W (tB x), kbc_new W (tB x)⟩
theorem TrI.cells {W V : World} {x : Tr} (h : TrI W x V) : V.cell? ⟨W.heap.size, 0, none⟩ = some (.string x.sec) ∧ V.cell? ⟨W.heap.size, 1, none⟩ = some (.string x.code) ∧ V.cell? ⟨W.heap.size, 2, none⟩ = some (.int .i64 x.last) ∧ V.cell? ⟨W.heap.size, 3, none⟩ = some (.int .i64 x.look) ∧ V.cell? ⟨W.heap.size, 4, none⟩ = some (.int .i64 x.now) ∧ V.cell? ⟨W.heap.size, 5, none⟩ = some (.int .i64 x.k) ∧ V.cell? ⟨W.heap.size, 6, none⟩ = some (.bool x.near) :=
  ⟨h.box.cell rfl, h.box.cell rfl, h.box.cell rfl, h.box.cell rfl, h.box.cell rfl, h.box.cell rfl, h.box.cell rfl⟩
end Go.Proofs.YtmkcojgdhdmnnaaDoor
