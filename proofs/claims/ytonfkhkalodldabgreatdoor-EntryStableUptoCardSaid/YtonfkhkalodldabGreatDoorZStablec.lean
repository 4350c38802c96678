/-
  The normal form of an entry is normal, and what Apply returns is normal, for every schema, entry and list of modifications of bulk at most 1048576 together. Condition: that bound.
-/
import Derived.Test.YtonfkhkalodldabGreatDoorZStable
import Derived.Test.YtonfkhkalodldabGreatDoorZStableb
set_option linter.unusedVariables false
set_option linter.unusedSimpArgs false
set_option linter.unnecessarySimpa false

section
/-
  The normal form of an entry is normal, and what Apply returns is normal, for every schema, entry and list of modifications of bulk at most 1048576 together. Condition: that bound.
-/
set_option maxRecDepth 100000
set_option linter.unusedVariables false
set_option linter.unusedSimpArgs false
set_option linter.unnecessarySimpa false
namespace Go.Proofs.YtonfkhkalodldabGreatDoor
open Go.ChangeShapes Go.WideShapes Go.ChangeAt Go.RowKit Go.PlainAid

theorem estable_said : Rows.EntryStableUptoSaid :=
  OpenClaim.holds_of_cond 3 Tryz.f3 rfl rfl rfl rfl rfl rfl rfl ⟨rfl, rfl, rfl, rfl, rfl⟩ rfl rfl rfl rfl rfl (by kernel_rfl) Tryz.func3 estable_closed
    (of_decide_eq_true (by kernel_rfl)) (by unfold Func.isWrapper; first | (rw [if_pos (by decide +kernel)]; kernel_rfl) | (rw [if_neg (by decide +kernel)]; exact ⟨rfl, rfl⟩))
    (fun os started H enc _ F => by rw [OpenClaim.pre_eq_preRow]; exact estable_lifted os started H enc F)

theorem estable_plain (f : FuncId) (fn : Func) (hf : Tryz.pinned.checked.prog.funcNamed "identity/identitylaw08.EntryStable" = some f) (hfn : Tryz.pinned.checked.prog.funcs[f]? = some fn) :
    true = Tryz.pinned.checked.prog.looks [] ∧ ∀ (j : Nat) t, fn.params[j]? = some t → Tryz.pinned.checked.prog.wantsStandIn t = false := by
  obtain rfl : f = 3 := Option.some.inj ((show Tryz.prog.funcNamed "identity/identitylaw08.EntryStable" = some 3 by kernel_rfl).symm.trans hf) |>.symm
  obtain rfl : fn = Tryz.f3 := (Option.some.inj (Tryz.func3.symm.trans hfn)).symm
  refine ⟨by kernel_rfl, fun j t ht => ?_⟩
  rw [Tryz.params3] at ht
  have hm : t ∈ [25, 28, 29] := by simpa using Array.mem_of_getElem? ht
  have hall : ([25, 28, 29].all fun u => !Tryz.prog.wantsStandIn u) = true := by kernel_rfl
  exact (show Tryz.prog.wantsStandIn t = false by simpa using List.all_eq_true.1 hall t hm)

/-- THE CARD -/
theorem estable_card : Rows.EntryStableUptoCardSaid :=
  Claim7.holds_tied_plain_at .later [] _ _ _ _ estable_said (fun _ h => by cases h) (by kernel_rfl) (fun _ h => by cases h) entryStableUpto_row_tie rfl ⟨rfl, rfl⟩ (by kernel_rfl) rfl estable_plain estable_goes
end Go.Proofs.YtonfkhkalodldabGreatDoor
end
