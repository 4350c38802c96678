/-
  entry.Diff and entry.Equal return the specified results, for any two entries. No condition.
-/
import Derived.Test.YtmmdaegdkikkpaaGreatDoorZDiffs
import Derived.Test.YtmmdaegdkikkpaaGreatDoorZDiffsb
set_option linter.unusedVariables false
set_option linter.unusedSimpArgs false
set_option linter.unnecessarySimpa false

section
set_option maxRecDepth 100000
namespace Go.Proofs.YtmmdaegdkikkpaaGreatDoor
open Go.ChangeShapes Go.WideShapes Go.ChangeAt Go.RowKit Go.PlainAid
theorem ediffs_said : Rows.EntryDiffsSaid :=
 OpenClaim.holds_of_cond 7 Tryz.f7 rfl rfl rfl rfl rfl rfl rfl ⟨rfl, rfl, rfl, rfl, rfl⟩ rfl rfl rfl rfl rfl (by kernel_rfl) Tryz.func7 ediffs_closed
  (of_decide_eq_true (by kernel_rfl)) (by unfold Func.isWrapper; first | (rw [if_pos (by decide +kernel)]; kernel_rfl) | (rw [if_neg (by decide +kernel)]; exact ⟨rfl, rfl⟩))
  (fun os started H enc _ F => by rw [OpenClaim.pre_eq_preRow]; exact ediffs_lifted os started H enc F)

theorem ediffs_plain (f : FuncId) (fn : Func) (hf : Tryz.pinned.checked.prog.funcNamed "identity/identitylaw08.EntryDiffs" = some f) (hfn : Tryz.pinned.checked.prog.funcs[f]? = some fn) :
  true = Tryz.pinned.checked.prog.looks [] ∧ ∀ (j : Nat) t, fn.params[j]? = some t → Tryz.pinned.checked.prog.wantsStandIn t = false := by
 obtain rfl : f = 7 := Option.some.inj ((show Tryz.prog.funcNamed "identity/identitylaw08.EntryDiffs" = some 7 by kernel_rfl).symm.trans hf) |>.symm
 obtain rfl : fn = Tryz.f7 := (Option.some.inj (Tryz.func7.symm.trans hfn)).symm
 refine ⟨by kernel_rfl, fun j t ht => ?_⟩
 rw [Tryz.params7] at ht
 have hm : t ∈ [37, 37] := by simpa using Array.mem_of_getElem? ht
 have hall : ([37, 37].all fun u => !Tryz.prog.wantsStandIn u) = true := by kernel_rfl
 exact (show Tryz.prog.wantsStandIn t = false by simpa using List.all_eq_true.1 hall t hm)

theorem ediffs_card : Rows.EntryDiffsCardSaid :=
 Claim7.holds_tied_plain_at .later [] _ _ _ _ ediffs_said (fun _ h => by cases h) (by kernel_rfl) (fun _ h => by cases h) entryDiffs_row_tie rfl ⟨rfl, rfl⟩ (by kernel_rfl) rfl ediffs_plain ediffs_goes
end Go.Proofs.YtmmdaegdkikkpaaGreatDoor
end
