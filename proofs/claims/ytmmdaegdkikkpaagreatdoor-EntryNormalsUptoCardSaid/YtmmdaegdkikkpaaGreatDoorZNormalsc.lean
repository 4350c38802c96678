/-
  entry.Normal returns the specified normal form or error, for every schema and entry of bulk at most 1048576 together. Condition: that bound.
-/
import Derived.Test.YtmmdaegdkikkpaaGreatDoorZNormals
import Derived.Test.YtmmdaegdkikkpaaGreatDoorZNormalsb
set_option linter.unusedVariables false
set_option linter.unusedSimpArgs false
set_option linter.unnecessarySimpa false

section
set_option maxRecDepth 100000
namespace Go.Proofs.YtmmdaegdkikkpaaGreatDoor
open Go.ChangeShapes Go.WideShapes Go.ChangeAt Go.RowKit Go.PlainAid
theorem enormals_said : Rows.EntryNormalsUptoSaid :=
 OpenClaim.holds_of_cond 5 Tryz.f5 rfl rfl rfl rfl rfl rfl rfl ⟨rfl, rfl, rfl, rfl, rfl⟩ rfl rfl rfl rfl rfl (by kernel_rfl) Tryz.func5 enormals_closed
  (of_decide_eq_true (by kernel_rfl)) (by unfold Func.isWrapper; first | (rw [if_pos (by decide +kernel)]; kernel_rfl) | (rw [if_neg (by decide +kernel)]; exact ⟨rfl, rfl⟩))
  (fun os started H enc _ F => by rw [OpenClaim.pre_eq_preRow]; exact enormals_lifted os started H enc F)

theorem enormals_plain (f : FuncId) (fn : Func) (hf : Tryz.pinned.checked.prog.funcNamed "identity/identitylaw08.EntryNormals" = some f) (hfn : Tryz.pinned.checked.prog.funcs[f]? = some fn) :
  true = Tryz.pinned.checked.prog.looks [] ∧ ∀ (j : Nat) t, fn.params[j]? = some t → Tryz.pinned.checked.prog.wantsStandIn t = false := by
 obtain rfl : f = 5 := Option.some.inj ((show Tryz.prog.funcNamed "identity/identitylaw08.EntryNormals" = some 5 by kernel_rfl).symm.trans hf) |>.symm
 obtain rfl : fn = Tryz.f5 := (Option.some.inj (Tryz.func5.symm.trans hfn)).symm
 refine ⟨by kernel_rfl, fun j t ht => ?_⟩
 rw [Tryz.params5] at ht
 have hm : t ∈ [25, 37] := by simpa using Array.mem_of_getElem? ht
 have hall : ([25, 37].all fun u => !Tryz.prog.wantsStandIn u) = true := by kernel_rfl
 exact (show Tryz.prog.wantsStandIn t = false by simpa using List.all_eq_true.1 hall t hm)

theorem enormals_card : Rows.EntryNormalsUptoCardSaid :=
 Claim7.holds_tied_plain_at .later [] _ _ _ _ enormals_said (fun _ h => by cases h) (by kernel_rfl) (fun _ h => by cases h) entryNormalsUpto_row_tie rfl ⟨rfl, rfl⟩ (by kernel_rfl) rfl enormals_plain enormals_goes
end Go.Proofs.YtmmdaegdkikkpaaGreatDoor
end
