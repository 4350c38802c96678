/-
  The difference of two normal entries with the same name turns the first one into the second one, for every schema, entry and list of attributes of bulk at most 1048576 together. Condition: that bound.
-/
import Derived.Test.YtonfkhkalodldabGreatDoorZTurns
import Derived.Test.YtonfkhkalodldabGreatDoorZTurnsb
set_option linter.unusedVariables false
set_option linter.unusedSimpArgs false
set_option linter.unnecessarySimpa false

section
set_option maxRecDepth 100000
namespace Go.Proofs.YtonfkhkalodldabGreatDoor
open Go.ChangeShapes Go.WideShapes Go.ChangeAt Go.RowKit Go.PlainAid
theorem eturns_said : Rows.EntryTurnsUptoSaid :=
 OpenClaim.holds_of_cond 4 Tryz.f4 rfl rfl rfl rfl rfl rfl rfl ⟨rfl, rfl, rfl, rfl, rfl⟩ rfl rfl rfl rfl rfl (by kernel_rfl) Tryz.func4 eturns_closed
  (of_decide_eq_true (by kernel_rfl)) (by unfold Func.isWrapper; first | (rw [if_pos (by decide +kernel)]; kernel_rfl) | (rw [if_neg (by decide +kernel)]; exact ⟨rfl, rfl⟩))
  (fun os started H enc _ F => by rw [OpenClaim.pre_eq_preRow]; exact eturns_lifted os started H enc F)

theorem eturns_plain (f : FuncId) (fn : Func) (hf : Tryz.pinned.checked.prog.funcNamed "identity/identitylaw08.EntryTurns" = some f) (hfn : Tryz.pinned.checked.prog.funcs[f]? = some fn) :
  true = Tryz.pinned.checked.prog.looks [] ∧ ∀ (j : Nat) t, fn.params[j]? = some t → Tryz.pinned.checked.prog.wantsStandIn t = false := by
 obtain rfl : f = 4 := Option.some.inj ((show Tryz.prog.funcNamed "identity/identitylaw08.EntryTurns" = some 4 by kernel_rfl).symm.trans hf) |>.symm
 obtain rfl : fn = Tryz.f4 := (Option.some.inj (Tryz.func4.symm.trans hfn)).symm
 refine ⟨by kernel_rfl, fun j t ht => ?_⟩
 rw [Tryz.params4] at ht
 have hm : t ∈ [25, 28, 26] := by simpa using Array.mem_of_getElem? ht
 have hall : ([25, 28, 26].all fun u => !Tryz.prog.wantsStandIn u) = true := by kernel_rfl
 exact (show Tryz.prog.wantsStandIn t = false by simpa using List.all_eq_true.1 hall t hm)

theorem eturns_card : Rows.EntryTurnsUptoCardSaid :=
 Claim7.holds_tied_plain_at .later [] _ _ _ _ eturns_said (fun _ h => by cases h) (by kernel_rfl) (fun _ h => by cases h) entryTurnsUpto_row_tie rfl ⟨rfl, rfl⟩ (by kernel_rfl) rfl eturns_plain eturns_goes
end Go.Proofs.YtonfkhkalodldabGreatDoor
end
