/-
  entry.Apply returns the specified entry or error, for every schema, entry and list of modifications of bulk at most 1048576 together. Condition: that bound.
-/
import Derived.Test.YtmmdaegdkikkpaaGreatDoorZApplies
import Derived.Test.YtmmdaegdkikkpaaGreatDoorZAppliesb
set_option linter.unusedVariables false
set_option linter.unusedSimpArgs false
set_option linter.unnecessarySimpa false

section
set_option maxRecDepth 100000
namespace Go.Proofs.YtmmdaegdkikkpaaGreatDoor
open Go.ChangeShapes Go.WideShapes Go.ChangeAt Go.RowKit Go.PlainAid
theorem eapplies_said:Rows.EntryAppliesUptoSaid:=
 OpenClaim.holds_of_cond 6 Tryz.f6 rfl rfl rfl rfl rfl rfl rfl ⟨rfl,rfl,rfl,rfl,rfl⟩ rfl rfl rfl rfl rfl (by kernel_rfl) Tryz.func6 eapplies_closed
  (of_decide_eq_true (by kernel_rfl)) (by unfold Func.isWrapper; first | (rw [if_pos (by decide +kernel)]; kernel_rfl) | (rw [if_neg (by decide +kernel)]; exact ⟨rfl,rfl⟩))
  (fun os started H enc _ F=>by rw [OpenClaim.pre_eq_preRow]; exact eapplies_lifted os started H enc F)

theorem eapplies_plain (f : FuncId) (fn : Func) (hf : Tryz.pinned.checked.prog.funcNamed "identity/identitylaw08.EntryApplies" = some f) (hfn : Tryz.pinned.checked.prog.funcs[f]? = some fn) :
  true=Tryz.pinned.checked.prog.looks [] /\ ∀ (j:Nat) t,fn.params[j]? = some t -> Tryz.pinned.checked.prog.wantsStandIn t=false:=by
 obtain rfl : f = 6 := Option.some.inj ((show Tryz.prog.funcNamed "identity/identitylaw08.EntryApplies" = some 6 by kernel_rfl).symm.trans hf) |>.symm
 obtain rfl:fn=Tryz.f6:=(Option.some.inj (Tryz.func6.symm.trans hfn)).symm
 refine ⟨by kernel_rfl,fun j t ht => ?_⟩
 rw [Tryz.params6] at ht
 have hm:t ∈ [25,37,44]:=by simpa using Array.mem_of_getElem? ht
 have hall:([25,37,44].all fun u => !Tryz.prog.wantsStandIn u)=true:=by kernel_rfl
 exact (show Tryz.prog.wantsStandIn t=false by simpa using List.all_eq_true.1 hall t hm)

theorem eapplies_card:Rows.EntryAppliesUptoCardSaid:=
 Claim7.holds_tied_plain_at .later [] _ _ _ _ eapplies_said (fun _ h=>by cases h) (by kernel_rfl) (fun _ h=>by cases h) entryAppliesUpto_row_tie rfl ⟨rfl,rfl⟩ (by kernel_rfl) rfl eapplies_plain eapplies_goes
end Go.Proofs.YtmmdaegdkikkpaaGreatDoor
end
