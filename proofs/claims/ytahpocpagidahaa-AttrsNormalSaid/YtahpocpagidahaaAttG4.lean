/-
  Contracts of both Sorted in the form that the laws use. No condition.
-/
import Derived.Test.YtahpocpagidahaaAttG3
import Derived.Test.YtahpocpagidahaaAttR8
import Derived.Test.YtahpocpagidahaaAttR7
set_option linter.unusedVariables false
set_option linter.unusedSimpArgs false
set_option linter.unnecessarySimpa false
namespace Go.Proofs.Ytahpocpagidahaa
open Go.RowKit Go.PlainAid

theorem Good.fewv {l : List At} (h : Good l) : FewV l := fun a ha => by have := sumV_mem ha; have := h.vals; omega
theorem Few.fewv {l : List At} (h : Few l) : FewV l := fun a ha => by have := sumV_mem ha; have := h.vals; omega
theorem sortR_s (ao : Option Addr) (n cap : Nat) (l : List At) (w : World) (h : AttrsAt w ao n cap l) (hF : Few l) :
    Calls Try.prog 15 #[.slice ao n cap] w fun e w' => ∃ v, e = .returned v ∧ AttsR w' v (nf l) ∧ Below w.heap.size w w' := by
  refine (sorted_s ao n cap l w h hF).mono ?_
  rintro e w' ⟨v, T, rfl, hT, hTO, _, hown, hb⟩
  exact ⟨v, rfl, by rw [← hT]; exact atts_own hown hTO.ok, hb⟩
theorem rsortR_s (ao : Option Addr) (n cap : Nat) (l : List At) (w : World) (h : AttrsAt w ao n cap l) (hF : Few l) :
    Calls Try.prog 16 #[.slice ao n cap] w fun e w' => ∃ v, e = .returned v ∧ AttsR w' v (nf l) ∧ Below w.heap.size w w' := by
  refine (rsorted_s ao n cap l w h hF.small hF.vals (by rw [← h.1]; exact hF.len)).mono ?_
  rintro e w' ⟨v, T, rfl, hT, hTO, hown, hb⟩
  exact ⟨v, rfl, by rw [← hT]; exact atts_own hown hTO.ok, hb⟩

end Go.Proofs.Ytahpocpagidahaa
