/-
  Contract of the laws' examples: awake returns true. No condition.
-/
import Derived.Test.YtahpocpagidahaaAttG1
set_option linter.unusedVariables false
set_option linter.unusedSimpArgs false
set_option linter.unnecessarySimpa false
namespace Go.Proofs.Ytahpocpagidahaa
open Go.RowKit Go.PlainAid

def exL : List At := [(⟨#[77, 65, 73, 76]⟩, [⟨#[109]⟩]), (⟨#[99, 110]⟩, [⟨#[98]⟩, ⟨#[97]⟩])]
def exN : List At := [(⟨#[99, 110]⟩, [⟨#[97]⟩, ⟨#[98]⟩]), (⟨#[109, 97, 105, 108]⟩, [⟨#[109]⟩])]
def exA : List At := [(⟨#[99, 110]⟩, [⟨#[97]⟩, ⟨#[98]⟩, ⟨#[99]⟩]), (⟨#[109, 97, 105, 108]⟩, [⟨#[109]⟩])]
def exB : List At := [(⟨#[99, 110]⟩, [⟨#[97]⟩, ⟨#[98]⟩])]
theorem ex1 : nf exL = exN := by decide +kernel
theorem ex2 : addR exL ⟨#[67, 78]⟩ [⟨#[99]⟩] = (exA, 0) := by decide +kernel
theorem ex3 : addR exL ⟨#[99, 110]⟩ [⟨#[97]⟩] = ([], 7) := by decide +kernel
theorem ex4 : remR exL ⟨#[109, 97, 105, 108]⟩ [] = (exB, 0) := by decide +kernel
theorem ex5 : remR exB ⟨#[109, 97, 105, 108]⟩ [] = ([], 6) := by decide +kernel
theorem ex6 : repR exL ⟨#[120]⟩ [] = (exN, 0) := by decide +kernel
theorem ex7 : vals exA (lowS ⟨#[99, 110]⟩) = [⟨#[97]⟩, ⟨#[98]⟩, ⟨#[99]⟩] := by decide +kernel
theorem ex8 : decide (nf exN = nf exL) = true := by decide +kernel
theorem ex9 : chkA exL = 0 := by decide +kernel
theorem ex10 : chkA (exL ++ [(⟨#[67, 78]⟩, [⟨#[122]⟩])]) = 7 := by decide +kernel
theorem ex11 : memB (vals exL (lowS ⟨#[109, 97, 105, 108]⟩)) ⟨#[109]⟩ = true := by decide +kernel
theorem ex12 : memB (vals exL (lowS ⟨#[109, 97, 105, 108]⟩)) ⟨#[77]⟩ = false := by decide +kernel
theorem ex13 : (pickL exL [⟨#[77, 65, 73, 76]⟩, ⟨#[111, 116, 104, 101, 114]⟩]).length = 1 := by decide +kernel
theorem ex14 : (names exL).length = 2 := by decide +kernel

theorem cells_new (w : World) (cs : List Value) (e : TypeId) (j : Nat) (u : Value) (h : cs[j]? = some u) : (w.alloc (.cells cs.toArray e)).cell? ⟨w.heap.size, j, none⟩ = some u := by
  have hb := heap_alloc_new w (.cells cs.toArray e)
  unfold World.cell?
  simp only [hb]
  simpa using h
theorem strs_new (w : World) (l : List ByteArray) (h : l.length ≤ maxLen) : StrsAt (w.alloc (.cells (scells l).toArray 9)) (some ⟨w.heap.size, 0, none⟩) l.length l.length l :=
  ⟨rfl, Nat.le_refl _, h, fun _ => ⟨w.heap.size, 0, rfl, by simp, fun j hj => by
    rw [Nat.zero_add]
    refine cells_new w _ _ _ _ ?_
    unfold scells partAt
    rw [List.getElem?_map, List.getD_eq_getElem?_getD, List.getElem?_eq_getElem hj]; rfl⟩⟩
theorem ts_new (w : World) (T : List Tr) (h : T.length ≤ maxLen) : TsAt (w.alloc (.cells (tcells T).toArray 42)) (some ⟨w.heap.size, 0, none⟩) T.length T.length T :=
  ⟨rfl, Nat.le_refl _, h, fun _ => ⟨w.heap.size, 0, rfl, by simp, fun j u hj => by
    rw [Nat.zero_add]; exact cells_new w _ _ _ _ hj⟩⟩
theorem two_of {T : List Tr} {a b : At} (h : tats T = [a, b]) : ∃ h1 h2, T = [(a.1, h1, a.2), (b.1, h2, b.2)] := by
  match T, h with
  | [(p1, h1, v1), (p2, h2, v2)], h =>
    simp only [tats, List.map_cons, List.map_nil, List.cons.injEq, and_true] at h
    obtain ⟨rfl, rfl⟩ := h
    exact ⟨h1, h2, rfl⟩
theorem small_dec {l : List ByteArray} (h : l.all (fun v => decide (v.size ≤ 1000)) = true) : SmallS l := fun v hv => by
  have := List.all_eq_true.1 h v hv
  have := of_decide_eq_true this
  omega
theorem smallA_dec {l : List At} (h : l.all (fun a => decide (a.1.size ≤ 1000) && a.2.all (fun v => decide (v.size ≤ 1000))) = true) : SmallA l := fun a ha => by
  have := List.all_eq_true.1 h a ha
  rw [Bool.and_eq_true] at this
  exact ⟨by have := of_decide_eq_true this.1; omega, small_dec this.2⟩
theorem few_dec {l : List At} (h : (l.all (fun a => decide (a.1.size ≤ 1000) && a.2.all (fun v => decide (v.size ≤ 1000))) && decide (sumV l ≤ 1000) && decide (l.length ≤ 40)) = true) : Few l := by
  rw [Bool.and_eq_true, Bool.and_eq_true] at h
  exact ⟨smallA_dec h.1.1, by have := of_decide_eq_true h.1.2; omega, by have := of_decide_eq_true h.2; omega⟩
theorem edit_dec {l : List At} {vs : List ByteArray} (h : (l.all (fun a => decide (a.1.size ≤ 1000) && a.2.all (fun v => decide (v.size ≤ 1000))) && decide (sumV l ≤ 1000) && decide (l.length ≤ 40)) = true) (k : (vs.all (fun v => decide (v.size ≤ 1000)) && decide (vs.length ≤ 100)) = true) : Edit l vs := by
  have h1 := few_dec h
  rw [Bool.and_eq_true, Bool.and_eq_true] at h
  rw [Bool.and_eq_true] at k
  exact ⟨h1.small, by have := of_decide_eq_true h.1.2; omega, by have := of_decide_eq_true h.2; omega, small_dec k.1, by have := of_decide_eq_true k.2; omega⟩
theorem exL_few : Few exL := few_dec (by decide +kernel)
theorem exB_few : Few exB := few_dec (by decide +kernel)
theorem exA_few : Few exA := few_dec (by decide +kernel)
theorem exN_few : Few exN := few_dec (by decide +kernel)
theorem exZ_few : Few (exL ++ [(⟨#[67, 78]⟩, [⟨#[122]⟩])]) := few_dec (by decide +kernel)

end Go.Proofs.Ytahpocpagidahaa
