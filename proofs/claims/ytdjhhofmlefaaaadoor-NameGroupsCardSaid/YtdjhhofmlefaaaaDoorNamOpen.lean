/-
  A slice of pairs that came in, read out of memory. No condition.
-/
import Derived.Test.YtdjhhofmlefaaaaDoorLawFrame0
import Derived.Test.YtdjhhofmlefaaaaDoorNamS
import Derived.Deep.SlicePairs
set_option linter.unusedVariables false
set_option linter.unusedSimpArgs false
set_option linter.unnecessarySimpa false
namespace Go.Proofs.YtdjhhofmlefaaaaDoor
open Go.ChangeShapes Go.WideShapes Go.ChangeAt Go.RowKit

theorem cells_pair : Tryd.prog.cellsOf 36 = 2 := by kernel_rfl
theorem choose_strs {w : World} {b off len : Nat} (h : ∀ i, i < len → ∃ x y : ByteArray, w.cell? ⟨b, off + i * 2, none⟩ = some (.string x) ∧ w.cell? ⟨b, off + i * 2 + 1, none⟩ = some (.string y)) :
    ∃ ps : List Pr, ps.length = len ∧ ∀ i, i < len → w.cell? ⟨b, off + i * 2, none⟩ = some (.string (prAt ps i).1) ∧ w.cell? ⟨b, off + i * 2 + 1, none⟩ = some (.string (prAt ps i).2) := by
  induction len with
  | zero => exact ⟨[], rfl, fun i hi => absurd hi (Nat.not_lt_zero _)⟩
  | succ n ih =>
    obtain ⟨ps, hl, hp⟩ := ih (fun i hi => h i (by omega))
    obtain ⟨x, y, hx, hy⟩ := h n (by omega)
    refine ⟨ps ++ [(x, y)], by simp [hl], fun i hi => ?_⟩
    by_cases e : i = n
    · subst e
      have e2 : prAt (ps ++ [(x, y)]) i = (x, y) := by
        unfold prAt
        rw [List.getD_eq_getElem?_getD, List.getElem?_append_right (by omega), hl]; simp
      rw [e2]; exact ⟨hx, hy⟩
    · have e2 : prAt (ps ++ [(x, y)]) i = prAt ps i := by
        unfold prAt
        rw [List.getD_eq_getElem?_getD, List.getD_eq_getElem?_getD, List.getElem?_append_left (by omega)]
      rw [e2]; exact hp i (by omega)
set_option maxRecDepth 100000 in
theorem open_pairs {H : Type} {enc : TypeId × Value → H} {W : World} {base : Nat} {v : Value} {d : DataW H} {p : List MemPlace} (hval : Value.okWide Tryd.prog W .any base 24 v)
    (h0 : DataW.Trod enc Tryd.prog W 0 (fun _ => true) true 24 v d p) : ∃ ao n cap ps, v = .slice ao n cap ∧ PairsAt W ao n cap ps := by
  obtain ⟨a0, len, cap, rfl⟩ := okWide_slice Tryd.underlying24 hval
  obtain ⟨fuel, hf⟩ := h0
  rcases Go.Deep.open_slice_pairs Tryd.underlying24 Tryd.underlying36 cells_pair rfl rfl (by kernel_rfl) (by kernel_rfl) hf with ⟨hcs, hx⟩ | ⟨a, len', cap', m, n, V0, V1, D0, D1, P0, P1, hcs, _, hl, hm, hmm, hx, hcell⟩
  · simp [Value.cells] at hcs
    obtain ⟨rfl, rfl, rfl⟩ := hcs
    exact ⟨none, 0, 0, [], rfl, rfl, Nat.le_refl _, by unfold maxLen; omega, fun h => absurd h (by omega)⟩
  · simp [Value.cells] at hcs
    obtain ⟨rfl, rfl, rfl⟩ := hcs
    simp only [if_true] at hmm
    rw [hmm] at hcell
    by_cases hn : 0 < len
    · obtain ⟨b, off, spot⟩ := a
      have h1 := (hcell 0 (by omega)).1
      have hspot : spot = none := by simpa [Addr.add] using World.cell?_spot h1
      subst hspot
      have hb : b < W.heap.size := by
        rw [add_plain] at h1
        exact World.block_lt_of_cell? W _ h1
      obtain ⟨ps, hpl, hps⟩ := choose_strs (w := W) (b := b) (off := off) (len := len) (fun i hi => by
        obtain ⟨c0, c1, t0, t1⟩ := hcell i (by omega)
        rw [add_plain] at c0 c1
        obtain ⟨s0, e0, _⟩ := DataW.trod_string Tryd.underlying9 t0
        obtain ⟨s1, e1, _⟩ := DataW.trod_string Tryd.underlying9 t1
        simp only [List.cons.injEq, and_true] at e0 e1
        rw [e0] at c0
        rw [e1, ← Nat.add_assoc] at c1
        exact ⟨s0, s1, c0, c1⟩)
      exact ⟨_, len, cap, ps, rfl, hpl, hl, hm, fun _ => ⟨b, off, rfl, hb, fun j hj => hps j (by omega)⟩⟩
    · exact ⟨_, len, cap, [], rfl, by simp; omega, hl, hm, fun h => absurd h hn⟩

end Go.Proofs.YtdjhhofmlefaaaaDoor
