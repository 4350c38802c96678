/-
  A slice of slices of strings that came in, read out of memory. No condition.
-/
import Derived.Test.YtelddbgnhfhkiabDoorLawFrame
import Derived.Deep.Slices
set_option linter.unusedVariables false
set_option linter.unusedSimpArgs false
set_option linter.unnecessarySimpa false
namespace Go.Proofs.YtelddbgnhfhkiabDoor
open Go.ChangeShapes Go.WideShapes Go.ChangeAt Go.RowKit

/-- list j -/
def rowAt (ls : List (List ByteArray)) (j : Nat) : List ByteArray := ls.getD j []
/-- a slice of slices of strings in memory -/
def NestsAt (w : World) (ao : Option Addr) (n cap : Nat) (ls : List (List ByteArray)) : Prop :=
  ls.length = n ∧ n ≤ cap ∧ cap ≤ maxLen ∧ (0 < n → ∃ b off, ao = some ⟨b, off, none⟩ ∧ ∀ j, j < n → ∃ aj nj cj, w.cell? ⟨b, off + j, none⟩ = some (.slice aj nj cj) ∧ StrsAt w aj nj cj (rowAt ls j))
theorem NestsAt.below {w w' : World} {ao : Option Addr} {n cap : Nat} {ls : List (List ByteArray)} (h : NestsAt w ao n cap ls) (hb : Below w.heap.size w w') : NestsAt w' ao n cap ls :=
  ⟨h.1, h.2.1, h.2.2.1, fun hn => by
    obtain ⟨b, off, e, hi⟩ := h.2.2.2 hn
    refine ⟨b, off, e, fun j hj => ?_⟩
    obtain ⟨aj, nj, cj, hc, hs⟩ := hi j hj
    exact ⟨aj, nj, cj, cell_later hb hc, hs.below hb⟩⟩

theorem cells_strs : Tryd.prog.cellsOf 39 = 1 := by kernel_rfl
set_option maxRecDepth 100000 in
theorem trod_strs {H : Type} {enc : TypeId × Value → H} {W : World} {v : Value} {x : DataW H × List MemPlace} {fuel : Nat}
    (hf : DataW.trod enc Tryd.prog W 0 (fun _ => true) true fuel 39 [v] = some x) : ∃ ao n cap ps, v = .slice ao n cap ∧ StrsAt W ao n cap ps := by
  rcases open_strings Tryd.underlying39 Tryd.underlying9 cells_string hf with ⟨hcs, hx⟩ | ⟨a, len, cap, ss, hcs, _, hl, hm, hz, hx, hcell, hws⟩
  · injection hcs with h1 _
    exact ⟨none, 0, 0, [], h1, rfl, Nat.le_refl _, by unfold maxLen; omega, fun h => absurd h (by omega)⟩
  · injection hcs with h1 _
    simp only [if_true] at hz
    refine ⟨_, len, cap, ss.take len, h1, by rw [List.length_take]; omega, hl, hm, fun hn => ?_⟩
    obtain ⟨b, off, spot⟩ := a
    have hspot : spot = none := by simpa [Addr.add] using World.cell?_spot (hcell 0 (by omega))
    subst hspot
    have h1 := hcell 0 (by omega)
    rw [add_plain] at h1
    refine ⟨b, off, rfl, World.block_lt_of_cell? W _ h1, fun j hj => ?_⟩
    rw [List.length_take] at hj
    rw [← add_plain, hcell j (by omega)]
    unfold partAt
    rw [List.getD_eq_getElem?_getD, List.getD_eq_getElem?_getD, List.getElem?_take, if_pos (by omega)]
theorem choose_rows {w : World} {b off len : Nat} (h : ∀ i, i < len → ∃ aj nj cj ps, w.cell? ⟨b, off + i, none⟩ = some (.slice aj nj cj) ∧ StrsAt w aj nj cj ps) :
    ∃ ls : List (List ByteArray), ls.length = len ∧ ∀ i, i < len → ∃ aj nj cj, w.cell? ⟨b, off + i, none⟩ = some (.slice aj nj cj) ∧ StrsAt w aj nj cj (rowAt ls i) := by
  induction len with
  | zero => exact ⟨[], rfl, fun i hi => absurd hi (Nat.not_lt_zero _)⟩
  | succ n ih =>
    obtain ⟨ls, hl, hp⟩ := ih (fun i hi => h i (by omega))
    obtain ⟨aj, nj, cj, ps, hc, hs⟩ := h n (by omega)
    refine ⟨ls ++ [ps], by simp [hl], fun i hi => ?_⟩
    by_cases e : i = n
    · subst e
      have e2 : rowAt (ls ++ [ps]) i = ps := by
        unfold rowAt
        rw [List.getD_eq_getElem?_getD, List.getElem?_append_right (by omega), hl]; simp
      rw [e2]; exact ⟨aj, nj, cj, hc, hs⟩
    · have e2 : rowAt (ls ++ [ps]) i = rowAt ls i := by
        unfold rowAt
        rw [List.getD_eq_getElem?_getD, List.getD_eq_getElem?_getD, List.getElem?_append_left (by omega)]
      rw [e2]; exact hp i (by omega)
set_option maxRecDepth 100000 in
theorem open_strss {H : Type} {enc : TypeId × Value → H} {W : World} {base : Nat} {v : Value} {d : DataW H} {p : List MemPlace} (hval : Value.okWide Tryd.prog W .any base 38 v)
    (h0 : DataW.Trod enc Tryd.prog W 0 (fun _ => true) true 38 v d p) : ∃ ao n cap ls, v = .slice ao n cap ∧ NestsAt W ao n cap ls := by
  obtain ⟨a0, len, cap, rfl⟩ := okWide_slice Tryd.underlying38 hval
  obtain ⟨fuel, hf⟩ := h0
  rcases Go.Deep.open_slice1 Tryd.underlying38 cells_strs hf with ⟨hcs, hx⟩ | ⟨a, len', cap', m, n, V, D, Pl, hcs, _, hl, hm, hmm, hx, hcell⟩
  · simp [Value.cells] at hcs
    obtain ⟨rfl, rfl, rfl⟩ := hcs
    exact ⟨none, 0, 0, [], rfl, rfl, Nat.le_refl _, by unfold maxLen; omega, fun h => absurd h (by omega)⟩
  · simp [Value.cells] at hcs
    obtain ⟨rfl, rfl, rfl⟩ := hcs
    simp only [if_true] at hmm
    rw [hmm] at hcell
    by_cases hn : 0 < len
    · obtain ⟨b, off, spot⟩ := a
      have h1 := (hcell 0 (by omega)).1
      have hspot : spot = none := by simpa [Addr.add] using World.cell?_spot h1
      subst hspot
      obtain ⟨ls, hpl, hps⟩ := choose_rows (w := W) (b := b) (off := off) (len := len) (fun i hi => by
        obtain ⟨c0, t0⟩ := hcell i (by omega)
        rw [add_plain] at c0
        obtain ⟨aj, nj, cj, ps, e0, hs⟩ := trod_strs t0
        rw [e0] at c0
        exact ⟨aj, nj, cj, ps, c0, hs⟩)
      exact ⟨_, len, cap, ls, rfl, hpl, hl, hm, fun _ => ⟨b, off, rfl, hps⟩⟩
    · exact ⟨_, len, cap, [], rfl, by simp; omega, hl, hm, fun h => absurd h hn⟩

end Go.Proofs.YtelddbgnhfhkiabDoor
