/-
  Attributes in memory: a slice of attributes that came in, read out of memory. No condition.
-/
import Derived.Test.YtahpocpagidahaaAttIns
import Derived.Deep.SlicePairs
set_option linter.unusedVariables false
set_option linter.unusedSimpArgs false
set_option linter.unnecessarySimpa false
namespace Go.Proofs.Ytahpocpagidahaa
open Go.ChangeShapes Go.WideShapes Go.ChangeAt Go.RowKit

set_option maxRecDepth 100000 in
theorem trod_strs {H : Type} {enc : TypeId × Value → H} {W : World} {v : Value} {x : DataW H × List MemPlace} {fuel : Nat}
    (hf : DataW.trod enc Try.prog W 0 (fun _ => true) true fuel 29 [v] = some x) : ∃ ao n cap ps, v = .slice ao n cap ∧ StrsAt W ao n cap ps := by
  rcases open_strings Try.underlying29 Try.underlying9 cells_string hf with ⟨hcs, hx⟩ | ⟨a, len, cap, ss, hcs, _, hl, hm, hz, hx, hcell, hws⟩
  · injection hcs with h1 _
    exact ⟨none, 0, 0, [], h1, rfl, Nat.le_refl _, by unfold maxLen; omega, fun h => absurd h (by omega)⟩
  · injection hcs with h1 _
    simp only [if_true] at hz
    refine ⟨_, len, cap, ss.take len, h1, by rw [List.length_take]; omega, hl, hm, fun hn => ?_⟩
    obtain ⟨b, off, spot⟩ := a
    have hspot : spot = none := by simpa [Addr.add] using World.cell?_spot (hcell 0 (by omega))
    subst hspot
    have h1 := hcell 0 (by omega)
    rw [add_plain] at h1
    refine ⟨b, off, rfl, World.block_lt_of_cell? W _ h1, fun j hj => ?_⟩
    rw [List.length_take] at hj
    rw [← add_plain, hcell j (by omega)]
    unfold partAt
    rw [List.getD_eq_getElem?_getD, List.getD_eq_getElem?_getD, List.getElem?_take, if_pos (by omega)]
def atD (l : List At) (j : Nat) : At := l.getD j (⟨#[]⟩, [])
theorem at_get (l : List At) (j : Nat) (h : j < l.length) : atD l j = l[j] := by
  unfold atD; rw [List.getD_eq_getElem?_getD, List.getElem?_eq_getElem h]; rfl
theorem at_mem (l : List At) (j : Nat) (h : j < l.length) : atD l j ∈ l := by rw [at_get l j h]; exact List.getElem_mem h
theorem at_take (l : List At) (k : Nat) (h : k < l.length) : l.take (k + 1) = l.take k ++ [atD l k] := by
  rw [at_get l k h]; exact List.take_succ_eq_append_getElem h
/-- an attribute in memory: its name and its values -/
def AttAt (w : World) (b off : Nat) (a : At) : Prop :=
  w.cell? ⟨b, off, none⟩ = some (.string a.1) ∧ ∃ vo vn vc, w.cell? ⟨b, off + 1, none⟩ = some (.slice vo vn vc) ∧ StrsAt w vo vn vc a.2
theorem AttAt.below {w w' : World} {b off : Nat} {a : At} (h : AttAt w b off a) (hb : Below w.heap.size w w') : AttAt w' b off a := by
  obtain ⟨h0, vo, vn, vc, h1, h2⟩ := h
  exact ⟨cell_later hb h0, vo, vn, vc, cell_later hb h1, h2.below hb⟩
/-- a slice of attributes in memory -/
def AttrsAt (w : World) (ao : Option Addr) (n cap : Nat) (l : List At) : Prop :=
  l.length = n ∧ n ≤ cap ∧ cap ≤ maxLen ∧ (0 < n → ∃ b off, ao = some ⟨b, off, none⟩ ∧ b < w.heap.size ∧ ∀ j, j < n → AttAt w b (off + j * 2) (atD l j))
theorem AttrsAt.below {w w' : World} {ao : Option Addr} {n cap : Nat} {l : List At} (h : AttrsAt w ao n cap l) (hb : Below w.heap.size w w') : AttrsAt w' ao n cap l :=
  ⟨h.1, h.2.1, h.2.2.1, fun hn => by
    obtain ⟨b, off, e, hi, ha⟩ := h.2.2.2 hn
    exact ⟨b, off, e, Nat.lt_of_lt_of_le hi hb.size, fun j hj => (ha j hj).below hb⟩⟩
theorem cells_attr : Try.prog.cellsOf 42 = 2 := by kernel_rfl
theorem choose_attrs {w : World} {b off len : Nat} (h : ∀ i, i < len → ∃ a : At, AttAt w b (off + i * 2) a) : ∃ l : List At, l.length = len ∧ ∀ i, i < len → AttAt w b (off + i * 2) (atD l i) := by
  induction len with
  | zero => exact ⟨[], rfl, fun i hi => absurd hi (Nat.not_lt_zero _)⟩
  | succ n ih =>
    obtain ⟨l, hl, hp⟩ := ih (fun i hi => h i (by omega))
    obtain ⟨a, ha⟩ := h n (by omega)
    refine ⟨l ++ [a], by simp [hl], fun i hi => ?_⟩
    by_cases e : i = n
    · subst e
      have e2 : atD (l ++ [a]) i = a := by
        unfold atD
        rw [List.getD_eq_getElem?_getD, List.getElem?_append_right (by omega), hl]; simp
      rw [e2]; exact ha
    · have e2 : atD (l ++ [a]) i = atD l i := by
        unfold atD
        rw [List.getD_eq_getElem?_getD, List.getD_eq_getElem?_getD, List.getElem?_append_left (by omega)]
      rw [e2]; exact hp i (by omega)
set_option maxRecDepth 100000 in
theorem open_attrs {H : Type} {enc : TypeId × Value → H} {W : World} {base : Nat} {v : Value} {d : DataW H} {p : List MemPlace} (hval : Value.okWide Try.prog W .any base 22 v)
    (h0 : DataW.Trod enc Try.prog W 0 (fun _ => true) true 22 v d p) : ∃ ao n cap l, v = .slice ao n cap ∧ AttrsAt W ao n cap l := by
  obtain ⟨a0, len, cap, rfl⟩ := okWide_slice Try.underlying22 hval
  obtain ⟨fuel, hf⟩ := h0
  rcases Go.Deep.open_slice_pairs Try.underlying22 Try.underlying42 cells_attr rfl rfl (by kernel_rfl) (by kernel_rfl) hf with ⟨hcs, hx⟩ | ⟨a, len', cap', m, n, V0, V1, D0, D1, P0, P1, hcs, _, hl, hm, hmm, hx, hcell⟩
  · simp [Value.cells] at hcs
    obtain ⟨rfl, rfl, rfl⟩ := hcs
    exact ⟨none, 0, 0, [], rfl, rfl, Nat.le_refl _, by unfold maxLen; omega, fun h => absurd h (by omega)⟩
  · simp [Value.cells] at hcs
    obtain ⟨rfl, rfl, rfl⟩ := hcs
    simp only [if_true] at hmm
    rw [hmm] at hcell
    by_cases hn : 0 < len
    · obtain ⟨b, off, spot⟩ := a
      have h1 := (hcell 0 (by omega)).1
      have hspot : spot = none := by simpa [Addr.add] using World.cell?_spot h1
      subst hspot
      have hb : b < W.heap.size := by
        rw [add_plain] at h1
        exact World.block_lt_of_cell? W _ h1
      obtain ⟨l, hpl, hps⟩ := choose_attrs (w := W) (b := b) (off := off) (len := len) (fun i hi => by
        obtain ⟨c0, c1, t0, t1⟩ := hcell i (by omega)
        rw [add_plain] at c0 c1
        obtain ⟨s0, e0, _⟩ := DataW.trod_string Try.underlying9 t0
        simp only [List.cons.injEq, and_true] at e0
        obtain ⟨aj, nj, cj, ps, e1, hs⟩ := trod_strs t1
        rw [e0] at c0
        rw [e1, ← Nat.add_assoc] at c1
        exact ⟨(s0, ps), c0, aj, nj, cj, c1, hs⟩)
      exact ⟨_, len, cap, l, rfl, hpl, hl, hm, fun _ => ⟨b, off, rfl, hb, hps⟩⟩
    · exact ⟨_, len, cap, [], rfl, by simp; omega, hl, hm, fun h => absurd h hn⟩


end Go.Proofs.Ytahpocpagidahaa
