/-
  Plain facts for uniting windows in memory: a row of windows that the call owns, changed in one place, cut shorter, cleared behind. No condition.
-/
import Derived.Test.YtnncfifpgjlpaabDoorClkIns
import Derived.Laws.OwnMore
import Derived.Lib.SliceRun
set_option linter.unusedVariables false
set_option linter.unusedSimpArgs false
set_option linter.unnecessarySimpa false
namespace Go.Proofs.YtnncfifpgjlpaabDoor
open Go.RowKit Go.PlainAid

theorem wcells_set : ∀ (u : List Wn) (k : Nat) (p : Wn), k < u.length → wcells (u.set k p) = ((wcells u).set (k * 2) (.int .i64 p.1)).set (k * 2 + 1) (.int .i64 p.2)
  | [], k, p, h => absurd h (Nat.not_lt_zero _)
  | x :: u, 0, p, h => rfl
  | x :: u, k + 1, p, h => by
    have ih := wcells_set u k p (by simpa using h)
    have e : ∀ (y : Wn) (l : List Wn), wcells (y :: l) = .int .i64 y.1 :: .int .i64 y.2 :: wcells l := fun _ _ => rfl
    rw [List.set_cons_succ, e, ih, e, show (k + 1) * 2 = k * 2 + 1 + 1 by omega]
    rfl
theorem wcells_set2 (u : List Wn) (k : Nat) (v : Int) (h : k < u.length) : wcells (u.set k ((wnAt u k).1, v)) = (wcells u).set (k * 2 + 1) (.int .i64 v) := by
  rw [wcells_set u k _ h]
  congr 1
  apply List.ext_getElem?
  intro j
  by_cases e : j = k * 2
  · subst e
    rw [List.getElem?_set, if_pos rfl, if_pos (by rw [wcells_len]; omega), (wcells_at u k h).1]
  · rw [List.getElem?_set, if_neg (fun x => e x.symm)]

/-- the Until of a window in a row of the call's own is stored anew -/
theorem own_until {w : World} {base g cap n : Nat} {u : List Wn} (h : w.ownsRow base 27 2 (.slice (some ⟨g, 0, none⟩) n cap) n (wcells u)) (k : Nat) (hk : k < u.length) (v : Int) :
    (w.setCell ⟨g, k * 2 + 1, none⟩ (.int .i64 v)).ownsRow base 27 2 (.slice (some ⟨g, 0, none⟩) n cap) n (wcells (u.set k ((wnAt u k).1, v))) := by
  rw [wcells_set2 u k v hk]
  exact (h.stored (k * 2 + 1) (.int .i64 v)).1
theorem own_len {w : World} {base n : Nat} {v : Value} {u : List Wn} (h : w.ownsRow base 27 2 v n (wcells u)) : u.length = n := by
  have := h.1
  rw [wcells_len] at this
  omega
theorem own_nil {w : World} {base : Nat} {v : Value} {u : List Wn} (h : w.ownsRow base 27 2 v 0 (wcells u)) : u = [] := List.length_eq_zero_iff.1 (own_len h)
theorem own_form {w : World} {base n : Nat} {v : Value} {xs : List Value} (h : w.ownsRow base 27 2 v n xs) (hn : 0 < n) : ∃ g cap, v = .slice (some ⟨g, 0, none⟩) n cap ∧ base ≤ g ∧ g < w.heap.size ∧ n ≤ cap ∧ cap ≤ maxLen := by
  have h0 := h
  obtain ⟨hl, ⟨_, hz⟩ | ⟨g, cap, cur, rfl, h2, h3, h4, h5, h6⟩⟩ := h
  · omega
  · exact ⟨g, cap, rfl, h2, (h0.lt g rfl).2, h4, h5⟩
theorem own_cellsAt {w : World} {base g cap n : Nat} {u : List Wn} (h : w.ownsRow base 27 2 (.slice (some ⟨g, 0, none⟩) n cap) n (wcells u)) (k : Nat) (hk : k < n) :
    w.cell? ⟨g, k * 2, none⟩ = some (.int .i64 (wnAt u k).1) ∧ w.cell? ⟨g, k * 2 + 1, none⟩ = some (.int .i64 (wnAt u k).2) := by
  have hl := own_len h
  have := wcells_at u k (by omega)
  exact ⟨by rw [h.cellAt _ (by omega)]; exact this.1, by rw [h.cellAt _ (by omega)]; exact this.2⟩
/-- a row cut shorter -/
theorem own_cut {w : World} {base g cap n : Nat} {xs : List Value} (h : w.ownsRow base 27 2 (.slice (some ⟨g, 0, none⟩) n cap) n xs) (i : Nat) (hi : i ≤ n) :
    w.ownsRow base 27 2 (.slice (some ⟨g, 0, none⟩) i cap) i (xs.take (i * 2)) := by
  obtain ⟨hl, ⟨he, _⟩ | ⟨g', cap', cur, he, h2, h3, h4, h5, h6, h7⟩⟩ := h
  · cases he
  · cases he
    refine ⟨by rw [List.length_take, hl]; omega, .inr ⟨g, cap, cur, rfl, h2, h3, by omega, h5, h6, ?_⟩⟩
    rw [← h7, List.take_take, Nat.min_eq_left (by omega)]
/-- cells stored behind place o -/
theorem own_setCells {base g cap n : Nat} : ∀ (vs : List Value) (w : World) (o : Nat) (xs : List Value), w.ownsRow base 27 2 (.slice (some ⟨g, 0, none⟩) n cap) n xs →
    ∃ ys, (w.setCells g o vs).ownsRow base 27 2 (.slice (some ⟨g, 0, none⟩) n cap) n ys ∧ ∀ i, i ≤ o → ys.take i = xs.take i
  | [], w, o, xs, h => ⟨xs, h, fun _ _ => rfl⟩
  | v :: vs, w, o, xs, h => by
    obtain ⟨ys, h1, h2⟩ := own_setCells vs (w.setCell ⟨g, o, none⟩ v) (o + 1) (xs.set o v) (h.stored o v).1
    refine ⟨ys, h1, fun i hi => ?_⟩
    rw [h2 i (by omega)]
    apply List.ext_getElem?
    intro j
    rw [List.getElem?_take, List.getElem?_take]
    split
    · rw [List.getElem?_set, if_neg (by omega)]
    · rfl
theorem wcells_take : ∀ (u : List Wn) (i : Nat), (wcells u).take (i * 2) = wcells (u.take i)
  | [], i => by simp [wcells]
  | x :: u, 0 => rfl
  | x :: u, i + 1 => by
    have ih := wcells_take u i
    have e : ∀ (y : Wn) (l : List Wn), wcells (y :: l) = .int .i64 y.1 :: .int .i64 y.2 :: wcells l := fun _ _ => rfl
    rw [show (i + 1) * 2 = i * 2 + 1 + 1 by omega, List.take_succ_cons, e, e, List.take_succ_cons, List.take_succ_cons, ih]

/-- one window more: the specification's and the program's step -/
theorem put_step (u : List Wn) (w : Wn) : putW u w = if u = [] then [w] else if (wnAt u (u.length - 1)).2 < w.1 then u ++ [w] else u.set (u.length - 1) ((wnAt u (u.length - 1)).1, max (wnAt u (u.length - 1)).2 w.2) := by
  rcases List.eq_nil_or_concat u with rfl | ⟨d, x, rfl⟩
  · rfl
  · rw [List.concat_eq_append, put_snoc, if_neg (show ¬ (d ++ [x] = []) by simp)]
    have e : wnAt (d ++ [x]) ((d ++ [x]).length - 1) = x := by
      unfold wnAt
      rw [List.length_append, List.length_singleton, Nat.add_sub_cancel, List.getD_eq_getElem?_getD, List.getElem?_append_right (Nat.le_refl _), Nat.sub_self]
      rfl
    rw [e]
    split
    · rfl
    · rw [List.length_append, List.length_singleton, Nat.add_sub_cancel, List.set_append_right _ _ (Nat.le_refl _), Nat.sub_self]
      rfl
theorem merge_snoc (l : List Wn) (w : Wn) : mergeW (l ++ [w]) = putW (mergeW l) w := by
  unfold mergeW; rw [List.foldl_append]; rfl
theorem all_snoc (l : List Wn) (w : Wn) : allW (l ++ [w]) = if w.1 < w.2 then insW (allW l) w else allW l := by
  unfold allW; rw [List.foldl_append]; rfl
theorem take_wn (l : List Wn) (k : Nat) (h : k < l.length) : l.take (k + 1) = l.take k ++ [wnAt l k] := by
  rw [List.take_succ_eq_append_getElem h]
  unfold wnAt
  rw [List.getD_eq_getElem?_getD, List.getElem?_eq_getElem h]
  rfl
theorem put_len (u : List Wn) (w : Wn) : (putW u w).length ≤ u.length + 1 := by
  rw [put_step]
  split
  · rename_i h; subst h; exact Nat.le_refl _
  · split
    · simp
    · simp
theorem merge_len : ∀ l : List Wn, (mergeW l).length ≤ l.length := by
  intro l
  induction h : l.length generalizing l with
  | zero => rw [List.length_eq_zero_iff.1 h]; exact Nat.le_refl _
  | succ n ih =>
    rcases List.eq_nil_or_concat l with rfl | ⟨d, x, rfl⟩
    · simp at h
    · rw [List.concat_eq_append] at h ⊢
      rw [merge_snoc]
      have := ih d (by simpa using h)
      have := put_len (mergeW d) x
      omega

/-- clear of a slice of windows -/
theorem run_clear_wins (w : World) (ty : TypeId) (b o n c : Nat) (hn : 0 < n) (hc : ∀ j, j < n * 2 → (w.cell? ⟨b, o + j, none⟩).isSome = true) (hf : ∀ j, j < n * 2 → w.frozen? ⟨b, o + j, none⟩ = false) :
    (Builtin.clear_ #[32] ty #[.slice (some ⟨b, o, none⟩) n c]).run Tryd.prog w = .ok (.tuple #[]) (w.setCells b o (List.replicate (n * 2) (.int .i64 0))) := by
  have hv : ∀ w, (zeroValue 27).run Tryd.prog w = .ok (.agg #[.int .i64 0, .int .i64 0]) w := Tryd.zeroValue27
  have hzc : (Builtin.zeroCells (Value.agg #[.int .i64 0, .int .i64 0]).cells n).toList = List.replicate (n * 2) (.int .i64 0) := by
    show (Builtin.zeroCells #[.int .i64 0, .int .i64 0] n).toList = _
    simp [Builtin.zeroCells]
    apply List.ext_getElem
    · simp
    · intro i h1 h2
      rcases Nat.mod_two_eq_zero_or_one i with e | e <;> simp [e]
  have hst := run_storeCells_cells (P := Tryd.prog) b o (List.replicate (n * 2) (.int .i64 0)) 0 w (by simpa using hc) (by simpa using hf) (by intro v hv'; rw [List.eq_of_mem_replicate hv']; rfl)
  simp only [Nat.add_zero] at hst
  obtain ⟨m, rfl⟩ : ∃ m, n = m + 1 := ⟨n - 1, by omega⟩
  simp [Builtin.clear_, run_underlying Tryd.underlying32, hv, hzc, hst]

end Go.Proofs.YtnncfifpgjlpaabDoor
