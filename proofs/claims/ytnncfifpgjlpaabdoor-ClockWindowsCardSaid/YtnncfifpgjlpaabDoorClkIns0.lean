/-
  The contract of the specification's insert, at no windows too. Condition: at most 1000 windows.
-/
import Derived.Test.YtnncfifpgjlpaabDoorClkUniA
set_option linter.unusedVariables false
set_option linter.unusedSimpArgs false
set_option linter.unnecessarySimpa false
namespace Go.Proofs.YtnncfifpgjlpaabDoor
open Go.RowKit Go.PlainAid

set_option maxRecDepth 100000 in
set_option maxHeartbeats 2000000 in
theorem insert_none (p q : Int) (w : World) :
    Calls Tryd.prog 35 #[.slice none 0 0, .agg #[.int .i64 p, .int .i64 q]] w fun e w' =>
      ∃ v, e = .returned v ∧ w'.ownsRow w.heap.size 27 2 v (0 + 1) (wcells [(p, q)]) ∧ Below w.heap.size w w' := by
  go_enter Tryd.func35, Tryd.ntmps35
  go_wp2
  have c0 : (w.alloc (.cells #[.int .i64 p, .int .i64 q] 27)).cell? ⟨w.heap.size, 0, none⟩ = some (.int .i64 p) := ((wins_new w (p, q)).2.2.2 (by omega)).elim fun b h => by
    obtain ⟨off, e, h⟩ := h
    cases e
    exact (h.2 0 (by show 0 < 1; omega)).1
  have c1 : (w.alloc (.cells #[.int .i64 p, .int .i64 q] 27)).cell? ⟨w.heap.size, 1, none⟩ = some (.int .i64 q) := ((wins_new w (p, q)).2.2.2 (by omega)).elim fun b h => by
    obtain ⟨off, e, h⟩ := h
    cases e
    exact (h.2 0 (by show 0 < 1; omega)).2
  have hB0 : Below w.heap.size w (w.alloc (.cells #[.int .i64 p, .int .i64 q] 27)) := Below.alloc (Below.refl _ _) (Nat.le_refl _) _
  have hz0 : (w.alloc (.cells #[.int .i64 p, .int .i64 q] 27)).heap.size = w.heap.size + 1 := by show (w.heap.push _).size = _; simp
  generalize hW0 : w.alloc (.cells #[.int .i64 p, .int .i64 q] 27) = W0
  rw [hW0] at c0 c1 hB0 hz0
  clear hW0
  have HC0 := Lib.hid c0; clear c0
  have HC1 := Lib.hid c1; clear c1
  refine wp_loop_rounds 1 ?_
  rw [rounds_succ]
  go_wp2_with fail
  go_quiet (fail)
  generalize hW1 : World.drewN W0 _ = W1
  have hB1 : Below W0.heap.size W0 W1 := by rw [← hW1]; exact ⟨rfl, rfl, rfl, Nat.le_refl _, fun _ _ => rfl⟩
  have c0 : W1.cell? ⟨w.heap.size, 0, none⟩ = some (.int .i64 p) := by rw [hB1.cell (p := ⟨w.heap.size, 0, none⟩) (by show w.heap.size < _; omega)]; exact HC0.out
  have c1 : W1.cell? ⟨w.heap.size, 1, none⟩ = some (.int .i64 q) := by rw [hB1.cell (p := ⟨w.heap.size, 1, none⟩) (by show w.heap.size < _; omega)]; exact HC1.out
  have hz1 := hB1.size
  have HB1 := Lib.hid hB1
  have HC2 := Lib.hid (fun W (hb : Below W0.heap.size W0 W) => show W.cell? ⟨w.heap.size, 0, none⟩ = some (.int .i64 p) by rw [hb.cell (p := ⟨w.heap.size, 0, none⟩) (by show w.heap.size < _; omega)]; exact HC0.out)
  have HC3 := Lib.hid (fun W (hb : Below W0.heap.size W0 W) => show W.cell? ⟨w.heap.size, 1, none⟩ = some (.int .i64 q) by rw [hb.cell (p := ⟨w.heap.size, 1, none⟩) (by show w.heap.size < _; omega)]; exact HC1.out)
  have HNil : Hid (∀ W : World, WinsAt W none 0 0 []) := Lib.hid fun W => ⟨rfl, Nat.le_refl _, Nat.zero_le _, fun h => absurd h (Nat.lt_irrefl _)⟩
  clear hW1 hB1
  go_wp2_with (first
    | (at_builtin; refine app_wins W1 (World.ownsRow_nil W1 W0.heap.size 27 2) (.tmp 23) (.tmp 26) none 0 0 [] ?_ ?_ ?_ ?_ ?_ ?_ ?_ ?_ ?_; exact rfl; exact rfl; exact rfl; exact rfl; exact HNil.out _; exact (fun _ => rfl); exact (by omega); exact HB1.out.size; intro v2 W2 hown2 hb2; have hB2 := HB1.out.trans (hb2.mono (Nat.le_refl _)); have d0 := HC2.out _ hB2; have d1 := HC3.out _ hB2)
    | (at_builtin; refine app_wins (W2.alloc _) (hown2.alloc _) (.tmp 28) (.tmp 30) (some ⟨W2.heap.size, 0, none⟩) 1 1 [(p, q)] ?_ ?_ ?_ ?_ ?_ ?_ ?_ ?_ ?_; exact rfl; exact rfl; exact rfl; exact rfl; exact (wins_new W2 (p, q)); (intro e; cases e); exact (by omega); (show W0.heap.size ≤ (W2.heap.push _).size; simp; have := hB2.size; omega); intro v3 W3 hown3 hb3; have hB3 := (hB2.alloc hB2.size _).trans hb3)
    | (at_builtin; refine app_wins W3 hown3 (.tmp 32) (.tmp 35) none 0 0 [] ?_ ?_ ?_ ?_ ?_ ?_ ?_ ?_ ?_; exact rfl; exact rfl; exact rfl; exact rfl; exact HNil.out _; exact (fun _ => rfl); exact (by omega); exact hB3.size; intro v4 W4 hown4 hb4; have hB4 := hB3.trans hb4))
  go_ret
  refine ⟨v4, rfl, own_down ?_ hB0.size, hB0.trans (hB4.mono hB0.size)⟩
  rw [show wcells ([] : List Wn) = [] from rfl, List.append_nil, List.append_nil, List.nil_append] at hown4
  exact hown4

/-- insert into windows that are the caller's own, or none -/
theorem insert_s (ao : Option Addr) (n cap : Nat) (ps : List Wn) (p q : Int) (w : World) (h : WinsAt w ao n cap ps) (hn : n ≤ 1000) (hz : n = 0 → ao = none ∧ cap = 0) :
    Calls Tryd.prog 35 #[.slice ao n cap, .agg #[.int .i64 p, .int .i64 q]] w fun e w' =>
      ∃ bo dap, e = .returned (.slice bo (n + 1) dap) ∧ WinsAt w' bo (n + 1) dap (insW ps (p, q)) ∧ Below w.heap.size w w' := by
  have k : Calls Tryd.prog 35 #[.slice ao n cap, .agg #[.int .i64 p, .int .i64 q]] w fun e w' =>
      ∃ v, e = .returned v ∧ w'.ownsRow w.heap.size 27 2 v (n + 1) (wcells (insW ps (p, q))) ∧ Below w.heap.size w w' := by
    rcases Nat.eq_zero_or_pos n with e | e
    · obtain ⟨rfl, rfl⟩ := hz e
      subst e
      have : ps = [] := List.length_eq_zero_iff.1 h.1
      subst this
      exact insert_none p q w
    · obtain ⟨b, off, rfl, _⟩ := h.2.2.2 e
      exact insert_some b off n cap ps p q w h hn e
  refine k.mono fun e w' h => ?_
  obtain ⟨v, rfl, ho, hb⟩ := h
  obtain ⟨bo, dap, rfl, hw, _, _⟩ := wins_of_owns ho
  exact ⟨bo, dap, rfl, hw, hb⟩

end Go.Proofs.YtnncfifpgjlpaabDoor
