/-
  The contract of the specification's insert. Condition: at most 1000 windows.
-/
import Derived.Test.YtnncfifpgjlpaabDoorClkApp
import Derived.BigQuiet
set_option linter.unusedVariables false
set_option linter.unusedSimpArgs false
set_option linter.unnecessarySimpa false
namespace Go.Proofs.YtnncfifpgjlpaabDoor
open Go.RowKit Go.PlainAid

theorem ins_split (w : Wn) : ∀ l : List Wn, ∃ k, k ≤ l.length ∧ (∀ j, j < k → (wnAt l j).1 ≤ w.1) ∧ (k < l.length → ¬ (wnAt l k).1 ≤ w.1) ∧ insW l w = l.take k ++ w :: l.drop k
  | [] => ⟨0, Nat.le_refl _, fun j hj => absurd hj (Nat.not_lt_zero _), fun h => absurd h (Nat.lt_irrefl _), rfl⟩
  | p :: l => by
    by_cases hp : p.1 ≤ w.1
    · obtain ⟨k, h1, h2, h3, h4⟩ := ins_split w l
      refine ⟨k + 1, by simpa using h1, fun j hj => ?_, fun h => ?_, ?_⟩
      · rcases j with _ | j
        · exact hp
        · exact h2 j (by omega)
      · exact h3 (by simpa using h)
      · unfold insW at h4 ⊢
        rw [List.takeWhile_cons, if_pos (by simpa using hp), List.dropWhile_cons, if_pos (by simpa using hp), List.take_succ_cons, List.drop_succ_cons, List.cons_append, List.cons_append, h4]
    · refine ⟨0, Nat.zero_le _, fun j hj => absurd hj (Nat.not_lt_zero _), fun _ => hp, ?_⟩
      unfold insW
      rw [List.takeWhile_cons, if_neg (by simpa using hp), List.dropWhile_cons, if_neg (by simpa using hp)]
      rfl
theorem IsWins.take {w : World} {b off : Nat} {ps : List Wn} (h : IsWins w b off ps) (k : Nat) : IsWins w b off (ps.take k) :=
  ⟨h.1, fun j hj => by
    rw [List.length_take] at hj
    have := h.2 j (by omega)
    unfold wnAt at this ⊢
    rw [List.getD_eq_getElem?_getD, List.getElem?_take, if_pos (by omega), ← List.getD_eq_getElem?_getD]
    exact this⟩
theorem IsWins.drop {w : World} {b off : Nat} {ps : List Wn} (h : IsWins w b off ps) (k : Nat) : IsWins w b (off + k * 2) (ps.drop k) :=
  ⟨h.1, fun j hj => by
    rw [List.length_drop] at hj
    have := h.2 (k + j) (by omega)
    unfold wnAt at this ⊢
    rw [List.getD_eq_getElem?_getD, List.getElem?_drop, ← List.getD_eq_getElem?_getD, show off + k * 2 + j * 2 = off + (k + j) * 2 by omega]
    exact this⟩
theorem wins_new (w : World) (p : Wn) : WinsAt (w.alloc (.cells #[.int .i64 p.1, .int .i64 p.2] 27)) (some ⟨w.heap.size, 0, none⟩) 1 1 [p] := by
  refine ⟨rfl, Nat.le_refl _, by unfold maxLen; omega, fun _ => ⟨w.heap.size, 0, rfl, by show _ < (w.heap.push _).size; simp, fun j hj => ?_⟩⟩
  have h : (w.alloc (.cells #[.int .i64 p.1, .int .i64 p.2] 27)).heap[w.heap.size]? = some (.cells #[.int .i64 p.1, .int .i64 p.2] 27 (0, 0)) := heap_alloc_new w _
  have hj0 : j = 0 := by simp at hj; omega
  subst hj0
  exact ⟨by unfold World.cell?; rw [h]; rfl, by unfold World.cell?; rw [h]; rfl⟩

theorem own_down {w : World} {B B' n : Nat} {e : TypeId} {v : Value} {xs : List Value} (h : w.ownsRow B e 2 v n xs) (hb : B' ≤ B) : w.ownsRow B' e 2 v n xs := by
  obtain ⟨hl, ⟨rfl, hz⟩ | ⟨g, cap, cur, rfl, h2, h3⟩⟩ := h
  · exact ⟨hl, .inl ⟨rfl, hz⟩⟩
  · exact ⟨hl, .inr ⟨g, cap, cur, rfl, Nat.le_trans hb h2, h3⟩⟩

set_option maxRecDepth 100000 in
set_option maxHeartbeats 2000000 in
theorem insert_some (b off n cap : Nat) (ps : List Wn) (p q : Int) (w : World) (h : WinsAt w (some ⟨b, off, none⟩) n cap ps) (hn : n ≤ 1000) (hc : 0 < n) :
    Calls Tryd.prog 35 #[.slice (some ⟨b, off, none⟩) n cap, .agg #[.int .i64 p, .int .i64 q]] w fun e w' =>
      ∃ v, e = .returned v ∧ w'.ownsRow w.heap.size 27 2 v (n + 1) (wcells (insW ps (p, q))) ∧ Below w.heap.size w w' := by
  obtain ⟨k0, hk0, ha, hz, hi⟩ := ins_split (p, q) ps
  obtain ⟨h1, h2, h3, h4⟩ := h
  subst h1
  unfold maxLen at h3
  obtain ⟨b', off', hb', hs⟩ := h4 hc
  cases hb'
  have HS := Lib.hid hs; clear hs h4
  have HA := Lib.hid ha; clear ha
  have HZ := Lib.hid hz; clear hz
  have HI := Lib.hid hi; clear hi
  go_enter Tryd.func35, Tryd.ntmps35
  go_wp2
  have c0 : (w.alloc (.cells #[.int .i64 p, .int .i64 q] 27)).cell? ⟨w.heap.size, 0, none⟩ = some (.int .i64 p) := ((wins_new w (p, q)).2.2.2 (by omega)).elim fun b h => by
    obtain ⟨off, e, h⟩ := h
    cases e
    exact (h.2 0 (by show 0 < 1; omega)).1
  have c1 : (w.alloc (.cells #[.int .i64 p, .int .i64 q] 27)).cell? ⟨w.heap.size, 1, none⟩ = some (.int .i64 q) := ((wins_new w (p, q)).2.2.2 (by omega)).elim fun b h => by
    obtain ⟨off, e, h⟩ := h
    cases e
    exact (h.2 0 (by show 0 < 1; omega)).2
  have hB0 : Below w.heap.size w (w.alloc (.cells #[.int .i64 p, .int .i64 q] 27)) := Below.alloc (Below.refl _ _) (Nat.le_refl _) _
  have hz0 : (w.alloc (.cells #[.int .i64 p, .int .i64 q] 27)).heap.size = w.heap.size + 1 := by show (w.heap.push _).size = _; simp
  generalize hW0 : w.alloc (.cells #[.int .i64 p, .int .i64 q] 27) = W0
  rw [hW0] at c0 c1 hB0 hz0
  clear hW0
  have HC0 := Lib.hid c0; clear c0
  have HC1 := Lib.hid c1; clear c1
  have HS0 := Lib.hid (HS.out.below hB0 HS.out.1)
  go_loopw [5] (fun iv wr => ∃ k : Nat, k ≤ k0 ∧ iv = .int .i64 k ∧ Hid (Below W0.heap.size W0 wr)) (fun iv _ => k0 - (intOf iv).toNat)
  case atStart => exact ⟨0, Nat.zero_le _, rfl, Lib.hid (Below.refl _ _)⟩
  case round =>
    obtain ⟨k, hk, rfl, HB⟩ := hrel
    have c0 : wr.cell? ⟨w.heap.size, 0, none⟩ = some (.int .i64 p) := by rw [HB.out.cell (p := ⟨w.heap.size, 0, none⟩) (by show w.heap.size < _; omega)]; exact HC0.out
    have c1 : wr.cell? ⟨w.heap.size, 1, none⟩ = some (.int .i64 q) := by rw [HB.out.cell (p := ⟨w.heap.size, 1, none⟩) (by show w.heap.size < _; omega)]; exact HC1.out
    have k1 : (0 : Int) ≤ (k : Int) := by omega
    by_cases hlt : k < k0
    · have hc2 := ((HS0.out.below HB.out HS0.out.1).2 k (by omega)).1
      have hle : (wnAt ps k).1 ≤ p := HA.out k hlt
      obtain ⟨x, hx⟩ : ∃ x, (wnAt ps k).1 = x := ⟨_, rfl⟩
      rw [hx] at hc2 hle
      clear hx
      have k2 : (k : Int) < (ps.length : Int) := by omega
      go_wp2_with fail
      go_region_held3 (fun w' => w'.cell? ⟨b, off + k * 2, none⟩ = some (.int .i64 x) ∧ w'.cell? ⟨w.heap.size, 0, none⟩ = some (.int .i64 p)) (go_keep) (fail)
      go_wp2
      go_roundw
      case rel => exact ⟨k + 1, by omega, by go_num, Lib.hid HB.out.drew⟩
      case measure => simp [intOf]; omega
    · obtain rfl : k = k0 := by omega
      have HSW := Lib.hid (HS0.out.below HB.out HS0.out.1)
      have HT : Hid (∀ W1, Below W0.heap.size W0 W1 → WinsAt W1 (some ⟨b, off, none⟩) k cap (ps.take k)) := Lib.hid fun W1 hb => ⟨by rw [List.length_take]; omega, by omega, h3, fun _ => ⟨b, off, rfl, (HS0.out.below hb HS0.out.1).take k⟩⟩
      have HD : Hid (∀ W1, Below W0.heap.size W0 W1 → WinsAt W1 (some ⟨b, off + k * 2, none⟩) (ps.length - k) (cap - k) (ps.drop k)) := Lib.hid fun W1 hb => ⟨by rw [List.length_drop], by omega, by unfold maxLen; omega, fun _ => ⟨b, off + k * 2, rfl, (HS0.out.below hb HS0.out.1).drop k⟩⟩
      have k2 : (k : Int) ≤ (ps.length : Int) := by omega
      have k3 : (k : Int) ≤ (cap : Int) := by omega
      have HBD := Lib.hid HB.out.drew
      have HC2 := Lib.hid (fun W (hb : Below W0.heap.size W0 W) => show W.cell? ⟨w.heap.size, 0, none⟩ = some (.int .i64 p) by rw [hb.cell (p := ⟨w.heap.size, 0, none⟩) (by show w.heap.size < _; omega)]; exact HC0.out)
      have HC3 := Lib.hid (fun W (hb : Below W0.heap.size W0 W) => show W.cell? ⟨w.heap.size, 1, none⟩ = some (.int .i64 q) by rw [hb.cell (p := ⟨w.heap.size, 1, none⟩) (by show w.heap.size < _; omega)]; exact HC1.out)
      by_cases hlast : k < ps.length
      · have hc2 := (HSW.out.2 k hlast).1
        have hgt : ¬ (wnAt ps k).1 ≤ p := by have := HZ.out hlast; omega
        obtain ⟨x, hx⟩ : ∃ x, (wnAt ps k).1 = x := ⟨_, rfl⟩
        rw [hx] at hc2 hgt
        clear hx
        have k4 : (k : Int) < (ps.length : Int) := by omega
        go_wp2_with fail
        go_region_held3 (fun w' => w'.cell? ⟨b, off + k * 2, none⟩ = some (.int .i64 x) ∧ w'.cell? ⟨w.heap.size, 0, none⟩ = some (.int .i64 p)) (go_keep) (fail)
        generalize hW1 : wr.drew = W1
        rw [hW1] at HBD
        go_wp2_with (first
          | (at_builtin; refine app_wins W1 (World.ownsRow_nil W1 W0.heap.size 27 2) (.tmp 23) (.tmp 26) (some ⟨b, off, none⟩) k cap (ps.take k) ?_ ?_ ?_ ?_ ?_ ?_ ?_ ?_ ?_; exact rfl; exact rfl; exact rfl; exact rfl; exact (HT.out _ HBD.out); (intro e; cases e); omega; exact HBD.out.size; intro v2 W2 hown2 hb2; have hB2 := HBD.out.trans (hb2.mono (Nat.le_refl _)); have d0 := HC2.out _ hB2; have d1 := HC3.out _ hB2; rw [Nat.zero_add, List.nil_append] at hown2)
          | (at_builtin; refine app_wins (W2.alloc _) (hown2.alloc _) (.tmp 28) (.tmp 30) (some ⟨W2.heap.size, 0, none⟩) 1 1 [(p, q)] ?_ ?_ ?_ ?_ ?_ ?_ ?_ ?_ ?_; exact rfl; exact rfl; exact rfl; exact rfl; exact (wins_new W2 (p, q)); (intro e; cases e); omega; (show W0.heap.size ≤ (W2.heap.push _).size; simp; have := hB2.size; omega); intro v3 W3 hown3 hb3; have hB3 := (hB2.alloc hB2.size _).trans hb3)
          | (at_builtin; refine app_wins W3 hown3 (.tmp 32) (.tmp 35) (some ⟨b, off + k * 2, none⟩) (ps.length - k) (cap - k) (ps.drop k) ?_ ?_ ?_ ?_ ?_ ?_ ?_ ?_ ?_; exact rfl; exact rfl; exact rfl; exact rfl; exact (HD.out _ hB3); (intro e; cases e); omega; exact hB3.size; intro v4 W4 hown4 hb4; have hB4 := hB3.trans hb4))
        go_ret
        refine ⟨v4, rfl, own_down ?_ hB0.size, hB0.trans (hB4.mono hB0.size)⟩
        rw [← wcells_append, ← wcells_append] at hown4
        rw [HI.out, show ps.length + 1 = k + 1 + (ps.length - k) by omega, show ps.take k ++ (p, q) :: ps.drop k = ps.take k ++ [(p, q)] ++ ps.drop k by simp]
        exact hown4
      · have k4 : ¬ (k : Int) < (ps.length : Int) := by omega
        have k5 : decide ((k : Int) < (ps.length : Int)) = false := decide_eq_false k4
        clear k4 HBD
        have HD0 : Hid (∀ W1, WinsAt W1 (some ⟨b, off, none⟩) (ps.length - k) 0 (ps.drop k)) := Lib.hid fun W1 => ⟨by rw [List.length_drop], by omega, by unfold maxLen; omega, fun h => absurd h (by omega)⟩
        have HBN := Lib.hid (fun q => show Below W0.heap.size W0 (wr.drewN q) from ⟨HB.out.os, HB.out.tape, HB.out.output, HB.out.size, HB.out.block⟩)
        go_wp2_with fail
        go_quiet (fail)
        generalize hW1 : wr.drewN _ = W1
        have HBD : Hid (Below W0.heap.size W0 W1) := Lib.hid (hW1 ▸ HBN.out _)
        by_cases hcap : cap = k
        · have hcap2 : k = cap := hcap.symm
          clear hcap
          subst hcap2
          go_wp2_with (first
            | (at_builtin; refine app_wins W1 (World.ownsRow_nil W1 W0.heap.size 27 2) (.tmp 23) (.tmp 26) (some ⟨b, off, none⟩) k k (ps.take k) ?_ ?_ ?_ ?_ ?_ ?_ ?_ ?_ ?_; exact rfl; exact rfl; exact rfl; exact rfl; exact (HT.out _ HBD.out); (intro e; cases e); omega; exact HBD.out.size; intro v2 W2 hown2 hb2; have hB2 := HBD.out.trans (hb2.mono (Nat.le_refl _)); have d0 := HC2.out _ hB2; have d1 := HC3.out _ hB2; rw [Nat.zero_add, List.nil_append] at hown2)
            | (at_builtin; refine app_wins (W2.alloc _) (hown2.alloc _) (.tmp 28) (.tmp 30) (some ⟨W2.heap.size, 0, none⟩) 1 1 [(p, q)] ?_ ?_ ?_ ?_ ?_ ?_ ?_ ?_ ?_; exact rfl; exact rfl; exact rfl; exact rfl; exact (wins_new W2 (p, q)); (intro e; cases e); omega; (show W0.heap.size ≤ (W2.heap.push _).size; simp; have := hB2.size; omega); intro v3 W3 hown3 hb3; have hB3 := (hB2.alloc hB2.size _).trans hb3)
            | (at_builtin; refine app_wins W3 hown3 (.tmp 32) (.tmp 35) (some ⟨b, off, none⟩) 0 0 [] ?_ ?_ ?_ ?_ ?_ ?_ ?_ ?_ ?_; exact rfl; exact rfl; exact rfl; exact rfl; exact ⟨rfl, Nat.le_refl _, Nat.zero_le _, fun h => absurd h (Nat.lt_irrefl _)⟩; (intro e; cases e); omega; exact hB3.size; intro v4 W4 hown4 hb4; have hB4 := hB3.trans hb4))
          go_ret
          refine ⟨v4, rfl, own_down ?_ hB0.size, hB0.trans (hB4.mono hB0.size)⟩
          rw [show wcells ([] : List Wn) = [] from rfl, List.append_nil, ← wcells_append] at hown4
          rw [HI.out, List.drop_eq_nil_of_le (show ps.length ≤ k by omega), show ps.length + 1 = k + 1 + 0 by omega]
          exact hown4
        · have k6 : (k : Int) < (cap : Int) := by omega
          go_wp2_with (first
            | (at_builtin; refine app_wins W1 (World.ownsRow_nil W1 W0.heap.size 27 2) (.tmp 23) (.tmp 26) (some ⟨b, off, none⟩) k cap (ps.take k) ?_ ?_ ?_ ?_ ?_ ?_ ?_ ?_ ?_; exact rfl; exact rfl; exact rfl; exact rfl; exact (HT.out _ HBD.out); (intro e; cases e); omega; exact HBD.out.size; intro v2 W2 hown2 hb2; have hB2 := HBD.out.trans (hb2.mono (Nat.le_refl _)); have d0 := HC2.out _ hB2; have d1 := HC3.out _ hB2; rw [Nat.zero_add, List.nil_append] at hown2)
            | (at_builtin; refine app_wins (W2.alloc _) (hown2.alloc _) (.tmp 28) (.tmp 30) (some ⟨W2.heap.size, 0, none⟩) 1 1 [(p, q)] ?_ ?_ ?_ ?_ ?_ ?_ ?_ ?_ ?_; exact rfl; exact rfl; exact rfl; exact rfl; exact (wins_new W2 (p, q)); (intro e; cases e); omega; (show W0.heap.size ≤ (W2.heap.push _).size; simp; have := hB2.size; omega); intro v3 W3 hown3 hb3; have hB3 := (hB2.alloc hB2.size _).trans hb3)
            | (at_builtin; refine app_wins W3 hown3 (.tmp 32) (.tmp 35) (some ⟨b, off + k * 2, none⟩) (ps.length - k) (cap - k) (ps.drop k) ?_ ?_ ?_ ?_ ?_ ?_ ?_ ?_ ?_; exact rfl; exact rfl; exact rfl; exact rfl; exact (HD.out _ hB3); (intro e; cases e); omega; exact hB3.size; intro v4 W4 hown4 hb4; have hB4 := hB3.trans hb4))
          go_ret
          refine ⟨v4, rfl, own_down ?_ hB0.size, hB0.trans (hB4.mono hB0.size)⟩
          rw [← wcells_append, ← wcells_append] at hown4
          rw [HI.out, show ps.length + 1 = k + 1 + (ps.length - k) by omega, show ps.take k ++ (p, q) :: ps.drop k = ps.take k ++ [(p, q)] ++ ps.drop k by simp]
          exact hown4

end Go.Proofs.YtnncfifpgjlpaabDoor
