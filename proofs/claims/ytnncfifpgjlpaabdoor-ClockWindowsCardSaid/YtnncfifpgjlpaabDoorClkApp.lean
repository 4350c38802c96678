/-
  Appending windows to a slice that the call owns. Condition: at most 1000000000 windows.
-/
import Derived.Test.YtnncfifpgjlpaabDoorClkSame
import Derived.Laws.AppendOwnNone
set_option linter.unusedVariables false
set_option linter.unusedSimpArgs false
set_option linter.unnecessarySimpa false
namespace Go.Proofs.YtnncfifpgjlpaabDoor
open Go.RowKit Go.PlainAid

/-- the cells of windows -/
def wcells (l : List Wn) : List Value := l.flatMap fun p => [.int .i64 p.1, .int .i64 p.2]
theorem wcells_append (l m : List Wn) : wcells (l ++ m) = wcells l ++ wcells m := by simp [wcells]
theorem wcells_len : ∀ l : List Wn, (wcells l).length = l.length * 2
  | [] => rfl
  | p :: l => by
    have h := wcells_len l
    have e : wcells (p :: l) = .int .i64 p.1 :: .int .i64 p.2 :: wcells l := rfl
    rw [e, List.length_cons, List.length_cons, h, List.length_cons]; omega
theorem wcells_at : ∀ (l : List Wn) (j : Nat), j < l.length → (wcells l)[j * 2]? = some (.int .i64 (wnAt l j).1) ∧ (wcells l)[j * 2 + 1]? = some (.int .i64 (wnAt l j).2)
  | [], j, h => absurd h (Nat.not_lt_zero _)
  | p :: l, 0, h => ⟨rfl, rfl⟩
  | p :: l, j + 1, h => by
    have := wcells_at l j (by simpa using h)
    have e : wcells (p :: l) = .int .i64 p.1 :: .int .i64 p.2 :: wcells l := rfl
    rw [e, show (j + 1) * 2 = j * 2 + 1 + 1 by omega, show j * 2 + 1 + 1 + 1 = (j * 2 + 1) + 1 + 1 by omega, List.getElem?_cons_succ, List.getElem?_cons_succ, List.getElem?_cons_succ, List.getElem?_cons_succ]
    exact this
theorem wcells_one (l : List Wn) : ∀ u ∈ wcells l, u.oneCell' = true := by
  intro u hu
  obtain ⟨p, _, hp⟩ := List.mem_flatMap.1 hu
  simp at hp
  rcases hp with rfl | rfl <;> rfl
theorem info_win : (Tryd.prog.info? 27).map (fun i => (i.zero, i.size, i.bytes)) = some (some (.agg #[.int .i64 0, .int .i64 0]), 2, 16) := by kernel_rfl
theorem info_wparts {t : TypeId} {z : Value} {n b : Nat} (h : (Tryd.prog.info? t).map (fun i => (i.zero, i.size, i.bytes)) = some (some z, n, b)) : ∃ i, Tryd.prog.info? t = some i ∧ i.zero = some z ∧ i.size = n ∧ i.bytes = b := by
  cases hi : Tryd.prog.info? t with
  | none => rw [hi] at h; cases h
  | some i =>
    rw [hi] at h
    simp only [Option.map_some, Option.some.injEq, Prod.mk.injEq] at h
    exact ⟨i, rfl, h.1, h.2.1, h.2.2⟩
theorem wins_cells {w : World} {b off : Nat} {ps : List Wn} (h : IsWins w b off ps) : ∀ j u, (wcells ps)[j]? = some u → w.cell? ((⟨b, off, none⟩ : Addr).add j) = some u := by
  intro j u hj
  rw [WideShapes.add_plain]
  have hl : j < (wcells ps).length := by
    rcases Nat.lt_or_ge j (wcells ps).length with k | k
    · exact k
    · rw [List.getElem?_eq_none k] at hj; cases hj
  rw [wcells_len] at hl
  have hk := wcells_at ps (j / 2) (by omega)
  have hc := h.2 (j / 2) (by omega)
  rcases Nat.mod_two_eq_zero_or_one j with e | e
  · have e2 : j / 2 * 2 = j := by omega
    rw [e2] at hk hc
    rw [hk.1] at hj
    rw [hc.1]; exact hj
  · have e2 : j / 2 * 2 + 1 = j := by omega
    rw [e2] at hk
    rw [show off + j / 2 * 2 + 1 = off + j by omega] at hc
    rw [hk.2] at hj
    rw [hc.2]; exact hj
/-- 'l = append(l, ws...)' where l is the call's own -/
theorem app_wins {ops : Array Oper} {rest : List Oper} {o : Oper} {a : Act} {Q : Exit → Act → World → Prop} (wr : World) {base : Nat} {v : Value} {n : Nat} {xs : List Value} (hown : wr.ownsRow base 27 2 v n xs) (s x : Operand)
    (ao : Option Addr) (m c : Nat) (news : List Wn) (hgd : o.guard = none)
    (ho : o.op = .call { callee := .builtin .append, args := #[s, x], argTypes := #[32, 32] })
    (hs : a.eval s = v) (hx : a.eval x = .slice ao m c) (hw : WinsAt wr ao m c news) (h0 : ao = none → c = 0) (hn : n + m ≤ 1000000000) (hbase : base ≤ wr.heap.size)
    (h : ∀ v' w', w'.ownsRow base 27 2 v' (n + m) (xs ++ wcells news) → Below base wr w' → wpList Tryd.prog ops Q rest (a.put o.dst v') w') :
    wpList Tryd.prog ops Q (o :: rest) a wr := by
  obtain ⟨i0, hi, hz0, hz1, hz2⟩ := info_wparts info_win
  obtain ⟨w1, w2, w3, w4⟩ := hw
  cases ao with
  | none =>
    have hc := h0 rfl
    subst hc
    have hm : m = 0 := by omega
    subst hm
    have hnil : news = [] := List.length_eq_zero_iff.1 w1
    subst hnil
    refine wpList_append_own_none hgd s x 32 ho base 27 i0 2 Tryd.underlying32 hi v n xs hs hown hx ?_
    have := h v wr (by rw [show wcells [] = [] from rfl, List.append_nil]; exact hown) (Below.refl _ _)
    exact this
  | some ad =>
    have hnews : ∀ j u, (wcells news)[j]? = some u → wr.cell? (ad.add j) = some u := by
      rcases Nat.eq_zero_or_pos m with e | e
      · have hnil : news = [] := List.length_eq_zero_iff.1 (by omega)
        subst hnil
        intro j u hj; simp [wcells] at hj
      · obtain ⟨b, off, e2, hi2⟩ := w4 e
        cases e2
        exact wins_cells hi2
    refine wpList_append_own _ hgd s x 32 ho base 27 i0 (.agg #[.int .i64 0, .int .i64 0]) 2 16 Tryd.underlying32 hi hz0 hz1 hz2 rfl (by decide) v n xs hs hown ad m c (wcells news) hx (by rw [wcells_len, w1]) hnews
      (wcells_one _) (by unfold maxLen; omega) (by omega) hbase ?_
    intro v' w' h1 h2 _
    exact h v' w' h1 ((Below.refl base wr).grown h2 hbase (fun k hk => (hown.lt k hk).1))
theorem wins_of_owns {w : World} {base : Nat} {v : Value} {n : Nat} {ps : List Wn} (h : w.ownsRow base 27 2 v n (wcells ps)) : ∃ ao cap, v = .slice ao n cap ∧ WinsAt w ao n cap ps ∧ (ao = none → cap = 0) ∧ ps.length = n := by
  have h0 := h
  obtain ⟨hl, ⟨rfl, hz⟩ | ⟨g, cap, cur, rfl, h2, h3, h4, h5, h6⟩⟩ := h
  · rw [wcells_len] at hl
    have hn : ps.length = n := by omega
    subst hz
    exact ⟨none, 0, rfl, ⟨hn, Nat.le_refl _, by unfold maxLen; omega, fun h => absurd h (Nat.lt_irrefl _)⟩, fun _ => rfl, hn⟩
  · rw [wcells_len] at hl
    have hlen : ps.length = n := by omega
    refine ⟨some ⟨g, 0, none⟩, cap, rfl, ⟨hlen, h4, h5, fun _ => ⟨g, 0, rfl, (Array.getElem?_eq_some_iff.1 h3).1, fun j hj => ?_⟩⟩, fun e => (by cases e), hlen⟩
    have hk := wcells_at ps j hj
    have k1 := h0.cells rfl _ _ hk.1
    have k2 := h0.cells rfl _ _ hk.2
    rw [WideShapes.add_plain] at k1 k2
    exact ⟨k1, by rw [show 0 + j * 2 + 1 = 0 + (j * 2 + 1) by omega]; exact k2⟩

end Go.Proofs.YtnncfifpgjlpaabDoor
