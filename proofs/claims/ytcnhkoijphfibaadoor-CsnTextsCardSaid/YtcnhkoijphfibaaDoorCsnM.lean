/-
  Change sequence numbers as they lie in memory: a box, a slice that is read, a slice of the call's own that grows. Condition: at most 1000000000 numbers.
-/
import Derived.Test.YtcnhkoijphfibaaDoorCsnT
import Derived.Test.YtcnhkoijphfibaaDoorBaseLow
import Derived.Deep.RegionHeld3
import Derived.Laws.AppendOwnNone
import Derived.Deep.QuietTactic
import Derived.BigQuiet
set_option linter.unusedVariables false
set_option linter.unusedSimpArgs false
set_option linter.unnecessarySimpa false
namespace Go.Proofs.YtcnhkoijphfibaaDoor
open Go.RowKit Go.PlainAid

def cnV (c : Cn) : Value := .agg #[.int .i64 c.1, .int .i64 c.2.1, .int .i64 c.2.2]
def cnB (c : Cn) : Obj := .cells #[.int .i64 c.1, .int .i64 c.2.1, .int .i64 c.2.2] 23
/-- a slice's numbers, as they lie in memory -/
def IsCns (w : World) (b off : Nat) (ps : List Cn) : Prop :=
  b < w.heap.size ∧ ∀ j, j < ps.length → w.cell? ⟨b, off + j * 3, none⟩ = some (.int .i64 (cnA ps j).1) ∧ w.cell? ⟨b, off + j * 3 + 1, none⟩ = some (.int .i64 (cnA ps j).2.1) ∧ w.cell? ⟨b, off + j * 3 + 2, none⟩ = some (.int .i64 (cnA ps j).2.2)
theorem IsCns.below {w w' : World} {b off : Nat} {ps : List Cn} (h : IsCns w b off ps) {B : Nat} (hb : Below B w w') (hB : b < B) : IsCns w' b off ps :=
  ⟨Nat.lt_of_lt_of_le h.1 hb.size, fun j hj => by
    rw [hb.cell (p := ⟨b, off + j * 3, none⟩) hB, hb.cell (p := ⟨b, off + j * 3 + 1, none⟩) hB, hb.cell (p := ⟨b, off + j * 3 + 2, none⟩) hB]; exact h.2 j hj⟩
def CnsAt (w : World) (ao : Option Addr) (n cap : Nat) (ps : List Cn) : Prop :=
  ps.length = n ∧ n ≤ cap ∧ cap ≤ maxLen ∧ (0 < n → ∃ b off, ao = some ⟨b, off, none⟩ ∧ IsCns w b off ps) ∧ (ao = none → cap = 0)
theorem CnsAt.below {w w' : World} {ao : Option Addr} {n cap : Nat} {ps : List Cn} (h : CnsAt w ao n cap ps) (hb : Below w.heap.size w w') : CnsAt w' ao n cap ps :=
  ⟨h.1, h.2.1, h.2.2.1, fun hn => by
    obtain ⟨b, off, e, hi⟩ := h.2.2.2.1 hn
    exact ⟨b, off, e, hi.below hb hi.1⟩, h.2.2.2.2⟩
theorem cns_nil (w : World) : CnsAt w none 0 0 [] := ⟨rfl, Nat.le_refl _, by unfold maxLen; omega, fun h => absurd h (Nat.lt_irrefl _), fun _ => rfl⟩
theorem box_cells (w : World) (c : Cn) : (w.alloc (cnB c)).cell? ⟨w.heap.size, 0, none⟩ = some (.int .i64 c.1) ∧ (w.alloc (cnB c)).cell? ⟨w.heap.size, 1, none⟩ = some (.int .i64 c.2.1) ∧ (w.alloc (cnB c)).cell? ⟨w.heap.size, 2, none⟩ = some (.int .i64 c.2.2) := by
  have h : (w.alloc (cnB c)).heap[w.heap.size]? = some (cnB c) := heap_alloc_new w _
  refine ⟨?_, ?_, ?_⟩ <;> (unfold World.cell?; rw [h]; rfl)
theorem box_below (w : World) (o : Obj) : Below w.heap.size w (w.alloc o) := (Below.refl w.heap.size w).alloc (Nat.le_refl _) o
theorem box_lt (w : World) (o : Obj) : w.heap.size < (w.alloc o).heap.size := by show _ < (w.heap.push _).size; simp
theorem cns_new (w : World) (c : Cn) : CnsAt (w.alloc (cnB c)) (some ⟨w.heap.size, 0, none⟩) 1 1 [c] := by
  refine ⟨rfl, Nat.le_refl _, by unfold maxLen; omega, fun _ => ⟨w.heap.size, 0, rfl, box_lt _ _, fun j hj => ?_⟩, fun h => (by cases h)⟩
  have hj0 : j = 0 := by simp at hj; omega
  subst hj0
  exact box_cells w c

/-- the cells of numbers -/
def ccells (l : List Cn) : List Value := l.flatMap fun p => [.int .i64 p.1, .int .i64 p.2.1, .int .i64 p.2.2]
theorem ccells_app (l m : List Cn) : ccells (l ++ m) = ccells l ++ ccells m := by simp [ccells]
theorem ccells_len : ∀ l : List Cn, (ccells l).length = l.length * 3
  | [] => rfl
  | p :: l => by
    have h := ccells_len l
    have e : ccells (p :: l) = .int .i64 p.1 :: .int .i64 p.2.1 :: .int .i64 p.2.2 :: ccells l := rfl
    rw [e, List.length_cons, List.length_cons, List.length_cons, h, List.length_cons]; omega
theorem ccells_at : ∀ (l : List Cn) (j : Nat), j < l.length → (ccells l)[j * 3]? = some (.int .i64 (cnA l j).1) ∧ (ccells l)[j * 3 + 1]? = some (.int .i64 (cnA l j).2.1) ∧ (ccells l)[j * 3 + 2]? = some (.int .i64 (cnA l j).2.2)
  | [], j, h => absurd h (Nat.not_lt_zero _)
  | p :: l, 0, h => ⟨rfl, rfl, rfl⟩
  | p :: l, j + 1, h => by
    have := ccells_at l j (by simpa using h)
    have e : ccells (p :: l) = .int .i64 p.1 :: .int .i64 p.2.1 :: .int .i64 p.2.2 :: ccells l := rfl
    rw [e, show (j + 1) * 3 = j * 3 + 1 + 1 + 1 by omega, show j * 3 + 1 + 1 + 1 + 1 = (j * 3 + 1) + 1 + 1 + 1 by omega, show j * 3 + 1 + 1 + 1 + 2 = (j * 3 + 2) + 1 + 1 + 1 by omega]
    simp only [List.getElem?_cons_succ]
    exact this
theorem ccells_one (l : List Cn) : ∀ u ∈ ccells l, u.oneCell' = true := by
  intro u hu
  obtain ⟨p, _, hp⟩ := List.mem_flatMap.1 hu
  simp at hp
  rcases hp with rfl | rfl | rfl <;> rfl
theorem info_cn : (Tryd.prog.info? 23).map (fun i => (i.zero, i.size, i.bytes)) = some (some (.agg #[.int .i64 0, .int .i64 0, .int .i64 0]), 3, 24) := by kernel_rfl
theorem info_cparts {t : TypeId} {z : Value} {n b : Nat} (h : (Tryd.prog.info? t).map (fun i => (i.zero, i.size, i.bytes)) = some (some z, n, b)) : ∃ i, Tryd.prog.info? t = some i ∧ i.zero = some z ∧ i.size = n ∧ i.bytes = b := by
  cases hi : Tryd.prog.info? t with
  | none => rw [hi] at h; cases h
  | some i =>
    rw [hi] at h
    simp only [Option.map_some, Option.some.injEq, Prod.mk.injEq] at h
    exact ⟨i, rfl, h.1, h.2.1, h.2.2⟩
theorem cns_cells {w : World} {b off : Nat} {ps : List Cn} (h : IsCns w b off ps) : ∀ j u, (ccells ps)[j]? = some u → w.cell? ((⟨b, off, none⟩ : Addr).add j) = some u := by
  intro j u hj
  rw [WideShapes.add_plain]
  have hl : j < (ccells ps).length := by
    rcases Nat.lt_or_ge j (ccells ps).length with k | k
    · exact k
    · rw [List.getElem?_eq_none k] at hj; cases hj
  rw [ccells_len] at hl
  have hk := ccells_at ps (j / 3) (by omega)
  have hc := h.2 (j / 3) (by omega)
  have e3 : j % 3 = 0 ∨ j % 3 = 1 ∨ j % 3 = 2 := by omega
  rcases e3 with e | e | e
  · have e2 : j / 3 * 3 = j := by omega
    rw [e2] at hk hc
    rw [hk.1] at hj
    rw [hc.1]; exact hj
  · have e2 : j / 3 * 3 + 1 = j := by omega
    rw [e2] at hk
    rw [show off + j / 3 * 3 + 1 = off + j by omega] at hc
    rw [hk.2.1] at hj
    rw [hc.2.1]; exact hj
  · have e2 : j / 3 * 3 + 2 = j := by omega
    rw [e2] at hk
    rw [show off + j / 3 * 3 + 2 = off + j by omega] at hc
    rw [hk.2.2] at hj
    rw [hc.2.2]; exact hj
/-- 'l = append(l, cs...)' where l is the call's own -/
theorem app_cns {ops : Array Oper} {rest : List Oper} {o : Oper} {a : Act} {Q : Exit → Act → World → Prop} (wr : World) {base : Nat} {v : Value} {n : Nat} {xs : List Value} (hown : wr.ownsRow base 23 3 v n xs) (s x : Operand)
    (ao : Option Addr) (m c : Nat) (news : List Cn) (hgd : o.guard = none)
    (ho : o.op = .call { callee := .builtin .append, args := #[s, x], argTypes := #[39, 39] })
    (hs : a.eval s = v) (hx : a.eval x = .slice ao m c) (hw : CnsAt wr ao m c news) (hn : n + m ≤ 1000000000) (hbase : base ≤ wr.heap.size)
    (h : ∀ v' w', w'.ownsRow base 23 3 v' (n + m) (xs ++ ccells news) → Below base wr w' → wpList Tryd.prog ops Q rest (a.put o.dst v') w') :
    wpList Tryd.prog ops Q (o :: rest) a wr := by
  obtain ⟨i0, hi, hz0, hz1, hz2⟩ := info_cparts info_cn
  obtain ⟨w1, w2, w3, w4, w5⟩ := hw
  cases ao with
  | none =>
    have hc := w5 rfl
    subst hc
    have hm : m = 0 := by omega
    subst hm
    have hnil : news = [] := List.length_eq_zero_iff.1 w1
    subst hnil
    refine wpList_append_own_none hgd s x 39 ho base 23 i0 3 Tryd.underlying39 hi v n xs hs hown hx ?_
    have := h v wr (by rw [show ccells [] = [] from rfl, List.append_nil]; exact hown) (Below.refl _ _)
    exact this
  | some ad =>
    have hnews : ∀ j u, (ccells news)[j]? = some u → wr.cell? (ad.add j) = some u := by
      rcases Nat.eq_zero_or_pos m with e | e
      · have hnil : news = [] := List.length_eq_zero_iff.1 (by omega)
        subst hnil
        intro j u hj; simp [ccells] at hj
      · obtain ⟨b, off, e2, hi2⟩ := w4 e
        cases e2
        exact cns_cells hi2
    refine wpList_append_own _ hgd s x 39 ho base 23 i0 (.agg #[.int .i64 0, .int .i64 0, .int .i64 0]) 3 24 Tryd.underlying39 hi hz0 hz1 hz2 rfl (by decide) v n xs hs hown ad m c (ccells news) hx (by rw [ccells_len, w1]) hnews
      (ccells_one _) (by unfold maxLen; omega) (by omega) hbase ?_
    intro v' w' h1 h2 _
    exact h v' w' h1 ((Below.refl base wr).grown h2 hbase (fun k hk => (hown.lt k hk).1))
theorem cns_of_owns {w : World} {base : Nat} {v : Value} {n : Nat} {ps : List Cn} (h : w.ownsRow base 23 3 v n (ccells ps)) : ∃ ao cap, v = .slice ao n cap ∧ CnsAt w ao n cap ps := by
  have h0 := h
  obtain ⟨hl, ⟨rfl, hz⟩ | ⟨g, cap, cur, rfl, h2, h3, h4, h5, h6⟩⟩ := h
  · rw [ccells_len] at hl
    have hn : ps.length = n := by omega
    subst hz
    exact ⟨none, 0, rfl, hn, Nat.le_refl _, by unfold maxLen; omega, fun h => absurd h (Nat.lt_irrefl _), fun _ => rfl⟩
  · rw [ccells_len] at hl
    have hlen : ps.length = n := by omega
    refine ⟨some ⟨g, 0, none⟩, cap, rfl, hlen, h4, h5, fun _ => ⟨g, 0, rfl, (Array.getElem?_eq_some_iff.1 h3).1, fun j hj => ?_⟩, fun e => (by cases e)⟩
    have hk := ccells_at ps j hj
    have k1 := h0.cells rfl _ _ hk.1
    have k2 := h0.cells rfl _ _ hk.2.1
    have k3 := h0.cells rfl _ _ hk.2.2
    rw [WideShapes.add_plain] at k1 k2 k3
    exact ⟨k1, by rw [show 0 + j * 3 + 1 = 0 + (j * 3 + 1) by omega]; exact k2, by rw [show 0 + j * 3 + 2 = 0 + (j * 3 + 2) by omega]; exact k3⟩

end Go.Proofs.YtcnhkoijphfibaaDoor
