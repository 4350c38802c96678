/-
  Texts of the schema layer and of those beneath it, joined: ClkC, ClkSame, ClkApp, ClkIns, ClkUniA, ClkIns0, ShelfF, ClkAsc, ClkDel, ShelfK, ClkSort. Conditions stand at each contract.
-/
import Derived.Deep.RegionHeld3
import Derived.Laws.AppendOwnNone
import Derived.BigQuiet
import Derived.Laws.OwnMore
import Derived.Lib.SliceRun
import Derived.Shelf.SlSortCmp.WholeK
import Derived.Shelf.SlSortCmp.NoneTotal
import Derived.Shelf.SlicesE.Clone
import Derived.Shelf.SlicesQ.IndexFunc
import Derived.Lib.SlBy
import Derived.Lib.LazyBuf
import Derived.Shelf.Small.Wraps
import Derived.Test.YtgepcbggkfjlgaaGreatDoorProg
import Derived.Test.YtgepcbggkfjlgaaGreatDoorM04

section
/-
  Contracts of the specification's In and Check. Condition: ints are ints.
-/
set_option maxRecDepth 100000
set_option linter.unusedVariables false
set_option linter.unusedSimpArgs false
set_option linter.unnecessarySimpa false
namespace Go.Proofs.YtgepcbggkfjlgaaGreatDoor
open Go.RowKit Go.PlainAid

theorem limit_q (t x : Int) (w : World) (h : limI t = x) :
    Calls Tryz.prog 65 #[.int .i64 t] w fun e w' => e = .returned (.int .i64 x) ∧ w' = w := (limit_k t x w h).mono fun e w' h => ⟨h.1, h.2.symm⟩
theorem below_drawn (w : World) (o : Obj) (q : Nat) : Below w.heap.size w ((w.alloc o).drewN q) := ⟨rfl, rfl, rfl, by show w.heap.size ≤ (w.heap.push o).size; simp, fun k hk => Below.heap_alloc w o k hk⟩

theorem rin_s (a b t : Int) (w : World) :
    Calls Tryz.prog 40 #[.agg #[.int .i64 a, .int .i64 b], .int .i64 t] w fun e w' => e = .returned (.bool (inW a b t)) ∧ Below w.heap.size w w' := by
  obtain ⟨x, hx⟩ : ∃ x, limI t = x := ⟨_, rfl⟩
  have HE := Lib.hid (show inW a b t = (decide (a ≤ x) && decide (x < b)) by unfold inW; rw [hx])
  by_cases h1 : a ≤ x
  · by_cases h2 : x < b
    · have d1 : decide (a ≤ x) = true := decide_eq_true h1
      have d2 : decide (x < b) = true := decide_eq_true h2
      have HF := Lib.hid (show inW a b t = true by rw [HE.out, d1, d2]; rfl)
      have HX := Lib.hid hx; clear hx h1 h2
      go_enter Tryz.func40, Tryz.ntmps40
      go_wp2_with fail
      go_quiet ((go_at_call 65; refine Calls.quiet_of_same (limit_q _ x _ HX.out)))
      go_wp2_with fail
      go_ret
      exact ⟨by rw [HF.out]; rfl, below_drawn _ _ _⟩
    · have d1 : decide (a ≤ x) = true := decide_eq_true h1
      have d2 : decide (x < b) = false := decide_eq_false h2
      have HF := Lib.hid (show inW a b t = false by rw [HE.out, d2, Bool.and_false])
      have HX := Lib.hid hx; clear hx h1 h2
      go_enter Tryz.func40, Tryz.ntmps40
      go_wp2_with fail
      go_quiet ((go_at_call 65; refine Calls.quiet_of_same (limit_q _ x _ HX.out)))
      go_wp2_with fail
      go_ret
      exact ⟨by rw [HF.out]; rfl, below_drawn _ _ _⟩
  · have d1 : decide (a ≤ x) = false := decide_eq_false h1
    have HF := Lib.hid (show inW a b t = false by rw [HE.out, d1, Bool.false_and])
    have HX := Lib.hid hx; clear hx h1
    go_enter Tryz.func40, Tryz.ntmps40
    go_wp2_with fail
    go_quiet ((go_at_call 65; refine Calls.quiet_of_same (limit_q _ x _ HX.out)))
    go_wp2_with fail
    go_ret
    exact ⟨by rw [HF.out]; rfl, below_drawn _ _ _⟩

theorem rcheck_s (a b t s : Int) (w : World) :
    Calls Tryz.prog 43 #[.agg #[.int .i64 a, .int .i64 b], .int .i64 t, .int .i64 s] w fun e w' => e = .returned (.int .i64 (checkI a b t s)) ∧ Below w.heap.size w w' := by
  obtain ⟨x, hx⟩ : ∃ x, limI t = x := ⟨_, rfl⟩
  obtain ⟨z, hz⟩ : ∃ x, min s 600 = x := ⟨_, rfl⟩
  obtain ⟨y, hy⟩ : ∃ x, max 0 z = x := ⟨_, rfl⟩
  have b1 := limI_bd t
  rw [hx] at b1
  obtain ⟨b1, b1'⟩ := b1
  have hs : skewI s = y := by rw [← hy, ← hz]; unfold skewI; omega
  have b2 : 0 ≤ y ∧ y ≤ 600 := by rw [← hs]; unfold skewI; omega
  obtain ⟨b2, b2'⟩ := b2
  have HE := Lib.hid (show checkI a b t s = if b < a then 2 else if x + y < a then 14 else if b ≤ x - y then 13 else 0 by unfold checkI; rw [hx, hs])
  have HX := Lib.hid hx; clear hx hs
  by_cases h1 : b < a
  · have HF := Lib.hid (show checkI a b t s = 2 by rw [HE.out, if_pos h1])
    go_enter Tryz.func43, Tryz.ntmps43
    go_wp2_with fail
    go_ret
    exact ⟨by rw [HF.out]; rfl, (Below.refl _ _).alloc (Nat.le_refl _) _⟩
  · have w1 : IntKind.i64.wrap (x + y) = x + y := IntWalk.i64_in _ (by omega)
    have w2 : IntKind.i64.wrap (x - y) = x - y := IntWalk.i64_in _ (by omega)
    by_cases h2 : x + y < a
    · have HF := Lib.hid (show checkI a b t s = 14 by rw [HE.out, if_neg h1, if_pos h2])
      have d2 : decide (x + y < a) = true := decide_eq_true h2
      go_enter Tryz.func43, Tryz.ntmps43
      go_wp2_with fail
      go_quiet ((go_at_call 65; refine Calls.quiet_of_same (limit_q _ x _ HX.out)))
      go_wp2_with fail
      go_ret
      exact ⟨by rw [HF.out]; rfl, below_drawn _ _ _⟩
    · have d2 : decide (x + y < a) = false := decide_eq_false h2
      by_cases h3 : b ≤ x - y
      · have HF := Lib.hid (show checkI a b t s = 13 by rw [HE.out, if_neg h1, if_neg h2, if_pos h3])
        have d3 : decide (b ≤ x - y) = true := decide_eq_true h3
        go_enter Tryz.func43, Tryz.ntmps43
        go_wp2_with fail
        go_quiet ((go_at_call 65; refine Calls.quiet_of_same (limit_q _ x _ HX.out)))
        go_wp2_with fail
        have c0 : ∀ q, ((w.alloc (.cells #[.int .i64 a, .int .i64 b] 29)).drewN q).cell? ⟨w.heap.size, 1, none⟩ = some (.int .i64 b) := fun q => by go_simp
        generalize hW : World.drewN (w.alloc (.cells #[.int .i64 a, .int .i64 b] 29)) _ = W1
        have HBW := Lib.hid (show Below w.heap.size w W1 by rw [← hW]; exact below_drawn _ _ _)
        have c1 : W1.cell? ⟨w.heap.size, 1, none⟩ = some (.int .i64 b) := by rw [← hW]; exact c0 _
        clear hW c0
        go_quiet ((go_at_call 65; refine Calls.quiet_of_same (limit_q _ x _ HX.out)))
        go_wp2_with fail
        go_ret
        exact ⟨by rw [HF.out]; rfl, HBW.out.trans ⟨rfl, rfl, rfl, Nat.le_refl _, fun _ _ => rfl⟩⟩
      · have HF := Lib.hid (show checkI a b t s = 0 by rw [HE.out, if_neg h1, if_neg h2, if_neg h3])
        have d3 : decide (b ≤ x - y) = false := decide_eq_false h3
        go_enter Tryz.func43, Tryz.ntmps43
        go_wp2_with fail
        go_quiet ((go_at_call 65; refine Calls.quiet_of_same (limit_q _ x _ HX.out)))
        go_wp2_with fail
        have c0 : ∀ q, ((w.alloc (.cells #[.int .i64 a, .int .i64 b] 29)).drewN q).cell? ⟨w.heap.size, 1, none⟩ = some (.int .i64 b) := fun q => by go_simp
        generalize hW : World.drewN (w.alloc (.cells #[.int .i64 a, .int .i64 b] 29)) _ = W1
        have HBW := Lib.hid (show Below w.heap.size w W1 by rw [← hW]; exact below_drawn _ _ _)
        have c1 : W1.cell? ⟨w.heap.size, 1, none⟩ = some (.int .i64 b) := by rw [← hW]; exact c0 _
        clear hW c0
        go_quiet ((go_at_call 65; refine Calls.quiet_of_same (limit_q _ x _ HX.out)))
        go_wp2_with fail
        go_ret
        exact ⟨by rw [HF.out]; rfl, HBW.out.trans ⟨rfl, rfl, rfl, Nat.le_refl _, fun _ _ => rfl⟩⟩

end Go.Proofs.YtgepcbggkfjlgaaGreatDoor
end

section
/-
  A slice of windows as it lies in memory, and the contract of the specification's Same. No condition.
-/
set_option maxRecDepth 100000
set_option linter.unusedVariables false
set_option linter.unusedSimpArgs false
set_option linter.unnecessarySimpa false
namespace Go.Proofs.YtgepcbggkfjlgaaGreatDoor
open Go.RowKit Go.PlainAid

def wnAt (ps : List Wn) (j : Nat) : Wn := ps.getD j (0, 0)
/-- a slice's windows, as they lie in memory -/
def IsWins (w : World) (b off : Nat) (ps : List Wn) : Prop :=
  b < w.heap.size ∧ ∀ j, j < ps.length → w.cell? ⟨b, off + j * 2, none⟩ = some (.int .i64 (wnAt ps j).1) ∧ w.cell? ⟨b, off + j * 2 + 1, none⟩ = some (.int .i64 (wnAt ps j).2)
theorem IsWins.below {w w' : World} {b off : Nat} {ps : List Wn} (h : IsWins w b off ps) {B : Nat} (hb : Below B w w') (hB : b < B) : IsWins w' b off ps :=
  ⟨Nat.lt_of_lt_of_le h.1 hb.size, fun j hj => by
    rw [hb.cell (p := ⟨b, off + j * 2, none⟩) hB, hb.cell (p := ⟨b, off + j * 2 + 1, none⟩) hB]; exact h.2 j hj⟩
def WinsAt (w : World) (ao : Option Addr) (n cap : Nat) (ps : List Wn) : Prop :=
  ps.length = n ∧ n ≤ cap ∧ cap ≤ maxLen ∧ (0 < n → ∃ b off, ao = some ⟨b, off, none⟩ ∧ IsWins w b off ps)
theorem WinsAt.below {w w' : World} {ao : Option Addr} {n cap : Nat} {ps : List Wn} (h : WinsAt w ao n cap ps) (hb : Below w.heap.size w w') : WinsAt w' ao n cap ps :=
  ⟨h.1, h.2.1, h.2.2.1, fun hn => by
    obtain ⟨b, off, e, hi⟩ := h.2.2.2 hn
    exact ⟨b, off, e, hi.below hb hi.1⟩⟩

theorem wins_ext {ps qs : List Wn} (hl : ps.length = qs.length) (h : ∀ j, j < ps.length → wnAt ps j = wnAt qs j) : ps = qs := by
  apply List.ext_getElem hl
  intro j h1 h2
  have := h j h1
  unfold wnAt at this
  rw [List.getD_eq_getElem?_getD, List.getD_eq_getElem?_getD, List.getElem?_eq_getElem h1, List.getElem?_eq_getElem h2] at this
  simpa using this

end Go.Proofs.YtgepcbggkfjlgaaGreatDoor
end

section
/-
  Appending windows to a slice that the call owns. Condition: at most 1000000000 windows.
-/
set_option maxRecDepth 100000
set_option linter.unusedVariables false
set_option linter.unusedSimpArgs false
set_option linter.unnecessarySimpa false
namespace Go.Proofs.YtgepcbggkfjlgaaGreatDoor
open Go.RowKit Go.PlainAid

/-- the cells of windows -/
def wcells (l : List Wn) : List Value := l.flatMap fun p => [.int .i64 p.1, .int .i64 p.2]
theorem wcells_append (l m : List Wn) : wcells (l ++ m) = wcells l ++ wcells m := by simp [wcells]
theorem wcells_len : ∀ l : List Wn, (wcells l).length = l.length * 2
  | [] => rfl
  | p :: l => by
    have h := wcells_len l
    have e : wcells (p :: l) = .int .i64 p.1 :: .int .i64 p.2 :: wcells l := rfl
    rw [e, List.length_cons, List.length_cons, h, List.length_cons]; omega
theorem wcells_at : ∀ (l : List Wn) (j : Nat), j < l.length → (wcells l)[j * 2]? = some (.int .i64 (wnAt l j).1) ∧ (wcells l)[j * 2 + 1]? = some (.int .i64 (wnAt l j).2)
  | [], j, h => absurd h (Nat.not_lt_zero _)
  | p :: l, 0, h => ⟨rfl, rfl⟩
  | p :: l, j + 1, h => by
    have := wcells_at l j (by simpa using h)
    have e : wcells (p :: l) = .int .i64 p.1 :: .int .i64 p.2 :: wcells l := rfl
    rw [e, show (j + 1) * 2 = j * 2 + 1 + 1 by omega, show j * 2 + 1 + 1 + 1 = (j * 2 + 1) + 1 + 1 by omega, List.getElem?_cons_succ, List.getElem?_cons_succ, List.getElem?_cons_succ, List.getElem?_cons_succ]
    exact this
theorem wcells_one (l : List Wn) : ∀ u ∈ wcells l, u.oneCell' = true := by
  intro u hu
  obtain ⟨p, _, hp⟩ := List.mem_flatMap.1 hu
  simp at hp
  rcases hp with rfl | rfl <;> rfl
theorem info_win : (Tryz.prog.info? 29).map (fun i => (i.zero, i.size, i.bytes)) = some (some (.agg #[.int .i64 0, .int .i64 0]), 2, 16) := by kernel_rfl
theorem info_wparts {t : TypeId} {z : Value} {n b : Nat} (h : (Tryz.prog.info? t).map (fun i => (i.zero, i.size, i.bytes)) = some (some z, n, b)) : ∃ i, Tryz.prog.info? t = some i ∧ i.zero = some z ∧ i.size = n ∧ i.bytes = b := by
  cases hi : Tryz.prog.info? t with
  | none => rw [hi] at h; cases h
  | some i =>
    rw [hi] at h
    simp only [Option.map_some, Option.some.injEq, Prod.mk.injEq] at h
    exact ⟨i, rfl, h.1, h.2.1, h.2.2⟩
theorem wins_cells {w : World} {b off : Nat} {ps : List Wn} (h : IsWins w b off ps) : ∀ j u, (wcells ps)[j]? = some u → w.cell? ((⟨b, off, none⟩ : Addr).add j) = some u := by
  intro j u hj
  rw [WideShapes.add_plain]
  have hl : j < (wcells ps).length := by
    rcases Nat.lt_or_ge j (wcells ps).length with k | k
    · exact k
    · rw [List.getElem?_eq_none k] at hj; cases hj
  rw [wcells_len] at hl
  have hk := wcells_at ps (j / 2) (by omega)
  have hc := h.2 (j / 2) (by omega)
  rcases Nat.mod_two_eq_zero_or_one j with e | e
  · have e2 : j / 2 * 2 = j := by omega
    rw [e2] at hk hc
    rw [hk.1] at hj
    rw [hc.1]; exact hj
  · have e2 : j / 2 * 2 + 1 = j := by omega
    rw [e2] at hk
    rw [show off + j / 2 * 2 + 1 = off + j by omega] at hc
    rw [hk.2] at hj
    rw [hc.2]; exact hj
/-- 'l = append(l, ws...)' where l is the call's own -/
theorem app_wins {ops : Array Oper} {rest : List Oper} {o : Oper} {a : Act} {Q : Exit → Act → World → Prop} (wr : World) {base : Nat} {v : Value} {n : Nat} {xs : List Value} (hown : wr.ownsRow base 29 2 v n xs) (s x : Operand)
    (ao : Option Addr) (m c : Nat) (news : List Wn) (hgd : o.guard = none)
    (ho : o.op = .call { callee := .builtin .append, args := #[s, x], argTypes := #[52, 52] })
    (hs : a.eval s = v) (hx : a.eval x = .slice ao m c) (hw : WinsAt wr ao m c news) (h0 : ao = none → c = 0) (hn : n + m ≤ 1000000000) (hbase : base ≤ wr.heap.size)
    (h : ∀ v' w', w'.ownsRow base 29 2 v' (n + m) (xs ++ wcells news) → Below base wr w' → wpList Tryz.prog ops Q rest (a.put o.dst v') w') :
    wpList Tryz.prog ops Q (o :: rest) a wr := by
  obtain ⟨i0, hi, hz0, hz1, hz2⟩ := info_wparts info_win
  obtain ⟨w1, w2, w3, w4⟩ := hw
  cases ao with
  | none =>
    have hc := h0 rfl
    subst hc
    have hm : m = 0 := by omega
    subst hm
    have hnil : news = [] := List.length_eq_zero_iff.1 w1
    subst hnil
    refine wpList_append_own_none hgd s x 52 ho base 29 i0 2 Tryz.underlying52 hi v n xs hs hown hx ?_
    have := h v wr (by rw [show wcells [] = [] from rfl, List.append_nil]; exact hown) (Below.refl _ _)
    exact this
  | some ad =>
    have hnews : ∀ j u, (wcells news)[j]? = some u → wr.cell? (ad.add j) = some u := by
      rcases Nat.eq_zero_or_pos m with e | e
      · have hnil : news = [] := List.length_eq_zero_iff.1 (by omega)
        subst hnil
        intro j u hj; simp [wcells] at hj
      · obtain ⟨b, off, e2, hi2⟩ := w4 e
        cases e2
        exact wins_cells hi2
    refine wpList_append_own _ hgd s x 52 ho base 29 i0 (.agg #[.int .i64 0, .int .i64 0]) 2 16 Tryz.underlying52 hi hz0 hz1 hz2 rfl (by decide) v n xs hs hown ad m c (wcells news) hx (by rw [wcells_len, w1]) hnews
      (wcells_one _) (by unfold maxLen; omega) (by omega) hbase ?_
    intro v' w' h1 h2 _
    exact h v' w' h1 ((Below.refl base wr).grown h2 hbase (fun k hk => (hown.lt k hk).1))
theorem wins_of_owns {w : World} {base : Nat} {v : Value} {n : Nat} {ps : List Wn} (h : w.ownsRow base 29 2 v n (wcells ps)) : ∃ ao cap, v = .slice ao n cap ∧ WinsAt w ao n cap ps ∧ (ao = none → cap = 0) ∧ ps.length = n := by
  have h0 := h
  obtain ⟨hl, ⟨rfl, hz⟩ | ⟨g, cap, cur, rfl, h2, h3, h4, h5, h6⟩⟩ := h
  · rw [wcells_len] at hl
    have hn : ps.length = n := by omega
    subst hz
    exact ⟨none, 0, rfl, ⟨hn, Nat.le_refl _, by unfold maxLen; omega, fun h => absurd h (Nat.lt_irrefl _)⟩, fun _ => rfl, hn⟩
  · rw [wcells_len] at hl
    have hlen : ps.length = n := by omega
    refine ⟨some ⟨g, 0, none⟩, cap, rfl, ⟨hlen, h4, h5, fun _ => ⟨g, 0, rfl, (Array.getElem?_eq_some_iff.1 h3).1, fun j hj => ?_⟩⟩, fun e => (by cases e), hlen⟩
    have hk := wcells_at ps j hj
    have k1 := h0.cells rfl _ _ hk.1
    have k2 := h0.cells rfl _ _ hk.2
    rw [WideShapes.add_plain] at k1 k2
    exact ⟨k1, by rw [show 0 + j * 2 + 1 = 0 + (j * 2 + 1) by omega]; exact k2⟩

end Go.Proofs.YtgepcbggkfjlgaaGreatDoor
end

section
/-
  The contract of the specification's insert. Condition: at most 1000 windows.
-/
set_option maxRecDepth 100000
set_option linter.unusedVariables false
set_option linter.unusedSimpArgs false
set_option linter.unnecessarySimpa false
namespace Go.Proofs.YtgepcbggkfjlgaaGreatDoor
open Go.RowKit Go.PlainAid

theorem ins_split (w : Wn) : ∀ l : List Wn, ∃ k, k ≤ l.length ∧ (∀ j, j < k → (wnAt l j).1 ≤ w.1) ∧ (k < l.length → ¬ (wnAt l k).1 ≤ w.1) ∧ insW l w = l.take k ++ w :: l.drop k
  | [] => ⟨0, Nat.le_refl _, fun j hj => absurd hj (Nat.not_lt_zero _), fun h => absurd h (Nat.lt_irrefl _), rfl⟩
  | p :: l => by
    by_cases hp : p.1 ≤ w.1
    · obtain ⟨k, h1, h2, h3, h4⟩ := ins_split w l
      refine ⟨k + 1, by simpa using h1, fun j hj => ?_, fun h => ?_, ?_⟩
      · rcases j with _ | j
        · exact hp
        · exact h2 j (by omega)
      · exact h3 (by simpa using h)
      · unfold insW at h4 ⊢
        rw [List.takeWhile_cons, if_pos (by simpa using hp), List.dropWhile_cons, if_pos (by simpa using hp), List.take_succ_cons, List.drop_succ_cons, List.cons_append, List.cons_append, h4]
    · refine ⟨0, Nat.zero_le _, fun j hj => absurd hj (Nat.not_lt_zero _), fun _ => hp, ?_⟩
      unfold insW
      rw [List.takeWhile_cons, if_neg (by simpa using hp), List.dropWhile_cons, if_neg (by simpa using hp)]
      rfl
theorem IsWins.take {w : World} {b off : Nat} {ps : List Wn} (h : IsWins w b off ps) (k : Nat) : IsWins w b off (ps.take k) :=
  ⟨h.1, fun j hj => by
    rw [List.length_take] at hj
    have := h.2 j (by omega)
    unfold wnAt at this ⊢
    rw [List.getD_eq_getElem?_getD, List.getElem?_take, if_pos (by omega), ← List.getD_eq_getElem?_getD]
    exact this⟩
theorem IsWins.drop {w : World} {b off : Nat} {ps : List Wn} (h : IsWins w b off ps) (k : Nat) : IsWins w b (off + k * 2) (ps.drop k) :=
  ⟨h.1, fun j hj => by
    rw [List.length_drop] at hj
    have := h.2 (k + j) (by omega)
    unfold wnAt at this ⊢
    rw [List.getD_eq_getElem?_getD, List.getElem?_drop, ← List.getD_eq_getElem?_getD, show off + k * 2 + j * 2 = off + (k + j) * 2 by omega]
    exact this⟩
theorem wins_new (w : World) (p : Wn) : WinsAt (w.alloc (.cells #[.int .i64 p.1, .int .i64 p.2] 29)) (some ⟨w.heap.size, 0, none⟩) 1 1 [p] := by
  refine ⟨rfl, Nat.le_refl _, by unfold maxLen; omega, fun _ => ⟨w.heap.size, 0, rfl, by show _ < (w.heap.push _).size; simp, fun j hj => ?_⟩⟩
  have h : (w.alloc (.cells #[.int .i64 p.1, .int .i64 p.2] 29)).heap[w.heap.size]? = some (.cells #[.int .i64 p.1, .int .i64 p.2] 29 (0, 0)) := heap_alloc_new w _
  have hj0 : j = 0 := by simp at hj; omega
  subst hj0
  exact ⟨by unfold World.cell?; rw [h]; rfl, by unfold World.cell?; rw [h]; rfl⟩

theorem own_down {w : World} {B B' n : Nat} {e : TypeId} {v : Value} {xs : List Value} (h : w.ownsRow B e 2 v n xs) (hb : B' ≤ B) : w.ownsRow B' e 2 v n xs := by
  obtain ⟨hl, ⟨rfl, hz⟩ | ⟨g, cap, cur, rfl, h2, h3⟩⟩ := h
  · exact ⟨hl, .inl ⟨rfl, hz⟩⟩
  · exact ⟨hl, .inr ⟨g, cap, cur, rfl, Nat.le_trans hb h2, h3⟩⟩

end Go.Proofs.YtgepcbggkfjlgaaGreatDoor
end

section
/-
  Plain facts for uniting windows in memory: a row of windows that the call owns, changed in one place, cut shorter, cleared behind. No condition.
-/
set_option maxRecDepth 100000
set_option linter.unusedVariables false
set_option linter.unusedSimpArgs false
set_option linter.unnecessarySimpa false
namespace Go.Proofs.YtgepcbggkfjlgaaGreatDoor
open Go.RowKit Go.PlainAid

theorem wcells_set : ∀ (u : List Wn) (k : Nat) (p : Wn), k < u.length → wcells (u.set k p) = ((wcells u).set (k * 2) (.int .i64 p.1)).set (k * 2 + 1) (.int .i64 p.2)
  | [], k, p, h => absurd h (Nat.not_lt_zero _)
  | x :: u, 0, p, h => rfl
  | x :: u, k + 1, p, h => by
    have ih := wcells_set u k p (by simpa using h)
    have e : ∀ (y : Wn) (l : List Wn), wcells (y :: l) = .int .i64 y.1 :: .int .i64 y.2 :: wcells l := fun _ _ => rfl
    rw [List.set_cons_succ, e, ih, e, show (k + 1) * 2 = k * 2 + 1 + 1 by omega]
    rfl
theorem wcells_set2 (u : List Wn) (k : Nat) (v : Int) (h : k < u.length) : wcells (u.set k ((wnAt u k).1, v)) = (wcells u).set (k * 2 + 1) (.int .i64 v) := by
  rw [wcells_set u k _ h]
  congr 1
  apply List.ext_getElem?
  intro j
  by_cases e : j = k * 2
  · subst e
    rw [List.getElem?_set, if_pos rfl, if_pos (by rw [wcells_len]; omega), (wcells_at u k h).1]
  · rw [List.getElem?_set, if_neg (fun x => e x.symm)]

/-- the Until of a window in a row of the call's own is stored anew -/
theorem own_until {w : World} {base g cap n : Nat} {u : List Wn} (h : w.ownsRow base 29 2 (.slice (some ⟨g, 0, none⟩) n cap) n (wcells u)) (k : Nat) (hk : k < u.length) (v : Int) :
    (w.setCell ⟨g, k * 2 + 1, none⟩ (.int .i64 v)).ownsRow base 29 2 (.slice (some ⟨g, 0, none⟩) n cap) n (wcells (u.set k ((wnAt u k).1, v))) := by
  rw [wcells_set2 u k v hk]
  exact (h.stored (k * 2 + 1) (.int .i64 v)).1
theorem own_len {w : World} {base n : Nat} {v : Value} {u : List Wn} (h : w.ownsRow base 29 2 v n (wcells u)) : u.length = n := by
  have := h.1
  rw [wcells_len] at this
  omega
theorem own_nil {w : World} {base : Nat} {v : Value} {u : List Wn} (h : w.ownsRow base 29 2 v 0 (wcells u)) : u = [] := List.length_eq_zero_iff.1 (own_len h)
theorem own_form {w : World} {base n : Nat} {v : Value} {xs : List Value} (h : w.ownsRow base 29 2 v n xs) (hn : 0 < n) : ∃ g cap, v = .slice (some ⟨g, 0, none⟩) n cap ∧ base ≤ g ∧ g < w.heap.size ∧ n ≤ cap ∧ cap ≤ maxLen := by
  have h0 := h
  obtain ⟨hl, ⟨_, hz⟩ | ⟨g, cap, cur, rfl, h2, h3, h4, h5, h6⟩⟩ := h
  · omega
  · exact ⟨g, cap, rfl, h2, (h0.lt g rfl).2, h4, h5⟩
theorem own_cellsAt {w : World} {base g cap n : Nat} {u : List Wn} (h : w.ownsRow base 29 2 (.slice (some ⟨g, 0, none⟩) n cap) n (wcells u)) (k : Nat) (hk : k < n) :
    w.cell? ⟨g, k * 2, none⟩ = some (.int .i64 (wnAt u k).1) ∧ w.cell? ⟨g, k * 2 + 1, none⟩ = some (.int .i64 (wnAt u k).2) := by
  have hl := own_len h
  have := wcells_at u k (by omega)
  exact ⟨by rw [h.cellAt _ (by omega)]; exact this.1, by rw [h.cellAt _ (by omega)]; exact this.2⟩
/-- a row cut shorter -/
theorem own_cut {w : World} {base g cap n : Nat} {xs : List Value} (h : w.ownsRow base 29 2 (.slice (some ⟨g, 0, none⟩) n cap) n xs) (i : Nat) (hi : i ≤ n) :
    w.ownsRow base 29 2 (.slice (some ⟨g, 0, none⟩) i cap) i (xs.take (i * 2)) := by
  obtain ⟨hl, ⟨he, _⟩ | ⟨g', cap', cur, he, h2, h3, h4, h5, h6, h7⟩⟩ := h
  · cases he
  · cases he
    refine ⟨by rw [List.length_take, hl]; omega, .inr ⟨g, cap, cur, rfl, h2, h3, by omega, h5, h6, ?_⟩⟩
    rw [← h7, List.take_take, Nat.min_eq_left (by omega)]
/-- cells stored behind place o -/
theorem own_setCells {base g cap n : Nat} : ∀ (vs : List Value) (w : World) (o : Nat) (xs : List Value), w.ownsRow base 29 2 (.slice (some ⟨g, 0, none⟩) n cap) n xs →
    ∃ ys, (w.setCells g o vs).ownsRow base 29 2 (.slice (some ⟨g, 0, none⟩) n cap) n ys ∧ ∀ i, i ≤ o → ys.take i = xs.take i
  | [], w, o, xs, h => ⟨xs, h, fun _ _ => rfl⟩
  | v :: vs, w, o, xs, h => by
    obtain ⟨ys, h1, h2⟩ := own_setCells vs (w.setCell ⟨g, o, none⟩ v) (o + 1) (xs.set o v) (h.stored o v).1
    refine ⟨ys, h1, fun i hi => ?_⟩
    rw [h2 i (by omega)]
    apply List.ext_getElem?
    intro j
    rw [List.getElem?_take, List.getElem?_take]
    split
    · rw [List.getElem?_set, if_neg (by omega)]
    · rfl
theorem wcells_take : ∀ (u : List Wn) (i : Nat), (wcells u).take (i * 2) = wcells (u.take i)
  | [], i => by simp [wcells]
  | x :: u, 0 => rfl
  | x :: u, i + 1 => by
    have ih := wcells_take u i
    have e : ∀ (y : Wn) (l : List Wn), wcells (y :: l) = .int .i64 y.1 :: .int .i64 y.2 :: wcells l := fun _ _ => rfl
    rw [show (i + 1) * 2 = i * 2 + 1 + 1 by omega, List.take_succ_cons, e, e, List.take_succ_cons, List.take_succ_cons, ih]

/-- one window more: the specification's and the program's step -/
theorem put_step (u : List Wn) (w : Wn) : putW u w = if u = [] then [w] else if (wnAt u (u.length - 1)).2 < w.1 then u ++ [w] else u.set (u.length - 1) ((wnAt u (u.length - 1)).1, max (wnAt u (u.length - 1)).2 w.2) := by
  rcases List.eq_nil_or_concat u with rfl | ⟨d, x, rfl⟩
  · rfl
  · rw [List.concat_eq_append, put_snoc, if_neg (show ¬ (d ++ [x] = []) by simp)]
    have e : wnAt (d ++ [x]) ((d ++ [x]).length - 1) = x := by
      unfold wnAt
      rw [List.length_append, List.length_singleton, Nat.add_sub_cancel, List.getD_eq_getElem?_getD, List.getElem?_append_right (Nat.le_refl _), Nat.sub_self]
      rfl
    rw [e]
    split
    · rfl
    · rw [List.length_append, List.length_singleton, Nat.add_sub_cancel, List.set_append_right _ _ (Nat.le_refl _), Nat.sub_self]
      rfl
theorem merge_snoc (l : List Wn) (w : Wn) : mergeW (l ++ [w]) = putW (mergeW l) w := by
  unfold mergeW; rw [List.foldl_append]; rfl
theorem all_snoc (l : List Wn) (w : Wn) : allW (l ++ [w]) = if w.1 < w.2 then insW (allW l) w else allW l := by
  unfold allW; rw [List.foldl_append]; rfl
theorem take_wn (l : List Wn) (k : Nat) (h : k < l.length) : l.take (k + 1) = l.take k ++ [wnAt l k] := by
  rw [List.take_succ_eq_append_getElem h]
  unfold wnAt
  rw [List.getD_eq_getElem?_getD, List.getElem?_eq_getElem h]
  rfl
theorem put_len (u : List Wn) (w : Wn) : (putW u w).length ≤ u.length + 1 := by
  rw [put_step]
  split
  · rename_i h; subst h; exact Nat.le_refl _
  · split
    · simp
    · simp
theorem merge_len : ∀ l : List Wn, (mergeW l).length ≤ l.length := by
  intro l
  induction h : l.length generalizing l with
  | zero => rw [List.length_eq_zero_iff.1 h]; exact Nat.le_refl _
  | succ n ih =>
    rcases List.eq_nil_or_concat l with rfl | ⟨d, x, rfl⟩
    · simp at h
    · rw [List.concat_eq_append] at h ⊢
      rw [merge_snoc]
      have := ih d (by simpa using h)
      have := put_len (mergeW d) x
      omega

/-- clear of a slice of windows -/
theorem run_clear_wins (w : World) (ty : TypeId) (b o n c : Nat) (hn : 0 < n) (hc : ∀ j, j < n * 2 → (w.cell? ⟨b, o + j, none⟩).isSome = true) (hf : ∀ j, j < n * 2 → w.frozen? ⟨b, o + j, none⟩ = false) :
    (Builtin.clear_ #[52] ty #[.slice (some ⟨b, o, none⟩) n c]).run Tryz.prog w = .ok (.tuple #[]) (w.setCells b o (List.replicate (n * 2) (.int .i64 0))) := by
  have hv : ∀ w, (zeroValue 29).run Tryz.prog w = .ok (.agg #[.int .i64 0, .int .i64 0]) w := Tryz.zeroValue29
  have hzc : (Builtin.zeroCells (Value.agg #[.int .i64 0, .int .i64 0]).cells n).toList = List.replicate (n * 2) (.int .i64 0) := by
    show (Builtin.zeroCells #[.int .i64 0, .int .i64 0] n).toList = _
    simp [Builtin.zeroCells]
    apply List.ext_getElem
    · simp
    · intro i h1 h2
      rcases Nat.mod_two_eq_zero_or_one i with e | e <;> simp [e]
  have hst := run_storeCells_cells (P := Tryz.prog) b o (List.replicate (n * 2) (.int .i64 0)) 0 w (by simpa using hc) (by simpa using hf) (by intro v hv'; rw [List.eq_of_mem_replicate hv']; rfl)
  simp only [Nat.add_zero] at hst
  obtain ⟨m, rfl⟩ : ∃ m, n = m + 1 := ⟨n - 1, by omega⟩
  simp [Builtin.clear_, run_underlying Tryz.underlying52, hv, hzc, hst]

end Go.Proofs.YtgepcbggkfjlgaaGreatDoor
end

section
/-
  The contract of the specification's insert, at no windows too. Condition: at most 1000 windows.
-/
set_option maxRecDepth 100000
set_option linter.unusedVariables false
set_option linter.unusedSimpArgs false
set_option linter.unnecessarySimpa false
namespace Go.Proofs.YtgepcbggkfjlgaaGreatDoor
open Go.RowKit Go.PlainAid

end Go.Proofs.YtgepcbggkfjlgaaGreatDoor
end

section
/-
  DERIVED: THE SHELF's CONTRACTS AT THIS DUMP, IN PLAIN WORDS (tools/lay-plain.mjs out of 'TryzShelfFSrc.lean', which tools/lay-shelf.mjs wrote): THE SAME DECLARATIONS UNDER THE SAME NAMES: 'import', 'namespace', 'open', 'def', 'theorem' AND NOTHING ELSE: no command of the shelf's: FOR A HAND-IN. Each laying: the table of numbers ('.._ren') and one theorem, a field a fact of the dump's own or the kernel's comparison; each contract: ONE APPLICATION.
-/
namespace Go.Proofs
open Go.Shelf
def Tryz.layF6_ren : Go.Shelf.Ren := ⟨fun | 6 => 106 | 15 => 126 | 14 => 125 | 28 => 145 | 29 => 146 | 20 => 137 | 21 => 138 | 22 => 139 | 23 => 140 | 24 => 141 | 25 => 142 | 26 => 143 | 27 => 144 | 46 => 158 | 47 => 159 | 48 => 160 | 49 => 161 | 50 => 162 | 57 => 171 | n => n, fun | 22 => 52 | 24 => 29 | 25 => 119 | 3 => 3 | 39 => 110 | 0 => 0 | 53 => 127 | 55 => 145 | 4 => 4 | 46 => 137 | 45 => 136 | 50 => 141 | 5 => 5 | 9 => 9 | 66 => 156 | 70 => 92 | 76 => 174 | 77 => 175 | n => n, fun | n => n⟩
theorem Tryz.layF6 : Go.Proofs.SlLaysF0.n6 Tryz.prog Tryz.layF6_ren := {
  mixed := by kernel_rfl
  f6 := ⟨Tryz.f106.name, by decide, Tryz.func106.trans (congrArg some (by kernel_rfl))⟩
  f14 := ⟨Tryz.f125.name, by decide, Tryz.func125.trans (congrArg some (by kernel_rfl))⟩
  f15 := Tryz.func126.trans (congrArg some (by kernel_rfl))
  f20 := ⟨Tryz.f137.name, by decide, Tryz.func137.trans (congrArg some (by kernel_rfl))⟩
  f21 := ⟨Tryz.f138.name, by decide, Tryz.func138.trans (congrArg some (by kernel_rfl))⟩
  f22 := ⟨Tryz.f139.name, by decide, Tryz.func139.trans (congrArg some (by kernel_rfl))⟩
  f23 := ⟨Tryz.f140.name, by decide, Tryz.func140.trans (congrArg some (by kernel_rfl))⟩
  f24 := ⟨Tryz.f141.name, by decide, Tryz.func141.trans (congrArg some (by kernel_rfl))⟩
  f25 := ⟨Tryz.f142.name, by decide, Tryz.func142.trans (congrArg some (by kernel_rfl))⟩
  f26 := ⟨Tryz.f143.name, by decide, Tryz.func143.trans (congrArg some (by kernel_rfl))⟩
  f27 := ⟨Tryz.f144.name, by decide, Tryz.func144.trans (congrArg some (by kernel_rfl))⟩
  f28 := Tryz.func145.trans (congrArg some (by kernel_rfl))
  f29 := Tryz.func146.trans (congrArg some (by kernel_rfl))
  f46 := ⟨Tryz.f158.name, by decide, Tryz.func158.trans (congrArg some (by kernel_rfl))⟩
  f47 := Tryz.func159.trans (congrArg some (by kernel_rfl))
  f48 := Tryz.func160.trans (congrArg some (by kernel_rfl))
  f49 := ⟨Tryz.f161.name, by decide, Tryz.func161.trans (congrArg some (by kernel_rfl))⟩
  f50 := ⟨Tryz.f162.name, by decide, Tryz.func162.trans (congrArg some (by kernel_rfl))⟩
  f57 := ⟨Tryz.f171.name, by decide, Tryz.func171.trans (congrArg some (by kernel_rfl))⟩
  t0 := Tryz.underlying0
  a0 := Tryz.isAgg0
  z0 := Tryz.sizeOf0
  v0 := Tryz.zeroValue0
  t3 := Tryz.underlying3
  a3 := Tryz.isAgg3
  z3 := Tryz.sizeOf3
  v3 := Tryz.zeroValue3
  t4 := Tryz.underlying4
  a4 := Tryz.isAgg4
  z4 := Tryz.sizeOf4
  v4 := Tryz.zeroValue4
  t5 := Tryz.underlying5
  a5 := Tryz.isAgg5
  z5 := Tryz.sizeOf5
  v5 := Tryz.zeroValue5
  t9 := Tryz.underlying9
  a9 := Tryz.isAgg9
  z9 := Tryz.sizeOf9
  v9 := Tryz.zeroValue9
  t22 := Tryz.underlying52
  a22 := Tryz.isAgg52
  z22 := Tryz.sizeOf52
  v22 := Tryz.zeroValue52
  t25 := Tryz.underlying119
  a25 := Tryz.isAgg119
  z25 := Tryz.sizeOf119
  v25 := Tryz.zeroValue119
  t39 := Tryz.underlying110
  a39 := Tryz.isAgg110
  z39 := Tryz.sizeOf110
  v39 := Tryz.zeroValue110
  t45 := Tryz.underlying136
  a45 := Tryz.isAgg136
  z45 := Tryz.sizeOf136
  v45 := Tryz.zeroValue136
  t46 := Tryz.underlying137
  a46 := Tryz.isAgg137
  z46 := Tryz.sizeOf137
  v46 := Tryz.zeroValue137
  t50 := Tryz.underlying141
  a50 := Tryz.isAgg141
  z50 := Tryz.sizeOf141
  v50 := Tryz.zeroValue141
  t53 := Tryz.underlying127
  a53 := Tryz.isAgg127
  z53 := Tryz.sizeOf127
  v53 := Tryz.zeroValue127
  t55 := Tryz.underlying145
  a55 := Tryz.isAgg145
  z55 := Tryz.sizeOf145
  v55 := Tryz.zeroValue145
  t66 := Tryz.underlying156
  a66 := Tryz.isAgg156
  z66 := Tryz.sizeOf156
  v66 := Tryz.zeroValue156
  t70 := Tryz.underlying92
  a70 := Tryz.isAgg92
  z70 := Tryz.sizeOf92
  v70 := Tryz.zeroValue92
  t76 := Tryz.underlying174
  a76 := Tryz.isAgg174
  z76 := Tryz.sizeOf174
  v76 := Tryz.zeroValue174
  t77 := Tryz.underlying175
  a77 := Tryz.isAgg175
  z77 := Tryz.sizeOf175
  v77 := Tryz.zeroValue175 }
def Tryz.layE41_ren : Go.Shelf.Ren := ⟨fun | 41 => 105 | n => n, fun | 22 => 52 | 23 => 29 | 4 => 4 | n => n, fun | n => n⟩
theorem Tryz.layE41 : Go.Proofs.SlLaysE0.n41 Tryz.prog Tryz.layE41_ren := {
  mixed := by kernel_rfl
  f41 := ⟨Tryz.f105.name, by decide, Tryz.func105.trans (congrArg some (by kernel_rfl))⟩
  t4 := Tryz.underlying4
  a4 := Tryz.isAgg4
  z4 := Tryz.sizeOf4
  v4 := Tryz.zeroValue4
  t22 := Tryz.underlying52
  a22 := Tryz.isAgg52
  z22 := Tryz.sizeOf52
  v22 := Tryz.zeroValue52 }
def Tryz.layH6_ren : Go.Shelf.Ren := ⟨fun | 6 => 124 | n => n, fun | 22 => 52 | 23 => 29 | 25 => 103 | 3 => 3 | 0 => 0 | 4 => 4 | n => n, fun | n => n⟩
theorem Tryz.layH6 : Go.Proofs.SlLaysH0.n6 Tryz.prog Tryz.layH6_ren := {
  mixed := by kernel_rfl
  f6 := ⟨Tryz.f124.name, by decide, Tryz.func124.trans (congrArg some (by kernel_rfl))⟩
  t0 := Tryz.underlying0
  a0 := Tryz.isAgg0
  z0 := Tryz.sizeOf0
  v0 := Tryz.zeroValue0
  t3 := Tryz.underlying3
  a3 := Tryz.isAgg3
  z3 := Tryz.sizeOf3
  v3 := Tryz.zeroValue3
  t4 := Tryz.underlying4
  a4 := Tryz.isAgg4
  z4 := Tryz.sizeOf4
  v4 := Tryz.zeroValue4
  t22 := Tryz.underlying52
  a22 := Tryz.isAgg52
  z22 := Tryz.sizeOf52
  v22 := Tryz.zeroValue52
  t25 := Tryz.underlying103
  a25 := Tryz.isAgg103
  z25 := Tryz.sizeOf103
  v25 := Tryz.zeroValue103 }
def Tryz.layH6k_ren : Go.Shelf.Ren := ⟨fun | 6 => 66 | n => n, fun | 22 => 22 | 23 => 31 | 25 => 58 | 3 => 3 | 0 => 0 | 4 => 4 | n => n, fun | n => n⟩
theorem Tryz.layH6k : Go.Proofs.SlLaysH0.n6 Tryz.prog Tryz.layH6k_ren := {
  mixed := by kernel_rfl
  f6 := ⟨Tryz.f66.name, by decide, Tryz.func66.trans (congrArg some (by kernel_rfl))⟩
  t0 := Tryz.underlying0
  a0 := Tryz.isAgg0
  z0 := Tryz.sizeOf0
  v0 := Tryz.zeroValue0
  t3 := Tryz.underlying3
  a3 := Tryz.isAgg3
  z3 := Tryz.sizeOf3
  v3 := Tryz.zeroValue3
  t4 := Tryz.underlying4
  a4 := Tryz.isAgg4
  z4 := Tryz.sizeOf4
  v4 := Tryz.zeroValue4
  t22 := Tryz.underlying22
  a22 := Tryz.isAgg22
  z22 := Tryz.sizeOf22
  v22 := Tryz.zeroValue22
  t25 := Tryz.underlying58
  a25 := Tryz.isAgg58
  z25 := Tryz.sizeOf58
  v25 := Tryz.zeroValue58 }
end Go.Proofs
end

section
/-
  Contracts of slices.Clone and slices.DeleteFunc at windows, as clock.ascending calls them. Condition: at most 1000 windows.
-/
set_option maxRecDepth 100000
set_option linter.unusedVariables false
set_option linter.unusedSimpArgs false
set_option linter.unnecessarySimpa false
namespace Go.Proofs.YtgepcbggkfjlgaaGreatDoor
open Go.RowKit Go.PlainAid Go.Shelf

def encW (x : Wn) : List Value := [.int .i64 x.1, .int .i64 x.2]
def emptyB (x : Wn) : Bool := decide (x.2 ≤ x.1)
def keepB (x : Wn) : Bool := !emptyB x
theorem get_wn (l : List Wn) (j : Nat) : l[j]! = wnAt l j := by
  unfold wnAt
  rw [List.getD_eq_getElem?_getD, List.getElem!_eq_getElem?_getD]
  rfl
theorem first_hit (p : Nat → Bool) : ∀ n, (∀ j, j < n → p j = false) ∨ ∃ k, k < n ∧ p k = true ∧ ∀ j, j < k → p j = false
  | 0 => .inl fun j hj => absurd hj (Nat.not_lt_zero _)
  | n + 1 => by
    rcases first_hit p n with h | ⟨k, h1, h2, h3⟩
    · cases hn : p n with
      | true => exact .inr ⟨n, by omega, hn, h⟩
      | false => exact .inl fun j hj => if e : j = n then by rw [e]; exact hn else h j (by omega)
    · exact .inr ⟨k, by omega, h2, h3⟩

set_option maxHeartbeats 2000000 in
theorem clone_s (ao : Option Addr) (n cap : Nat) (ps : List Wn) (w : World) (h : WinsAt w ao n cap ps) (hn : n ≤ 1000) (h0 : ao = none → n = 0 ∧ cap = 0) :
    Calls Tryz.prog 105 #[.slice ao n cap] w fun e w' => ∃ v, e = .returned v ∧ w'.ownsRow w.heap.size 29 2 v n (wcells ps) ∧ Below w.heap.size w w' := by
  have q22 : ∀ (w : World) (a : Option Addr) (n c n' c' : Nat), (binOp .eql 52 (.slice a n c) (.slice none n' c')).run Tryz.prog w = .ok (.bool a.isNone) w := fun w a n c n' c' => Lib.run_eql_slice_nil w _ _ a n c n' c' Tryz.underlying52
  cases ao with
  | none =>
    obtain ⟨rfl, rfl⟩ := h0 rfl
    have hp : ps = [] := List.length_eq_zero_iff.1 h.1
    subst hp
    have HO := Lib.hid (World.ownsRow_nil w w.heap.size 29 2)
    clear h h0
    go_enter Tryz.func105, Tryz.ntmps105
    go_wp2
    go_ret
    exact ⟨_, rfl, HO.out, Below.refl _ _⟩
  | some ad =>
    have H := Lib.hid h
    clear h h0
    have HO := Lib.hid (World.ownsRow_made (size := 2) (e := 29) (base := w.heap.size) w #[] 0 (Nat.le_refl _) (Nat.zero_le _) rfl)
    have HB := Lib.hid ((Below.refl w.heap.size w).alloc (Nat.le_refl _) (.cells #[] 29))
    go_enter Tryz.func105, Tryz.ntmps105
    go_wp2_with (at_builtin; refine app_wins (w.alloc _) HO.out (.tmp 5) (.tmp 6) (some ad) n cap ps ?_ ?_ ?_ ?_ ?_ ?_ ?_ ?_ ?_; exact rfl; exact rfl; exact rfl; exact rfl; exact (H.out.below HB.out); (intro e; cases e); exact (by omega); exact HB.out.size; intro v2 W2 hown2 hb2)
    go_ret
    rw [Nat.zero_add, List.nil_append] at hown2
    exact ⟨_, rfl, hown2, HB.out.trans hb2⟩

set_option maxHeartbeats 2000000 in
theorem index_nil (fv : Value) (w : World) :
    Calls Tryz.prog 124 #[.slice none 0 0, fv] w fun e w' => e = .returned (.int .i64 (-1)) ∧ w = w' := by
  go_enter Tryz.func124, Tryz.ntmps124
  go_wp2
  refine wp_loop_rounds 1 ?_
  rw [rounds_succ]
  go_wp2
  go_ret
  exact ⟨rfl, rfl⟩
set_option maxHeartbeats 2000000 in
theorem delete_nil (w : World) :
    Calls Tryz.prog 104 #[.slice none 0 0, .func (.func 86) #[] #[]] w fun e w' => e = .returned (.slice none 0 0) ∧ w = w' := by
  go_enter Tryz.func104, Tryz.ntmps104
  go_wp2_with fail
  refine (index_nil _ _).mono ?_
  rintro e w' ⟨rfl, rfl⟩
  go_wp2
  go_ret
  exact ⟨rfl, rfl⟩

theorem empty_pred (w : World) : PredBelow Tryz.prog 86 #[] (fun x => .agg (encW x).toArray) emptyB w := fun W x hb =>
  (empty_s x.1 x.2 W).mono fun e w' h => ⟨h.1, by rw [h.2]; exact hb.alloc hb.size _⟩
theorem index_own (w : World) (base g n cap : Nat) (zs : List Wn) (h : w.ownsRow base 29 2 (.slice (some ⟨g, 0, none⟩) n cap) n (wcells zs)) (hn : n ≤ 1000) :
    Calls Tryz.prog 124 #[.slice (some ⟨g, 0, none⟩) n cap, .func (.func 86) #[] #[]] w fun e w' => e = .returned (.int .i64 (Lib.idxBy (fun _ y => emptyB y) (zs.take n) default)) ∧ Below w.heap.size w w' := by
  have eg : ∀ args w, (callFunc 86 args).run Tryz.prog w = .ok (.enter 86 args) w := enters_of Tryz.func86 (by kernel_rfl) rfl
  have hl := own_len h
  have hg := (h.lt g rfl).2
  exact AnyQ.slices_IndexFunc Tryz.layH6 2 Tryz.isAgg29 Tryz.sizeOf29 encW (fun _ => rfl) emptyB 86 #[] eg g 0 n cap zs w (empty_pred w) (by omega) (by omega) hg (fun j hj i v hi => by
    have h1 := own_cellsAt h j (by omega)
    rw [get_wn] at hi
    match i, hi with
    | 0, hi =>
      simp [encW] at hi
      rw [← hi, show 0 + j * 2 + 0 = j * 2 by omega]; exact h1.1
    | 1, hi =>
      simp [encW] at hi
      rw [← hi, show 0 + j * 2 + 1 = j * 2 + 1 by omega]; exact h1.2
    | i + 2, hi => simp [encW] at hi)

end Go.Proofs.YtgepcbggkfjlgaaGreatDoor
end

section
/-
  The contract of slices.DeleteFunc at windows and clock's empty, over a row of the caller's own. Condition: at most 1000 windows.
-/
set_option maxRecDepth 100000
set_option linter.unusedVariables false
set_option linter.unusedSimpArgs false
set_option linter.unnecessarySimpa false
namespace Go.Proofs.YtgepcbggkfjlgaaGreatDoor
open Go.RowKit Go.PlainAid Go.Shelf

theorem wnAt_set (u : List Wn) (i j : Nat) (p : Wn) (h : i < u.length) : wnAt (u.set i p) j = if j = i then p else wnAt u j := by
  unfold wnAt
  rw [List.getD_eq_getElem?_getD, List.getD_eq_getElem?_getD, List.getElem?_set]
  by_cases e : i = j
  · subst e; rw [if_pos rfl, if_pos h, if_pos rfl]; rfl
  · rw [if_neg e, if_neg (fun x => e x.symm)]
theorem take_set_snoc (u : List Wn) (i : Nat) (p : Wn) (h : i < u.length) : (u.set i p).take (i + 1) = u.take i ++ [p] := by
  rw [take_wn _ _ (by rw [List.length_set]; exact h), wnAt_set _ _ _ _ h, if_pos rfl, List.take_set_of_le (Nat.le_refl _)]
theorem filter_snoc (l : List Wn) (p : Wn) : (l ++ [p]).filter keepB = if emptyB p then l.filter keepB else l.filter keepB ++ [p] := by
  rw [List.filter_append]
  unfold keepB
  cases h : emptyB p
  · simp [h]
  · simp [h]

theorem cells_box (w : World) (x y : Int) : (w.alloc (.cells #[.int .i64 x, .int .i64 y] 29)).cell? ⟨w.heap.size, 0, none⟩ = some (.int .i64 x) ∧ (w.alloc (.cells #[.int .i64 x, .int .i64 y] 29)).cell? ⟨w.heap.size, 1, none⟩ = some (.int .i64 y) := by
  obtain ⟨b, off, e, h⟩ := (wins_new w (x, y)).2.2.2 (by omega)
  cases e
  exact h.2 0 (by show 0 < 1; omega)
set_option maxRecDepth 100000 in
set_option maxHeartbeats 4000000 in
theorem delete_own (w : World) (base g n cap : Nat) (zs : List Wn) (h : w.ownsRow base 29 2 (.slice (some ⟨g, 0, none⟩) n cap) n (wcells zs)) (hn : n ≤ 1000) (hbase : base ≤ g) :
    Calls Tryz.prog 104 #[.slice (some ⟨g, 0, none⟩) n cap, .func (.func 86) #[] #[]] w fun e w' =>
      ∃ m, e = .returned (.slice (some ⟨g, 0, none⟩) m cap) ∧ m ≤ n ∧ w'.ownsRow base 29 2 (.slice (some ⟨g, 0, none⟩) m cap) m (wcells (zs.filter keepB)) ∧ Below base w w' := by
  have hl := own_len h
  have hg := (h.lt g rfl).2
  have hcap : n ≤ cap ∧ cap ≤ maxLen := by
    obtain ⟨_, ⟨he, _⟩ | ⟨g', cap', cur, he, _, _, h4, h5, _⟩⟩ := h
    · cases he
    · cases he; exact ⟨h4, h5⟩
  have hI := index_own w base g n cap zs h hn
  have HL := Lib.hid hl
  rcases first_hit (fun j => emptyB (wnAt zs j)) n with hall | ⟨k0, hk0, hhit, hmiss⟩
  · have e1 : Lib.idxBy (fun _ y => emptyB y) (zs.take n) default = -1 := Lib.idxBy_miss _ zs n default (fun j hj => by rw [get_wn]; exact hall j hj)
    rw [e1] at hI
    have HF := Lib.hid (show zs.filter keepB = zs by
      rw [List.filter_eq_self]
      intro p hp
      obtain ⟨j, hj, rfl⟩ := List.getElem_of_mem hp
      have := hall j (by omega)
      unfold wnAt at this
      rw [List.getD_eq_getElem?_getD, List.getElem?_eq_getElem hj] at this
      unfold keepB
      rw [show emptyB zs[j] = false from this]; rfl)
    have HI := Lib.hid hI
    have H := Lib.hid h
    clear h hI e1 hall hl
    go_enter Tryz.func104, Tryz.ntmps104
    go_wp2_with fail
    refine HI.out.mono ?_
    rintro e w1 ⟨rfl, hb⟩
    go_wp2_with fail
    go_ret
    refine ⟨n, rfl, Nat.le_refl _, ?_, hb.mono (by omega)⟩
    rw [HF.out]
    obtain ⟨h1, ⟨he, _⟩ | ⟨g', cap', cur, he, h2, h3, h4, h5, h6⟩⟩ := H.out
    · cases he
    · cases he
      exact ⟨h1, .inr ⟨g, cap, cur, rfl, h2, by rw [hb.block g hg]; exact h3, h4, h5, h6⟩⟩
  · have e1 : Lib.idxBy (fun _ y => emptyB y) (zs.take n) default = (k0 : Int) := Lib.idxBy_hit _ zs n k0 default hk0 (by omega) (by rw [get_wn]; exact hhit) (fun j hj => by rw [get_wn]; exact hmiss j hj)
    rw [e1] at hI
    have HF := Lib.hid (show zs.take k0 = (zs.take (k0 + 1)).filter keepB by
      rw [take_wn _ _ (by omega), filter_snoc, if_pos hhit, eq_comm, List.filter_eq_self]
      intro p hp
      obtain ⟨j, hj, rfl⟩ := List.getElem_of_mem hp
      rw [List.length_take] at hj
      have := hmiss j (by omega)
      unfold wnAt at this
      rw [List.getD_eq_getElem?_getD, List.getElem?_eq_getElem (by omega)] at this
      unfold keepB
      rw [List.getElem_take, show emptyB zs[j] = false from this]; rfl)
    have HI := Lib.hid hI
    have H := Lib.hid h
    have hne1 : ((k0 : Int) == -1) = false := beq_eq_false_iff_ne.2 (by omega)
    clear h hI e1 hhit hmiss hl
    go_enter Tryz.func104, Tryz.ntmps104
    go_wp2_with fail
    refine HI.out.mono ?_
    rintro e w1 ⟨rfl, hb⟩
    have HB1 := Lib.hid (hb.mono (show base ≤ w.heap.size by omega))
    have HO1 : Hid (w1.ownsRow base 29 2 (.slice (some ⟨g, 0, none⟩) n cap) n (wcells zs)) := Lib.hid (by
      obtain ⟨h1, ⟨he, _⟩ | ⟨g', cap', cur, he, h2, h3, h4, h5, h6⟩⟩ := H.out
      · cases he
      · cases he
        exact ⟨h1, .inr ⟨g, cap, cur, rfl, h2, by rw [hb.block g hg]; exact h3, h4, h5, h6⟩⟩)
    clear hb H
    go_wp2_with fail
    go_loopw [5, 6] (fun iv jv wr => ∃ (i j : Nat) (u : List Wn), iv = .int .i64 i ∧ jv = .int .i64 j ∧ i < j ∧ j ≤ n ∧ Hid (wr.ownsRow base 29 2 (.slice (some ⟨g, 0, none⟩) n cap) n (wcells u)) ∧ Hid (u.take i = (zs.take j).filter keepB) ∧ Hid (∀ x, j ≤ x → wnAt u x = wnAt zs x) ∧ Hid (Below base w wr)) (fun _ jv _ => n - (intOf jv).toNat)
    case atStart => exact ⟨k0, k0 + 1, zs, rfl, by go_num, by omega, by omega, HO1, HF, Lib.hid fun _ _ => rfl, HB1⟩
    case round =>
      obtain ⟨i, j, u, rfl, rfl, hij, hjn, HO, HT, HR, HB⟩ := hrel
      have j0 : (0 : Int) ≤ (j : Int) := by omega
      have i0 : (0 : Int) ≤ (i : Int) := by omega
      have i1 : (i : Int) < (n : Int) := by omega
      have HUL := Lib.hid (own_len HO.out)
      by_cases hlt : j < n
      · have j1 : (j : Int) < (n : Int) := by omega
        obtain ⟨⟨x, y⟩, hxy⟩ : ∃ p, wnAt u j = p := ⟨_, rfl⟩
        obtain ⟨c1, c2⟩ := own_cellsAt HO.out j hlt
        rw [hxy] at c1 c2
        simp only [] at c1 c2
        have HXY := Lib.hid hxy
        clear hxy
        have HFN := Lib.hid (show (zs.take (j + 1)).filter keepB = if emptyB (x, y) then u.take i else u.take i ++ [(x, y)] by
          rw [take_wn _ _ (by have := HL.out; omega), filter_snoc, ← HT.out, ← HR.out j (Nat.le_refl _), HXY.out])
        go_wp2_with fail
        refine (empty_s x y _).mono ?_
        rintro e w2 ⟨rfl, hw2⟩
        have HO2 : Hid (w2.ownsRow base 29 2 (.slice (some ⟨g, 0, none⟩) n cap) n (wcells u)) := Lib.hid (by rw [hw2]; exact (HO.out.alloc _).alloc _)
        have HB2 : Hid (Below base w w2) := Lib.hid (by
          have hz := HB.out.size
          rw [hw2]; exact (HB.out.alloc (by omega) _).alloc (by simp; omega) _)
        have hbx := cells_box wr x y
        have d1 : w2.cell? ⟨wr.heap.size, 0, none⟩ = some (.int .i64 x) := by rw [hw2]; exact Lib.cell?_alloc_some _ hbx.1
        have d2 : w2.cell? ⟨wr.heap.size, 1, none⟩ = some (.int .i64 y) := by rw [hw2]; exact Lib.cell?_alloc_some _ hbx.2
        clear hw2 hbx c1 c2
        by_cases hyx : y ≤ x
        · have hd : decide (y ≤ x) = true := decide_eq_true hyx
          have HN := Lib.hid (show u.take i = (zs.take (j + 1)).filter keepB by rw [HFN.out, if_pos (show emptyB (x, y) = true from hd)])
          clear hyx
          go_wp2_with fail
          go_roundw
          case rel => exact ⟨i, j + 1, u, rfl, by go_num, by omega, by omega, HO2, HN, Lib.hid fun z hz => HR.out z (by omega), HB2⟩
          case measure => simp [intOf]; omega
        · have hd : decide (y ≤ x) = false := decide_eq_false hyx
          have HN := Lib.hid (show (u.set i (x, y)).take (i + 1) = (zs.take (j + 1)).filter keepB by
            rw [HFN.out, if_neg (by rw [show emptyB (x, y) = false from hd]; decide), take_set_snoc _ _ _ (by have := HUL.out; omega)])
          clear hyx
          obtain ⟨e1, e2⟩ := own_cellsAt HO2.out i (by omega)
          have f1 : w2.frozen? ⟨g, i * 2, none⟩ = false := HO2.out.frozenAt _
          have f2 : w2.frozen? ⟨g, i * 2 + 1, none⟩ = false := HO2.out.frozenAt _
          go_wp2_with fail
          go_roundw
          case rel => exact ⟨i + 1, j + 1, u.set i (x, y), by go_num, by go_num, by omega, by omega, Lib.hid (by
            rw [wcells_set u i (x, y) (by have := HUL.out; omega)]
            exact ((HO2.out.stored (i * 2) (.int .i64 x)).1.stored (i * 2 + 1) (.int .i64 y)).1), HN, Lib.hid (fun z hz => by
            rw [wnAt_set _ _ _ _ (by have := HUL.out; omega), if_neg (by omega)]
            exact HR.out z (by omega)), Lib.hid ((HB2.out.setCell (p := ⟨g, i * 2, none⟩) hbase _).setCell (p := ⟨g, i * 2 + 1, none⟩) hbase _)⟩
          case measure => simp [intOf]; omega
      · obtain rfl : j = n := by omega
        have HFI := Lib.hid (show u.take i = zs.filter keepB by rw [HT.out, List.take_of_length_le (by have := HL.out; omega)])
        obtain ⟨hc1, hc2⟩ := hcap
        have hcl := fun ty => run_clear_wins wr ty g (0 + i * 2) (j - i) (cap - i) (by omega) (fun z hz => by
          have hk := own_cellsAt HO.out (i + z / 2) (by omega)
          rcases Nat.mod_two_eq_zero_or_one z with e | e
          · rw [show 0 + i * 2 + z = (i + z / 2) * 2 by omega, hk.1]; rfl
          · rw [show 0 + i * 2 + z = (i + z / 2) * 2 + 1 by omega, hk.2]; rfl) (fun z hz => HO.out.frozenAt _)
        unfold maxLen at hc2
        have k1 : (i : Int) ≤ (j : Int) := by omega
        have k2 : (i : Int) ≤ (cap : Int) := by omega
        have k3 : (i : Int) < (cap : Int) := by omega
        rw [Nat.zero_add] at hcl
        have HOZ := Lib.hid (own_setCells (List.replicate ((j - i) * 2) (.int .i64 0)) wr (i * 2) (wcells u) HO.out)
        have HBZ := Lib.hid (Go.below_setCells hbase (List.replicate ((j - i) * 2) (.int .i64 0)) (i * 2) wr HB.out)
        go_wp2_with fail
        go_ret
        obtain ⟨ys, h1, h2⟩ := HOZ.out
        have h3 := own_cut h1 i (by omega)
        rw [h2 (i * 2) (Nat.le_refl _), wcells_take, HFI.out] at h3
        exact ⟨i, rfl, by omega, h3, HBZ.out⟩

end Go.Proofs.YtgepcbggkfjlgaaGreatDoor
end

section
/-
  DERIVED: THE SHELF's CONTRACTS AT THIS DUMP, IN PLAIN WORDS (tools/lay-plain.mjs out of 'TryzShelfKSrc.lean', which tools/lay-shelf.mjs wrote): THE SAME DECLARATIONS UNDER THE SAME NAMES: 'import', 'namespace', 'open', 'def', 'theorem' AND NOTHING ELSE: no command of the shelf's: FOR A HAND-IN. Each laying: the table of numbers ('.._ren') and one theorem, a field a fact of the dump's own or the kernel's comparison; each contract: ONE APPLICATION.
-/
namespace Go.Proofs
open Go.Shelf
def Tryz.lays122_ren : Go.Shelf.Ren := ⟨fun | 122 => 63 | 215 => 89 | n => n, fun | 3 => 3 | 4 => 4 | n => n, fun | n => n⟩
theorem Tryz.lays122 : Go.Proofs.Lays.n122 Tryz.prog Tryz.lays122_ren := {
  mixed := by kernel_rfl
  f122 := Tryz.func63.trans (congrArg some (by kernel_rfl))
  f215 := Tryz.func89.trans (congrArg some (by kernel_rfl))
  t3 := Tryz.underlying3
  a3 := Tryz.isAgg3
  z3 := Tryz.sizeOf3
  v3 := Tryz.zeroValue3
  t4 := Tryz.underlying4
  a4 := Tryz.isAgg4
  z4 := Tryz.sizeOf4
  v4 := Tryz.zeroValue4 }
open Go.RowKit in
/-- cmp.Compare at int: "Compare returns -1 if x is less than y, 0 if x equals y, +1 if x is greater than y.": IT RETURNS 'Lib.compareInt x y'; the world is as it was. (LAID: no walk: one application.) -/
theorem Tryz.cmp_Compare_int (x y : Int) (w : World) :
    Calls Tryz.prog 63 #[.int .i64 x, .int .i64 y] w fun e w' => e = .returned (.int .i64 (Lib.compareInt x y)) ∧ w' = w := Any.cmp_Compare_int Tryz.lays122 x y w
end Go.Proofs
end

section
/-
  The contract of clock.ascending. Condition: at most 1000 windows.
-/
set_option maxRecDepth 100000
set_option linter.unusedVariables false
set_option linter.unusedSimpArgs false
set_option linter.unnecessarySimpa false
namespace Go.Proofs.YtgepcbggkfjlgaaGreatDoor
open Go.RowKit Go.PlainAid Go.Shelf Go.Sort

theorem lt_from (x y : Wn) : ltOf (fun x y : Wn => Lib.compareInt x.1 y.1) x y = decide (x.1 < y.1) := by
  unfold ltOf Lib.compareInt
  by_cases h1 : x.1 < y.1
  · simp [h1]
  · by_cases h2 : y.1 < x.1
    · simp [h1, h2]
    · simp [h1, h2]
theorem swo_from : SWO (ltOf fun x y : Wn => Lib.compareInt x.1 y.1) where
  irrefl x := by rw [lt_from]; simp
  trans x y z h1 h2 := by
    rw [lt_from, decide_eq_true_iff] at *; omega
  ntrans x y z h1 h2 := by
    rw [lt_from, decide_eq_false_iff_not] at *; omega
set_option maxHeartbeats 1000000 in
theorem cmp_s (x y : Wn) (W : World) : Calls Tryz.prog 107 #[.agg #[.int .i64 x.1, .int .i64 x.2], .agg #[.int .i64 y.1, .int .i64 y.2]] W fun e w' => e = .returned (.int .i64 (Lib.compareInt x.1 y.1)) ∧ ∃ q os', w' = Go.Sort.grow (W.drewN q) os' := by
  have hcon := fun W' => Tryz.cmp_Compare_int x.1 y.1 W'
  generalize Lib.compareInt x.1 y.1 = r at hcon ⊢
  go_enter Tryz.func107, Tryz.ntmps107
  go_wp2_with (go_at_call 63; refine (hcon _).mono ?_; rintro e w' ⟨rfl, rfl⟩)
  go_ret
  exact ⟨rfl, 0, _, by rw [Go.Sort.alloc_eq_grow, Go.Sort.alloc_eq_grow, Go.Sort.grow_grow]; rfl⟩
theorem below_sortK (w : World) (B g m : Nat) (d : Array Wn) (os : Array Obj) (hg : B ≤ g) (hB : B ≤ w.heap.size) : RowKit.Below B w (sortWorldK encW 2 w g 0 m d os) := by
  have h1 : RowKit.Below B w (putRowK encW 2 (Go.Sort.ahead w m) g 0 d) := ⟨rfl, rfl, rfl, by show w.heap.size ≤ (w.heap.modify g _).size; simp, fun k hk => by
    show (w.heap.modify g _)[k]? = _
    rw [Array.getElem?_modify, if_neg (by omega)]⟩
  have h2 : (putRowK encW 2 (Go.Sort.ahead w m) g 0 d).heap.size = w.heap.size := by show (w.heap.modify g _).size = _; simp
  refine h1.trans ⟨rfl, rfl, rfl, ?_, fun k hk => ?_⟩
  · show _ ≤ (Go.Sort.grow _ os).heap.size
    rw [Go.Sort.size_grow]; omega
  · exact Go.Sort.heap_grow_old _ os (by omega)
theorem holds_own {w : World} {base g n cap : Nat} {zs : List Wn} (h : w.ownsRow base 29 2 (.slice (some ⟨g, 0, none⟩) n cap) n (wcells zs)) : HoldsK encW 2 w g 0 zs.toArray := by
  intro j hj
  have hl := own_len h
  have hj2 : j < zs.toArray.size * 2 := by rw [size_flatK] at hj; exact hj
  have hs : zs.toArray.size = zs.length := by simp
  have hk := own_cellsAt h (j / 2) (by omega)
  rw [get_flatK _ _ _ _ hj2]
  have e : (zs.toArray)[j / 2]! = wnAt zs (j / 2) := by
    rw [← get_wn]; simp
  rw [e]
  refine ⟨?_, h.frozenAt _⟩
  rcases Nat.mod_two_eq_zero_or_one j with e2 | e2
  · rw [e2, show 0 + j = j / 2 * 2 by omega, hk.1]; rfl
  · rw [e2, show 0 + j = j / 2 * 2 + 1 by omega, hk.2]; rfl
theorem wins_holds {w : World} {g cap : Nat} {d : Array Wn} (h : HoldsK encW 2 w g 0 d) (hg : g < w.heap.size) (h1 : d.size ≤ cap) (h2 : cap ≤ maxLen) : WinsAt w (some ⟨g, 0, none⟩) d.size cap d.toList := by
  refine ⟨by simp, h1, h2, fun _ => ⟨g, 0, rfl, hg, fun j hj => ?_⟩⟩
  have hj2 : j < d.size := by simpa using hj
  have e : wnAt d.toList j = d[j]! := by
    rw [← get_wn, getElem!_pos d j hj2, getElem!_pos d.toList j hj]; simp
  have c0 := (h.cell hj2 (c := 0) (by omega)).1
  have c1 := (h.cell hj2 (c := 1) (by omega)).1
  rw [e]
  exact ⟨c0, c1⟩
/-- what sorting the windows that are not empty gives -/
def AscOf (ps qs : List Wn) : Prop := Full qs ∧ Asc qs ∧ (∀ p, p ∈ qs ↔ p ∈ ps ∧ p.1 < p.2) ∧ qs.length ≤ ps.length
theorem asc_nil : AscOf [] [] := ⟨fun w h => (by cases h), List.Pairwise.nil, fun p => by simp, Nat.le_refl _⟩
theorem keep_lt (p : Wn) : keepB p = true ↔ p.1 < p.2 := by
  unfold keepB emptyB
  rw [Bool.not_eq_true', decide_eq_false_iff_not]
  omega
theorem asc_of (ps : List Wn) (d' : Array Wn) (hp : PermIn 0 (ps.filter keepB).toArray.size (ps.filter keepB).toArray d') (hs : SortedIn (ltOf fun x y : Wn => Lib.compareInt x.1 y.1) 0 (ps.filter keepB).toArray.size d') : AscOf ps d'.toList := by
  obtain ⟨h1, _, h3⟩ := hp
  have hperm : d'.toList.Perm (ps.filter keepB) := by
    have e1 : d'.extract 0 (ps.filter keepB).toArray.size = d' := by rw [← h1]; simp
    have e2 : (ps.filter keepB).toArray.extract 0 (ps.filter keepB).toArray.size = (ps.filter keepB).toArray := by simp
    rw [e1, e2] at h3
    simpa using h3
  have hm : ∀ p, p ∈ d'.toList ↔ p ∈ ps ∧ p.1 < p.2 := fun p => by rw [hperm.mem_iff, List.mem_filter, keep_lt]
  refine ⟨fun p hp => ((hm p).1 hp).2, ?_, hm, by rw [hperm.length_eq]; exact List.length_filter_le _ _⟩
  unfold Asc
  rw [List.pairwise_iff_getElem]
  intro i j hi hj hij
  have := hs i j (Nat.zero_le _) hij (by rw [← h1]; simpa using hj)
  rw [lt_from, decide_eq_false_iff_not] at this
  have ei : d'[i]! = d'.toList[i] := by rw [getElem!_pos d' i (by simpa using hi)]; simp
  have ej : d'[j]! = d'.toList[j] := by rw [getElem!_pos d' j (by simpa using hj)]; simp
  rw [ei, ej] at this
  omega

theorem sort_own (w : World) (base g n cap : Nat) (zs : List Wn) (h : w.ownsRow base 29 2 (.slice (some ⟨g, 0, none⟩) n cap) n (wcells zs)) (hn : n ≤ 1000) (hbase : base ≤ g) (hB : base ≤ w.heap.size) :
    Calls Tryz.prog 106 #[.slice (some ⟨g, 0, none⟩) n cap, .func (.func 107) #[] #[]] w fun e w' =>
      e = .returned (.tuple #[]) ∧ ∃ d', PermIn 0 zs.toArray.size zs.toArray d' ∧ SortedIn (ltOf fun x y : Wn => Lib.compareInt x.1 y.1) 0 zs.toArray.size d' ∧ WinsAt w' (some ⟨g, 0, none⟩) n cap d'.toList ∧ RowKit.Below base w w' := by
  have hl := own_len h
  have hsz : zs.toArray.size = n := by simpa using hl
  have hg := (h.lt g rfl).2
  have hcap : n ≤ cap ∧ cap ≤ maxLen := by
    obtain ⟨_, ⟨he, _⟩ | ⟨g', cap', cur, he, _, _, h4, h5, _⟩⟩ := h
    · cases he
    · cases he; exact ⟨h4, h5⟩
  have eg : ∀ args w, (callFunc 107 args).run Tryz.prog w = .ok (.enter 107 args) w := enters_of Tryz.func107 (by kernel_rfl) rfl
  have hH := holds_own h
  have hcon := AnyQ.slices_SortFunc Tryz.layF6 2 Tryz.isAgg29 Tryz.sizeOf29 encW (fun _ => rfl) (fun x v hv => by simp [encW] at hv; rcases hv with rfl | rfl <;> rfl) (fun x y => Lib.compareInt x.1 y.1) swo_from 107 #[] g 0 cap zs.toArray w eg (fun _ _ _ _ x y => cmp_s x y _) hH hg (by rw [hsz]; omega)
  rw [hsz] at hcon ⊢
  refine hcon.mono fun e w' h => ?_
  obtain ⟨he, d', m, os, hp, hs, rfl⟩ := h
  have hz : d'.size = n := by have := hp.1; omega
  have hH2 := holdsK_sortWorldK_c encW 2 w g 0 zs.toArray d' m os hH hg (by rw [hz, hsz])
  have hsw : g < (sortWorldK encW 2 w g 0 m d' os).heap.size := Nat.lt_of_lt_of_le hg (size_sortWorldK_c encW 2 w g 0 m d' os)
  have hw := wins_holds hH2 hsw (by rw [hz]; exact hcap.1) hcap.2
  rw [hz] at hw
  exact ⟨he, d', hp, hs, hw, below_sortK w base g m d' os hbase hB⟩

set_option maxRecDepth 100000 in
set_option maxHeartbeats 4000000 in
theorem asc_s (ao : Option Addr) (n cap : Nat) (ps : List Wn) (w : World) (h : WinsAt w ao n cap ps) (hn : n ≤ 1000) (h0 : ao = none → n = 0 ∧ cap = 0) :
    Calls Tryz.prog 87 #[.slice ao n cap] w fun e w' => ∃ bo m dap qs, e = .returned (.slice bo m dap) ∧ WinsAt w' bo m dap qs ∧ AscOf ps qs ∧ RowKit.Below w.heap.size w w' := by
  have H := Lib.hid h
  have H0 := Lib.hid h0
  have HPN := Lib.hid h.1
  clear h h0
  go_enter Tryz.func87, Tryz.ntmps87
  go_wp2_with fail
  refine (clone_s ao n cap ps _ H.out hn H0.out).mono ?_
  rintro e w1 ⟨v, rfl, hown, hb⟩
  rcases (show v = .slice none 0 0 ∧ n = 0 ∨ ∃ g c, v = .slice (some ⟨g, 0, none⟩) n c ∧ w.heap.size ≤ g from by
    obtain ⟨_, ⟨he, hz⟩ | ⟨g, c, cur, he, h2, _⟩⟩ := hown
    · exact .inl ⟨he, hz⟩
    · exact .inr ⟨g, c, he, h2⟩) with ⟨rfl, rfl⟩ | ⟨g, c, rfl, hg⟩
  · have hp : ps = [] := List.length_eq_zero_iff.1 HPN.out
    have HA := Lib.hid (show AscOf ps [] by rw [hp]; exact asc_nil)
    clear hown hp
    go_wp2_with fail
    refine (delete_nil _).mono ?_
    rintro e w' ⟨rfl, rfl⟩
    go_wp2_with fail
    refine Calls.mono (show Calls Tryz.prog 106 #[.slice none 0 0, .func (.func 107) #[] #[]] w1 _ from AnyF.slices_SortFunc_none Tryz.layF6 none 0 _ w1) ?_
    rintro e w' ⟨rfl, rfl⟩
    go_wp2_with fail
    go_ret
    exact ⟨none, 0, 0, [], rfl, ⟨rfl, Nat.le_refl _, Nat.zero_le _, fun h => absurd h (Nat.lt_irrefl _)⟩, HA.out, hb⟩
  · have HO := Lib.hid hown
    clear hown
    go_wp2_with fail
    refine (delete_own w1 w.heap.size g n c ps HO.out hn hg).mono ?_
    rintro e w2 ⟨m, rfl, hm, hown2, hb2⟩
    have HO2 := Lib.hid hown2
    clear hown2
    have HB2 := Lib.hid (hb.trans hb2)
    go_wp2_with fail
    refine (sort_own w2 w.heap.size g m c _ HO2.out (by omega) hg HB2.out.size).mono ?_
    rintro e w3 ⟨rfl, d', hp, hs, hw, hb3⟩
    have HA := Lib.hid (asc_of ps d' hp hs)
    have HW := Lib.hid hw
    clear hp hs hw
    go_wp2_with fail
    go_ret
    exact ⟨_, m, c, d'.toList, rfl, HW.out, HA.out, HB2.out.trans hb3⟩

end Go.Proofs.YtgepcbggkfjlgaaGreatDoor
end
