/-
  The specification's items as they lie in memory. Condition: at most 1000000000 items.
-/
import Derived.Test.YteoaekjhicphlaaOncM
import Derived.Lib.SmallJoins
import Derived.Deep.Slices
import Derived.Deep.Strs
import Derived.OpenShut
import Derived.ArgAppend
import Derived.Test.YteoaekjhicphlaaBaseLow
import Derived.Laws.AppendOwnNone
set_option maxRecDepth 100000
set_option linter.unusedVariables false
set_option linter.unusedSimpArgs false
set_option linter.unnecessarySimpa false
namespace Go.Proofs.Yteoaekjhicphlaa
open Go.RowKit Go.PlainAid Go.ChangeShapes Go.WideShapes Go.ChangeAt

structure Itm where
  id : ByteArray
  un : Int
theorem Itm.ext' {g h : Itm} (h0 : g.id = h.id) (h1 : g.un = h.un) : g = h := by
  cases g; cases h; simp only at h0 h1; subst h0 h1; rfl
instance : DecidableEq Itm := fun g h => decidable_of_iff (g.id = h.id ∧ g.un = h.un)
  ⟨fun ⟨h0, h1⟩ => Itm.ext' h0 h1, fun e => by rw [e]; exact ⟨rfl, rfl⟩⟩
def itZ : Itm := ⟨⟨#[]⟩, 0⟩
def itcells (g : Itm) : List Value := [.string g.id, .int .i64 g.un]
def itV (g : Itm) : Value := .agg (itcells g).toArray
def itB (g : Itm) : Obj := .cells (itcells g).toArray 57
def itA (l : List Itm) (j : Nat) : Itm := l.getD j itZ
theorem it_get {l : List Itm} {j : Nat} (h : j < l.length) : itA l j = l[j] := by unfold itA; rw [List.getD_eq_getElem?_getD, List.getElem?_eq_getElem h]; rfl
theorem it_mem {l : List Itm} {j : Nat} (h : j < l.length) : itA l j ∈ l := by rw [it_get h]; exact List.getElem_mem h
theorem take_it (l : List Itm) (k : Nat) (h : k < l.length) : l.take (k + 1) = l.take k ++ [itA l k] := by
  rw [List.take_add_one, List.getElem?_eq_getElem h, it_get h]; rfl
theorem its_ext {ps qs : List Itm} (hl : ps.length = qs.length) (h : ∀ j, j < ps.length → itA ps j = itA qs j) : ps = qs := by
  apply List.ext_getElem hl
  intro j h1 h2
  have := h j h1
  rwa [it_get h1, it_get h2] at this
/-- the cells of one, at a place -/
structure AtIt (w : World) (b o : Nat) (g : Itm) : Prop where
  c0 : w.cell? ⟨b, o, none⟩ = some (.string g.id)
  c1 : w.cell? ⟨b, o + 1, none⟩ = some (.int .i64 g.un)
theorem AtIt.below {w w' : World} {b o : Nat} {g : Itm} (h : AtIt w b o g) {B : Nat} (hb : Below B w w') (hB : b < B) : AtIt w' b o g :=
  ⟨(hb.cell (p := ⟨b, o, none⟩) hB).trans h.c0, (hb.cell (p := ⟨b, o + 1, none⟩) hB).trans h.c1⟩
theorem AtIt.of_box {W : World} {b : Nat} {g : Itm} (h : KbC W b (itB g)) : AtIt W b 0 g :=
  ⟨h.cell rfl, h.cell rfl⟩
theorem AtIt.of_at {w : World} {b o : Nat} {g : Itm} (h : ∀ k, k < 2 → w.cell? ⟨b, o + k, none⟩ = (itcells g)[k]?) : AtIt w b o g :=
  ⟨h 0 (by omega), h 1 (by omega)⟩
theorem itcells_len (g : Itm) : (itcells g).length = 2 := rfl
def IsIts (w : World) (b off : Nat) (ps : List Itm) : Prop :=
  b < w.heap.size ∧ ∀ j, j < ps.length → ∀ k, k < 2 → w.cell? ⟨b, off + j * 2 + k, none⟩ = (itcells (itA ps j))[k]?
theorem IsIts.below {w w' : World} {b off : Nat} {ps : List Itm} (h : IsIts w b off ps) {B : Nat} (hb : Below B w w') (hB : b < B) : IsIts w' b off ps :=
  ⟨Nat.lt_of_lt_of_le h.1 hb.size, fun j hj k hk => by rw [hb.cell (p := ⟨b, off + j * 2 + k, none⟩) hB]; exact h.2 j hj k hk⟩
theorem IsIts.at_ {w : World} {b off : Nat} {ps : List Itm} (h : IsIts w b off ps) {j : Nat} (hj : j < ps.length) : AtIt w b (off + j * 2) (itA ps j) := .of_at (h.2 j hj)
def ItsAt (w : World) (ao : Option Addr) (n cap : Nat) (ps : List Itm) : Prop :=
  ps.length = n ∧ n ≤ cap ∧ cap ≤ maxLen ∧ (0 < n → ∃ b off, ao = some ⟨b, off, none⟩ ∧ IsIts w b off ps) ∧ (ao = none → cap = 0)
theorem ItsAt.below {w w' : World} {ao : Option Addr} {n cap : Nat} {ps : List Itm} (h : ItsAt w ao n cap ps) (hb : Below w.heap.size w w') : ItsAt w' ao n cap ps :=
  ⟨h.1, h.2.1, h.2.2.1, fun hn => by
    obtain ⟨b, off, e, hi⟩ := h.2.2.2.1 hn
    exact ⟨b, off, e, hi.below hb hi.1⟩, h.2.2.2.2⟩
theorem its_nil (w : World) : ItsAt w none 0 0 [] := ⟨rfl, Nat.le_refl _, by unfold maxLen; omega, fun h => absurd h (Nat.lt_irrefl _), fun _ => rfl⟩
def itcs (l : List Itm) : List Value := l.flatMap itcells
theorem itcs_app (l m : List Itm) : itcs (l ++ m) = itcs l ++ itcs m := by simp [itcs]
theorem itcs_len : ∀ l : List Itm, (itcs l).length = l.length * 2
  | [] => rfl
  | q :: l => by
    have h := itcs_len l
    have e : itcs (q :: l) = itcells q ++ itcs l := rfl
    rw [e, List.length_append, h, itcells_len, List.length_cons]; omega
theorem itcs_at : ∀ (l : List Itm) (j k : Nat), j < l.length → k < 2 → (itcs l)[j * 2 + k]? = (itcells (itA l j))[k]?
  | [], j, k, h, _ => absurd h (Nat.not_lt_zero _)
  | q :: l, 0, k, h, hk => by
    have e : itcs (q :: l) = itcells q ++ itcs l := rfl
    rw [e, Nat.zero_mul, Nat.zero_add, List.getElem?_append_left (by rw [itcells_len]; exact hk)]; rfl
  | q :: l, j + 1, k, h, hk => by
    have := itcs_at l j k (by simpa using h) hk
    have e : itcs (q :: l) = itcells q ++ itcs l := rfl
    rw [e, List.getElem?_append_right (by rw [itcells_len]; omega), itcells_len, show (j + 1) * 2 + k - 2 = j * 2 + k by omega, this]; rfl
theorem itcs_one (l : List Itm) : ∀ u ∈ itcs l, u.oneCell' = true := by
  intro u hu
  obtain ⟨q, _, hp⟩ := List.mem_flatMap.1 hu
  simp [itcells] at hp
  rcases hp with rfl | rfl <;> rfl
theorem info_it : (Try.prog.info? 57).map (fun i => (i.zero, i.size, i.bytes)) = some (some (.agg #[.string ⟨#[]⟩, .int .i64 0]), 2, 24) := by kernel_rfl
theorem it_parts {t : TypeId} {z : Value} {n b : Nat} (h : (Try.prog.info? t).map (fun i => (i.zero, i.size, i.bytes)) = some (some z, n, b)) : ∃ i, Try.prog.info? t = some i ∧ i.zero = some z ∧ i.size = n ∧ i.bytes = b := by
  cases hi : Try.prog.info? t with
  | none => rw [hi] at h; cases h
  | some i =>
    rw [hi] at h
    simp only [Option.map_some, Option.some.injEq, Prod.mk.injEq] at h
    exact ⟨i, rfl, h.1, h.2.1, h.2.2⟩
theorem its_cells {w : World} {b off : Nat} {ps : List Itm} (h : IsIts w b off ps) : ∀ j u, (itcs ps)[j]? = some u → w.cell? ((⟨b, off, none⟩ : Addr).add j) = some u := by
  intro j u hj
  rw [WideShapes.add_plain]
  have hl : j < (itcs ps).length := by
    rcases Nat.lt_or_ge j (itcs ps).length with k | k
    · exact k
    · rw [List.getElem?_eq_none k] at hj; cases hj
  rw [itcs_len] at hl
  have hk := itcs_at ps (j / 2) (j % 2) (by omega) (by omega)
  have hc := h.2 (j / 2) (by omega) (j % 2) (by omega)
  rw [show j / 2 * 2 + j % 2 = j by omega] at hk
  rw [show off + j / 2 * 2 + j % 2 = off + j by omega, ← hk] at hc
  rw [hc]; exact hj
/-- 'l = append(l, gs...)' where l is the call's own -/
theorem app_its {ops : Array Oper} {rest : List Oper} {o : Oper} {a : Act} {Q : Exit → Act → World → Prop} (wr : World) {base : Nat} {v : Value} {n : Nat} {xs : List Value} (hown : wr.ownsRow base 57 2 v n xs) (s x : Operand)
    (ao : Option Addr) (m c : Nat) (news : List Itm) (hgd : o.guard = none)
    (ho : o.op = .call { callee := .builtin .append, args := #[s, x], argTypes := #[52, 52] })
    (hs : a.eval s = v) (hx : a.eval x = .slice ao m c) (hw : ItsAt wr ao m c news) (hn : n + m ≤ 1000000000) (hbase : base ≤ wr.heap.size)
    (h : ∀ v' w', w'.ownsRow base 57 2 v' (n + m) (xs ++ itcs news) → Below base wr w' → wpList Try.prog ops Q rest (a.put o.dst v') w') :
    wpList Try.prog ops Q (o :: rest) a wr := by
  obtain ⟨i0, hi, hz0, hz1, hz2⟩ := it_parts info_it
  obtain ⟨w1, w2, w3, w4, w5⟩ := hw
  cases ao with
  | none =>
    have hc := w5 rfl
    subst hc
    have hm : m = 0 := by omega
    subst hm
    have hnil : news = [] := List.length_eq_zero_iff.1 w1
    subst hnil
    refine wpList_append_own_none hgd s x 52 ho base 57 i0 2 Try.underlying52 hi v n xs hs hown hx ?_
    have := h v wr (by rw [show itcs [] = [] from rfl, List.append_nil]; exact hown) (Below.refl _ _)
    exact this
  | some ad =>
    have hnews : ∀ j u, (itcs news)[j]? = some u → wr.cell? (ad.add j) = some u := by
      rcases Nat.eq_zero_or_pos m with e | e
      · have hnil : news = [] := List.length_eq_zero_iff.1 (by omega)
        subst hnil
        intro j u hj; simp [itcs] at hj
      · obtain ⟨b, off, e2, hi2⟩ := w4 e
        cases e2
        exact its_cells hi2
    refine wpList_append_own _ hgd s x 52 ho base 57 i0 (.agg #[.string ⟨#[]⟩, .int .i64 0]) 2 24 Try.underlying52 hi hz0 hz1 hz2 rfl (by decide) v n xs hs hown ad m c (itcs news) hx (by rw [itcs_len, w1]) hnews
      (itcs_one _) (by unfold maxLen; omega) (by omega) hbase ?_
    intro v' w' h1 h2 _
    exact h v' w' h1 ((Below.refl base wr).grown h2 hbase (fun k hk => (hown.lt k hk).1))
theorem its_of_owns {w : World} {base : Nat} {v : Value} {n : Nat} {ps : List Itm} (h : w.ownsRow base 57 2 v n (itcs ps)) : ∃ ao cap, v = .slice ao n cap ∧ ItsAt w ao n cap ps := by
  have h0 := h
  obtain ⟨hl, ⟨rfl, hz⟩ | ⟨g, cap, cur, rfl, h2, h3, h4, h5, h6⟩⟩ := h
  · rw [itcs_len] at hl
    have hn : ps.length = n := by omega
    subst hz
    exact ⟨none, 0, rfl, hn, Nat.le_refl _, by unfold maxLen; omega, fun h => absurd h (Nat.lt_irrefl _), fun _ => rfl⟩
  · rw [itcs_len] at hl
    have hlen : ps.length = n := by omega
    refine ⟨some ⟨g, 0, none⟩, cap, rfl, hlen, h4, h5, fun _ => ⟨g, 0, rfl, (Array.getElem?_eq_some_iff.1 h3).1, fun j hj k hk => ?_⟩, fun e => (by cases e)⟩
    have hk2 := itcs_at ps j k hj hk
    obtain ⟨u, hu⟩ : ∃ u, (itcells (itA ps j))[k]? = some u := ⟨(itcells (itA ps j))[k]'(by rw [itcells_len]; exact hk), List.getElem?_eq_getElem _⟩
    rw [hu] at hk2 ⊢
    have := h0.cells rfl _ _ hk2
    rw [WideShapes.add_plain] at this
    rw [show 0 + j * 2 + k = 0 + (j * 2 + k) by omega]; exact this
theorem ItsAt.empty {w : World} {ao : Option Addr} {cap : Nat} {ps : List Itm} (h : ItsAt w ao 0 cap ps) : ps = [] := List.length_eq_zero_iff.1 h.1

end Go.Proofs.Yteoaekjhicphlaa
