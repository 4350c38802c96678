/-
  The walk of identitylaw04.ClockWindows. No condition beyond the two tables.
-/
import Derived.Test.YtnncfifpgjlpaabDoorClkLaws
import Derived.Deep.DeepCutAuto
import Derived.Deep.RegionWith
set_option linter.unusedVariables false
set_option linter.unusedSimpArgs false
set_option linter.unnecessarySimpa false
namespace Go.Proofs.YtnncfifpgjlpaabDoor
open Go.ChangeShapes Go.WideShapes Go.ChangeAt Go.RowKit Go.PlainAid

def covB (l : List Wn) (t : Int) : Bool := l.any fun w => inW w.1 w.2 t
theorem covB_snoc (l : List Wn) (w : Wn) (t : Int) : covB (l ++ [w]) t = (covB l t || inW w.1 w.2 t) := by
  unfold covB; rw [List.any_append, List.any_cons, List.any_nil, Bool.or_false]
theorem lim_in {t : Int} (h0 : 0 ≤ t) (h1 : t ≤ 1099511627776) : limI t = t := by unfold limI; omega
theorem inW_iff {t : Int} (h0 : 0 ≤ t) (h1 : t ≤ 1099511627776) (a b : Int) : inW a b t = true ↔ a ≤ t ∧ t < b := by
  unfold inW
  rw [lim_in h0 h1, Bool.and_eq_true, decide_eq_true_iff, decide_eq_true_iff]
theorem covB_iff {t : Int} (h0 : 0 ≤ t) (h1 : t ≤ 1099511627776) (l : List Wn) : covB l t = true ↔ cov l t := by
  unfold covB cov
  rw [List.any_eq_true]
  constructor
  · rintro ⟨w, hw, h⟩; exact ⟨w, hw, (inW_iff h0 h1 _ _).1 h⟩
  · rintro ⟨w, hw, h⟩; exact ⟨w, hw, (inW_iff h0 h1 _ _).2 h⟩
theorem covB_union {t : Int} (h0 : 0 ≤ t) (h1 : t ≤ 1099511627776) (l : List Wn) : covB (unionW l) t = covB l t := by
  rw [Bool.eq_iff_iff, covB_iff h0 h1, covB_iff h0 h1]; exact (union_ok l).2 t
theorem com_in {t : Int} (h0 : 0 ≤ t) (h1 : t ≤ 1099511627776) (u v : Wn) : (comB u v && inW (comW u v).1 (comW u v).2 t) = (inW u.1 u.2 t && inW v.1 v.2 t) := by
  rw [Bool.eq_iff_iff, Bool.and_eq_true, Bool.and_eq_true, inW_iff h0 h1, inW_iff h0 h1, inW_iff h0 h1]
  unfold comB comW
  by_cases h : min u.2 v.2 ≤ max u.1 v.1
  · rw [decide_eq_true h, if_pos h]; simp; omega
  · rw [decide_eq_false h, if_neg h]; simp; omega
theorem check_in {t : Int} (h0 : 0 ≤ t) (h1 : t ≤ 1099511627776) (a b : Int) (h : a < b) : (checkI a b t 0 == 0) = inW a b t := by
  rw [Bool.eq_iff_iff, beq_iff_eq, inW_iff h0 h1]
  unfold checkI skewI
  rw [lim_in h0 h1]
  split
  · omega
  · split
    · omega
    · split <;> omega
theorem check_more (a b t k : Int) : (checkI a b t k != 0) = true ∨ checkI a b t (k + 1) = 0 := by
  rw [bne_iff_ne]
  unfold checkI skewI
  by_cases h1 : b < a
  · rw [if_pos h1]; exact .inl (by decide)
  · rw [if_neg h1, if_neg h1]
    by_cases h2 : limI t + min (max k 0) 600 < a
    · rw [if_pos h2]; exact .inl (by decide)
    · rw [if_neg h2]
      by_cases h3 : b ≤ limI t - min (max k 0) 600
      · rw [if_pos h3]; exact .inl (by decide)
      · right
        rw [if_neg (by omega), if_neg (by omega)]
/-- the cells of the first two windows, and what lay before, behind an operation of the call's own -/
theorem keep4 {w W W' : World} {bl off : Nat} {u0 u1 v0 v1 : Int} (hbl : bl < w.heap.size) (hb : Below w.heap.size W W')
    (h : W.cell? ⟨bl, off, none⟩ = some (.int .i64 u0) ∧ W.cell? ⟨bl, off + 1, none⟩ = some (.int .i64 u1) ∧ W.cell? ⟨bl, off + 2, none⟩ = some (.int .i64 v0) ∧ W.cell? ⟨bl, off + 2 + 1, none⟩ = some (.int .i64 v1) ∧ Hid (Below w.heap.size w W)) :
    W'.cell? ⟨bl, off, none⟩ = some (.int .i64 u0) ∧ W'.cell? ⟨bl, off + 1, none⟩ = some (.int .i64 u1) ∧ W'.cell? ⟨bl, off + 2, none⟩ = some (.int .i64 v0) ∧ W'.cell? ⟨bl, off + 2 + 1, none⟩ = some (.int .i64 v1) ∧ Hid (Below w.heap.size w W') := by
  obtain ⟨h0, h1, h2, h3, h4⟩ := h
  exact ⟨by rw [hb.cell (p := ⟨bl, off, none⟩) hbl]; exact h0, by rw [hb.cell (p := ⟨bl, off + 1, none⟩) hbl]; exact h1, by rw [hb.cell (p := ⟨bl, off + 2, none⟩) hbl]; exact h2, by rw [hb.cell (p := ⟨bl, off + 2 + 1, none⟩) hbl]; exact h3, Lib.hid (h4.out.trans hb)⟩
theorem keep_call {w W W' : World} {bl off : Nat} {u0 u1 v0 v1 : Int} (hbl : bl < w.heap.size) (hb : Below W.heap.size W W')
    (h : W.cell? ⟨bl, off, none⟩ = some (.int .i64 u0) ∧ W.cell? ⟨bl, off + 1, none⟩ = some (.int .i64 u1) ∧ W.cell? ⟨bl, off + 2, none⟩ = some (.int .i64 v0) ∧ W.cell? ⟨bl, off + 2 + 1, none⟩ = some (.int .i64 v1) ∧ Hid (Below w.heap.size w W)) :
    W'.cell? ⟨bl, off, none⟩ = some (.int .i64 u0) ∧ W'.cell? ⟨bl, off + 1, none⟩ = some (.int .i64 u1) ∧ W'.cell? ⟨bl, off + 2, none⟩ = some (.int .i64 v0) ∧ W'.cell? ⟨bl, off + 2 + 1, none⟩ = some (.int .i64 v1) ∧ Hid (Below w.heap.size w W') := keep4 hbl (hb.mono h.2.2.2.2.out.size) h
theorem keep_alloc {w W : World} {bl off : Nat} {u0 u1 v0 v1 : Int} (hbl : bl < w.heap.size) (o : Obj)
    (h : W.cell? ⟨bl, off, none⟩ = some (.int .i64 u0) ∧ W.cell? ⟨bl, off + 1, none⟩ = some (.int .i64 u1) ∧ W.cell? ⟨bl, off + 2, none⟩ = some (.int .i64 v0) ∧ W.cell? ⟨bl, off + 2 + 1, none⟩ = some (.int .i64 v1) ∧ Hid (Below w.heap.size w W)) :
    (W.alloc o).cell? ⟨bl, off, none⟩ = some (.int .i64 u0) ∧ (W.alloc o).cell? ⟨bl, off + 1, none⟩ = some (.int .i64 u1) ∧ (W.alloc o).cell? ⟨bl, off + 2, none⟩ = some (.int .i64 v0) ∧ (W.alloc o).cell? ⟨bl, off + 2 + 1, none⟩ = some (.int .i64 v1) ∧ Hid (Below w.heap.size w (W.alloc o)) := keep4 hbl ((Below.refl _ _).alloc h.2.2.2.2.out.size _) h
theorem keep_set {w W : World} {bl off : Nat} {u0 u1 v0 v1 : Int} (hbl : bl < w.heap.size) (B : Nat) (hB : w.heap.size ≤ B) (x y : Value)
    (h : W.cell? ⟨bl, off, none⟩ = some (.int .i64 u0) ∧ W.cell? ⟨bl, off + 1, none⟩ = some (.int .i64 u1) ∧ W.cell? ⟨bl, off + 2, none⟩ = some (.int .i64 v0) ∧ W.cell? ⟨bl, off + 2 + 1, none⟩ = some (.int .i64 v1) ∧ Hid (Below w.heap.size w W)) :
    ((W.setCell ⟨B, 0, none⟩ x).setCell ⟨B, 1, none⟩ y).cell? ⟨bl, off, none⟩ = some (.int .i64 u0) ∧ ((W.setCell ⟨B, 0, none⟩ x).setCell ⟨B, 1, none⟩ y).cell? ⟨bl, off + 1, none⟩ = some (.int .i64 u1) ∧ ((W.setCell ⟨B, 0, none⟩ x).setCell ⟨B, 1, none⟩ y).cell? ⟨bl, off + 2, none⟩ = some (.int .i64 v0) ∧ ((W.setCell ⟨B, 0, none⟩ x).setCell ⟨B, 1, none⟩ y).cell? ⟨bl, off + 2 + 1, none⟩ = some (.int .i64 v1) ∧ Hid (Below w.heap.size w ((W.setCell ⟨B, 0, none⟩ x).setCell ⟨B, 1, none⟩ y)) := keep4 hbl (((Below.refl _ _).setCell (p := ⟨B, 0, none⟩) hB _).setCell (p := ⟨B, 1, none⟩) hB _) h
/-- a box of two cells stays behind a call -/
theorem keep_box {X W : World} {a b : Value} {T : TypeId} (hb : Below (X.alloc (.cells #[a, b] T)).drew.heap.size (X.alloc (.cells #[a, b] T)).drew W) :
    W.cell? ⟨X.heap.size, 0, none⟩ = some a ∧ W.cell? ⟨X.heap.size, 1, none⟩ = some b ∧ W.frozen? ⟨X.heap.size, 0, none⟩ = false ∧ W.frozen? ⟨X.heap.size, 1, none⟩ = false ∧ X.heap.size < W.heap.size := by
  have hlt : X.heap.size < (X.alloc (.cells #[a, b] T)).drew.heap.size := by show X.heap.size < (X.alloc _).heap.size; simp
  have hc : (X.alloc (.cells #[a, b] T)).heap[X.heap.size]? = some (.cells #[a, b] T (0, 0)) := heap_alloc_new X _
  rw [hb.cell (p := ⟨X.heap.size, 0, none⟩) hlt, hb.cell (p := ⟨X.heap.size, 1, none⟩) hlt, hb.frozen (p := ⟨X.heap.size, 0, none⟩) hlt, hb.frozen (p := ⟨X.heap.size, 1, none⟩) hlt]
  refine ⟨?_, ?_, ?_, ?_, Nat.lt_of_lt_of_le hlt hb.size⟩
  · show World.cell? (X.alloc _) _ = _
    unfold World.cell?; rw [hc]; rfl
  · show World.cell? (X.alloc _) _ = _
    unfold World.cell?; rw [hc]; rfl
  · show World.frozen? (X.alloc _) _ = _
    unfold World.frozen?; rw [hc]; rfl
  · show World.frozen? (X.alloc _) _ = _
    unfold World.frozen?; rw [hc]; rfl
theorem common_kb (u v r : Wn) (b : Bool) (X : World) (a c : Value) (T : TypeId) (h : comW u v = r) (hb : comB u v = b) :
    Calls Tryd.prog 21 #[.agg #[.int .i64 u.1, .int .i64 u.2], .agg #[.int .i64 v.1, .int .i64 v.2]] (X.alloc (.cells #[a, c] T)).drew fun e w' => e = .returned (.tuple #[.agg #[.int .i64 r.1, .int .i64 r.2], .bool b]) ∧ Below (X.alloc (.cells #[a, c] T)).drew.heap.size (X.alloc (.cells #[a, c] T)).drew w' ∧
      w'.cell? ⟨X.heap.size, 0, none⟩ = some a ∧ w'.cell? ⟨X.heap.size, 1, none⟩ = some c ∧ w'.frozen? ⟨X.heap.size, 0, none⟩ = false ∧ w'.frozen? ⟨X.heap.size, 1, none⟩ = false ∧ X.heap.size < w'.heap.size :=
  (common_k u v r b _ h hb).mono fun e w' k => ⟨k.1, k.2, keep_box k.2⟩
theorem keep_again {w W : World} {bl off : Nat} {u0 u1 v0 v1 : Int} (hbl : bl < w.heap.size) {o : Obj} (o' : Obj) (hW : w.heap.size ≤ W.heap.size)
    (h : (W.alloc o).cell? ⟨bl, off, none⟩ = some (.int .i64 u0) ∧ (W.alloc o).cell? ⟨bl, off + 1, none⟩ = some (.int .i64 u1) ∧ (W.alloc o).cell? ⟨bl, off + 2, none⟩ = some (.int .i64 v0) ∧ (W.alloc o).cell? ⟨bl, off + 2 + 1, none⟩ = some (.int .i64 v1) ∧ Hid (Below w.heap.size w (W.alloc o))) :
    (W.alloc o').cell? ⟨bl, off, none⟩ = some (.int .i64 u0) ∧ (W.alloc o').cell? ⟨bl, off + 1, none⟩ = some (.int .i64 u1) ∧ (W.alloc o').cell? ⟨bl, off + 2, none⟩ = some (.int .i64 v0) ∧ (W.alloc o').cell? ⟨bl, off + 2 + 1, none⟩ = some (.int .i64 v1) ∧ Hid (Below w.heap.size w (W.alloc o')) := by
  have hb : Below w.heap.size (W.alloc o) (W.alloc o') := ⟨rfl, rfl, rfl, by show (W.heap.push o).size ≤ (W.heap.push o').size; simp, fun k hk => by
    rw [Below.heap_alloc W o' k (by omega), Below.heap_alloc W o k (by omega)]⟩
  exact keep4 hbl hb h
theorem set_box {W : World} {B : Nat} {a b : Value} (z0 : W.cell? ⟨B, 0, none⟩ = some a) (z1 : W.cell? ⟨B, 1, none⟩ = some b) (x y : Value) :
    ((W.setCell ⟨B, 0, none⟩ x).setCell ⟨B, 1, none⟩ y).cell? ⟨B, 0, none⟩ = some x ∧ ((W.setCell ⟨B, 0, none⟩ x).setCell ⟨B, 1, none⟩ y).cell? ⟨B, 1, none⟩ = some y := by
  have h1 : (W.setCell ⟨B, 0, none⟩ x).cell? ⟨B, 1, none⟩ = some b := by rw [World.cell?_setCell_other _ _ _ _ (by simp)]; exact z1
  refine ⟨?_, World.cell?_setCell_same _ _ _ h1⟩
  rw [World.cell?_setCell_other _ _ _ _ (by simp)]
  exact World.cell?_setCell_same _ _ _ z0
theorem keep6 {w W W' : World} {bl off Bc : Nat} {u0 u1 v0 v1 x y : Int} (hb : Below W.heap.size W W')
    (h : W.cell? ⟨bl, off, none⟩ = some (.int .i64 u0) ∧ W.cell? ⟨bl, off + 1, none⟩ = some (.int .i64 u1) ∧ W.cell? ⟨bl, off + 2, none⟩ = some (.int .i64 v0) ∧ W.cell? ⟨bl, off + 2 + 1, none⟩ = some (.int .i64 v1) ∧ W.cell? ⟨Bc, 0, none⟩ = some (.int .i64 x) ∧ W.cell? ⟨Bc, 1, none⟩ = some (.int .i64 y) ∧ Hid (Below w.heap.size w W ∧ bl < w.heap.size ∧ Bc < W.heap.size)) :
    W'.cell? ⟨bl, off, none⟩ = some (.int .i64 u0) ∧ W'.cell? ⟨bl, off + 1, none⟩ = some (.int .i64 u1) ∧ W'.cell? ⟨bl, off + 2, none⟩ = some (.int .i64 v0) ∧ W'.cell? ⟨bl, off + 2 + 1, none⟩ = some (.int .i64 v1) ∧ W'.cell? ⟨Bc, 0, none⟩ = some (.int .i64 x) ∧ W'.cell? ⟨Bc, 1, none⟩ = some (.int .i64 y) ∧ Hid (Below w.heap.size w W' ∧ bl < w.heap.size ∧ Bc < W'.heap.size) := by
  obtain ⟨h0, h1, h2, h3, h4, h5, h6⟩ := h
  obtain ⟨k1, k2, k3⟩ := h6.out
  have hw := k1.size
  exact ⟨by rw [hb.cell (p := ⟨bl, off, none⟩) (by show bl < _; omega)]; exact h0, by rw [hb.cell (p := ⟨bl, off + 1, none⟩) (by show bl < _; omega)]; exact h1, by rw [hb.cell (p := ⟨bl, off + 2, none⟩) (by show bl < _; omega)]; exact h2, by rw [hb.cell (p := ⟨bl, off + 2 + 1, none⟩) (by show bl < _; omega)]; exact h3, by rw [hb.cell (p := ⟨Bc, 0, none⟩) k3]; exact h4, by rw [hb.cell (p := ⟨Bc, 1, none⟩) k3]; exact h5, Lib.hid ⟨k1.trans (hb.mono hw), k2, Nat.lt_of_lt_of_le k3 hb.size⟩⟩
theorem in6 {w W : World} {bl off Bc : Nat} {u0 u1 v0 v1 x y : Int} (a b t : Int) (r : Bool) (hr : inW a b t = r)
    (h : W.cell? ⟨bl, off, none⟩ = some (.int .i64 u0) ∧ W.cell? ⟨bl, off + 1, none⟩ = some (.int .i64 u1) ∧ W.cell? ⟨bl, off + 2, none⟩ = some (.int .i64 v0) ∧ W.cell? ⟨bl, off + 2 + 1, none⟩ = some (.int .i64 v1) ∧ W.cell? ⟨Bc, 0, none⟩ = some (.int .i64 x) ∧ W.cell? ⟨Bc, 1, none⟩ = some (.int .i64 y) ∧ Hid (Below w.heap.size w W ∧ bl < w.heap.size ∧ Bc < W.heap.size)) :
    Calls Tryd.prog 17 #[.agg #[.int .i64 a, .int .i64 b], .int .i64 t] W fun e w' => e = .returned (.bool r) ∧ w'.cell? ⟨bl, off, none⟩ = some (.int .i64 u0) ∧ w'.cell? ⟨bl, off + 1, none⟩ = some (.int .i64 u1) ∧ w'.cell? ⟨bl, off + 2, none⟩ = some (.int .i64 v0) ∧ w'.cell? ⟨bl, off + 2 + 1, none⟩ = some (.int .i64 v1) ∧ w'.cell? ⟨Bc, 0, none⟩ = some (.int .i64 x) ∧ w'.cell? ⟨Bc, 1, none⟩ = some (.int .i64 y) ∧ Hid (Below w.heap.size w w' ∧ bl < w.heap.size ∧ Bc < w'.heap.size) :=
  (in_k a b t r W hr).mono fun e w' k => ⟨k.1, keep6 k.2 h⟩
theorem keep2 {w W W' : World} {bl off : Nat} {u0 u1 : Int} (hb : Below W.heap.size W W')
    (h : W.cell? ⟨bl, off, none⟩ = some (.int .i64 u0) ∧ W.cell? ⟨bl, off + 1, none⟩ = some (.int .i64 u1) ∧ Hid (Below w.heap.size w W ∧ bl < w.heap.size)) : W'.cell? ⟨bl, off, none⟩ = some (.int .i64 u0) ∧ W'.cell? ⟨bl, off + 1, none⟩ = some (.int .i64 u1) ∧ Hid (Below w.heap.size w W' ∧ bl < w.heap.size) := by
  obtain ⟨h0, h1, h6⟩ := h
  obtain ⟨k1, k2⟩ := h6.out
  have hw := k1.size
  exact ⟨by rw [hb.cell (p := ⟨bl, off, none⟩) (by show bl < _; omega)]; exact h0, by rw [hb.cell (p := ⟨bl, off + 1, none⟩) (by show bl < _; omega)]; exact h1, Lib.hid ⟨k1.trans (hb.mono hw), k2⟩⟩
theorem in2 {w W : World} {bl off : Nat} {u0 u1 : Int} (a b t : Int) (r : Bool) (hr : inW a b t = r)
    (h : W.cell? ⟨bl, off, none⟩ = some (.int .i64 u0) ∧ W.cell? ⟨bl, off + 1, none⟩ = some (.int .i64 u1) ∧ Hid (Below w.heap.size w W ∧ bl < w.heap.size)) : Calls Tryd.prog 17 #[.agg #[.int .i64 a, .int .i64 b], .int .i64 t] W fun e w' => e = .returned (.bool r) ∧ w'.cell? ⟨bl, off, none⟩ = some (.int .i64 u0) ∧ w'.cell? ⟨bl, off + 1, none⟩ = some (.int .i64 u1) ∧ Hid (Below w.heap.size w w' ∧ bl < w.heap.size) :=
  (in_k a b t r W hr).mono fun e w' k => ⟨k.1, keep2 k.2 h⟩
theorem check2 {w W : World} {bl off : Nat} {u0 u1 : Int} (a b t k r : Int) (hr : checkI a b t k = r)
    (h : W.cell? ⟨bl, off, none⟩ = some (.int .i64 u0) ∧ W.cell? ⟨bl, off + 1, none⟩ = some (.int .i64 u1) ∧ Hid (Below w.heap.size w W ∧ bl < w.heap.size)) : Calls Tryd.prog 19 #[.agg #[.int .i64 a, .int .i64 b], .int .i64 t, .int .i64 k] W fun e w' => e = .returned (.int .i64 r) ∧ w'.cell? ⟨bl, off, none⟩ = some (.int .i64 u0) ∧ w'.cell? ⟨bl, off + 1, none⟩ = some (.int .i64 u1) ∧ Hid (Below w.heap.size w w' ∧ bl < w.heap.size) :=
  (check_k a b t k r W hr).mono fun e w' k => ⟨k.1, keep2 k.2 h⟩
theorem norm_at {l : List Wn} (h : Norm l) (k : Nat) (hk : k < l.length) : (wnAt l k).1 < (wnAt l k).2 := by
  have e : wnAt l k = l[k] := by rw [← get_wn, getElem!_pos l k hk]
  rw [e]; exact h.1 _ (List.getElem_mem hk)
theorem norm_next {l : List Wn} (h : Norm l) (k : Nat) (hk : k + 1 < l.length) : (wnAt l k).2 < (wnAt l (k + 1)).1 := by
  have e : wnAt l k = l[k] := by rw [← get_wn, getElem!_pos l k (by omega)]
  have e2 : wnAt l (k + 1) = l[k + 1] := by rw [← get_wn, getElem!_pos l (k + 1) hk]
  rw [e, e2]
  exact List.pairwise_iff_getElem.1 h.2 k (k + 1) (by omega) hk (by omega)
set_option maxRecDepth 100000 in
set_option maxHeartbeats 4000000 in
theorem windows_s (lo : Option Addr) (ln lc : Nat) (ll : List Wn) (t kk : Int) (w : World) (hs : WinsAt w lo ln lc ll ∧ (lo = none → ln = 0 ∧ lc = 0)) (ht : (Lit.int .i64 t).wf = true) (hkk : (Lit.int .i64 kk).wf = true) (ho : TabOk w) :
    Calls Tryd.prog 7 #[.slice lo ln lc, .int .i64 t, .int .i64 kk] w fun e w' => e = .returned (.bool true) ∧ Below w.heap.size w w' := by
  have B0 := Below.refl w.heap.size w
  have O0 := ho
  have HS := Lib.hid hs.1
  have HZ := Lib.hid hs.2
  have hcap1 := hs.1.2.1
  have hcap2 := hs.1.2.2.1
  obtain rfl := hs.1.1
  unfold maxLen at hcap2
  clear hs
  by_cases h1 : 12 < ll.length
  · have k1 : (12 : Int) < (ll.length : Int) := by omega
    go_enter Tryd.func7, Tryd.ntmps7
    go_wp2_with fail
    refine (live_k _ O0).mono ?_
    rintro e w1 ⟨rfl, hb⟩
    have B1 := B0.trans (hb.mono B0.size)
    have O1 := O0.below hb
    clear hb
    go_wp2_with fail
    go_ret
    exact ⟨rfl, B1⟩
  have g1 : ¬ (12 : Int) < (ll.length : Int) := by omega
  by_cases h2 : t < 0
  · skip
    go_enter Tryd.func7, Tryd.ntmps7
    go_wp2_with fail
    refine (live_k _ O0).mono ?_
    rintro e w1 ⟨rfl, hb⟩
    have B1 := B0.trans (hb.mono B0.size)
    have O1 := O0.below hb
    clear hb
    go_wp2_with fail
    go_ret
    exact ⟨rfl, B1⟩
  by_cases h3 : 1099511627776 < t
  · skip
    go_enter Tryd.func7, Tryd.ntmps7
    go_wp2_with fail
    refine (live_k _ O0).mono ?_
    rintro e w1 ⟨rfl, hb⟩
    have B1 := B0.trans (hb.mono B0.size)
    have O1 := O0.below hb
    clear hb
    go_wp2_with fail
    go_ret
    exact ⟨rfl, B1⟩
  · have t0 : 0 ≤ t := by omega
    have t1 : t ≤ 1099511627776 := by omega
    have HO := Lib.hid ho
    clear O0 B0 ho
    obtain ⟨qs, HQ⟩ : ∃ r, Hid (unionW ll = r) := ⟨_, Lib.hid rfl⟩
    have HNM := Lib.hid (show Norm qs by rw [← HQ.out]; exact (union_ok ll).1)
    go_enter Tryd.func7, Tryd.ntmps7
    go_wp2_with fail
    go_loopw [7, 8] (fun iv xv wr => ∃ (k : Nat) (b : Bool), k ≤ ll.length ∧ xv = .int .i64 k ∧ iv = .bool b ∧ Hid (covB (ll.take k) t = b) ∧ Hid (Below w.heap.size w wr)) (fun _ xv _ => ll.length - (intOf xv).toNat)
    case atStart => exact ⟨0, false, Nat.zero_le _, rfl, rfl, Lib.hid rfl, Lib.hid (Below.refl _ _)⟩
    case round =>
      obtain ⟨k, b, hk, rfl, rfl, HV, HB⟩ := hrel
      have k0 : (0 : Int) ≤ (k : Int) := by omega
      by_cases hlt : k < ll.length
      · have k1 : (k : Int) < (ll.length : Int) := by omega
        obtain ⟨bl, off, rfl, hs⟩ := HS.out.2.2.2 (by omega)
        obtain ⟨c0, c1⟩ := (hs.below HB.out hs.1).2 k hlt
        clear hs
        obtain ⟨⟨x, y⟩, hxy⟩ : ∃ p, wnAt ll k = p := ⟨_, rfl⟩
        rw [hxy] at c0 c1
        simp only [] at c0 c1
        have HN := Lib.hid (show covB (ll.take (k + 1)) t = (b || inW x y t) by rw [take_wn _ _ hlt, covB_snoc, HV.out, hxy])
        clear hxy
        cases b with
        | true =>
          go_wp2_with fail
          go_roundw
          case rel => exact ⟨k + 1, true, by omega, by go_num, rfl, Lib.hid (by rw [HN.out]; rfl), HB⟩
          case measure => simp [intOf]; omega
        | false =>
          obtain ⟨r, HR⟩ : ∃ r, Hid (inW x y t = r) := ⟨_, Lib.hid rfl⟩
          have HN2 := Lib.hid (show covB (ll.take (k + 1)) t = r by rw [HN.out, HR.out]; rfl)
          go_wp2_with (go_at_call 17; refine (in_k x y t r _ HR.out).mono ?_; rintro e w2 ⟨rfl, hb⟩)
          go_roundw
          case rel => exact ⟨k + 1, r, by omega, by go_num, rfl, HN2, Lib.hid (HB.out.trans (hb.mono HB.out.size))⟩
          case measure => simp [intOf]; omega
      · rename World => Z0
        have hkn : k = ll.length := by omega
        have HV2 := Lib.hid (show covB qs t = b by rw [← HV.out, ← HQ.out, hkn, List.take_length, covB_union t0 t1])
        clear hkn
        go_wp2_with fail
        refine (union_k lo ll.length lc ll qs _ (HS.out.below HB.out) (by omega) HZ.out HQ.out).mono ?_
        rintro e Z1 ⟨uo, un, uc, rfl, hu, hb⟩
        have HU := Lib.hid hu
        have HUN := Lib.hid hu.1
        have hun := hu.2.1
        have huc := hu.2.2.1
        unfold maxLen at huc
        have HB1 := Lib.hid (HB.out.trans (hb.mono HB.out.size))
        clear hu hb
        go_wp2_with fail
        go_loopw [10, 11] (fun iv xv wr => ∃ (k : Nat) (b2 : Bool), k ≤ un ∧ xv = .int .i64 k ∧ iv = .bool b2 ∧ Hid (covB (qs.take k) t = b2) ∧ Hid (Below Z1.heap.size Z1 wr)) (fun _ xv _ => un - (intOf xv).toNat)
        case atStart => exact ⟨0, false, Nat.zero_le _, rfl, rfl, Lib.hid rfl, Lib.hid (Below.refl _ _)⟩
        case round =>
          obtain ⟨k, b2, hk, rfl, rfl, HV, HB2⟩ := hrel
          have k0 : (0 : Int) ≤ (k : Int) := by omega
          by_cases hlt : k < un
          · have k1 : (k : Int) < (un : Int) := by omega
            have hlq : k < qs.length := by have := HUN.out; omega
            obtain ⟨bl, off, rfl, hs⟩ := HU.out.2.2.2 (by omega)
            obtain ⟨c0, c1⟩ := (hs.below HB2.out hs.1).2 k hlq
            have HSB := Lib.hid (hs.below HB2.out hs.1)
            clear hs
            have hnx := norm_at HNM.out k hlq
            have HNX := Lib.hid (fun j (e : k = j + 1) => norm_next HNM.out j (by omega))
            obtain ⟨⟨x, y⟩, hxy⟩ : ∃ p, wnAt qs k = p := ⟨_, rfl⟩
            rw [hxy] at c0 c1 hnx
            simp only [] at c0 c1 hnx
            have HXY := Lib.hid hxy
            have HN := Lib.hid (show covB (qs.take (k + 1)) t = (b2 || inW x y t) by rw [take_wn _ _ hlq, covB_snoc, HV.out, hxy])
            clear hxy
            have dyx : decide (y ≤ x) = false := decide_eq_false (by omega)
            obtain ⟨r, HR⟩ : ∃ r, Hid (inW x y t = r) := ⟨_, Lib.hid rfl⟩
            rcases Nat.eq_zero_or_pos k with hz | hz
            · subst hz
              clear hnx
              simp only [Nat.zero_mul, Nat.add_zero] at c0 c1
              have hu0 : (0 : Int) < (un : Int) := by omega
              have HC01 := Lib.hid (And.intro c0 c1)
              go_wp2_with fail
              go_quiet (fail)
              generalize hW1 : World.drewN wr _ = W1
              have HB3 : Hid (Below Z1.heap.size Z1 W1) := Lib.hid (by rw [← hW1]; exact HB2.out.trans ⟨rfl, rfl, rfl, Nat.le_refl _, fun _ _ => rfl⟩)
              have d0 : W1.cell? ⟨bl, off, none⟩ = some (.int .i64 x) := by rw [← hW1]; exact c0
              have d1 : W1.cell? ⟨bl, off + 1, none⟩ = some (.int .i64 y) := by rw [← hW1]; exact c1
              clear hW1
              cases b2 with
              | true =>
                go_wp2_with fail
                go_roundw
                case rel => exact ⟨0 + 1, true, by omega, by go_num, rfl, Lib.hid (by rw [HN.out]; rfl), HB3⟩
                case measure => simp [intOf]; omega
              | false =>
                have HN2 := Lib.hid (show covB (qs.take (0 + 1)) t = r by rw [HN.out, HR.out]; rfl)
                go_wp2_with (go_at_call 17; refine (in_k x y t r _ HR.out).mono ?_; rintro e w2 ⟨rfl, hb⟩)
                go_roundw
                case rel => exact ⟨0 + 1, r, by omega, by go_num, rfl, HN2, Lib.hid (HB3.out.trans (hb.mono HB3.out.size))⟩
                case measure => simp [intOf]; omega
            · obtain ⟨j, rfl⟩ : ∃ j, k = j + 1 := ⟨k - 1, by omega⟩
              have hp := HNX.out j rfl
              rw [HXY.out] at hp
              obtain ⟨_, p1⟩ := HSB.out.2 j (by omega)
              obtain ⟨yp, hyp⟩ : ∃ z, (wnAt qs j).2 = z := ⟨_, rfl⟩
              rw [hyp] at p1 hp
              simp only [] at hp
              clear hyp
              have dp : decide (x ≤ yp) = false := decide_eq_false (by omega)
              have hpx : ¬ x ≤ yp := by omega
              have hyx : ¬ y ≤ x := by omega
              have w1 : IntKind.i64.wrap (((j + 1 : Nat) : Int) - 1) = (j : Int) := by rw [IntWalk.i64_in _ (by omega)]; omega
              have w2 : IntKind.i64.wrap ((j : Int) + 1 - 1) = (j : Int) := by rw [IntWalk.i64_in _ (by omega)]; omega
              have w3 : IntKind.i64.wrap (j : Int) = (j : Int) := IntWalk.i64_in _ (by omega)
              have e1 : (0 : Int) ≤ (j : Int) := by omega
              have e2 : (j : Int) < (un : Int) := by omega
              have e3 : (0 : Int) < (j : Int) + 1 := by omega
              have e4 : (j : Int) + 1 < (un : Int) := by omega
              have e5 : (0 : Int) ≤ (j : Int) + 1 := by omega
              clear hnx hp
              go_wp2_with fail
              go_region_held3 (fun w' => w'.cell? ⟨bl, off + (j + 1) * 2, none⟩ = some (.int .i64 x) ∧ w'.cell? ⟨bl, off + (j + 1) * 2 + 1, none⟩ = some (.int .i64 y) ∧ w'.cell? ⟨bl, off + j * 2 + 1, none⟩ = some (.int .i64 yp)) (go_keep) (fail)
              generalize hW1 : World.drew wr = W1
              have HB3 : Hid (Below Z1.heap.size Z1 W1) := Lib.hid (by rw [← hW1]; exact HB2.out.trans ⟨rfl, rfl, rfl, Nat.le_refl _, fun _ _ => rfl⟩)
              have d0 : W1.cell? ⟨bl, off + (j + 1) * 2, none⟩ = some (.int .i64 x) := by rw [← hW1]; exact c0
              have d1 : W1.cell? ⟨bl, off + (j + 1) * 2 + 1, none⟩ = some (.int .i64 y) := by rw [← hW1]; exact c1
              clear hW1
              cases b2 with
              | true =>
                go_wp2_with fail
                go_roundw
                case rel => exact ⟨j + 1 + 1, true, by omega, by go_num, rfl, Lib.hid (by rw [HN.out]; rfl), HB3⟩
                case measure => simp [intOf]; omega
              | false =>
                have HN2 := Lib.hid (show covB (qs.take (j + 1 + 1)) t = r by rw [HN.out, HR.out]; rfl)
                go_wp2_with (go_at_call 17; refine (in_k x y t r _ HR.out).mono ?_; rintro e w2 ⟨rfl, hb⟩)
                go_roundw
                case rel => exact ⟨j + 1 + 1, r, by omega, by go_num, rfl, HN2, Lib.hid (HB3.out.trans (hb.mono HB3.out.size))⟩
                case measure => simp [intOf]; omega
          · have hkn : k = un := by omega
            obtain rfl : b2 = b := by rw [← HV.out, ← HV2.out, hkn, List.take_of_length_le (by have := HUN.out; omega)]
            have qb : (b2 != b2) = false := by cases b2 <;> rfl
            rename World => Z2
            have HB4 := Lib.hid (HB1.out.trans (HB2.out.mono HB1.out.size))
            clear hkn
            by_cases hl2 : ll.length < 2
            · have k2 : (ll.length : Int) < 2 := by omega
              go_wp2_with (go_at_call 16; refine (live_k _ (HO.out.below HB4.out)).mono ?_; rintro e w5 ⟨rfl, hb⟩)
              go_ret
              exact ⟨rfl, HB4.out.trans (hb.mono HB4.out.size)⟩
            · have k2 : ¬ (ll.length : Int) < 2 := by omega
              have k3 : (0 : Int) < (ll.length : Int) := by omega
              have k4 : (1 : Int) < (ll.length : Int) := by omega
              have k5 : 0 < ll.length := by omega
              have k6 : 1 < ll.length := by omega
              obtain ⟨bl, off, rfl, hs⟩ := HS.out.2.2.2 (by omega)
              have hsb := hs.below HB4.out hs.1
              have hbl : bl < w.heap.size := hs.1
              obtain ⟨a0, a1⟩ := hsb.2 0 (by omega)
              obtain ⟨c0, c1⟩ := hsb.2 1 (by omega)
              have HSW := Lib.hid hs
              clear hs hsb
              obtain ⟨⟨u0, u1⟩, hu⟩ : ∃ p, wnAt ll 0 = p := ⟨_, rfl⟩
              obtain ⟨⟨v0, v1⟩, hv⟩ : ∃ p, wnAt ll 1 = p := ⟨_, rfl⟩
              rw [hu] at a0 a1
              rw [hv] at c0 c1
              simp only [Nat.zero_mul, Nat.add_zero, Nat.one_mul] at a0 a1 c0 c1
              have HU0 := Lib.hid hu
              have HV0 := Lib.hid hv
              clear hu hv
              have HB4D := Lib.hid (show Below w.heap.size w Z2.drew from HB4.out.drew)
              have hz2 := HB4.out.size
              obtain ⟨⟨x, y⟩, HC⟩ : ∃ r, Hid (comW (u0, u1) (v0, v1) = r) := ⟨_, Lib.hid rfl⟩
              obtain ⟨ok, HCB⟩ : ∃ r, Hid (comB (u0, u1) (v0, v1) = r) := ⟨_, Lib.hid rfl⟩
              go_wp2_with fail
              go_cut [12, 13] (fun cp ov wx => ∃ Bc : Nat, cp = .pointer (some ⟨Bc, 0, none⟩) ∧ ov = .bool ok ∧ Hid (wx.cell? ⟨Bc, 0, none⟩ = some (.int .i64 x) ∧ wx.cell? ⟨Bc, 1, none⟩ = some (.int .i64 y) ∧ Bc < wx.heap.size ∧ Below w.heap.size w wx))
              case first =>
                go_region_held3 (fun W => W.cell? ⟨bl, off, none⟩ = some (.int .i64 u0) ∧ W.cell? ⟨bl, off + 1, none⟩ = some (.int .i64 u1) ∧ W.cell? ⟨bl, off + 2, none⟩ = some (.int .i64 v0) ∧ W.cell? ⟨bl, off + 2 + 1, none⟩ = some (.int .i64 v1) ∧ Hid (Below w.heap.size w W))
                  (first | exact ⟨a0, a1, c0, c1, HB4D⟩ | exact keep_call hbl hb (by assumption) | exact keep_alloc hbl _ (by assumption) | exact keep_again hbl _ (Nat.le_trans hz2 hb.size) (by assumption) | exact keep_set hbl _ hz2 _ _ (by assumption) | go_keep)
                  (first
                    | (go_at_call 21; with_reducible refine (common_kb (u0, u1) (v0, v1) (x, y) ok Z2 _ _ _ HC.out HCB.out).mono ?_; rintro e w5 ⟨rfl, hb, z0, z1, z2, z3, z4⟩)
                    | (go_at_call 21; with_reducible refine (common_k (u0, u1) (v0, v1) (x, y) ok _ HC.out HCB.out).mono ?_; rintro e w5 ⟨rfl, hb⟩))
                all_goals (go_wp2_with fail; go_meet; first | exact ⟨w5.heap.size, rfl, rfl, Lib.hid ⟨(cells_box w5 x y).1, (cells_box w5 x y).2, by simp, (show Hid (Below w.heap.size w _) from And.right (And.right (And.right (And.right (by assumption))))).out⟩⟩ | exact ⟨Z2.heap.size, rfl, rfl, Lib.hid ⟨(set_box z0 z1 _ _).1, (set_box z0 z1 _ _).2, by simp; exact z4, (show Hid (Below w.heap.size w _) from And.right (And.right (And.right (And.right (by assumption))))).out⟩⟩)
              case rest =>
                obtain ⟨Bc, rfl, rfl, HCC⟩ := hcut
                obtain ⟨r1, HR1⟩ : ∃ r, Hid (inW x y t = r) := ⟨_, Lib.hid rfl⟩
                obtain ⟨i0, HI0⟩ : ∃ r, Hid (inW u0 u1 t = r) := ⟨_, Lib.hid rfl⟩
                obtain ⟨i1, HI1⟩ : ∃ r, Hid (inW v0 v1 t = r) := ⟨_, Lib.hid rfl⟩
                have HEQ := Lib.hid (show (ok && r1) = (i0 && i1) by
                  have h1 := com_in t0 t1 (u0, u1) (v0, v1)
                  rw [HC.out, HCB.out] at h1
                  rw [← HR1.out, ← HI0.out, ← HI1.out]; exact h1)
                have HS6 : wc.drew.cell? ⟨bl, off, none⟩ = some (.int .i64 u0) ∧ wc.drew.cell? ⟨bl, off + 1, none⟩ = some (.int .i64 u1) ∧ wc.drew.cell? ⟨bl, off + 2, none⟩ = some (.int .i64 v0) ∧ wc.drew.cell? ⟨bl, off + 2 + 1, none⟩ = some (.int .i64 v1) ∧ wc.drew.cell? ⟨Bc, 0, none⟩ = some (.int .i64 x) ∧ wc.drew.cell? ⟨Bc, 1, none⟩ = some (.int .i64 y) ∧ Hid (Below w.heap.size w wc.drew ∧ bl < w.heap.size ∧ Bc < wc.drew.heap.size) := by
                  obtain ⟨d0, d1, d2, d3⟩ := HCC.out
                  obtain ⟨k0, k1⟩ := (HSW.out.below d3 hbl).2 0 (by omega)
                  obtain ⟨k2, k3⟩ := (HSW.out.below d3 hbl).2 1 (by omega)
                  rw [HU0.out] at k0 k1
                  rw [HV0.out] at k2 k3
                  simp only [Nat.zero_mul, Nat.add_zero, Nat.one_mul] at k0 k1 k2 k3
                  exact ⟨k0, k1, k2, k3, d0, d1, Lib.hid ⟨d3.drew, hbl, d2⟩⟩
                obtain ⟨k0, k1, k2, k3, d0, d1, HBC⟩ := HS6
                have HS6 := Lib.hid (show wc.drew.cell? ⟨bl, off, none⟩ = some (.int .i64 u0) ∧ wc.drew.cell? ⟨bl, off + 1, none⟩ = some (.int .i64 u1) ∧ wc.drew.cell? ⟨bl, off + 2, none⟩ = some (.int .i64 v0) ∧ wc.drew.cell? ⟨bl, off + 2 + 1, none⟩ = some (.int .i64 v1) ∧ wc.drew.cell? ⟨Bc, 0, none⟩ = some (.int .i64 x) ∧ wc.drew.cell? ⟨Bc, 1, none⟩ = some (.int .i64 y) ∧ Hid (Below w.heap.size w wc.drew ∧ bl < w.heap.size ∧ Bc < wc.drew.heap.size) from ⟨k0, k1, k2, k3, d0, d1, HBC⟩)
                change wc.cell? _ = _ at k0 k1 k2 k3 d0 d1
                go_wp2_with fail
                go_cut [122] (fun s wx => s = .bool false ∧ Hid (Below w.heap.size w wx))
                case first =>
                  cases ok with
                  | true =>
                    cases i0 with
                    | true =>
                      obtain rfl : i1 = r1 := by
                        have h1 := HEQ.out
                        rw [Bool.true_and, Bool.true_and] at h1
                        exact h1.symm
                      go_region_held3 (fun W => W.cell? ⟨bl, off, none⟩ = some (.int .i64 u0) ∧ W.cell? ⟨bl, off + 1, none⟩ = some (.int .i64 u1) ∧ W.cell? ⟨bl, off + 2, none⟩ = some (.int .i64 v0) ∧ W.cell? ⟨bl, off + 2 + 1, none⟩ = some (.int .i64 v1) ∧ W.cell? ⟨Bc, 0, none⟩ = some (.int .i64 x) ∧ W.cell? ⟨Bc, 1, none⟩ = some (.int .i64 y) ∧ Hid (Below w.heap.size w W ∧ bl < w.heap.size ∧ Bc < W.heap.size))
                        (first | exact HS6.out | assumption | go_keep)
                        (first
                          | (go_at_call 17; with_reducible refine (in6 x y t i1 HR1.out (by first | assumption | exact HS6.out)).mono ?_; rintro e w5 ⟨rfl, hb⟩)
                          | (go_at_call 17; with_reducible refine (in6 u0 u1 t true HI0.out (by first | assumption | exact HS6.out)).mono ?_; rintro e w5 ⟨rfl, hb⟩)
                          | (go_at_call 17; with_reducible refine (in6 v0 v1 t i1 HI1.out (by first | assumption | exact HS6.out)).mono ?_; rintro e w5 ⟨rfl, hb⟩))
                      all_goals (go_wp2_with fail; go_meet; exact ⟨by first | rfl | (cases i1 <;> rfl), Lib.hid hb.2.2.2.2.2.2.out.1⟩)
                    | false =>
                      obtain rfl : r1 = false := by
                        have h1 := HEQ.out
                        rwa [Bool.true_and, Bool.false_and] at h1
                      refine wp_region_held_drew (S := fun W => W.cell? ⟨bl, off, none⟩ = some (.int .i64 u0) ∧ W.cell? ⟨bl, off + 1, none⟩ = some (.int .i64 u1) ∧ W.cell? ⟨bl, off + 2, none⟩ = some (.int .i64 v0) ∧ W.cell? ⟨bl, off + 2 + 1, none⟩ = some (.int .i64 v1) ∧ W.cell? ⟨Bc, 0, none⟩ = some (.int .i64 x) ∧ W.cell? ⟨Bc, 1, none⟩ = some (.int .i64 y) ∧ Hid (Below w.heap.size w W ∧ bl < w.heap.size ∧ Bc < W.heap.size)) (by kernel_rfl) HS6.out (fun hS => ?_)
                      refine wpAnyH_take (i := 0) (oi := { dst := some 104, op := _, type := _, pos := _, after := _, guard := _ }) (v := ?_) rfl (by kernel_rfl) (by kernel_rfl) (by kernel_rfl) (fun _ _ _ h => h) (Or.inl ⟨by rfl, ?_⟩) (by assumption) ?_
                      rotate_left
                      · intro w hSw
                        try dsimp only at hSw
                        go_simp
                        try with_reducible rfl
                      try simp only [Act.put, List.setIfInBounds_toArray, List.set_cons_zero, List.set_cons_succ]
                      refine wpAnyH_take (i := 1) (oi := { dst := some 105, op := _, type := _, pos := _, after := _, guard := _ }) (v := ?_) rfl (by kernel_rfl) (by kernel_rfl) (by kernel_rfl) (fun _ _ _ h => h) (Or.inl ⟨by rfl, ?_⟩) (by assumption) ?_
                      rotate_left
                      · intro w hSw
                        try dsimp only at hSw
                        go_simp
                        try with_reducible rfl
                      try simp only [Act.put, List.setIfInBounds_toArray, List.set_cons_zero, List.set_cons_succ]
                      refine wpAnyH_take (i := 2) (oi := { dst := some 106, op := _, type := _, pos := _, after := _, guard := _ }) (v := ?_) rfl (by kernel_rfl) (by kernel_rfl) (by kernel_rfl) (fun _ _ _ h => h) (Or.inl ⟨by rfl, ?_⟩) (by assumption) ?_
                      rotate_left
                      · intro w hSw
                        try dsimp only at hSw
                        go_simp
                        try with_reducible rfl
                      try simp only [Act.put, List.setIfInBounds_toArray, List.set_cons_zero, List.set_cons_succ]
                      refine wpAnyH_take (i := 3) (oi := { dst := some 107, op := _, type := _, pos := _, after := _, guard := _ }) (v := ?_) rfl (by kernel_rfl) (by kernel_rfl) (by kernel_rfl) (fun _ _ _ h => h) (Or.inl ⟨by rfl, ?_⟩) (by assumption) ?_
                      rotate_left
                      · intro w hSw
                        try dsimp only at hSw
                        go_simp
                        try with_reducible rfl
                      try simp only [Act.put, List.setIfInBounds_toArray, List.set_cons_zero, List.set_cons_succ]
                      refine wpAnyH_take (i := 6) (oi := { dst := some 110, op := _, type := _, pos := _, after := _, guard := _ }) (v := ?_) rfl (by kernel_rfl) (by kernel_rfl) (by kernel_rfl) (fun _ _ _ h => h) (Or.inl ⟨by rfl, ?_⟩) (by assumption) ?_
                      rotate_left
                      · intro w hSw
                        try dsimp only at hSw
                        go_simp
                        try with_reducible rfl
                      try simp only [Act.put, List.setIfInBounds_toArray, List.set_cons_zero, List.set_cons_succ]
                      refine wpAnyH_take (i := 7) (oi := { dst := some 111, op := _, type := _, pos := _, after := _, guard := _ }) (v := ?_) rfl (by kernel_rfl) (by kernel_rfl) (by kernel_rfl) (fun _ _ _ h => h) (Or.inl ⟨by rfl, ?_⟩) (by assumption) ?_
                      rotate_left
                      · intro w hSw
                        try dsimp only at hSw
                        go_simp
                        try with_reducible rfl
                      try simp only [Act.put, List.setIfInBounds_toArray, List.set_cons_zero, List.set_cons_succ]
                      refine wpAnyH_take (i := 8) (oi := { dst := some 112, op := _, type := _, pos := _, after := _, guard := _ }) (v := ?_) rfl (by kernel_rfl) (by kernel_rfl) (by kernel_rfl) (fun _ _ _ h => h) (Or.inl ⟨by rfl, ?_⟩) (by assumption) ?_
                      rotate_left
                      · intro w hSw
                        try dsimp only at hSw
                        go_simp
                        try with_reducible rfl
                      try simp only [Act.put, List.setIfInBounds_toArray, List.set_cons_zero, List.set_cons_succ]
                      refine wpAnyH_take (i := 9) (oi := { dst := some 113, op := _, type := _, pos := _, after := _, guard := _ }) (v := ?_) rfl (by kernel_rfl) (by kernel_rfl) (by kernel_rfl) (fun _ _ _ h => h) (Or.inl ⟨by rfl, ?_⟩) (by assumption) ?_
                      rotate_left
                      · intro w hSw
                        try dsimp only at hSw
                        go_simp
                        try with_reducible rfl
                      try simp only [Act.put, List.setIfInBounds_toArray, List.set_cons_zero, List.set_cons_succ]
                      refine wpAnyH_ready (rs := [4]) (by kernel_rfl) (by simp) ?_
                      refine AllReadyH.cons rfl (fun K hK => ?_) AllReadyH.nil
                      go_simp
                      refine (in6 x y t false HR1.out (by assumption)).mono ?_
                      rintro e w5 ⟨rfl, hb⟩
                      go_wp2_with fail
                      refine hK.out _ _ ?_ (fun hHeld => ?_)
                      · exact hb
                      clear hK K
                      try simp only [Act.put, List.setIfInBounds_toArray, List.set_cons_zero, List.set_cons_succ]
                      refine wpAnyH_take (i := 5) (oi := { dst := some 109, op := _, type := _, pos := _, after := _, guard := _ }) (v := ?_) rfl (by kernel_rfl) (by kernel_rfl) (by kernel_rfl) (fun _ _ _ h => h) (Or.inl ⟨by rfl, ?_⟩) (by assumption) ?_
                      rotate_left
                      · intro w hSw
                        try dsimp only at hSw
                        go_simp
                        try with_reducible rfl
                      try simp only [Act.put, List.setIfInBounds_toArray, List.set_cons_zero, List.set_cons_succ]
                      refine wpAnyH_ready (rs := [10]) (by kernel_rfl) (by simp) ?_
                      refine AllReadyH.cons rfl (fun K hK => ?_) AllReadyH.nil
                      go_simp
                      refine (in6 u0 u1 t false HI0.out (by assumption)).mono ?_
                      rintro e w5 ⟨rfl, hb⟩
                      go_wp2_with fail
                      refine hK.out _ _ ?_ (fun hHeld => ?_)
                      · exact hb
                      clear hK K
                      try simp only [Act.put, List.setIfInBounds_toArray, List.set_cons_zero, List.set_cons_succ]
                      refine wpAnyH_take (i := 11) (oi := { dst := some 115, op := _, type := _, pos := _, after := _, guard := _ }) (v := ?_) rfl (by kernel_rfl) (by kernel_rfl) (by kernel_rfl) (fun _ _ _ h => h) (Or.inl ⟨by rfl, ?_⟩) (by assumption) ?_
                      rotate_left
                      · intro w hSw
                        try dsimp only at hSw
                        go_simp
                        try with_reducible rfl
                      try simp only [Act.put, List.setIfInBounds_toArray, List.set_cons_zero, List.set_cons_succ]
                      refine wpAnyH_take (i := 12) (oi := { dst := some 116, op := _, type := _, pos := _, after := _, guard := _ }) (v := undef) rfl (by kernel_rfl) (by kernel_rfl) (by kernel_rfl) (fun _ _ _ h => h) (Or.inr ⟨by rfl, rfl⟩) (by assumption) ?_
                      try simp only [Act.put, List.setIfInBounds_toArray, List.set_cons_zero, List.set_cons_succ]
                      refine wpAnyH_take (i := 13) (oi := { dst := some 117, op := _, type := _, pos := _, after := _, guard := _ }) (v := undef) rfl (by kernel_rfl) (by kernel_rfl) (by kernel_rfl) (fun _ _ _ h => h) (Or.inr ⟨by rfl, rfl⟩) (by assumption) ?_
                      try simp only [Act.put, List.setIfInBounds_toArray, List.set_cons_zero, List.set_cons_succ]
                      refine wpAnyH_take (i := 14) (oi := { dst := some 118, op := _, type := _, pos := _, after := _, guard := _ }) (v := undef) rfl (by kernel_rfl) (by kernel_rfl) (by kernel_rfl) (fun _ _ _ h => h) (Or.inr ⟨by rfl, rfl⟩) (by assumption) ?_
                      try simp only [Act.put, List.setIfInBounds_toArray, List.set_cons_zero, List.set_cons_succ]
                      refine wpAnyH_take (i := 15) (oi := { dst := some 119, op := _, type := _, pos := _, after := _, guard := _ }) (v := undef) rfl (by kernel_rfl) (by kernel_rfl) (by kernel_rfl) (fun _ _ _ h => h) (Or.inr ⟨by rfl, rfl⟩) (by assumption) ?_
                      try simp only [Act.put, List.setIfInBounds_toArray, List.set_cons_zero, List.set_cons_succ]
                      refine wpAnyH_take (i := 16) (oi := { dst := some 120, op := _, type := _, pos := _, after := _, guard := _ }) (v := undef) rfl (by kernel_rfl) (by kernel_rfl) (by kernel_rfl) (fun _ _ _ h => h) (Or.inr ⟨by rfl, rfl⟩) (by assumption) ?_
                      try simp only [Act.put, List.setIfInBounds_toArray, List.set_cons_zero, List.set_cons_succ]
                      refine wpAnyH_take (i := 17) (oi := { dst := some 121, op := _, type := _, pos := _, after := _, guard := _ }) (v := ?_) rfl (by kernel_rfl) (by kernel_rfl) (by kernel_rfl) (fun _ _ _ h => h) (Or.inl ⟨by rfl, ?_⟩) (by assumption) ?_
                      rotate_left
                      · intro w hSw
                        try dsimp only at hSw
                        go_simp
                        try with_reducible rfl
                      try simp only [Act.put, List.setIfInBounds_toArray, List.set_cons_zero, List.set_cons_succ]
                      refine wpAnyH_take (i := 18) (oi := { dst := some 122, op := _, type := _, pos := _, after := _, guard := _ }) (v := ?_) rfl (by kernel_rfl) (by kernel_rfl) (by kernel_rfl) (fun _ _ _ h => h) (Or.inl ⟨by rfl, ?_⟩) (by assumption) ?_
                      rotate_left
                      · intro w hSw
                        try dsimp only at hSw
                        go_simp
                        try with_reducible rfl
                      try simp only [Act.put, List.setIfInBounds_toArray, List.set_cons_zero, List.set_cons_succ]
                      refine wpAnyH_done (by kernel_rfl) ?_ _
                      go_wp2_with fail
                      go_meet
                      exact ⟨rfl, Lib.hid hb.2.2.2.2.2.2.out.1⟩
                  | false =>
                    cases i0 with
                    | true =>
                      obtain rfl : i1 = false := by
                        have h1 := HEQ.out
                        rw [Bool.true_and, Bool.false_and] at h1
                        exact h1.symm
                      refine wp_region_held_drew (S := fun W => W.cell? ⟨bl, off, none⟩ = some (.int .i64 u0) ∧ W.cell? ⟨bl, off + 1, none⟩ = some (.int .i64 u1) ∧ W.cell? ⟨bl, off + 2, none⟩ = some (.int .i64 v0) ∧ W.cell? ⟨bl, off + 2 + 1, none⟩ = some (.int .i64 v1) ∧ W.cell? ⟨Bc, 0, none⟩ = some (.int .i64 x) ∧ W.cell? ⟨Bc, 1, none⟩ = some (.int .i64 y) ∧ Hid (Below w.heap.size w W ∧ bl < w.heap.size ∧ Bc < W.heap.size)) (by kernel_rfl) HS6.out (fun hS => ?_)
                      refine wpAnyH_take (i := 0) (oi := { dst := some 104, op := _, type := _, pos := _, after := _, guard := _ }) (v := ?_) rfl (by kernel_rfl) (by kernel_rfl) (by kernel_rfl) (fun _ _ _ h => h) (Or.inl ⟨by rfl, ?_⟩) (by assumption) ?_
                      rotate_left
                      · intro w hSw
                        try dsimp only at hSw
                        go_simp
                        try with_reducible rfl
                      try simp only [Act.put, List.setIfInBounds_toArray, List.set_cons_zero, List.set_cons_succ]
                      refine wpAnyH_take (i := 1) (oi := { dst := some 105, op := _, type := _, pos := _, after := _, guard := _ }) (v := ?_) rfl (by kernel_rfl) (by kernel_rfl) (by kernel_rfl) (fun _ _ _ h => h) (Or.inl ⟨by rfl, ?_⟩) (by assumption) ?_
                      rotate_left
                      · intro w hSw
                        try dsimp only at hSw
                        go_simp
                        try with_reducible rfl
                      try simp only [Act.put, List.setIfInBounds_toArray, List.set_cons_zero, List.set_cons_succ]
                      refine wpAnyH_take (i := 2) (oi := { dst := some 106, op := _, type := _, pos := _, after := _, guard := _ }) (v := undef) rfl (by kernel_rfl) (by kernel_rfl) (by kernel_rfl) (fun _ _ _ h => h) (Or.inr ⟨by rfl, rfl⟩) (by assumption) ?_
                      try simp only [Act.put, List.setIfInBounds_toArray, List.set_cons_zero, List.set_cons_succ]
                      refine wpAnyH_take (i := 3) (oi := { dst := some 107, op := _, type := _, pos := _, after := _, guard := _ }) (v := undef) rfl (by kernel_rfl) (by kernel_rfl) (by kernel_rfl) (fun _ _ _ h => h) (Or.inr ⟨by rfl, rfl⟩) (by assumption) ?_
                      try simp only [Act.put, List.setIfInBounds_toArray, List.set_cons_zero, List.set_cons_succ]
                      refine wpAnyH_take (i := 4) (oi := { dst := some 108, op := _, type := _, pos := _, after := _, guard := _ }) (v := undef) rfl (by kernel_rfl) (by kernel_rfl) (by kernel_rfl) (fun _ _ _ h => h) (Or.inr ⟨by rfl, rfl⟩) (by assumption) ?_
                      try simp only [Act.put, List.setIfInBounds_toArray, List.set_cons_zero, List.set_cons_succ]
                      refine wpAnyH_take (i := 5) (oi := { dst := some 109, op := _, type := _, pos := _, after := _, guard := _ }) (v := ?_) rfl (by kernel_rfl) (by kernel_rfl) (by kernel_rfl) (fun _ _ _ h => h) (Or.inl ⟨by rfl, ?_⟩) (by assumption) ?_
                      rotate_left
                      · intro w hSw
                        try dsimp only at hSw
                        go_simp
                        try with_reducible rfl
                      try simp only [Act.put, List.setIfInBounds_toArray, List.set_cons_zero, List.set_cons_succ]
                      refine wpAnyH_take (i := 6) (oi := { dst := some 110, op := _, type := _, pos := _, after := _, guard := _ }) (v := ?_) rfl (by kernel_rfl) (by kernel_rfl) (by kernel_rfl) (fun _ _ _ h => h) (Or.inl ⟨by rfl, ?_⟩) (by assumption) ?_
                      rotate_left
                      · intro w hSw
                        try dsimp only at hSw
                        go_simp
                        try with_reducible rfl
                      try simp only [Act.put, List.setIfInBounds_toArray, List.set_cons_zero, List.set_cons_succ]
                      refine wpAnyH_take (i := 7) (oi := { dst := some 111, op := _, type := _, pos := _, after := _, guard := _ }) (v := ?_) rfl (by kernel_rfl) (by kernel_rfl) (by kernel_rfl) (fun _ _ _ h => h) (Or.inl ⟨by rfl, ?_⟩) (by assumption) ?_
                      rotate_left
                      · intro w hSw
                        try dsimp only at hSw
                        go_simp
                        try with_reducible rfl
                      try simp only [Act.put, List.setIfInBounds_toArray, List.set_cons_zero, List.set_cons_succ]
                      refine wpAnyH_take (i := 8) (oi := { dst := some 112, op := _, type := _, pos := _, after := _, guard := _ }) (v := ?_) rfl (by kernel_rfl) (by kernel_rfl) (by kernel_rfl) (fun _ _ _ h => h) (Or.inl ⟨by rfl, ?_⟩) (by assumption) ?_
                      rotate_left
                      · intro w hSw
                        try dsimp only at hSw
                        go_simp
                        try with_reducible rfl
                      try simp only [Act.put, List.setIfInBounds_toArray, List.set_cons_zero, List.set_cons_succ]
                      refine wpAnyH_take (i := 9) (oi := { dst := some 113, op := _, type := _, pos := _, after := _, guard := _ }) (v := ?_) rfl (by kernel_rfl) (by kernel_rfl) (by kernel_rfl) (fun _ _ _ h => h) (Or.inl ⟨by rfl, ?_⟩) (by assumption) ?_
                      rotate_left
                      · intro w hSw
                        try dsimp only at hSw
                        go_simp
                        try with_reducible rfl
                      try simp only [Act.put, List.setIfInBounds_toArray, List.set_cons_zero, List.set_cons_succ]
                      refine wpAnyH_ready (rs := [10]) (by kernel_rfl) (by simp) ?_
                      refine AllReadyH.cons rfl (fun K hK => ?_) AllReadyH.nil
                      go_simp
                      refine (in6 u0 u1 t true HI0.out (by assumption)).mono ?_
                      rintro e w5 ⟨rfl, hb⟩
                      go_wp2_with fail
                      refine hK.out _ _ ?_ (fun hHeld => ?_)
                      · exact hb
                      clear hK K
                      try simp only [Act.put, List.setIfInBounds_toArray, List.set_cons_zero, List.set_cons_succ]
                      refine wpAnyH_take (i := 11) (oi := { dst := some 115, op := _, type := _, pos := _, after := _, guard := _ }) (v := ?_) rfl (by kernel_rfl) (by kernel_rfl) (by kernel_rfl) (fun _ _ _ h => h) (Or.inl ⟨by rfl, ?_⟩) (by assumption) ?_
                      rotate_left
                      · intro w hSw
                        try dsimp only at hSw
                        go_simp
                        try with_reducible rfl
                      try simp only [Act.put, List.setIfInBounds_toArray, List.set_cons_zero, List.set_cons_succ]
                      refine wpAnyH_take (i := 12) (oi := { dst := some 116, op := _, type := _, pos := _, after := _, guard := _ }) (v := ?_) rfl (by kernel_rfl) (by kernel_rfl) (by kernel_rfl) (fun _ _ _ h => h) (Or.inl ⟨by rfl, ?_⟩) (by assumption) ?_
                      rotate_left
                      · intro w hSw
                        try dsimp only at hSw
                        go_simp
                        try with_reducible rfl
                      try simp only [Act.put, List.setIfInBounds_toArray, List.set_cons_zero, List.set_cons_succ]
                      refine wpAnyH_take (i := 13) (oi := { dst := some 117, op := _, type := _, pos := _, after := _, guard := _ }) (v := ?_) rfl (by kernel_rfl) (by kernel_rfl) (by kernel_rfl) (fun _ _ _ h => h) (Or.inl ⟨by rfl, ?_⟩) (by assumption) ?_
                      rotate_left
                      · intro w hSw
                        try dsimp only at hSw
                        go_simp
                        try with_reducible rfl
                      try simp only [Act.put, List.setIfInBounds_toArray, List.set_cons_zero, List.set_cons_succ]
                      refine wpAnyH_take (i := 14) (oi := { dst := some 118, op := _, type := _, pos := _, after := _, guard := _ }) (v := ?_) rfl (by kernel_rfl) (by kernel_rfl) (by kernel_rfl) (fun _ _ _ h => h) (Or.inl ⟨by rfl, ?_⟩) (by assumption) ?_
                      rotate_left
                      · intro w hSw
                        try dsimp only at hSw
                        go_simp
                        try with_reducible rfl
                      try simp only [Act.put, List.setIfInBounds_toArray, List.set_cons_zero, List.set_cons_succ]
                      refine wpAnyH_take (i := 15) (oi := { dst := some 119, op := _, type := _, pos := _, after := _, guard := _ }) (v := ?_) rfl (by kernel_rfl) (by kernel_rfl) (by kernel_rfl) (fun _ _ _ h => h) (Or.inl ⟨by rfl, ?_⟩) (by assumption) ?_
                      rotate_left
                      · intro w hSw
                        try dsimp only at hSw
                        go_simp
                        try with_reducible rfl
                      try simp only [Act.put, List.setIfInBounds_toArray, List.set_cons_zero, List.set_cons_succ]
                      refine wpAnyH_ready (rs := [16]) (by kernel_rfl) (by simp) ?_
                      refine AllReadyH.cons rfl (fun K hK => ?_) AllReadyH.nil
                      go_simp
                      refine (in6 v0 v1 t false HI1.out (by assumption)).mono ?_
                      rintro e w5 ⟨rfl, hb⟩
                      go_wp2_with fail
                      refine hK.out _ _ ?_ (fun hHeld => ?_)
                      · exact hb
                      clear hK K
                      try simp only [Act.put, List.setIfInBounds_toArray, List.set_cons_zero, List.set_cons_succ]
                      refine wpAnyH_take (i := 17) (oi := { dst := some 121, op := _, type := _, pos := _, after := _, guard := _ }) (v := ?_) rfl (by kernel_rfl) (by kernel_rfl) (by kernel_rfl) (fun _ _ _ h => h) (Or.inl ⟨by rfl, ?_⟩) (by assumption) ?_
                      rotate_left
                      · intro w hSw
                        try dsimp only at hSw
                        go_simp
                        try with_reducible rfl
                      try simp only [Act.put, List.setIfInBounds_toArray, List.set_cons_zero, List.set_cons_succ]
                      refine wpAnyH_take (i := 18) (oi := { dst := some 122, op := _, type := _, pos := _, after := _, guard := _ }) (v := ?_) rfl (by kernel_rfl) (by kernel_rfl) (by kernel_rfl) (fun _ _ _ h => h) (Or.inl ⟨by rfl, ?_⟩) (by assumption) ?_
                      rotate_left
                      · intro w hSw
                        try dsimp only at hSw
                        go_simp
                        try with_reducible rfl
                      try simp only [Act.put, List.setIfInBounds_toArray, List.set_cons_zero, List.set_cons_succ]
                      refine wpAnyH_done (by kernel_rfl) ?_ _
                      go_wp2_with fail
                      go_meet
                      exact ⟨rfl, Lib.hid hb.2.2.2.2.2.2.out.1⟩
                    | false =>
                      refine wp_region_held_drew (S := fun W => W.cell? ⟨bl, off, none⟩ = some (.int .i64 u0) ∧ W.cell? ⟨bl, off + 1, none⟩ = some (.int .i64 u1) ∧ W.cell? ⟨bl, off + 2, none⟩ = some (.int .i64 v0) ∧ W.cell? ⟨bl, off + 2 + 1, none⟩ = some (.int .i64 v1) ∧ W.cell? ⟨Bc, 0, none⟩ = some (.int .i64 x) ∧ W.cell? ⟨Bc, 1, none⟩ = some (.int .i64 y) ∧ Hid (Below w.heap.size w W ∧ bl < w.heap.size ∧ Bc < W.heap.size)) (by kernel_rfl) HS6.out (fun hS => ?_)
                      refine wpAnyH_take (i := 0) (oi := { dst := some 104, op := _, type := _, pos := _, after := _, guard := _ }) (v := ?_) rfl (by kernel_rfl) (by kernel_rfl) (by kernel_rfl) (fun _ _ _ h => h) (Or.inl ⟨by rfl, ?_⟩) (by assumption) ?_
                      rotate_left
                      · intro w hSw
                        try dsimp only at hSw
                        go_simp
                        try with_reducible rfl
                      try simp only [Act.put, List.setIfInBounds_toArray, List.set_cons_zero, List.set_cons_succ]
                      refine wpAnyH_take (i := 1) (oi := { dst := some 105, op := _, type := _, pos := _, after := _, guard := _ }) (v := ?_) rfl (by kernel_rfl) (by kernel_rfl) (by kernel_rfl) (fun _ _ _ h => h) (Or.inl ⟨by rfl, ?_⟩) (by assumption) ?_
                      rotate_left
                      · intro w hSw
                        try dsimp only at hSw
                        go_simp
                        try with_reducible rfl
                      try simp only [Act.put, List.setIfInBounds_toArray, List.set_cons_zero, List.set_cons_succ]
                      refine wpAnyH_take (i := 2) (oi := { dst := some 106, op := _, type := _, pos := _, after := _, guard := _ }) (v := undef) rfl (by kernel_rfl) (by kernel_rfl) (by kernel_rfl) (fun _ _ _ h => h) (Or.inr ⟨by rfl, rfl⟩) (by assumption) ?_
                      try simp only [Act.put, List.setIfInBounds_toArray, List.set_cons_zero, List.set_cons_succ]
                      refine wpAnyH_take (i := 3) (oi := { dst := some 107, op := _, type := _, pos := _, after := _, guard := _ }) (v := undef) rfl (by kernel_rfl) (by kernel_rfl) (by kernel_rfl) (fun _ _ _ h => h) (Or.inr ⟨by rfl, rfl⟩) (by assumption) ?_
                      try simp only [Act.put, List.setIfInBounds_toArray, List.set_cons_zero, List.set_cons_succ]
                      refine wpAnyH_take (i := 4) (oi := { dst := some 108, op := _, type := _, pos := _, after := _, guard := _ }) (v := undef) rfl (by kernel_rfl) (by kernel_rfl) (by kernel_rfl) (fun _ _ _ h => h) (Or.inr ⟨by rfl, rfl⟩) (by assumption) ?_
                      try simp only [Act.put, List.setIfInBounds_toArray, List.set_cons_zero, List.set_cons_succ]
                      refine wpAnyH_take (i := 5) (oi := { dst := some 109, op := _, type := _, pos := _, after := _, guard := _ }) (v := ?_) rfl (by kernel_rfl) (by kernel_rfl) (by kernel_rfl) (fun _ _ _ h => h) (Or.inl ⟨by rfl, ?_⟩) (by assumption) ?_
                      rotate_left
                      · intro w hSw
                        try dsimp only at hSw
                        go_simp
                        try with_reducible rfl
                      try simp only [Act.put, List.setIfInBounds_toArray, List.set_cons_zero, List.set_cons_succ]
                      refine wpAnyH_take (i := 6) (oi := { dst := some 110, op := _, type := _, pos := _, after := _, guard := _ }) (v := ?_) rfl (by kernel_rfl) (by kernel_rfl) (by kernel_rfl) (fun _ _ _ h => h) (Or.inl ⟨by rfl, ?_⟩) (by assumption) ?_
                      rotate_left
                      · intro w hSw
                        try dsimp only at hSw
                        go_simp
                        try with_reducible rfl
                      try simp only [Act.put, List.setIfInBounds_toArray, List.set_cons_zero, List.set_cons_succ]
                      refine wpAnyH_take (i := 7) (oi := { dst := some 111, op := _, type := _, pos := _, after := _, guard := _ }) (v := ?_) rfl (by kernel_rfl) (by kernel_rfl) (by kernel_rfl) (fun _ _ _ h => h) (Or.inl ⟨by rfl, ?_⟩) (by assumption) ?_
                      rotate_left
                      · intro w hSw
                        try dsimp only at hSw
                        go_simp
                        try with_reducible rfl
                      try simp only [Act.put, List.setIfInBounds_toArray, List.set_cons_zero, List.set_cons_succ]
                      refine wpAnyH_take (i := 8) (oi := { dst := some 112, op := _, type := _, pos := _, after := _, guard := _ }) (v := ?_) rfl (by kernel_rfl) (by kernel_rfl) (by kernel_rfl) (fun _ _ _ h => h) (Or.inl ⟨by rfl, ?_⟩) (by assumption) ?_
                      rotate_left
                      · intro w hSw
                        try dsimp only at hSw
                        go_simp
                        try with_reducible rfl
                      try simp only [Act.put, List.setIfInBounds_toArray, List.set_cons_zero, List.set_cons_succ]
                      refine wpAnyH_take (i := 9) (oi := { dst := some 113, op := _, type := _, pos := _, after := _, guard := _ }) (v := ?_) rfl (by kernel_rfl) (by kernel_rfl) (by kernel_rfl) (fun _ _ _ h => h) (Or.inl ⟨by rfl, ?_⟩) (by assumption) ?_
                      rotate_left
                      · intro w hSw
                        try dsimp only at hSw
                        go_simp
                        try with_reducible rfl
                      try simp only [Act.put, List.setIfInBounds_toArray, List.set_cons_zero, List.set_cons_succ]
                      refine wpAnyH_ready (rs := [10]) (by kernel_rfl) (by simp) ?_
                      refine AllReadyH.cons rfl (fun K hK => ?_) AllReadyH.nil
                      go_simp
                      refine (in6 u0 u1 t false HI0.out (by assumption)).mono ?_
                      rintro e w5 ⟨rfl, hb⟩
                      go_wp2_with fail
                      refine hK.out _ _ ?_ (fun hHeld => ?_)
                      · exact hb
                      clear hK K
                      try simp only [Act.put, List.setIfInBounds_toArray, List.set_cons_zero, List.set_cons_succ]
                      refine wpAnyH_take (i := 11) (oi := { dst := some 115, op := _, type := _, pos := _, after := _, guard := _ }) (v := ?_) rfl (by kernel_rfl) (by kernel_rfl) (by kernel_rfl) (fun _ _ _ h => h) (Or.inl ⟨by rfl, ?_⟩) (by assumption) ?_
                      rotate_left
                      · intro w hSw
                        try dsimp only at hSw
                        go_simp
                        try with_reducible rfl
                      try simp only [Act.put, List.setIfInBounds_toArray, List.set_cons_zero, List.set_cons_succ]
                      refine wpAnyH_take (i := 12) (oi := { dst := some 116, op := _, type := _, pos := _, after := _, guard := _ }) (v := undef) rfl (by kernel_rfl) (by kernel_rfl) (by kernel_rfl) (fun _ _ _ h => h) (Or.inr ⟨by rfl, rfl⟩) (by assumption) ?_
                      try simp only [Act.put, List.setIfInBounds_toArray, List.set_cons_zero, List.set_cons_succ]
                      refine wpAnyH_take (i := 13) (oi := { dst := some 117, op := _, type := _, pos := _, after := _, guard := _ }) (v := undef) rfl (by kernel_rfl) (by kernel_rfl) (by kernel_rfl) (fun _ _ _ h => h) (Or.inr ⟨by rfl, rfl⟩) (by assumption) ?_
                      try simp only [Act.put, List.setIfInBounds_toArray, List.set_cons_zero, List.set_cons_succ]
                      refine wpAnyH_take (i := 14) (oi := { dst := some 118, op := _, type := _, pos := _, after := _, guard := _ }) (v := undef) rfl (by kernel_rfl) (by kernel_rfl) (by kernel_rfl) (fun _ _ _ h => h) (Or.inr ⟨by rfl, rfl⟩) (by assumption) ?_
                      try simp only [Act.put, List.setIfInBounds_toArray, List.set_cons_zero, List.set_cons_succ]
                      refine wpAnyH_take (i := 15) (oi := { dst := some 119, op := _, type := _, pos := _, after := _, guard := _ }) (v := undef) rfl (by kernel_rfl) (by kernel_rfl) (by kernel_rfl) (fun _ _ _ h => h) (Or.inr ⟨by rfl, rfl⟩) (by assumption) ?_
                      try simp only [Act.put, List.setIfInBounds_toArray, List.set_cons_zero, List.set_cons_succ]
                      refine wpAnyH_take (i := 16) (oi := { dst := some 120, op := _, type := _, pos := _, after := _, guard := _ }) (v := undef) rfl (by kernel_rfl) (by kernel_rfl) (by kernel_rfl) (fun _ _ _ h => h) (Or.inr ⟨by rfl, rfl⟩) (by assumption) ?_
                      try simp only [Act.put, List.setIfInBounds_toArray, List.set_cons_zero, List.set_cons_succ]
                      refine wpAnyH_take (i := 17) (oi := { dst := some 121, op := _, type := _, pos := _, after := _, guard := _ }) (v := ?_) rfl (by kernel_rfl) (by kernel_rfl) (by kernel_rfl) (fun _ _ _ h => h) (Or.inl ⟨by rfl, ?_⟩) (by assumption) ?_
                      rotate_left
                      · intro w hSw
                        try dsimp only at hSw
                        go_simp
                        try with_reducible rfl
                      try simp only [Act.put, List.setIfInBounds_toArray, List.set_cons_zero, List.set_cons_succ]
                      refine wpAnyH_take (i := 18) (oi := { dst := some 122, op := _, type := _, pos := _, after := _, guard := _ }) (v := ?_) rfl (by kernel_rfl) (by kernel_rfl) (by kernel_rfl) (fun _ _ _ h => h) (Or.inl ⟨by rfl, ?_⟩) (by assumption) ?_
                      rotate_left
                      · intro w hSw
                        try dsimp only at hSw
                        go_simp
                        try with_reducible rfl
                      try simp only [Act.put, List.setIfInBounds_toArray, List.set_cons_zero, List.set_cons_succ]
                      refine wpAnyH_done (by kernel_rfl) ?_ _
                      go_wp2_with fail
                      go_meet
                      exact ⟨rfl, Lib.hid hb.2.2.2.2.2.2.out.1⟩
                case rest =>
                  obtain ⟨rfl, HB5⟩ := hcut
                  obtain ⟨k0, k1⟩ := (HSW.out.below HB5.out hbl).2 0 (by omega)
                  rw [HU0.out] at k0 k1
                  simp only [Nat.zero_mul, Nat.add_zero] at k0 k1
                  have HS2 := Lib.hid (show wc.drew.cell? ⟨bl, off, none⟩ = some (.int .i64 u0) ∧ wc.drew.cell? ⟨bl, off + 1, none⟩ = some (.int .i64 u1) ∧ Hid (Below w.heap.size w wc.drew ∧ bl < w.heap.size) from ⟨k0, k1, Lib.hid ⟨HB5.out.drew, hbl⟩⟩)
                  go_wp2_with fail
                  go_cut [145] (fun s wx => s = .bool false ∧ Hid (Below w.heap.size w wx))
                  case first =>
                    by_cases hu : u0 < u1
                    · obtain ⟨z, HZC⟩ : ∃ r, Hid (checkI u0 u1 t 0 = r) := ⟨_, Lib.hid rfl⟩
                      obtain rfl : i0 = (z == 0) := by rw [← HI0.out, ← HZC.out, check_in t0 t1 u0 u1 hu]
                      have hd : decide (u0 < u1) = true := decide_eq_true hu
                      go_region_held3 (fun W => W.cell? ⟨bl, off, none⟩ = some (.int .i64 u0) ∧ W.cell? ⟨bl, off + 1, none⟩ = some (.int .i64 u1) ∧ Hid (Below w.heap.size w W ∧ bl < w.heap.size))
                        (first | exact HS2.out | assumption | go_keep)
                        (first
                          | (go_at_call 17; with_reducible refine (in2 u0 u1 t (z == 0) HI0.out (by first | assumption | exact HS2.out)).mono ?_; rintro e w5 ⟨rfl, hb⟩)
                          | (go_at_call 19; with_reducible refine (check2 u0 u1 t 0 z HZC.out (by first | assumption | exact HS2.out)).mono ?_; rintro e w5 ⟨rfl, hb⟩))
                      all_goals (go_wp2_with fail; go_meet; exact ⟨by first | rfl | simp | (cases (z == 0) <;> rfl), Lib.hid hb.2.2.out.1⟩)
                    · have hd : decide (u0 < u1) = false := decide_eq_false hu
                      clear hu
                      go_quiet (fail)
                      go_wp2_with fail
                      go_meet
                      exact ⟨rfl, Lib.hid (HB5.out.trans ⟨rfl, rfl, rfl, Nat.le_refl _, fun _ _ => rfl⟩)⟩
                  case rest =>
                    obtain ⟨rfl, HB6⟩ := hcut
                    obtain ⟨mm, hmm⟩ : ∃ r, min kk 1000 = r := ⟨_, rfl⟩
                    have hmb : -9223372036854775808 ≤ mm ∧ mm ≤ 1000 := by have := int_range hkk; omega
                    obtain ⟨hm1, hm2⟩ := hmb
                    obtain ⟨z1, HZ1⟩ : ∃ r, Hid (checkI u0 u1 t mm = r) := ⟨_, Lib.hid rfl⟩
                    have HMO := Lib.hid (check_more u0 u1 t mm)
                    obtain ⟨k0, k1⟩ := (HSW.out.below HB6.out hbl).2 0 (by omega)
                    rw [HU0.out] at k0 k1
                    simp only [Nat.zero_mul, Nat.add_zero] at k0 k1
                    clear hkk
                    cases hz : (z1 != 0) with
                    | true =>
                      go_wp2_with fail
                      refine (check_k u0 u1 t mm z1 _ HZ1.out).mono ?_
                      rintro e w7 ⟨rfl, hb⟩
                      have HB7 := Lib.hid (HB6.out.trans (hb.mono HB6.out.size))
                      clear hb k0 k1
                      go_wp2_with fail
                      refine (live_k _ (HO.out.below HB7.out)).mono ?_
                      rintro e w8 ⟨rfl, hb⟩
                      go_wp2_with fail
                      go_ret
                      exact ⟨rfl, HB7.out.trans (hb.mono HB7.out.size)⟩
                    | false =>
                      have HZ2 := Lib.hid (show checkI u0 u1 t (mm + 1) = 0 by
                        rcases HMO.out with h | h
                        · rw [HZ1.out, hz] at h; cases h
                        · exact h)
                      go_wp2_with fail
                      refine (check_k u0 u1 t mm z1 _ HZ1.out).mono ?_
                      rintro e w7 ⟨rfl, hb⟩
                      have HB7 := Lib.hid (HB6.out.trans (hb.mono HB6.out.size))
                      clear hb k0 k1
                      obtain ⟨k0, k1⟩ := (HSW.out.below HB7.out hbl).2 0 (by omega)
                      rw [HU0.out] at k0 k1
                      simp only [Nat.zero_mul, Nat.add_zero] at k0 k1
                      go_wp2_with fail
                      refine (check_k u0 u1 t (mm + 1) 0 _ HZ2.out).mono ?_
                      rintro e w8 ⟨rfl, hb⟩
                      have HB8 := Lib.hid (HB7.out.trans (hb.mono HB7.out.size))
                      clear hb k0 k1
                      go_wp2_with fail
                      refine (live_k _ (HO.out.below HB8.out)).mono ?_
                      rintro e w9 ⟨rfl, hb⟩
                      go_wp2_with fail
                      go_ret
                      exact ⟨rfl, HB8.out.trans (hb.mono HB8.out.size)⟩

end Go.Proofs.YtnncfifpgjlpaabDoor
