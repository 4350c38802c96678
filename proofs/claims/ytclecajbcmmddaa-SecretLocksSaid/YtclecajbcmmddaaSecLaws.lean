/-
  What the secret laws share: calls and verifiers that came in, arguments that are only read, and the contracts of light and name. No condition.
-/
import Derived.Test.YtclecajbcmmddaaSecY
import Derived.HandedShaped
import Derived.WalkKit
import Derived.ProofKit
import Derived.OpenShut
import Derived.Deep.DeepHandedRow
import Derived.Shelf.Vars
import Derived.Lib.SmallJoins
import Derived.Deep.Slices
import Derived.Deep.Strs
set_option maxRecDepth 100000
set_option linter.unusedVariables false
set_option linter.unusedSimpArgs false
set_option linter.unnecessarySimpa false
namespace Go.Proofs.Ytclecajbcmmddaa
open Go.ChangeShapes Go.WideShapes Go.ChangeAt Go.RowKit

theorem own : ownKnob Try.prog.godebug = none := by kernel_rfl

theorem max_ok {W : World} (h : W.ShapedOpen Try.prog) : MaxOk W :=
  cell_of_shapedOpen_int (zero := #[.int .i64 0]) (t := 3) h (of_decide_eq_true (by kernel_rfl)) (by kernel_rfl) rfl (by kernel_rfl) (by kernel_rfl) Try.underlying3

theorem laidOut : laidOutB Try.prog = true := by kernel_rfl

/-- arguments that are only read read behind the call as before it -/
theorem trodAll_below {H : Type} {enc : TypeId × Value → H} {W W' : World} (hb : Below W.heap.size W W') : ∀ (ts : List TypeId) (vs : List Value) (ds : List (DataW H)) (ps : List MemPlace),
    (∀ t ∈ ts, Try.prog.readableRec t = true ∧ t < Try.prog.types.size) → DataW.TrodAll enc Try.prog W 0 (fun _ => true) true ts vs ds ps → (∀ x ∈ ps, x.block < W.heap.size) →
    DataW.TrodAll enc Try.prog W' 0 (fun b => decide (b < W.heap.size)) true ts vs ds ps
  | [], vs, ds, ps, _, h, _ => by
    obtain ⟨rfl, rfl, rfl⟩ := trodAll_nil h
    exact trodAll_mk0
  | t :: ts, vs, ds, ps, hr, h, hl => by
    obtain ⟨v, vs', d, ds', p, q, rfl, rfl, rfl, h0, r0⟩ := trodAll_cons h
    exact trodAll_cons_mk (Below.trod laidOut (hr t (by simp)).1 (hr t (by simp)).2 h0 hb (fun x hx => hl x (by simp [hx])))
      (trodAll_below hb ts vs' ds' q (fun t ht => hr t (by simp [ht])) r0 (fun x hx => hl x (by simp [hx])))

/-- a call: which, its number, its string -/
abbrev Op := Int × Int × ByteArray
def opA (ps : List Op) (i : Nat) : Op := ps.getD i (0, 0, ⟨#[]⟩)
def IsOps (w : World) (b off : Nat) (ps : List Op) : Prop :=
  b < w.heap.size ∧ ∀ j, j < ps.length → w.cell? ⟨b, off + j * 3, none⟩ = some (.int .i64 (opA ps j).1) ∧ w.cell? ⟨b, off + j * 3 + 1, none⟩ = some (.int .i64 (opA ps j).2.1) ∧ w.cell? ⟨b, off + j * 3 + 2, none⟩ = some (.string (opA ps j).2.2)
theorem IsOps.below {w w' : World} {b off : Nat} {ps : List Op} (h : IsOps w b off ps) {B : Nat} (hb : Below B w w') (hB : b < B) : IsOps w' b off ps :=
  ⟨Nat.lt_of_lt_of_le h.1 hb.size, fun j hj => by
    rw [hb.cell (p := ⟨b, off + j * 3, none⟩) hB, hb.cell (p := ⟨b, off + j * 3 + 1, none⟩) hB, hb.cell (p := ⟨b, off + j * 3 + 2, none⟩) hB]; exact h.2 j hj⟩
def OpsAt (w : World) (ao : Option Addr) (n cap : Nat) (ps : List Op) : Prop :=
  ps.length = n ∧ n ≤ cap ∧ cap ≤ maxLen ∧ (0 < n → ∃ b off, ao = some ⟨b, off, none⟩ ∧ IsOps w b off ps) ∧ (ao = none → cap = 0)
theorem OpsAt.below {w w' : World} {ao : Option Addr} {n cap : Nat} {ps : List Op} (h : OpsAt w ao n cap ps) (hb : Below w.heap.size w w') : OpsAt w' ao n cap ps :=
  ⟨h.1, h.2.1, h.2.2.1, fun hn => by
    obtain ⟨b, off, e, hi⟩ := h.2.2.2.1 hn
    exact ⟨b, off, e, hi.below hb hi.1⟩, h.2.2.2.2⟩
theorem ops_nil (w : World) : OpsAt w none 0 0 [] := ⟨rfl, Nat.le_refl _, by unfold maxLen; omega, fun h => absurd h (Nat.lt_irrefl _), fun _ => rfl⟩
theorem cells_op : Try.prog.cellsOf 33 = 3 := by kernel_rfl
theorem int_range {n : Int} (h : (Lit.int .i64 n).wf = true) : -9223372036854775808 ≤ n ∧ n ≤ 9223372036854775807 := by
  unfold Lit.wf at h
  rw [Bool.and_eq_true, decide_eq_true_iff, decide_eq_true_iff] at h
  exact h
theorem cells_vf : Try.prog.cellsOf 40 = 3 := by kernel_rfl
theorem choose_ops {w : World} {b off len : Nat} (h : ∀ i, i < len → ∃ (x y : Int) (z : ByteArray), w.cell? ⟨b, off + i * 3, none⟩ = some (.int .i64 x) ∧ w.cell? ⟨b, off + i * 3 + 1, none⟩ = some (.int .i64 y) ∧ w.cell? ⟨b, off + i * 3 + 2, none⟩ = some (.string z)) :
    ∃ ps : List Op, ps.length = len ∧ ∀ i, i < len → w.cell? ⟨b, off + i * 3, none⟩ = some (.int .i64 (opA ps i).1) ∧ w.cell? ⟨b, off + i * 3 + 1, none⟩ = some (.int .i64 (opA ps i).2.1) ∧ w.cell? ⟨b, off + i * 3 + 2, none⟩ = some (.string (opA ps i).2.2) := by
  induction len with
  | zero => exact ⟨[], rfl, fun i hi => absurd hi (Nat.not_lt_zero _)⟩
  | succ n ih =>
    obtain ⟨ps, hl, hp⟩ := ih (fun i hi => h i (by omega))
    obtain ⟨x, y, z, hx, hy, hz⟩ := h n (by omega)
    refine ⟨ps ++ [(x, y, z)], by simp [hl], fun i hi => ?_⟩
    by_cases e : i = n
    · subst e
      have e2 : opA (ps ++ [(x, y, z)]) i = (x, y, z) := by
        unfold opA
        rw [List.getD_eq_getElem?_getD, List.getElem?_append_right (by omega), hl]; simp
      rw [e2]; exact ⟨hx, hy, hz⟩
    · have e2 : opA (ps ++ [(x, y, z)]) i = opA ps i := by
        unfold opA
        rw [List.getD_eq_getElem?_getD, List.getD_eq_getElem?_getD, List.getElem?_append_left (by omega)]
      rw [e2]; exact hp i (by omega)
set_option maxRecDepth 100000 in
/-- a list of numbers that came in -/
theorem open_ops {H : Type} {enc : TypeId × Value → H} {W : World} {base : Nat} {v : Value} {d : DataW H} {p : List MemPlace} (hval : Value.okWide Try.prog W .any base 22 v)
    (h0 : DataW.Trod enc Try.prog W 0 (fun _ => true) true 22 v d p) : ∃ ao n cap ps, v = .slice ao n cap ∧ OpsAt W ao n cap ps := by
  obtain ⟨a0, len, cap, rfl⟩ := okWide_slice Try.underlying22 hval
  obtain ⟨fuel, hf⟩ := h0
  rcases Go.Deep.open_slice Try.underlying22 hf with ⟨hcs, hx⟩ | ⟨a, len', cap', m, n, D, Pl, hcs, _, hl, hm, hmm, hx, hcell⟩
  · simp [Value.cells] at hcs
    obtain ⟨rfl, rfl, rfl⟩ := hcs
    exact ⟨none, 0, 0, [], rfl, ops_nil W⟩
  · simp [Value.cells] at hcs
    obtain ⟨rfl, rfl, rfl⟩ := hcs
    simp only [if_true] at hmm
    rw [hmm] at hcell
    have each : ∀ i, i < len → ∃ (x y : Int) (z : ByteArray), W.cell? (a.add (i * 3)) = some (.int .i64 x) ∧ W.cell? (a.add (i * 3 + 1)) = some (.int .i64 y) ∧ W.cell? (a.add (i * 3 + 2)) = some (.string z) := by
      intro i hi
      obtain ⟨cs', h1, h2⟩ := hcell i (by omega)
      rw [cells_op] at h1
      obtain ⟨_, hlen, hc⟩ := World.cells?_some h1
      obtain ⟨y0, y1, y2, k, _, _, t0, t1, t2⟩ := Go.Deep.trod_struct3 Try.underlying33 h2
      match cs', hlen with
      | [v0, v1, v2], _ =>
        obtain ⟨x, hx, _⟩ := DataW.trod_int Try.underlying3 (show DataW.trod enc Try.prog W 0 (fun _ => true) true k 3 [v0] = some y0 from t0)
        obtain ⟨y, hy, _⟩ := DataW.trod_int Try.underlying3 (show DataW.trod enc Try.prog W 0 (fun _ => true) true k 3 [v1] = some y1 from t1)
        obtain ⟨z, hz, _⟩ := DataW.trod_string Try.underlying9 (show DataW.trod enc Try.prog W 0 (fun _ => true) true k 9 [v2] = some y2 from t2)
        simp only [List.cons.injEq, and_true] at hx hy hz
        subst hx hy hz
        have e0 := hc 0 (by omega)
        have e1 := hc 1 (by omega)
        have e2 := hc 2 (by omega)
        rw [Go.Deep.add_add] at e0 e1 e2
        exact ⟨x, y, z, by simpa using e0, by simpa using e1, by simpa using e2⟩
    by_cases hn : 0 < len
    · obtain ⟨b, off, spot⟩ := a
      obtain ⟨_, _, _, h1, _, _⟩ := each 0 hn
      have hspot : spot = none := by simpa [Addr.add] using World.cell?_spot h1
      subst hspot
      have hb : b < W.heap.size := by
        rw [add_plain] at h1
        exact World.block_lt_of_cell? W _ h1
      obtain ⟨ps, hpl, hps⟩ := choose_ops (w := W) (b := b) (off := off) (len := len) (fun i hi => by
        obtain ⟨x, y, z, c0, c1, c2⟩ := each i hi
        rw [add_plain] at c0 c1 c2
        rw [← Nat.add_assoc] at c1 c2
        exact ⟨x, y, z, c0, c1, c2⟩)
      exact ⟨_, len, cap, ps, rfl, ⟨hpl, hl, hm, fun _ => ⟨b, off, rfl, hb, fun j hj => hps j (by omega)⟩, fun e => by cases e⟩⟩
    · exact ⟨_, len, cap, [], rfl, ⟨by simp; omega, hl, hm, fun h => absurd h hn, fun e => by cases e⟩⟩


theorem choose_vfs {w : World} {b off len : Nat} (h : ∀ i, i < len → ∃ (x : ByteArray) (y : Int) (z : ByteArray), w.cell? ⟨b, off + i * 3, none⟩ = some (.string x) ∧ w.cell? ⟨b, off + i * 3 + 1, none⟩ = some (.int .i64 y) ∧ w.cell? ⟨b, off + i * 3 + 2, none⟩ = some (.string z)) :
    ∃ ps : List Vf, ps.length = len ∧ ∀ i, i < len → w.cell? ⟨b, off + i * 3, none⟩ = some (.string (vA ps i).1) ∧ w.cell? ⟨b, off + i * 3 + 1, none⟩ = some (.int .i64 (vA ps i).2.1) ∧ w.cell? ⟨b, off + i * 3 + 2, none⟩ = some (.string (vA ps i).2.2) := by
  induction len with
  | zero => exact ⟨[], rfl, fun i hi => absurd hi (Nat.not_lt_zero _)⟩
  | succ n ih =>
    obtain ⟨ps, hl, hp⟩ := ih (fun i hi => h i (by omega))
    obtain ⟨x, y, z, hx, hy, hz⟩ := h n (by omega)
    refine ⟨ps ++ [(x, y, z)], by simp [hl], fun i hi => ?_⟩
    by_cases e : i = n
    · subst e
      have e2 : vA (ps ++ [(x, y, z)]) i = (x, y, z) := by
        unfold vA
        rw [List.getD_eq_getElem?_getD, List.getElem?_append_right (by omega), hl]; simp
      rw [e2]; exact ⟨hx, hy, hz⟩
    · have e2 : vA (ps ++ [(x, y, z)]) i = vA ps i := by
        unfold vA
        rw [List.getD_eq_getElem?_getD, List.getD_eq_getElem?_getD, List.getElem?_append_left (by omega)]
      rw [e2]; exact hp i (by omega)
set_option maxRecDepth 100000 in
/-- a list of numbers that came in -/
theorem open_vfs {H : Type} {enc : TypeId × Value → H} {W : World} {base : Nat} {v : Value} {d : DataW H} {p : List MemPlace} (hval : Value.okWide Try.prog W .any base 48 v)
    (h0 : DataW.Trod enc Try.prog W 0 (fun _ => true) true 48 v d p) : ∃ ao n cap ps, v = .slice ao n cap ∧ VfsAt W ao n cap ps := by
  obtain ⟨a0, len, cap, rfl⟩ := okWide_slice Try.underlying48 hval
  obtain ⟨fuel, hf⟩ := h0
  rcases Go.Deep.open_slice Try.underlying48 hf with ⟨hcs, hx⟩ | ⟨a, len', cap', m, n, D, Pl, hcs, _, hl, hm, hmm, hx, hcell⟩
  · simp [Value.cells] at hcs
    obtain ⟨rfl, rfl, rfl⟩ := hcs
    exact ⟨none, 0, 0, [], rfl, vfs_nil W⟩
  · simp [Value.cells] at hcs
    obtain ⟨rfl, rfl, rfl⟩ := hcs
    simp only [if_true] at hmm
    rw [hmm] at hcell
    have each : ∀ i, i < len → ∃ (x : ByteArray) (y : Int) (z : ByteArray), W.cell? (a.add (i * 3)) = some (.string x) ∧ W.cell? (a.add (i * 3 + 1)) = some (.int .i64 y) ∧ W.cell? (a.add (i * 3 + 2)) = some (.string z) := by
      intro i hi
      obtain ⟨cs', h1, h2⟩ := hcell i (by omega)
      rw [cells_vf] at h1
      obtain ⟨_, hlen, hc⟩ := World.cells?_some h1
      obtain ⟨y0, y1, y2, k, _, _, t0, t1, t2⟩ := Go.Deep.trod_struct3 Try.underlying40 h2
      match cs', hlen with
      | [v0, v1, v2], _ =>
        obtain ⟨x, hx, _⟩ := DataW.trod_string Try.underlying9 (show DataW.trod enc Try.prog W 0 (fun _ => true) true k 9 [v0] = some y0 from t0)
        obtain ⟨y, hy, _⟩ := DataW.trod_int Try.underlying3 (show DataW.trod enc Try.prog W 0 (fun _ => true) true k 3 [v1] = some y1 from t1)
        obtain ⟨z, hz, _⟩ := DataW.trod_string Try.underlying9 (show DataW.trod enc Try.prog W 0 (fun _ => true) true k 9 [v2] = some y2 from t2)
        simp only [List.cons.injEq, and_true] at hx hy hz
        subst hx hy hz
        have e0 := hc 0 (by omega)
        have e1 := hc 1 (by omega)
        have e2 := hc 2 (by omega)
        rw [Go.Deep.add_add] at e0 e1 e2
        exact ⟨x, y, z, by simpa using e0, by simpa using e1, by simpa using e2⟩
    by_cases hn : 0 < len
    · obtain ⟨b, off, spot⟩ := a
      obtain ⟨_, _, _, h1, _, _⟩ := each 0 hn
      have hspot : spot = none := by simpa [Addr.add] using World.cell?_spot h1
      subst hspot
      have hb : b < W.heap.size := by
        rw [add_plain] at h1
        exact World.block_lt_of_cell? W _ h1
      obtain ⟨ps, hpl, hps⟩ := choose_vfs (w := W) (b := b) (off := off) (len := len) (fun i hi => by
        obtain ⟨x, y, z, c0, c1, c2⟩ := each i hi
        rw [add_plain] at c0 c1 c2
        rw [← Nat.add_assoc] at c1 c2
        exact ⟨x, y, z, c0, c1, c2⟩)
      exact ⟨_, len, cap, ps, rfl, ⟨hpl, hl, hm, fun _ => ⟨b, off, rfl, hb, fun j hj => hps j (by omega)⟩, fun e => by cases e⟩⟩
    · exact ⟨_, len, cap, [], rfl, ⟨by simp; omega, hl, hm, fun h => absurd h hn, fun e => by cases e⟩⟩


end Go.Proofs.Ytclecajbcmmddaa
