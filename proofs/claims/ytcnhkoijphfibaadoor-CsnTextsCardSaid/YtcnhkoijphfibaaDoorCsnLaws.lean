/-
  What the proofs of csn's laws share: the witness at a world that lays the listed variables, the table's cell, numbers and lists of numbers that came in.
-/
import Derived.Test.YtcnhkoijphfibaaDoorCards
import Derived.Test.YtcnhkoijphfibaaDoorTie
import Derived.WalkKit
import Derived.ProofKit
import Derived.OpenShut
import Derived.Deep.DeepHandedRow
import Derived.Lay
import Derived.Shelf.Vars
import Derived.Test.YtcnhkoijphfibaaDoorCsnLv
import Derived.Lib.SmallJoins
import Derived.Deep.Slices
import Derived.Deep.Strs
import Derived.Lib.LaidTab
import Derived.Stop.LaidErr
set_option linter.unusedVariables false
set_option linter.unusedSimpArgs false
set_option linter.unnecessarySimpa false
namespace Go.Proofs.YtcnhkoijphfibaaDoor
open Go.ChangeShapes Go.WideShapes Go.ChangeAt Go.RowKit

theorem own : ownKnob Tryd.prog.godebug = none := by kernel_rfl

theorem witness_row {H : Type} {enc : TypeId × Value → H} {C : Checked} {os : Os} {f : FuncId} {fn : Func} {s : OpenSpec} {conds : List PathCond} {apart : Bool} {laid : List (String × DataW Unit)} (modest : Bool) (w0 : World) (args : Array Value) (hos : w0.os = os)
    (hsh : (w0.forCall (fun _ _ => 0) ⟨#[], args, []⟩).Shaped C.prog)
    (hok : Input.okWideB C.prog (w0.forCall (fun _ _ => 0) ⟨#[], args, []⟩) f ⟨#[], args, []⟩ = true)
    (hrow : s.preRow enc C.prog fn conds apart laid (w0.forCall (fun _ _ => 0) ⟨#[], args, []⟩).memory args) :
    ∃ (w : World) (tape : Tape) (i : Input), w.os = os ∧ (w.forCall tape i).Shaped C.prog ∧ i.vars = [] ∧ Input.okWide C.prog (w.forCall tape i) .any w.heap.size f i ∧
      s.preRow enc C.prog fn conds apart laid (w.forCall tape i).memory i.args ∧ ({ modest := modest } : Assume).holds C.prog (lone (Frame.enter C.prog f i.args .normal) [] (w.forCall tape i)) :=
  ⟨w0, fun _ _ => 0, ⟨#[], args, []⟩, hos, hsh, (Input.okWide_of_okWideB (base := 0) hok).1, (Input.okWide_of_okWideB hok).2, hrow, by
    simp only [Assume.holds]
    exact ⟨by simp, by simp, fun _ => Modest.zero, by simp, by simp⟩⟩

theorem laidOut : laidOutB Tryd.prog = true := by kernel_rfl

/-- arguments that are only read read behind the call as before it -/
theorem trodAll_below {H : Type} {enc : TypeId × Value → H} {W W' : World} (hb : Below W.heap.size W W') : ∀ (ts : List TypeId) (vs : List Value) (ds : List (DataW H)) (ps : List MemPlace),
    (∀ t ∈ ts, Tryd.prog.readableRec t = true ∧ t < Tryd.prog.types.size) → DataW.TrodAll enc Tryd.prog W 0 (fun _ => true) true ts vs ds ps → (∀ x ∈ ps, x.block < W.heap.size) →
    DataW.TrodAll enc Tryd.prog W' 0 (fun b => decide (b < W.heap.size)) true ts vs ds ps
  | [], vs, ds, ps, _, h, _ => by
    obtain ⟨rfl, rfl, rfl⟩ := trodAll_nil h
    exact trodAll_mk0
  | t :: ts, vs, ds, ps, hr, h, hl => by
    obtain ⟨v, vs', d, ds', p, q, rfl, rfl, rfl, h0, r0⟩ := trodAll_cons h
    exact trodAll_cons_mk (Below.trod laidOut (hr t (by simp)).1 (hr t (by simp)).2 h0 hb (fun x hx => hl x (by simp [hx])))
      (trodAll_below hb ts vs' ds' q (fun t ht => hr t (by simp [ht])) r0 (fun x hx => hl x (by simp [hx])))

theorem max_ok {W : World} (h : W.ShapedOpen Tryd.prog) : MaxOk W :=
  cell_of_shapedOpen_int (zero := #[.int .i64 0]) (t := 3) h (of_decide_eq_true (by kernel_rfl)) (by kernel_rfl) rfl (by kernel_rfl) (by kernel_rfl) Tryd.underlying3
theorem wok_of {W : World} (hL : laidMetH Tryd.prog [("math/bits.deBruijn32tab", Rows.laid_math_bits_deBruijn32tab), ("math/bits.deBruijn64tab", Rows.laid_math_bits_deBruijn64tab), ("internal/strconv.uint64pow10", Rows.laid_internal_strconv_uint64pow10)] W) (hsh : W.ShapedOpen Tryd.prog) : WOk W := by
  rw [MakeChecks.laidMetH_plain _ _ _ (by kernel_rfl)] at hL
  refine ⟨max_ok hsh, ?_⟩
  have h : Lib.TabIs Tryd.prog W "math/bits.deBruijn64tab" .u8 [0, 1, 56, 2, 57, 49, 28, 3, 61, 58, 42, 50, 38, 29, 17, 4, 62, 47, 59, 36, 45, 43, 51, 22, 53, 39, 33, 30, 24, 18, 12, 5, 63, 55, 48, 27, 60, 41, 37, 16, 46, 35, 44, 21, 52, 32, 23, 11, 54, 26, 40, 15, 34, 20, 31, 10, 25, 14, 19, 9, 13, 8, 7, 6] := Lib.tabIs_of_head (g := 3) (by kernel_rfl) (by kernel_rfl) Tryd.underlying109 Tryd.underlying5 (by kernel_rfl) (by kernel_rfl) hL.tail
  exact h.cell (g := 3) (by kernel_rfl) 15 (by decide)
theorem int_range {n : Int} (h : (Lit.int .i64 n).wf = true) : -9223372036854775808 ≤ n ∧ n ≤ 9223372036854775807 := by
  unfold Lit.wf at h
  rw [Bool.and_eq_true, decide_eq_true_iff, decide_eq_true_iff] at h
  exact h
theorem cells_cn : Tryd.prog.cellsOf 23 = 3 := by kernel_rfl
set_option maxRecDepth 100000 in
/-- a number that came in -/
theorem open_cn {H : Type} {enc : TypeId × Value → H} {W : World} {base : Nat} {v : Value} {d : DataW H} {p : List MemPlace} (hval : Value.okWide Tryd.prog W .any base 23 v)
    (h0 : DataW.Trod enc Tryd.prog W 0 (fun _ => true) true 23 v d p) : ∃ u : Cn, v = cnV u := by
  obtain ⟨v0, v1, v2, y0, y1, y2, n, rfl, _, _, h1, h2, h3⟩ := Go.Joins.open_agg3 Tryd.underlying23 (by kernel_rfl) cells_cn hval h0
  obtain ⟨a, ha, _⟩ := DataW.trod_int Tryd.underlying3 h1
  obtain ⟨b, hb, _⟩ := DataW.trod_int Tryd.underlying3 h2
  obtain ⟨c, hc, _⟩ := DataW.trod_int Tryd.underlying3 h3
  simp only [List.cons.injEq, and_true] at ha hb hc
  rw [ha, hb, hc]
  exact ⟨(a, b, c), rfl⟩
theorem choose_cns {w : World} {b off len : Nat} (h : ∀ i, i < len → ∃ x y z : Int, w.cell? ⟨b, off + i * 3, none⟩ = some (.int .i64 x) ∧ w.cell? ⟨b, off + i * 3 + 1, none⟩ = some (.int .i64 y) ∧ w.cell? ⟨b, off + i * 3 + 2, none⟩ = some (.int .i64 z)) :
    ∃ ps : List Cn, ps.length = len ∧ ∀ i, i < len → w.cell? ⟨b, off + i * 3, none⟩ = some (.int .i64 (cnA ps i).1) ∧ w.cell? ⟨b, off + i * 3 + 1, none⟩ = some (.int .i64 (cnA ps i).2.1) ∧ w.cell? ⟨b, off + i * 3 + 2, none⟩ = some (.int .i64 (cnA ps i).2.2) := by
  induction len with
  | zero => exact ⟨[], rfl, fun i hi => absurd hi (Nat.not_lt_zero _)⟩
  | succ n ih =>
    obtain ⟨ps, hl, hp⟩ := ih (fun i hi => h i (by omega))
    obtain ⟨x, y, z, hx, hy, hz⟩ := h n (by omega)
    refine ⟨ps ++ [(x, y, z)], by simp [hl], fun i hi => ?_⟩
    by_cases e : i = n
    · subst e
      have e2 : cnA (ps ++ [(x, y, z)]) i = (x, y, z) := by
        unfold cnA
        rw [List.getD_eq_getElem?_getD, List.getElem?_append_right (by omega), hl]; simp
      rw [e2]; exact ⟨hx, hy, hz⟩
    · have e2 : cnA (ps ++ [(x, y, z)]) i = cnA ps i := by
        unfold cnA
        rw [List.getD_eq_getElem?_getD, List.getD_eq_getElem?_getD, List.getElem?_append_left (by omega)]
      rw [e2]; exact hp i (by omega)
set_option maxRecDepth 100000 in
/-- a list of numbers that came in -/
theorem open_cns {H : Type} {enc : TypeId × Value → H} {W : World} {base : Nat} {v : Value} {d : DataW H} {p : List MemPlace} (hval : Value.okWide Tryd.prog W .any base 39 v)
    (h0 : DataW.Trod enc Tryd.prog W 0 (fun _ => true) true 39 v d p) : ∃ ao n cap ps, v = .slice ao n cap ∧ CnsAt W ao n cap ps := by
  obtain ⟨a0, len, cap, rfl⟩ := okWide_slice Tryd.underlying39 hval
  obtain ⟨fuel, hf⟩ := h0
  rcases Go.Deep.open_slice Tryd.underlying39 hf with ⟨hcs, hx⟩ | ⟨a, len', cap', m, n, D, Pl, hcs, _, hl, hm, hmm, hx, hcell⟩
  · simp [Value.cells] at hcs
    obtain ⟨rfl, rfl, rfl⟩ := hcs
    exact ⟨none, 0, 0, [], rfl, cns_nil W⟩
  · simp [Value.cells] at hcs
    obtain ⟨rfl, rfl, rfl⟩ := hcs
    simp only [if_true] at hmm
    rw [hmm] at hcell
    have each : ∀ i, i < len → ∃ x y z : Int, W.cell? (a.add (i * 3)) = some (.int .i64 x) ∧ W.cell? (a.add (i * 3 + 1)) = some (.int .i64 y) ∧ W.cell? (a.add (i * 3 + 2)) = some (.int .i64 z) := by
      intro i hi
      obtain ⟨cs', h1, h2⟩ := hcell i (by omega)
      rw [cells_cn] at h1
      obtain ⟨_, hlen, hc⟩ := World.cells?_some h1
      obtain ⟨y0, y1, y2, k, _, _, t0, t1, t2⟩ := Go.Deep.trod_struct3 Tryd.underlying23 h2
      match cs', hlen with
      | [v0, v1, v2], _ =>
        obtain ⟨x, hx, _⟩ := DataW.trod_int Tryd.underlying3 (show DataW.trod enc Tryd.prog W 0 (fun _ => true) true k 3 [v0] = some y0 from t0)
        obtain ⟨y, hy, _⟩ := DataW.trod_int Tryd.underlying3 (show DataW.trod enc Tryd.prog W 0 (fun _ => true) true k 3 [v1] = some y1 from t1)
        obtain ⟨z, hz, _⟩ := DataW.trod_int Tryd.underlying3 (show DataW.trod enc Tryd.prog W 0 (fun _ => true) true k 3 [v2] = some y2 from t2)
        simp only [List.cons.injEq, and_true] at hx hy hz
        subst hx hy hz
        have e0 := hc 0 (by omega)
        have e1 := hc 1 (by omega)
        have e2 := hc 2 (by omega)
        rw [Go.Deep.add_add] at e0 e1 e2
        exact ⟨x, y, z, by simpa using e0, by simpa using e1, by simpa using e2⟩
    by_cases hn : 0 < len
    · obtain ⟨b, off, spot⟩ := a
      obtain ⟨_, _, _, h1, _, _⟩ := each 0 hn
      have hspot : spot = none := by simpa [Addr.add] using World.cell?_spot h1
      subst hspot
      have hb : b < W.heap.size := by
        rw [add_plain] at h1
        exact World.block_lt_of_cell? W _ h1
      obtain ⟨ps, hpl, hps⟩ := choose_cns (w := W) (b := b) (off := off) (len := len) (fun i hi => by
        obtain ⟨x, y, z, c0, c1, c2⟩ := each i hi
        rw [add_plain] at c0 c1 c2
        rw [← Nat.add_assoc] at c1 c2
        exact ⟨x, y, z, c0, c1, c2⟩)
      exact ⟨_, len, cap, ps, rfl, ⟨hpl, hl, hm, fun _ => ⟨b, off, rfl, hb, fun j hj => hps j (by omega)⟩, fun e => by cases e⟩⟩
    · exact ⟨_, len, cap, [], rfl, ⟨by simp; omega, hl, hm, fun h => absurd h hn, fun e => by cases e⟩⟩

/-! ### ints -/

def IntsAt (w : World) (ao : Option Addr) (n cap : Nat) (ps : List Int) : Prop :=
  ps.length = n ∧ n ≤ cap ∧ cap ≤ maxLen ∧ (0 < n → ∃ b off, ao = some ⟨b, off, none⟩ ∧ b < w.heap.size ∧ ∀ j, j < ps.length → w.cell? ⟨b, off + j, none⟩ = some (.int .i64 (ps.getD j 0)))
theorem IntsAt.below {w w' : World} {ao : Option Addr} {n cap : Nat} {ps : List Int} (h : IntsAt w ao n cap ps) (hb : Below w.heap.size w w') : IntsAt w' ao n cap ps :=
  ⟨h.1, h.2.1, h.2.2.1, fun hn => by
    obtain ⟨b, off, e, hi, hc⟩ := h.2.2.2 hn
    exact ⟨b, off, e, Nat.lt_of_lt_of_le hi hb.size, fun j hj => by rw [hb.cell (p := ⟨b, off + j, none⟩) hi]; exact hc j hj⟩⟩
theorem choose_ints {w : World} {b off len : Nat} (h : ∀ i, i < len → ∃ x : Int, w.cell? ⟨b, off + i, none⟩ = some (.int .i64 x)) :
    ∃ ps : List Int, ps.length = len ∧ ∀ i, i < len → w.cell? ⟨b, off + i, none⟩ = some (.int .i64 (ps.getD i 0)) := by
  induction len with
  | zero => exact ⟨[], rfl, fun i hi => absurd hi (Nat.not_lt_zero _)⟩
  | succ n ih =>
    obtain ⟨ps, hl, hp⟩ := ih (fun i hi => h i (by omega))
    obtain ⟨x, hx⟩ := h n (by omega)
    refine ⟨ps ++ [x], by simp [hl], fun i hi => ?_⟩
    by_cases e : i = n
    · subst e
      have e2 : (ps ++ [x]).getD i 0 = x := by rw [List.getD_eq_getElem?_getD, List.getElem?_append_right (by omega), hl]; simp
      rw [e2]; exact hx
    · have e2 : (ps ++ [x]).getD i 0 = ps.getD i 0 := by
        rw [List.getD_eq_getElem?_getD, List.getD_eq_getElem?_getD, List.getElem?_append_left (by omega)]
      rw [e2]; exact hp i (by omega)
set_option maxRecDepth 100000 in
theorem open_intl {H : Type} {enc : TypeId × Value → H} {W : World} {base : Nat} {v : Value} {d : DataW H} {p : List MemPlace} (hval : Value.okWide Tryd.prog W .any base 36 v)
    (h0 : DataW.Trod enc Tryd.prog W 0 (fun _ => true) true 36 v d p) : ∃ ao n cap ps, v = .slice ao n cap ∧ IntsAt W ao n cap ps := by
  obtain ⟨a0, len, cap, rfl⟩ := okWide_slice Tryd.underlying36 hval
  obtain ⟨fuel, hf⟩ := h0
  rcases Go.Deep.open_slice1 Tryd.underlying36 (by kernel_rfl) hf with ⟨hcs, hx⟩ | ⟨a, len', cap', m, n, V, D, Pl, hcs, _, hl, hm, hmm, hx, hcell⟩
  · simp [Value.cells] at hcs
    obtain ⟨rfl, rfl, rfl⟩ := hcs
    exact ⟨none, 0, 0, [], rfl, rfl, Nat.le_refl _, by unfold maxLen; omega, fun h => absurd h (by omega)⟩
  · simp [Value.cells] at hcs
    obtain ⟨rfl, rfl, rfl⟩ := hcs
    simp only [if_true] at hmm
    rw [hmm] at hcell
    have each : ∀ i, i < len → ∃ x : Int, W.cell? (a.add i) = some (.int .i64 x) := by
      intro i hi
      obtain ⟨h1, h2⟩ := hcell i (by omega)
      obtain ⟨x, hx, _⟩ := DataW.trod_int Tryd.underlying3 h2
      simp only [List.cons.injEq, and_true] at hx
      rw [hx] at h1
      exact ⟨x, h1⟩
    by_cases hn : 0 < len
    · obtain ⟨b, off, spot⟩ := a
      obtain ⟨_, h1⟩ := each 0 hn
      have hspot : spot = none := by simpa [Addr.add] using World.cell?_spot h1
      subst hspot
      have hb : b < W.heap.size := by
        rw [add_plain] at h1
        exact World.block_lt_of_cell? W _ h1
      obtain ⟨ps, hpl, hps⟩ := choose_ints (w := W) (b := b) (off := off) (len := len) (fun i hi => by
        obtain ⟨x, c0⟩ := each i hi
        rw [add_plain] at c0
        exact ⟨x, c0⟩)
      exact ⟨_, len, cap, ps, rfl, ⟨hpl, hl, hm, fun _ => ⟨b, off, rfl, hb, fun j hj => hps j (by omega)⟩⟩⟩
    · exact ⟨_, len, cap, [], rfl, ⟨by simp; omega, hl, hm, fun h => absurd h hn⟩⟩

/-! ### contracts with their arguments written out -/

theorem cmp_k (a b c d e f x : Int) (w : World) (h : cmpC (a, b, c) (d, e, f) = x) :
    Calls Tryd.prog 11 #[.agg #[.int .i64 a, .int .i64 b, .int .i64 c], .agg #[.int .i64 d, .int .i64 e, .int .i64 f]] w fun q w' => q = .returned (.int .i64 x) ∧ Below w.heap.size w w' := by subst h; exact cmp_s (a, b, c) (d, e, f) w
theorem rcmp_k (a b c d e f x : Int) (w : World) (h : cmpC (a, b, c) (d, e, f) = x) :
    Calls Tryd.prog 14 #[.agg #[.int .i64 a, .int .i64 b, .int .i64 c], .agg #[.int .i64 d, .int .i64 e, .int .i64 f]] w fun q w' => q = .returned (.int .i64 x) ∧ Below w.heap.size w w' := by subst h; exact rcmp_s (a, b, c) (d, e, f) w
theorem vldb_k (a b c : Int) (r : Bool) (w : World) (h : vldC (a, b, c) = r) :
    Calls Tryd.prog 12 #[.agg #[.int .i64 a, .int .i64 b, .int .i64 c]] w fun q w' => q = .returned (.bool r) ∧ Below w.heap.size w w' := by
  subst h; exact (vld_s (a, b, c) w).mono fun q w' ⟨h1, h2⟩ => ⟨h1, h2 ▸ box_below w _⟩
theorem rvldb_k (a b c : Int) (r : Bool) (w : World) (h : vldC (a, b, c) = r) :
    Calls Tryd.prog 13 #[.agg #[.int .i64 a, .int .i64 b, .int .i64 c]] w fun q w' => q = .returned (.bool r) ∧ Below w.heap.size w w' := by
  subst h; exact (rvld_s (a, b, c) w).mono fun q w' ⟨h1, h2⟩ => ⟨h1, h2 ▸ box_below w _⟩
theorem rnext_k (a b c now r x y z q : Int) (w : World) (hv : nxtV (a, b, c) now r = (x, y, z)) (he : nxtE (a, b, c) now r = q) :
    Calls Tryd.prog 22 #[.agg #[.int .i64 a, .int .i64 b, .int .i64 c], .int .i64 now, .int .i64 r] w fun e w' => e = .returned (.tuple #[.agg #[.int .i64 x, .int .i64 y, .int .i64 z], .int .i64 q]) ∧ Below w.heap.size w w' := by
  have h := rnext_s (a, b, c) now r w
  rw [hv, he] at h
  exact h
end Go.Proofs.YtcnhkoijphfibaaDoor
