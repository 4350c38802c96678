/-
  What the proofs of the clock's laws share: the witness at a world that lays the listed variables, the two tables, windows that came in.
-/
import Derived.Test.YtnncfifpgjlpaabDoorCards
import Derived.Test.YtnncfifpgjlpaabDoorTie
import Derived.WalkKit
import Derived.ProofKit
import Derived.OpenShut
import Derived.Deep.DeepHandedRow
import Derived.Lay
import Derived.Shelf.Vars
import Derived.Test.YtnncfifpgjlpaabDoorClkLive
import Derived.Lib.SmallJoins
import Derived.Deep.SlicePairs
import Derived.Lib.LaidTab
import Derived.Stop.LaidErr
set_option linter.unusedVariables false
set_option linter.unusedSimpArgs false
set_option linter.unnecessarySimpa false
namespace Go.Proofs.YtnncfifpgjlpaabDoor
open Go.ChangeShapes Go.WideShapes Go.ChangeAt Go.RowKit

theorem own : ownKnob Tryd.prog.godebug = none := by kernel_rfl

theorem witness_row {H : Type} {enc : TypeId × Value → H} {C : Checked} {os : Os} {f : FuncId} {fn : Func} {s : OpenSpec} {conds : List PathCond} {apart : Bool} {laid : List (String × DataW Unit)} (modest : Bool) (w0 : World) (args : Array Value) (hos : w0.os = os)
    (hsh : (w0.forCall (fun _ _ => 0) ⟨#[], args, []⟩).Shaped C.prog)
    (hok : Input.okWideB C.prog (w0.forCall (fun _ _ => 0) ⟨#[], args, []⟩) f ⟨#[], args, []⟩ = true)
    (hrow : s.preRow enc C.prog fn conds apart laid (w0.forCall (fun _ _ => 0) ⟨#[], args, []⟩).memory args) :
    ∃ (w : World) (tape : Tape) (i : Input), w.os = os ∧ (w.forCall tape i).Shaped C.prog ∧ i.vars = [] ∧ Input.okWide C.prog (w.forCall tape i) .any w.heap.size f i ∧
      s.preRow enc C.prog fn conds apart laid (w.forCall tape i).memory i.args ∧ ({ modest := modest } : Assume).holds C.prog (lone (Frame.enter C.prog f i.args .normal) [] (w.forCall tape i)) :=
  ⟨w0, fun _ _ => 0, ⟨#[], args, []⟩, hos, hsh, (Input.okWide_of_okWideB (base := 0) hok).1, (Input.okWide_of_okWideB hok).2, hrow, by
    simp only [Assume.holds]
    exact ⟨by simp, by simp, fun _ => Modest.zero, by simp, by simp⟩⟩

theorem laidOut : laidOutB Tryd.prog = true := by kernel_rfl

/-- arguments that are only read read behind the call as before it -/
theorem trodAll_below {H : Type} {enc : TypeId × Value → H} {W W' : World} (hb : Below W.heap.size W W') : ∀ (ts : List TypeId) (vs : List Value) (ds : List (DataW H)) (ps : List MemPlace),
    (∀ t ∈ ts, Tryd.prog.readableRec t = true ∧ t < Tryd.prog.types.size) → DataW.TrodAll enc Tryd.prog W 0 (fun _ => true) true ts vs ds ps → (∀ x ∈ ps, x.block < W.heap.size) →
    DataW.TrodAll enc Tryd.prog W' 0 (fun b => decide (b < W.heap.size)) true ts vs ds ps
  | [], vs, ds, ps, _, h, _ => by
    obtain ⟨rfl, rfl, rfl⟩ := trodAll_nil h
    exact trodAll_mk0
  | t :: ts, vs, ds, ps, hr, h, hl => by
    obtain ⟨v, vs', d, ds', p, q, rfl, rfl, rfl, h0, r0⟩ := trodAll_cons h
    exact trodAll_cons_mk (Below.trod laidOut (hr t (by simp)).1 (hr t (by simp)).2 h0 hb (fun x hx => hl x (by simp [hx])))
      (trodAll_below hb ts vs' ds' q (fun t ht => hr t (by simp [ht])) r0 (fun x hx => hl x (by simp [hx])))

def TabOk (w : World) : Prop := MonOk w ∧ PowOk w
theorem TabOk.below {w w' : World} (h : TabOk w) (hb : Below w.heap.size w w') : TabOk w' := ⟨h.1.below hb, h.2.below hb⟩
def monI : List Int := [31, 28, 31, 30, 31, 30, 31, 31, 30, 31, 30, 31]
theorem tab_ok {W : World} (hL : laidMetH Tryd.prog [("math/bits.deBruijn32tab", Rows.laid_math_bits_deBruijn32tab), ("math/bits.deBruijn64tab", Rows.laid_math_bits_deBruijn64tab), ("internal/strconv.uint64pow10", Rows.laid_internal_strconv_uint64pow10), ("identity/clock.monthDays", Rows.laid_identity_clock_monthDays)] W) : TabOk W := by
  rw [MakeChecks.laidMetH_plain _ _ _ (by kernel_rfl)] at hL
  refine ⟨?_, Lib.tabIs_of_head (g := 2) (by kernel_rfl) (by kernel_rfl) Tryd.underlying116 Tryd.underlying92 (by kernel_rfl) (by kernel_rfl) hL.tail.tail⟩
  have h : Lib.TabIs Tryd.prog W "identity/clock.monthDays" .i64 monI := Lib.tabIs_of_head (g := 0) (by kernel_rfl) (by kernel_rfl) Tryd.underlying60 Tryd.underlying3 (by kernel_rfl) (by kernel_rfl) hL.tail.tail.tail
  intro j hj
  have hc := h.cell (g := 0) (by kernel_rfl) j (by show j < 12; exact hj)
  rw [hc]
  have : ∀ j, j < 12 → monI.getD j 0 = ((mtab (j + 1) : Nat) : Int) := by decide
  rw [this j hj]
theorem int_range {n : Int} (h : (Lit.int .i64 n).wf = true) : -9223372036854775808 ≤ n ∧ n ≤ 9223372036854775807 := by
  unfold Lit.wf at h
  rw [Bool.and_eq_true, decide_eq_true_iff, decide_eq_true_iff] at h
  exact h
theorem cells_win : Tryd.prog.cellsOf 27 = 2 := by kernel_rfl
set_option maxRecDepth 100000 in
/-- a window that came in -/
theorem open_win {H : Type} {enc : TypeId × Value → H} {W : World} {base : Nat} {v : Value} {d : DataW H} {p : List MemPlace} (hval : Value.okWide Tryd.prog W .any base 27 v)
    (h0 : DataW.Trod enc Tryd.prog W 0 (fun _ => true) true 27 v d p) : ∃ u : Wn, v = .agg #[.int .i64 u.1, .int .i64 u.2] := by
  obtain ⟨v0, v1, y0, y1, n, rfl, _, _, h1, h2⟩ := Go.Joins.open_agg2 Tryd.underlying27 (by kernel_rfl) cells_win hval h0
  obtain ⟨a, ha, _⟩ := DataW.trod_int Tryd.underlying3 h1
  obtain ⟨b, hb, _⟩ := DataW.trod_int Tryd.underlying3 h2
  simp only [List.cons.injEq, and_true] at ha hb
  rw [ha, hb]
  exact ⟨(a, b), rfl⟩
theorem choose_wins {w : World} {b off len : Nat} (h : ∀ i, i < len → ∃ x y : Int, w.cell? ⟨b, off + i * 2, none⟩ = some (.int .i64 x) ∧ w.cell? ⟨b, off + i * 2 + 1, none⟩ = some (.int .i64 y)) :
    ∃ ps : List Wn, ps.length = len ∧ ∀ i, i < len → w.cell? ⟨b, off + i * 2, none⟩ = some (.int .i64 (wnAt ps i).1) ∧ w.cell? ⟨b, off + i * 2 + 1, none⟩ = some (.int .i64 (wnAt ps i).2) := by
  induction len with
  | zero => exact ⟨[], rfl, fun i hi => absurd hi (Nat.not_lt_zero _)⟩
  | succ n ih =>
    obtain ⟨ps, hl, hp⟩ := ih (fun i hi => h i (by omega))
    obtain ⟨x, y, hx, hy⟩ := h n (by omega)
    refine ⟨ps ++ [(x, y)], by simp [hl], fun i hi => ?_⟩
    by_cases e : i = n
    · subst e
      have e2 : wnAt (ps ++ [(x, y)]) i = (x, y) := by
        unfold wnAt
        rw [List.getD_eq_getElem?_getD, List.getElem?_append_right (by omega), hl]; simp
      rw [e2]; exact ⟨hx, hy⟩
    · have e2 : wnAt (ps ++ [(x, y)]) i = wnAt ps i := by
        unfold wnAt
        rw [List.getD_eq_getElem?_getD, List.getD_eq_getElem?_getD, List.getElem?_append_left (by omega)]
      rw [e2]; exact hp i (by omega)
set_option maxRecDepth 100000 in
/-- a slice of windows that came in -/
theorem open_wins {H : Type} {enc : TypeId × Value → H} {W : World} {base : Nat} {v : Value} {d : DataW H} {p : List MemPlace} (hval : Value.okWide Tryd.prog W .any base 32 v)
    (h0 : DataW.Trod enc Tryd.prog W 0 (fun _ => true) true 32 v d p) : ∃ ao n cap ps, v = .slice ao n cap ∧ WinsAt W ao n cap ps ∧ (ao = none → n = 0 ∧ cap = 0) := by
  obtain ⟨a0, len, cap, rfl⟩ := okWide_slice Tryd.underlying32 hval
  obtain ⟨fuel, hf⟩ := h0
  rcases Go.Deep.open_slice_pairs Tryd.underlying32 Tryd.underlying27 cells_win rfl rfl (by kernel_rfl) (by kernel_rfl) hf with ⟨hcs, hx⟩ | ⟨a, len', cap', m, n, V0, V1, D0, D1, P0, P1, hcs, _, hl, hm, hmm, hx, hcell⟩
  · simp [Value.cells] at hcs
    obtain ⟨rfl, rfl, rfl⟩ := hcs
    exact ⟨none, 0, 0, [], rfl, ⟨rfl, Nat.le_refl _, by unfold maxLen; omega, fun h => absurd h (by omega)⟩, fun _ => ⟨rfl, rfl⟩⟩
  · simp [Value.cells] at hcs
    obtain ⟨rfl, rfl, rfl⟩ := hcs
    simp only [if_true] at hmm
    rw [hmm] at hcell
    by_cases hn : 0 < len
    · obtain ⟨b, off, spot⟩ := a
      have h1 := (hcell 0 (by omega)).1
      have hspot : spot = none := by simpa [Addr.add] using World.cell?_spot h1
      subst hspot
      have hb : b < W.heap.size := by
        rw [add_plain] at h1
        exact World.block_lt_of_cell? W _ h1
      obtain ⟨ps, hpl, hps⟩ := choose_wins (w := W) (b := b) (off := off) (len := len) (fun i hi => by
        obtain ⟨c0, c1, t0, t1⟩ := hcell i (by omega)
        rw [add_plain] at c0 c1
        obtain ⟨s0, e0, _⟩ := DataW.trod_int Tryd.underlying3 t0
        obtain ⟨s1, e1, _⟩ := DataW.trod_int Tryd.underlying3 t1
        simp only [List.cons.injEq, and_true] at e0 e1
        rw [e0] at c0
        rw [e1, ← Nat.add_assoc] at c1
        exact ⟨s0, s1, c0, c1⟩)
      exact ⟨_, len, cap, ps, rfl, ⟨hpl, hl, hm, fun _ => ⟨b, off, rfl, hb, fun j hj => hps j (by omega)⟩⟩, fun e => by cases e⟩
    · exact ⟨_, len, cap, [], rfl, ⟨by simp; omega, hl, hm, fun h => absurd h hn⟩, fun e => by cases e⟩
theorem rvalid_k (t : Int) (r : Bool) (w : World) (h : validB t = r) :
    Calls Tryd.prog 11 #[.int .i64 t] w fun e w' => e = .returned (.bool r) ∧ w = w' := by subst h; exact rvalid_s t w
theorem radd_k (t d r : Int) (w : World) (h : addI t d = r) :
    Calls Tryd.prog 13 #[.int .i64 t, .int .i64 d] w fun e w' => e = .returned (.int .i64 r) ∧ w = w' := by subst h; exact radd_s t d w
theorem rsub_k (t d r : Int) (w : World) (h : subI t d = r) :
    Calls Tryd.prog 15 #[.int .i64 t, .int .i64 d] w fun e w' => e = .returned (.int .i64 r) ∧ w = w' := by subst h; exact rsub_s t d w
theorem rin_k (a b t : Int) (r : Bool) (w : World) (h : inW a b t = r) :
    Calls Tryd.prog 18 #[.agg #[.int .i64 a, .int .i64 b], .int .i64 t] w fun e w' => e = .returned (.bool r) ∧ Below w.heap.size w w' := by subst h; exact rin_s a b t w
theorem rcheck_k (a b t s r : Int) (w : World) (h : checkI a b t s = r) :
    Calls Tryd.prog 20 #[.agg #[.int .i64 a, .int .i64 b], .int .i64 t, .int .i64 s] w fun e w' => e = .returned (.int .i64 r) ∧ Below w.heap.size w w' := by subst h; exact rcheck_s a b t s w
theorem rcommon_k (u v r : Wn) (b : Bool) (w : World) (h : comW u v = r) (hb : comB u v = b) :
    Calls Tryd.prog 22 #[.agg #[.int .i64 u.1, .int .i64 u.2], .agg #[.int .i64 v.1, .int .i64 v.2]] w fun e w' => e = .returned (.tuple #[.agg #[.int .i64 r.1, .int .i64 r.2], .bool b]) ∧ Below w.heap.size w w' := by
  subst h; subst hb; exact rcommon_s u v w
theorem runion_k (po : Option Addr) (L cp : Nat) (ps qs : List Wn) (w : World) (h : WinsAt w po L cp ps) (hL : L ≤ 1000) (hq : unionW ps = qs) :
    Calls Tryd.prog 25 #[.slice po L cp] w fun e w' => ∃ ao n cap, e = .returned (.slice ao n cap) ∧ WinsAt w' ao n cap qs ∧ Below w.heap.size w w' := by
  subst hq; exact runion_s po L cp ps w h hL
theorem live_k (w : World) (h : TabOk w) : Calls Tryd.prog 16 #[] w fun e w' => e = .returned (.bool true) ∧ Below w.heap.size w w' := alive_s w h.1 h.2

end Go.Proofs.YtnncfifpgjlpaabDoor
