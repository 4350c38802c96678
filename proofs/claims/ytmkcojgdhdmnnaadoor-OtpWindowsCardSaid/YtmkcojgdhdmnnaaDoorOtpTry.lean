/-
  A case of otp's laws as it comes in. No condition.
-/
import Derived.Test.YtmkcojgdhdmnnaaDoorOtpL
import Derived.Test.YtmkcojgdhdmnnaaDoorKbC
import Derived.Lib.SmallJoins
import Derived.Deep.Slices
import Derived.Deep.Strs
import Derived.OpenShut
set_option maxRecDepth 100000
set_option linter.unusedVariables false
set_option linter.unusedSimpArgs false
set_option linter.unnecessarySimpa false
namespace Go.Proofs.YtmkcojgdhdmnnaaDoor
open Go.RowKit Go.PlainAid Go.ChangeShapes Go.WideShapes Go.ChangeAt

structure Tr where
  sec : ByteArray
  code : ByteArray
  last : Int
  look : Int
  now : Int
  k : Int
  near : Bool
theorem Tr.ext' {g h : Tr} (h0 : g.sec = h.sec) (h1 : g.code = h.code) (h2 : g.last = h.last) (h3 : g.look = h.look) (h4 : g.now = h.now) (h5 : g.k = h.k) (h6 : g.near = h.near) : g = h := by
  cases g; cases h; simp only at h0 h1 h2 h3 h4 h5 h6; subst h0 h1 h2 h3 h4 h5 h6; rfl
instance : DecidableEq Tr := fun g h => decidable_of_iff (g.sec = h.sec ∧ g.code = h.code ∧ g.last = h.last ∧ g.look = h.look ∧ g.now = h.now ∧ g.k = h.k ∧ g.near = h.near)
  ⟨fun ⟨h0, h1, h2, h3, h4, h5, h6⟩ => Tr.ext' h0 h1 h2 h3 h4 h5 h6, fun e => by rw [e]; exact ⟨rfl, rfl, rfl, rfl, rfl, rfl, rfl⟩⟩
def tZ : Tr := ⟨⟨#[]⟩, ⟨#[]⟩, 0, 0, 0, 0, false⟩
def tcells (g : Tr) : List Value := [.string g.sec, .string g.code, .int .i64 g.last, .int .i64 g.look, .int .i64 g.now, .int .i64 g.k, .bool g.near]
def tV (g : Tr) : Value := .agg (tcells g).toArray
def tB (g : Tr) : Obj := .cells (tcells g).toArray 29
def tA (l : List Tr) (j : Nat) : Tr := l.getD j tZ
theorem t_get {l : List Tr} {j : Nat} (h : j < l.length) : tA l j = l[j] := by unfold tA; rw [List.getD_eq_getElem?_getD, List.getElem?_eq_getElem h]; rfl
theorem t_mem {l : List Tr} {j : Nat} (h : j < l.length) : tA l j ∈ l := by rw [t_get h]; exact List.getElem_mem h
theorem take_t (l : List Tr) (k : Nat) (h : k < l.length) : l.take (k + 1) = l.take k ++ [tA l k] := by
  rw [List.take_add_one, List.getElem?_eq_getElem h, t_get h]; rfl
theorem ts_ext {ps qs : List Tr} (hl : ps.length = qs.length) (h : ∀ j, j < ps.length → tA ps j = tA qs j) : ps = qs := by
  apply List.ext_getElem hl
  intro j h1 h2
  have := h j h1
  rwa [t_get h1, t_get h2] at this
/-- the cells of one, at a place -/
structure AtT (w : World) (b o : Nat) (g : Tr) : Prop where
  c0 : w.cell? ⟨b, o, none⟩ = some (.string g.sec)
  c1 : w.cell? ⟨b, o + 1, none⟩ = some (.string g.code)
  c2 : w.cell? ⟨b, o + 2, none⟩ = some (.int .i64 g.last)
  c3 : w.cell? ⟨b, o + 3, none⟩ = some (.int .i64 g.look)
  c4 : w.cell? ⟨b, o + 4, none⟩ = some (.int .i64 g.now)
  c5 : w.cell? ⟨b, o + 5, none⟩ = some (.int .i64 g.k)
  c6 : w.cell? ⟨b, o + 6, none⟩ = some (.bool g.near)
theorem AtT.below {w w' : World} {b o : Nat} {g : Tr} (h : AtT w b o g) {B : Nat} (hb : Below B w w') (hB : b < B) : AtT w' b o g :=
  ⟨(hb.cell (p := ⟨b, o, none⟩) hB).trans h.c0, (hb.cell (p := ⟨b, o + 1, none⟩) hB).trans h.c1, (hb.cell (p := ⟨b, o + 2, none⟩) hB).trans h.c2, (hb.cell (p := ⟨b, o + 3, none⟩) hB).trans h.c3, (hb.cell (p := ⟨b, o + 4, none⟩) hB).trans h.c4, (hb.cell (p := ⟨b, o + 5, none⟩) hB).trans h.c5, (hb.cell (p := ⟨b, o + 6, none⟩) hB).trans h.c6⟩
theorem AtT.of_box {W : World} {b : Nat} {g : Tr} (h : KbC W b (tB g)) : AtT W b 0 g :=
  ⟨h.cell rfl, h.cell rfl, h.cell rfl, h.cell rfl, h.cell rfl, h.cell rfl, h.cell rfl⟩
theorem AtT.of_at {w : World} {b o : Nat} {g : Tr} (h : ∀ k, k < 7 → w.cell? ⟨b, o + k, none⟩ = (tcells g)[k]?) : AtT w b o g :=
  ⟨h 0 (by omega), h 1 (by omega), h 2 (by omega), h 3 (by omega), h 4 (by omega), h 5 (by omega), h 6 (by omega)⟩
theorem tcells_len (g : Tr) : (tcells g).length = 7 := rfl
theorem cells_t : Tryd.prog.cellsOf 29 = 7 := by kernel_rfl
theorem t_list7 {α : Type} {l : List α} (h : l.length = 7) : ∃ x0 x1 x2 x3 x4 x5 x6, l = [x0, x1, x2, x3, x4, x5, x6] := by
  match l, h with
  | [x0, x1, x2, x3, x4, x5, x6], _ => exact ⟨x0, x1, x2, x3, x4, x5, x6, rfl⟩
/-- what came in: ints of the range, strings of a string's length -/
structure InT (g : Tr) : Prop where
  sec : g.sec.size ≤ maxLen
  code : g.code.size ≤ maxLen
  last : -9223372036854775808 ≤ g.last ∧ g.last ≤ 9223372036854775807
  look : -9223372036854775808 ≤ g.look ∧ g.look ≤ 9223372036854775807
  now : -9223372036854775808 ≤ g.now ∧ g.now ≤ 9223372036854775807
  k : -9223372036854775808 ≤ g.k ∧ g.k ≤ 9223372036854775807
theorem t_range {n : Int} (h : (Lit.int .i64 n).wf = true) : -9223372036854775808 ≤ n ∧ n ≤ 9223372036854775807 := by
  unfold Lit.wf at h
  rw [Bool.and_eq_true, decide_eq_true_iff, decide_eq_true_iff] at h
  exact h
set_option maxHeartbeats 2000000 in
theorem t_open {H : Type} {enc : TypeId × Value → H} {W : World} {fuel : Nat} {cs : List Value} {x : DataW H × List MemPlace} (h : DataW.trod enc Tryd.prog W 0 (fun _ => true) true fuel 29 cs = some x) : ∃ g : Tr, cs = tcells g ∧ InT g := by
  obtain ⟨xs0, n0, _, rfl, hl0, hlen0, hf0⟩ := DataW.trod_struct Tryd.underlying29 h
  rw [cells_t] at hl0
  obtain ⟨a0, a1, a2, a3, a4, a5, a6, rfl⟩ := t_list7 hl0
  obtain ⟨y0_0, y0_1, y0_2, y0_3, y0_4, y0_5, y0_6, rfl⟩ := t_list7 hlen0
  have t0_0 : DataW.trod enc Tryd.prog W 0 (fun _ => true) true n0 9 [a0] = some y0_0 := hf0 0 _ rfl
  have t0_1 : DataW.trod enc Tryd.prog W 0 (fun _ => true) true n0 9 [a1] = some y0_1 := hf0 1 _ rfl
  have t0_2 : DataW.trod enc Tryd.prog W 0 (fun _ => true) true n0 3 [a2] = some y0_2 := hf0 2 _ rfl
  have t0_3 : DataW.trod enc Tryd.prog W 0 (fun _ => true) true n0 3 [a3] = some y0_3 := hf0 3 _ rfl
  have t0_4 : DataW.trod enc Tryd.prog W 0 (fun _ => true) true n0 3 [a4] = some y0_4 := hf0 4 _ rfl
  have t0_5 : DataW.trod enc Tryd.prog W 0 (fun _ => true) true n0 3 [a5] = some y0_5 := hf0 5 _ rfl
  have t0_6 : DataW.trod enc Tryd.prog W 0 (fun _ => true) true n0 4 [a6] = some y0_6 := hf0 6 _ rfl
  obtain ⟨z0, q0, _, r0⟩ := DataW.trod_string Tryd.underlying9 t0_0
  obtain ⟨z1, q1, _, r1⟩ := DataW.trod_string Tryd.underlying9 t0_1
  obtain ⟨z2, q2, _, r2⟩ := DataW.trod_int Tryd.underlying3 t0_2
  obtain ⟨z3, q3, _, r3⟩ := DataW.trod_int Tryd.underlying3 t0_3
  obtain ⟨z4, q4, _, r4⟩ := DataW.trod_int Tryd.underlying3 t0_4
  obtain ⟨z5, q5, _, r5⟩ := DataW.trod_int Tryd.underlying3 t0_5
  obtain ⟨z6, q6, _⟩ := DataW.trod_bool Tryd.underlying4 t0_6
  simp only [List.cons.injEq, and_true] at q0 q1 q2 q3 q4 q5 q6
  subst q0 q1 q2 q3 q4 q5 q6
  exact ⟨⟨z0, z1, z2, z3, z4, z5, z6⟩, rfl, ⟨r0, r1, t_range r2, t_range r3, t_range r4, t_range r5⟩⟩
set_option maxHeartbeats 2000000 in
/-- one that came in -/
theorem open_t {H : Type} {enc : TypeId × Value → H} {W : World} {base : Nat} {v : Value} {d : DataW H} {p : List MemPlace} (hval : Value.okWide Tryd.prog W .any base 29 v)
    (h0 : DataW.Trod enc Tryd.prog W 0 (fun _ => true) true 29 v d p) : ∃ g : Tr, v = tV g ∧ InT g := by
  obtain ⟨cs, rfl, hsz⟩ := okWide_struct Tryd.underlying29 hval
  obtain ⟨fuel, hf⟩ := h0
  obtain ⟨g, hg, hi⟩ := t_open hf
  refine ⟨g, ?_, hi⟩
  have : cs.toList = tcells g := hg
  unfold tV
  rw [← this]

end Go.Proofs.YtmkcojgdhdmnnaaDoor
