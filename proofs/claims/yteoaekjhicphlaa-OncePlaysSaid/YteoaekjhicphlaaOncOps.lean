/-
  Calls as they come in. No condition.
-/
import Derived.Test.YteoaekjhicphlaaOncM
import Derived.Lib.SmallJoins
import Derived.Deep.Slices
import Derived.Deep.Strs
import Derived.OpenShut
import Derived.ArgAppend
import Derived.Test.YteoaekjhicphlaaBaseLow
import Derived.Laws.AppendOwnNone
set_option maxRecDepth 100000
set_option linter.unusedVariables false
set_option linter.unusedSimpArgs false
set_option linter.unnecessarySimpa false
namespace Go.Proofs.Yteoaekjhicphlaa
open Go.RowKit Go.PlainAid Go.ChangeShapes Go.WideShapes Go.ChangeAt

structure Oc where
  kd : Int
  id : ByteArray
  un : Int
  nw : Int
theorem Oc.ext' {g h : Oc} (h0 : g.kd = h.kd) (h1 : g.id = h.id) (h2 : g.un = h.un) (h3 : g.nw = h.nw) : g = h := by
  cases g; cases h; simp only at h0 h1 h2 h3; subst h0 h1 h2 h3; rfl
instance : DecidableEq Oc := fun g h => decidable_of_iff (g.kd = h.kd ∧ g.id = h.id ∧ g.un = h.un ∧ g.nw = h.nw)
  ⟨fun ⟨h0, h1, h2, h3⟩ => Oc.ext' h0 h1 h2 h3, fun e => by rw [e]; exact ⟨rfl, rfl, rfl, rfl⟩⟩
def ocZ : Oc := ⟨0, ⟨#[]⟩, 0, 0⟩
def occells (g : Oc) : List Value := [.int .i64 g.kd, .string g.id, .int .i64 g.un, .int .i64 g.nw]
def ocV (g : Oc) : Value := .agg (occells g).toArray
def ocB (g : Oc) : Obj := .cells (occells g).toArray 33
def ocA (l : List Oc) (j : Nat) : Oc := l.getD j ocZ
theorem oc_get {l : List Oc} {j : Nat} (h : j < l.length) : ocA l j = l[j] := by unfold ocA; rw [List.getD_eq_getElem?_getD, List.getElem?_eq_getElem h]; rfl
theorem oc_mem {l : List Oc} {j : Nat} (h : j < l.length) : ocA l j ∈ l := by rw [oc_get h]; exact List.getElem_mem h
theorem take_oc (l : List Oc) (k : Nat) (h : k < l.length) : l.take (k + 1) = l.take k ++ [ocA l k] := by
  rw [List.take_add_one, List.getElem?_eq_getElem h, oc_get h]; rfl
theorem ocs_ext {ps qs : List Oc} (hl : ps.length = qs.length) (h : ∀ j, j < ps.length → ocA ps j = ocA qs j) : ps = qs := by
  apply List.ext_getElem hl
  intro j h1 h2
  have := h j h1
  rwa [oc_get h1, oc_get h2] at this
/-- the cells of one, at a place -/
structure AtOc (w : World) (b o : Nat) (g : Oc) : Prop where
  c0 : w.cell? ⟨b, o, none⟩ = some (.int .i64 g.kd)
  c1 : w.cell? ⟨b, o + 1, none⟩ = some (.string g.id)
  c2 : w.cell? ⟨b, o + 2, none⟩ = some (.int .i64 g.un)
  c3 : w.cell? ⟨b, o + 3, none⟩ = some (.int .i64 g.nw)
theorem AtOc.below {w w' : World} {b o : Nat} {g : Oc} (h : AtOc w b o g) {B : Nat} (hb : Below B w w') (hB : b < B) : AtOc w' b o g :=
  ⟨(hb.cell (p := ⟨b, o, none⟩) hB).trans h.c0, (hb.cell (p := ⟨b, o + 1, none⟩) hB).trans h.c1, (hb.cell (p := ⟨b, o + 2, none⟩) hB).trans h.c2, (hb.cell (p := ⟨b, o + 3, none⟩) hB).trans h.c3⟩
theorem AtOc.of_box {W : World} {b : Nat} {g : Oc} (h : KbC W b (ocB g)) : AtOc W b 0 g :=
  ⟨h.cell rfl, h.cell rfl, h.cell rfl, h.cell rfl⟩
theorem AtOc.of_at {w : World} {b o : Nat} {g : Oc} (h : ∀ k, k < 4 → w.cell? ⟨b, o + k, none⟩ = (occells g)[k]?) : AtOc w b o g :=
  ⟨h 0 (by omega), h 1 (by omega), h 2 (by omega), h 3 (by omega)⟩
theorem occells_len (g : Oc) : (occells g).length = 4 := rfl
def IsOcs (w : World) (b off : Nat) (ps : List Oc) : Prop :=
  b < w.heap.size ∧ ∀ j, j < ps.length → ∀ k, k < 4 → w.cell? ⟨b, off + j * 4 + k, none⟩ = (occells (ocA ps j))[k]?
theorem IsOcs.below {w w' : World} {b off : Nat} {ps : List Oc} (h : IsOcs w b off ps) {B : Nat} (hb : Below B w w') (hB : b < B) : IsOcs w' b off ps :=
  ⟨Nat.lt_of_lt_of_le h.1 hb.size, fun j hj k hk => by rw [hb.cell (p := ⟨b, off + j * 4 + k, none⟩) hB]; exact h.2 j hj k hk⟩
theorem IsOcs.at_ {w : World} {b off : Nat} {ps : List Oc} (h : IsOcs w b off ps) {j : Nat} (hj : j < ps.length) : AtOc w b (off + j * 4) (ocA ps j) := .of_at (h.2 j hj)
def OcsAt (w : World) (ao : Option Addr) (n cap : Nat) (ps : List Oc) : Prop :=
  ps.length = n ∧ n ≤ cap ∧ cap ≤ maxLen ∧ (0 < n → ∃ b off, ao = some ⟨b, off, none⟩ ∧ IsOcs w b off ps) ∧ (ao = none → cap = 0)
theorem OcsAt.below {w w' : World} {ao : Option Addr} {n cap : Nat} {ps : List Oc} (h : OcsAt w ao n cap ps) (hb : Below w.heap.size w w') : OcsAt w' ao n cap ps :=
  ⟨h.1, h.2.1, h.2.2.1, fun hn => by
    obtain ⟨b, off, e, hi⟩ := h.2.2.2.1 hn
    exact ⟨b, off, e, hi.below hb hi.1⟩, h.2.2.2.2⟩
theorem ocs_nil (w : World) : OcsAt w none 0 0 [] := ⟨rfl, Nat.le_refl _, by unfold maxLen; omega, fun h => absurd h (Nat.lt_irrefl _), fun _ => rfl⟩
def occs (l : List Oc) : List Value := l.flatMap occells
theorem occs_app (l m : List Oc) : occs (l ++ m) = occs l ++ occs m := by simp [occs]
theorem occs_len : ∀ l : List Oc, (occs l).length = l.length * 4
  | [] => rfl
  | q :: l => by
    have h := occs_len l
    have e : occs (q :: l) = occells q ++ occs l := rfl
    rw [e, List.length_append, h, occells_len, List.length_cons]; omega
theorem occs_at : ∀ (l : List Oc) (j k : Nat), j < l.length → k < 4 → (occs l)[j * 4 + k]? = (occells (ocA l j))[k]?
  | [], j, k, h, _ => absurd h (Nat.not_lt_zero _)
  | q :: l, 0, k, h, hk => by
    have e : occs (q :: l) = occells q ++ occs l := rfl
    rw [e, Nat.zero_mul, Nat.zero_add, List.getElem?_append_left (by rw [occells_len]; exact hk)]; rfl
  | q :: l, j + 1, k, h, hk => by
    have := occs_at l j k (by simpa using h) hk
    have e : occs (q :: l) = occells q ++ occs l := rfl
    rw [e, List.getElem?_append_right (by rw [occells_len]; omega), occells_len, show (j + 1) * 4 + k - 4 = j * 4 + k by omega, this]; rfl
theorem occs_one (l : List Oc) : ∀ u ∈ occs l, u.oneCell' = true := by
  intro u hu
  obtain ⟨q, _, hp⟩ := List.mem_flatMap.1 hu
  simp [occells] at hp
  rcases hp with rfl | rfl | rfl | rfl <;> rfl
theorem info_oc : (Try.prog.info? 33).map (fun i => (i.zero, i.size, i.bytes)) = some (some (.agg #[.int .i64 0, .string ⟨#[]⟩, .int .i64 0, .int .i64 0]), 4, 40) := by kernel_rfl
theorem oc_parts {t : TypeId} {z : Value} {n b : Nat} (h : (Try.prog.info? t).map (fun i => (i.zero, i.size, i.bytes)) = some (some z, n, b)) : ∃ i, Try.prog.info? t = some i ∧ i.zero = some z ∧ i.size = n ∧ i.bytes = b := by
  cases hi : Try.prog.info? t with
  | none => rw [hi] at h; cases h
  | some i =>
    rw [hi] at h
    simp only [Option.map_some, Option.some.injEq, Prod.mk.injEq] at h
    exact ⟨i, rfl, h.1, h.2.1, h.2.2⟩
theorem ocs_cells {w : World} {b off : Nat} {ps : List Oc} (h : IsOcs w b off ps) : ∀ j u, (occs ps)[j]? = some u → w.cell? ((⟨b, off, none⟩ : Addr).add j) = some u := by
  intro j u hj
  rw [WideShapes.add_plain]
  have hl : j < (occs ps).length := by
    rcases Nat.lt_or_ge j (occs ps).length with k | k
    · exact k
    · rw [List.getElem?_eq_none k] at hj; cases hj
  rw [occs_len] at hl
  have hk := occs_at ps (j / 4) (j % 4) (by omega) (by omega)
  have hc := h.2 (j / 4) (by omega) (j % 4) (by omega)
  rw [show j / 4 * 4 + j % 4 = j by omega] at hk
  rw [show off + j / 4 * 4 + j % 4 = off + j by omega, ← hk] at hc
  rw [hc]; exact hj
/-- 'l = append(l, gs...)' where l is the call's own -/
theorem app_ocs {ops : Array Oper} {rest : List Oper} {o : Oper} {a : Act} {Q : Exit → Act → World → Prop} (wr : World) {base : Nat} {v : Value} {n : Nat} {xs : List Value} (hown : wr.ownsRow base 33 4 v n xs) (s x : Operand)
    (ao : Option Addr) (m c : Nat) (news : List Oc) (hgd : o.guard = none)
    (ho : o.op = .call { callee := .builtin .append, args := #[s, x], argTypes := #[22, 22] })
    (hs : a.eval s = v) (hx : a.eval x = .slice ao m c) (hw : OcsAt wr ao m c news) (hn : n + m ≤ 1000000000) (hbase : base ≤ wr.heap.size)
    (h : ∀ v' w', w'.ownsRow base 33 4 v' (n + m) (xs ++ occs news) → Below base wr w' → wpList Try.prog ops Q rest (a.put o.dst v') w') :
    wpList Try.prog ops Q (o :: rest) a wr := by
  obtain ⟨i0, hi, hz0, hz1, hz2⟩ := oc_parts info_oc
  obtain ⟨w1, w2, w3, w4, w5⟩ := hw
  cases ao with
  | none =>
    have hc := w5 rfl
    subst hc
    have hm : m = 0 := by omega
    subst hm
    have hnil : news = [] := List.length_eq_zero_iff.1 w1
    subst hnil
    refine wpList_append_own_none hgd s x 22 ho base 33 i0 4 Try.underlying22 hi v n xs hs hown hx ?_
    have := h v wr (by rw [show occs [] = [] from rfl, List.append_nil]; exact hown) (Below.refl _ _)
    exact this
  | some ad =>
    have hnews : ∀ j u, (occs news)[j]? = some u → wr.cell? (ad.add j) = some u := by
      rcases Nat.eq_zero_or_pos m with e | e
      · have hnil : news = [] := List.length_eq_zero_iff.1 (by omega)
        subst hnil
        intro j u hj; simp [occs] at hj
      · obtain ⟨b, off, e2, hi2⟩ := w4 e
        cases e2
        exact ocs_cells hi2
    refine wpList_append_own _ hgd s x 22 ho base 33 i0 (.agg #[.int .i64 0, .string ⟨#[]⟩, .int .i64 0, .int .i64 0]) 4 40 Try.underlying22 hi hz0 hz1 hz2 rfl (by decide) v n xs hs hown ad m c (occs news) hx (by rw [occs_len, w1]) hnews
      (occs_one _) (by unfold maxLen; omega) (by omega) hbase ?_
    intro v' w' h1 h2 _
    exact h v' w' h1 ((Below.refl base wr).grown h2 hbase (fun k hk => (hown.lt k hk).1))
theorem ocs_of_owns {w : World} {base : Nat} {v : Value} {n : Nat} {ps : List Oc} (h : w.ownsRow base 33 4 v n (occs ps)) : ∃ ao cap, v = .slice ao n cap ∧ OcsAt w ao n cap ps := by
  have h0 := h
  obtain ⟨hl, ⟨rfl, hz⟩ | ⟨g, cap, cur, rfl, h2, h3, h4, h5, h6⟩⟩ := h
  · rw [occs_len] at hl
    have hn : ps.length = n := by omega
    subst hz
    exact ⟨none, 0, rfl, hn, Nat.le_refl _, by unfold maxLen; omega, fun h => absurd h (Nat.lt_irrefl _), fun _ => rfl⟩
  · rw [occs_len] at hl
    have hlen : ps.length = n := by omega
    refine ⟨some ⟨g, 0, none⟩, cap, rfl, hlen, h4, h5, fun _ => ⟨g, 0, rfl, (Array.getElem?_eq_some_iff.1 h3).1, fun j hj k hk => ?_⟩, fun e => (by cases e)⟩
    have hk2 := occs_at ps j k hj hk
    obtain ⟨u, hu⟩ : ∃ u, (occells (ocA ps j))[k]? = some u := ⟨(occells (ocA ps j))[k]'(by rw [occells_len]; exact hk), List.getElem?_eq_getElem _⟩
    rw [hu] at hk2 ⊢
    have := h0.cells rfl _ _ hk2
    rw [WideShapes.add_plain] at this
    rw [show 0 + j * 4 + k = 0 + (j * 4 + k) by omega]; exact this
theorem OcsAt.empty {w : World} {ao : Option Addr} {cap : Nat} {ps : List Oc} (h : OcsAt w ao 0 cap ps) : ps = [] := List.length_eq_zero_iff.1 h.1
theorem cells_oc : Try.prog.cellsOf 33 = 4 := by kernel_rfl
theorem oc_list4 {α : Type} {l : List α} (h : l.length = 4) : ∃ x0 x1 x2 x3, l = [x0, x1, x2, x3] := by
  match l, h with
  | [x0, x1, x2, x3], _ => exact ⟨x0, x1, x2, x3, rfl⟩
/-- what came in: ints of the range, strings of a string's length -/
structure InOc (g : Oc) : Prop where
  kd : -9223372036854775808 ≤ g.kd ∧ g.kd ≤ 9223372036854775807
  id : g.id.size ≤ maxLen
  un : -9223372036854775808 ≤ g.un ∧ g.un ≤ 9223372036854775807
  nw : -9223372036854775808 ≤ g.nw ∧ g.nw ≤ 9223372036854775807
theorem oc_range {n : Int} (h : (Lit.int .i64 n).wf = true) : -9223372036854775808 ≤ n ∧ n ≤ 9223372036854775807 := by
  unfold Lit.wf at h
  rw [Bool.and_eq_true, decide_eq_true_iff, decide_eq_true_iff] at h
  exact h
set_option maxHeartbeats 2000000 in
theorem oc_open {H : Type} {enc : TypeId × Value → H} {W : World} {fuel : Nat} {cs : List Value} {x : DataW H × List MemPlace} (h : DataW.trod enc Try.prog W 0 (fun _ => true) true fuel 33 cs = some x) : ∃ g : Oc, cs = occells g ∧ InOc g := by
  obtain ⟨xs0, n0, _, rfl, hl0, hlen0, hf0⟩ := DataW.trod_struct Try.underlying33 h
  rw [cells_oc] at hl0
  obtain ⟨a0, a1, a2, a3, rfl⟩ := oc_list4 hl0
  obtain ⟨y0_0, y0_1, y0_2, y0_3, rfl⟩ := oc_list4 hlen0
  have t0_0 : DataW.trod enc Try.prog W 0 (fun _ => true) true n0 3 [a0] = some y0_0 := hf0 0 _ rfl
  have t0_1 : DataW.trod enc Try.prog W 0 (fun _ => true) true n0 9 [a1] = some y0_1 := hf0 1 _ rfl
  have t0_2 : DataW.trod enc Try.prog W 0 (fun _ => true) true n0 3 [a2] = some y0_2 := hf0 2 _ rfl
  have t0_3 : DataW.trod enc Try.prog W 0 (fun _ => true) true n0 3 [a3] = some y0_3 := hf0 3 _ rfl
  obtain ⟨z0, q0, _, r0⟩ := DataW.trod_int Try.underlying3 t0_0
  obtain ⟨z1, q1, _, r1⟩ := DataW.trod_string Try.underlying9 t0_1
  obtain ⟨z2, q2, _, r2⟩ := DataW.trod_int Try.underlying3 t0_2
  obtain ⟨z3, q3, _, r3⟩ := DataW.trod_int Try.underlying3 t0_3
  simp only [List.cons.injEq, and_true] at q0 q1 q2 q3
  subst q0 q1 q2 q3
  exact ⟨⟨z0, z1, z2, z3⟩, rfl, ⟨oc_range r0, r1, oc_range r2, oc_range r3⟩⟩
set_option maxHeartbeats 2000000 in
/-- one that came in -/
theorem open_oc {H : Type} {enc : TypeId × Value → H} {W : World} {base : Nat} {v : Value} {d : DataW H} {p : List MemPlace} (hval : Value.okWide Try.prog W .any base 33 v)
    (h0 : DataW.Trod enc Try.prog W 0 (fun _ => true) true 33 v d p) : ∃ g : Oc, v = ocV g ∧ InOc g := by
  obtain ⟨cs, rfl, hsz⟩ := okWide_struct Try.underlying33 hval
  obtain ⟨fuel, hf⟩ := h0
  obtain ⟨g, hg, hi⟩ := oc_open hf
  refine ⟨g, ?_, hi⟩
  have : cs.toList = occells g := hg
  unfold ocV
  rw [← this]
theorem choose_ocs {w : World} {b off len : Nat} (h : ∀ i, i < len → ∃ g : Oc, InOc g ∧ ∀ k, k < 4 → w.cell? ⟨b, off + i * 4 + k, none⟩ = (occells g)[k]?) :
    ∃ ps : List Oc, ps.length = len ∧ (∀ g ∈ ps, InOc g) ∧ ∀ i, i < len → ∀ k, k < 4 → w.cell? ⟨b, off + i * 4 + k, none⟩ = (occells (ocA ps i))[k]? := by
  induction len with
  | zero => exact ⟨[], rfl, (fun g hg => by cases hg), fun i hi => absurd hi (Nat.not_lt_zero _)⟩
  | succ n ih =>
    obtain ⟨ps, hl, hin, hp⟩ := ih (fun i hi => h i (by omega))
    obtain ⟨g, hg, hc⟩ := h n (by omega)
    refine ⟨ps ++ [g], by simp [hl], fun x hx => ?_, fun i hi => ?_⟩
    · rcases List.mem_append.1 hx with hx | hx
      · exact hin x hx
      · rw [List.mem_singleton.1 hx]; exact hg
    · by_cases e : i = n
      · subst e
        have e2 : ocA (ps ++ [g]) i = g := by
          unfold ocA
          rw [List.getD_eq_getElem?_getD, List.getElem?_append_right (by omega), hl]; simp
        rw [e2]; exact hc
      · have e2 : ocA (ps ++ [g]) i = ocA ps i := by
          unfold ocA
          rw [List.getD_eq_getElem?_getD, List.getD_eq_getElem?_getD, List.getElem?_append_left (by omega)]
        rw [e2]; exact hp i (by omega)
set_option maxHeartbeats 2000000 in
/-- a list that came in -/
theorem open_ocs {H : Type} {enc : TypeId × Value → H} {W : World} {base : Nat} {v : Value} {d : DataW H} {p : List MemPlace} (hval : Value.okWide Try.prog W .any base 22 v)
    (h0 : DataW.Trod enc Try.prog W 0 (fun _ => true) true 22 v d p) : ∃ ao n cap ps, v = .slice ao n cap ∧ OcsAt W ao n cap ps ∧ ∀ g ∈ ps, InOc g := by
  obtain ⟨a0, len, cap, rfl⟩ := okWide_slice Try.underlying22 hval
  obtain ⟨fuel, hf⟩ := h0
  rcases Go.Deep.open_slice Try.underlying22 hf with ⟨hcs, hx⟩ | ⟨a, len', cap', m, n, D, Pl, hcs, _, hl, hm, hmm, hx, hcell⟩
  · simp [Value.cells] at hcs
    obtain ⟨rfl, rfl, rfl⟩ := hcs
    exact ⟨none, 0, 0, [], rfl, ocs_nil W, fun g hg => by cases hg⟩
  · simp [Value.cells] at hcs
    obtain ⟨rfl, rfl, rfl⟩ := hcs
    simp only [if_true] at hmm
    rw [hmm] at hcell
    have each : ∀ i, i < len → ∃ g : Oc, InOc g ∧ ∀ k, k < 4 → W.cell? (a.add (i * 4 + k)) = (occells g)[k]? := by
      intro i hi
      obtain ⟨cs', h1, h2⟩ := hcell i (by omega)
      rw [cells_oc] at h1
      obtain ⟨_, hlen, hc⟩ := World.cells?_some h1
      obtain ⟨g, rfl, hg⟩ := oc_open h2
      refine ⟨g, hg, fun k hk => ?_⟩
      have e0 := hc k hk
      rw [Go.Deep.add_add] at e0
      rw [e0, List.getElem?_eq_getElem (by rw [occells_len]; exact hk)]
    by_cases hn : 0 < len
    · obtain ⟨b, off, spot⟩ := a
      obtain ⟨g0, _, h1⟩ := each 0 hn
      have h1 := h1 0 (by decide)
      have h1 : W.cell? (Addr.add ⟨b, off, spot⟩ (0 * 4 + 0)) = some (.int .i64 g0.kd) := h1
      have hspot : spot = none := by simpa [Addr.add] using World.cell?_spot h1
      subst hspot
      have hb : b < W.heap.size := by
        rw [add_plain] at h1
        exact World.block_lt_of_cell? W _ h1
      obtain ⟨ps, hpl, hin, hps⟩ := choose_ocs (w := W) (b := b) (off := off) (len := len) (fun i hi => by
        obtain ⟨g, hg, hc⟩ := each i hi
        refine ⟨g, hg, fun k hk => ?_⟩
        have := hc k hk
        rw [add_plain, ← Nat.add_assoc] at this
        exact this)
      exact ⟨_, len, cap, ps, rfl, ⟨hpl, hl, hm, fun _ => ⟨b, off, rfl, hb, fun j hj => hps j (by omega)⟩, fun e => by cases e⟩, hin⟩
    · exact ⟨_, len, cap, [], rfl, ⟨by simp; omega, hl, hm, fun h => absurd h hn, fun e => by cases e⟩, fun g hg => by cases hg⟩

end Go.Proofs.Yteoaekjhicphlaa
