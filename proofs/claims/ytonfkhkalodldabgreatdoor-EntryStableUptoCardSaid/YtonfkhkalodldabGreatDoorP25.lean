/-
  Texts of the schema layer and of those beneath it, joined: SchEnt, EntSml, EntGd, EntUp, EntLaw, EntLw4. Conditions stand at each contract.
-/
import Derived.Lib.MinMax
import Derived.Test.YtonfkhkalodldabGreatDoorRows
import Derived.Test.YtonfkhkalodldabGreatDoorP14
import Derived.Test.YtonfkhkalodldabGreatDoorP15
import Derived.Test.YtonfkhkalodldabGreatDoorP16
import Derived.Test.YtonfkhkalodldabGreatDoorP17
import Derived.Test.YtonfkhkalodldabGreatDoorP19
import Derived.Test.YtonfkhkalodldabGreatDoorP24
set_option linter.unusedVariables false
set_option linter.unusedSimpArgs false
set_option linter.unnecessarySimpa false

section
/-
  An entry that a law is given, read out of memory; the state of a law with a schema and an entry. No condition.
-/
set_option maxRecDepth 100000
set_option maxRecDepth 100000
namespace Go.Proofs.YtonfkhkalodldabGreatDoor
open Go.ChangeShapes Go.WideShapes Go.ChangeAt Go.RowKit Go.PlainAid
end Go.Proofs.YtonfkhkalodldabGreatDoor
end

section
/-
  Contracts of the specification's guard Small and of the laws' guard short. No condition but that of what is read.
-/
set_option maxRecDepth 100000
set_option maxRecDepth 100000
namespace Go.Proofs.YtonfkhkalodldabGreatDoor
open Go.RowKit Go.PlainAid
end Go.Proofs.YtonfkhkalodldabGreatDoor
end

section
/-
  Contracts of the laws' guard few and of the specification's guard SmallSchema. No condition but that of what is read.
-/
set_option maxRecDepth 100000
set_option maxRecDepth 100000
namespace Go.Proofs.YtonfkhkalodldabGreatDoor
open Go.RowKit Go.PlainAid
/-- modifications that are few and short -/
structure MdS (m : Md) : Prop where
  nm : m.name.size ≤ 100
  len : m.vs.length ≤ 20
  each : ∀ v ∈ m.vs, v.size ≤ 300
structure FewMd (l : List Md) : Prop where
  len : l.length ≤ 41
  each : ∀ m ∈ l, MdS m
theorem FewMd.sm {l : List Md} (h : FewMd l) : SmM l :=
  ⟨fun m hm => by have := (h.each m hm).nm; omega, fun m hm => by have := (h.each m hm).len; omega, fun m hm v hv => by have := (h.each m hm).each v hv; omega⟩
end Go.Proofs.YtonfkhkalodldabGreatDoor
end

section
/-
  Arguments of the laws, opened where what is read is of bounded bulk. No condition.
-/
set_option maxRecDepth 100000
set_option maxRecDepth 100000
namespace Go.Proofs.YtonfkhkalodldabGreatDoor
open Go.ChangeShapes Go.WideShapes Go.ChangeAt Go.RowKit Go.PlainAid
theorem bk_one {H : Type} (d : DataW H) : 1 ≤ Rows.uptoBulk d := by
  cases d with
  | lit l => cases l <;> simp [Rows.uptoBulk]
  | nil => simp [Rows.uptoBulk]
  | ptr d => simp [Rows.uptoBulk]
  | slice elems spare => simp [Rows.uptoBulk]
  | agg parts => simp [Rows.uptoBulk]
  | iface t d => simp [Rows.uptoBulk]
  | map entries => simp [Rows.uptoBulk]
  | held h => simp [Rows.uptoBulk]
theorem bk_part {H : Type} {d : DataW H} : ∀ {l : List (DataW H)}, d ∈ l → Rows.uptoBulk d ≤ Rows.uptoBulkAll l
  | x :: r, h => by
    simp only [Rows.uptoBulkAll]
    rcases List.mem_cons.1 h with e | e
    · rw [e]; omega
    · have := bk_part e; omega
theorem bk_len {H : Type} : ∀ l : List (DataW H), l.length ≤ Rows.uptoBulkAll l
  | [] => Nat.zero_le _
  | x :: r => by
    have h1 := bk_one x
    have h2 := bk_len r
    simp only [Rows.uptoBulkAll, List.length_cons]; omega
theorem bk_slice {H : Type} {d : DataW H} {el sp : List (DataW H)} (h : d ∈ el) : Rows.uptoBulk d ≤ Rows.uptoBulk (.slice el sp) := by
  have := bk_part h
  simp only [Rows.uptoBulk]; omega
theorem bk_slice_len {H : Type} {el sp : List (DataW H)} {K : Nat} (h : Rows.uptoBulk (.slice el sp) ≤ K) : el.length ≤ K := by
  have := bk_len el
  simp only [Rows.uptoBulk] at h; omega
theorem bk_agg {H : Type} {d : DataW H} {l : List (DataW H)} (h : d ∈ l) : Rows.uptoBulk d ≤ Rows.uptoBulk (.agg l) := by
  have := bk_part h
  simp only [Rows.uptoBulk]; omega
theorem bk_str {H : Type} (bytes : List UInt8) : Rows.uptoBulk (DataW.lit (H := H) (.string bytes)) = bytes.length + 1 := by simp [Rows.uptoBulk]
theorem bk_bound {H : Type} {l : List (DataW H)} (hk : Rows.uptoSmall H l = true) : Rows.uptoBulkAll l ≤ 1048576 := of_decide_eq_true hk
/-- few strings, few letters -/
def SBk (K : Nat) (l : List ByteArray) : Prop := l.length ≤ K ∧ ∀ v ∈ l, v.size ≤ K
def RAU (K : Nat) (l : List At) : Prop := l.length ≤ K ∧ ∀ a ∈ l, a.1.size ≤ K ∧ SBk K a.2
def RTyU (K : Nat) (l : List Ty) : Prop := l.length ≤ K ∧ ∀ t ∈ l, t.name.size ≤ K
def RClU (K : Nat) (l : List Cl) : Prop := l.length ≤ K ∧ ∀ c ∈ l, c.name.size ≤ K ∧ c.super.size ≤ K ∧ SBk K c.must ∧ SBk K c.may
theorem strs_bulk {H : Type} {ss : List ByteArray} {sp : List (DataW H)} {K : Nat} (hz : Rows.uptoBulk (DataW.slice (strs ss) sp) ≤ K) : SBk K ss := by
  refine ⟨?_, fun v hv => ?_⟩
  · have h := bk_slice_len hz
    simpa [strs] using h
  · have h := Nat.le_trans (bk_slice (sp := sp) (d := DataW.lit (H := H) (.string v.data.toList)) (el := strs ss) (List.mem_map.2 ⟨v, hv, rfl⟩)) hz
    rw [bk_str, str_len] at h
    omega
theorem RAU.sm {K : Nat} {l : List At} (h : RAU K l) (hK : K ≤ 1048576) : SmallA l := fun a ha => ⟨by have := (h.2 a ha).1; omega, fun v hv => by have := (h.2 a ha).2.2 v hv; omega⟩
theorem RAU.fv {K : Nat} {l : List At} (h : RAU K l) (hK : K ≤ 1048576) : FewV l := fun a ha => by have := (h.2 a ha).2.1; omega
theorem RTyU.sm {K : Nat} {l : List Ty} (h : RTyU K l) (hK : K ≤ 1048576) : SmT l := fun t ht => by have := h.2 t ht; omega
theorem RClU.sm {K : Nat} {l : List Cl} (h : RClU K l) (hK : K ≤ 1048576) : SmC l := fun c hc => by
  obtain ⟨h1, h2, h3, h4⟩ := h.2 c hc
  exact ⟨by omega, by omega, fun s hs => by have := h3.2 s hs; omega, fun s hs => by have := h4.2 s hs; omega⟩
theorem trod_strU {K : Nat} {H : Type} {enc : TypeId × Value → H} {W : World} {v : Value} {y : DataW H × List MemPlace} {fuel : Nat}
    (hf : DataW.trod enc Tryz.prog W 0 (fun _ => true) true fuel 9 [v] = some y) (hz : Rows.uptoBulk y.1 ≤ K) : ∃ s, v = .string s ∧ s.size ≤ K := by
  obtain ⟨s0, e0, ed, _⟩ := DataW.trod_string Tryz.underlying9 hf
  simp only [List.cons.injEq, and_true] at e0
  refine ⟨s0, e0, ?_⟩
  rw [ed] at hz
  have h : Rows.uptoBulk (DataW.lit (H := H) (.string s0.data.toList)) ≤ K := hz
  rw [bk_str, str_len] at h
  omega
set_option maxRecDepth 100000 in
theorem trod_strsU {K : Nat} {H : Type} {enc : TypeId × Value → H} {W : World} {v : Value} {x : DataW H × List MemPlace} {fuel : Nat}
    (hf : DataW.trod enc Tryz.prog W 0 (fun _ => true) true fuel 38 [v] = some x) (hz : Rows.uptoBulk x.1 ≤ K) : ∃ ao n cap ps, v = .slice ao n cap ∧ StrsAt W ao n cap ps ∧ SBk K ps := by
  rcases open_strings Tryz.underlying38 Tryz.underlying9 cells_string hf with ⟨hcs, hx⟩ | ⟨a, len, cap, ss, hcs, _, hl, hm, hzz, hx, hcell, hws⟩
  · injection hcs with h1 _
    exact ⟨none, 0, 0, [], h1, ⟨rfl, Nat.le_refl _, by unfold maxLen; omega, fun h => absurd h (by omega)⟩, ⟨Nat.zero_le _, fun v hv => (List.not_mem_nil hv).elim⟩⟩
  · injection hcs with h1 _
    simp only [if_true] at hzz
    subst hx
    refine ⟨_, len, cap, ss.take len, h1, ⟨by rw [List.length_take]; omega, hl, hm, fun hn => ?_⟩, strs_bulk hz⟩
    obtain ⟨b, off, spot⟩ := a
    have hspot : spot = none := by simpa [Addr.add] using World.cell?_spot (hcell 0 (by omega))
    subst hspot
    have h1 := hcell 0 (by omega)
    rw [add_plain] at h1
    refine ⟨b, off, rfl, World.block_lt_of_cell? W _ h1, fun j hj => ?_⟩
    rw [List.length_take] at hj
    rw [← add_plain, hcell j (by omega)]
    unfold partAt
    rw [List.getD_eq_getElem?_getD, List.getD_eq_getElem?_getD, List.getElem?_take, if_pos (by omega)]
set_option maxRecDepth 100000 in
theorem trod_tysU {K : Nat} {H : Type} {enc : TypeId × Value → H} {W : World} {v : Value} {y : DataW H × List MemPlace} {fuel : Nat}
    (hf : DataW.trod enc Tryz.prog W 0 (fun _ => true) true fuel 22 [v] = some y) (hz : Rows.uptoBulk y.1 ≤ K) : ∃ ao n cap l, v = .slice ao n cap ∧ TysAt W ao n cap l ∧ RTyU K l := by
  rcases Go.Deep.open_slice Tryz.underlying22 hf with ⟨hcs, hx⟩ | ⟨a, len, cap, m, n, D, Pl, hcs, _, hl, hm, hmm, hx, hel⟩
  · simp only [List.cons.injEq, and_true] at hcs
    exact ⟨none, 0, 0, [], hcs, ⟨rfl, Nat.le_refl _, by unfold maxLen; omega, fun h => absurd h (by omega)⟩, ⟨Nat.zero_le _, fun a ha => (List.not_mem_nil ha).elim⟩⟩
  · simp only [List.cons.injEq, and_true] at hcs
    simp only [if_true] at hmm
    rw [hmm] at hel hx
    have each : ∀ i, i < len → ∃ t : Ty, (W.cell? (a.add (i * 3)) = some (.string t.name) ∧ W.cell? ((a.add (i * 3)).add 1) = some (.int .i64 t.syn) ∧ W.cell? ((a.add (i * 3)).add 2) = some (.bool t.single)) ∧ t.name.size ≤ K := fun i hi => by
      obtain ⟨cs, h1, h2⟩ := hel i (by omega)
      obtain ⟨v0, v1, v2, y0, y1, y2, k, e0, e1, e2, g0, g1, g2, hd⟩ := elem3 Tryz.underlying104 cells_ty rfl rfl rfl (by kernel_rfl) (by kernel_rfl) (by kernel_rfl) h1 h2
      have hw : Rows.uptoBulk (DataW.agg [y0.1, y1.1, y2.1]) ≤ K := by
        rw [hx] at hz
        exact Nat.le_trans (bk_slice (List.mem_map.2 ⟨i, List.mem_range.2 hi, hd⟩)) hz
      obtain ⟨s, rfl, hs⟩ := trod_strU (K := K) g0 (Nat.le_trans (bk_agg (by simp)) hw)
      obtain ⟨x, hx1, _⟩ := DataW.trod_int und_syntax g1
      obtain ⟨t, ht1, _⟩ := DataW.trod_bool Tryz.underlying4 g2
      simp only [List.cons.injEq, and_true] at hx1 ht1
      rw [hx1] at e1
      rw [ht1] at e2
      rw [cells_ty] at e0 e1 e2
      exact ⟨⟨s, x, t⟩, ⟨e0, e1, e2⟩, hs⟩
    obtain ⟨l, hll, hlp⟩ := choose_list (default : Ty) each
    have hlk : len ≤ K := by
      rw [hx] at hz
      have h := bk_slice_len hz
      simp at h; omega
    refine ⟨_, len, cap, l, hcs, ⟨hll, hl, hm, fun hn => ?_⟩, by omega, fun t ht => ?_⟩
    · obtain ⟨b, off, spot⟩ := a
      have h1 := (hlp 0 hn).1.1
      have hspot : spot = none := by simpa [Addr.add] using World.cell?_spot h1
      subst hspot
      refine ⟨b, off, rfl, ?_, fun j hj => ?_⟩
      · rw [add_plain] at h1; exact World.block_lt_of_cell? W _ h1
      · obtain ⟨⟨k0, k1, k2⟩, _⟩ := hlp j hj
        rw [add_plain] at k0 k1 k2
        rw [add_plain] at k1 k2
        exact ⟨k0, k1, k2⟩
    · obtain ⟨j, hj, rfl⟩ := mem_ty ht
      exact (hlp j (by omega)).2
set_option maxRecDepth 100000 in
theorem trod_clsU {K : Nat} {H : Type} {enc : TypeId × Value → H} {W : World} {v : Value} {y : DataW H × List MemPlace} {fuel : Nat}
    (hf : DataW.trod enc Tryz.prog W 0 (fun _ => true) true fuel 23 [v] = some y) (hz : Rows.uptoBulk y.1 ≤ K) : ∃ ao n cap l, v = .slice ao n cap ∧ ClsAt W ao n cap l ∧ RClU K l := by
  rcases Go.Deep.open_slice Tryz.underlying23 hf with ⟨hcs, hx⟩ | ⟨a, len, cap, m, n, D, Pl, hcs, _, hl, hm, hmm, hx, hel⟩
  · simp only [List.cons.injEq, and_true] at hcs
    exact ⟨none, 0, 0, [], hcs, ⟨rfl, Nat.le_refl _, by unfold maxLen; omega, fun h => absurd h (by omega)⟩, ⟨Nat.zero_le _, fun a ha => (List.not_mem_nil ha).elim⟩⟩
  · simp only [List.cons.injEq, and_true] at hcs
    simp only [if_true] at hmm
    rw [hmm] at hel hx
    have each : ∀ i, i < len → ∃ t : Cl, (W.cell? (a.add (i * 4)) = some (.string t.name) ∧ W.cell? ((a.add (i * 4)).add 1) = some (.string t.super) ∧ (∃ vo vn vc, W.cell? ((a.add (i * 4)).add 2) = some (.slice vo vn vc) ∧ StrsAt W vo vn vc t.must) ∧ ∃ vo vn vc, W.cell? ((a.add (i * 4)).add 3) = some (.slice vo vn vc) ∧ StrsAt W vo vn vc t.may) ∧
        t.name.size ≤ K ∧ t.super.size ≤ K ∧ SBk K t.must ∧ SBk K t.may := fun i hi => by
      obtain ⟨cs, h1, h2⟩ := hel i (by omega)
      obtain ⟨v0, v1, v2, v3, y0, y1, y2, y3, k, e0, e1, e2, e3, g0, g1, g2, g3, hd⟩ := elem4 Tryz.underlying106 cells_cl rfl rfl rfl rfl (by kernel_rfl) (by kernel_rfl) (by kernel_rfl) (by kernel_rfl) h1 h2
      have hw : Rows.uptoBulk (DataW.agg [y0.1, y1.1, y2.1, y3.1]) ≤ K := by
        rw [hx] at hz
        exact Nat.le_trans (bk_slice (List.mem_map.2 ⟨i, List.mem_range.2 hi, hd⟩)) hz
      obtain ⟨s, rfl, hs⟩ := trod_strU (K := K) g0 (Nat.le_trans (bk_agg (by simp)) hw)
      obtain ⟨u, rfl, hu⟩ := trod_strU (K := K) g1 (Nat.le_trans (bk_agg (by simp)) hw)
      obtain ⟨vo, vn, vc, ms, rfl, hms, rms⟩ := trod_strsU (K := K) g2 (Nat.le_trans (bk_agg (by simp)) hw)
      obtain ⟨uo, un, uc, ys, rfl, hys, rys⟩ := trod_strsU (K := K) g3 (Nat.le_trans (bk_agg (by simp)) hw)
      rw [cells_cl] at e0 e1 e2 e3
      exact ⟨⟨s, u, ms, ys⟩, ⟨e0, e1, ⟨vo, vn, vc, e2, hms⟩, uo, un, uc, e3, hys⟩, hs, hu, rms, rys⟩
    obtain ⟨l, hll, hlp⟩ := choose_list (default : Cl) each
    have hlk : len ≤ K := by
      rw [hx] at hz
      have h := bk_slice_len hz
      simp at h; omega
    refine ⟨_, len, cap, l, hcs, ⟨hll, hl, hm, fun hn => ?_⟩, by omega, fun t ht => ?_⟩
    · obtain ⟨b, off, spot⟩ := a
      have h1 := (hlp 0 hn).1.1
      have hspot : spot = none := by simpa [Addr.add] using World.cell?_spot h1
      subst hspot
      refine ⟨b, off, rfl, ?_, fun j hj => ?_⟩
      · rw [add_plain] at h1; exact World.block_lt_of_cell? W _ h1
      · obtain ⟨⟨k0, k1, ⟨vo, vn, vc, k2, m2⟩, uo, un, uc, k3, m3⟩, _⟩ := hlp j hj
        rw [add_plain] at k0 k1 k2 k3
        rw [add_plain] at k1 k2 k3
        exact ⟨k0, k1, ⟨vo, vn, vc, k2, m2⟩, uo, un, uc, k3, m3⟩
    · obtain ⟨j, hj, rfl⟩ := mem_cl ht
      exact (hlp j (by omega)).2
theorem open_schemaU {K : Nat} {H : Type} {enc : TypeId × Value → H} {W : World} {base : Nat} {v : Value} {d : DataW H} {p : List MemPlace} (hval : Value.okWide Tryz.prog W .any base 25 v)
    (h0 : DataW.Trod enc Tryz.prog W 0 (fun _ => true) true 25 v d p) (hz : Rows.uptoBulk d ≤ K) :
    ∃ to tn tc ts co cn cc cs, v = .agg #[.slice to tn tc, .slice co cn cc] ∧ TysAt W to tn tc ts ∧ RTyU K ts ∧ ClsAt W co cn cc cs ∧ RClU K cs := by
  obtain ⟨v0, v1, y0, y1, n, rfl, rfl, _, h1, h2⟩ := Go.Joins.open_agg2 Tryz.underlying25 (by kernel_rfl) (by kernel_rfl) hval h0
  obtain ⟨to, tn, tc, ts, rfl, ht, rt⟩ := trod_tysU (K := K) h1 (Nat.le_trans (bk_agg (by simp)) hz)
  obtain ⟨co, cn, cc, cs, rfl, hc, rc⟩ := trod_clsU (K := K) h2 (Nat.le_trans (bk_agg (by simp)) hz)
  exact ⟨to, tn, tc, ts, co, cn, cc, cs, rfl, ht, rt, hc, rc⟩
theorem trod_attrsU {K : Nat} {H : Type} {enc : TypeId × Value → H} {W : World} {v : Value} {y : DataW H × List MemPlace} {fuel : Nat}
    (hf : DataW.trod enc Tryz.prog W 0 (fun _ => true) true fuel 26 [v] = some y) (hz : Rows.uptoBulk y.1 ≤ K) : ∃ ao n cap l, v = .slice ao n cap ∧ AttrsAt W ao n cap l ∧ RAU K l := by
  rcases Go.Deep.open_slice_pairs Tryz.underlying26 Tryz.underlying41 cells_attr rfl rfl (by kernel_rfl) (by kernel_rfl) hf with ⟨hcs, hx⟩ | ⟨a, len', cap', m, n, V0, V1, D0, D1, P0, P1, hcs, _, hl, hm, hmm, hx, hcell⟩
  · simp only [List.cons.injEq, and_true] at hcs
    exact ⟨none, 0, 0, [], hcs, ⟨rfl, Nat.le_refl _, by unfold maxLen; omega, fun h => absurd h (by omega)⟩, ⟨Nat.zero_le _, fun a ha => (List.not_mem_nil ha).elim⟩⟩
  · simp only [List.cons.injEq, and_true] at hcs
    subst hcs
    simp only [if_true] at hmm
    rw [hmm] at hcell
    by_cases hn : 0 < len'
    · obtain ⟨b, off, spot⟩ := a
      have h1 := (hcell 0 (by omega)).1
      have hspot : spot = none := by simpa [Addr.add] using World.cell?_spot h1
      subst hspot
      have hb : b < W.heap.size := by
        rw [add_plain] at h1
        exact World.block_lt_of_cell? W _ h1
      have hd : y.1 = .slice ((List.range len').map fun i => .agg [D0 i, D1 i]) ((List.range (m - len')).map fun j => .agg [D0 (len' + j), D1 (len' + j)]) := congrArg Prod.fst hx
      obtain ⟨l, hpl, hps, hq⟩ := choose_attrsR (w := W) (b := b) (off := off) (len := len') (Q := fun a => a.1.size ≤ K ∧ SBk K a.2) (fun i hi => by
        obtain ⟨c0, c1, t0, t1⟩ := hcell i (by omega)
        rw [add_plain] at c0 c1
        have hw : Rows.uptoBulk (DataW.agg [D0 i, D1 i]) ≤ K := by
          rw [hd] at hz
          exact Nat.le_trans (bk_slice (List.mem_map.2 ⟨i, List.mem_range.2 hi, rfl⟩)) hz
        have hw0 : Rows.uptoBulk (D0 i) ≤ K := Nat.le_trans (bk_agg (by simp)) hw
        have hw1 : Rows.uptoBulk (D1 i) ≤ K := Nat.le_trans (bk_agg (by simp)) hw
        obtain ⟨s0, e0, ed, _⟩ := DataW.trod_string Tryz.underlying9 t0
        simp only [List.cons.injEq, and_true] at e0
        have ed0 : D0 i = .lit (.string s0.data.toList) := congrArg Prod.fst ed
        obtain ⟨aj, nj, cj, ps, e1, hs, hr⟩ := trod_strsU (K := K) t1 hw1
        rw [e0] at c0
        rw [e1, ← Nat.add_assoc] at c1
        refine ⟨(s0, ps), ⟨c0, aj, nj, cj, c1, hs⟩, ?_, hr⟩
        rw [ed0, bk_str, str_len] at hw0
        show s0.size ≤ K
        omega)
      have hlk : len' ≤ K := by
        rw [hd] at hz
        have h := bk_slice_len hz
        simp at h; omega
      exact ⟨_, len', cap', l, rfl, ⟨hpl, hl, hm, fun _ => ⟨b, off, rfl, hb, hps⟩⟩, by omega, hq⟩
    · exact ⟨_, len', cap', [], rfl, ⟨by simp; omega, hl, hm, fun h => absurd h hn⟩, ⟨Nat.zero_le _, fun a ha => (List.not_mem_nil ha).elim⟩⟩
theorem open_entryU {K : Nat} {H : Type} {enc : TypeId × Value → H} {W : World} {base : Nat} {v : Value} {d : DataW H} {p : List MemPlace} (hval : Value.okWide Tryz.prog W .any base 28 v)
    (h0 : DataW.Trod enc Tryz.prog W 0 (fun _ => true) true 28 v d p) (hz : Rows.uptoBulk d ≤ K) :
    ∃ en ao n cap l, v = .agg #[.string en, .slice ao n cap] ∧ en.size ≤ K ∧ AttrsAt W ao n cap l ∧ RAU K l := by
  obtain ⟨v0, v1, y0, y1, n, rfl, rfl, _, h1, h2⟩ := Go.Joins.open_agg2 Tryz.underlying28 (by kernel_rfl) (by kernel_rfl) hval h0
  obtain ⟨s0, rfl, z0⟩ := trod_strU (K := K) h1 (Nat.le_trans (bk_agg (by simp)) hz)
  obtain ⟨ao, m, cap, l, rfl, hl, rl⟩ := trod_attrsU (K := K) h2 (Nat.le_trans (bk_agg (by simp)) hz)
  exact ⟨s0, ao, m, cap, l, rfl, z0, hl, rl⟩
def RMU (K : Nat) (l : List Md) : Prop := l.length ≤ K ∧ ∀ m ∈ l, m.name.size ≤ K ∧ SBk K m.vs
theorem cells_md : Tryz.prog.cellsOf 57 = 3 := by kernel_rfl
theorem und_op : Tryz.prog.underlying 55 = some (.int .i64) := by kernel_rfl
theorem mem_md {l : List Md} {m : Md} (h : m ∈ l) : ∃ j, j < l.length ∧ mdD l j = m := by
  obtain ⟨j, hj, e⟩ := List.mem_iff_getElem.1 h
  refine ⟨j, hj, ?_⟩
  unfold mdD
  rw [List.getD_eq_getElem?_getD, List.getElem?_eq_getElem hj]; exact e
set_option maxRecDepth 100000 in
theorem trod_modsU {K : Nat} {H : Type} {enc : TypeId × Value → H} {W : World} {v : Value} {y : DataW H × List MemPlace} {fuel : Nat}
    (hf : DataW.trod enc Tryz.prog W 0 (fun _ => true) true fuel 29 [v] = some y) (hz : Rows.uptoBulk y.1 ≤ K) : ∃ ao n cap l, v = .slice ao n cap ∧ MdsAt W ao n cap l ∧ RMU K l := by
  rcases Go.Deep.open_slice Tryz.underlying29 hf with ⟨hcs, hx⟩ | ⟨a, len, cap, m, n, D, Pl, hcs, _, hl, hm, hmm, hx, hel⟩
  · simp only [List.cons.injEq, and_true] at hcs
    exact ⟨none, 0, 0, [], hcs, ⟨rfl, Nat.le_refl _, by unfold maxLen; omega, fun h => absurd h (by omega)⟩, ⟨Nat.zero_le _, fun a ha => (List.not_mem_nil ha).elim⟩⟩
  · simp only [List.cons.injEq, and_true] at hcs
    simp only [if_true] at hmm
    rw [hmm] at hel hx
    have each : ∀ i, i < len → ∃ t : Md, (W.cell? (a.add (i * 3)) = some (.int .i64 t.op) ∧ W.cell? ((a.add (i * 3)).add 1) = some (.string t.name) ∧ ∃ vo vn vc, W.cell? ((a.add (i * 3)).add 2) = some (.slice vo vn vc) ∧ StrsAt W vo vn vc t.vs) ∧ t.name.size ≤ K ∧ SBk K t.vs := fun i hi => by
      obtain ⟨cs, h1, h2⟩ := hel i (by omega)
      obtain ⟨v0, v1, v2, y0, y1, y2, k, e0, e1, e2, g0, g1, g2, hd⟩ := elem3 Tryz.underlying57 cells_md rfl rfl rfl (by kernel_rfl) (by kernel_rfl) (by kernel_rfl) h1 h2
      have hw : Rows.uptoBulk (DataW.agg [y0.1, y1.1, y2.1]) ≤ K := by
        rw [hx] at hz
        exact Nat.le_trans (bk_slice (List.mem_map.2 ⟨i, List.mem_range.2 hi, hd⟩)) hz
      obtain ⟨s, rfl, hs⟩ := trod_strU (K := K) g1 (Nat.le_trans (bk_agg (by simp)) hw)
      obtain ⟨vo, vn, vc, ms, rfl, hms, rms⟩ := trod_strsU (K := K) g2 (Nat.le_trans (bk_agg (by simp)) hw)
      obtain ⟨x, hx1, _⟩ := DataW.trod_int und_op g0
      simp only [List.cons.injEq, and_true] at hx1
      rw [hx1] at e0
      rw [cells_md] at e0 e1 e2
      exact ⟨⟨x, s, ms⟩, ⟨e0, e1, vo, vn, vc, e2, hms⟩, hs, rms⟩
    obtain ⟨l, hll, hlp⟩ := choose_list (default : Md) each
    have hlk : len ≤ K := by
      rw [hx] at hz
      have h := bk_slice_len hz
      simp at h; omega
    refine ⟨_, len, cap, l, hcs, ⟨hll, hl, hm, fun hn => ?_⟩, by omega, fun t ht => ?_⟩
    · obtain ⟨b, off, spot⟩ := a
      have h1 := (hlp 0 hn).1.1
      have hspot : spot = none := by simpa [Addr.add] using World.cell?_spot h1
      subst hspot
      refine ⟨b, off, rfl, ?_, fun j hj => ?_⟩
      · rw [add_plain] at h1; exact World.block_lt_of_cell? W _ h1
      · obtain ⟨⟨k0, k1, vo, vn, vc, k2, m2⟩, _⟩ := hlp j hj
        rw [add_plain] at k0 k1 k2
        rw [add_plain] at k1 k2
        exact ⟨k0, k1, vo, vn, vc, k2, m2⟩
    · obtain ⟨j, hj, rfl⟩ := mem_md ht
      exact (hlp j (by omega)).2
theorem open_modsU {K : Nat} {H : Type} {enc : TypeId × Value → H} {W : World} {base : Nat} {v : Value} {d : DataW H} {p : List MemPlace} (hval : Value.okWide Tryz.prog W .any base 29 v)
    (h0 : DataW.Trod enc Tryz.prog W 0 (fun _ => true) true 29 v d p) (hz : Rows.uptoBulk d ≤ K) : ∃ ao n cap l, v = .slice ao n cap ∧ MdsAt W ao n cap l ∧ RMU K l := by
  obtain ⟨a0, len, cap, rfl⟩ := okWide_slice Tryz.underlying29 hval
  obtain ⟨fuel, hf⟩ := h0
  have hf' : DataW.trod enc Tryz.prog W 0 (fun _ => true) true fuel 29 [.slice a0 len cap] = some (d, p) := by simpa [Value.cells] using hf
  exact trod_modsU hf' hz
end Go.Proofs.YtonfkhkalodldabGreatDoor
end

section
/-
  What the entry laws share: that the library's variables lie as the contracts ask; the box of an entry. No condition.
-/
set_option maxRecDepth 100000
set_option maxRecDepth 100000
namespace Go.Proofs.YtonfkhkalodldabGreatDoor
open Go.ChangeShapes Go.WideShapes Go.ChangeAt Go.RowKit Go.PlainAid
/-- what the entry laws ask of the program's tables -/
structure EOk (w : World) : Prop where
  io : IntOk w
  mo : MaxOk w
theorem EOk.below {w w' : World} (h : EOk w) (hb : Below w.heap.size w w') : EOk w' := ⟨h.io.below hb, h.mo.below hb h.mo.lt⟩
theorem eok {W : World} (hL : laidMetH Tryz.prog [("math/bits.deBruijn32tab", Rows.laid_math_bits_deBruijn32tab), ("math/bits.deBruijn64tab", Rows.laid_math_bits_deBruijn64tab), ("internal/strconv.uint64pow10", Rows.laid_internal_strconv_uint64pow10), ("unicode/utf8.acceptRanges", Rows.laid_unicode_utf8_acceptRanges), ("strconv.ErrRange", Rows.laid_strconv_ErrRange), ("strconv.ErrSyntax", Rows.laid_strconv_ErrSyntax), ("unicode/utf8.first", Rows.laid_unicode_utf8_first)] W)
    (hsh : W.ShapedOpen Tryz.prog) : EOk W := by
  rw [MakeChecks.laidMetH_plain _ _ _ (by kernel_rfl)] at hL
  refine ⟨⟨?_, ?_⟩, max_ok hsh⟩
  · exact Lib.tabIs_of_head (g := 5) (by kernel_rfl) (by kernel_rfl) Tryz.underlying222 Tryz.underlying138 (by kernel_rfl) (by kernel_rfl) hL.tail.tail
  · obtain ⟨a, s, h, _⟩ := laid_sentinel hL.tail.tail.tail.tail (g := 4) (by kernel_rfl) (by kernel_rfl) Tryz.underlying97 tp_row Tryz.underlying218 Tryz.underlying220 rfl rfl Tryz.underlying9 (by kernel_rfl) (by kernel_rfl)
    exact ⟨_, _, h⟩
theorem LightE.fewV {l : List At} (h : LightE l) : FewV l := fun a ha => by have := (h.each a ha).len; omega
end Go.Proofs.YtonfkhkalodldabGreatDoor
end

section
/-
  A normal entry is small; modifications of small bulk are small. No condition.
-/
set_option maxRecDepth 100000
set_option maxRecDepth 100000
namespace Go.Proofs.YtonfkhkalodldabGreatDoor
open Go.RowKit Go.PlainAid
namespace Nam
theorem fmt_short4 {l : List Pr} (h : fmtE l = 0) : (fmtV l).size ≤ 5000 := by
  obtain ⟨h1, h2⟩ := fmtE_ok h
  have hb := barC_len 600 (l.map fmtC) (fun p hq => by
    obtain ⟨q, hq1, rfl⟩ := List.mem_map.1 hq
    have := prE_small (h1 q hq1)
    have := fmtC_len q
    omega)
  rw [List.length_map] at hb
  have : l.length * (600 + 1) ≤ 8 * 601 := Nat.mul_le_mul_right _ h2
  unfold fmtV
  rw [if_pos h, ofB_size]; omega
theorem norm_short4 {s : ByteArray} (h : normB s = true) : s.size ≤ 5000 := by
  unfold normB at h
  simp only [Bool.and_eq_true, decide_eq_true_eq] at h
  rw [← h.2]
  by_cases hf : fmtE (parseV s) = 0
  · exact fmt_short4 hf
  · unfold fmtV; rw [if_neg hf]; exact Nat.zero_le _
end Nam
/-- the attributes of a plain entry are few and small -/
theorem ok_light4 {l : List At} (h : chkA l = 0) : LightE l ∧ l.length ≤ 32 := by
  have hk := chk_ok h
  refine ⟨⟨by have := hk.len; omega, fun a ha => ?_⟩, hk.len⟩
  obtain ⟨h1, h2, h3⟩ := hk.each a ha
  exact ⟨by have := name_sz h1; omega, by omega, fun v hv => by have := clean_sz (h3.clean v hv); omega⟩
/-- what the contracts ask of an entry's sizes -/
structure SzE (en : ByteArray) (l : List At) : Prop where
  en : en.size ≤ 1100000
  sm : SmallA l
  fv : FewV l
  few : Few l
theorem NmE.sz {T : List Ty} {cs : List Cl} {en : ByteArray} {l : List At} (h : NmE T cs en l) : SzE en l := by
  have hl := (ok_light4 h.chk).1
  refine ⟨?_, hl.small, hl.fewV, hl.few⟩
  have := Nam.norm_short4 (s := en) (by rw [Nam.norm_clean, h.nm.1, h.nm.2]; simp)
  omega
theorem RMU.sm {K : Nat} {l : List Md} (h : RMU K l) (hK : K ≤ 1048576) : SmM l :=
  ⟨fun m hm => by have := (h.2 m hm).1; omega, fun m hm => by have := (h.2 m hm).2.1; omega, fun m hm v hv => by have := (h.2 m hm).2.2 v hv; omega⟩
theorem en_none {T : List Ty} {cs : List Cl} {en : ByteArray} {l : List At} (h : enE T cs en l ≠ 0) : enN T cs en l = ⟨#[]⟩ ∧ enL T cs en l = [] := ⟨if_neg h, if_neg h⟩
theorem ap_none {T : List Ty} {cs : List Cl} {en : ByteArray} {l : List At} {ms : List Md} (h : apE T cs en l ms ≠ 0) : apN T cs en l ms = ⟨#[]⟩ ∧ apL T cs en l ms = [] := ⟨if_neg h, if_neg h⟩
theorem ap_name {T : List Ty} {cs : List Cl} {en : ByteArray} {l : List At} {ms : List Md} (h : apE T cs en l ms = 0) : apN T cs en l ms = en := if_pos h
theorem NmE.enC {T : List Ty} {cs : List Cl} {en : ByteArray} {l : List At} (h : NmE T cs en l) : enC en l = 0 := by
  unfold Go.Proofs.YtonfkhkalodldabGreatDoor.enC
  rw [if_neg (fun k => k.elim h.nz (fun e => by rw [Nam.norm_clean, h.nm.1, h.nm.2] at e; simp at e))]
  exact h.chk
end Go.Proofs.YtonfkhkalodldabGreatDoor
end
