/-
  Texts of the schema layer and of those beneath it, joined: SchEnt, EntSml, EntGd, EntUp, EntLaw, EntLw2, EntEqu, EntLw4, EntTu2. Conditions stand at each contract.
-/
import Derived.Lib.MinMax
import Derived.Test.YtonfkhkalodldabGreatDoorT20
set_option linter.unusedVariables false
set_option linter.unusedSimpArgs false
set_option linter.unnecessarySimpa false

section
set_option maxRecDepth 100000
namespace Go.Proofs.YtonfkhkalodldabGreatDoor
open Go.ChangeShapes Go.WideShapes Go.ChangeAt Go.RowKit Go.PlainAid
theorem bk_one {H : Type} (d : DataW H) : 1 ≤ Rows.uptoBulk d := by
 cases d with
 | lit l => cases l <;> simp [Rows.uptoBulk]
 | nil => simp [Rows.uptoBulk]
 | ptr d => simp [Rows.uptoBulk]
 | slice elems spare => simp [Rows.uptoBulk]
 | agg parts => simp [Rows.uptoBulk]
 | iface t d => simp [Rows.uptoBulk]
 | map entries => simp [Rows.uptoBulk]
 | held h => simp [Rows.uptoBulk]
theorem bk_part {H : Type} {d : DataW H} : ∀ {l : List (DataW H)}, d ∈ l → Rows.uptoBulk d ≤ Rows.uptoBulkAll l
 | x :: r, h => by
  simp only [Rows.uptoBulkAll]
  rcases List.mem_cons.1 h with e | e
  ·rw [e]; omega
  ·have := bk_part e; omega
theorem bk_len {H : Type} : ∀ l : List (DataW H), l.length ≤ Rows.uptoBulkAll l
 | [] => Nat.zero_le _
 | x :: r => by
  have h1 := bk_one x
  have h2 := bk_len r
  simp only [Rows.uptoBulkAll, List.length_cons]; omega
theorem bk_slice {H : Type} {d : DataW H} {el sp : List (DataW H)} (h : d ∈ el) : Rows.uptoBulk d ≤ Rows.uptoBulk (.slice el sp) := by
 have := bk_part h
 simp only [Rows.uptoBulk]; omega
theorem bk_slice_len {H : Type} {el sp : List (DataW H)} {K : Nat} (h : Rows.uptoBulk (.slice el sp) ≤ K) : el.length ≤ K := by
 have := bk_len el
 simp only [Rows.uptoBulk] at h; omega
theorem bk_agg {H : Type} {d : DataW H} {l : List (DataW H)} (h : d ∈ l) : Rows.uptoBulk d ≤ Rows.uptoBulk (.agg l) := by
 have := bk_part h
 simp only [Rows.uptoBulk]; omega
theorem bk_str {H : Type} (bytes : List UInt8) : Rows.uptoBulk (DataW.lit (H := H) (.string bytes)) = bytes.length + 1 := by simp [Rows.uptoBulk]
theorem bk_bound {H : Type} {l : List (DataW H)} (hk : Rows.uptoSmall H l = true) : Rows.uptoBulkAll l ≤ 1048576 := of_decide_eq_true hk
def SBk (K : Nat) (l : List ByteArray) : Prop := l.length ≤ K ∧ ∀ v ∈ l, v.size ≤ K
def RAU (K : Nat) (l : List At) : Prop := l.length ≤ K ∧ ∀ a ∈ l, a.1.size ≤ K ∧ SBk K a.2
def RTyU (K : Nat) (l : List Ty) : Prop := l.length ≤ K ∧ ∀ t ∈ l, t.name.size ≤ K
def RClU (K : Nat) (l : List Cl) : Prop := l.length ≤ K ∧ ∀ c ∈ l, c.name.size ≤ K ∧ c.super.size ≤ K ∧ SBk K c.must ∧ SBk K c.may
theorem strs_bulk {H : Type} {ss : List ByteArray} {sp : List (DataW H)} {K : Nat} (hz : Rows.uptoBulk (DataW.slice (strs ss) sp) ≤ K) : SBk K ss := by
 refine ⟨?_, fun v hv => ?_⟩
 ·have h := bk_slice_len hz
  simpa [strs] using h
 ·have h := Nat.le_trans (bk_slice (sp := sp) (d := DataW.lit (H := H) (.string v.data.toList)) (el := strs ss) (List.mem_map.2 ⟨v, hv, rfl⟩)) hz
  rw [bk_str, str_len] at h
  omega
theorem RAU.sm {K : Nat} {l : List At} (h : RAU K l) (hK : K ≤ 1048576) : SmallA l := fun a ha => ⟨by have := (h.2 a ha).1; omega, fun v hv => by have := (h.2 a ha).2.2 v hv; omega⟩
theorem RAU.fv {K : Nat} {l : List At} (h : RAU K l) (hK : K ≤ 1048576) : FewV l := fun a ha => by have := (h.2 a ha).2.1; omega
theorem RTyU.sm {K : Nat} {l : List Ty} (h : RTyU K l) (hK : K ≤ 1048576) : SmT l := fun t ht => by have := h.2 t ht; omega
theorem RClU.sm {K : Nat} {l : List Cl} (h : RClU K l) (hK : K ≤ 1048576) : SmC l := fun c hc => by
 obtain ⟨h1, h2, h3, h4⟩ := h.2 c hc
 exact ⟨by omega, by omega, fun s hs => by have := h3.2 s hs; omega, fun s hs => by have := h4.2 s hs; omega⟩
theorem trod_strU {K : Nat} {H : Type} {enc : TypeId × Value → H} {W : World} {v : Value} {y : DataW H × List MemPlace} {fuel : Nat}
  (hf : DataW.trod enc Tryz.prog W 0 (fun _ => true) true fuel 9 [v] = some y) (hz : Rows.uptoBulk y.1 ≤ K) : ∃ s, v = .string s ∧ s.size ≤ K := by
 obtain ⟨s0, e0, ed, _⟩ := DataW.trod_string Tryz.underlying9 hf
 simp only [List.cons.injEq, and_true] at e0
 refine ⟨s0, e0, ?_⟩
 rw [ed] at hz
 have h : Rows.uptoBulk (DataW.lit (H := H) (.string s0.data.toList)) ≤ K := hz
 rw [bk_str, str_len] at h
 omega
set_option maxRecDepth 100000 in
theorem trod_strsU {K : Nat} {H : Type} {enc : TypeId × Value → H} {W : World} {v : Value} {x : DataW H × List MemPlace} {fuel : Nat}
  (hf : DataW.trod enc Tryz.prog W 0 (fun _ => true) true fuel 38 [v] = some x) (hz : Rows.uptoBulk x.1 ≤ K) : ∃ ao n cap ps, v = .slice ao n cap ∧ StrsAt W ao n cap ps ∧ SBk K ps := by
 rcases open_strings Tryz.underlying38 Tryz.underlying9 cells_string hf with ⟨hcs, hx⟩ | ⟨a, len, cap, ss, hcs, _, hl, hm, hzz, hx, hcell, hws⟩
 ·injection hcs with h1 _
  exact ⟨none, 0, 0, [], h1, ⟨rfl, Nat.le_refl _, by unfold maxLen; omega, fun h => absurd h (by omega)⟩, ⟨Nat.zero_le _, fun v hv => (List.not_mem_nil hv).elim⟩⟩
 ·injection hcs with h1 _
  simp only [if_true] at hzz
  subst hx
  refine ⟨_, len, cap, ss.take len, h1, ⟨by rw [List.length_take]; omega, hl, hm, fun hn => ?_⟩, strs_bulk hz⟩
  obtain ⟨b, off, spot⟩ := a
  have hspot : spot = none := by simpa [Addr.add] using World.cell?_spot (hcell 0 (by omega))
  subst hspot
  have h1 := hcell 0 (by omega)
  rw [add_plain] at h1
  refine ⟨b, off, rfl, World.block_lt_of_cell? W _ h1, fun j hj => ?_⟩
  rw [List.length_take] at hj
  rw [← add_plain, hcell j (by omega)]
  unfold partAt
  rw [List.getD_eq_getElem?_getD, List.getD_eq_getElem?_getD, List.getElem?_take, if_pos (by omega)]
set_option maxRecDepth 100000 in
theorem trod_tysU {K : Nat} {H : Type} {enc : TypeId × Value → H} {W : World} {v : Value} {y : DataW H × List MemPlace} {fuel : Nat}
  (hf : DataW.trod enc Tryz.prog W 0 (fun _ => true) true fuel 22 [v] = some y) (hz : Rows.uptoBulk y.1 ≤ K) : ∃ ao n cap l, v = .slice ao n cap ∧ TysAt W ao n cap l ∧ RTyU K l := by
 rcases Go.Deep.open_slice Tryz.underlying22 hf with ⟨hcs, hx⟩ | ⟨a, len, cap, m, n, D, Pl, hcs, _, hl, hm, hmm, hx, hel⟩
 ·simp only [List.cons.injEq, and_true] at hcs
  exact ⟨none, 0, 0, [], hcs, ⟨rfl, Nat.le_refl _, by unfold maxLen; omega, fun h => absurd h (by omega)⟩, ⟨Nat.zero_le _, fun a ha => (List.not_mem_nil ha).elim⟩⟩
 ·simp only [List.cons.injEq, and_true] at hcs
  simp only [if_true] at hmm
  rw [hmm] at hel hx
  have each : ∀ i, i < len → ∃ t : Ty, (W.cell? (a.add (i * 3)) = some (.string t.name) ∧ W.cell? ((a.add (i * 3)).add 1) = some (.int .i64 t.syn) ∧ W.cell? ((a.add (i * 3)).add 2) = some (.bool t.single)) ∧ t.name.size ≤ K := fun i hi => by
   obtain ⟨cs, h1, h2⟩ := hel i (by omega)
   obtain ⟨v0, v1, v2, y0, y1, y2, k, e0, e1, e2, g0, g1, g2, hd⟩ := elem3 Tryz.underlying104 cells_ty rfl rfl rfl (by kernel_rfl) (by kernel_rfl) (by kernel_rfl) h1 h2
   have hw : Rows.uptoBulk (DataW.agg [y0.1, y1.1, y2.1]) ≤ K := by
    rw [hx] at hz
    exact Nat.le_trans (bk_slice (List.mem_map.2 ⟨i, List.mem_range.2 hi, hd⟩)) hz
   obtain ⟨s, rfl, hs⟩ := trod_strU (K := K) g0 (Nat.le_trans (bk_agg (by simp)) hw)
   obtain ⟨x, hx1, _⟩ := DataW.trod_int und_syntax g1
   obtain ⟨t, ht1, _⟩ := DataW.trod_bool Tryz.underlying4 g2
   simp only [List.cons.injEq, and_true] at hx1 ht1
   rw [hx1] at e1
   rw [ht1] at e2
   rw [cells_ty] at e0 e1 e2
   exact ⟨⟨s, x, t⟩, ⟨e0, e1, e2⟩, hs⟩
  obtain ⟨l, hll, hlp⟩ := choose_list (default : Ty) each
  have hlk : len ≤ K := by
   rw [hx] at hz
   have h := bk_slice_len hz
   simp at h; omega
  refine ⟨_, len, cap, l, hcs, ⟨hll, hl, hm, fun hn => ?_⟩, by omega, fun t ht => ?_⟩
  ·obtain ⟨b, off, spot⟩ := a
   have h1 := (hlp 0 hn).1.1
   have hspot : spot = none := by simpa [Addr.add] using World.cell?_spot h1
   subst hspot
   refine ⟨b, off, rfl, ?_, fun j hj => ?_⟩
   ·rw [add_plain] at h1; exact World.block_lt_of_cell? W _ h1
   ·obtain ⟨⟨k0, k1, k2⟩, _⟩ := hlp j hj
    rw [add_plain] at k0 k1 k2
    rw [add_plain] at k1 k2
    exact ⟨k0, k1, k2⟩
  ·obtain ⟨j, hj, rfl⟩ := mem_ty ht
   exact (hlp j (by omega)).2
set_option maxRecDepth 100000 in
theorem trod_clsU {K : Nat} {H : Type} {enc : TypeId × Value → H} {W : World} {v : Value} {y : DataW H × List MemPlace} {fuel : Nat}
  (hf : DataW.trod enc Tryz.prog W 0 (fun _ => true) true fuel 23 [v] = some y) (hz : Rows.uptoBulk y.1 ≤ K) : ∃ ao n cap l, v = .slice ao n cap ∧ ClsAt W ao n cap l ∧ RClU K l := by
 rcases Go.Deep.open_slice Tryz.underlying23 hf with ⟨hcs, hx⟩ | ⟨a, len, cap, m, n, D, Pl, hcs, _, hl, hm, hmm, hx, hel⟩
 ·simp only [List.cons.injEq, and_true] at hcs
  exact ⟨none, 0, 0, [], hcs, ⟨rfl, Nat.le_refl _, by unfold maxLen; omega, fun h => absurd h (by omega)⟩, ⟨Nat.zero_le _, fun a ha => (List.not_mem_nil ha).elim⟩⟩
 ·simp only [List.cons.injEq, and_true] at hcs
  simp only [if_true] at hmm
  rw [hmm] at hel hx
  have each : ∀ i, i < len → ∃ t : Cl, (W.cell? (a.add (i * 4)) = some (.string t.name) ∧ W.cell? ((a.add (i * 4)).add 1) = some (.string t.super) ∧ (∃ vo vn vc, W.cell? ((a.add (i * 4)).add 2) = some (.slice vo vn vc) ∧ StrsAt W vo vn vc t.must) ∧ ∃ vo vn vc, W.cell? ((a.add (i * 4)).add 3) = some (.slice vo vn vc) ∧ StrsAt W vo vn vc t.may) ∧
    t.name.size ≤ K ∧ t.super.size ≤ K ∧ SBk K t.must ∧ SBk K t.may := fun i hi => by
   obtain ⟨cs, h1, h2⟩ := hel i (by omega)
   obtain ⟨v0, v1, v2, v3, y0, y1, y2, y3, k, e0, e1, e2, e3, g0, g1, g2, g3, hd⟩ := elem4 Tryz.underlying106 cells_cl rfl rfl rfl rfl (by kernel_rfl) (by kernel_rfl) (by kernel_rfl) (by kernel_rfl) h1 h2
   have hw : Rows.uptoBulk (DataW.agg [y0.1, y1.1, y2.1, y3.1]) ≤ K := by
    rw [hx] at hz
    exact Nat.le_trans (bk_slice (List.mem_map.2 ⟨i, List.mem_range.2 hi, hd⟩)) hz
   obtain ⟨s, rfl, hs⟩ := trod_strU (K := K) g0 (Nat.le_trans (bk_agg (by simp)) hw)
   obtain ⟨u, rfl, hu⟩ := trod_strU (K := K) g1 (Nat.le_trans (bk_agg (by simp)) hw)
   obtain ⟨vo, vn, vc, ms, rfl, hms, rms⟩ := trod_strsU (K := K) g2 (Nat.le_trans (bk_agg (by simp)) hw)
   obtain ⟨uo, un, uc, ys, rfl, hys, rys⟩ := trod_strsU (K := K) g3 (Nat.le_trans (bk_agg (by simp)) hw)
   rw [cells_cl] at e0 e1 e2 e3
   exact ⟨⟨s, u, ms, ys⟩, ⟨e0, e1, ⟨vo, vn, vc, e2, hms⟩, uo, un, uc, e3, hys⟩, hs, hu, rms, rys⟩
  obtain ⟨l, hll, hlp⟩ := choose_list (default : Cl) each
  have hlk : len ≤ K := by
   rw [hx] at hz
   have h := bk_slice_len hz
   simp at h; omega
  refine ⟨_, len, cap, l, hcs, ⟨hll, hl, hm, fun hn => ?_⟩, by omega, fun t ht => ?_⟩
  ·obtain ⟨b, off, spot⟩ := a
   have h1 := (hlp 0 hn).1.1
   have hspot : spot = none := by simpa [Addr.add] using World.cell?_spot h1
   subst hspot
   refine ⟨b, off, rfl, ?_, fun j hj => ?_⟩
   ·rw [add_plain] at h1; exact World.block_lt_of_cell? W _ h1
   ·obtain ⟨⟨k0, k1, ⟨vo, vn, vc, k2, m2⟩, uo, un, uc, k3, m3⟩, _⟩ := hlp j hj
    rw [add_plain] at k0 k1 k2 k3
    rw [add_plain] at k1 k2 k3
    exact ⟨k0, k1, ⟨vo, vn, vc, k2, m2⟩, uo, un, uc, k3, m3⟩
  ·obtain ⟨j, hj, rfl⟩ := mem_cl ht
   exact (hlp j (by omega)).2
theorem open_schemaU {K : Nat} {H : Type} {enc : TypeId × Value → H} {W : World} {base : Nat} {v : Value} {d : DataW H} {p : List MemPlace} (hval : Value.okWide Tryz.prog W .any base 25 v)
  (h0 : DataW.Trod enc Tryz.prog W 0 (fun _ => true) true 25 v d p) (hz : Rows.uptoBulk d ≤ K) :
  ∃ to tn tc ts co cn cc cs, v = .agg #[.slice to tn tc, .slice co cn cc] ∧ TysAt W to tn tc ts ∧ RTyU K ts ∧ ClsAt W co cn cc cs ∧ RClU K cs := by
 obtain ⟨v0, v1, y0, y1, n, rfl, rfl, _, h1, h2⟩ := Go.Joins.open_agg2 Tryz.underlying25 (by kernel_rfl) (by kernel_rfl) hval h0
 obtain ⟨to, tn, tc, ts, rfl, ht, rt⟩ := trod_tysU (K := K) h1 (Nat.le_trans (bk_agg (by simp)) hz)
 obtain ⟨co, cn, cc, cs, rfl, hc, rc⟩ := trod_clsU (K := K) h2 (Nat.le_trans (bk_agg (by simp)) hz)
 exact ⟨to, tn, tc, ts, co, cn, cc, cs, rfl, ht, rt, hc, rc⟩
theorem trod_attrsU {K : Nat} {H : Type} {enc : TypeId × Value → H} {W : World} {v : Value} {y : DataW H × List MemPlace} {fuel : Nat}
  (hf : DataW.trod enc Tryz.prog W 0 (fun _ => true) true fuel 26 [v] = some y) (hz : Rows.uptoBulk y.1 ≤ K) : ∃ ao n cap l, v = .slice ao n cap ∧ AttrsAt W ao n cap l ∧ RAU K l := by
 rcases Go.Deep.open_slice_pairs Tryz.underlying26 Tryz.underlying41 cells_attr rfl rfl (by kernel_rfl) (by kernel_rfl) hf with ⟨hcs, hx⟩ | ⟨a, len', cap', m, n, V0, V1, D0, D1, P0, P1, hcs, _, hl, hm, hmm, hx, hcell⟩
 ·simp only [List.cons.injEq, and_true] at hcs
  exact ⟨none, 0, 0, [], hcs, ⟨rfl, Nat.le_refl _, by unfold maxLen; omega, fun h => absurd h (by omega)⟩, ⟨Nat.zero_le _, fun a ha => (List.not_mem_nil ha).elim⟩⟩
 ·simp only [List.cons.injEq, and_true] at hcs
  subst hcs
  simp only [if_true] at hmm
  rw [hmm] at hcell
  by_cases hn : 0 < len'
  ·obtain ⟨b, off, spot⟩ := a
   have h1 := (hcell 0 (by omega)).1
   have hspot : spot = none := by simpa [Addr.add] using World.cell?_spot h1
   subst hspot
   have hb : b < W.heap.size := by
    rw [add_plain] at h1
    exact World.block_lt_of_cell? W _ h1
   have hd : y.1 = .slice ((List.range len').map fun i => .agg [D0 i, D1 i]) ((List.range (m - len')).map fun j => .agg [D0 (len' + j), D1 (len' + j)]) := congrArg Prod.fst hx
   obtain ⟨l, hpl, hps, hq⟩ := choose_attrsR (w := W) (b := b) (off := off) (len := len') (Q := fun a => a.1.size ≤ K ∧ SBk K a.2) (fun i hi => by
    obtain ⟨c0, c1, t0, t1⟩ := hcell i (by omega)
    rw [add_plain] at c0 c1
    have hw : Rows.uptoBulk (DataW.agg [D0 i, D1 i]) ≤ K := by
     rw [hd] at hz
     exact Nat.le_trans (bk_slice (List.mem_map.2 ⟨i, List.mem_range.2 hi, rfl⟩)) hz
    have hw0 : Rows.uptoBulk (D0 i) ≤ K := Nat.le_trans (bk_agg (by simp)) hw
    have hw1 : Rows.uptoBulk (D1 i) ≤ K := Nat.le_trans (bk_agg (by simp)) hw
    obtain ⟨s0, e0, ed, _⟩ := DataW.trod_string Tryz.underlying9 t0
    simp only [List.cons.injEq, and_true] at e0
    have ed0 : D0 i = .lit (.string s0.data.toList) := congrArg Prod.fst ed
    obtain ⟨aj, nj, cj, ps, e1, hs, hr⟩ := trod_strsU (K := K) t1 hw1
    rw [e0] at c0
    rw [e1, ← Nat.add_assoc] at c1
    refine ⟨(s0, ps), ⟨c0, aj, nj, cj, c1, hs⟩, ?_, hr⟩
    rw [ed0, bk_str, str_len] at hw0
    show s0.size ≤ K
    omega)
   have hlk : len' ≤ K := by
    rw [hd] at hz
    have h := bk_slice_len hz
    simp at h; omega
   exact ⟨_, len', cap', l, rfl, ⟨hpl, hl, hm, fun _ => ⟨b, off, rfl, hb, hps⟩⟩, by omega, hq⟩
  ·exact ⟨_, len', cap', [], rfl, ⟨by simp; omega, hl, hm, fun h => absurd h hn⟩, ⟨Nat.zero_le _, fun a ha => (List.not_mem_nil ha).elim⟩⟩
theorem open_entryU {K : Nat} {H : Type} {enc : TypeId × Value → H} {W : World} {base : Nat} {v : Value} {d : DataW H} {p : List MemPlace} (hval : Value.okWide Tryz.prog W .any base 28 v)
  (h0 : DataW.Trod enc Tryz.prog W 0 (fun _ => true) true 28 v d p) (hz : Rows.uptoBulk d ≤ K) :
  ∃ en ao n cap l, v = .agg #[.string en, .slice ao n cap] ∧ en.size ≤ K ∧ AttrsAt W ao n cap l ∧ RAU K l := by
 obtain ⟨v0, v1, y0, y1, n, rfl, rfl, _, h1, h2⟩ := Go.Joins.open_agg2 Tryz.underlying28 (by kernel_rfl) (by kernel_rfl) hval h0
 obtain ⟨s0, rfl, z0⟩ := trod_strU (K := K) h1 (Nat.le_trans (bk_agg (by simp)) hz)
 obtain ⟨ao, m, cap, l, rfl, hl, rl⟩ := trod_attrsU (K := K) h2 (Nat.le_trans (bk_agg (by simp)) hz)
 exact ⟨s0, ao, m, cap, l, rfl, z0, hl, rl⟩
theorem open_attrsU {K : Nat} {H : Type} {enc : TypeId × Value → H} {W : World} {base : Nat} {v : Value} {d : DataW H} {p : List MemPlace} (hval : Value.okWide Tryz.prog W .any base 26 v)
  (h0 : DataW.Trod enc Tryz.prog W 0 (fun _ => true) true 26 v d p) (hz : Rows.uptoBulk d ≤ K) : ∃ ao n cap l, v = .slice ao n cap ∧ AttrsAt W ao n cap l ∧ RAU K l := by
 obtain ⟨a0, len, cap, rfl⟩ := okWide_slice Tryz.underlying26 hval
 obtain ⟨fuel, hf⟩ := h0
 have hf' : DataW.trod enc Tryz.prog W 0 (fun _ => true) true fuel 26 [.slice a0 len cap] = some (d, p) := by simpa [Value.cells] using hf
 exact trod_attrsU hf' hz
structure EOk (w : World) : Prop where
 io : IntOk w
 mo : MaxOk w
theorem EOk.below {w w' : World} (h : EOk w) (hb : Below w.heap.size w w') : EOk w' := ⟨h.io.below hb, h.mo.below hb h.mo.lt⟩
theorem eok {W : World} (hL : laidMetH Tryz.prog [("math/bits.deBruijn32tab", Rows.laid_math_bits_deBruijn32tab), ("math/bits.deBruijn64tab", Rows.laid_math_bits_deBruijn64tab), ("internal/strconv.uint64pow10", Rows.laid_internal_strconv_uint64pow10), ("unicode/utf8.acceptRanges", Rows.laid_unicode_utf8_acceptRanges), ("strconv.ErrRange", Rows.laid_strconv_ErrRange), ("strconv.ErrSyntax", Rows.laid_strconv_ErrSyntax), ("unicode/utf8.first", Rows.laid_unicode_utf8_first)] W)
  (hsh : W.ShapedOpen Tryz.prog) : EOk W := by
 rw [MakeChecks.laidMetH_plain _ _ _ (by kernel_rfl)] at hL
 refine ⟨⟨?_, ?_⟩, max_ok hsh⟩
 ·exact Lib.tabIs_of_head (g := 5) (by kernel_rfl) (by kernel_rfl) Tryz.underlying222 Tryz.underlying138 (by kernel_rfl) (by kernel_rfl) hL.tail.tail
 ·obtain ⟨a, s, h, _⟩ := laid_sentinel hL.tail.tail.tail.tail (g := 4) (by kernel_rfl) (by kernel_rfl) Tryz.underlying97 tp_row Tryz.underlying218 Tryz.underlying220 rfl rfl Tryz.underlying9 (by kernel_rfl) (by kernel_rfl)
  exact ⟨_, _, h⟩
theorem LightE.fewV {l : List At} (h : LightE l) : FewV l := fun a ha => by have := (h.each a ha).len; omega
end Go.Proofs.YtonfkhkalodldabGreatDoor
end

section
set_option maxRecDepth 100000
namespace Go.Proofs.YtonfkhkalodldabGreatDoor
open Go.RowKit Go.PlainAid
namespace Nam
theorem fmt_short4 {l : List Pr} (h : fmtE l = 0) : (fmtV l).size ≤ 5000 := by
 obtain ⟨h1, h2⟩ := fmtE_ok h
 have hb := barC_len 600 (l.map fmtC) (fun p hq => by
  obtain ⟨q, hq1, rfl⟩ := List.mem_map.1 hq
  have := prE_small (h1 q hq1)
  have := fmtC_len q
  omega)
 rw [List.length_map] at hb
 have : l.length * (600 + 1) ≤ 8 * 601 := Nat.mul_le_mul_right _ h2
 unfold fmtV
 rw [if_pos h, ofB_size]; omega
theorem norm_short4 {s : ByteArray} (h : normB s = true) : s.size ≤ 5000 := by
 unfold normB at h
 simp only [Bool.and_eq_true, decide_eq_true_eq] at h
 rw [← h.2]
 by_cases hf : fmtE (parseV s) = 0
 ·exact fmt_short4 hf
 ·unfold fmtV; rw [if_neg hf]; exact Nat.zero_le _
end Nam
theorem ok_light4 {l : List At} (h : chkA l = 0) : LightE l ∧ l.length ≤ 32 := by
 have hk := chk_ok h
 refine ⟨⟨by have := hk.len; omega, fun a ha => ?_⟩, hk.len⟩
 obtain ⟨h1, h2, h3⟩ := hk.each a ha
 exact ⟨by have := name_sz h1; omega, by omega, fun v hv => by have := clean_sz (h3.clean v hv); omega⟩
structure SzE (en : ByteArray) (l : List At) : Prop where
 en : en.size ≤ 1100000
 sm : SmallA l
 fv : FewV l
 few : Few l
theorem NmE.sz {T : List Ty} {cs : List Cl} {en : ByteArray} {l : List At} (h : NmE T cs en l) : SzE en l := by
 have hl := (ok_light4 h.chk).1
 refine ⟨?_, hl.small, hl.fewV, hl.few⟩
 have := Nam.norm_short4 (s := en) (by rw [Nam.norm_clean, h.nm.1, h.nm.2]; simp)
 omega
theorem NmE.enC {T : List Ty} {cs : List Cl} {en : ByteArray} {l : List At} (h : NmE T cs en l) : enC en l = 0 := by
 unfold Go.Proofs.YtonfkhkalodldabGreatDoor.enC
 rw [if_neg (fun k => k.elim h.nz (fun e => by rw [Nam.norm_clean, h.nm.1, h.nm.2] at e; simp at e))]
 exact h.chk
end Go.Proofs.YtonfkhkalodldabGreatDoor
end

section
set_option maxRecDepth 100000
namespace Go.Proofs.YtonfkhkalodldabGreatDoor
open Go.RowKit Go.PlainAid
theorem mem_dif1 {nm : ByteArray} {bf af : List ByteArray} {m : Md} (h : m ∈ dif1 nm bf af) : m.name = nm ∧ m.vs.length ≤ bf.length + af.length ∧ ∀ v ∈ m.vs, v ∈ bf ∨ v ∈ af := by
 have l1 : (minusL bf af).length ≤ bf.length := List.length_filter_le _ _
 have l2 : (minusL af bf).length ≤ af.length := List.length_filter_le _ _
 have i1 : ∀ v ∈ minusL bf af, v ∈ bf := fun v hv => (minus_mem.1 hv).1
 have i2 : ∀ v ∈ minusL af bf, v ∈ af := fun v hv => (minus_mem.1 hv).1
 unfold dif1 at h
 split at h
 ·obtain rfl : m = ⟨2, nm, []⟩ := by simpa using h
  exact ⟨rfl, by simp, fun v hv => by cases hv⟩
 ·split at h
  ·obtain rfl : m = ⟨3, nm, minusL af bf⟩ := by simpa using h
   exact ⟨rfl, by dsimp only; omega, fun v hv => .inr (i2 v hv)⟩
  ·split at h
   ·rcases List.mem_cons.1 h with rfl | h
    ·exact ⟨rfl, by dsimp only; omega, fun v hv => .inl (i1 v hv)⟩
    ·split at h
     ·cases h
     ·obtain rfl : m = ⟨1, nm, minusL af bf⟩ := by simpa using h
      exact ⟨rfl, by dsimp only; omega, fun v hv => .inr (i2 v hv)⟩
   ·split at h
    ·obtain rfl : m = ⟨1, nm, minusL af bf⟩ := by simpa using h
     exact ⟨rfl, by dsimp only; omega, fun v hv => .inr (i2 v hv)⟩
    ·cases h
theorem small_vals {l : List At} (h : SmallA l) (n : ByteArray) : ∀ v ∈ vals l n, v.size ≤ 1100000 := fun v hv => by
 obtain ⟨a, ha, _, hm⟩ := vals_mem.1 hv
 exact (h a ha).2 v hm
theorem dif_sm {T : List Ty} {cs : List Cl} {ea eb : ByteArray} {a b : List At} (ha : NmE T cs ea a) (hb : NmE T cs eb b) : SmM (difL a b) := by
 have key : ∀ m ∈ difL a b, m.name.size ≤ 1100000 ∧ m.vs.length ≤ 32 ∧ ∀ v ∈ m.vs, v.size ≤ 1100000 := by
  intro m hm
  obtain ⟨n, hn, hm⟩ := List.mem_flatMap.1 hm
  obtain ⟨h1, h2, h3⟩ := mem_dif1 hm
  have c1 := vals_cnt ha n
  have c2 := vals_cnt hb n
  refine ⟨?_, by omega, fun v hv => (h3 v hv).elim (small_vals ha.sz.sm n v) (small_vals hb.sz.sm n v)⟩
  rw [h1]
  have hb64 : nameB n = true := by
   rcases List.mem_append.1 (sortU_mem.1 hn) with h | h
   ·exact (nm_facts ha h).2.1
   ·exact (nm_facts hb h).2.1
  unfold nameB at hb64
  simp only [Bool.and_eq_true, decide_eq_true_eq] at hb64
  omega
 exact ⟨fun m hm => (key m hm).1, fun m hm => by have := (key m hm).2.1; omega, fun m hm => (key m hm).2.2⟩
theorem en_name {T : List Ty} {cs : List Cl} {en : ByteArray} {l k : List At} (h : enE T cs en l = 0) (h' : enE T cs en k = 0) : enN T cs en l = enN T cs en k := by unfold enN; rw [if_pos h, if_pos h']
theorem enD_nm {T : List Ty} {cs : List Cl} {ea eb : ByteArray} {a b : List At} (ha : NmE T cs ea a) (hb : NmE T cs eb b) : enD ea a eb b = difL a b := by
 unfold enD
 rw [if_neg (fun k => k.elim (fun e => e ha.enC) (fun e => e hb.enC))]
def moreL (a b : List At) (k : Nat) : Nat := ((b.take k).filter fun x => decide ((vals a x.1).length = 0)).length
theorem more_step {a b : List At} {k : Nat} (h : k < b.length) : moreL a b (k + 1) = moreL a b k + if (vals a (atD b k).1).length = 0 then 1 else 0 := by
 unfold moreL
 rw [at_take b k h, List.filter_append, List.length_append]
 congr 1
 by_cases e : (vals a (atD b k).1).length = 0
 ·rw [if_pos e, List.filter_cons, if_pos (by simpa using e)]; rfl
 ·rw [if_neg e, List.filter_cons, if_neg (by simpa using e)]; rfl
theorem more_le (a b : List At) (k : Nat) : moreL a b k ≤ k := by
 unfold moreL
 exact Nat.le_trans (List.length_filter_le _ _) (List.length_take_le _ _)
theorem more_all {a b : List At} (ha : NF a) (hb : NF b) : (sortU (names a ++ names b)).length ≤ a.length + moreL a b b.length := by
 have := both_len ha hb
 unfold moreL
 rw [List.take_length]
 exact this
theorem nf_lowD {b : List At} (h : NF b) {k : Nat} (hk : k < b.length) : lowS (atD b k).1 = (atD b k).1 := h.low _ (at_mem b k hk)
end Go.Proofs.YtonfkhkalodldabGreatDoor
end
