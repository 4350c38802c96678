/-
  The contract of slices.Insert at one pair at the beginning of a row of the caller's own. Condition: at most 100 pairs.
-/
import Derived.Test.YtdjhhofmlefaaaaDoorNamX
set_option linter.unusedVariables false
set_option linter.unusedSimpArgs false
set_option linter.unnecessarySimpa false
namespace Go.Proofs.YtdjhhofmlefaaaaDoor
open Go.RowKit Go.PlainAid

theorem below_setCells {B : Nat} {a : World} (g : Nat) (hg : B ≤ g) : ∀ (vs : List Value) (o : Nat) (w : World), Below B a w → Below B a (w.setCells g o vs)
  | [], _, _, h => h
  | v :: r, o, w, h => by
    rw [World.setCells]
    exact below_setCells g hg r (o + 1) _ (h.setCell (p := ⟨g, o, none⟩) hg v)
theorem some_setCells (b : Nat) (vs : List Value) (o : Nat) (w : World) (h : ∀ j, j < vs.length → (w.cell? ⟨b, o + j, none⟩).isSome = true) (k : Nat) (hk : (w.cell? ⟨b, k, none⟩).isSome = true) : ((w.setCells b o vs).cell? ⟨b, k, none⟩).isSome = true := by
  by_cases hin : o ≤ k ∧ k < o + vs.length
  · have := World.cell?_setCells_in b vs o w h (k - o) (by omega)
    rw [show o + (k - o) = k by omega] at this
    rw [this]; rfl
  · rw [World.cell?_setCells_out b vs o w ⟨b, k, none⟩ (fun _ _ => by show k < o ∨ o + vs.length ≤ k; omega)]
    exact hk
theorem pcells_cons (p : Pr) (l : List Pr) : pcells (p :: l) = pcells [p] ++ pcells l := rfl
/-- first the tail, then the head -/
theorem tail_head (W : World) (g : Nat) (p : Pr) (l : List Pr) (hc : ∀ j, j < 2 + l.length * 2 → (W.cell? ⟨g, j, none⟩).isSome = true) : ∀ j u, (pcells (p :: l))[j]? = some u → ((W.setCells g 2 (pcells l)).setCells g 0 (pcells [p])).cell? ⟨g, 0 + j, none⟩ = some u := by
  intro j u hj
  have hlp : (pcells [p]).length = 2 := rfl
  have hll := pcells_len l
  rw [pcells_cons] at hj
  have hlt : j < 2 + l.length * 2 := by
    rcases Nat.lt_or_ge j (pcells [p] ++ pcells l).length with h | h
    · rw [List.length_append, hlp, hll] at h; exact h
    · rw [List.getElem?_eq_none h] at hj; cases hj
  by_cases h2 : j < 2
  · rw [List.getElem?_append_left (by rw [hlp]; exact h2)] at hj
    rw [World.cell?_setCells_in g (pcells [p]) 0 _ (fun k hk => by
      rw [Nat.zero_add]
      exact some_setCells g _ _ _ (fun i hi => hc _ (by rw [hll] at hi; omega)) k (hc k (by rw [hlp] at hk; omega))) j (by rw [hlp]; exact h2)]
    rw [List.getElem?_eq_getElem (by rw [hlp]; exact h2)] at hj
    exact hj
  · rw [List.getElem?_append_right (by rw [hlp]; omega), hlp] at hj
    rw [World.cell?_setCells_out g _ _ _ _ (fun _ _ => by show 0 + j < 0 ∨ 0 + (pcells [p]).length ≤ 0 + j; rw [hlp]; omega)]
    have := World.cell?_setCells_in g (pcells l) 2 W (fun k hk => hc _ (by rw [hll] at hk; omega)) (j - 2) (by rw [hll]; omega)
    rw [show 2 + (j - 2) = 0 + j by omega] at this
    rw [this]
    rw [List.getElem?_eq_getElem (by rw [hll]; omega)] at hj
    exact hj
/-- first the head, then the tail -/
theorem head_tail (W : World) (g : Nat) (p : Pr) (l : List Pr) (hc : ∀ j, j < 2 + l.length * 2 → (W.cell? ⟨g, j, none⟩).isSome = true) : ∀ j u, (pcells (p :: l))[j]? = some u → ((W.setCells g 0 (pcells [p])).setCells g 2 (pcells l)).cell? ⟨g, 0 + j, none⟩ = some u := by
  intro j u hj
  have hlp : (pcells [p]).length = 2 := rfl
  have hll := pcells_len l
  rw [pcells_cons] at hj
  have hlt : j < 2 + l.length * 2 := by
    rcases Nat.lt_or_ge j (pcells [p] ++ pcells l).length with h | h
    · rw [List.length_append, hlp, hll] at h; exact h
    · rw [List.getElem?_eq_none h] at hj; cases hj
  by_cases h2 : j < 2
  · rw [List.getElem?_append_left (by rw [hlp]; exact h2)] at hj
    rw [World.cell?_setCells_out g _ _ _ _ (fun _ _ => by show 0 + j < 2 ∨ _; omega)]
    rw [World.cell?_setCells_in g (pcells [p]) 0 W (fun k hk => hc _ (by rw [hlp] at hk; omega)) j (by rw [hlp]; exact h2)]
    rw [List.getElem?_eq_getElem (by rw [hlp]; exact h2)] at hj
    exact hj
  · rw [List.getElem?_append_right (by rw [hlp]; omega), hlp] at hj
    have := World.cell?_setCells_in g (pcells l) 2 (W.setCells g 0 (pcells [p])) (fun k hk => some_setCells g _ _ _ (fun i hi => hc _ (by rw [hlp] at hi; omega)) _ (hc _ (by rw [hll] at hk; omega))) (j - 2) (by rw [hll]; omega)
    rw [show 2 + (j - 2) = 0 + j by omega] at this
    rw [this]
    rw [List.getElem?_eq_getElem (by rw [hll]; omega)] at hj
    exact hj
theorem drawn_setCells (g : Nat) : ∀ (vs : List Value) (o : Nat) (w : World), (w.setCells g o vs).drew = w.drew.setCells g o vs
  | [], _, _ => rfl
  | v :: r, o, w => by rw [World.setCells, World.setCells, drawn_setCells g r]; rfl
theorem size_setCells (g : Nat) : ∀ (vs : List Value) (o : Nat) (w : World), (w.setCells g o vs).heap.size = w.heap.size
  | [], _, _ => rfl
  | v :: r, o, w => by rw [World.setCells, size_setCells g r]; simp [World.setCell]
/-- 'copy(d, s)' whose run is known -/
theorem wp_copied {ops : Array Oper} {rest : List Oper} {o : Oper} {a : Act} {Q : Exit → Act → World → Prop} (w : World) (hgd : o.guard = none) (d s : Operand) (t : TypeId)
    (ho : o.op = .call { callee := .builtin .copy, args := #[d, s], argTypes := #[t, t] }) (v u : Value) (hd : a.eval d = v) (hs : a.eval s = u) {v' : Value} {w' : World}
    (hr : (Builtin.copy_ #[t, t] o.type #[v, u]).run Tryd.prog w = .ok v' w') (h : wpList Tryd.prog ops Q rest (a.put o.dst v') w') : wpList Tryd.prog ops Q (o :: rest) a w := by
  refine wpList_plain hgd fun K hK => ?_
  unfold Oper.wp
  simp [execOp, ho, resolve, invoke, builtin, hd, hs, hr, Result.andThen]
  exact hK _ _ h
/-- the same as a step of a region that draws -/
theorem step_copied {ops : Array Oper} {o : Oper} {a : Act} {w : World} {K : Act → World → Prop} {Q : Exit → Act → World → Prop} {E : Prop} (hg : o.guard = none) (d s : Operand) (t : TypeId)
    (ho : o.op = .call { callee := .builtin .copy, args := #[d, s], argTypes := #[t, t] }) (v u : Value) (hd : a.eval d = v) (hs : a.eval s = u) {v' : Value} {w' : World}
    (hr : (Builtin.copy_ #[t, t] o.type #[v, u]).run Tryd.prog w = .ok v' w') (hK : K (a.put o.dst v') w') : if Region.wanted o (yielded ops a.tmps) = true then Oper.wp Tryd.prog o a w K Q else E := by
  have hw : Region.wanted o (yielded ops a.tmps) = true := by simp [Region.wanted, hg]
  rw [if_pos hw]
  unfold Oper.wp
  simp [execOp, ho, resolve, invoke, builtin, hd, hs, hr, Result.andThen]
  exact hK
theorem own_heap {w : World} {base n cap g : Nat} {xs : List Value} (h : w.ownsRow base 36 2 (.slice (some ⟨g, 0, none⟩) n cap) n xs) :
    base ≤ g ∧ g < w.heap.size ∧ n ≤ cap ∧ cap ≤ maxLen ∧ (∀ j, j < cap * 2 → (w.cell? ⟨g, j, none⟩).isSome = true) ∧ (∀ j, w.frozen? ⟨g, j, none⟩ = false) ∧ w.shape? g = some (36, cap * 2) := by
  have h0 := h
  obtain ⟨hl, ⟨he, _⟩ | ⟨g', cap', cur, he, h2, h3, h4, h5, h6, h7⟩⟩ := h
  · cases he
  · cases he
    refine ⟨h2, (h0.lt g rfl).2, h4, h5, fun j hj => ?_, fun j => Lib.frozen_of_heap h3 j, ?_⟩
    · rw [Lib.cell_of_heap h3, Array.getElem?_eq_getElem (by omega)]; rfl
    · unfold World.shape?; rw [h3, ← h6]
theorem pair_two : (Tryd.prog.info? 36).map (·.size) = some 2 := by kernel_rfl

/-- 'append(s, ..)' whose run is known -/
theorem wp_appended {ops : Array Oper} {rest : List Oper} {o : Oper} {a : Act} {Q : Exit → Act → World → Prop} (w : World) (hgd : o.guard = none) (d s : Operand) (t u : TypeId)
    (ho : o.op = .call { callee := .builtin .append, args := #[d, s], argTypes := #[t, u] }) (v x : Value) (hd : a.eval d = v) (hs : a.eval s = x) {v' : Value} {w' : World}
    (hr : (Builtin.append_ #[t, u] o.type #[v, x]).run Tryd.prog w = .ok v' w') (h : wpList Tryd.prog ops Q rest (a.put o.dst v') w') : wpList Tryd.prog ops Q (o :: rest) a w := by
  refine wpList_plain hgd fun K hK => ?_
  unfold Oper.wp
  simp [execOp, ho, resolve, invoke, builtin, hd, hs, hr, Result.andThen]
  exact hK _ _ h
theorem zero_size (k : Nat) : (Builtin.zeroCells (Value.agg #[.string ⟨#[]⟩, .string ⟨#[]⟩]).cells k).size = k * 2 := by
  simp [Builtin.zeroCells, Value.cells]
theorem grow_zeros (w : World) (g cap : Nat) (hc : cap ≤ 100) : ∃ G W1, (∀ ty, (Builtin.append_ #[24, 3] ty #[.slice (some ⟨g, 0, none⟩) 0 cap, .int .i64 ((cap : Int) + 1)]).run Tryd.prog w = .ok (.slice (some ⟨w.heap.size, 0, none⟩) (cap + 1) G) W1) ∧
    cap + 1 ≤ G ∧ G ≤ maxLen ∧ (∀ j, j < 2 + cap * 2 → (W1.cell? ⟨w.heap.size, j, none⟩).isSome = true) ∧ (∀ j, W1.frozen? ⟨w.heap.size, j, none⟩ = false) ∧ Below w.heap.size w W1 ∧ w.heap.size < W1.heap.size := by
  obtain ⟨i0, hi0, hz0, hz1, hz2⟩ := info_parts info_pair
  have hold : (Builtin.firstCells i0.size 0 (.slice (some ⟨g, 0, none⟩) 0 cap)).run Tryd.prog w.drew = .ok ([] : List Value).toArray w.drew := by
    rw [hz1]; exact run_firstCells_some w.drew 2 0 ⟨g, 0, none⟩ 0 cap [] (by simp) (fun j v hj => by simp at hj)
  have hrun := fun ty => Lib.run_append_grow_zeros w 24 3 ty 36 i0 _ .i64 .i64 Tryd.underlying24 Tryd.underlying3 hi0 hz0 (some ⟨g, 0, none⟩) 0 cap [] hold (cap + 1) (by omega) (by omega) (by omega) (by omega) (by rw [hz2]; omega) (by rw [hz2, Nat.zero_add]; exact growslice_fits (by omega) (by omega))
  simp only [Nat.zero_add] at hrun
  obtain ⟨G, hG⟩ : ∃ G, G = grownCap w (cap + 1) cap 36 := ⟨_, rfl⟩
  rw [← hG] at hrun
  obtain ⟨ROW, hR⟩ : ∃ ROW : Array Value, ROW = ([] : List Value).toArray ++ Builtin.zeroCells (Value.agg #[.string ⟨#[]⟩, .string ⟨#[]⟩]).cells (cap + 1) ++ Builtin.zeroCells (Value.agg #[.string ⟨#[]⟩, .string ⟨#[]⟩]).cells (G - (cap + 1)) := ⟨_, rfl⟩
  rw [← hR] at hrun
  have hsz : 2 + cap * 2 ≤ ROW.size := by
    rw [hR, Array.size_append, Array.size_append, zero_size, zero_size]; simp; omega
  have hnew : (w.drew.alloc (.cells ROW 36)).heap[w.heap.size]? = some (.cells ROW 36) := heap_alloc_new w.drew _
  refine ⟨G, w.drew.alloc (.cells ROW 36), fun ty => ?_, by rw [hG]; exact grownCap_ge w _ _ _, by rw [hG]; exact grownCap_le_maxLen w _ _ _ (by unfold maxLen; omega), fun j hj => ?_, fun j => Lib.frozen_of_heap hnew j, ((Below.refl _ w).drew).alloc (Nat.le_refl _) _, by rw [World.size_alloc]; exact Nat.lt_succ_self _⟩
  · rw [show ((cap : Int) + 1) = ((cap + 1 : Nat) : Int) by omega]; exact hrun ty
  · rw [Lib.cell_of_heap hnew, Array.getElem?_eq_getElem (by omega)]; rfl

set_option maxRecDepth 100000 in
set_option maxHeartbeats 8000000 in
theorem insert_s (w : World) (base n cap : Nat) (ao : Option Addr) (l : List Pr) (p : Pr) (vb : Nat) (hown : w.ownsRow base 36 2 (.slice ao n cap) n (pcells l)) (hp : PBox w vb p) (hne : ∀ g, ao = some ⟨g, 0, none⟩ → g ≠ vb)
    (hl : l.length = n) (hn : n ≤ 100) (hbase : base ≤ w.heap.size) :
    Calls Tryd.prog 53 #[.slice ao n cap, .int .i64 0, .slice (some ⟨vb, 0, none⟩) 1 1] w fun e w' =>
      ∃ xo dap, e = .returned (.slice xo (n + 1) dap) ∧ PairsAt w' xo (n + 1) dap (p :: l) ∧ Below base w w' := by
  have hvp : PairsAt w (some ⟨vb, 0, none⟩) 1 1 [p] := ⟨rfl, Nat.le_refl _, by unfold maxLen; omega, fun _ => ⟨vb, 0, rfl, hp.lt, fun j hj => by
    have : j = 0 := by simp at hj; omega
    subst this
    exact hp.cells⟩⟩
  rcases Nat.eq_zero_or_pos n with h0 | h0
  · subst h0
    have e1 : l = [] := List.length_eq_zero_iff.1 hl
    subst e1
    have HO := Lib.hid hown
    have HV := Lib.hid hvp
    clear hown hvp hp hne
    rcases Nat.eq_zero_or_pos cap with hc | hc
    · subst hc
      go_enter Tryd.func53, Tryd.ntmps53
      go_wp2_with (at_builtin; refine app_pairs w HO.out (.tmp 23) (.tmp 24) (some ⟨vb, 0, none⟩) 1 1 [p] ?_ ?_ ?_ ?_ ?_ ?_ ?_ ?_ ?_; exact rfl; exact rfl; exact rfl; exact rfl; exact HV.out; (intro e; cases e); omega; exact hbase; intro v' w1 own1 hb1)
      obtain ⟨xo, dap, rfl, hat⟩ := pairs_own (l := [p]) own1 rfl
      go_ret
      exact ⟨xo, dap, rfl, hat, hb1⟩
    · obtain ⟨g, rfl⟩ := own_some HO.out hc
      go_enter Tryd.func53, Tryd.ntmps53
      go_wp2_with (at_builtin; refine app_pairs w HO.out (.tmp 23) (.tmp 24) (some ⟨vb, 0, none⟩) 1 1 [p] ?_ ?_ ?_ ?_ ?_ ?_ ?_ ?_ ?_; exact rfl; exact rfl; exact rfl; exact rfl; exact HV.out; (intro e; cases e); omega; exact hbase; intro v' w1 own1 hb1)
      obtain ⟨xo, dap, rfl, hat⟩ := pairs_own (l := [p]) own1 rfl
      go_ret
      exact ⟨xo, dap, rfl, hat, hb1⟩
  · have hcap0 : 0 < cap := by
      obtain ⟨_, h2, _⟩ := hown.2.elim (fun h => absurd h.2 (by omega)) (fun h => by obtain ⟨g, c, cur, e, h2, h3, h4, h5⟩ := h; exact (show True ∧ n ≤ cap ∧ True from by cases e; exact ⟨trivial, h4, trivial⟩))
      omega
    obtain ⟨g, rfl⟩ := own_some hown hcap0
    have hg := hne g rfl
    obtain ⟨hbg, hgw, hnc, hcm, hcells, hfz, hshape⟩ := own_heap hown
    have hat : ∀ j u, (pcells l)[j]? = some u → w.cell? ⟨g, j, none⟩ = some u := fun j u hj => by
      have := hown.cells (g := g) rfl j u hj
      rwa [WideShapes.add_plain, Nat.zero_add] at this
    have hpc : ∀ j u, (pcells [p])[j]? = some u → w.cell? ⟨vb, j, none⟩ = some u := fun j u hj => by
      have hc := hp.cells
      match j, hj with
      | 0, hj => cases hj; exact hc.1
      | 1, hj => cases hj; exact hc.2
      | j + 2, hj => simp [pcells] at hj
    have hll := pcells_len l
    have h63 := hcm
    unfold maxLen at h63
    by_cases hroom : n + 1 ≤ cap
    · have hshv : w.shape? vb = some (36, 2) := by unfold World.shape?; rw [show w.heap[vb]? = _ from hp]; rfl
      have hov : ∀ lb cb, (callFunc 71 #[.slice (some ⟨vb, 0, none⟩) 1 1, .slice (some ⟨g, 2, none⟩) lb cb]).run Tryd.prog w = .ok (.value (.bool false)) w := fun lb cb => by
        rw [run_callFunc_extern Tryd.func71 (by kernel_rfl) (by kernel_rfl) (by kernel_rfl) (e := Extern.SlicesOverlaps.overlaps #[24, 24] #[4]) (by kernel_rfl),
          Lib.run_overlaps_apart w 24 4 36 Tryd.underlying24 2 Tryd.sizeOf36 ⟨vb, 0, none⟩ ⟨g, 2, none⟩ 1 1 lb cb (fun e => hg e.symm) 36 36 2 (cap * 2) hshv hshape (by omega) hp.loose.1 (Lib.frozen_of_heap hp 2)]
        rfl
      have hq1 : ((1 : Int) == 0) = false := rfl
      obtain ⟨W1, hW1⟩ : ∃ W1, W1 = w.drew.setCells g 2 (pcells l) := ⟨_, rfl⟩
      have hcp1 : ∀ ty dc sc, (Builtin.copy_ #[24, 24] ty #[.slice (some ⟨g, 2, none⟩) n dc, .slice (some ⟨g, 0, none⟩) (n + 1) sc]).run Tryd.prog w.drew = .ok (goInt n) W1 := fun ty dc sc => by
        rw [hW1]
        exact run_copy_two w.drew _ _ ty 36 g 2 n dc ⟨g, 0, none⟩ (n + 1) sc n (pcells l) Tryd.underlying24 pair_two (by simp only [Nat.min_def]; split <;> omega) (by rw [hll, hl])
          (fun j u hj => by rw [WideShapes.add_plain, Nat.zero_add]; exact hat j u hj) (fun j hj => hcells _ (by rw [hll, hl] at hj; omega)) (fun j hj => hfz _) (pcells_one _)
      have hc1 : ∀ j, j < cap * 2 → (W1.cell? ⟨g, j, none⟩).isSome = true := fun j hj => by
        rw [hW1]; exact some_setCells g (pcells l) 2 w.drew (fun k hk => hcells (2 + k) (by rw [hll, hl] at hk; omega)) j (hcells j hj)
      have hcp2 : ∀ ty dc, (Builtin.copy_ #[24, 24] ty #[.slice (some ⟨g, 0, none⟩) (n + 1) dc, .slice (some ⟨vb, 0, none⟩) 1 1]).run Tryd.prog W1 = .ok (goInt (1 : Nat)) (W1.setCells g 0 (pcells [p])) := fun ty dc =>
        run_copy_two W1 _ _ ty 36 g 0 (n + 1) dc ⟨vb, 0, none⟩ 1 1 1 (pcells [p]) Tryd.underlying24 pair_two (by simp only [Nat.min_def]; split <;> omega) rfl
          (fun j u hj => by rw [WideShapes.add_plain, Nat.zero_add, hW1, World.cell?_setCells_out g _ _ _ _ (fun h _ => absurd h.symm hg)]; exact hpc j u hj) (fun j hj => by rw [Nat.zero_add]; exact hc1 j (by have : (pcells [p]).length = 2 := rfl; omega)) (fun j hj => by rw [hW1, World.frozen?_setCells]; exact hfz _) (pcells_one _)
      have HF := Lib.hid (tail_head w.drew g p l (fun j hj => hcells j (by rw [hl] at hj; omega)))
      have HW := Lib.hid hW1
      clear hW1 hc1 hat hpc hcells hfz hshape hown hp hvp hne hshv
      have hq2 : ((0 : Int) == (n : Int)) = false := beq_eq_false_iff_ne.2 (by omega)
      have hq3 : decide ((cap : Int) < (n : Int) + 1) = false := decide_eq_false (by omega)
      have hcne : ¬ cap = 0 := by omega
      have hcn1 : ¬ cap = 1 := by omega
      have w1 : IntKind.i64.wrap 1 = 1 := IntWalk.i64_in _ (by omega)
      have k1 : (1 : Int) ≤ (n : Int) + 1 := by omega
      have k2 : (0 : Int) ≤ (n : Int) + 1 := by omega
      go_enter Tryd.func53, Tryd.ntmps53
      go_wp2_with (simp only [hov])
      go_region_law ((refine step_copied ?_ (.tmp 73) (.tmp 76) 24 ?_ _ _ ?_ ?_ (hcp1 _ _ _) ?_; exact rfl; exact rfl; exact rfl; exact rfl))
      go_wp2_with (at_builtin; refine wp_copied W1 ?_ (.tmp 80) (.tmp 81) 24 ?_ _ _ ?_ ?_ (hcp2 _ _) ?_; exact rfl; exact rfl; exact rfl; exact rfl)
      go_ret
      refine ⟨some ⟨g, 0, none⟩, cap, rfl, ⟨by rw [List.length_cons, hl], hroom, hcm, fun _ => ⟨g, 0, rfl, cells_pairs ?_ ?_⟩⟩, ?_⟩
      · rw [size_setCells, HW.out, size_setCells]; exact hgw
      · rw [HW.out]; exact HF.out
      · rw [HW.out]; exact below_setCells g hbg _ _ _ (below_setCells g hbg _ _ _ ((Below.refl base w).drew))
    · have hq2 : ((0 : Int) == (n : Int)) = false := beq_eq_false_iff_ne.2 (by omega)
      have hq3 : decide ((cap : Int) < (n : Int) + 1) = true := decide_eq_true (by omega)
      have hcne : ¬ cap = 0 := by omega
      have hcap : cap = n := by omega
      subst hcap
      obtain ⟨G, W1, hrun, hG1, hG2, hN, hNf, hbl, hsz⟩ := grow_zeros w g cap hn
      unfold maxLen at hG2
      have hGn0 : ¬ G = 0 := by omega
      have hGn1 : ¬ G = 1 := by omega
      have w1 : IntKind.i64.wrap 1 = 1 := IntWalk.i64_in _ (by omega)
      have k1 : (1 : Int) ≤ (cap : Int) + 1 := by omega
      have k2 : (0 : Int) ≤ (cap : Int) + 1 := by omega
      obtain ⟨N, hNN⟩ : ∃ N, w.heap.size = N := ⟨_, rfl⟩
      rw [hNN] at hrun hN hNf hbl hsz
      have hvbN : vb ≠ N := by have := hp.lt; omega
      have hgN : g ≠ N := by omega
      have hp1 : ∀ j u, (pcells [p])[j]? = some u → W1.cell? ⟨vb, j, none⟩ = some u := fun j u hj => by
        rw [hbl.cell (p := ⟨vb, j, none⟩) (by show vb < N; have := hp.lt; omega)]; exact hpc j u hj
      have hl1 : ∀ j u, (pcells l)[j]? = some u → W1.cell? ⟨g, j, none⟩ = some u := fun j u hj => by
        rw [hbl.cell (p := ⟨g, j, none⟩) (by show g < N; omega)]; exact hat j u hj
      have hcpA : ∀ ty dc, (Builtin.copy_ #[24, 24] ty #[.slice (some ⟨N, 0, none⟩) (cap + 1) dc, .slice (some ⟨vb, 0, none⟩) 1 1]).run Tryd.prog W1 = .ok (goInt (1 : Nat)) (W1.setCells N 0 (pcells [p])) := fun ty dc =>
        run_copy_two W1 _ _ ty 36 N 0 (cap + 1) dc ⟨vb, 0, none⟩ 1 1 1 (pcells [p]) Tryd.underlying24 pair_two (by simp only [Nat.min_def]; split <;> omega) rfl
          (fun j u hj => by rw [WideShapes.add_plain, Nat.zero_add]; exact hp1 j u hj) (fun j hj => by rw [Nat.zero_add]; exact hN j (by have : (pcells [p]).length = 2 := rfl; omega)) (fun j hj => hNf _) (pcells_one _)
      obtain ⟨W2, hW2⟩ : ∃ W2, W2 = W1.setCells N 0 (pcells [p]) := ⟨_, rfl⟩
      rw [← hW2] at hcpA
      have hN2 : ∀ j, j < 2 + cap * 2 → (W2.cell? ⟨N, j, none⟩).isSome = true := fun j hj => by
        rw [hW2]; exact some_setCells N (pcells [p]) 0 W1 (fun k hk => by rw [Nat.zero_add]; exact hN k (by have : (pcells [p]).length = 2 := rfl; omega)) j (hN j hj)
      have hl2 : ∀ j u, (pcells l)[j]? = some u → W2.cell? ⟨g, j, none⟩ = some u := fun j u hj => by
        rw [hW2, World.cell?_setCells_out N _ _ _ _ (fun h _ => absurd h hgN)]; exact hl1 j u hj
      have hcpB : ∀ ty dc sc, (Builtin.copy_ #[24, 24] ty #[.slice (some ⟨N, 2, none⟩) cap dc, .slice (some ⟨g, 0, none⟩) cap sc]).run Tryd.prog W2.drew = .ok (goInt cap) (W2.drew.setCells N 2 (pcells l)) := fun ty dc sc =>
        run_copy_two W2.drew _ _ ty 36 N 2 cap dc ⟨g, 0, none⟩ cap sc cap (pcells l) Tryd.underlying24 pair_two (by simp only [Nat.min_def]; split <;> omega) (by rw [hll, hl])
          (fun j u hj => by rw [WideShapes.add_plain, Nat.zero_add]; exact hl2 j u hj) (fun j hj => hN2 _ (by rw [hll, hl] at hj; omega)) (fun j hj => by show W2.frozen? _ = false; rw [hW2, World.frozen?_setCells]; exact hNf _) (pcells_one _)
      have hfin := head_tail W1 N p l (fun j hj => hN j (by rw [hl] at hj; exact hj))
      have HF := Lib.hid hfin
      have HW := Lib.hid hW2
      have HBL := Lib.hid hbl
      have HSZ := Lib.hid hsz
      clear hfin hW2 hbl hsz hN hNf hp1 hl1 hN2 hl2 hat hpc hcells hfz hshape hown hp hvp hne
      go_enter Tryd.func53, Tryd.ntmps53
      go_wp2_with (first
        | (at_builtin; refine wp_appended w ?_ (.tmp 34) (.tmp 39) 24 3 ?_ _ _ ?_ ?_ (hrun _) ?_; exact rfl; exact rfl; exact rfl; exact rfl)
        | (at_builtin; refine wp_copied W1 ?_ (.tmp 43) (.tmp 44) 24 ?_ _ _ ?_ ?_ (hcpA _ _) ?_; exact rfl; exact rfl; exact rfl; exact rfl))
      go_region_law ((refine step_copied ?_ (.tmp 50) (.tmp 53) 24 ?_ _ _ ?_ ?_ (hcpB _ _ _) ?_; exact rfl; exact rfl; exact rfl; exact rfl))
      go_wp2
      go_ret
      refine ⟨some ⟨N, 0, none⟩, G, rfl, ⟨by rw [List.length_cons, hl], hG1, by unfold maxLen; exact hG2, fun _ => ⟨N, 0, rfl, cells_pairs ?_ ?_⟩⟩, ?_⟩
      · rw [size_setCells]; show N < W2.heap.size; rw [HW.out, size_setCells]; exact HSZ.out
      · rw [← drawn_setCells, HW.out]; exact HF.out
      · refine below_setCells N (by omega) _ _ _ (Below.drew ?_)
        rw [HW.out]
        exact below_setCells N (by omega) _ _ _ (HBL.out.mono (by omega))

end Go.Proofs.YtdjhhofmlefaaaaDoor
