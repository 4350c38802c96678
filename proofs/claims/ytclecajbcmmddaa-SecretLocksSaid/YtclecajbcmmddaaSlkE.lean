/-
  What the specification's Fail does to its object: a record more, other times, another instant; a row of times of the call's own. No condition.
-/
import Derived.Test.YtclecajbcmmddaaSlkD
set_option maxRecDepth 100000
set_option linter.unusedVariables false
set_option linter.unusedSimpArgs false
set_option linter.unnecessarySimpa false
namespace Go.Proofs.Ytclecajbcmmddaa
open Go.RowKit Go.PlainAid

theorem own_setR {w : World} {n g cap : Nat} {xs : List Value} (h : w.ownsRow 0 65 3 (.slice (some ⟨g, 0, none⟩) n cap) n xs) (j : Nat) (x : Value) : (w.setCell ⟨g, j, none⟩ x).ownsRow 0 65 3 (.slice (some ⟨g, 0, none⟩) n cap) n (xs.set j x) := by
  obtain ⟨h1, ⟨e, _⟩ | ⟨g', cap', cur, e, h3, h4, h5, h6, h7, h8⟩⟩ := h
  · cases e
  · cases e
    exact ⟨by rw [List.length_set]; exact h1, .inr ⟨g, cap, cur.setIfInBounds j x, rfl, h3, KbC.set (i := j) h4 x, h5, h6, by simp [h7], by rw [Array.toList_setIfInBounds, List.take_set, h8]⟩⟩
theorem rrcs_setv : ∀ (L : List Rr) (k : Nat) (x : Value) (t : List Int), k < L.length → (rrcs L).set (k * 3 + 1) x = rrcs (L.set k ⟨(rA L k).u, x, t, (rA L k).n⟩)
  | [], k, x, t, h => absurd h (Nat.not_lt_zero _)
  | r :: L, 0, x, t, h => rfl
  | r :: L, k + 1, x, t, h => by
    have ih := rrcs_setv L k x t (by simpa using h)
    show (rrc r ++ rrcs L).set ((k + 1) * 3 + 1) x = rrc r ++ rrcs (L.set k _)
    rw [List.set_append_right _ _ (by show 3 ≤ _; omega), show (k + 1) * 3 + 1 - (rrc r).length = k * 3 + 1 by show (k + 1) * 3 + 1 - 3 = _; omega, ih]; rfl
theorem rrcs_setn : ∀ (L : List Rr) (k : Nat) (n : Int), k < L.length → (rrcs L).set (k * 3 + 2) (.int .i64 n) = rrcs (L.set k ⟨(rA L k).u, (rA L k).v, (rA L k).t, n⟩)
  | [], k, n, h => absurd h (Nat.not_lt_zero _)
  | r :: L, 0, n, h => rfl
  | r :: L, k + 1, n, h => by
    have ih := rrcs_setn L k n (by simpa using h)
    show (rrc r ++ rrcs L).set ((k + 1) * 3 + 2) (.int .i64 n) = rrc r ++ rrcs (L.set k _)
    rw [List.set_append_right _ _ (by show 3 ≤ _; omega), show (k + 1) * 3 + 2 - (rrc r).length = k * 3 + 2 by show (k + 1) * 3 + 2 - 3 = _; omega, ih]; rfl
section
variable {S : Nat → Prop} {W V : World} {b g cap k : Nat} {most win lock : Int} {L : List Rr}
theorem fo_set (hb : Below W.heap.size W V) (hs : S g) (j : Nat) (x : Value) : Fo S W (V.setCell ⟨g, j, none⟩ x) :=
  ⟨hb.os, hb.tape, hb.output, by simp [World.setCell]; exact hb.size, fun i hi hn => (heap_setCell_other V ⟨g, j, none⟩ i x (fun e => hn (by have e : i = g := e; rw [e]; exact hs))).trans (hb.block i hi)⟩
theorem RX.setT (h : RX W S b most win lock L (.slice (some ⟨g, 0, none⟩) L.length cap)) (hb : Below W.heap.size W V) (hk : k < L.length) (x : Value) (t : List Int) (hir : IR V x t) (hfr : ∀ i, x.ownBlock = some i → W.heap.size ≤ i) :
    RX (V.setCell ⟨g, k * 3 + 1, none⟩ x) (nw S W (V.setCell ⟨g, k * 3 + 1, none⟩ x)) b most win lock (L.set k ⟨(rA L k).u, x, t, (rA L k).n⟩) (.slice (some ⟨g, 0, none⟩) L.length cap) := by
  have hsz : (V.setCell ⟨g, k * 3 + 1, none⟩ x).heap.size = V.heap.size := by simp [World.setCell]
  have hgw := (h.own.lt g rfl).2
  have hgb := (h.ownS g rfl).2
  have ho := own_setR (h.step hb).own (k * 3 + 1) x
  rw [rrcs_setv L k x t hk] at ho
  refine ⟨(heap_setCell_other V ⟨g, k * 3 + 1, none⟩ b x hgb.symm).trans (h.obj.step hb), .inl h.sb, by rw [List.length_set]; exact ho, fun i e => ⟨.inl (h.ownS i e).1, (h.ownS i e).2⟩, fun r hr => ?_, fun r hr i e => ?_⟩
  · rcases List.mem_or_eq_of_mem_set hr with hr | rfl
    · exact (h.tm r hr).keep (by rw [hsz]; exact hb.size) fun i e => (heap_setCell_other V ⟨g, k * 3 + 1, none⟩ i x (fun q => (h.tmS r hr i e).2.2 (by have q : i = g := q; rw [q]; rfl))).trans (hb.block i ((h.tm r hr).lt e))
    · exact hir.keep (by rw [hsz]; exact Nat.le_refl _) fun i e => heap_setCell_other V ⟨g, k * 3 + 1, none⟩ i x (fun q => by have q : i = g := q; have := hfr i e; omega)
  · rcases List.mem_or_eq_of_mem_set hr with hr | rfl
    · exact ⟨.inl (h.tmS r hr i e).1, (h.tmS r hr i e).2⟩
    · have h1 := hfr i e
      have h2 := hir.lt e
      have h3 := h.obj.big
      exact ⟨.inr ⟨h1, by rw [hsz]; exact h2⟩, by omega, fun q => by have q : some g = some i := q; injection q with q; omega⟩
theorem RX.setU (h : RX W S b most win lock L (.slice (some ⟨g, 0, none⟩) L.length cap)) (hb : Below W.heap.size W V) (hk : k < L.length) (n : Int) :
    RX (V.setCell ⟨g, k * 3 + 2, none⟩ (.int .i64 n)) (nw S W (V.setCell ⟨g, k * 3 + 2, none⟩ (.int .i64 n))) b most win lock (L.set k ⟨(rA L k).u, (rA L k).v, (rA L k).t, n⟩) (.slice (some ⟨g, 0, none⟩) L.length cap) := by
  have hsz : (V.setCell ⟨g, k * 3 + 2, none⟩ (.int .i64 n)).heap.size = V.heap.size := by simp [World.setCell]
  have hgb := (h.ownS g rfl).2
  have ho := own_setR (h.step hb).own (k * 3 + 2) (.int .i64 n)
  rw [rrcs_setn L k n hk] at ho
  have hm := rA_mem hk
  have key : ∀ r ∈ L, IR (V.setCell ⟨g, k * 3 + 2, none⟩ (.int .i64 n)) r.v r.t := fun r hr => (h.tm r hr).keep (by rw [hsz]; exact hb.size) fun i e => (heap_setCell_other V ⟨g, k * 3 + 2, none⟩ i _ (fun q => (h.tmS r hr i e).2.2 (by have q : i = g := q; rw [q]; rfl))).trans (hb.block i ((h.tm r hr).lt e))
  refine ⟨(heap_setCell_other V ⟨g, k * 3 + 2, none⟩ b _ hgb.symm).trans (h.obj.step hb), .inl h.sb, by rw [List.length_set]; exact ho, fun i e => ⟨.inl (h.ownS i e).1, (h.ownS i e).2⟩, fun r hr => ?_, fun r hr i e => ?_⟩
  · rcases List.mem_or_eq_of_mem_set hr with hr | rfl
    · exact key r hr
    · exact key (rA L k) hm
  · rcases List.mem_or_eq_of_mem_set hr with hr | rfl
    · exact ⟨.inl (h.tmS r hr i e).1, (h.tmS r hr i e).2⟩
    · exact ⟨.inl (h.tmS (rA L k) hm i e).1, (h.tmS (rA L k) hm i e).2⟩
/-- a record more -/
theorem RX.grow {v v' : Value} (h : RX W S b most win lock L v) (u : ByteArray) (ho : V.ownsRow 0 65 3 v' (L.length + 1) (rrcs (L ++ [⟨u, .slice none 0 0, [], 0⟩]))) (hos : V.os = W.os) (htp : V.tape = W.tape) (hout : V.output = W.output) (hsz0 : W.heap.size ≤ V.heap.size)
    (hbl : ∀ i, i < W.heap.size → v.ownBlock ≠ some i → V.heap[i]? = W.heap[i]?) (hfr : ∀ i, v'.ownBlock = some i → v.ownBlock = some i ∨ W.heap.size ≤ i) :
    RX (V.setCell ⟨b, 4, none⟩ v') (nw S W (V.setCell ⟨b, 4, none⟩ v')) b most win lock (L ++ [⟨u, .slice none 0 0, [], 0⟩]) v' ∧ Fo S W (V.setCell ⟨b, 4, none⟩ v') := by
  have hsz : (V.setCell ⟨b, 4, none⟩ v').heap.size = V.heap.size := by simp [World.setCell]
  have hbb := h.obj.big
  have hg : ∀ i, v'.ownBlock = some i → i ≠ b := fun i e => by
    rcases hfr i e with q | q
    · exact (h.ownS i q).2
    · omega
  have hob : V.heap[b]? = W.heap[b]? := hbl b hbb fun e => (h.ownS b e).2 rfl
  have hmem : ∀ r ∈ L ++ [(⟨u, .slice none 0 0, [], 0⟩ : Rr)], r ∈ L ∨ r = ⟨u, .slice none 0 0, [], 0⟩ := fun r hr => by
    rcases List.mem_append.1 hr with q | q
    · exact .inl q
    · exact .inr (List.mem_singleton.1 q)
  refine ⟨⟨KbC.set (i := 4) (show KbC V b (lkR most win lock v) from hob.trans h.obj) v', .inl h.sb, ?_, fun i e => ⟨?_, hg i e⟩, fun r hr => ?_, fun r hr i e => ?_⟩, ?_⟩
  · rw [List.length_append]
    have h0 := ho
    obtain ⟨h1, h2⟩ := ho
    refine ⟨h1, ?_⟩
    rcases h2 with h2 | ⟨q, cp, cur, rfl, h3, h4, h5⟩
    · exact .inl h2
    · exact .inr ⟨q, cp, cur, rfl, h3, (heap_setCell_other V ⟨b, 4, none⟩ q _ (hg q rfl)).trans h4, h5⟩
  · rcases hfr i e with q | q
    · exact .inl (h.ownS i q).1
    · exact .inr ⟨q, by rw [hsz]; exact (ho.lt i e).2⟩
  · rcases hmem r hr with hr | rfl
    · exact (h.tm r hr).keep (by rw [hsz]; exact hsz0) fun i e => (heap_setCell_other V ⟨b, 4, none⟩ i _ (h.tmS r hr i e).2.1).trans (hbl i ((h.tm r hr).lt e) (h.tmS r hr i e).2.2)
    · exact ir_nil _
  · rcases hmem r hr with hr | rfl
    · refine ⟨.inl (h.tmS r hr i e).1, (h.tmS r hr i e).2.1, fun q => ?_⟩
      rcases hfr i q with z | z
      · exact (h.tmS r hr i e).2.2 z
      · have := (h.tm r hr).lt e; omega
    · cases e
  · exact ⟨hos, htp, hout, by rw [hsz]; exact hsz0, fun i hi hn => (heap_setCell_other V ⟨b, 4, none⟩ i v' (fun e => hn (by have e : i = b := e; rw [e]; exact h.sb))).trans (hbl i hi fun e => hn (h.ownS i e).1)⟩
end
theorem nw_nw {S : Nat → Prop} {w W V : World} (h1 : w.heap.size ≤ W.heap.size) (h2 : W.heap.size ≤ V.heap.size) {i : Nat} (h : nw (nw S w W) W V i) : nw S w V i := by
  rcases h with (h | h) | h
  · exact .inl h
  · exact .inr ⟨h.1, by omega⟩
  · exact .inr ⟨by omega, h.2⟩
/-! ### rows of times -/
def icl (l : List Int) : List Value := l.map fun k => Value.int .i64 k
theorem icl_snoc (l : List Int) (k : Int) : icl (l ++ [k]) = icl l ++ [.int .i64 k] := by simp [icl]
theorem i_empty (w : World) : (w.alloc (.cells #[] 3)).ownsRow w.heap.size 3 1 (.slice (some ⟨w.heap.size, 0, none⟩) 0 0) 0 [] :=
  ⟨rfl, .inr ⟨w.heap.size, 0, #[], rfl, Nat.le_refl _, heap_alloc_new w _, Nat.le_refl _, by unfold maxLen; omega, rfl, rfl⟩⟩
/-- 'l = append(l, times...)' where l is the call's own -/
theorem app_ir {ops : Array Oper} {rest : List Oper} {o : Oper} {a : Act} {Q : Exit → Act → World → Prop} (wr : World) {base : Nat} {v : Value} {n : Nat} {xs : List Value} (hown : wr.ownsRow base 3 1 v n xs) (s x : Operand) (tv : Value) (ts : List Int)
    (hir : IR wr tv ts) (hgd : o.guard = none) (ho : o.op = .call { callee := .builtin .append, args := #[s, x], argTypes := #[57, 57] })
    (hs : a.eval s = v) (hx : a.eval x = tv) (hn : n + ts.length ≤ 1000000000) (hbase : base ≤ wr.heap.size)
    (h : ∀ v' w', w'.ownsRow base 3 1 v' (n + ts.length) (xs ++ icl ts) → Below base wr w' → wpList Try.prog ops Q rest (a.put o.dst v') w') :
    wpList Try.prog ops Q (o :: rest) a wr := by
  obtain ⟨i0, hi, hz0, hz1, hz2⟩ := rr_parts info_i64
  rcases hir with ⟨rfl, rfl⟩ | ⟨tb, tf, tc, rfl, _, _, _, _, h5, _⟩
  · refine wpList_append_own_none hgd s x 57 ho base 3 i0 1 Try.underlying57 hi v n xs hs hown hx ?_
    exact h v wr (by show wr.ownsRow base 3 1 v n (xs ++ []); rw [List.append_nil]; exact hown) (Below.refl _ _)
  · refine wpList_append_own _ hgd s x 57 ho base 3 i0 (.int .i64 0) 1 8 Try.underlying57 hi hz0 hz1 hz2 rfl (by decide) v n xs hs hown ⟨tb, tf, none⟩ ts.length tc (icl ts) hx (by simp [icl])
      (fun j u hj => ?_) (fun u hu => by obtain ⟨q, _, rfl⟩ := List.mem_map.1 hu; rfl) (by unfold maxLen; omega) (by omega) hbase ?_
    · unfold icl at hj
      rw [List.getElem?_map] at hj
      obtain ⟨q, hq, rfl⟩ := Option.map_eq_some_iff.1 hj
      obtain ⟨hl, rfl⟩ := List.getElem?_eq_some_iff.1 hq
      rw [Go.WideShapes.add_plain, h5 j hl]
      unfold iA
      rw [List.getD_eq_getElem?_getD, List.getElem?_eq_getElem hl]; rfl
    intro v' w' h1 h2 _
    exact h v' w' h1 ((Below.refl base wr).grown h2 hbase (fun k hk => (hown.lt k hk).1))
/-- 'l = append(l, k)' where l is the call's own -/
theorem push_it {ops : Array Oper} {rest : List Oper} {o : Oper} {a : Act} {Q : Exit → Act → World → Prop} (wr : World) {base : Nat} {v : Value} {n : Nat} {xs : List Value} (hown : wr.ownsRow base 3 1 v n xs) (s x : Operand)
    (p : Int) (hgd : o.guard = none)
    (ho : o.op = .call { callee := .builtin .append, args := #[s, x], argTypes := #[57, 57] })
    (hs : a.eval s = v) (hx : a.eval x = .slice (some ⟨wr.heap.size, 0, none⟩) 1 1) (hn : n + 1 ≤ 1000000000) (hbase : base ≤ wr.heap.size)
    (h : ∀ v' w', w'.ownsRow base 3 1 v' (n + 1) (xs ++ [.int .i64 p]) → Below base wr w' → wpList Try.prog ops Q rest (a.put o.dst v') w') :
    wpList Try.prog ops Q (o :: rest) a (wr.alloc (.cells #[.int .i64 p] 3)) := by
  obtain ⟨i0, hi, hz0, hz1, hz2⟩ := rr_parts info_i64
  refine wpList_append_own _ hgd s x 57 ho base 3 i0 (.int .i64 0) 1 8 Try.underlying57 hi hz0 hz1 hz2 rfl (by decide) v n xs hs (hown.alloc _) ⟨wr.heap.size, 0, none⟩ 1 1 [.int .i64 p] hx rfl
    (fun j u hj => ?_) (by intro u hu; simp at hu; subst hu; rfl) (by unfold maxLen; omega) (by omega) (by simp; omega) ?_
  · rw [Go.WideShapes.add_plain, Nat.zero_add]
    exact (kbc_new wr (.cells #[.int .i64 p] 3)).cell (by rw [← Array.getElem?_toList]; exact hj)
  intro v' w' h1 h2 _
  refine h v' w' h1 ?_
  exact ((Below.refl base wr).alloc hbase _).grown h2 (by simp; omega) (fun k hk => (hown.lt k hk).1)
/-- what the times of the call's own are: a slice that may be written -/
theorem ir_own {w : World} {base n : Nat} {v : Value} {l : List Int} (h : w.ownsRow base 3 1 v n (icl l)) (hn : l.length = n) (h0 : 0 < n) : ∃ g cap, v = .slice (some ⟨g, 0, none⟩) n cap ∧ base ≤ g ∧ n ≤ cap ∧ cap ≤ maxLen ∧ IR w v l := by
  have h9 := h
  rcases h.2 with ⟨_, e⟩ | ⟨g, cap, cur, rfl, hb, hg, hc, hm, hcs, ht⟩
  · omega
  · refine ⟨g, cap, rfl, hb, hc, hm, .inr ⟨g, 0, cap, by rw [hn], by omega, by omega, hm, (Array.getElem?_eq_some_iff.1 hg).1, fun j hj => ?_, fun j hj => ?_⟩⟩
    · have := h9.cells (g := g) rfl j (.int .i64 (iA l j)) (by
        unfold icl iA
        rw [List.getElem?_map, List.getD_eq_getElem?_getD, List.getElem?_eq_getElem hj]; rfl)
      rw [Go.WideShapes.add_plain] at this
      exact this
    · rw [Nat.zero_add]
      have hj2 : j < cur.size := by omega
      have h2 := KbC.cell (show KbC w g (.cells cur 3) from hg) (i := j) (v := cur[j]) (by simp [hj2])
      exact ⟨by rw [h2]; rfl, KbC.frz (show KbC w g (.cells cur 3) from hg)⟩
/-- the record of a user, set anew -/
theorem usSet_at {L : List Rr} {u : ByteArray} {k : Nat} (hu : UsN (L.map rrU)) (h : k < L.length) (hk : (rA L k).u = u) (hs : (usO (L.map rrU) u).isSome = true) (r : Rc) : usSet (L.map rrU) u r = (L.map rrU).set k (u, r) := by
  have hp : ∀ j (hj : j < L.length), j ≠ k → (L[j]).u ≠ u := fun j hj hne e => by
    have hu2 : ((L.map rrU).map Prod.fst).Pairwise (· ≠ ·) := hu
    rw [List.map_map, List.pairwise_map, List.pairwise_iff_getElem] at hu2
    rw [← hk, rA_get h] at e
    rcases Nat.lt_or_ge j k with q | q
    · exact hu2 j k hj h q e
    · exact hu2 k j h hj (by omega) e.symm
  unfold usSet
  rw [if_pos hs]
  apply List.ext_getElem (by simp)
  intro j h1 h2
  have hj : j < L.length := by simpa using h1
  rw [List.getElem_map, List.getElem_set, List.getElem_map]
  by_cases e : k = j
  · subst e
    rw [if_pos rfl]
    have : (rrU L[k]).1 = u := by rw [← hk, rA_get h]; rfl
    rw [if_pos this, this]
  · rw [if_neg e, if_neg (by exact hp j hj fun q => e q.symm)]
theorem set_map {L : List Rr} {k : Nat} (r : Rr) : (L.set k r).map rrU = (L.map rrU).set k (rrU r) := List.map_set
end Go.Proofs.Ytclecajbcmmddaa
