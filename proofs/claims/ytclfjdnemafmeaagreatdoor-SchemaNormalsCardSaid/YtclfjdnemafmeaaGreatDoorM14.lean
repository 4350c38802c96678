/-
  Texts of the schema layer and of those beneath it, joined: NamY, NamZ, NamQ, ShelfR, NamO, NamT, NamD, SchStrs. Conditions stand at each contract.
-/
import Derived.Shelf.SlicesQ.Reverse
import Derived.WalkLawsBesides
import Derived.Lib.SliceRun
import Derived.StillTailTactics
import Derived.BigRegion
import Derived.Deep.RegionHeld3
import Derived.Deep.AppendLies
import Derived.Test.YtclfjdnemafmeaaGreatDoorProg
import Derived.Test.YtclfjdnemafmeaaGreatDoorM03
import Derived.Test.YtclfjdnemafmeaaGreatDoorM13

section
/-
  The contract of slices.Insert at one pair at the beginning of a row of the caller's own. Condition: at most 100 pairs.
-/
set_option maxRecDepth 100000
set_option linter.unusedVariables false
set_option linter.unusedSimpArgs false
set_option linter.unnecessarySimpa false
namespace Go.Proofs.YtclfjdnemafmeaaGreatDoor
namespace Nam
open Go.RowKit Go.PlainAid

theorem below_setCells {B : Nat} {a : World} (g : Nat) (hg : B ≤ g) : ∀ (vs : List Value) (o : Nat) (w : World), Below B a w → Below B a (w.setCells g o vs)
  | [], _, _, h => h
  | v :: r, o, w, h => by
    rw [World.setCells]
    exact below_setCells g hg r (o + 1) _ (h.setCell (p := ⟨g, o, none⟩) hg v)
theorem some_setCells (b : Nat) (vs : List Value) (o : Nat) (w : World) (h : ∀ j, j < vs.length → (w.cell? ⟨b, o + j, none⟩).isSome = true) (k : Nat) (hk : (w.cell? ⟨b, k, none⟩).isSome = true) : ((w.setCells b o vs).cell? ⟨b, k, none⟩).isSome = true := by
  by_cases hin : o ≤ k ∧ k < o + vs.length
  · have := World.cell?_setCells_in b vs o w h (k - o) (by omega)
    rw [show o + (k - o) = k by omega] at this
    rw [this]; rfl
  · rw [World.cell?_setCells_out b vs o w ⟨b, k, none⟩ (fun _ _ => by show k < o ∨ o + vs.length ≤ k; omega)]
    exact hk
theorem pcells_cons (p : Pr) (l : List Pr) : pcells (p :: l) = pcells [p] ++ pcells l := rfl
/-- first the tail, then the head -/
theorem tail_head (W : World) (g : Nat) (p : Pr) (l : List Pr) (hc : ∀ j, j < 2 + l.length * 2 → (W.cell? ⟨g, j, none⟩).isSome = true) : ∀ j u, (pcells (p :: l))[j]? = some u → ((W.setCells g 2 (pcells l)).setCells g 0 (pcells [p])).cell? ⟨g, 0 + j, none⟩ = some u := by
  intro j u hj
  have hlp : (pcells [p]).length = 2 := rfl
  have hll := pcells_len l
  rw [pcells_cons] at hj
  have hlt : j < 2 + l.length * 2 := by
    rcases Nat.lt_or_ge j (pcells [p] ++ pcells l).length with h | h
    · rw [List.length_append, hlp, hll] at h; exact h
    · rw [List.getElem?_eq_none h] at hj; cases hj
  by_cases h2 : j < 2
  · rw [List.getElem?_append_left (by rw [hlp]; exact h2)] at hj
    rw [World.cell?_setCells_in g (pcells [p]) 0 _ (fun k hk => by
      rw [Nat.zero_add]
      exact some_setCells g _ _ _ (fun i hi => hc _ (by rw [hll] at hi; omega)) k (hc k (by rw [hlp] at hk; omega))) j (by rw [hlp]; exact h2)]
    rw [List.getElem?_eq_getElem (by rw [hlp]; exact h2)] at hj
    exact hj
  · rw [List.getElem?_append_right (by rw [hlp]; omega), hlp] at hj
    rw [World.cell?_setCells_out g _ _ _ _ (fun _ _ => by show 0 + j < 0 ∨ 0 + (pcells [p]).length ≤ 0 + j; rw [hlp]; omega)]
    have := World.cell?_setCells_in g (pcells l) 2 W (fun k hk => hc _ (by rw [hll] at hk; omega)) (j - 2) (by rw [hll]; omega)
    rw [show 2 + (j - 2) = 0 + j by omega] at this
    rw [this]
    rw [List.getElem?_eq_getElem (by rw [hll]; omega)] at hj
    exact hj
/-- first the head, then the tail -/
theorem head_tail (W : World) (g : Nat) (p : Pr) (l : List Pr) (hc : ∀ j, j < 2 + l.length * 2 → (W.cell? ⟨g, j, none⟩).isSome = true) : ∀ j u, (pcells (p :: l))[j]? = some u → ((W.setCells g 0 (pcells [p])).setCells g 2 (pcells l)).cell? ⟨g, 0 + j, none⟩ = some u := by
  intro j u hj
  have hlp : (pcells [p]).length = 2 := rfl
  have hll := pcells_len l
  rw [pcells_cons] at hj
  have hlt : j < 2 + l.length * 2 := by
    rcases Nat.lt_or_ge j (pcells [p] ++ pcells l).length with h | h
    · rw [List.length_append, hlp, hll] at h; exact h
    · rw [List.getElem?_eq_none h] at hj; cases hj
  by_cases h2 : j < 2
  · rw [List.getElem?_append_left (by rw [hlp]; exact h2)] at hj
    rw [World.cell?_setCells_out g _ _ _ _ (fun _ _ => by show 0 + j < 2 ∨ _; omega)]
    rw [World.cell?_setCells_in g (pcells [p]) 0 W (fun k hk => hc _ (by rw [hlp] at hk; omega)) j (by rw [hlp]; exact h2)]
    rw [List.getElem?_eq_getElem (by rw [hlp]; exact h2)] at hj
    exact hj
  · rw [List.getElem?_append_right (by rw [hlp]; omega), hlp] at hj
    have := World.cell?_setCells_in g (pcells l) 2 (W.setCells g 0 (pcells [p])) (fun k hk => some_setCells g _ _ _ (fun i hi => hc _ (by rw [hlp] at hi; omega)) _ (hc _ (by rw [hll] at hk; omega))) (j - 2) (by rw [hll]; omega)
    rw [show 2 + (j - 2) = 0 + j by omega] at this
    rw [this]
    rw [List.getElem?_eq_getElem (by rw [hll]; omega)] at hj
    exact hj
theorem drawn_setCells (g : Nat) : ∀ (vs : List Value) (o : Nat) (w : World), (w.setCells g o vs).drew = w.drew.setCells g o vs
  | [], _, _ => rfl
  | v :: r, o, w => by rw [World.setCells, World.setCells, drawn_setCells g r]; rfl
theorem size_setCells (g : Nat) : ∀ (vs : List Value) (o : Nat) (w : World), (w.setCells g o vs).heap.size = w.heap.size
  | [], _, _ => rfl
  | v :: r, o, w => by rw [World.setCells, size_setCells g r]; simp [World.setCell]
/-- 'copy(d, s)' whose run is known -/
theorem wp_copied {ops : Array Oper} {rest : List Oper} {o : Oper} {a : Act} {Q : Exit → Act → World → Prop} (w : World) (hgd : o.guard = none) (d s : Operand) (t : TypeId)
    (ho : o.op = .call { callee := .builtin .copy, args := #[d, s], argTypes := #[t, t] }) (v u : Value) (hd : a.eval d = v) (hs : a.eval s = u) {v' : Value} {w' : World}
    (hr : (Builtin.copy_ #[t, t] o.type #[v, u]).run Tryz.prog w = .ok v' w') (h : wpList Tryz.prog ops Q rest (a.put o.dst v') w') : wpList Tryz.prog ops Q (o :: rest) a w := by
  refine wpList_plain hgd fun K hK => ?_
  unfold Oper.wp
  simp [execOp, ho, resolve, invoke, builtin, hd, hs, hr, Result.andThen]
  exact hK _ _ h
/-- the same as a step of a region that draws -/
theorem step_copied {ops : Array Oper} {o : Oper} {a : Act} {w : World} {K : Act → World → Prop} {Q : Exit → Act → World → Prop} {E : Prop} (hg : o.guard = none) (d s : Operand) (t : TypeId)
    (ho : o.op = .call { callee := .builtin .copy, args := #[d, s], argTypes := #[t, t] }) (v u : Value) (hd : a.eval d = v) (hs : a.eval s = u) {v' : Value} {w' : World}
    (hr : (Builtin.copy_ #[t, t] o.type #[v, u]).run Tryz.prog w = .ok v' w') (hK : K (a.put o.dst v') w') : if Region.wanted o (yielded ops a.tmps) = true then Oper.wp Tryz.prog o a w K Q else E := by
  have hw : Region.wanted o (yielded ops a.tmps) = true := by simp [Region.wanted, hg]
  rw [if_pos hw]
  unfold Oper.wp
  simp [execOp, ho, resolve, invoke, builtin, hd, hs, hr, Result.andThen]
  exact hK
theorem own_heap {w : World} {base n cap g : Nat} {xs : List Value} (h : w.ownsRow base 131 2 (.slice (some ⟨g, 0, none⟩) n cap) n xs) :
    base ≤ g ∧ g < w.heap.size ∧ n ≤ cap ∧ cap ≤ maxLen ∧ (∀ j, j < cap * 2 → (w.cell? ⟨g, j, none⟩).isSome = true) ∧ (∀ j, w.frozen? ⟨g, j, none⟩ = false) ∧ w.shape? g = some (131, cap * 2) := by
  have h0 := h
  obtain ⟨hl, ⟨he, _⟩ | ⟨g', cap', cur, he, h2, h3, h4, h5, h6, h7⟩⟩ := h
  · cases he
  · cases he
    refine ⟨h2, (h0.lt g rfl).2, h4, h5, fun j hj => ?_, fun j => Lib.frozen_of_heap h3 j, ?_⟩
    · rw [Lib.cell_of_heap h3, Array.getElem?_eq_getElem (by omega)]; rfl
    · unfold World.shape?; rw [h3, ← h6]
theorem pair_two : (Tryz.prog.info? 131).map (·.size) = some 2 := by kernel_rfl

/-- 'append(s, ..)' whose run is known -/
theorem wp_appended {ops : Array Oper} {rest : List Oper} {o : Oper} {a : Act} {Q : Exit → Act → World → Prop} (w : World) (hgd : o.guard = none) (d s : Operand) (t u : TypeId)
    (ho : o.op = .call { callee := .builtin .append, args := #[d, s], argTypes := #[t, u] }) (v x : Value) (hd : a.eval d = v) (hs : a.eval s = x) {v' : Value} {w' : World}
    (hr : (Builtin.append_ #[t, u] o.type #[v, x]).run Tryz.prog w = .ok v' w') (h : wpList Tryz.prog ops Q rest (a.put o.dst v') w') : wpList Tryz.prog ops Q (o :: rest) a w := by
  refine wpList_plain hgd fun K hK => ?_
  unfold Oper.wp
  simp [execOp, ho, resolve, invoke, builtin, hd, hs, hr, Result.andThen]
  exact hK _ _ h
theorem zero_size (k : Nat) : (Builtin.zeroCells (Value.agg #[.string ⟨#[]⟩, .string ⟨#[]⟩]).cells k).size = k * 2 := by
  simp [Builtin.zeroCells, Value.cells]
theorem grow_zeros (w : World) (g cap : Nat) (hc : cap ≤ 100) : ∃ G W1, (∀ ty, (Builtin.append_ #[127, 3] ty #[.slice (some ⟨g, 0, none⟩) 0 cap, .int .i64 ((cap : Int) + 1)]).run Tryz.prog w = .ok (.slice (some ⟨w.heap.size, 0, none⟩) (cap + 1) G) W1) ∧
    cap + 1 ≤ G ∧ G ≤ maxLen ∧ (∀ j, j < 2 + cap * 2 → (W1.cell? ⟨w.heap.size, j, none⟩).isSome = true) ∧ (∀ j, W1.frozen? ⟨w.heap.size, j, none⟩ = false) ∧ Below w.heap.size w W1 ∧ w.heap.size < W1.heap.size := by
  obtain ⟨i0, hi0, hz0, hz1, hz2⟩ := info_parts info_pair
  have hold : (Builtin.firstCells i0.size 0 (.slice (some ⟨g, 0, none⟩) 0 cap)).run Tryz.prog w.drew = .ok ([] : List Value).toArray w.drew := by
    rw [hz1]; exact run_firstCells_some w.drew 2 0 ⟨g, 0, none⟩ 0 cap [] (by simp) (fun j v hj => by simp at hj)
  have hrun := fun ty => Lib.run_append_grow_zeros w 127 3 ty 131 i0 _ .i64 .i64 Tryz.underlying127 Tryz.underlying3 hi0 hz0 (some ⟨g, 0, none⟩) 0 cap [] hold (cap + 1) (by omega) (by omega) (by omega) (by omega) (by rw [hz2]; omega) (by rw [hz2, Nat.zero_add]; exact growslice_fits (by omega) (by omega))
  simp only [Nat.zero_add] at hrun
  obtain ⟨G, hG⟩ : ∃ G, G = grownCap w (cap + 1) cap 131 := ⟨_, rfl⟩
  rw [← hG] at hrun
  obtain ⟨ROW, hR⟩ : ∃ ROW : Array Value, ROW = ([] : List Value).toArray ++ Builtin.zeroCells (Value.agg #[.string ⟨#[]⟩, .string ⟨#[]⟩]).cells (cap + 1) ++ Builtin.zeroCells (Value.agg #[.string ⟨#[]⟩, .string ⟨#[]⟩]).cells (G - (cap + 1)) := ⟨_, rfl⟩
  rw [← hR] at hrun
  have hsz : 2 + cap * 2 ≤ ROW.size := by
    rw [hR, Array.size_append, Array.size_append, zero_size, zero_size]; simp; omega
  have hnew : (w.drew.alloc (.cells ROW 131)).heap[w.heap.size]? = some (.cells ROW 131) := heap_alloc_new w.drew _
  refine ⟨G, w.drew.alloc (.cells ROW 131), fun ty => ?_, by rw [hG]; exact grownCap_ge w _ _ _, by rw [hG]; exact grownCap_le_maxLen w _ _ _ (by unfold maxLen; omega), fun j hj => ?_, fun j => Lib.frozen_of_heap hnew j, ((Below.refl _ w).drew).alloc (Nat.le_refl _) _, by rw [World.size_alloc]; exact Nat.lt_succ_self _⟩
  · rw [show ((cap : Int) + 1) = ((cap + 1 : Nat) : Int) by omega]; exact hrun ty
  · rw [Lib.cell_of_heap hnew, Array.getElem?_eq_getElem (by omega)]; rfl

end Nam
end Go.Proofs.YtclfjdnemafmeaaGreatDoor
end

section
/-
  Contracts of Child and Rebase in the program and in the specification. Condition: at most 1000000 bytes.
-/
set_option maxRecDepth 100000
set_option linter.unusedVariables false
set_option linter.unusedSimpArgs false
set_option linter.unnecessarySimpa false
namespace Go.Proofs.YtclfjdnemafmeaaGreatDoor
namespace Nam
open Go.RowKit Go.PlainAid

theorem own_none {w : World} {base n cap size : Nat} {e : TypeId} {ao : Option Addr} {xs : List Value} (h : w.ownsRow base e size (.slice ao n cap) n xs) : ao = none → cap = 0 := fun e0 => by
  subst e0
  rcases h.2 with ⟨h1, _⟩ | ⟨g, c2, cur, h1, _⟩
  · injection h1
  · injection h1 with a; cases a
theorem small_cons {l : List Pr} {p : Pr} (h : Small l) (h8 : l.length ≤ 8) (h1 : p.1.size ≤ 1000000) (h2 : p.2.size ≤ 1000000) : Small (p :: l) := small_of _ (by simp; omega) fun q hq => by
  rcases List.mem_cons.1 hq with rfl | hq
  · exact ⟨h1, h2⟩
  · exact h.mem q hq
theorem small_app {l m : List Pr} (h : Small l) (k : Small m) (hn : l.length + m.length ≤ 1000) : Small (l ++ m) := small_of _ (by simp; omega) fun q hq => by
  rcases List.mem_append.1 hq with hq | hq
  · exact h.mem q hq
  · exact k.mem q hq

end Nam
end Go.Proofs.YtclfjdnemafmeaaGreatDoor
end

section
/-
  Contracts of Rebase in the program and in the specification. Condition: at most 1000000 bytes.
-/
set_option maxRecDepth 100000
set_option linter.unusedVariables false
set_option linter.unusedSimpArgs false
set_option linter.unnecessarySimpa false
namespace Go.Proofs.YtclfjdnemafmeaaGreatDoor
namespace Nam
open Go.RowKit Go.PlainAid

theorem reb_form {s a b : ByteArray} : (normB s = false ∨ normB a = false ∨ normB b = false → rebE s a b = 4 ∧ rebV s a b = ByteArray.empty) ∧
    (normB s = true → normB a = true → normB b = true → sufB (compsV a) (compsV s) = false → rebE s a b = 6 ∧ rebV s a b = ByteArray.empty) ∧
    (normB s = true → normB a = true → normB b = true → sufB (compsV a) (compsV s) = true → rebE s a b = fmtE ((compsV s).take ((compsV s).length - (compsV a).length) ++ compsV b) ∧ rebV s a b = fmtV ((compsV s).take ((compsV s).length - (compsV a).length) ++ compsV b)) := by
  unfold rebE rebV underB keptV
  refine ⟨?_, fun h1 h2 h3 h4 => ?_, fun h1 h2 h3 h4 => ?_⟩
  · rintro (h | h | h) <;> (rw [h]; simp)
  · rw [h1, h2, h3, h4]; exact ⟨rfl, rfl⟩
  · rw [h1, h2, h3, h4]; exact ⟨rfl, rfl⟩
theorem own_new0 (w : World) : (w.alloc (.cells #[] 131)).ownsRow w.heap.size 131 2 (.slice (some ⟨w.heap.size, 0, none⟩) 0 0) 0 [] :=
  ⟨rfl, .inr ⟨w.heap.size, 0, #[], rfl, Nat.le_refl _, heap_alloc_new w _, Nat.le_refl _, Nat.zero_le _, rfl, rfl⟩⟩
theorem pairs_over {w w' : World} {ao : Option Addr} {n cap : Nat} {ps : List Pr} (h : PairsAt w ao n cap ps) (hb : Below w.heap.size w w') : PairsAt w' ao n cap ps := h.below hb
theorem own_plain {w : World} {base n cap size : Nat} {e : TypeId} {ao : Option Addr} {xs : List Value} (h : w.ownsRow base e size (.slice ao n cap) n xs) : ∀ ad, ao = some ad → ad.spot = none := fun ad e0 => by
  subst e0
  rcases h.2 with ⟨h1, _⟩ | ⟨g, c2, cur, h1, _⟩
  · injection h1 with a; cases a
  · injection h1 with a; cases a; rfl
theorem own_fit {w : World} {base n cap size : Nat} {e : TypeId} {ao : Option Addr} {xs : List Value} (h : w.ownsRow base e size (.slice ao n cap) n xs) : n ≤ cap := by
  rcases h.2 with ⟨h1, h2⟩ | ⟨g, c2, cur, h1, _, _, h4, _⟩
  · omega
  · injection h1 with a b c; omega

end Nam
end Go.Proofs.YtclfjdnemafmeaaGreatDoor
end

section
/-
  DERIVED: THE SHELF's CONTRACTS AT THIS DUMP, IN PLAIN WORDS (tools/lay-plain.mjs out of 'TryzShelfRSrc.lean', which tools/lay-shelf.mjs wrote): THE SAME DECLARATIONS UNDER THE SAME NAMES: 'import', 'namespace', 'open', 'def', 'theorem' AND NOTHING ELSE: no command of the shelf's: FOR A HAND-IN. Each laying: the table of numbers ('.._ren') and one theorem, a field a fact of the dump's own or the kernel's comparison; each contract: ONE APPLICATION.
-/
namespace Go.Proofs
open Go.Shelf
def Tryz.layE35_ren : Go.Shelf.Ren := ⟨fun | 35 => 132 | n => n, fun | 22 => 127 | 23 => 131 | 3 => 3 | 4 => 4 | 0 => 0 | n => n, fun | n => n⟩
theorem Tryz.layE35 : Go.Proofs.SlLaysE0.n35 Tryz.prog Tryz.layE35_ren := {
  mixed := by kernel_rfl
  f35 := ⟨Tryz.f132.name, by decide, Tryz.func132.trans (congrArg some (by kernel_rfl))⟩
  t0 := Tryz.underlying0
  a0 := Tryz.isAgg0
  z0 := Tryz.sizeOf0
  v0 := Tryz.zeroValue0
  t3 := Tryz.underlying3
  a3 := Tryz.isAgg3
  z3 := Tryz.sizeOf3
  v3 := Tryz.zeroValue3
  t4 := Tryz.underlying4
  a4 := Tryz.isAgg4
  z4 := Tryz.sizeOf4
  v4 := Tryz.zeroValue4
  t22 := Tryz.underlying127
  a22 := Tryz.isAgg127
  z22 := Tryz.sizeOf127
  v22 := Tryz.zeroValue127 }
end Go.Proofs
end

section
/-
  Contracts of cmp.Or at two numbers, name.comparePairs, slices.Reverse and slices.CompareFunc at pairs, and the specification's bytes. Condition: at most 1000 pairs.
-/
set_option maxRecDepth 100000
set_option linter.unusedVariables false
set_option linter.unusedSimpArgs false
set_option linter.unnecessarySimpa false
namespace Go.Proofs.YtclfjdnemafmeaaGreatDoor
namespace Nam
open Go.RowKit Go.PlainAid

theorem bytes_s (a b : ByteArray) (w : World) :
    Calls Tryz.prog 99 #[.string a, .string b] w fun e w' => e = .returned (.int .i64 (cmpS a b)) ∧ w = w' := by
  have HC := Lib.hid (cmp_tests a.data.toList b.data.toList)
  cases h1 : Op.bytesLess a.toList b.toList
  · cases h2 : (a.toList == b.toList)
    · have HE := Lib.hid (show cmpS a b = 1 by unfold cmpS; rw [HC.out, ← Lib.toList_data, ← Lib.toList_data, h1, h2]; rfl)
      go_enter Tryz.func99, Tryz.ntmps99
      go_wp2
      go_ret
      exact ⟨by rw [HE.out]; rfl, rfl⟩
    · have HE := Lib.hid (show cmpS a b = 0 by unfold cmpS; rw [HC.out, ← Lib.toList_data, ← Lib.toList_data, h1, h2]; rfl)
      go_enter Tryz.func99, Tryz.ntmps99
      go_wp2
      go_ret
      exact ⟨by rw [HE.out]; rfl, rfl⟩
  · have HE := Lib.hid (show cmpS a b = -1 by unfold cmpS; rw [HC.out, ← Lib.toList_data, ← Lib.toList_data, h1]; rfl)
    go_enter Tryz.func99, Tryz.ntmps99
    go_wp2
    go_ret
    exact ⟨by rw [HE.out]; rfl, rfl⟩
theorem compare_lib (a b : ByteArray) (w : World) :
    Calls Tryz.prog 97 #[.string a, .string b] w fun e w' => e = .returned (.int .i64 (cmpS a b)) ∧ w = w' :=
  (Tryz.strings_Compare a b w).mono fun _ _ h => ⟨h.1, h.2.symm⟩

theorem compare_q (a b : ByteArray) (w : World) :
    Calls Tryz.prog 97 #[.string a, .string b] w fun e w' => e = .returned (.int .i64 (cmpS a b)) ∧ w' = w := Tryz.strings_Compare a b w
theorem ints_new (w : World) (x y : Int) : (w.alloc (.cells #[.int .i64 x, .int .i64 y] 3)).cell? ⟨w.heap.size, 0, none⟩ = some (.int .i64 x) ∧ (w.alloc (.cells #[.int .i64 x, .int .i64 y] 3)).cell? ⟨w.heap.size, 1, none⟩ = some (.int .i64 y) := by
  have h : (w.alloc (.cells #[.int .i64 x, .int .i64 y] 3)).heap[w.heap.size]? = some (.cells #[.int .i64 x, .int .i64 y] 3) := heap_alloc_new w _
  exact ⟨by rw [Lib.cell_of_heap h]; rfl, by rw [Lib.cell_of_heap h]; rfl⟩
def orI (x y : Int) : Int := if x = 0 then y else x
set_option maxRecDepth 100000 in
set_option maxHeartbeats 2000000 in
theorem or_s (x y : Int) (w : World) :
    Calls Tryz.prog 165 #[.slice (some ⟨w.heap.size, 0, none⟩) 2 2] (w.alloc (.cells #[.int .i64 x, .int .i64 y] 3)) fun e w' => e = .returned (.int .i64 (orI x y)) ∧ (w.alloc (.cells #[.int .i64 x, .int .i64 y] 3)) = w' := by
  obtain ⟨c0, c1⟩ := ints_new w x y
  by_cases hx : x = 0
  · have HE := Lib.hid (show orI x y = y from if_pos hx)
    have q0 : (x != 0) = false := by rw [hx]; rfl
    clear hx
    by_cases hy : y = 0
    · subst hy
      go_enter Tryz.func165, Tryz.ntmps165
      go_wp2
      refine wp_loop_rounds 3 ?_
      rw [rounds_succ]
      go_wp2
      rw [rounds_succ]
      go_wp2
      rw [rounds_succ]
      go_wp2
      go_ret
      exact ⟨by rw [HE.out]; rfl, rfl⟩
    · have q1 : (y != 0) = true := by simpa using hy
      clear hy
      go_enter Tryz.func165, Tryz.ntmps165
      go_wp2
      refine wp_loop_rounds 3 ?_
      rw [rounds_succ]
      go_wp2
      rw [rounds_succ]
      go_wp2
      go_ret
      exact ⟨by rw [HE.out]; rfl, rfl⟩
  · have HE := Lib.hid (show orI x y = x from if_neg hx)
    have q0 : (x != 0) = true := by simpa using hx
    clear hx
    go_enter Tryz.func165, Tryz.ntmps165
    go_wp2
    refine wp_loop_rounds 3 ?_
    rw [rounds_succ]
    go_wp2
    go_ret
    exact ⟨by rw [HE.out]; rfl, rfl⟩

theorem orI_pair (p q : Pr) : orI (cmpS p.1 q.1) (cmpS p.2 q.2) = cmpP p q := rfl
theorem cmpS_range (a b : ByteArray) : -1 ≤ cmpS a b ∧ cmpS a b ≤ 1 := by rcases cmpS_ord.range a b with h | h | h <;> omega
set_option maxRecDepth 100000 in
set_option maxHeartbeats 4000000 in
theorem comparePairs_s (p q : Pr) (w : World) :
    Calls Tryz.prog 134 #[.agg #[.string p.1, .string p.2], .agg #[.string q.1, .string q.2]] w fun e w' => e = .returned (.int .i64 (cmpP p q)) ∧ Below w.heap.size w w' := by
  obtain ⟨p1, p2⟩ := p
  obtain ⟨q1, q2⟩ := q
  have HE := Lib.hid (orI_pair (p1, p2) (q1, q2))
  have X1 := (pbox_new w (p1, p2)).alloc (.cells #[.string q1, .string q2] 131)
  have X2 := pbox_new (w.alloc (.cells #[.string p1, .string p2] 131)) (q1, q2)
  obtain ⟨c0, c1⟩ := X1.cells
  obtain ⟨d0, d1⟩ := X2.cells
  rw [World.size_alloc] at d0 d1
  have L0 := Lib.hid (show Below w.heap.size w ((w.alloc (.cells #[.string p1, .string p2] 131)).alloc (.cells #[.string q1, .string q2] 131)) from below_next (below_new _) (below_new _))
  clear X1 X2
  go_enter Tryz.func134, Tryz.ntmps134
  go_wp2_with fail
  generalize (w.alloc (.cells #[.string p1, .string p2] 131)).alloc (.cells #[.string q1, .string q2] 131) = W0 at c0 c1 d0 d1 L0 ⊢
  refine wp_region_still_tail 10 (by kernel_rfl) (by kernel_rfl) ?_
  simp only [List.take_succ_cons, List.take_zero, List.drop_succ_cons, List.drop_zero]
  change wpStill _ _ (World.drew W0) _ _ _
  still_step
  still_step
  still_step
  still_step
  still_call (compare_q p1 q1 _)
  still_step
  still_step
  still_step
  still_step
  still_call (compare_q p2 q2 _)
  refine wpStill_nil ?_
  change wpList _ _ _ _ _ (World.drew W0)
  go_wp2_with (go_at_call 165; refine (or_s _ _ (World.drew W0)).mono ?_; rintro e w' ⟨rfl, rfl⟩)
  go_ret
  exact ⟨by rw [← HE.out]; rfl, (L0.out.drew).alloc (by have := L0.out.size; exact this) _⟩

end Nam
end Go.Proofs.YtclfjdnemafmeaaGreatDoor
end

section
/-
  Contracts of slices.Reverse and slices.CompareFunc at pairs, and of Compare in the program. Condition: at most 1000000 bytes.
-/
set_option maxRecDepth 100000
set_option linter.unusedVariables false
set_option linter.unusedSimpArgs false
set_option linter.unnecessarySimpa false
namespace Go.Proofs.YtclfjdnemafmeaaGreatDoor
namespace Nam
open Go.RowKit Go.PlainAid Go.Shelf
open Go.Sort (HoldsK putRowK flatK size_flatK get_flatK holdsK_putRowK)

def encP (p : Pr) : List Value := [.string p.1, .string p.2]
instance : Inhabited Pr := ⟨(ByteArray.empty, ByteArray.empty)⟩
theorem get_pr (l : List Pr) (j : Nat) : l[j]! = prAt l j := by
  unfold prAt; rw [List.getElem!_eq_getElem?_getD, List.getD_eq_getElem?_getD]; rfl
theorem holds_pairs {w : World} {base g n cap : Nat} {l : List Pr} (h : w.ownsRow base 131 2 (.slice (some ⟨g, 0, none⟩) n cap) n (pcells l)) (hl : l.length = n) : HoldsK encP 2 w g 0 l.toArray := by
  intro j hj
  obtain ⟨_, _, _, _, _, hfz, _⟩ := own_heap h
  obtain ⟨xo, dap, he, hat⟩ := pairs_own h hl
  cases he
  have hj2 : j < l.toArray.size * 2 := by rw [size_flatK] at hj; exact hj
  have hs : l.toArray.size = l.length := by simp
  obtain ⟨b, off, e, hp⟩ := hat.2.2.2 (by omega)
  cases e
  have hk := hp.2 (j / 2) (by omega)
  rw [get_flatK _ _ _ _ hj2]
  have e : (l.toArray)[j / 2]! = prAt l (j / 2) := by rw [← get_pr]; simp
  rw [e]
  refine ⟨?_, hfz _⟩
  rcases Nat.mod_two_eq_zero_or_one j with e2 | e2
  · rw [e2, show 0 + j = 0 + j / 2 * 2 by omega, hk.1]; rfl
  · rw [e2, show 0 + j = 0 + j / 2 * 2 + 1 by omega, hk.2]; rfl
theorem pairs_holds {w : World} {g cap : Nat} {d : Array Pr} (h : HoldsK encP 2 w g 0 d) (hg : g < w.heap.size) (h1 : d.size ≤ cap) (h2 : cap ≤ maxLen) : PairsAt w (some ⟨g, 0, none⟩) d.size cap d.toList := by
  refine ⟨by simp, h1, h2, fun _ => ⟨g, 0, rfl, hg, fun j hj => ?_⟩⟩
  have hj2 : j < d.size := by simpa using hj
  have e : prAt d.toList j = d[j]! := by
    rw [← get_pr, getElem!_pos d j hj2, getElem!_pos d.toList j hj]; simp
  have c0 := (h.cell hj2 (c := 0) (by omega)).1
  have c1 := (h.cell hj2 (c := 1) (by omega)).1
  rw [e]
  exact ⟨c0, c1⟩
/-- what a call keeps that writes into one block alone -/
def BlockKeep (ao : Option Addr) (w w' : World) : Prop := w.heap.size ≤ w'.heap.size ∧ ∀ k, k < w.heap.size → (∀ g, ao = some ⟨g, 0, none⟩ → k ≠ g) → w'.heap[k]? = w.heap[k]?
theorem reverse_s (w : World) (base n cap : Nat) (ao : Option Addr) (l : List Pr) (h : w.ownsRow base 131 2 (.slice ao n cap) n (pcells l)) (hl : l.length = n) (hn : n ≤ 1000) :
    Calls Tryz.prog 132 #[.slice ao n cap] w fun e w' => e = .returned (.tuple #[]) ∧ PairsAt w' ao n cap l.reverse ∧ Below base w w' ∧ BlockKeep ao w w' := by
  rcases Nat.eq_zero_or_pos n with h0 | h0
  · subst h0
    have e1 : l = [] := List.length_eq_zero_iff.1 hl
    subst e1
    have hat : PairsAt w ao 0 cap [] := by obtain ⟨xo, dap, e, hat⟩ := pairs_own h rfl; cases e; exact hat
    refine (AnyQ.slices_Reverse_empty Tryz.layE35 ao cap w).mono fun e w' k => ?_
    obtain ⟨he, rfl⟩ := k
    exact ⟨he, hat, Below.refl _ _, Nat.le_refl _, fun _ _ _ => rfl⟩
  · have hcap : 0 < cap := by have := own_fit h; omega
    obtain ⟨g, rfl⟩ := own_some h hcap
    obtain ⟨hbg, hgw, hnc, hcm, _, _, _⟩ := own_heap h
    have hsz : l.toArray.size = n := by simpa using hl
    have hcon := AnyQ.slices_Reverse Tryz.layE35 2 Tryz.isAgg131 Tryz.sizeOf131 encP (fun _ => rfl) (fun x v hv => by simp [encP] at hv; rcases hv with rfl | rfl <;> rfl) g 0 cap l.toArray w (holds_pairs h hl) (by rw [hsz]; omega)
    rw [hsz] at hcon
    refine hcon.mono fun e w' k => ?_
    obtain ⟨he, q, rfl⟩ := k
    have hH := holdsK_putRowK (enc := encP) (k := 2) (Go.Sort.ahead w q) g 0 l.toArray l.toArray.reverse (holds_pairs h hl) (by simp)
    have hz : (putRowK encP 2 (Go.Sort.ahead w q) g 0 l.toArray.reverse).heap.size = w.heap.size := by show (w.heap.modify g _).size = _; simp
    have hoth : ∀ k, k ≠ g → (putRowK encP 2 (Go.Sort.ahead w q) g 0 l.toArray.reverse).heap[k]? = w.heap[k]? := fun k hk => by
      show (w.heap.modify g _)[k]? = _
      rw [Array.getElem?_modify, if_neg (fun e => hk e.symm)]
    have hat := pairs_holds hH (by rw [hz]; exact hgw) (show l.toArray.reverse.size ≤ cap by simp; omega) hcm
    have e1 : l.toArray.reverse.size = n := by simpa using hl
    have e2 : l.toArray.reverse.toList = l.reverse := by simp
    rw [e1, e2] at hat
    refine ⟨he, hat, ⟨rfl, rfl, rfl, by rw [hz]; exact Nat.le_refl _, fun k hk => hoth k (by omega)⟩, by rw [hz]; exact Nat.le_refl _, fun k _ hk => hoth k (hk g rfl)⟩

theorem cmpL_step (l q : List Pr) (k : Nat) (h1 : k < l.length) (h2 : k < q.length) : cmpL (l.drop k) (q.drop k) = if cmpP (prAt l k) (prAt q k) = 0 then cmpL (l.drop (k + 1)) (q.drop (k + 1)) else cmpP (prAt l k) (prAt q k) := by
  have hd : ∀ (x : List Pr), k < x.length → x.drop k = prAt x k :: x.drop (k + 1) := fun x hx => by
    unfold prAt; rw [List.getD_eq_getElem?_getD, List.getElem?_eq_getElem hx]; exact List.drop_eq_getElem_cons hx
  rw [hd l h1, hd q h2]; rfl
theorem cmpL_left (l q : List Pr) (k : Nat) (h1 : k < l.length) (h2 : q.length ≤ k) : cmpL (l.drop k) (q.drop k) = 1 := by
  rw [List.drop_eq_nil_of_le h2, List.drop_eq_getElem_cons h1]; rfl
theorem cmpL_right (l q : List Pr) (k : Nat) (h1 : l.length ≤ k) : cmpL (l.drop k) (q.drop k) = if k < q.length then -1 else 0 := by
  rw [List.drop_eq_nil_of_le h1]
  by_cases h2 : k < q.length
  · rw [if_pos h2, List.drop_eq_getElem_cons h2]; rfl
  · rw [if_neg h2, List.drop_eq_nil_of_le (by omega)]; rfl

set_option maxRecDepth 100000 in
set_option maxHeartbeats 4000000 in
theorem compareFunc_s (ao bo : Option Addr) (n cap m dap : Nat) (l q : List Pr) (w : World) (hl : PairsAt w ao n cap l) (hq : PairsAt w bo m dap q) (hn : n ≤ 1000) (hm : m ≤ 1000) :
    Calls Tryz.prog 133 #[.slice ao n cap, .slice bo m dap, .func (.func 134) #[] #[]] w fun e w' => e = .returned (.int .i64 (cmpL l q)) ∧ Below w.heap.size w w' := by
  have HA := Lib.hid hl
  have HQ := Lib.hid hq
  have hl1 := hl.1
  have hq1 := hq.1
  have hl2 : n = l.length := hl1.symm
  have hq2 : m = q.length := hq1.symm
  clear hl hq hl1 hq1
  subst hl2 hq2
  go_enter Tryz.func133, Tryz.ntmps133
  go_wp2
  go_loopw [13] (fun i wr => ∃ k : Nat, k ≤ l.length ∧ k ≤ q.length ∧ i = .int .i64 k ∧ Hid (cmpL l q = cmpL (l.drop k) (q.drop k)) ∧ Below w.heap.size w wr) (fun i _ => l.length - (intOf i).toNat)
  case atStart => exact ⟨0, Nat.zero_le _, Nat.zero_le _, rfl, Lib.hid rfl, Below.refl _ _⟩
  case round =>
    obtain ⟨k, hk, hkq, rfl, HC, hbel⟩ := hrel
    by_cases hlt : k < l.length
    · obtain ⟨b, off, rfl, hs⟩ := HA.out.2.2.2 (by omega)
      obtain ⟨hc1, hc2⟩ := (hs.below hbel hs.1).2 k hlt
      obtain ⟨⟨p1, p2⟩, hpe⟩ : ∃ p, p = prAt l k := ⟨_, rfl⟩
      by_cases hltq : k < q.length
      · obtain ⟨b2, off2, rfl, hs2⟩ := HQ.out.2.2.2 (by omega)
        have HST := Lib.hid (cmpL_step l q k hlt hltq)
        obtain ⟨⟨q1, q2⟩, hqe⟩ : ∃ p, p = prAt q k := ⟨_, rfl⟩
        rw [← hpe, ← hqe] at HST
        rw [← hpe] at hc1 hc2
        have hbx := below_new (w := wr) (.cells #[.string p1, .string p2] 131)
        obtain ⟨hd1, hd2⟩ := (hs2.below (hbel.trans (hbx.mono hbel.size)) hs2.1).2 k hltq
        rw [← hqe] at hd1 hd2
        simp only [] at hc1 hc2 hd1 hd2
        have X1 := (pbox_new wr (p1, p2)).alloc (.cells #[.string q1, .string q2] 131)
        have X2 := pbox_new (wr.alloc (.cells #[.string p1, .string p2] 131)) (q1, q2)
        obtain ⟨x0, x1⟩ := X1.cells
        obtain ⟨y0, y1⟩ := X2.cells
        rw [World.size_alloc] at y0 y1
        have L1 := below_next (hbx) (below_new (.cells #[.string q1, .string q2] 131))
        have HL1 := Lib.hid (hbel.trans (L1.mono hbel.size))
        have hd : decide ((q.length : Int) ≤ (k : Int)) = false := decide_eq_false (by omega)
        clear hs hs2 hpe hqe hbx X1 X2 L1
        go_wp2_with fail
        refine (comparePairs_s (p1, p2) (q1, q2) _).mono ?_
        rintro e w2 ⟨rfl, hb2⟩
        have HL2 := Lib.hid (HL1.out.trans (hb2.mono HL1.out.size))
        generalize hcv : cmpP (p1, p2) (q1, q2) = c at HST ⊢
        clear hc1 hc2 hd1 hd2 x0 x1 y0 y1 hb2
        by_cases h0 : c = 0
        · rw [if_pos h0] at HST
          have q0 : (c != 0) = false := by rw [h0]; rfl
          have HN := Lib.hid (show cmpL l q = cmpL (l.drop (k + 1)) (q.drop (k + 1)) by rw [HC.out, HST.out])
          clear h0 hcv
          go_wp2
          go_roundw
          case rel => exact ⟨k + 1, by omega, by omega, by go_num, HN, HL2.out⟩
          case measure => simp [intOf]; omega
        · rw [if_neg h0] at HST
          have q0 : (c != 0) = true := by simpa using h0
          have HN := Lib.hid (show cmpL l q = c by rw [HC.out, HST.out])
          clear h0 hcv
          go_wp2
          go_ret
          exact ⟨by rw [HN.out]; rfl, HL2.out⟩
      · have HN := Lib.hid (show cmpL l q = 1 by rw [HC.out, cmpL_left l q k hlt (by omega)])
        have hd : decide ((q.length : Int) ≤ (k : Int)) = true := decide_eq_true (by omega)
        rw [← hpe] at hc1 hc2
        simp only [] at hc1 hc2
        clear hs hpe
        have HL1 := Lib.hid (hbel.trans ((below_new (w := wr) (.cells #[.string p1, .string p2] 131)).mono hbel.size))
        go_wp2
        go_ret
        exact ⟨by rw [HN.out]; rfl, HL1.out⟩
    · have HN := Lib.hid (show cmpL l q = if l.length < q.length then -1 else 0 by rw [HC.out, cmpL_right l q k (by omega), show k = l.length by omega])
      by_cases hltq : l.length < q.length
      · rw [if_pos hltq] at HN
        have hd : decide ((l.length : Int) < (q.length : Int)) = true := decide_eq_true (by omega)
        go_wp2
        go_ret
        exact ⟨by rw [HN.out]; rfl, hbel⟩
      · rw [if_neg hltq] at HN
        have hd : decide ((l.length : Int) < (q.length : Int)) = false := decide_eq_false (by omega)
        go_wp2
        go_ret
        exact ⟨by rw [HN.out]; rfl, hbel⟩

end Nam
end Go.Proofs.YtclfjdnemafmeaaGreatDoor
end

section
/-
  Contracts of Compare in the program and in the specification. Condition: at most 1000000 bytes.
-/
set_option maxRecDepth 100000
set_option linter.unusedVariables false
set_option linter.unusedSimpArgs false
set_option linter.unnecessarySimpa false
namespace Go.Proofs.YtclfjdnemafmeaaGreatDoor
namespace Nam
open Go.RowKit Go.PlainAid

theorem own_keep {w w' : World} {base n size : Nat} {e : TypeId} {v : Value} {xs : List Value} {ao : Option Addr} (h : w.ownsRow base e size v n xs) (hk : BlockKeep ao w w') (hd : ∀ g, ao = some ⟨g, 0, none⟩ → g < base) : w'.ownsRow base e size v n xs := by
  refine ⟨h.1, ?_⟩
  rcases h.2 with h2 | ⟨g, cap, cur, h2, h3, h4, h5⟩
  · exact .inl h2
  · refine .inr ⟨g, cap, cur, h2, h3, ?_, h5⟩
    rw [hk.2 g (by
      rcases Nat.lt_or_ge g w.heap.size with h' | h'
      · exact h'
      · simp [Array.getElem?_eq_none h'] at h4) (fun g' e => by have := hd g' e; omega)]
    exact h4
theorem pairs_keep {w w' : World} {B n cap : Nat} {ao : Option Addr} {l : List Pr} (h : PairsAt w ao n cap l) (hb : Below B w w') (hd : ∀ g off, ao = some ⟨g, off, none⟩ → g < B) : PairsAt w' ao n cap l :=
  ⟨h.1, h.2.1, h.2.2.1, fun hn => by
    obtain ⟨b, off, e, hi⟩ := h.2.2.2 hn
    exact ⟨b, off, e, hi.below hb (hd b off e)⟩⟩

set_option maxRecDepth 100000 in
set_option maxHeartbeats 4000000 in
theorem compare_s (a b : ByteArray) (w : World) (ha : a.size ≤ 1000000) (hb : b.size ≤ 1000000) :
    Calls Tryz.prog 96 #[.string a, .string b] w fun e w' => e = .returned (.int .i64 (cmpN a b)) ∧ Below w.heap.size w w' := by
  have h8 := compsV_few a
  have h9 := compsV_few b
  have HN := Lib.hid (show cmpN a b = if normB a then (if normB b then cmpL (compsV a).reverse (compsV b).reverse else -1) else (if normB b then 1 else cmpS a b) from rfl)
  go_enter Tryz.func96, Tryz.ntmps96
  go_wp2_with fail
  refine (components_s a _ ha).mono ?_
  rintro e w1 ⟨v, rfl, hown, hb1⟩
  obtain ⟨ao, cap, rfl⟩ := own_slice hown
  go_wp2_with fail
  refine (components_s b _ hb).mono ?_
  rintro e w2 ⟨v, rfl, hown2, hb2⟩
  obtain ⟨bo, dap, rfl⟩ := own_slice hown2
  have L2 := below_next hb1 hb2
  have hal : ∀ g, ao = some ⟨g, 0, none⟩ → g < w1.heap.size := fun g e => by subst e; exact (hown.lt g rfl).2
  have HO := Lib.hid (own_below hown hb2)
  have HO2 := Lib.hid hown2
  have HP := Lib.hid (own_plain hown)
  have HAL := Lib.hid hal
  have HB1 := Lib.hid hb1
  clear hown hown2 hal
  obtain ⟨l, hl⟩ : ∃ l, compsV a = l := ⟨_, rfl⟩
  obtain ⟨m, hm⟩ : ∃ m, compsV b = m := ⟨_, rfl⟩
  rw [hl] at h8 HN HO ⊢
  rw [hm] at h9 HN HO2 ⊢
  clear hl hm
  cases c1 : normB a
  · cases c2 : normB b
    · rw [c1, c2] at HN
      have HF := Lib.hid (show cmpN a b = cmpS a b from HN.out)
      clear c1 c2
      go_wp2_with (go_at_call 97; refine (compare_lib a b _).mono ?_; rintro e w' ⟨rfl, rfl⟩)
      go_ret
      exact ⟨by rw [HF.out]; rfl, L2⟩
    · rw [c1, c2] at HN
      have HF := Lib.hid (show cmpN a b = 1 from HN.out)
      clear c1 c2
      go_wp2
      go_ret
      exact ⟨by rw [HF.out]; rfl, L2⟩
  · cases c2 : normB b
    · rw [c1, c2] at HN
      have HF := Lib.hid (show cmpN a b = -1 from HN.out)
      clear c1 c2
      go_wp2
      go_ret
      exact ⟨by rw [HF.out]; rfl, L2⟩
    · rw [c1, c2] at HN
      have HF := Lib.hid (show cmpN a b = cmpL l.reverse m.reverse from HN.out)
      clear c1 c2
      go_wp2_with fail
      refine (reverse_s _ _ _ cap ao l HO.out rfl (by omega)).mono ?_
      rintro e w3 ⟨rfl, hat3, hb3, hk3⟩
      have HO3 := Lib.hid (own_keep HO2.out hk3 HAL.out)
      have L3 := L2.trans hb3
      have HA3 := Lib.hid hat3
      clear hat3 hk3 hb3
      go_wp2_with fail
      refine (reverse_s _ _ _ dap bo m HO3.out rfl (by omega)).mono ?_
      rintro e w4 ⟨rfl, hat4, hb4, hk4⟩
      have HA4 := Lib.hid (pairs_keep HA3.out hb4 (fun g off e => by
        rcases Nat.eq_zero_or_pos cap with hc | hc
        · have := HO.out.2
          rcases this with ⟨h, _⟩ | ⟨g2, c2, cur, h, h3, h4, h5, h6, h7, h8⟩
          · injection h with q; subst q; cases e
          · injection h with q1 q2 q3; subst q1; cases e; exact HAL.out _ rfl
        · obtain ⟨g2, rfl⟩ := own_some HO.out hc
          cases e; exact HAL.out _ rfl))
      have HB4 := Lib.hid hat4
      have L4 := L3.trans (hb4.mono HB1.out.size)
      clear hat4 hk4 hb4
      go_wp2_with fail
      refine (compareFunc_s ao bo _ cap _ dap l.reverse m.reverse _ HA4.out HB4.out (by omega) (by omega)).mono ?_
      rintro e w5 ⟨rfl, hb5⟩
      go_wp2
      go_ret
      exact ⟨by rw [HF.out]; rfl, below_next L4 hb5⟩

theorem prAt_rev (l : List Pr) (k : Nat) (h : k < l.length) : prAt l.reverse k = prAt l (l.length - 1 - k) := by
  unfold prAt; rw [List.getD_eq_getElem?_getD, List.getD_eq_getElem?_getD, List.getElem?_reverse h]

set_option maxRecDepth 100000 in
set_option maxHeartbeats 8000000 in
theorem rcompare_s (a b : ByteArray) (w : World) (ha : a.size ≤ 1000000) (hb : b.size ≤ 1000000) :
    Calls Tryz.prog 58 #[.string a, .string b] w fun e w' => e = .returned (.int .i64 (cmpN a b)) ∧ Below w.heap.size w w' := by
  have h8 := compsV_few a
  have h9 := compsV_few b
  have HN := Lib.hid (show cmpN a b = if normB a then (if normB b then cmpL (compsV a).reverse (compsV b).reverse else -1) else (if normB b then 1 else cmpS a b) from rfl)
  go_enter Tryz.func58, Tryz.ntmps58
  go_wp2_with fail
  refine (rparts_s a _ ha).mono ?_
  rintro e w1 ⟨v, rfl, hown, hb1⟩
  obtain ⟨ao, cap, rfl, hat⟩ := pairs_own hown rfl
  go_wp2_with fail
  refine (rparts_s b _ hb).mono ?_
  rintro e w2 ⟨v, rfl, hown2, hb2⟩
  obtain ⟨bo, dap, rfl, hat2⟩ := pairs_own hown2 rfl
  have L2 := below_next hb1 hb2
  have HA := Lib.hid (hat.below hb2)
  have HQ := Lib.hid hat2
  clear hown hown2 hat hat2 hb1 hb2
  obtain ⟨l, hl⟩ : ∃ l, compsV a = l := ⟨_, rfl⟩
  obtain ⟨m, hm⟩ : ∃ m, compsV b = m := ⟨_, rfl⟩
  rw [hl] at h8 HN HA ⊢
  rw [hm] at h9 HN HQ ⊢
  clear hl hm
  cases c1 : normB a
  · cases c2 : normB b
    · rw [c1, c2] at HN
      have HF := Lib.hid (show cmpN a b = cmpS a b from HN.out)
      clear c1 c2
      go_wp2_with (go_at_call 99; refine (bytes_s a b _).mono ?_; rintro e w' ⟨rfl, rfl⟩)
      go_ret
      exact ⟨by rw [HF.out]; rfl, L2⟩
    · rw [c1, c2] at HN
      have HF := Lib.hid (show cmpN a b = 1 from HN.out)
      clear c1 c2
      go_wp2
      go_ret
      exact ⟨by rw [HF.out]; rfl, L2⟩
  · cases c2 : normB b
    · rw [c1, c2] at HN
      have HF := Lib.hid (show cmpN a b = -1 from HN.out)
      clear c1 c2
      go_wp2
      go_ret
      exact ⟨by rw [HF.out]; rfl, L2⟩
    · rw [c1, c2] at HN
      have HF := Lib.hid (show cmpN a b = cmpL l.reverse m.reverse from HN.out)
      clear c1 c2
      go_wp2
      go_loopw [9] (fun i wr => ∃ k : Nat, k ≤ l.length ∧ k ≤ m.length ∧ i = .int .i64 ((k + 1 : Nat) : Int) ∧ Hid (cmpL l.reverse m.reverse = cmpL (l.reverse.drop k) (m.reverse.drop k)) ∧ Below w2.heap.size w2 wr) (fun i _ => l.length + 1 - (intOf i).toNat)
      case atStart => exact ⟨0, Nat.zero_le _, Nat.zero_le _, rfl, Lib.hid rfl, Below.refl _ _⟩
      case round =>
        obtain ⟨k, hk, hkm, rfl, HC, hbel⟩ := hrel
        by_cases hlt : k < l.length
        · have d1 : decide (((k + 1 : Nat) : Int) ≤ (l.length : Int)) = true := decide_eq_true (by omega)
          by_cases hltm : k < m.length
          · have d2 : decide (((k + 1 : Nat) : Int) ≤ (m.length : Int)) = true := decide_eq_true (by omega)
            obtain ⟨i, hi⟩ : ∃ i, l.length - 1 - k = i := ⟨_, rfl⟩
            obtain ⟨j, hj⟩ : ∃ j, m.length - 1 - k = j := ⟨_, rfl⟩
            have HST := Lib.hid (cmpL_step l.reverse m.reverse k (by simp; omega) (by simp; omega))
            rw [prAt_rev l k hlt, prAt_rev m k hltm, hi, hj] at HST
            obtain ⟨b1, off, rfl, hs⟩ := HA.out.2.2.2 (by omega)
            obtain ⟨b2, off2, rfl, hs2⟩ := HQ.out.2.2.2 (by omega)
            obtain ⟨hc1, hc2⟩ := (hs.below hbel hs.1).2 i (by omega)
            obtain ⟨hd1, hd2⟩ := (hs2.below hbel hs2.1).2 j (by omega)
            obtain ⟨⟨p1, p2⟩, hpe⟩ : ∃ p, p = prAt l i := ⟨_, rfl⟩
            obtain ⟨⟨q1, q2⟩, hqe⟩ : ∃ p, p = prAt m j := ⟨_, rfl⟩
            rw [← hpe, ← hqe] at HST
            rw [← hpe] at hc1 hc2
            rw [← hqe] at hd1 hd2
            simp only [] at hc1 hc2 hd1 hd2
            have e1 : IntKind.i64.wrap ((l.length : Int) - ((k : Int) + 1)) = (i : Int) := by rw [IntWalk.i64_in _ (by omega)]; omega
            have e2 : IntKind.i64.wrap ((m.length : Int) - ((k : Int) + 1)) = (j : Int) := by rw [IntWalk.i64_in _ (by omega)]; omega
            have i1 : (0 : Int) ≤ (i : Int) := by omega
            have i2 : (i : Int) < (l.length : Int) := by omega
            have j1 : (0 : Int) ≤ (j : Int) := by omega
            have j2 : (j : Int) < (m.length : Int) := by omega
            have HM := Lib.hid (show Below w2.heap.size w2 (((wr.alloc (.cells #[.string q1, .string q2] 131)).alloc (.cells #[.string p1, .string p2] 131)).drew) from (hbel.trans ((below_next (below_new _) (below_new _)).mono hbel.size)).drew)
            have HL := Lib.hid (show Below w2.heap.size w2 (((wr.alloc (.cells #[.string p1, .string p2] 131)).alloc (.cells #[.string q1, .string q2] 131)).drew) from (hbel.trans ((below_next (below_new _) (below_new _)).mono hbel.size)).drew)
            have hb1 : b1 < wr.heap.size := Nat.lt_of_lt_of_le hs.1 hbel.size
            have hb2 : b2 < wr.heap.size := Nat.lt_of_lt_of_le hs2.1 hbel.size
            have one : ∀ (o : Obj) (x : Addr) (v : Value), wr.cell? x = some v → (wr.alloc o).cell? x = some v := fun o x v h => Lib.cell?_alloc_some _ h
            have two : ∀ (o o' : Obj) (x : Addr) (v : Value), wr.cell? x = some v → ((wr.alloc o).alloc o').cell? x = some v := fun o o' x v h => Lib.cell?_alloc_some _ (one o x v h)
            have f1 := fun o => one o _ _ hc1
            have f2 := fun o => one o _ _ hc2
            have f3 := fun o => one o _ _ hd1
            have f4 := fun o => one o _ _ hd2
            have g1 := fun o o' => two o o' _ _ hc1
            have g2 := fun o o' => two o o' _ _ hc2
            have g3 := fun o o' => two o o' _ _ hd1
            have g4 := fun o o' => two o o' _ _ hd2
            clear one two
            clear hs hs2 hpe hqe
            have t1 := str_eq p1 q1
            have t2 := str_eq p2 q2
            have S := cmpS_ord
            by_cases u1 : p1 = q1
            · have z1 : cmpS p1 q1 = 0 := (S.zero _ _).2 u1
              by_cases u2 : p2 = q2
              · have z2 : cmpS p2 q2 = 0 := (S.zero _ _).2 u2
                have HV := Lib.hid (show cmpL l.reverse m.reverse = cmpL (l.reverse.drop (k + 1)) (m.reverse.drop (k + 1)) by
                  rw [HC.out, HST.out, if_pos (by unfold cmpP; simp only []; rw [if_pos z1]; exact z2)])
                rw [decide_eq_true u1] at t1
                rw [decide_eq_true u2] at t2
                have t1n : (p1.toList != q1.toList) = false := by unfold bne; rw [t1]; rfl
                have t2n : (p2.toList != q2.toList) = false := by unfold bne; rw [t2]; rfl
                clear u1 u2 S z1 z2
                go_wp2_with fail
                go_region
                all_goals
                  go_wp2
                  go_roundw
                  case rel => exact ⟨k + 1, by omega, by omega, by go_num, HV, (by first | exact HL.out | exact HM.out)⟩
                  case measure => simp [intOf]; omega
              · have z2 : cmpS p2 q2 ≠ 0 := fun e => u2 ((S.zero _ _).1 e)
                have HV := Lib.hid (show cmpN a b = cmpS p2 q2 by
                  rw [HF.out, HC.out, HST.out, if_neg (by unfold cmpP; simp only []; rw [if_pos z1]; exact z2)]
                  unfold cmpP; simp only []; rw [if_pos z1])
                rw [decide_eq_true u1] at t1
                rw [decide_eq_false u2] at t2
                have t1n : (p1.toList != q1.toList) = false := by unfold bne; rw [t1]; rfl
                have t2n : (p2.toList != q2.toList) = true := by unfold bne; rw [t2]; rfl
                clear u1 u2 S z1 z2
                go_wp2_with fail
                go_region
                all_goals
                  go_wp2_with (go_at_call 99; refine (bytes_s p2 q2 _).mono ?_; rintro e w' ⟨rfl, rfl⟩)
                  go_ret
                  exact ⟨by rw [HV.out]; rfl, below_next L2 (by first | exact HL.out | exact HM.out)⟩
            · have z1 : cmpS p1 q1 ≠ 0 := fun e => u1 ((S.zero _ _).1 e)
              have HV := Lib.hid (show cmpN a b = cmpS p1 q1 by
                rw [HF.out, HC.out, HST.out, if_neg (by unfold cmpP; simp only []; rw [if_neg z1]; exact z1)]
                unfold cmpP; simp only []; rw [if_neg z1])
              rw [decide_eq_false u1] at t1
              have t1n : (p1.toList != q1.toList) = true := by unfold bne; rw [t1]; rfl
              clear u1 S z1 t2
              go_wp2_with fail
              go_region
              all_goals
                go_wp2_with (go_at_call 99; refine (bytes_s p1 q1 _).mono ?_; rintro e w' ⟨rfl, rfl⟩)
                go_ret
                exact ⟨by rw [HV.out]; rfl, below_next L2 (by first | exact HL.out | exact HM.out)⟩
          · have HV := Lib.hid (show cmpN a b = 1 by rw [HF.out, HC.out, cmpL_left _ _ k (by simp; omega) (by simp; omega)])
            have d2 : decide (((k + 1 : Nat) : Int) ≤ (m.length : Int)) = false := decide_eq_false (by omega)
            have d3 : decide ((l.length : Int) < (m.length : Int)) = false := decide_eq_false (by omega)
            have d4 : decide ((m.length : Int) < (l.length : Int)) = true := decide_eq_true (by omega)
            go_wp2
            go_ret
            exact ⟨by rw [HV.out]; rfl, below_next L2 hbel⟩
        · have d1 : decide (((k + 1 : Nat) : Int) ≤ (l.length : Int)) = false := decide_eq_false (by omega)
          have d4 : decide ((m.length : Int) < (l.length : Int)) = false := decide_eq_false (by omega)
          have HV0 := Lib.hid (show cmpN a b = if k < m.reverse.length then -1 else 0 by rw [HF.out, HC.out, cmpL_right _ _ k (by simp; omega)])
          rw [List.length_reverse] at HV0
          by_cases hltm : l.length < m.length
          · have HV := Lib.hid (show cmpN a b = -1 by rw [HV0.out, if_pos (by omega)])
            have d3 : decide ((l.length : Int) < (m.length : Int)) = true := decide_eq_true (by omega)
            clear HV0
            go_wp2
            go_ret
            exact ⟨by rw [HV.out]; rfl, below_next L2 hbel⟩
          · have HV := Lib.hid (show cmpN a b = 0 by rw [HV0.out, if_neg (by omega)])
            have d3 : decide ((l.length : Int) < (m.length : Int)) = false := decide_eq_false (by omega)
            clear HV0
            go_wp2
            go_ret
            exact ⟨by rw [HV.out]; rfl, below_next L2 hbel⟩

end Nam
end Go.Proofs.YtclfjdnemafmeaaGreatDoor
end

section
/-
  Slices of strings that the call has made or that came in, and the contract of the specification's Same. No condition beyond sizes.
-/
set_option maxRecDepth 100000
set_option linter.unusedVariables false
set_option linter.unusedSimpArgs false
set_option linter.unnecessarySimpa false
namespace Go.Proofs.YtclfjdnemafmeaaGreatDoor
open Go.RowKit Go.PlainAid



set_option maxRecDepth 100000 in
set_option maxHeartbeats 2000000 in
theorem lists_s (ao bo : Option Addr) (n m cap dap : Nat) (ps qs : List ByteArray) (w : World) (h : StrsAt w ao n cap ps) (k : StrsAt w bo m dap qs) :
    Calls Tryz.prog 17 #[.slice ao n cap, .slice bo m dap] w fun e w' => e = .returned (.bool (decide (ps = qs))) ∧ Below w.heap.size w w' := by
  obtain ⟨h1, h2, h3, h4⟩ := h
  obtain ⟨k1, k2, k3, k4⟩ := k
  subst h1
  subst k1
  unfold maxLen at h3 k3
  have H4 := Lib.hid h4; clear h4
  have K4 := Lib.hid k4; clear k4
  by_cases hne : ps.length = qs.length
  · have hn1 : ((ps.length : Int) != (qs.length : Int)) = false := by simp; omega
    go_enter Tryz.func17, Tryz.ntmps17
    go_wp2
    go_loopw [5] (fun i wr => ∃ k : Nat, k ≤ ps.length ∧ i = .int .i64 k ∧ Hid (∀ j, j < k → partAt ps j = partAt qs j) ∧ Below w.heap.size w wr) (fun i _ => ps.length - (intOf i).toNat)
    case atStart => exact ⟨0, Nat.zero_le _, rfl, Lib.hid (fun j hj => absurd hj (Nat.not_lt_zero _)), Below.refl _ _⟩
    case round =>
      obtain ⟨k, hk, rfl, HA, hbel⟩ := hrel
      by_cases hlt : k < ps.length
      · obtain ⟨b, off, rfl, hs⟩ := H4.out (by omega)
        obtain ⟨c, off2, rfl, hs2⟩ := K4.out (by omega)
        have hcell := (hs.below hbel hs.1).2 k hlt
        have hcell2 := (hs2.below hbel hs2.1).2 k (by omega)
        clear hs hs2
        obtain ⟨p, hpe⟩ : ∃ p, p = partAt ps k := ⟨_, rfl⟩
        obtain ⟨q, hqe⟩ : ∃ q, q = partAt qs k := ⟨_, rfl⟩
        rw [← hpe] at hcell
        rw [← hqe] at hcell2
        have HP := Lib.hid hpe; clear hpe
        have HQ := Lib.hid hqe; clear hqe
        have k1 : (0 : Int) ≤ (k : Int) := by omega
        have k2 : (k : Int) < (ps.length : Int) := by omega
        have k3 : (k : Int) < (qs.length : Int) := by omega
        by_cases hpq : p = q
        · have hq : (p.toList == q.toList) = true := by rw [hpq]; exact beq_self_eq_true _
          have HPQ := Lib.hid hpq; clear hpq
          go_wp2_with fail
          go_region_held3 (fun w' => w'.cell? ⟨b, off + k, none⟩ = some (.string p) ∧ w'.cell? ⟨c, off2 + k, none⟩ = some (.string q)) (go_keep) (fail)
          go_wp2
          go_roundw
          case rel =>
            refine ⟨k + 1, by omega, by go_num, Lib.hid fun j hj => ?_, hbel.drew⟩
            by_cases e : j = k
            · rw [e, ← HP.out, ← HQ.out, HPQ.out]
            · exact HA.out j (by omega)
          case measure => simp [intOf]; omega
        · have HE := Lib.hid (show decide (ps = qs) = false from decide_eq_false fun e => hpq (by rw [HP.out, HQ.out, e]))
          have hq : (p.toList == q.toList) = false := by
            rw [Lib.toList_data, Lib.toList_data]
            exact beq_false_of_ne fun e => hpq (by rw [← Lib.mk_data p, ← Lib.mk_data q, e])
          clear hpq
          go_wp2_with fail
          go_region_held3 (fun w' => w'.cell? ⟨b, off + k, none⟩ = some (.string p) ∧ w'.cell? ⟨c, off2 + k, none⟩ = some (.string q)) (go_keep) (fail)
          go_wp2
          go_ret
          exact ⟨by rw [HE.out]; rfl, hbel.drew⟩
      · have HE := Lib.hid (show decide (ps = qs) = true from decide_eq_true (strs_ext hne fun j hj => HA.out j (by omega)))
        go_wp2
        go_ret
        exact ⟨by rw [HE.out]; rfl, hbel⟩
  · have HE := Lib.hid (show decide (ps = qs) = false from decide_eq_false fun e => hne (by rw [e]))
    have hn1 : ((ps.length : Int) != (qs.length : Int)) = true := by simp; omega
    go_enter Tryz.func17, Tryz.ntmps17
    go_wp2
    go_ret
    exact ⟨by rw [HE.out]; rfl, Below.refl _ _⟩


end Go.Proofs.YtclfjdnemafmeaaGreatDoor
end
