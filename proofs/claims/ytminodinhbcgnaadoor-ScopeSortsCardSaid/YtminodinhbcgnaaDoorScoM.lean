/-
  Maps keyed by strings in memory, ranges over them; what a scope's list lies as. No condition.
-/
import Derived.Test.YtminodinhbcgnaaDoorScoL
import Derived.Test.YtminodinhbcgnaaDoorKbC
import Derived.Maps.OwnSet
import Derived.Maps.RangeWalk
import Derived.Laws.NewBlocks
import Derived.ArgAppend
import Derived.Deep.Upon
import Derived.Deep.RegionHeld3
set_option maxRecDepth 100000
set_option linter.unusedVariables false
set_option linter.unusedSimpArgs false
set_option linter.unnecessarySimpa false
namespace Go.Proofs.YtminodinhbcgnaaDoor
open Go.RowKit Go.PlainAid Go.Maps Go.ChangeMaps

/-! ### a map keyed by strings -/
def klit (k : ByteArray) : Lit := .string k.data.toList
theorem klit_one {a b : ByteArray} (h : klit a = klit b) : a = b := by
  unfold klit at h
  injection h with h
  cases a; cases b; simpa using h
theorem klit_key (k : ByteArray) (h : k.size ≤ maxLen) : keyOf Tryd.prog 9 (.string k) = some (klit k) := by
  simp [keyOf, Tryd.underlying9, mapKey, klit, h]
def rawE (v : Value) : Option (DataW Value × List MemPlace) := some (.held v, [])
/-- block g is a map of n entries that holds f k at the key k -/
def SMap (w : World) (g n : Nat) (f : ByteArray → Option Value) : Prop :=
  ∃ D, w.ownsMap Tryd.prog 9 rawE g n D ∧ Maps.size D = n ∧ ∀ k, Maps.has D (klit k) = (f k).isSome ∧ ∀ v, f k = some v → ∀ z, D.atKey (klit k) z = .held v
theorem smap_made (w : World) : SMap (w.alloc (.map #[] 0)) w.heap.size 0 fun _ => none :=
  ⟨.map [], World.ownsMap_made w _ _ _, rfl, fun k => ⟨rfl, fun v h => by cases h⟩⟩
theorem SMap.lt {w : World} {g n : Nat} {f : ByteArray → Option Value} (h : SMap w g n f) : g < w.heap.size := by
  obtain ⟨D, h, _⟩ := h; exact h.lt
theorem SMap.keep {w V : World} {g n : Nat} {f : ByteArray → Option Value} (h : SMap w g n f) (hb : V.heap[g]? = w.heap[g]?) : SMap V g n f := by
  obtain ⟨D, ⟨es, clock, he, h1, h2⟩, hf⟩ := h
  exact ⟨D, ⟨es, clock, by rw [hb]; exact he, h1, h2⟩, hf⟩
theorem SMap.fn {w : World} {g n : Nat} {f f' : ByteArray → Option Value} (h : SMap w g n f) (e : ∀ k, f' k = f k) : SMap w g n f' := by
  obtain ⟨D, h1, h2, h3⟩ := h
  exact ⟨D, h1, h2, fun k => by rw [e k]; exact h3 k⟩
theorem held_of {D : DataW Value} {kl : Lit} {z v : Value} {ps : List MemPlace} (hv : rawE v = some (D.atKey kl (.held z), ps)) : DataW.held v = D.atKey kl (.held z) := by
  unfold rawE at hv
  simp only [Option.some.injEq, Prod.mk.injEq] at hv
  exact hv.1
theorem SMap.at_ {D : DataW Value} {f : ByteArray → Option Value} {k : ByteArray} {z v : Value} (hf : Maps.has D (klit k) = (f k).isSome ∧ ∀ v, f k = some v → ∀ z, D.atKey (klit k) z = .held v) (hv2 : DataW.held v = D.atKey (klit k) (.held z)) : v = (f k).getD z := by
  cases hfk : f k with
  | none =>
    have h0 := hf.1
    rw [hfk] at h0
    rw [atKey_of_not_has h0] at hv2
    injection hv2
  | some u =>
    rw [hf.2 u hfk] at hv2
    injection hv2
theorem SMap.look_ok {w : World} {g n : Nat} {f : ByteArray → Option Value} {t e : TypeId} {z : Value} (h : SMap w g n f) (ht : Tryd.prog.underlying t = some (.map 9 e)) (hz : (zeroValue e).run Tryd.prog w = .ok z w) (k : ByteArray) (hk : k.size ≤ maxLen) :
    (Instr.lookup t (.map (some g)) (.string k) true).run Tryd.prog w = .ok (.tuple #[(f k).getD z, .bool (f k).isSome]) w := by
  obtain ⟨D, hm, _, hf⟩ := h
  obtain ⟨v, ps, hrun, hv⟩ := hm.look_ok (string_keyed Tryd.underlying9) ht hz (zd := .held z) rfl (klit_key k hk)
  rw [hrun, (hf k).1, SMap.at_ (hf k) (held_of hv)]
theorem SMap.look {w : World} {g n : Nat} {f : ByteArray → Option Value} {t e : TypeId} {z : Value} (h : SMap w g n f) (ht : Tryd.prog.underlying t = some (.map 9 e)) (hz : (zeroValue e).run Tryd.prog w = .ok z w) (k : ByteArray) (hk : k.size ≤ maxLen) :
    (Instr.lookup t (.map (some g)) (.string k) false).run Tryd.prog w = .ok ((f k).getD z) w := by
  obtain ⟨D, hm, _, hf⟩ := h
  obtain ⟨v, ps, hrun, hv⟩ := hm.lookup (string_keyed Tryd.underlying9) ht hz (zd := .held z) rfl (klit_key k hk)
  rw [hrun, SMap.at_ (hf k) (held_of hv)]
theorem SMap.len {w : World} {g n : Nat} {f : ByteArray → Option Value} {t e : TypeId} (h : SMap w g n f) (ht : Tryd.prog.underlying t = some (.map 9 e)) (ty : TypeId) : (Builtin.len_ #[t] ty #[.map (some g)]).run Tryd.prog w = .ok (.int .i64 n) w := by
  obtain ⟨D, hm, hs, _⟩ := h
  rw [← hs]; exact hm.len ht ty
theorem own_tight {w : World} {g n : Nat} {D : DataW Value} (h : w.ownsMap Tryd.prog 9 rawE g n D) : w.ownsMap Tryd.prog 9 rawE g (Maps.size D) D := by
  obtain ⟨es, clock, hb, F, hs, rfl⟩ := h
  refine ⟨es, clock, hb, F, ?_, rfl⟩
  have e1 : Maps.size (DataW.map ((es.toList.map (Go.WideElems.rg Tryd.prog 9 rawE)).foldr DataW.insert [])) = es.size := by simp [Maps.size, length_sorted]
  omega
def setO (f : ByteArray → Option Value) (k : ByteArray) (v : Value) (j : ByteArray) : Option Value := if j = k then some v else f j
def delO (f : ByteArray → Option Value) (k : ByteArray) (j : ByteArray) : Option Value := if j = k then none else f j
theorem SMap.store {w : World} {g n : Nat} {f : ByteArray → Option Value} {t e : TypeId} (h : SMap w g n f) (ht : Tryd.prog.underlying t = some (.map 9 e)) (hn : n < maxLen) (k : ByteArray) (hk : k.size ≤ maxLen) (v : Value) :
    ∃ w', (Instr.mapUpdate t (.map (some g)) (.string k) v).run Tryd.prog w = .ok () w' ∧ SMap w' g (if (f k).isSome then n else n + 1) (setO f k v) ∧ w.grownBy w' (some g) := by
  obtain ⟨D, hm, hs, hf⟩ := h
  obtain ⟨w', hrun, hm', hg⟩ := hm.update (string_keyed Tryd.underlying9) ht hn (klit_key k hk) (val := v) (d := .held v) (ps := []) rfl
  have hsz : Maps.size (D.put (klit k) (.held v)) = if (f k).isSome then n else n + 1 := by
    rw [size_put (hm.tidy (string_keyed Tryd.underlying9)), (hf k).1, hs]
  refine ⟨w', hrun, ⟨_, hsz ▸ own_tight hm', hsz, fun j => ?_⟩, hg⟩
  unfold setO
  by_cases e : j = k
  · subst e
    rw [if_pos rfl]
    refine ⟨has_put_same hm.isMap (by unfold klit; trivial) _, fun u hu z => ?_⟩
    obtain rfl := Option.some.inj hu
    exact atKey_put_same hm.isMap (by unfold klit; trivial) _ _
  · rw [if_neg e]
    have hne : klit j ≠ klit k := fun h => e (klit_one h)
    exact ⟨by rw [has_put_other hne]; exact (hf j).1, fun u hu z => by rw [atKey_put_other hne]; exact (hf j).2 u hu z⟩
theorem SMap.drop {w : World} {g n : Nat} {f : ByteArray → Option Value} {t e : TypeId} (h : SMap w g n f) (ht : Tryd.prog.underlying t = some (.map 9 e)) (k : ByteArray) (hk : k.size ≤ maxLen) (ty : TypeId) :
    ∃ w', (Builtin.delete_ #[t, 9] ty #[.map (some g), .string k]).run Tryd.prog w = .ok (.tuple #[]) w' ∧ SMap w' g (if (f k).isSome then n - 1 else n) (delO f k) ∧ w.grownBy w' (some g) := by
  obtain ⟨D, hm, hs, hf⟩ := h
  obtain ⟨w', hrun, hm', hg⟩ := hm.drop (string_keyed Tryd.underlying9) ht (klit_key k hk) ty
  have hsz : Maps.size (D.del (klit k)) = if (f k).isSome then n - 1 else n := by
    have := size_del (k := klit k) (hm.tidy (string_keyed Tryd.underlying9))
    rw [(hf k).1, hs] at this
    split at this <;> split <;> simp_all <;> omega
  refine ⟨w', hrun, ⟨_, hsz ▸ own_tight hm', hsz, fun j => ?_⟩, hg.grown⟩
  unfold delO
  by_cases e : j = k
  · subst e
    rw [if_pos rfl]
    exact ⟨has_del_same, fun u hu => by cases hu⟩
  · rw [if_neg e]
    have hne : klit j ≠ klit k := fun h => e (klit_one h)
    exact ⟨by rw [has_del_other hne]; exact (hf j).1, fun u hu z => by rw [atKey_del_other hne]; exact (hf j).2 u hu z⟩

theorem grown_refl (w : World) (r : Option Nat) : w.grownBy w r := ⟨rfl, rfl, rfl, Nat.le_refl _, fun _ _ _ => rfl⟩
theorem grown_below {w w' : World} (h : Below w.heap.size w w') (r : Option Nat) : w.grownBy w' r := ⟨h.os, h.tape, h.output, h.size, fun k hk _ => h.block k hk⟩
theorem grown_trans {w v u : World} {r : Option Nat} (h : w.grownBy v r) (k : v.grownBy u r) : w.grownBy u r :=
  ⟨k.os.trans h.os, k.tape.trans h.tape, k.output.trans h.output, Nat.le_trans h.size k.size, fun i hi hn => (k.block i (Nat.lt_of_lt_of_le hi h.size) hn).trans (h.block i hi hn)⟩

/-! ### the map while it is ranged over -/
/-- the loop is under way: the map holds f, 'left' says what is still to come -/
def SRange (w : World) (g r m n : Nat) (f : ByteArray → Option Value) (left : Lit → Bool) (cnt : Nat) : Prop :=
  ∃ D, w.ranges Tryd.prog 9 rawE g r m D left cnt ∧ Maps.size D = n ∧ ∀ k, Maps.has D (klit k) = (f k).isSome ∧ ∀ v, f k = some v → ∀ z, D.atKey (klit k) z = .held v
theorem SRange.done {w : World} {g r m n : Nat} {f : ByteArray → Option Value} {left : Lit → Bool} {cnt : Nat} (h : SRange w g r m n f left cnt) : SMap w g n f := by
  obtain ⟨D, h1, h2, h3⟩ := h
  exact ⟨D, h2 ▸ own_tight h1.owns, h2, h3⟩
theorem SRange.fn {w : World} {g r m n n' : Nat} {f f' : ByteArray → Option Value} {left : Lit → Bool} {cnt : Nat} (h : SRange w g r m n f left cnt) (hn : n = n') (e : ∀ k, f' k = f k) : SRange w g r m n' f' left cnt := by
  obtain ⟨D, h1, h2, h3⟩ := h
  exact ⟨D, h1, h2.trans hn, fun k => by rw [e k]; exact h3 k⟩
theorem key_string {key : Value} {kl : Lit} (h : keyOf Tryd.prog 9 key = some kl) : ∃ x : ByteArray, key = .string x := by
  cases key <;> simp [keyOf, Tryd.underlying9, mapKey] at h
  exact ⟨_, rfl⟩
theorem klit_of {x : ByteArray} {kl : Lit} (h : keyOf Tryd.prog 9 (.string x) = some kl) : kl = klit x := by
  simp [keyOf, Tryd.underlying9, mapKey] at h
  unfold klit
  exact h.2.symm
section
variable {w : World} {ops : Array Oper} {rest : List Oper} {o : Oper} {a : Act} {Q : Exit → Act → World → Prop}
theorem wpList_range_s (hg : o.guard = none) (m : Operand) (t : TypeId) (hop : o.op = Op.range t m) (e : TypeId) (ht : Tryd.prog.underlying t = some (.map 9 e)) (g n : Nat) (f : ByteArray → Option Value)
    (hm : a.eval m = .map (some g)) (hown : SMap w g n f)
    (hK : ∀ w' left, SRange w' g w.heap.size n n f left n → (∀ k, (f k).isSome = true → left (klit k) = true) → Below w.heap.size w w' → w'.heap.size = w.heap.size + 1 → wpList Tryd.prog ops Q rest (a.put o.dst (.pointer (some ⟨w.heap.size, 0, none⟩))) w') :
    wpList Tryd.prog ops Q (o :: rest) a w := by
  obtain ⟨D, h1, h2, h3⟩ := hown
  refine wpList_range_own w hg m t hop 9 e (string_keyed Tryd.underlying9) ht rawE g n D hm h1 fun w' r1 r2 r3 => ?_
  refine hK w' (Maps.has D) ⟨D, by rw [h2] at r1; exact r1, h2, h3⟩ (fun k hk => by rw [(h3 k).1]; exact hk) ⟨r2.os, r2.tape, r2.output, r2.size, fun k hk => r2.block k hk (by simp)⟩ r3
theorem wpList_next_s (hg : o.guard = none) (it : Operand) (hop : o.op = Op.next it false) (g r m n : Nat) (f : ByteArray → Option Value) (left : Lit → Bool) (cnt : Nat)
    (hit : a.eval it = .pointer (some ⟨r, 0, none⟩)) (h : SRange w g r m n f left cnt)
    (hDone : (∀ kl, left kl = false) → wpList Tryd.prog ops Q rest (a.put o.dst (.tuple #[.bool false])) w)
    (hMore : ∀ (x : ByteArray) (v : Value) (w' : World) (cnt' : Nat), x.size ≤ maxLen → left (klit x) = true → f x = some v → SRange w' g r m n f (fun z => left z && !z.sameKey (klit x)) cnt' → cnt' < cnt →
      w.grownBy w' (some r) → w'.heap.size = w.heap.size → (Instr.entry (.pointer (some ⟨r, 0, none⟩))).run Tryd.prog w' = .ok (.tuple #[.string x, v]) w' → wpList Tryd.prog ops Q rest (a.put o.dst (.tuple #[.bool true, .string x, v])) w') :
    wpList Tryd.prog ops Q (o :: rest) a w := by
  obtain ⟨D, h1, h2, h3⟩ := h
  refine wpList_next_ranges w hg it hop 9 (string_keyed Tryd.underlying9) rawE Value.string (fun v => v) (fun key kl hk => key_string hk) (fun v y _ => ⟨v, rfl⟩) g r m D left cnt hit h1 (fun _ hl => hDone hl) ?_
  intro x v kl y w' cnt' hk hl hv hat hr hlt hgr hsz hen
  obtain rfl := klit_of hk
  have hyv : y.1 = .held v := by
    unfold rawE at hv
    injection hv with hv
    rw [← hv]
  have hh : Maps.has D (klit x) = true := by
    cases q : Maps.has D (klit x) with
    | true => rfl
    | false =>
      exfalso
      have e1 := hat (.held (.bool true))
      have e2 := hat (.held (.bool false))
      rw [atKey_of_not_has q] at e1 e2
      rw [← e2] at e1
      cases e1
  have hs : (f x).isSome = true := by rw [← (h3 x).1]; exact hh
  obtain ⟨u, hu⟩ := Option.isSome_iff_exists.1 hs
  have hvu : u = v := by
    have e1 := (h3 x).2 u hu (.held v)
    rw [hat, hyv] at e1
    injection e1 with e1
    exact e1.symm
  subst hvu
  have hxs : x.size ≤ maxLen := by
    have := hk
    simp [keyOf, Tryd.underlying9, mapKey] at this
    exact this.1
  exact hMore x u w' cnt' hxs hl hu ⟨D, hr, h2, h3⟩ hlt hgr hsz hen
theorem wpList_drop_r (hg : o.guard = none) (mo x : Operand) {g r m n : Nat} {f : ByteArray → Option Value} {t e : TypeId} {left : Lit → Bool} {cnt : Nat} (k : ByteArray)
    (hop : o.op = Op.call { callee := Callee.builtin Builtin.delete, args := #[mo, x], argTypes := #[t, 9] })
    (h : SRange w g r m n f left cnt) (ht : Tryd.prog.underlying t = some (.map 9 e)) (hk : k.size ≤ maxLen) (hm : a.eval mo = .map (some g)) (hx : a.eval x = .string k)
    (hK : ∀ w' cnt', SRange w' g r m (if (f k).isSome then n - 1 else n) (delO f k) (fun z => left z && !z.sameKey (klit k)) cnt' → cnt' ≤ cnt → w.mapTurned w' g → wpList Tryd.prog ops Q rest (a.put o.dst (.tuple #[])) w') :
    wpList Tryd.prog ops Q (o :: rest) a w := by
  obtain ⟨D, h1, h2, hf⟩ := h
  refine wpList_delete_ranges w hg mo x t 9 hop e (string_keyed Tryd.underlying9) ht rawE g r m D left cnt hm h1 (.string k) (klit k) hx (klit_key k hk) fun w' cnt' r1 r2 r3 => ?_
  refine hK w' cnt' ⟨D.del (klit k), r1, ?_, fun j => ?_⟩ r2 r3
  · have := size_del (k := klit k) (h1.owns.tidy (string_keyed Tryd.underlying9))
    rw [(hf k).1, h2] at this
    split at this <;> split <;> simp_all <;> omega
  · unfold delO
    by_cases e : j = k
    · subst e
      rw [if_pos rfl]
      exact ⟨has_del_same, fun u hu => by cases hu⟩
    · rw [if_neg e]
      have hne : klit j ≠ klit k := fun h => e (klit_one h)
      exact ⟨by rw [has_del_other hne]; exact (hf j).1, fun u hu z => by rw [atKey_del_other hne]; exact (hf j).2 u hu z⟩
theorem wpList_store_s (hg : o.guard = none) (mo x y : Operand) {g n : Nat} {f : ByteArray → Option Value} {t e : TypeId} (k : ByteArray) (v : Value)
    (hop : o.op = Op.mapUpdate t mo x y)
    (h : SMap w g n f) (ht : Tryd.prog.underlying t = some (.map 9 e)) (hn : n < maxLen) (hk : k.size ≤ maxLen) (hm : a.eval mo = .map (some g)) (hx : a.eval x = .string k) (hy : a.eval y = v)
    (hK : ∀ w', SMap w' g (if (f k).isSome then n else n + 1) (setO f k v) → w.grownBy w' (some g) → wpList Tryd.prog ops Q rest (a.put o.dst undef) w') :
    wpList Tryd.prog ops Q (o :: rest) a w := by
  refine wpList_plain hg fun K' hK' => ?_
  obtain ⟨w', hrun, r1, r2⟩ := h.store ht hn k hk v
  unfold Oper.wp
  simp [execOp, hop, hm, hx, hy, hrun, Result.andThen]
  exact hK' _ _ (hK w' r1 r2)
theorem wpList_len_s (hg : o.guard = none) (m : Operand) {g n : Nat} {f : ByteArray → Option Value} {t e : TypeId}
    (hop : o.op = Op.call { callee := Callee.builtin Builtin.len, args := #[m], argTypes := #[t] })
    (h : SMap w g n f) (ht : Tryd.prog.underlying t = some (.map 9 e)) (hm : a.eval m = .map (some g))
    (hK : wpList Tryd.prog ops Q rest (a.put o.dst (.int .i64 n)) w) :
    wpList Tryd.prog ops Q (o :: rest) a w := by
  refine wpList_plain hg fun K' hK' => ?_
  have hrun := h.len ht o.type
  unfold Oper.wp
  simp [execOp, hop, resolve, invoke, builtin, hm, hrun, Result.andThen]
  exact hK' _ _ hK
end
theorem same_klit (a b : ByteArray) : (klit a).sameKey (klit b) = decide (a = b) := by
  unfold klit
  show (a.data.toList == b.data.toList) = _
  rw [Bool.eq_iff_iff, beq_iff_eq, decide_eq_true_eq]
  exact ⟨fun h => by cases a; cases b; simpa using h, fun h => by rw [h]⟩
theorem SRange.left_eq {w : World} {g r m n : Nat} {f : ByteArray → Option Value} {left : Lit → Bool} {cnt : Nat} (h : SRange w g r m n f left cnt) : w.rangeLeft g r = cnt := by
  obtain ⟨D, h1, _⟩ := h
  exact h1.left_eq
end Go.Proofs.YtminodinhbcgnaaDoor
