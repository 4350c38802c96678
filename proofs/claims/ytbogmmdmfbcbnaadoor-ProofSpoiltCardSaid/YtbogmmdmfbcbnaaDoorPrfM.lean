/-
  Maps as they lie in memory: keyed by strings, keyed by methods; the variables that the library reads. No condition.
-/
import Derived.Test.YtbogmmdmfbcbnaaDoorPrfA
import Derived.Maps.OwnSet
import Derived.Laws.NewBlocks
set_option maxRecDepth 100000
set_option linter.unusedVariables false
set_option linter.unusedSimpArgs false
set_option linter.unnecessarySimpa false
namespace Go.Proofs.YtbogmmdmfbcbnaaDoor
open Go.RowKit Go.PlainAid Go.Maps Go.ChangeMaps

/-! ### a map keyed by strings -/
def klit (k : ByteArray) : Lit := .string k.data.toList
theorem klit_one {a b : ByteArray} (h : klit a = klit b) : a = b := by
  unfold klit at h
  injection h with h
  cases a; cases b; simpa using h
theorem klit_key (k : ByteArray) (h : k.size ≤ maxLen) : keyOf Tryd.prog 9 (.string k) = some (klit k) := by
  simp [keyOf, Tryd.underlying9, mapKey, klit, h]
def rawE (v : Value) : Option (DataW Value × List MemPlace) := some (.held v, [])
/-- block g is a map of n entries that holds f k at the key k -/
def SMap (w : World) (g n : Nat) (f : ByteArray → Option Value) : Prop :=
  ∃ D, w.ownsMap Tryd.prog 9 rawE g n D ∧ Maps.size D = n ∧ ∀ k, Maps.has D (klit k) = (f k).isSome ∧ ∀ v, f k = some v → ∀ z, D.atKey (klit k) z = .held v
theorem smap_made (w : World) : SMap (w.alloc (.map #[] 0)) w.heap.size 0 fun _ => none :=
  ⟨.map [], World.ownsMap_made w _ _ _, rfl, fun k => ⟨rfl, fun v h => by cases h⟩⟩
theorem SMap.lt {w : World} {g n : Nat} {f : ByteArray → Option Value} (h : SMap w g n f) : g < w.heap.size := by
  obtain ⟨D, h, _⟩ := h; exact h.lt
theorem SMap.keep {w V : World} {g n : Nat} {f : ByteArray → Option Value} (h : SMap w g n f) (hb : V.heap[g]? = w.heap[g]?) : SMap V g n f := by
  obtain ⟨D, ⟨es, clock, he, h1, h2⟩, hf⟩ := h
  exact ⟨D, ⟨es, clock, by rw [hb]; exact he, h1, h2⟩, hf⟩
theorem SMap.fn {w : World} {g n : Nat} {f f' : ByteArray → Option Value} (h : SMap w g n f) (e : ∀ k, f' k = f k) : SMap w g n f' := by
  obtain ⟨D, h1, h2, h3⟩ := h
  exact ⟨D, h1, h2, fun k => by rw [e k]; exact h3 k⟩
theorem held_of {D : DataW Value} {kl : Lit} {z v : Value} {ps : List MemPlace} (hv : rawE v = some (D.atKey kl (.held z), ps)) : DataW.held v = D.atKey kl (.held z) := by
  unfold rawE at hv
  simp only [Option.some.injEq, Prod.mk.injEq] at hv
  exact hv.1
theorem SMap.at_ {D : DataW Value} {f : ByteArray → Option Value} {k : ByteArray} {z v : Value} (hf : Maps.has D (klit k) = (f k).isSome ∧ ∀ v, f k = some v → ∀ z, D.atKey (klit k) z = .held v) (hv2 : DataW.held v = D.atKey (klit k) (.held z)) : v = (f k).getD z := by
  cases hfk : f k with
  | none =>
    have h0 := hf.1
    rw [hfk] at h0
    rw [atKey_of_not_has h0] at hv2
    injection hv2
  | some u =>
    rw [hf.2 u hfk] at hv2
    injection hv2
theorem SMap.look_ok {w : World} {g n : Nat} {f : ByteArray → Option Value} {t e : TypeId} {z : Value} (h : SMap w g n f) (ht : Tryd.prog.underlying t = some (.map 9 e)) (hz : (zeroValue e).run Tryd.prog w = .ok z w) (k : ByteArray) (hk : k.size ≤ maxLen) :
    (Instr.lookup t (.map (some g)) (.string k) true).run Tryd.prog w = .ok (.tuple #[(f k).getD z, .bool (f k).isSome]) w := by
  obtain ⟨D, hm, _, hf⟩ := h
  obtain ⟨v, ps, hrun, hv⟩ := hm.look_ok (string_keyed Tryd.underlying9) ht hz (zd := .held z) rfl (klit_key k hk)
  rw [hrun, (hf k).1, SMap.at_ (hf k) (held_of hv)]
theorem SMap.look {w : World} {g n : Nat} {f : ByteArray → Option Value} {t e : TypeId} {z : Value} (h : SMap w g n f) (ht : Tryd.prog.underlying t = some (.map 9 e)) (hz : (zeroValue e).run Tryd.prog w = .ok z w) (k : ByteArray) (hk : k.size ≤ maxLen) :
    (Instr.lookup t (.map (some g)) (.string k) false).run Tryd.prog w = .ok ((f k).getD z) w := by
  obtain ⟨D, hm, _, hf⟩ := h
  obtain ⟨v, ps, hrun, hv⟩ := hm.lookup (string_keyed Tryd.underlying9) ht hz (zd := .held z) rfl (klit_key k hk)
  rw [hrun, SMap.at_ (hf k) (held_of hv)]
theorem SMap.len {w : World} {g n : Nat} {f : ByteArray → Option Value} {t e : TypeId} (h : SMap w g n f) (ht : Tryd.prog.underlying t = some (.map 9 e)) (ty : TypeId) : (Builtin.len_ #[t] ty #[.map (some g)]).run Tryd.prog w = .ok (.int .i64 n) w := by
  obtain ⟨D, hm, hs, _⟩ := h
  rw [← hs]; exact hm.len ht ty
theorem own_tight {w : World} {g n : Nat} {D : DataW Value} (h : w.ownsMap Tryd.prog 9 rawE g n D) : w.ownsMap Tryd.prog 9 rawE g (Maps.size D) D := by
  obtain ⟨es, clock, hb, F, hs, rfl⟩ := h
  refine ⟨es, clock, hb, F, ?_, rfl⟩
  have e1 : Maps.size (DataW.map ((es.toList.map (Go.WideElems.rg Tryd.prog 9 rawE)).foldr DataW.insert [])) = es.size := by simp [Maps.size, length_sorted]
  omega
def setO (f : ByteArray → Option Value) (k : ByteArray) (v : Value) (j : ByteArray) : Option Value := if j = k then some v else f j
def delO (f : ByteArray → Option Value) (k : ByteArray) (j : ByteArray) : Option Value := if j = k then none else f j
theorem SMap.store {w : World} {g n : Nat} {f : ByteArray → Option Value} {t e : TypeId} (h : SMap w g n f) (ht : Tryd.prog.underlying t = some (.map 9 e)) (hn : n < maxLen) (k : ByteArray) (hk : k.size ≤ maxLen) (v : Value) :
    ∃ w', (Instr.mapUpdate t (.map (some g)) (.string k) v).run Tryd.prog w = .ok () w' ∧ SMap w' g (if (f k).isSome then n else n + 1) (setO f k v) ∧ w.grownBy w' (some g) := by
  obtain ⟨D, hm, hs, hf⟩ := h
  obtain ⟨w', hrun, hm', hg⟩ := hm.update (string_keyed Tryd.underlying9) ht hn (klit_key k hk) (val := v) (d := .held v) (ps := []) rfl
  have hsz : Maps.size (D.put (klit k) (.held v)) = if (f k).isSome then n else n + 1 := by
    rw [size_put (hm.tidy (string_keyed Tryd.underlying9)), (hf k).1, hs]
  refine ⟨w', hrun, ⟨_, hsz ▸ own_tight hm', hsz, fun j => ?_⟩, hg⟩
  unfold setO
  by_cases e : j = k
  · subst e
    rw [if_pos rfl]
    refine ⟨has_put_same hm.isMap (by unfold klit; trivial) _, fun u hu z => ?_⟩
    obtain rfl := Option.some.inj hu
    exact atKey_put_same hm.isMap (by unfold klit; trivial) _ _
  · rw [if_neg e]
    have hne : klit j ≠ klit k := fun h => e (klit_one h)
    exact ⟨by rw [has_put_other hne]; exact (hf j).1, fun u hu z => by rw [atKey_put_other hne]; exact (hf j).2 u hu z⟩
theorem SMap.drop {w : World} {g n : Nat} {f : ByteArray → Option Value} {t e : TypeId} (h : SMap w g n f) (ht : Tryd.prog.underlying t = some (.map 9 e)) (k : ByteArray) (hk : k.size ≤ maxLen) (ty : TypeId) :
    ∃ w', (Builtin.delete_ #[t, 9] ty #[.map (some g), .string k]).run Tryd.prog w = .ok (.tuple #[]) w' ∧ SMap w' g (if (f k).isSome then n - 1 else n) (delO f k) ∧ w.grownBy w' (some g) := by
  obtain ⟨D, hm, hs, hf⟩ := h
  obtain ⟨w', hrun, hm', hg⟩ := hm.drop (string_keyed Tryd.underlying9) ht (klit_key k hk) ty
  have hsz : Maps.size (D.del (klit k)) = if (f k).isSome then n - 1 else n := by
    have := size_del (k := klit k) (hm.tidy (string_keyed Tryd.underlying9))
    rw [(hf k).1, hs] at this
    split at this <;> split <;> simp_all <;> omega
  refine ⟨w', hrun, ⟨_, hsz ▸ own_tight hm', hsz, fun j => ?_⟩, hg.grown⟩
  unfold delO
  by_cases e : j = k
  · subst e
    rw [if_pos rfl]
    exact ⟨has_del_same, fun u hu => by cases hu⟩
  · rw [if_neg e]
    have hne : klit j ≠ klit k := fun h => e (klit_one h)
    exact ⟨by rw [has_del_other hne]; exact (hf j).1, fun u hu z => by rw [atKey_del_other hne]; exact (hf j).2 u hu z⟩


/-! ### a map keyed by methods -/
def ilit (k : Int) : Lit := .int .i64 k
theorem ilit_one {a b : Int} (h : ilit a = ilit b) : a = b := by unfold ilit at h; injection h
theorem ilit_key (k : Int) (h : (Lit.int .i64 k).wf = true) : keyOf Tryd.prog 22 (.int .i64 k) = some (ilit k) := keyOf_int_mk Tryd.underlying22 h
/-- block g is a map of n entries that holds f k at the key k -/
def IMap (w : World) (g n : Nat) (f : Int → Option Value) : Prop :=
  ∃ D, w.ownsMap Tryd.prog 22 rawE g n D ∧ Maps.size D = n ∧ ∀ k, Maps.has D (ilit k) = (f k).isSome ∧ ∀ v, f k = some v → ∀ z, D.atKey (ilit k) z = .held v
theorem imap_made (w : World) : IMap (w.alloc (.map #[] 0)) w.heap.size 0 fun _ => none :=
  ⟨.map [], World.ownsMap_made w _ _ _, rfl, fun k => ⟨rfl, fun v h => by cases h⟩⟩
theorem IMap.lt {w : World} {g n : Nat} {f : Int → Option Value} (h : IMap w g n f) : g < w.heap.size := by
  obtain ⟨D, h, _⟩ := h; exact h.lt
theorem IMap.keep {w V : World} {g n : Nat} {f : Int → Option Value} (h : IMap w g n f) (hb : V.heap[g]? = w.heap[g]?) : IMap V g n f := by
  obtain ⟨D, ⟨es, clock, he, h1, h2⟩, hf⟩ := h
  exact ⟨D, ⟨es, clock, by rw [hb]; exact he, h1, h2⟩, hf⟩
theorem IMap.fn {w : World} {g n : Nat} {f f' : Int → Option Value} (h : IMap w g n f) (e : ∀ k, f' k = f k) : IMap w g n f' := by
  obtain ⟨D, h1, h2, h3⟩ := h
  exact ⟨D, h1, h2, fun k => by rw [e k]; exact h3 k⟩
theorem IMap.at_ {D : DataW Value} {f : Int → Option Value} {k : Int} {z v : Value} (hf : Maps.has D (ilit k) = (f k).isSome ∧ ∀ v, f k = some v → ∀ z, D.atKey (ilit k) z = .held v) (hv2 : DataW.held v = D.atKey (ilit k) (.held z)) : v = (f k).getD z := by
  cases hfk : f k with
  | none =>
    have h0 := hf.1
    rw [hfk] at h0
    rw [atKey_of_not_has h0] at hv2
    injection hv2
  | some u =>
    rw [hf.2 u hfk] at hv2
    injection hv2
theorem IMap.look_ok {w : World} {g n : Nat} {f : Int → Option Value} {t e : TypeId} {z : Value} (h : IMap w g n f) (ht : Tryd.prog.underlying t = some (.map 22 e)) (hz : (zeroValue e).run Tryd.prog w = .ok z w) (k : Int) (hk : (Lit.int .i64 k).wf = true) :
    (Instr.lookup t (.map (some g)) (.int .i64 k) true).run Tryd.prog w = .ok (.tuple #[(f k).getD z, .bool (f k).isSome]) w := by
  obtain ⟨D, hm, _, hf⟩ := h
  obtain ⟨v, ps, hrun, hv⟩ := hm.look_ok (int_keyed Tryd.underlying22) ht hz (zd := .held z) rfl (ilit_key k hk)
  rw [hrun, (hf k).1, IMap.at_ (hf k) (held_of hv)]
theorem IMap.look {w : World} {g n : Nat} {f : Int → Option Value} {t e : TypeId} {z : Value} (h : IMap w g n f) (ht : Tryd.prog.underlying t = some (.map 22 e)) (hz : (zeroValue e).run Tryd.prog w = .ok z w) (k : Int) (hk : (Lit.int .i64 k).wf = true) :
    (Instr.lookup t (.map (some g)) (.int .i64 k) false).run Tryd.prog w = .ok ((f k).getD z) w := by
  obtain ⟨D, hm, _, hf⟩ := h
  obtain ⟨v, ps, hrun, hv⟩ := hm.lookup (int_keyed Tryd.underlying22) ht hz (zd := .held z) rfl (ilit_key k hk)
  rw [hrun, IMap.at_ (hf k) (held_of hv)]
theorem IMap.len {w : World} {g n : Nat} {f : Int → Option Value} {t e : TypeId} (h : IMap w g n f) (ht : Tryd.prog.underlying t = some (.map 22 e)) (ty : TypeId) : (Builtin.len_ #[t] ty #[.map (some g)]).run Tryd.prog w = .ok (.int .i64 n) w := by
  obtain ⟨D, hm, hs, _⟩ := h
  rw [← hs]; exact hm.len ht ty
theorem own_tightI {w : World} {g n : Nat} {D : DataW Value} (h : w.ownsMap Tryd.prog 22 rawE g n D) : w.ownsMap Tryd.prog 22 rawE g (Maps.size D) D := by
  obtain ⟨es, clock, hb, F, hs, rfl⟩ := h
  refine ⟨es, clock, hb, F, ?_, rfl⟩
  have e1 : Maps.size (DataW.map ((es.toList.map (Go.WideElems.rg Tryd.prog 22 rawE)).foldr DataW.insert [])) = es.size := by simp [Maps.size, length_sorted]
  omega
def setI (f : Int → Option Value) (k : Int) (v : Value) (j : Int) : Option Value := if j = k then some v else f j
def delI (f : Int → Option Value) (k : Int) (j : Int) : Option Value := if j = k then none else f j
theorem IMap.store {w : World} {g n : Nat} {f : Int → Option Value} {t e : TypeId} (h : IMap w g n f) (ht : Tryd.prog.underlying t = some (.map 22 e)) (hn : n < maxLen) (k : Int) (hk : (Lit.int .i64 k).wf = true) (v : Value) :
    ∃ w', (Instr.mapUpdate t (.map (some g)) (.int .i64 k) v).run Tryd.prog w = .ok () w' ∧ IMap w' g (if (f k).isSome then n else n + 1) (setI f k v) ∧ w.grownBy w' (some g) := by
  obtain ⟨D, hm, hs, hf⟩ := h
  obtain ⟨w', hrun, hm', hg⟩ := hm.update (int_keyed Tryd.underlying22) ht hn (ilit_key k hk) (val := v) (d := .held v) (ps := []) rfl
  have hsz : Maps.size (D.put (ilit k) (.held v)) = if (f k).isSome then n else n + 1 := by
    rw [size_put (hm.tidy (int_keyed Tryd.underlying22)), (hf k).1, hs]
  refine ⟨w', hrun, ⟨_, hsz ▸ own_tightI hm', hsz, fun j => ?_⟩, hg⟩
  unfold setI
  by_cases e : j = k
  · subst e
    rw [if_pos rfl]
    refine ⟨has_put_same hm.isMap (by unfold ilit; trivial) _, fun u hu z => ?_⟩
    obtain rfl := Option.some.inj hu
    exact atKey_put_same hm.isMap (by unfold ilit; trivial) _ _
  · rw [if_neg e]
    have hne : ilit j ≠ ilit k := fun h => e (ilit_one h)
    exact ⟨by rw [has_put_other hne]; exact (hf j).1, fun u hu z => by rw [atKey_put_other hne]; exact (hf j).2 u hu z⟩
theorem IMap.drop {w : World} {g n : Nat} {f : Int → Option Value} {t e : TypeId} (h : IMap w g n f) (ht : Tryd.prog.underlying t = some (.map 22 e)) (k : Int) (hk : (Lit.int .i64 k).wf = true) (ty : TypeId) :
    ∃ w', (Builtin.delete_ #[t, 22] ty #[.map (some g), .int .i64 k]).run Tryd.prog w = .ok (.tuple #[]) w' ∧ IMap w' g (if (f k).isSome then n - 1 else n) (delI f k) ∧ w.grownBy w' (some g) := by
  obtain ⟨D, hm, hs, hf⟩ := h
  obtain ⟨w', hrun, hm', hg⟩ := hm.drop (int_keyed Tryd.underlying22) ht (ilit_key k hk) ty
  have hsz : Maps.size (D.del (ilit k)) = if (f k).isSome then n - 1 else n := by
    have := size_del (k := ilit k) (hm.tidy (int_keyed Tryd.underlying22))
    rw [(hf k).1, hs] at this
    split at this <;> split <;> simp_all <;> omega
  refine ⟨w', hrun, ⟨_, hsz ▸ own_tightI hm', hsz, fun j => ?_⟩, hg.grown⟩
  unfold delI
  by_cases e : j = k
  · subst e
    rw [if_pos rfl]
    exact ⟨has_del_same, fun u hu => by cases hu⟩
  · rw [if_neg e]
    have hne : ilit j ≠ ilit k := fun h => e (ilit_one h)
    exact ⟨by rw [has_del_other hne]; exact (hf j).1, fun u hu z => by rw [atKey_del_other hne]; exact (hf j).2 u hu z⟩


/-! ### the library's variables -/
def POk (w : World) : Prop := MaxOk w ∧ PowOk w
theorem POk.below {w w' : World} (h : POk w) (hb : Below w.heap.size w w') : POk w' := ⟨h.1.below hb h.1.lt, h.2.below hb⟩
end Go.Proofs.YtbogmmdmfbcbnaaDoor
