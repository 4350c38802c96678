/-
  Locks as they lie in memory: rows of instants, the map of users, the object; what a method changes and what it leaves. No condition.
-/
import Derived.Test.YtclecajbcmmddaaSecL
import Derived.Maps.OwnSet
import Derived.Laws.NewBlocks
import Derived.ArgAppend
import Derived.Deep.Upon
set_option maxRecDepth 100000
set_option maxRecDepth 100000
set_option linter.unusedVariables false
set_option linter.unusedSimpArgs false
set_option linter.unnecessarySimpa false
namespace Go.Proofs.Ytclecajbcmmddaa
open Go.RowKit Go.PlainAid Go.Maps Go.ChangeMaps

def KbC (W : World) (b : Nat) (o : Obj) : Prop := W.heap[b]? = some o
theorem KbC.big {W : World} {b : Nat} {o : Obj} (h : KbC W b o) : b < W.heap.size := by
  rcases Nat.lt_or_ge b W.heap.size with k | k
  · exact k
  · unfold KbC at h; rw [Array.getElem?_eq_none k] at h; cases h
theorem KbC.step {W V : World} {b : Nat} {o : Obj} (h : KbC W b o) (hb : Below W.heap.size W V) : KbC V b o := (hb.block b h.big).trans h
theorem kbc_new (W : World) (o : Obj) : KbC (W.alloc o) W.heap.size o := heap_alloc_new W o
theorem KbC.cell {W : World} {b i : Nat} {c : Array Value} {t : TypeId} {v : Value} (h : KbC W b (.cells c t)) (hv : c[i]? = some v) : W.cell? ⟨b, i, none⟩ = some v := by
  unfold World.cell?
  rw [show W.heap[b]? = some (.cells c t) from h]
  exact hv
theorem KbC.frz {W : World} {b i : Nat} {c : Array Value} {t : TypeId} (h : KbC W b (.cells c t)) : W.frozen? ⟨b, i, none⟩ = false := by
  have h : W.heap[b]? = some (.cells c t) := h
  simp [World.frozen?, h]
theorem KbC.set {W : World} {b i : Nat} {c : Array Value} {t : TypeId} (h : KbC W b (.cells c t)) (v : Value) : KbC (W.setCell ⟨b, i, none⟩ v) b (.cells (c.setIfInBounds i v) t) := by
  have h0 : W.heap[b]? = some (.cells c t) := h
  unfold KbC World.setCell
  rw [Array.getElem?_modify, h0]
  simp

/-! ### a row of ints -/
def iA (l : List Int) (j : Nat) : Int := l.getD j 0
theorem iA_left {l m : List Int} {j : Nat} (h : j < l.length) : iA (l ++ m) j = iA l j := by
  unfold iA; rw [List.getD_eq_getElem?_getD, List.getD_eq_getElem?_getD, List.getElem?_append_left h]
theorem iA_last (l : List Int) (c : Int) : iA (l ++ [c]) l.length = c := by
  unfold iA; rw [List.getD_eq_getElem?_getD, List.getElem?_append_right (Nat.le_refl _)]; simp
theorem iA_mem {l : List Int} {j : Nat} (h : j < l.length) : iA l j ∈ l := by
  unfold iA; rw [List.getD_eq_getElem?_getD, List.getElem?_eq_getElem h]; exact List.getElem_mem h
theorem iA_drop (l : List Int) (d j : Nat) : iA (l.drop d) j = iA l (d + j) := by
  unfold iA; rw [List.getD_eq_getElem?_getD, List.getD_eq_getElem?_getD, List.getElem?_drop]
/-- the ints l lie in a slice that may be written behind its end -/
def IR (W : World) (v : Value) (l : List Int) : Prop :=
  (v = .slice none 0 0 ∧ l = []) ∨ ∃ b off cap, v = .slice (some ⟨b, off, none⟩) l.length cap ∧ l.length ≤ cap ∧ 0 < cap ∧ cap ≤ maxLen ∧ b < W.heap.size ∧
    (∀ j, j < l.length → W.cell? ⟨b, off + j, none⟩ = some (.int .i64 (iA l j))) ∧ ∀ j, j < cap → (W.cell? ⟨b, off + j, none⟩).isSome = true ∧ W.frozen? ⟨b, off + j, none⟩ = false
theorem ir_nil (W : World) : IR W (.slice none 0 0) [] := .inl ⟨rfl, rfl⟩
theorem IR.lt {W : World} {v : Value} {l : List Int} (h : IR W v l) {g : Nat} (e : v.ownBlock = some g) : g < W.heap.size := by
  rcases h with ⟨rfl, _⟩ | ⟨b, off, cap, rfl, _, _, _, hb, _⟩
  · cases e
  · injection e with e; rw [← e]; exact hb
theorem IR.keep {W V : World} {v : Value} {l : List Int} (h : IR W v l) (hs : W.heap.size ≤ V.heap.size) (hk : ∀ g, v.ownBlock = some g → V.heap[g]? = W.heap[g]?) : IR V v l := by
  rcases h with h | ⟨b, off, cap, rfl, h1, h2, h3, h4, h5, h6⟩
  · exact .inl h
  · have e := hk b rfl
    refine .inr ⟨b, off, cap, rfl, h1, h2, h3, Nat.lt_of_lt_of_le h4 hs, fun j hj => ?_, fun j hj => ?_⟩
    · rw [World.cell?_of_block (a := ⟨b, off + j, none⟩) e]; exact h5 j hj
    · rw [World.cell?_of_block (a := ⟨b, off + j, none⟩) e, World.frozen?_of_block (a := ⟨b, off + j, none⟩) e]; exact h6 j hj
theorem IR.shape {W : World} {v : Value} {l : List Int} (h : IR W v l) : ∃ ao cap, v = .slice ao l.length cap ∧ l.length ≤ cap ∧ cap ≤ maxLen ∧ (ao = none → l = [] ∧ cap = 0) := by
  rcases h with ⟨rfl, rfl⟩ | ⟨b, off, cap, rfl, h1, h2, h3, h4, _⟩
  · exact ⟨none, 0, rfl, Nat.le_refl _, Nat.zero_le _, fun _ => ⟨rfl, rfl⟩⟩
  · exact ⟨_, cap, rfl, h1, h3, fun e => by cases e⟩
/-- the last 256 -/
theorem IR.last {W : World} {b off n cap : Nat} {l : List Int} (h : IR W (.slice (some ⟨b, off, none⟩) n cap) l) (d : Nat) (hd : d < n) : IR W (.slice (some ⟨b, off + d, none⟩) (n - d) (cap - d)) (l.drop d) := by
  rcases h with ⟨h, _⟩ | ⟨b', off', cap', e, h1, h2, h3, h4, h5, h6⟩
  · cases h
  · injection e with e1 e2 e3
    injection e1 with e1
    injection e1 with e1 e4 _
    subst e1 e2 e3 e4
    refine .inr ⟨_, _, _, by rw [List.length_drop], by rw [List.length_drop]; omega, by omega, by omega, h4, fun j hj => ?_, fun j hj => ?_⟩
    · rw [List.length_drop] at hj
      rw [iA_drop, Nat.add_assoc]; exact h5 (d + j) (by omega)
    · rw [Nat.add_assoc]; exact h6 (d + j) (by omega)
theorem info_i64 : (Try.prog.info? 3).map (fun i => (i.zero, i.size, i.bytes)) = some (some (.int .i64 0), 1, 8) := by kernel_rfl
/-- 'append(l, c)' -/
theorem run_push_i (w : World) (ty : TypeId) {v : Value} {l : List Int} (h : IR w v l) (c : Int) (ad : Addr) (hc : w.cell? ad = some (.int .i64 c)) (hl : l.length ≤ 1000000) :
    ∃ v' w', (Builtin.append_ #[57, 57] ty #[v, .slice (some ad) 1 1]).run Try.prog w = .ok v' w' ∧ IR w' v' (l ++ [c]) ∧ w.grownBy w' v.ownBlock ∧ (v'.ownBlock = v.ownBlock ∨ ∃ g, v'.ownBlock = some g ∧ w.heap.size ≤ g) := by
  obtain ⟨i0, hi, hz0, hz1, hz2⟩ := info_parts info_i64
  have hnews : ∀ j u, [Value.int .i64 c][j]? = some u → w.cell? (ad.add j) = some u := fun j u hj => by
    have hj0 : j = 0 := by
      have := (List.getElem?_eq_some_iff.1 hj).1
      simp at this; exact this
    subst hj0
    simp at hj
    subst hj
    rw [Addr.add_zero']; exact hc
  have own_ir : ∀ {v' : Value} {w' : World}, w'.ownsRow w.heap.size 3 1 v' (l.length + 1) ((l.map fun t => Value.int .i64 t) ++ [.int .i64 c]) → IR w' v' (l ++ [c]) := fun {v' w'} ho => by
    have ho0 := ho
    rcases ho.2 with ⟨_, h0⟩ | ⟨g, cap, cur, rfl, _, hg, h1, h2, h3, h4⟩
    · omega
    · have hlen : (l ++ [c]).length = l.length + 1 := by simp
      have hgb : g < w'.heap.size := KbC.big (show KbC w' g (.cells cur 3) from hg)
      refine .inr ⟨g, 0, cap, by rw [hlen], by omega, by omega, h2, hgb, fun j hj => ?_, fun j hj => ⟨?_, ?_⟩⟩
      · have hcell : ((l.map fun t => Value.int .i64 t) ++ [.int .i64 c])[j]? = some (.int .i64 (iA (l ++ [c]) j)) → w'.cell? ⟨g, 0 + j, none⟩ = some (.int .i64 (iA (l ++ [c]) j)) := fun q => by
          have := ho0.cells rfl j _ q
          rwa [Addr.add_lit] at this
        refine hcell ?_
        rw [hlen] at hj
        by_cases e : j < l.length
        · rw [List.getElem?_append_left (by simpa using e), List.getElem?_map, iA_left e]
          unfold iA
          rw [List.getD_eq_getElem?_getD, List.getElem?_eq_getElem e]; rfl
        · obtain rfl : j = l.length := by omega
          rw [List.getElem?_append_right (by simp), iA_last]; simp
      · rw [Nat.zero_add]
        have hj2 : j < cur.size := by omega
        have := KbC.cell (show KbC w' g (.cells cur 3) from hg) (i := j) (v := cur[j]) (by simp [hj2])
        rw [this]; rfl
      · exact KbC.frz (show KbC w' g (.cells cur 3) from hg)
  rcases h with ⟨rfl, rfl⟩ | ⟨b, off, cap, rfl, h1, h2, h3, h4, h5, h6⟩
  · obtain ⟨v', w', hrun, r1, r2, _, r3⟩ := run_append_own_at (P := Try.prog) w w.heap.size 57 ty 3 i0 (.int .i64 0) 1 8 Try.underlying57 hi hz0 hz1 hz2 rfl (by decide) (.slice none 0 0) 0 [] (World.ownsRow_nil w _ _ _) ad 1 1 [.int .i64 c] rfl hnews (by intro u hu; simp at hu; subst hu; rfl) (by unfold maxLen; omega) (by omega) (Nat.le_refl _)
    exact ⟨v', w', hrun, own_ir r1, r2, r3.imp id fun e => ⟨_, e, Nat.le_refl _⟩⟩
  · by_cases hr : l.length + 1 ≤ cap
    · have hfree := h6 l.length (by omega)
      have hrun := run_append_room_cells (P := Try.prog) w 57 ty 3 i0 Try.underlying57 hi b off l.length cap ad 1 1 [.int .i64 c] (by rw [hz1]; rfl) hnews (by intro u hu; simp at hu; subst hu; rfl) hr
        (fun j hj => by
          have hj0 : j = 0 := by simpa using hj
          subst hj0; rw [hz1, Nat.mul_one, Nat.add_zero]; exact hfree.1)
        (fun j hj => by
          have hj0 : j = 0 := by simpa using hj
          subst hj0; rw [hz1, Nat.mul_one, Nat.add_zero]; exact hfree.2)
      rw [hz1, Nat.mul_one] at hrun
      have hset : w.setCells b (off + l.length) [.int .i64 c] = w.setCell ⟨b, off + l.length, none⟩ (.int .i64 c) := rfl
      rw [hset] at hrun
      have hlen : (l ++ [c]).length = l.length + 1 := by simp
      obtain ⟨u, hu⟩ := Option.isSome_iff_exists.1 hfree.1
      refine ⟨_, _, hrun, .inr ⟨b, off, cap, by rw [hlen], by rw [hlen]; exact hr, h2, h3, by simpa [World.setCell] using h4, fun j hj => ?_, fun j hj => ⟨?_, ?_⟩⟩, ⟨rfl, rfl, rfl, by simp [World.setCell], fun k _ hne => Below.heap_setCell w ⟨b, off + l.length, none⟩ _ k (fun e => hne (by rw [e]; rfl))⟩, .inl rfl⟩
      · rw [hlen] at hj
        by_cases e : j < l.length
        · rw [World.cell?_setCell_other _ _ _ _ (fun k => by injection k with _ k _; omega), iA_left e]; exact h5 j e
        · obtain rfl : j = l.length := by omega
          rw [World.cell?_setCell_same _ _ _ hu, iA_last]
      · by_cases e : j = l.length
        · subst e; rw [World.cell?_setCell_same _ _ _ hu]; rfl
        · rw [World.cell?_setCell_other _ _ _ _ (fun k => by injection k with _ k _; omega)]; exact (h6 j hj).1
      · rw [World.frozen?_setCell]; exact (h6 j hj).2
    · obtain ⟨v', w', hrun, r1, r2⟩ := run_append_arg_grows (P := Try.prog) w 57 ty 3 i0 (.int .i64 0) 1 8 Try.underlying57 hi hz0 hz1 hz2 rfl (by decide) ⟨b, off, none⟩ l.length cap (l.map fun t => Value.int .i64 t) (by simp)
        (fun j u hj => by
          rw [List.getElem?_map] at hj
          have hjl : j < l.length := by
            rcases Nat.lt_or_ge j l.length with k | k
            · exact k
            · rw [List.getElem?_eq_none k] at hj; cases hj
          rw [List.getElem?_eq_getElem hjl] at hj
          simp at hj
          subst hj
          rw [Addr.add_lit, h5 j hjl]
          unfold iA
          rw [List.getD_eq_getElem?_getD, List.getElem?_eq_getElem hjl]; rfl) ad 1 1 [.int .i64 c] rfl hnews (by omega) (by unfold maxLen; omega) (by omega)
      refine ⟨v', w', hrun, own_ir r1, ⟨r2.os, r2.tape, r2.output, r2.size, fun k hk _ => r2.block k hk (by simp)⟩, .inr ?_⟩
      rcases r1.2 with ⟨_, h0⟩ | ⟨g, cap', cur, rfl, hb, _⟩
      · omega
      · exact ⟨g, rfl, hb⟩

/-! ### the map of users -/
def klit (k : ByteArray) : Lit := .string k.data.toList
theorem klit_one {a b : ByteArray} (h : klit a = klit b) : a = b := by
  unfold klit at h
  injection h with h
  cases a; cases b; simpa using h
theorem klit_key (k : ByteArray) (h : k.size ≤ maxLen) : keyOf Try.prog 9 (.string k) = some (klit k) := by
  simp [keyOf, Try.underlying9, mapKey, klit, h]
def rawE (v : Value) : Option (DataW Value × List MemPlace) := some (.held v, [])
/-- block g is a map of n entries that holds f k at the key k -/
def SMap (w : World) (g n : Nat) (f : ByteArray → Option Value) : Prop :=
  ∃ D, w.ownsMap Try.prog 9 rawE g n D ∧ Maps.size D = n ∧ ∀ k, Maps.has D (klit k) = (f k).isSome ∧ ∀ v, f k = some v → ∀ z, D.atKey (klit k) z = .held v
theorem smap_made (w : World) : SMap (w.alloc (.map #[] 0)) w.heap.size 0 fun _ => none :=
  ⟨.map [], World.ownsMap_made w _ _ _, rfl, fun k => ⟨rfl, fun v h => by cases h⟩⟩
theorem SMap.lt {w : World} {g n : Nat} {f : ByteArray → Option Value} (h : SMap w g n f) : g < w.heap.size := by
  obtain ⟨D, h, _⟩ := h; exact h.lt
theorem SMap.keep {w V : World} {g n : Nat} {f : ByteArray → Option Value} (h : SMap w g n f) (hb : V.heap[g]? = w.heap[g]?) : SMap V g n f := by
  obtain ⟨D, ⟨es, clock, he, h1, h2⟩, hf⟩ := h
  exact ⟨D, ⟨es, clock, by rw [hb]; exact he, h1, h2⟩, hf⟩
theorem SMap.fn {w : World} {g n : Nat} {f f' : ByteArray → Option Value} (h : SMap w g n f) (e : ∀ k, f' k = f k) : SMap w g n f' := by
  obtain ⟨D, h1, h2, h3⟩ := h
  exact ⟨D, h1, h2, fun k => by rw [e k]; exact h3 k⟩
theorem held_of {D : DataW Value} {kl : Lit} {z v : Value} {ps : List MemPlace} (hv : rawE v = some (D.atKey kl (.held z), ps)) : DataW.held v = D.atKey kl (.held z) := by
  unfold rawE at hv
  simp only [Option.some.injEq, Prod.mk.injEq] at hv
  exact hv.1
theorem SMap.at_ {D : DataW Value} {f : ByteArray → Option Value} {k : ByteArray} {z v : Value} (hf : Maps.has D (klit k) = (f k).isSome ∧ ∀ v, f k = some v → ∀ z, D.atKey (klit k) z = .held v) (hv2 : DataW.held v = D.atKey (klit k) (.held z)) : v = (f k).getD z := by
  cases hfk : f k with
  | none =>
    have h0 := hf.1
    rw [hfk] at h0
    rw [atKey_of_not_has h0] at hv2
    injection hv2
  | some u =>
    rw [hf.2 u hfk] at hv2
    injection hv2
theorem SMap.look_ok {w : World} {g n : Nat} {f : ByteArray → Option Value} {t e : TypeId} {z : Value} (h : SMap w g n f) (ht : Try.prog.underlying t = some (.map 9 e)) (hz : (zeroValue e).run Try.prog w = .ok z w) (k : ByteArray) (hk : k.size ≤ maxLen) :
    (Instr.lookup t (.map (some g)) (.string k) true).run Try.prog w = .ok (.tuple #[(f k).getD z, .bool (f k).isSome]) w := by
  obtain ⟨D, hm, _, hf⟩ := h
  obtain ⟨v, ps, hrun, hv⟩ := hm.look_ok (string_keyed Try.underlying9) ht hz (zd := .held z) rfl (klit_key k hk)
  rw [hrun, (hf k).1, SMap.at_ (hf k) (held_of hv)]
theorem SMap.look {w : World} {g n : Nat} {f : ByteArray → Option Value} {t e : TypeId} {z : Value} (h : SMap w g n f) (ht : Try.prog.underlying t = some (.map 9 e)) (hz : (zeroValue e).run Try.prog w = .ok z w) (k : ByteArray) (hk : k.size ≤ maxLen) :
    (Instr.lookup t (.map (some g)) (.string k) false).run Try.prog w = .ok ((f k).getD z) w := by
  obtain ⟨D, hm, _, hf⟩ := h
  obtain ⟨v, ps, hrun, hv⟩ := hm.lookup (string_keyed Try.underlying9) ht hz (zd := .held z) rfl (klit_key k hk)
  rw [hrun, SMap.at_ (hf k) (held_of hv)]
theorem SMap.len {w : World} {g n : Nat} {f : ByteArray → Option Value} {t e : TypeId} (h : SMap w g n f) (ht : Try.prog.underlying t = some (.map 9 e)) (ty : TypeId) : (Builtin.len_ #[t] ty #[.map (some g)]).run Try.prog w = .ok (.int .i64 n) w := by
  obtain ⟨D, hm, hs, _⟩ := h
  rw [← hs]; exact hm.len ht ty
theorem own_tight {w : World} {g n : Nat} {D : DataW Value} (h : w.ownsMap Try.prog 9 rawE g n D) : w.ownsMap Try.prog 9 rawE g (Maps.size D) D := by
  obtain ⟨es, clock, hb, F, hs, rfl⟩ := h
  refine ⟨es, clock, hb, F, ?_, rfl⟩
  have e1 : Maps.size (DataW.map ((es.toList.map (Go.WideElems.rg Try.prog 9 rawE)).foldr DataW.insert [])) = es.size := by simp [Maps.size, length_sorted]
  omega
def setO (f : ByteArray → Option Value) (k : ByteArray) (v : Value) (j : ByteArray) : Option Value := if j = k then some v else f j
def delO (f : ByteArray → Option Value) (k : ByteArray) (j : ByteArray) : Option Value := if j = k then none else f j
theorem SMap.store {w : World} {g n : Nat} {f : ByteArray → Option Value} {t e : TypeId} (h : SMap w g n f) (ht : Try.prog.underlying t = some (.map 9 e)) (hn : n < maxLen) (k : ByteArray) (hk : k.size ≤ maxLen) (v : Value) :
    ∃ w', (Instr.mapUpdate t (.map (some g)) (.string k) v).run Try.prog w = .ok () w' ∧ SMap w' g (if (f k).isSome then n else n + 1) (setO f k v) ∧ w.grownBy w' (some g) := by
  obtain ⟨D, hm, hs, hf⟩ := h
  obtain ⟨w', hrun, hm', hg⟩ := hm.update (string_keyed Try.underlying9) ht hn (klit_key k hk) (val := v) (d := .held v) (ps := []) rfl
  have hsz : Maps.size (D.put (klit k) (.held v)) = if (f k).isSome then n else n + 1 := by
    rw [size_put (hm.tidy (string_keyed Try.underlying9)), (hf k).1, hs]
  refine ⟨w', hrun, ⟨_, hsz ▸ own_tight hm', hsz, fun j => ?_⟩, hg⟩
  unfold setO
  by_cases e : j = k
  · subst e
    rw [if_pos rfl]
    refine ⟨has_put_same hm.isMap (by unfold klit; trivial) _, fun u hu z => ?_⟩
    obtain rfl := Option.some.inj hu
    exact atKey_put_same hm.isMap (by unfold klit; trivial) _ _
  · rw [if_neg e]
    have hne : klit j ≠ klit k := fun h => e (klit_one h)
    exact ⟨by rw [has_put_other hne]; exact (hf j).1, fun u hu z => by rw [atKey_put_other hne]; exact (hf j).2 u hu z⟩
theorem SMap.drop {w : World} {g n : Nat} {f : ByteArray → Option Value} {t e : TypeId} (h : SMap w g n f) (ht : Try.prog.underlying t = some (.map 9 e)) (k : ByteArray) (hk : k.size ≤ maxLen) (ty : TypeId) :
    ∃ w', (Builtin.delete_ #[t, 9] ty #[.map (some g), .string k]).run Try.prog w = .ok (.tuple #[]) w' ∧ SMap w' g (if (f k).isSome then n - 1 else n) (delO f k) ∧ w.grownBy w' (some g) := by
  obtain ⟨D, hm, hs, hf⟩ := h
  obtain ⟨w', hrun, hm', hg⟩ := hm.drop (string_keyed Try.underlying9) ht (klit_key k hk) ty
  have hsz : Maps.size (D.del (klit k)) = if (f k).isSome then n - 1 else n := by
    have := size_del (k := klit k) (hm.tidy (string_keyed Try.underlying9))
    rw [(hf k).1, hs] at this
    split at this <;> split <;> simp_all <;> omega
  refine ⟨w', hrun, ⟨_, hsz ▸ own_tight hm', hsz, fun j => ?_⟩, hg.grown⟩
  unfold delO
  by_cases e : j = k
  · subst e
    rw [if_pos rfl]
    exact ⟨has_del_same, fun u hu => by cases hu⟩
  · rw [if_neg e]
    have hne : klit j ≠ klit k := fun h => e (klit_one h)
    exact ⟨by rw [has_del_other hne]; exact (hf j).1, fun u hu z => by rw [atKey_del_other hne]; exact (hf j).2 u hu z⟩

/-! ### the object -/
def MT : Int := 1099511627776
/-- a record within its bounds -/
structure RcOk (r : Rc) : Prop where
  len : r.1.length ≤ 256
  tm : ∀ t ∈ r.1, 0 ≤ t ∧ t ≤ MT
  until0 : 0 ≤ r.2
  until1 : r.2 ≤ MT
structure UsOk (A : Us) : Prop where
  nod : UsN A
  len : A.length ≤ 256
  rc : ∀ k r, usO A k = some r → RcOk r
/-- the numbers of locks -/
structure LkN (most win lock : Int) : Prop where
  m0 : 1 ≤ most
  m1 : most ≤ 256
  w0 : 1 ≤ win
  w1 : win ≤ MT
  l0 : 1 ≤ lock
  l1 : lock ≤ MT
/-- a record's value: its row, its instant -/
def rcV (v : Value) (u : Int) : Value := .agg #[v, .int .i64 u]
def usF (A : Us) (ρ : ByteArray → Value) (k : ByteArray) : Option Value := (usO A k).map fun r => rcV (ρ k) r.2
/-- locks: the object's block b, the map's block g, each user's row; S: the blocks that are the object's own -/
structure LX (W : World) (S : Nat → Prop) (b g : Nat) (ρ : ByteArray → Value) (most win lock : Int) (A : Us) : Prop where
  blk : KbC W b (.cells #[.pointer (some ⟨b, 0, none⟩), .int .i64 most, .int .i64 win, .int .i64 lock, .map (some g)] 52)
  num : LkN most win lock
  ok : UsOk A
  map : SMap W g A.length (usF A ρ)
  sb : S b
  sg : S g
  ne : g ≠ b
  rows : ∀ k r, usO A k = some r → IR W (ρ k) r.1
  own : ∀ k r, usO A k = some r → ∀ i, (ρ k).ownBlock = some i → S i ∧ i ≠ b ∧ i ≠ g
  sep : ∀ k k' r r', usO A k = some r → usO A k' = some r' → k ≠ k' → ∀ i, (ρ k).ownBlock = some i → (ρ k').ownBlock ≠ some i
def LK (W : World) (S : Nat → Prop) (b : Nat) (most win lock : Int) (A : Us) : Prop := ∃ g ρ, LX W S b g ρ most win lock A
/-- what has changed: blocks of S, and new ones -/
structure Fo (S : Nat → Prop) (w w' : World) : Prop where
  os : w'.os = w.os
  tape : w'.tape = w.tape
  output : w'.output = w.output
  size : w.heap.size ≤ w'.heap.size
  block : ∀ k, k < w.heap.size → ¬ S k → w'.heap[k]? = w.heap[k]?
/-- S and the blocks that are new -/
def nw (S : Nat → Prop) (w w' : World) (i : Nat) : Prop := S i ∨ (w.heap.size ≤ i ∧ i < w'.heap.size)
section
variable {S T : Nat → Prop} {w w' V : World} {b g : Nat} {ρ : ByteArray → Value} {most win lock : Int} {A : Us}
theorem Fo.refl (S : Nat → Prop) (w : World) : Fo S w w := ⟨rfl, rfl, rfl, Nat.le_refl _, fun _ _ _ => rfl⟩
theorem Fo.of_below (h : Below w.heap.size w w') : Fo S w w' := ⟨h.os, h.tape, h.output, h.size, fun k hk _ => h.block k hk⟩
theorem Fo.trans (h : Fo S w w') (k : Fo (nw S w w') w' V) : Fo S w V :=
  ⟨k.os.trans h.os, k.tape.trans h.tape, k.output.trans h.output, Nat.le_trans h.size k.size, fun i hi hn => (k.block i (Nat.lt_of_lt_of_le hi h.size) (fun e => by
    rcases e with e | e
    · exact hn e
    · omega)).trans (h.block i hi hn)⟩
theorem Fo.below {B : Nat} (h : Fo S w w') (hB : ∀ i, S i → B ≤ i) (hw : B ≤ w.heap.size) : Below B w w' :=
  ⟨h.os, h.tape, h.output, h.size, fun k hk => h.block k (by omega) (fun e => by have := hB k e; omega)⟩
theorem Fo.grown {row : Option Nat} (h : w.grownBy w' row) (hr : ∀ i, row = some i → S i) : Fo S w w' :=
  ⟨h.os, h.tape, h.output, h.size, fun k hk hn => h.block k hk (fun e => hn (hr k e.symm))⟩
theorem Fo.mono (h : Fo S w w') (hi : ∀ i, S i → T i) : Fo T w w' := ⟨h.os, h.tape, h.output, h.size, fun k hk hn => h.block k hk (fun e => hn (hi k e))⟩
theorem LX.big (h : LX w S b g ρ most win lock A) : b < w.heap.size ∧ g < w.heap.size := ⟨h.blk.big, h.map.lt⟩
theorem LX.mono (h : LX w S b g ρ most win lock A) (hi : ∀ i, S i → T i) : LX w T b g ρ most win lock A :=
  ⟨h.blk, h.num, h.ok, h.map, hi _ h.sb, hi _ h.sg, h.ne, h.rows, fun k r hk i e => ⟨hi _ (h.own k r hk i e).1, (h.own k r hk i e).2⟩, h.sep⟩
/-- the object stays what it is where its blocks stay what they are -/
theorem LX.keep (h : LX w S b g ρ most win lock A) (hs : w.heap.size ≤ V.heap.size) (hb : ∀ i, S i → i < w.heap.size → V.heap[i]? = w.heap[i]?) : LX V S b g ρ most win lock A :=
  ⟨(hb b h.sb h.big.1).trans h.blk, h.num, h.ok, h.map.keep (hb g h.sg h.big.2), h.sb, h.sg, h.ne,
    fun k r hk => (h.rows k r hk).keep hs fun i e => hb i (h.own k r hk i e).1 ((h.rows k r hk).lt e), h.own, h.sep⟩
theorem LX.step (h : LX w S b g ρ most win lock A) (hb : Below w.heap.size w V) : LX V S b g ρ most win lock A := h.keep hb.size fun i _ hi => hb.block i hi
theorem LK.step (h : LK w S b most win lock A) (hb : Below w.heap.size w V) : LK V S b most win lock A := by
  obtain ⟨g, ρ, h⟩ := h; exact ⟨g, ρ, h.step hb⟩
theorem LK.mono (h : LK w S b most win lock A) (hi : ∀ i, S i → T i) : LK w T b most win lock A := by
  obtain ⟨g, ρ, h⟩ := h; exact ⟨g, ρ, h.mono hi⟩
theorem LK.other (h : LK w S b most win lock A) (hf : Fo T w V) (hd : ∀ i, S i → ¬ T i) : LK V S b most win lock A := by
  obtain ⟨g, ρ, h⟩ := h; exact ⟨g, ρ, h.keep hf.size fun i hs hi => hf.block i hi (hd i hs)⟩
theorem LX.flat (h : LX w S b g ρ most win lock A) : w.cell? ⟨b, 0, none⟩ = some (.pointer (some ⟨b, 0, none⟩)) ∧ w.cell? ⟨b, 1, none⟩ = some (.int .i64 most) ∧ w.cell? ⟨b, 2, none⟩ = some (.int .i64 win) ∧ w.cell? ⟨b, 3, none⟩ = some (.int .i64 lock) ∧ w.cell? ⟨b, 4, none⟩ = some (.map (some g)) :=
  ⟨h.blk.cell rfl, h.blk.cell rfl, h.blk.cell rfl, h.blk.cell rfl, h.blk.cell rfl⟩
end
theorem usOk_nil : UsOk [] := ⟨usN_nil, Nat.zero_le _, fun k r h => (by cases h)⟩
theorem addI_bd (t d : Int) : 0 ≤ addI t d ∧ addI t d ≤ MT := limI_bd _
theorem failR_ok {most win lock : Int} {r : Rc} {n : Int} (h : RcOk r) (h0 : 0 ≤ n) (h1 : n ≤ MT) : RcOk (failR most win lock r n) := by
  have ha := addI_bd n lock
  refine ⟨lastN_len _, fun t ht => ?_, ?_, ?_⟩
  · have := lastN_mem ht
    rw [List.mem_append] at this
    rcases this with k | k
    · exact h.tm t k
    · simp at k; subst k; exact ⟨h0, h1⟩
  · have := h.until0
    unfold failR
    dsimp only
    split <;> omega
  · have := h.until1
    unfold failR
    dsimp only
    split <;> omega
theorem rcOk_zero : RcOk ([], 0) := ⟨Nat.zero_le _, fun t h => (by cases h), Int.le_refl _, (by decide)⟩
theorem usOk_set {A : Us} (h : UsOk A) {u : ByteArray} {r : Rc} (hr : RcOk r) (hl : (usO A u).isSome = true ∨ A.length < 256) : UsOk (usSet A u r) := by
  refine ⟨usN_set h.nod u r, ?_, fun k x hk => ?_⟩
  · rw [usSet_len]
    have := h.len
    split
    · omega
    · rename_i h1
      rcases hl with h2 | h2
      · exact absurd h2 h1
      · omega
  · rw [usO_set] at hk
    split at hk
    · obtain rfl := Option.some.inj hk; exact hr
    · exact h.rc k x hk
theorem usOk_clear {A : Us} (h : UsOk A) (u : ByteArray) : UsOk (clearA A u) := by
  refine ⟨usN_clear h.nod u, Nat.le_trans (List.length_filter_le _ _) h.len, fun k x hk => ?_⟩
  rw [usO_clear] at hk
  split at hk
  · cases hk
  · exact h.rc k x hk
/-- a record stored: the map, the new row -/
theorem LX.put {S : Nat → Prop} {w w1 w2 : World} {b g : Nat} {ρ : ByteArray → Value} {most win lock : Int} {A : Us} (h : LX w S b g ρ most win lock A) {u : ByteArray} {r : Rc} {v : Value}
    (hr : RcOk r) (hl : (usO A u).isSome = true ∨ A.length < 256) (hs1 : w.heap.size ≤ w1.heap.size) (hrow : IR w1 v r.1)
    (hk1 : ∀ i, i < w.heap.size → (∀ r0, usO A u = some r0 → (ρ u).ownBlock ≠ some i) → w1.heap[i]? = w.heap[i]?)
    (hv : (∃ r0, usO A u = some r0 ∧ v.ownBlock = (ρ u).ownBlock) ∨ ∃ i, v.ownBlock = some i ∧ w.heap.size ≤ i ∧ i < w1.heap.size)
    (hm : SMap w2 g (usSet A u r).length (setO (usF A ρ) u (rcV v r.2))) (hg : w1.grownBy w2 (some g)) :
    LX w2 (nw S w w1) b g (fun k => if k = u then v else ρ k) most win lock (usSet A u r) := by
  have hb := h.big
  have hkeep : ∀ i, i < w.heap.size → i ≠ g → (∀ r0, usO A u = some r0 → (ρ u).ownBlock ≠ some i) → w2.heap[i]? = w.heap[i]? := fun i hi hne hr0 =>
    (hg.block i (Nat.lt_of_lt_of_le hi hs1) (fun e => hne (by injection e))).trans (hk1 i hi hr0)
  have hvg : ∀ i, v.ownBlock = some i → nw S w w1 i ∧ i ≠ b ∧ i ≠ g := fun i e => by
    rcases hv with ⟨r0, e0, e1⟩ | ⟨i', e1, h1, h2⟩
    · have := h.own u r0 e0 i (by rw [← e1]; exact e)
      exact ⟨.inl this.1, this.2⟩
    · rw [e1] at e
      injection e with e
      subst e
      exact ⟨.inr ⟨h1, h2⟩, by omega, by omega⟩
  refine ⟨(hkeep b hb.1 (fun e => h.ne e.symm) fun r0 e0 e1 => (h.own u r0 e0 b e1).2.1 rfl).trans h.blk, h.num, usOk_set h.ok hr hl, hm.fn fun k => ?_, .inl h.sb, .inl h.sg, h.ne, fun k x hk => ?_, fun k x hk i e => ?_, fun k k' x x' hk hk' hne i e => ?_⟩
  · unfold usF setO
    rw [usO_set]
    by_cases e : k = u
    · subst e; rw [if_pos rfl, if_pos rfl]; simp
    · rw [if_neg e, if_neg e]; simp [e]
  · rw [usO_set] at hk
    by_cases e : k = u
    · subst e
      rw [if_pos rfl] at hk
      obtain rfl := Option.some.inj hk
      rw [if_pos rfl]
      exact hrow.keep hg.size fun i e => hg.block i (hrow.lt e) (fun e2 => (hvg i e).2.2 (by injection e2))
    · rw [if_neg e] at hk
      rw [if_neg e]
      exact (h.rows k x hk).keep (Nat.le_trans hs1 hg.size) fun i e1 => hkeep i ((h.rows k x hk).lt e1) (h.own k x hk i e1).2.2 fun r0 e0 e2 => h.sep k u x r0 hk e0 e i e1 e2
  · rw [usO_set] at hk
    by_cases e0 : k = u
    · rw [if_pos e0] at e
      exact hvg i e
    · rw [if_neg e0] at e hk
      exact ⟨.inl (h.own k x hk i e).1, (h.own k x hk i e).2⟩
  · rw [usO_set] at hk hk'
    by_cases e0 : k = u
    · have e1 : ¬ k' = u := fun q => hne (e0.trans q.symm)
      rw [if_pos e0] at e
      rw [if_neg e1] at hk' ⊢
      intro e2
      rcases hv with ⟨r0, h0, h1⟩ | ⟨i', h1, h2, h3⟩
      · exact h.sep k' u x' r0 hk' h0 e1 i e2 (by rw [← h1]; exact e)
      · rw [h1] at e
        injection e with e
        have := (h.rows k' x' hk').lt e2
        omega
    · rw [if_neg e0] at e hk
      by_cases e1 : k' = u
      · rw [if_pos e1]
        intro e2
        rcases hv with ⟨r0, h0, h1⟩ | ⟨i', h1, h2, h3⟩
        · exact h.sep k u x r0 hk h0 e0 i e (by rw [← h1]; exact e2)
        · rw [h1] at e2
          injection e2 with e2
          have := (h.rows k x hk).lt e
          omega
      · rw [if_neg e1] at hk' ⊢
        exact h.sep k k' x x' hk hk' hne i e
/-- a user forgotten -/
theorem LX.drop {S : Nat → Prop} {w w2 : World} {b g : Nat} {ρ : ByteArray → Value} {most win lock : Int} {A : Us} (h : LX w S b g ρ most win lock A) {u : ByteArray}
    (hm : SMap w2 g (clearA A u).length (delO (usF A ρ) u)) (hg : w.grownBy w2 (some g)) : LX w2 S b g ρ most win lock (clearA A u) := by
  have hb := h.big
  have hsub : ∀ {k x}, usO (clearA A u) k = some x → usO A k = some x := fun {k x} hk => by
    rw [usO_clear] at hk
    split at hk
    · cases hk
    · exact hk
  refine ⟨(hg.block b hb.1 (fun e => h.ne (by injection e with e; exact e.symm))).trans h.blk, h.num, usOk_clear h.ok u, hm.fn fun k => ?_, h.sb, h.sg, h.ne,
    fun k x hk => (h.rows k x (hsub hk)).keep hg.size fun i e => hg.block i ((h.rows k x (hsub hk)).lt e) (fun e2 => (h.own k x (hsub hk) i e).2.2 (by injection e2)),
    fun k x hk => h.own k x (hsub hk), fun k k' x x' hk hk' => h.sep k k' x x' (hsub hk) (hsub hk')⟩
  unfold usF delO
  rw [usO_clear]
  by_cases e : k = u
  · rw [if_pos e, if_pos e]; rfl
  · rw [if_neg e, if_neg e]

end Go.Proofs.Ytclecajbcmmddaa
