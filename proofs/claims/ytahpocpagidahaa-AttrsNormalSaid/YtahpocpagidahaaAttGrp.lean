/-
  A map from strings to slices of strings that the call has made, each key's slice in a row of its own: what it holds, looked up and stored.
-/
import Derived.Test.YtahpocpagidahaaAttMap
set_option linter.unusedVariables false
set_option linter.unusedSimpArgs false
set_option linter.unnecessarySimpa false
namespace Go.Proofs.Ytahpocpagidahaa
open Go.RowKit Go.PlainAid Go.Maps Go.ChangeMaps

variable {H : Type}
def klit (k : ByteArray) : Lit := .string k.data.toList
theorem klit_one {a b : ByteArray} (h : klit a = klit b) : a = b := by
  unfold klit at h
  injection h with h
  exact ba_ext h
theorem klit_key (k : ByteArray) (h : k.size ≤ maxLen) : keyOf Try.prog 9 (.string k) = some (klit k) := by
  simp [keyOf, Try.underlying9, mapKey, klit, h]
theorem hdr_own {w : World} {base n : Nat} {v : Value} {xs : List Value} (h : w.ownsRow base 9 1 v n xs) : ∃ d, hdrE (H := H) v = some (d, []) := by
  rcases h.2 with ⟨rfl, _⟩ | ⟨g, cap, cur, rfl, _⟩
  · exact ⟨_, hdrE_nil⟩
  · exact ⟨_, hdrE_some _ _ _⟩
def setK {α : Type} (f : ByteArray → α) (k : ByteArray) (x : α) (j : ByteArray) : α := if j.data.toList = k.data.toList then x else f j
theorem setK_same {α : Type} (f : ByteArray → α) (k : ByteArray) (x : α) : setK f k x k = x := if_pos rfl
theorem setK_other {α : Type} (f : ByteArray → α) {k j : ByteArray} (x : α) (h : j ≠ k) : setK f k x j = f j := if_neg fun e => h (ba_ext e)
/-- what the map holds: the values gv at each key, in the slice hv -/
structure Groups (w : World) (base b n : Nat) (D : DataW H) (gv : ByteArray → List ByteArray) (hv : ByteArray → Value) : Prop where
  map : w.ownsMap Try.prog 9 hdrE b n D
  low : b < base
  reads : ∀ k, hdrE (H := H) (hv k) = some (D.atKey (klit k) .nil, [])
  own : ∀ k, w.ownsRow base 9 1 (hv k) (gv k).length (scells (gv k))
  apart : ∀ k k', k ≠ k' → (hv k).ownBlock = none ∨ (hv k).ownBlock ≠ (hv k').ownBlock
theorem groups_made (w : World) : Groups (H := H) (w.alloc (.map #[] 0)) (w.heap.size + 1) w.heap.size 0 (.map []) (fun _ => []) (fun _ => .slice none 0 0) where
  map := World.ownsMap_made w _ _ _
  low := Nat.lt_succ_self _
  reads k := hdrE_nil
  own k := World.ownsRow_nil _ _ _ _
  apart _ _ _ := .inl rfl
theorem Groups.look {w : World} {base b n : Nat} {D : DataW H} {gv : ByteArray → List ByteArray} {hv : ByteArray → Value} (G : Groups w base b n D gv hv) (k : ByteArray) (hk : k.size ≤ maxLen) :
    (Instr.lookup 47 (.map (some b)) (.string k) false).run Try.prog w = .ok (hv k) w := by
  obtain ⟨v, ps, hrun, hv'⟩ := G.map.lookup (t := 47) (e := 29) (string_keyed Try.underlying9) Try.underlying47 (z := .slice none 0 0) (Try.zeroValue29 _) hdrE_nil (klit_key k hk)
  rw [hrun, hdrE_one hv' (G.reads k)]
/-- behind an append to the slice at one key, and the store of what it gave -/
theorem Groups.store {w w1 : World} {base b n : Nat} {D : DataW H} {gv : ByteArray → List ByteArray} {hv : ByteArray → Value} (G : Groups w base b n D gv hv) (k : ByteArray) (hk : k.size ≤ maxLen) (hn : n < maxLen) {v' : Value} {vs : List ByteArray}
    (hg : w.grownBy w1 (hv k).ownBlock) (hown : w1.ownsRow base 9 1 v' vs.length (scells vs)) (hl : v'.ownBlock = (hv k).ownBlock ∨ ∃ g, v'.ownBlock = some g ∧ w.heap.size ≤ g) :
    ∃ w2 d, (Instr.mapUpdate 47 (.map (some b)) (.string k) v').run Try.prog w1 = .ok () w2 ∧ Groups w2 base b (n + 1) (D.put (klit k) d) (setK gv k vs) (setK hv k v') ∧ w1.grownBy w2 (some b) := by
  obtain ⟨d, hd⟩ := hdr_own (H := H) hown
  have hbl := G.map.lt
  have hne : some b ≠ (hv k).ownBlock := fun e => by
    have := ((G.own k).lt b e.symm).1
    have := G.low
    omega
  have hm1 := G.map.kept hg hne
  obtain ⟨w2, hrun, hm2, hg2⟩ := hm1.update (t := 47) (e := 29) (string_keyed Try.underlying9) Try.underlying47 hn (klit_key k hk) hd
  have okept : ∀ {u : Value} {xs : List ByteArray}, w1.ownsRow base 9 1 u xs.length (scells xs) → w2.ownsRow base 9 1 u xs.length (scells xs) := fun {u xs} ho => ho.kept hg2 (by
    cases hu : u.ownBlock with
    | none => exact .inl rfl
    | some g =>
      refine .inr fun e => ?_
      have := (ho.lt g hu).1
      have := G.low
      cases e
      omega)
  have old1 : ∀ j, j ≠ k → w1.ownsRow base 9 1 (hv j) (gv j).length (scells (gv j)) := fun j hj => (G.own j).kept hg (G.apart j k hj)
  refine ⟨w2, d, hrun, ⟨hm2, G.low, fun j => ?_, fun j => ?_, fun i j hij => ?_⟩, hg2⟩
  · by_cases e : j = k
    · subst e
      rw [setK_same, atKey_put_same G.map.isMap (k := klit j) (by unfold klit; trivial)]; exact hd
    · rw [setK_other _ _ e, atKey_put_other (fun h => e (klit_one h))]; exact G.reads j
  · by_cases e : j = k
    · subst e
      rw [setK_same, setK_same]; exact okept hown
    · rw [setK_other _ _ e, setK_other _ _ e]; exact okept (old1 j e)
  · have old_new : ∀ j, j ≠ k → (hv j).ownBlock = none ∨ (hv j).ownBlock ≠ v'.ownBlock := fun j hj => by
      rcases hl with h1 | ⟨g, h1, h2⟩
      · rw [h1]; exact G.apart j k hj
      · cases hu : (hv j).ownBlock with
        | none => exact .inl rfl
        | some q =>
          refine .inr fun e => ?_
          have := ((G.own j).lt q hu).2
          rw [h1] at e
          cases e
          omega
    by_cases ei : i = k
    · subst ei
      have ej : j ≠ i := fun e => hij e.symm
      rw [setK_same, setK_other _ _ ej]
      cases hu : v'.ownBlock with
      | none => exact .inl rfl
      | some q =>
        refine .inr fun e => ?_
        rcases old_new j ej with h | h
        · rw [h] at e; cases e
        · exact h (by rw [hu, e])
    · rw [setK_other _ _ ei]
      by_cases ej : j = k
      · subst ej; rw [setK_same]; exact old_new i ei
      · rw [setK_other _ _ ej]; exact G.apart i j hij

/-- the map's keys in order are the ascending list of them -/
theorem keys_sorted {w : World} {b n : Nat} {D : DataW H} {R : Value → Option (DataW H × List MemPlace)} {ks : List ByteArray} {ss : List (List UInt8)} (hown : w.ownsMap Try.prog 9 R b n D)
    (hk : ∀ k : ByteArray, Maps.has D (klit k) = true ↔ k ∈ ks) (hp : ss.Perm (Go.strKeys D)) : (ss.mergeSort (fun x y => decide (x ≤ y))).map (fun x => (⟨x.toArray⟩ : ByteArray)) = sortU ks := by
  have hC : Go.Collected D (fun _ => false) ((sortU ks).map fun s => s.data.toList) := by
    refine ⟨?_, fun x => ?_⟩
    · refine List.pairwise_map.2 ((asc_nodup (sortU_asc ks)).imp fun {a b} h e => h (ba_ext e))
    · rw [List.mem_map]
      have e : (Lit.string x) = klit ⟨x.toArray⟩ := by unfold klit; simp
      constructor
      · rintro ⟨s, hs, rfl⟩
        exact ⟨(hk s).2 (sortU_mem.1 hs), rfl⟩
      · rintro ⟨h, _⟩
        rw [e] at h
        exact ⟨⟨x.toArray⟩, sortU_mem.2 ((hk _).1 h), by simp⟩
  have hS := hp.trans (hC.perm hown (string_keyed Try.underlying9) Try.underlying9 (fun _ => rfl)).symm
  refine sort_keys (hS.symm.nodup hC.1) fun x => ?_
  rw [hS.mem_iff, List.mem_map]
  constructor
  · rintro ⟨s, hs, e⟩
    rw [← ba_ext e]; exact sortU_mem.1 hs
  · intro hx
    exact ⟨x, sortU_mem.2 hx, rfl⟩

end Go.Proofs.Ytahpocpagidahaa
