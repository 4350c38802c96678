/-
  Contract of attrs.ascending at a slice of the call's own: what is handed back holds the different strings in order, in the same row. Condition: at most 1000000 strings.
-/
import Derived.Test.YtahpocpagidahaaAttGrp
import Derived.Test.YtahpocpagidahaaShelfE
import Derived.Shelf.SlicesG.CompactS
import Derived.Sort.OwnSorted
import Derived.Shelf.SortM.Plain
import Derived.Shelf.SortM.SortNone
set_option linter.unusedVariables false
set_option linter.unusedSimpArgs false
set_option linter.unnecessarySimpa false
namespace Go.Proofs.Ytahpocpagidahaa
open Go.RowKit Go.PlainAid Go.Sort Go.Lib

def toB (x : List UInt8) : ByteArray := ⟨x.toArray⟩
theorem toB_list (s : ByteArray) : toB s.data.toList = s := Lib.mk_data s
theorem list_toB (x : List UInt8) : (toB x).data.toList = x := by simp [toB]
theorem enc_cells (ss : List (List UInt8)) : ss.map encStr = scells (ss.map toB) := by unfold scells; rw [List.map_map]; rfl
theorem cells_enc (l : List ByteArray) : scells l = (l.map fun s => s.data.toList).map encStr := by
  rw [enc_cells, List.map_map]; congr 1
  exact ((List.map_congr_left fun s _ => toB_list s).trans (List.map_id _)).symm

theorem comp_inv (d : Array (List UInt8)) (hs : ∀ i j, i ≤ j → j < d.size → d[i]! ≤ d[j]!) : ∀ m, m ≤ d.size → (compactUpTo d m).Pairwise (· < ·) ∧ ∀ x, x ∈ compactUpTo d m ↔ ∃ j, j < m ∧ d[j]! = x
  | 0, _ => ⟨by simp [compactUpTo], fun x => by simp [compactUpTo]⟩
  | m + 1, hm => by
    obtain ⟨h1, h2⟩ := comp_inv d hs m (by omega)
    rw [compactUpTo_succ]
    by_cases hk : keeps d m = true
    · rw [if_pos hk]
      have hk' : m = 0 ∨ d[m]! ≠ d[m - 1]! := of_decide_eq_true hk
      refine ⟨List.pairwise_append.2 ⟨h1, List.pairwise_singleton _ _, fun x hx y hy => ?_⟩, fun x => ?_⟩
      · rw [List.mem_singleton.1 hy]
        obtain ⟨j, hj, rfl⟩ := (h2 x).1 hx
        refine List.not_le.1 fun hle => ?_
        rcases hk' with e | e
        · omega
        · have a1 := hs j (m - 1) (by omega) (by omega)
          have a2 := hs (m - 1) m (by omega) (by omega)
          exact e (List.le_antisymm (List.le_trans hle a1) a2)
      · rw [List.mem_append, h2 x, List.mem_singleton]
        constructor
        · rintro (⟨j, hj, e⟩ | e)
          · exact ⟨j, by omega, e⟩
          · exact ⟨m, by omega, e.symm⟩
        · rintro ⟨j, hj, e⟩
          by_cases ej : j = m
          · subst ej; exact .inr e.symm
          · exact .inl ⟨j, by omega, e⟩
    · rw [if_neg hk, List.append_nil]
      refine ⟨h1, fun x => ?_⟩
      rw [h2 x]
      have hk' : ¬ (m = 0 ∨ d[m]! ≠ d[m - 1]!) := fun h => hk (decide_eq_true h)
      constructor
      · rintro ⟨j, hj, e⟩; exact ⟨j, by omega, e⟩
      · rintro ⟨j, hj, e⟩
        by_cases ej : j = m
        · subst ej
          refine ⟨j - 1, by omega, ?_⟩
          rw [← e]
          exact (Classical.not_not.1 fun h => hk' (.inr h)).symm
        · exact ⟨j, by omega, e⟩
theorem compact_sorted (l : List ByteArray) : (compact ((l.map fun s => s.data.toList).mergeSort fun x y => decide (x ≤ y))).map toB = sortU l := by
  obtain ⟨ss, hss⟩ : ∃ ss, (l.map fun s => s.data.toList) = ss := ⟨_, rfl⟩
  rw [hss]
  have hs := List.pairwise_mergeSort (le := fun (x y : List UInt8) => decide (x ≤ y)) (fun a b c h1 h2 => decide_eq_true (List.le_trans (of_decide_eq_true h1) (of_decide_eq_true h2))) (fun a b => by
    rcases List.le_total a b with k | k
    · simp [k]
    · simp [k]) ss
  have hp := List.mergeSort_perm ss (fun x y => decide (x ≤ y))
  obtain ⟨zs, hz⟩ : ∃ zs, (ss.mergeSort fun x y => decide (x ≤ y)) = zs := ⟨_, rfl⟩
  rw [hz] at hs hp ⊢
  have hg : ∀ i j, i ≤ j → j < zs.toArray.size → zs.toArray[i]! ≤ zs.toArray[j]! := fun i j hij hj => by
    have hj' : j < zs.length := by simpa using hj
    rw [getElem!_pos zs.toArray i (by omega), getElem!_pos zs.toArray j hj]
    rcases Nat.lt_or_ge i j with k | k
    · exact of_decide_eq_true (List.pairwise_iff_getElem.1 hs i j (by omega) hj' k)
    · have e : i = j := by omega
      subst e; exact List.le_refl _
  obtain ⟨h1, h2⟩ := comp_inv zs.toArray hg zs.length (by simp)
  refine asc_ext ?_ (sortU_asc l) fun x => ?_
  · unfold Asc
    rw [List.pairwise_map]
    refine h1.imp fun {a b} h => ?_
    have := (lt_cmp a b).1 h
    simpa [cmpS, toB] using this
  · rw [List.mem_map, sortU_mem]
    have hm : ∀ y, y ∈ compact zs ↔ y ∈ ss := fun y => by
      unfold compact
      rw [h2 y, ← hp.mem_iff]
      constructor
      · rintro ⟨j, hj, e⟩
        rw [getElem!_pos zs.toArray j (by simpa using hj)] at e
        rw [← e]; simp
      · intro hy
        obtain ⟨j, hj, e⟩ := List.getElem_of_mem hy
        exact ⟨j, hj, by rw [getElem!_pos zs.toArray j (by simpa using hj)]; simpa using e⟩
    constructor
    · rintro ⟨y, hy, rfl⟩
      rw [hm y, ← hss, List.mem_map] at hy
      obtain ⟨s, hs', rfl⟩ := hy
      rw [toB_list]; exact hs'
    · intro hx
      exact ⟨x.data.toList, (hm _).2 (by rw [← hss]; exact List.mem_map_of_mem hx), toB_list x⟩

theorem comp_le (zs : List (List UInt8)) : (compact zs).length ≤ zs.length := by
  unfold compact compactUpTo
  rw [List.length_map]
  exact Nat.le_trans (List.length_filter_le _ _) (by simp)
theorem grow_none (w : World) : grow w #[] = w := by unfold grow; simp
theorem grown_two {w w1 w2 : World} {row : Option Nat} (h : w.grownBy w1 row) (k : w1.grownBy w2 row) : w.grownBy w2 row :=
  ⟨k.os.trans h.os, k.tape.trans h.tape, k.output.trans h.output, Nat.le_trans h.size k.size, fun j hj hne => (k.block j (Nat.lt_of_lt_of_le hj h.size) hne).trans (h.block j hj hne)⟩
theorem sort_len (ss : List (List UInt8)) : (ss.mergeSort fun x y => decide (x ≤ y)).length = ss.length := (List.mergeSort_perm ss _).length_eq
set_option maxHeartbeats 1000000 in
theorem ascending_s (base n : Nat) (v : Value) (l : List ByteArray) (w : World) (hown : w.ownsRow base 9 1 v n (scells l)) (hl : l.length = n) (hn : n ≤ 1000000) :
    Calls Try.prog 44 #[v] w fun e w' => ∃ u, e = .returned u ∧ w'.ownsRow base 9 1 u (sortU l).length (scells (sortU l)) ∧ w.grownBy w' v.ownBlock ∧ u.ownBlock = v.ownBlock := by
  rcases hown.2 with ⟨rfl, h0⟩ | ⟨g, cap, cur, rfl, hg, hb, hc, hm, hcs, ht⟩
  · subst h0
    have hl0 : l = [] := List.length_eq_zero_iff.1 hl
    subst hl0
    go_enter Try.func44, Try.ntmps44
    go_wp2_with fail
    refine (AnyM.slices_Sort_string_none Try.sort none 0 _).mono ?_
    rintro e w1 ⟨rfl, rfl⟩
    go_wp2_with fail
    refine (AnyG.slices_Compact_string_empty Try.compact none 0 _).mono ?_
    rintro e w1 ⟨rfl, rfl⟩
    go_wp2_with fail
    go_ret
    exact ⟨_, rfl, World.ownsRow_nil _ _ _ _, ⟨rfl, rfl, rfl, Nat.le_refl _, fun _ _ _ => rfl⟩, rfl⟩
  · subst hl
    obtain ⟨ss, hss⟩ : ∃ ss, (l.map fun s => s.data.toList) = ss := ⟨_, rfl⟩
    have hsl : ss.length = l.length := by rw [← hss, List.length_map]
    have hgl : g < w.heap.size := by
      rcases Nat.lt_or_ge g w.heap.size with h' | h'
      · exact h'
      · simp [Array.getElem?_eq_none h'] at hb
    have hH : Holds encStr w g 0 ss.toArray := holds_of_block hb (by rw [hsl, ← hss, ← cells_enc]; simpa using ht)
    obtain ⟨ts, hts⟩ : ∃ ts, (ss.mergeSort fun x y => decide (x ≤ y)) = ts := ⟨_, rfl⟩
    have htl : ts.length = ss.length := by rw [← hts]; exact sort_len ss
    obtain ⟨cs, hcs'⟩ : ∃ cs, compact ts = cs := ⟨_, rfl⟩
    have hcl : cs.length ≤ ts.length := by rw [← hcs']; exact comp_le ts
    have HE := Lib.hid (show cs.map toB = sortU l by rw [← hcs', ← hts, ← hss]; exact compact_sorted l)
    have hS := AnyM.slices_Sort_string Try.sort g 0 cap ss w hH hgl (by omega)
    rw [hsl, hts] at hS
    have HS := Lib.hid hS
    have hC : ∀ (m : Nat) (os : Array Obj), Calls Try.prog 71 #[.slice (some ⟨g, 0, none⟩) l.length cap] (grow (putRow encStr (Sort.ahead w m) g 0 ts.toArray) os) fun e w' =>
        e = .returned (.slice (some ⟨g, 0, none⟩) cs.length cap) ∧ w'.ownsRow base 9 1 (.slice (some ⟨g, 0, none⟩) cs.length cap) cs.length (scells (cs.map toB)) ∧ w.grownBy w' (some g) := by
      intro m os
      have ho1 := ownsRow_sorted (w := w) (n := m) (os := os) (ss := ss) (ts := ts) htl hg hb (by omega) hm (by omega)
      obtain ⟨_, h2⟩ := ho1
      rcases h2 with ⟨h2, _⟩ | ⟨g', cap', cur', h2, _, hb', _, _, hcs2, ht'⟩
      · cases h2
      · simp only [Value.slice.injEq, Option.some.injEq, Addr.mk.injEq, and_true] at h2
        obtain ⟨rfl, _, rfl⟩ := h2
        have hH2 := holds_of_block (ss := ts) hb' (by rw [htl]; simpa using ht')
        have h := AnyG.slices_Compact_string Try.compact g 0 cap ts _ hH2 (by omega) (by omega)
        rw [hcs', show ts.length = l.length by omega] at h
        refine h.mono ?_
        rintro e w' ⟨rfl, q, rfl⟩
        refine ⟨rfl, ?_, ?_⟩
        · obtain ⟨W1, hW1⟩ : ∃ W1, grow (putRow encStr (Sort.ahead w m) g 0 ts.toArray) os = W1 := ⟨_, rfl⟩
          rw [hW1] at hb' ⊢
          have ho2 := ownsRow_sorted (n := q) (os := #[]) (ss := ts) (ts := cs ++ List.replicate (l.length - cs.length) []) (by rw [List.length_append, List.length_replicate]; omega) hg hb' (by omega) hm (by omega)
          rw [grow_none] at ho2
          rcases ho2.2 with ⟨h2, _⟩ | ⟨g', cap', cur'', h2, _, hb'', _, _, hcs3, ht''⟩
          · cases h2
          · simp only [Value.slice.injEq, Option.some.injEq, Addr.mk.injEq, and_true] at h2
            obtain ⟨rfl, _, rfl⟩ := h2
            refine ⟨by simp [scells], .inr ⟨g, cap, cur'', rfl, hg, hb'', by omega, hm, hcs3, ?_⟩⟩
            rw [← enc_cells, Nat.mul_one]
            rw [Nat.mul_one] at ht''
            have h3 := congrArg (List.take cs.length) ht''
            rw [List.take_take, Nat.min_eq_left (by omega), List.map_append, List.take_append_of_le_length (by simp), ← List.map_take, List.take_length] at h3
            exact h3
        · have h1 := grownBy_sorted (w := w) (g := g) (n := m) (os := os) ts.toArray
          have h2 := grownBy_sorted (w := grow (putRow encStr (Sort.ahead w m) g 0 ts.toArray) os) (g := g) (n := q) (os := #[]) (cs ++ List.replicate (l.length - cs.length) []).toArray
          rw [grow_none] at h2
          exact grown_two h1 h2
    go_enter Try.func44, Try.ntmps44
    go_wp2_with fail
    refine HS.out.mono ?_
    rintro e w1 ⟨rfl, m, os, rfl⟩
    go_wp2_with fail
    refine (hC m os).mono ?_
    rintro e w1 ⟨rfl, ho, hg2⟩
    go_wp2_with fail
    go_ret
    have he := HE.out
    exact ⟨_, rfl, by rw [← he, List.length_map]; exact ho, hg2, rfl⟩

end Go.Proofs.Ytahpocpagidahaa
