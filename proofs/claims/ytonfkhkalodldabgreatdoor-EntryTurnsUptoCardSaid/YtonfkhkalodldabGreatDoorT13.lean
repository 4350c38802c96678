/-
  Texts of the schema layer and of those beneath it, joined: SchAsc, SchMst, SchWrd, SchCln, SchTyF, SchTxt, SchTxF, SchRd, SchMay, SchFns, SchNrm, SchCon, SchRdL, SchRdC, SchRdT, SchBox, SchAln, SchPar, SchKl, SchFew. Conditions stand at each contract.
-/
import Derived.Lib.Join
import Derived.Lib.SplitLaws
import Derived.Test.YtonfkhkalodldabGreatDoorT12
set_option linter.unusedVariables false
set_option linter.unusedSimpArgs false
set_option linter.unnecessarySimpa false

section
set_option maxRecDepth 100000
namespace Go.Proofs.YtonfkhkalodldabGreatDoor
open Go.RowKit Go.PlainAid Go.Sort Go.Lib
theorem map_set (l : List ByteArray) (k : Nat) (h : k < l.length) : (scells ((l.take k).map lowS ++ l.drop k)).set k (.string (lowS (partAt l k))) = scells ((l.take (k + 1)).map lowS ++ l.drop (k + 1)) := by
 apply List.ext_getElem?
 intro j
 unfold scells
 have hlen : (l.take k).length = k := by rw [List.length_take]; omega
 have hlen2 : (l.take (k + 1)).length = k + 1 := by rw [List.length_take]; omega
 rw [List.getElem?_set]
 by_cases hj : k = j
 ·subst hj
  rw [if_pos rfl, if_pos (by simp; omega), List.getElem?_map, List.getElem?_append_left (by rw [List.length_map]; omega), List.getElem?_map, List.getElem?_take, if_pos (by omega), List.getElem?_eq_getElem h]
  unfold partAt
  rw [List.getD_eq_getElem?_getD, List.getElem?_eq_getElem h]; rfl
 ·rw [if_neg hj, List.getElem?_map, List.getElem?_map]
  congr 1
  rcases Nat.lt_or_ge j k with h1 | h1
  ·rw [List.getElem?_append_left (by rw [List.length_map]; omega), List.getElem?_append_left (by rw [List.length_map]; omega), List.getElem?_map, List.getElem?_map, List.getElem?_take, List.getElem?_take, if_pos h1, if_pos (by omega)]
  ·rw [List.getElem?_append_right (by rw [List.length_map]; omega), List.getElem?_append_right (by rw [List.length_map]; omega), List.length_map, List.length_map, hlen, hlen2, List.getElem?_drop, List.getElem?_drop]
   congr 1; omega
set_option maxHeartbeats 1000000 in
theorem sortc {base g cap : Nat} {l : List ByteArray} {w : World} (hown : w.ownsRow base 9 1 (.slice (some ⟨g, 0, none⟩) l.length cap) l.length (scells l)) (hn : l.length ≤ 1100000) :
  ∃ ts : List (List UInt8), (Calls Tryz.prog 16 #[.slice (some ⟨g, 0, none⟩) l.length cap] w fun e w' => e = .returned (.tuple #[]) ∧ ∃ m os, w' = grow (putRow encStr (Sort.ahead w m) g 0 ts.toArray) os) ∧
   ∀ (m : Nat) (os : Array Obj), Calls Tryz.prog 75 #[.slice (some ⟨g, 0, none⟩) l.length cap] (grow (putRow encStr (Sort.ahead w m) g 0 ts.toArray) os) fun e w' =>
    e = .returned (.slice (some ⟨g, 0, none⟩) (sortU l).length cap) ∧ w'.ownsRow base 9 1 (.slice (some ⟨g, 0, none⟩) (sortU l).length cap) (sortU l).length (scells (sortU l)) ∧ w.grownBy w' (some g) := by
 rcases hown.2 with ⟨h2, _⟩ | ⟨g', cap', cur, h2, hg, hb, hc, hm, hcs, ht⟩
 ·cases h2
 ·simp only [Value.slice.injEq, Option.some.injEq, Addr.mk.injEq, and_true] at h2
  obtain ⟨rfl, _, rfl⟩ := h2
  obtain ⟨ss, hss⟩ : ∃ ss, (l.map fun s => s.data.toList) = ss := ⟨_, rfl⟩
  have hsl : ss.length = l.length := by rw [← hss, List.length_map]
  have hgl : g < w.heap.size := by
   rcases Nat.lt_or_ge g w.heap.size with h' | h'
   ·exact h'
   ·simp [Array.getElem?_eq_none h'] at hb
  have hH : Holds encStr w g 0 ss.toArray := holds_of_block hb (by rw [hsl, ← hss, ← cells_enc]; simpa using ht)
  obtain ⟨ts, hts⟩ : ∃ ts, (ss.mergeSort fun x y => decide (x ≤ y)) = ts := ⟨_, rfl⟩
  have htl : ts.length = ss.length := by rw [← hts]; exact sort_len ss
  obtain ⟨cs, hcs'⟩ : ∃ cs, compact ts = cs := ⟨_, rfl⟩
  have hcl : cs.length ≤ ts.length := by rw [← hcs']; exact comp_le ts
  have HE : cs.map toB = sortU l := (by rw [← hcs', ← hts, ← hss]; exact compact_sorted l)
  have hS := AnyM.slices_Sort_string Tryz.sort g 0 cap ss w hH hgl (by omega)
  rw [hsl, hts] at hS
  have hC : ∀ (m : Nat) (os : Array Obj), Calls Tryz.prog 75 #[.slice (some ⟨g, 0, none⟩) l.length cap] (grow (putRow encStr (Sort.ahead w m) g 0 ts.toArray) os) fun e w' =>
    e = .returned (.slice (some ⟨g, 0, none⟩) cs.length cap) ∧ w'.ownsRow base 9 1 (.slice (some ⟨g, 0, none⟩) cs.length cap) cs.length (scells (cs.map toB)) ∧ w.grownBy w' (some g) := by
   intro m os
   have ho1 := ownsRow_sorted (w := w) (n := m) (os := os) (ss := ss) (ts := ts) htl hg hb (by omega) hm (by omega)
   obtain ⟨_, h2⟩ := ho1
   rcases h2 with ⟨h2, _⟩ | ⟨g', cap', cur', h2, _, hb', _, _, hcs2, ht'⟩
   ·cases h2
   ·simp only [Value.slice.injEq, Option.some.injEq, Addr.mk.injEq, and_true] at h2
    obtain ⟨rfl, _, rfl⟩ := h2
    have hH2 := holds_of_block (ss := ts) hb' (by rw [htl]; simpa using ht')
    have h := AnyG.slices_Compact_string Tryz.compact g 0 cap ts _ hH2 (by omega) (by omega)
    rw [hcs', show ts.length = l.length by omega] at h
    refine h.mono ?_
    rintro e w' ⟨rfl, q, rfl⟩
    refine ⟨rfl, ?_, ?_⟩
    ·obtain ⟨W1, hW1⟩ : ∃ W1, grow (putRow encStr (Sort.ahead w m) g 0 ts.toArray) os = W1 := ⟨_, rfl⟩
     rw [hW1] at hb' ⊢
     have ho2 := ownsRow_sorted (n := q) (os := #[]) (ss := ts) (ts := cs ++ List.replicate (l.length - cs.length) []) (by rw [List.length_append, List.length_replicate]; omega) hg hb' (by omega) hm (by omega)
     rw [grow_none] at ho2
     rcases ho2.2 with ⟨h2, _⟩ | ⟨g', cap', cur'', h2, _, hb'', _, _, hcs3, ht''⟩
     ·cases h2
     ·simp only [Value.slice.injEq, Option.some.injEq, Addr.mk.injEq, and_true] at h2
      obtain ⟨rfl, _, rfl⟩ := h2
      refine ⟨by simp [scells], .inr ⟨g, cap, cur'', rfl, hg, hb'', by omega, hm, hcs3, ?_⟩⟩
      rw [← enc_cells, Nat.mul_one]
      rw [Nat.mul_one] at ht''
      have h3 := congrArg (List.take cs.length) ht''
      rw [List.take_take, Nat.min_eq_left (by omega), List.map_append, List.take_append_of_le_length (by simp), ← List.map_take, List.take_length] at h3
      exact h3
    ·have h1 := grownBy_sorted (w := w) (g := g) (n := m) (os := os) ts.toArray
     have h2 := grownBy_sorted (w := grow (putRow encStr (Sort.ahead w m) g 0 ts.toArray) os) (g := g) (n := q) (os := #[]) (cs ++ List.replicate (l.length - cs.length) []).toArray
     rw [grow_none] at h2
     exact grown_two h1 h2
  refine ⟨ts, hS, fun m os => (hC m os).mono ?_⟩
  rintro e w' ⟨rfl, h1, h3⟩
  have hcl2 : (sortU l).length = cs.length := by rw [← HE, List.length_map]
  rw [hcl2, ← HE]
  exact ⟨rfl, h1, h3⟩
set_option maxHeartbeats 4000000 in
theorem ascendingF_s (base n : Nat) (v : Value) (l : List ByteArray) (w : World) (hown : w.ownsRow base 9 1 v n (scells l)) (hl : l.length = n) (hn : n ≤ 1100000) (hz : ∀ s ∈ l, s.size ≤ 1000000000) (hbase : base ≤ w.heap.size) :
  Calls Tryz.prog 121 #[v] w fun e w' => ∃ u, e = .returned u ∧ w'.ownsRow base 9 1 u (sortU (l.map lowS)).length (scells (sortU (l.map lowS))) ∧ Below base w w' := by
 rcases hown.2 with ⟨rfl, h0⟩ | ⟨g, cap, cur, rfl, hg, hb, hc, hm, hcs, ht⟩
 ·subst h0
  have hl0 : l = [] := List.length_eq_zero_iff.1 hl
  subst hl0
  go_enter Tryz.func121, Tryz.ntmps121
  go_wp2_with fail
  refine wp_loop_rounds 1 ?_
  rw [rounds_succ]
  go_wp2_with fail
  refine (AnyM.slices_Sort_string_none Tryz.sort none 0 _).mono ?_
  rintro e w1 ⟨rfl, rfl⟩
  go_wp2_with fail
  refine (AnyG.slices_Compact_string_empty Tryz.compact none 0 _).mono ?_
  rintro e w1 ⟨rfl, rfl⟩
  go_wp2_with fail
  go_ret
  exact ⟨_, rfl, World.ownsRow_nil _ _ _ _, Below.refl _ _⟩
 ·subst hl
  have HZ := Lib.hid hz; clear hz
  have HO := Lib.hid hown
  clear hown hb hc hcs ht
  go_enter Tryz.func121, Tryz.ntmps121
  go_wp2
  go_loopw [3, 4, 7] (fun s3 s4 i wr => ∃ k : Nat, k ≤ l.length ∧ i = .int .i64 k ∧ Hid (wr.ownsRow base 9 1 (.slice (some ⟨g, 0, none⟩) l.length cap) l.length (scells ((l.take k).map lowS ++ l.drop k))) ∧ Hid (Below base w wr ∧ base ≤ wr.heap.size)) (fun _ _ i _ => l.length - (intOf i).toNat)
  case atStart => exact ⟨0, Nat.zero_le _, rfl, HO, Lib.hid ⟨Below.refl _ _, hbase⟩⟩
  case round =>
   obtain ⟨k, hk, rfl, HR, HB⟩ := hrel
   by_cases hlt : k < l.length
   ·have d1 : (k : Int) < (l.length : Int) := by omega
    have c0 : wr.cell? ⟨g, k, none⟩ = some (.string (partAt l k)) := by
     have := HR.out.cells (g := g) rfl k (.string (partAt l k)) (by
      unfold scells
      have hlen : (l.take k).length = k := by rw [List.length_take]; omega
      rw [List.getElem?_map, List.getElem?_append_right (by rw [List.length_map]; omega), List.length_map, hlen, List.getElem?_drop, Nat.sub_self, Nat.add_zero, List.getElem?_eq_getElem hlt]
      unfold partAt
      rw [List.getD_eq_getElem?_getD, List.getElem?_eq_getElem hlt]; rfl)
     rwa [Go.WideShapes.add_plain, Nat.zero_add] at this
    have hps := HZ.out _ (part_mem l k hlt)
    have HM := Lib.hid (map_set l k hlt)
    obtain ⟨p, hp⟩ : ∃ p, partAt l k = p := ⟨_, rfl⟩
    rw [hp] at c0 hps HM
    clear hp
    go_wp2_with fail
    refine (lower_s p _ hps).mono ?_
    rintro e w1 ⟨rfl, hb⟩
    have c1 := cell_later hb c0
    have HR1 := Lib.hid (own_below HR.out hb)
    have f1 : w1.frozen? ⟨g, k, none⟩ = false := HR1.out.frozenAt _
    have HB1 := Lib.hid (show Below base w w1 ∧ base ≤ w1.heap.size from ⟨HB.out.1.trans (hb.mono HB.out.2), Nat.le_trans HB.out.2 hb.size⟩)
    clear hb c0
    go_wp2_with fail
    go_roundw
    case rel =>
     refine ⟨k + 1, by omega, by go_num, Lib.hid ?_, Lib.hid ⟨below_set1 HB1.out.1 g k hg _, by rw [set_size]; exact HB1.out.2⟩⟩
     rw [← HM.out]
     exact (HR1.out.stored k _).1
    case measure => simp [intOf]; omega
   ·obtain rfl : k = l.length := by omega
    have d1 : ¬ (l.length : Int) < (l.length : Int) := by omega
    rw [List.take_length, List.drop_length, List.append_nil] at HR
    have hll : (l.map lowS).length = l.length := List.length_map _
    have hown2 := HR.out
    rw [← hll] at hown2
    obtain ⟨ts, hS, hC⟩ := sortc hown2 (by rw [hll]; omega)
    rw [hll] at hS hC
    have HS := Lib.hid hS
    have HC := Lib.hid hC
    clear hS hC hown2
    go_wp2_with fail
    refine HS.out.mono ?_
    rintro e w1 ⟨rfl, m, os, rfl⟩
    go_wp2_with fail
    refine (HC.out m os).mono ?_
    rintro e w1 ⟨rfl, ho, hg2⟩
    go_wp2_with fail
    go_ret
    exact ⟨_, rfl, ho, HB.out.1.grown hg2 HB.out.2 (fun q e => by have := Option.some.inj e; omega)⟩
end Go.Proofs.YtonfkhkalodldabGreatDoor
end

section
set_option maxRecDepth 100000
namespace Go.Proofs.YtonfkhkalodldabGreatDoor
open Go.RowKit Go.PlainAid
def FewC (cs : List Cl) : Prop := ∀ c ∈ cs, c.must.length ≤ 64 ∧ c.may.length ≤ 64
theorem fewC_sound (ts : List Ty) (cs : List Cl) : FewC (soundC ts cs) := by
 intro c hc
 have hs : chkS ts cs = 0 := by
  unfold soundC at hc
  split at hc
  ·assumption
  ·cases hc
 have he : soundC ts cs = cs := if_pos hs
 rw [he] at hc
 obtain ⟨k, hk, rfl⟩ := mem_cl hc
 have h := hs
 unfold chkS at h
 split at h
 ·cases h
 ·split at h
  ·exact absurd h ‹_›
  ·split at h
   ·exact absurd h ‹_›
   ·rename_i h3
    have h0 := firstE_none (Classical.not_not.1 h3) k hk
    unfold errC at h0
    split at h0
    ·cases h0
    ·split at h0
     ·cases h0
     ·split at h0
      ·cases h0
      ·split at h0
       ·cases h0
       ·rename_i h4; omega
theorem smC_sound {ts : List Ty} {cs : List Cl} (h : SmC cs) : SmC (soundC ts cs) := by
 unfold soundC
 split
 ·exact h
 ·intro c hc; cases hc
def mustL (l : List Cl) : List ByteArray := l.flatMap fun c => c.must
def mayL (l : List Cl) : List ByteArray := l.flatMap fun c => c.may
theorem mustL_snoc (l : List Cl) (c : Cl) : mustL (l ++ [c]) = mustL l ++ c.must := by simp [mustL]
theorem mayL_snoc (l : List Cl) (c : Cl) : mayL (l ++ [c]) = mayL l ++ c.may := by simp [mayL]
theorem flat_few {f : Cl → List ByteArray} : ∀ {l : List Cl}, (∀ c ∈ l, (f c).length ≤ 64) → (l.flatMap f).length ≤ l.length * 64
 | [], _ => Nat.zero_le _
 | c :: l, h => by
  rw [List.flatMap_cons, List.length_append, List.length_cons]
  have h1 := h c (List.mem_cons_self ..)
  have h2 := flat_few (f := f) (l := l) (fun d hd => h d (List.mem_cons_of_mem _ hd))
  omega
theorem cls_at {w : World} {base n : Nat} {g cap : Nat} {l : List Cv} (h : w.ownsRow base 106 4 (.slice (some ⟨g, 0, none⟩) n cap) n (ccells l)) (j : Nat) (hj : j < l.length) :
  w.cell? ⟨g, j * 4, none⟩ = some (.string (l.getD j default).cl.name) ∧ w.cell? ⟨g, j * 4 + 1, none⟩ = some (.string (l.getD j default).cl.super) ∧ w.cell? ⟨g, j * 4 + 2, none⟩ = some (l.getD j default).hm ∧ w.cell? ⟨g, j * 4 + 3, none⟩ = some (l.getD j default).hy := by
 have key : ∀ i u, i < 4 → (cvC (l.getD j default))[i]? = some u → w.cell? ⟨g, j * 4 + i, none⟩ = some u := fun i u hi hu => by
  have := h.cells (g := g) rfl (j * 4 + i) u ((flat_at cvC 4 (fun _ => rfl) default l j i hj hi).trans hu)
  rwa [Go.WideShapes.add_plain, Nat.zero_add] at this
 exact ⟨key 0 _ (by omega) rfl, key 1 _ (by omega) rfl, key 2 _ (by omega) rfl, key 3 _ (by omega) rfl⟩
theorem cv_take (l : List Cv) (k : Nat) (h : k < l.length) : l.take (k + 1) = l.take k ++ [l.getD k default] := by
 rw [List.getD_eq_getElem?_getD, List.getElem?_eq_getElem h]; exact List.take_succ_eq_append_getElem h
theorem cv_mem (l : List Cv) (k : Nat) (h : k < l.length) : l.getD k default ∈ l := by
 rw [List.getD_eq_getElem?_getD, List.getElem?_eq_getElem h]; exact List.getElem_mem h
theorem own_loc {w : World} {base n size : Nat} {e : TypeId} {v : Value} {xs : List Value} (h : w.ownsRow base e size v n xs) (hn : 0 < n) : ∃ g cap, v = .slice (some ⟨g, 0, none⟩) n cap ∧ base ≤ g ∧ g < w.heap.size := by
 rcases h.2 with ⟨rfl, h0⟩ | ⟨g, cap, cur, rfl, _⟩
 ·omega
 ·exact ⟨g, cap, rfl, h.lt g rfl⟩
theorem scells_app (a b : List ByteArray) : scells (a ++ b) = scells a ++ scells b := List.map_append
set_option maxHeartbeats 8000000 in
theorem must_s (mt mc : Option Nat) (w0 : World) (cs : List Cl) (n : ByteArray) (w : World) (h0 : Below w0.heap.size w0 w) (h : CMap w0 w mc cs) (hS : SoundC cs) (hL : cs.length ≤ 1000) (hZ : SmC cs) (hF : FewC cs) (hn : n.size ≤ 1000000000) :
  Calls Tryz.prog 94 #[.agg #[.map mt, .map mc], .string n] w fun e w' => ∃ u : Value, e = .returned u ∧ w'.ownsRow (w.heap.size + 1) 9 1 u (mustS cs n).length (scells (mustS cs n)) ∧ Below w.heap.size w w' := by
 have HZ := Lib.hid hZ; have HF := Lib.hid hF; have H0 := Lib.hid h0
 have hB0 : Below w.heap.size w (w.alloc (.cells #[.map mt, .map mc] 88)) := (Below.refl _ _).alloc (Nat.le_refl _) _
 have HB0 := Lib.hid hB0
 have HC := Lib.hid (lineage_s mt mc w0 cs n _ (h.below hB0) hS hL hZ hn)
 have hlen := lineS_small hS n
 have HS := Lib.hid hS
 clear h hS hZ hF h0 hB0
 go_enter Tryz.func94, Tryz.ntmps94
 go_wp2_with fail
 refine HC.out.mono ?_
 rintro e w1 ⟨u, l, rfl, hl, hok, hown, hb⟩
 have HM := Lib.hid (show ∀ c ∈ l, c.cl ∈ cs from fun c hc => lineS_mem (n := n) (by rw [← hl]; exact List.mem_map_of_mem hc))
 have hll : l.length ≤ 1000 := by rw [← ccls_len, hl]; omega
 have HE := Lib.hid (show mustS cs n = sortU ((mustL (ccls l)).map lowS) by rw [mustS_eq, hl]; rfl)
 have HOK := Lib.hid hok
 have HB1 := Lib.hid (show Below w.heap.size w w1 ∧ w.heap.size + 1 ≤ w1.heap.size from ⟨HB0.out.trans (hb.mono (by simp)), by have := hb.size; simpa using this⟩)
 have HOW := Lib.hid hown
 obtain ⟨ao, cap, rfl⟩ := own_slc hown
 clear hb hok hl hown HB0 HC hlen HS
 go_wp2_with fail
 go_loopw [5, 7, 12] (fun s5 s7 i wr => ∃ (k : Nat), k ≤ l.length ∧ i = .int .i64 k ∧ Hid (wr.ownsRow w1.heap.size 9 1 s5 (mustL (ccls (l.take k))).length (scells (mustL (ccls (l.take k))))) ∧ Hid (Below w1.heap.size w1 wr)) (fun _ _ i _ => l.length - (intOf i).toNat)
 case atStart => exact ⟨0, Nat.zero_le _, rfl, Lib.hid (World.ownsRow_nil _ _ _ _), Lib.hid (Below.refl _ _)⟩
 case round =>
  obtain ⟨k, hk, rfl, HO, HB⟩ := hrel
  by_cases hlt : k < l.length
  ·have d1 : (k : Int) < (l.length : Int) := by omega
   obtain ⟨g, cap', e, hg1, hg2⟩ := own_loc HOW.out (by omega)
   simp only [Value.slice.injEq] at e
   obtain ⟨rfl, _, rfl⟩ := e
   obtain ⟨c0, c1, c2, c3⟩ := cls_at HOW.out k hlt
   have hmem := cv_mem l k hlt
   have HT := Lib.hid (show mustL (ccls (l.take (k + 1))) = mustL (ccls (l.take k)) ++ (l.getD k default).cl.must by rw [cv_take l k hlt, ccls_snoc, mustL_snoc])
   have hcm := HM.out _ hmem
   have hfw := (HF.out _ hcm).1
   obtain ⟨hHm, hHy⟩ := HOK.out _ hmem
   have hlen : (mustL (ccls (l.take k))).length ≤ 64000 := by
    have h1 := flat_few (f := fun c => c.must) (l := ccls (l.take k)) (fun c hc => by
     obtain ⟨d, hd, rfl⟩ := List.mem_map.1 hc
     exact (HF.out _ (HM.out d (List.mem_of_mem_take hd))).1)
    have h2 : (ccls (l.take k)).length ≤ 1000 := by rw [ccls_len, List.length_take]; omega
    show ((ccls (l.take k)).flatMap fun c => c.must).length ≤ 64000
    omega
   obtain ⟨d, hd⟩ : ∃ d, l.getD k default = d := ⟨_, rfl⟩
   rw [hd] at c0 c1 c2 c3 HT hfw hHm hHy
   clear hd hmem hcm
   obtain ⟨vo, vn, vc, e1, hv⟩ := hHm
   obtain ⟨uo, un, uc, e2, hu⟩ := hHy
   rw [e1] at c2
   rw [e2] at c3
   clear e1 e2 hu
   have c0 := cell_later HB.out c0
   have c1 := cell_later HB.out c1
   have c2 := cell_later HB.out c2
   have c3 := cell_later HB.out c3
   have hvn := hv.1
   have hal := (Below.refl wr.heap.size wr).alloc (Nat.le_refl _) (.cells #[.string d.cl.name, .string d.cl.super, .slice vo vn vc, .slice uo un uc] 106)
   have HV := Lib.hid (show StrsAt (wr.alloc (.cells #[.string d.cl.name, .string d.cl.super, .slice vo vn vc, .slice uo un uc] 106)) vo vn vc d.cl.must from ((hv.below (H0.out.trans (HB1.out.1.mono H0.out.size))).below (HB.out.trans (hal.mono HB.out.size))))
   have hown1 := HO.out.alloc (.cells #[.string d.cl.name, .string d.cl.super, .slice vo vn vc, .slice uo un uc] 106)
   have hsz1 : w1.heap.size ≤ (wr.alloc (.cells #[.string d.cl.name, .string d.cl.super, .slice vo vn vc, .slice uo un uc] 106)).heap.size := by have := HB.out.size; simp; omega
   have HAL := Lib.hid (HB.out.trans (hal.mono HB.out.size))
   clear hv hal
   go_wp2_with (at_builtin; go_must (refine push_strs (wr.alloc (.cells #[.string d.cl.name, .string d.cl.super, .slice vo vn vc, .slice uo un uc] 106)) hown1 (.tmp 16) (.tmp 18) HV.out ?_ ?_ ?_ ?_ ?_ ?_ ?_; exact rfl; exact rfl; exact rfl; exact rfl; omega; exact hsz1; intro v3 w3 hown3 hg3 hl3))
   have HO3 := Lib.hid hown3
   have HB3 := Lib.hid (HAL.out.grown hg3 hsz1 (fun q e => (hown1.lt q e).1))
   clear hown3 hg3 hl3 hown1
   go_roundw
   case rel =>
    refine ⟨k + 1, by omega, by go_num, Lib.hid ?_, HB3⟩
    rw [HT.out, List.length_append, hvn, scells_app]
    exact HO3.out
   case measure => simp [intOf]; omega
  ·obtain rfl : k = l.length := by omega
   have d1 : ¬ (l.length : Int) < (l.length : Int) := by omega
   rw [List.take_length] at HO
   have hlen : (mustL (ccls l)).length ≤ 64000 := by
    have h1 := flat_few (f := fun c => c.must) (l := ccls l) (fun c hc => by
     obtain ⟨d, hd, rfl⟩ := List.mem_map.1 hc
     exact (HF.out _ (HM.out d hd)).1)
    have h2 : (ccls l).length ≤ 1000 := by rw [ccls_len]; omega
    show ((ccls l).flatMap fun c => c.must).length ≤ 64000
    omega
   have HC := Lib.hid (ascendingF_s w1.heap.size _ _ (mustL (ccls l)) wr HO.out rfl (by omega) (fun s hs => by
    obtain ⟨c, hc, hsc⟩ := List.mem_flatMap.1 hs
    obtain ⟨d, hd, rfl⟩ := List.mem_map.1 hc
    exact (HZ.out _ (HM.out d hd)).2.2.1 s hsc) HB.out.size)
   go_wp2_with fail
   refine HC.out.mono ?_
   rintro e w3 ⟨u, rfl, ho, hb⟩
   have HO3 := Lib.hid ho
   have HB3 := Lib.hid (HB.out.trans hb)
   clear ho hb
   go_wp2_with fail
   go_ret
   exact ⟨_, rfl, by rw [HE.out]; exact HO3.out.mono HB1.out.2, HB1.out.1.trans (HB3.out.mono (by have := HB1.out.2; omega))⟩
set_option maxHeartbeats 4000000 in
theorem typeF_s (v : Value) (ts : List Ty) (cs : List Cl) (n : ByteArray) (w : World) (h : SchV w v ts cs) (hn : n.size ≤ 1000000000) :
  Calls Tryz.prog 55 #[v, .string n] w fun e w' => e = .returned (.tuple #[tyV ((tyOf (soundT ts cs) n).getD zeroTy), .bool (tyOf (soundT ts cs) n).isSome]) ∧ Below w.heap.size w w' := by
 have h' := h
 obtain ⟨ao, k, cap, bo, m, dap, rfl, _⟩ := h'
 have hb0 : Below w.heap.size w ((w.alloc (.cells #[.slice ao k cap, .slice bo m dap] 25)).alloc (.cells #[.string ⟨#[]⟩, .int .i64 0, .bool false] 104)) := ((Below.refl _ _).alloc (Nat.le_refl _) _).alloc (by simp) _
 have HB0 := Lib.hid hb0
 have HC := Lib.hid (accepted_s _ ts cs _ (h.below hb0))
 clear h hb0
 obtain ⟨u, hu⟩ : ∃ u, (tyOf (soundT ts cs) n).getD zeroTy = u := ⟨_, rfl⟩
 obtain ⟨ok, hok⟩ : ∃ b, (tyOf (soundT ts cs) n).isSome = b := ⟨_, rfl⟩
 have HU := Lib.hid (And.intro hu hok)
 rw [hu, hok]
 unfold tyV
 clear hu hok
 go_enter Tryz.func55, Tryz.ntmps55
 go_wp2_with fail
 refine HC.out.mono ?_
 rintro e w1 ⟨tv, rfl, ⟨m1, m2, rfl, hT, _⟩, hb⟩
 have HB1 := Lib.hid (HB0.out.trans (hb.mono (by simp; omega)))
 have HC2 := typeOf_s m1 m2 (soundT ts cs) n w1 hT hn
 rw [HU.out.1, HU.out.2] at HC2
 unfold tyV at HC2
 have HC3 := Lib.hid HC2
 have r0 : w1.cell? ⟨w.heap.size + 1, 0, none⟩ = some (.string ⟨#[]⟩) := cell_later hb (by go_simp)
 have r1 : w1.cell? ⟨w.heap.size + 1, 1, none⟩ = some (.int .i64 0) := cell_later hb (by go_simp)
 have r2 : w1.cell? ⟨w.heap.size + 1, 2, none⟩ = some (.bool false) := cell_later hb (by go_simp)
 have f0 := frozen_later (i := 0) hb (b := w.heap.size + 1) (by simp) (by go_simp)
 have f1 := frozen_later (i := 1) hb (b := w.heap.size + 1) (by simp) (by go_simp)
 have f2 := frozen_later (i := 2) hb (b := w.heap.size + 1) (by simp) (by go_simp)
 have hs1 : w.heap.size + 1 < w1.heap.size := by have := hb.size; simp at this; omega
 have HR := Lib.hid (And.intro r0 (And.intro r1 (And.intro r2 (And.intro f0 (And.intro f1 f2)))))
 clear hb hT HC HB0 HC2 r0 r1 r2 f0 f1 f2
 go_wp2_with fail
 refine HC3.out.mono ?_
 rintro e w2 ⟨rfl, hb⟩
 have r0 := cell_later hb HR.out.1
 have r1 := cell_later hb HR.out.2.1
 have r2 := cell_later hb HR.out.2.2.1
 have f0 := frozen_later hb hs1 HR.out.2.2.2.1
 have f1 := frozen_later hb hs1 HR.out.2.2.2.2.1
 have f2 := frozen_later hb hs1 HR.out.2.2.2.2.2
 have HB2 := Lib.hid (HB1.out.trans (hb.mono HB1.out.size))
 have hs0 : w.heap.size ≤ w.heap.size + 1 := Nat.le_succ _
 clear hb HC3 HR
 go_wp2_with fail
 refine bodyPost_ret (v := .tuple #[.agg #[.string u.name, .int .i64 u.syn, .bool u.single], .bool ok]) (by simp only [results, Tryz.results55]; go_simp) rfl ?_
 exact ⟨rfl, below_set1 (below_set1 (below_set1 HB2.out (w.heap.size + 1) 0 hs0 _) (w.heap.size + 1) 1 hs0 _) (w.heap.size + 1) 2 hs0 _⟩
theorem mustL_few {cs : List Cl} (hF : FewC cs) {l : List Cl} (hl : ∀ c ∈ l, c ∈ cs) (hn : l.length ≤ 1000) : (mustL l).length ≤ 64000 := by
 have := flat_few (f := fun c => c.must) (l := l) (fun c hc => (hF c (hl c hc)).1)
 show (l.flatMap fun c => c.must).length ≤ 64000
 omega
theorem mayL_few {cs : List Cl} (hF : FewC cs) {l : List Cl} (hl : ∀ c ∈ l, c ∈ cs) (hn : l.length ≤ 1000) : (mayL l).length ≤ 64000 := by
 have := flat_few (f := fun c => c.may) (l := l) (fun c hc => (hF c (hl c hc)).2)
 show (l.flatMap fun c => c.may).length ≤ 64000
 omega
theorem mustS_few {cs : List Cl} (hS : SoundC cs) (hL : cs.length ≤ 1000) (hF : FewC cs) (n : ByteArray) : (mustS cs n).length ≤ 64000 := by
 rw [mustS_eq]
 refine Nat.le_trans (sortU_len _) ?_
 rw [List.length_map]
 exact mustL_few hF (fun c hc => lineS_mem hc) (Nat.le_trans (lineS_small hS n) hL)
theorem mustS_small {cs : List Cl} (hZ : SmC cs) {n s : ByteArray} (h : s ∈ mustS cs n) : s.size ≤ 1000000000 := by
 rw [mustS_eq, sortU_mem] at h
 obtain ⟨t, ht, rfl⟩ := List.mem_map.1 h
 obtain ⟨c, hc, hs⟩ := List.mem_flatMap.1 ht
 rw [lowS_size]
 exact (hZ c (lineS_mem hc)).2.2.1 t hs
set_option maxHeartbeats 8000000 in
theorem may_s (mt mc : Option Nat) (w0 : World) (cs : List Cl) (n : ByteArray) (w : World) (h0 : Below w0.heap.size w0 w) (h : CMap w0 w mc cs) (hS : SoundC cs) (hL : cs.length ≤ 1000) (hZ : SmC cs) (hF : FewC cs) (hn : n.size ≤ 1000000000) :
  Calls Tryz.prog 95 #[.agg #[.map mt, .map mc], .string n] w fun e w' => ∃ u : Value, e = .returned u ∧ w'.ownsRow (w.heap.size + 1) 9 1 u (mayS cs n).length (scells (mayS cs n)) ∧ Below w.heap.size w w' := by
 have HZ := Lib.hid hZ; have HF := Lib.hid hF; have H0 := Lib.hid h0
 have hB0 : Below w.heap.size w (w.alloc (.cells #[.map mt, .map mc] 88)) := (Below.refl _ _).alloc (Nat.le_refl _) _
 have HB0 := Lib.hid hB0
 have HC0 := Lib.hid (must_s mt mc w0 cs n _ (h0.trans (hB0.mono h0.size)) (h.below hB0) hS hL hZ hF hn)
 have HC := Lib.hid (fun (W : World) (hW : Below w.heap.size w W) => lineage_s mt mc w0 cs n W (h.below hW) hS hL hZ hn)
 have hlen := lineS_small hS n
 have hms := mustS_few hS hL hF n
 have HS := Lib.hid (fun s (hs : s ∈ mustS cs n) => mustS_small hZ hs)
 clear h hS hZ hF h0 hB0
 go_enter Tryz.func95, Tryz.ntmps95
 go_wp2_with fail
 refine HC0.out.mono ?_
 rintro e w1 ⟨u0, rfl, hown0, hb⟩
 have m0 : w1.cell? ⟨w.heap.size, 0, none⟩ = some (.map mt) := cell_later hb (by go_simp)
 have m1 : w1.cell? ⟨w.heap.size, 1, none⟩ = some (.map mc) := cell_later hb (by go_simp)
 have HB1 := Lib.hid (show Below w.heap.size w w1 ∧ w.heap.size + 1 ≤ w1.heap.size from ⟨HB0.out.trans (hb.mono (by simp)), by have := hb.size; simpa using this⟩)
 have HO0 := Lib.hid (hown0.mono (base' := w.heap.size + 1) (by simp))
 clear hb HC0 HB0 hown0
 go_wp2_with fail
 refine (HC.out w1 HB1.out.1).mono ?_
 rintro e w2 ⟨u, l, rfl, hl, hok, hown, hb⟩
 have HM := Lib.hid (show ∀ c ∈ l, c.cl ∈ cs from fun c hc => lineS_mem (n := n) (by rw [← hl]; exact List.mem_map_of_mem hc))
 have hll : l.length ≤ 1000 := by rw [← ccls_len, hl]; omega
 have HE := Lib.hid (show mayS cs n = sortU ((mustS cs n ++ mayL (ccls l)).map lowS) by rw [mayS_eq, hl]; rfl)
 have HOK := Lib.hid hok
 obtain ⟨ao, cap, rfl⟩ := own_slc hown
 have HN := Lib.hid (show (Value.slice ao l.length cap).ownBlock = none ∨ (Value.slice ao l.length cap).ownBlock ≠ u0.ownBlock by
  cases e : (Value.slice ao l.length cap).ownBlock with
  | none => exact .inl rfl
  | some q =>
   refine .inr fun e2 => ?_
   have h1 := (hown.lt q e).1
   have h2 := (HO0.out.lt q e2.symm).2
   omega)
 have HOW := Lib.hid (hown.mono (base' := w.heap.size + 1) (by have := HB1.out.2; omega))
 have HO2 := Lib.hid (own_below HO0.out hb)
 have HB2 := Lib.hid (show Below w.heap.size w w2 ∧ w.heap.size + 1 ≤ w2.heap.size from ⟨HB1.out.1.trans (hb.mono HB1.out.1.size), Nat.le_trans HB1.out.2 hb.size⟩)
 clear hb hok hl hown HC HO0 HB1 hlen m0 m1
 obtain ⟨ms, hmse⟩ : ∃ ms, mustS cs n = ms := ⟨_, rfl⟩
 rw [hmse] at HE HS HO2 hms
 clear hmse
 go_wp2_with fail
 go_loopw [5, 7, 15] (fun s5 s7 i wr => ∃ (k : Nat), k ≤ l.length ∧ i = .int .i64 k ∧ Hid (wr.ownsRow (w.heap.size + 1) 9 1 s5 (ms ++ mayL (ccls (l.take k))).length (scells (ms ++ mayL (ccls (l.take k))))) ∧ Hid (wr.ownsRow (w.heap.size + 1) 106 4 (.slice ao l.length cap) l.length (ccells l)) ∧ Hid ((Value.slice ao l.length cap).ownBlock = none ∨ (Value.slice ao l.length cap).ownBlock ≠ s5.ownBlock) ∧ Hid (Below w.heap.size w wr ∧ w.heap.size + 1 ≤ wr.heap.size)) (fun _ _ i _ => l.length - (intOf i).toNat)
 case atStart => exact ⟨0, Nat.zero_le _, rfl, Lib.hid (by simpa [mayL, ccls] using HO2.out), HOW, HN, HB2⟩
 case round =>
  clear HO2 HOW HN HB2
  obtain ⟨k, hk, rfl, HO, HOW, HN, HB⟩ := hrel
  have hlen : (mayL (ccls (l.take k))).length ≤ 64000 := mayL_few HF.out (fun c hc => by
   obtain ⟨d, hd, rfl⟩ := List.mem_map.1 hc
   exact HM.out d (List.mem_of_mem_take hd)) (by rw [ccls_len, List.length_take]; omega)
  have hlen2 : (ms ++ mayL (ccls (l.take k))).length ≤ 128000 := by rw [List.length_append]; omega
  by_cases hlt : k < l.length
  ·have d1 : (k : Int) < (l.length : Int) := by omega
   obtain ⟨g, cap', e, hg1, hg2⟩ := own_loc HOW.out (by omega)
   simp only [Value.slice.injEq] at e
   obtain ⟨rfl, _, rfl⟩ := e
   obtain ⟨c0, c1, c2, c3⟩ := cls_at HOW.out k hlt
   have hmem := cv_mem l k hlt
   have HT := Lib.hid (show ms ++ mayL (ccls (l.take (k + 1))) = (ms ++ mayL (ccls (l.take k))) ++ (l.getD k default).cl.may by rw [cv_take l k hlt, ccls_snoc, mayL_snoc, List.append_assoc])
   have hcm := HM.out _ hmem
   have hfw := (HF.out _ hcm).2
   obtain ⟨hHm, hHy⟩ := HOK.out _ hmem
   obtain ⟨d, hd⟩ : ∃ d, l.getD k default = d := ⟨_, rfl⟩
   rw [hd] at c0 c1 c2 c3 HT hfw hHm hHy
   clear hd hmem hcm
   obtain ⟨vo, vn, vc, e1, hv⟩ := hHy
   obtain ⟨uo, un, uc, e2, hu⟩ := hHm
   rw [e1] at c3
   rw [e2] at c2
   clear e1 e2 hu
   have hvn := hv.1
   have hal := (Below.refl wr.heap.size wr).alloc (Nat.le_refl _) (.cells #[.string d.cl.name, .string d.cl.super, .slice uo un uc, .slice vo vn vc] 106)
   have HV := Lib.hid (show StrsAt (wr.alloc (.cells #[.string d.cl.name, .string d.cl.super, .slice uo un uc, .slice vo vn vc] 106)) vo vn vc d.cl.may from ((hv.below (H0.out.trans (HB.out.1.mono H0.out.size))).below hal))
   have hown1 := HO.out.alloc (.cells #[.string d.cl.name, .string d.cl.super, .slice uo un uc, .slice vo vn vc] 106)
   have HW1 := Lib.hid (HOW.out.alloc (.cells #[.string d.cl.name, .string d.cl.super, .slice uo un uc, .slice vo vn vc] 106))
   have hsz1 : w.heap.size + 1 ≤ (wr.alloc (.cells #[.string d.cl.name, .string d.cl.super, .slice uo un uc, .slice vo vn vc] 106)).heap.size := by have := HB.out.2; simp; omega
   have HAL := Lib.hid (HB.out.1.trans (hal.mono (by have := HB.out.2; omega)))
   clear hv hal
   go_wp2_with (at_builtin; go_must (refine push_strs (wr.alloc (.cells #[.string d.cl.name, .string d.cl.super, .slice uo un uc, .slice vo vn vc] 106)) hown1 (.tmp 19) (.tmp 21) HV.out ?_ ?_ ?_ ?_ ?_ ?_ ?_; exact rfl; exact rfl; exact rfl; exact rfl; omega; exact hsz1; intro v3 w3 hown3 hg3 hl3))
   have HO3 := Lib.hid hown3
   have HB3 := Lib.hid (show Below w.heap.size w w3 ∧ w.heap.size + 1 ≤ w3.heap.size from ⟨HAL.out.grown hg3 (by omega) (fun q e => by have := (hown1.lt q e).1; omega), Nat.le_trans hsz1 hg3.size⟩)
   have HW3 := Lib.hid (HW1.out.kept hg3 HN.out)
   have HN3 := Lib.hid (show (Value.slice (some ⟨g, 0, none⟩) l.length cap).ownBlock = none ∨ (Value.slice (some ⟨g, 0, none⟩) l.length cap).ownBlock ≠ v3.ownBlock by
    rcases hl3 with h1 | h1
    ·rw [h1]; exact HN.out
    ·refine .inr fun e2 => ?_
     rw [h1] at e2
     have := (HOW.out.lt _ e2).2
     simp at this
     omega)
   clear hown3 hg3 hl3 hown1
   go_roundw
   case rel =>
    refine ⟨k + 1, by omega, by go_num, Lib.hid ?_, HW3, HN3, HB3⟩
    rw [HT.out, List.length_append, hvn, scells_app]
    exact HO3.out
   case measure => simp [intOf]; omega
  ·obtain rfl : k = l.length := by omega
   have d1 : ¬ (l.length : Int) < (l.length : Int) := by omega
   rw [List.take_length] at HO hlen hlen2
   have HC := Lib.hid (ascendingF_s (w.heap.size + 1) _ _ (ms ++ mayL (ccls l)) wr HO.out rfl (by omega) (fun s hs => by
    rcases List.mem_append.1 hs with h | h
    ·exact HS.out s h
    ·obtain ⟨c, hc, hsc⟩ := List.mem_flatMap.1 h
     obtain ⟨d, hd, rfl⟩ := List.mem_map.1 hc
     exact (HZ.out _ (HM.out d hd)).2.2.2 s hsc) HB.out.2)
   go_wp2_with fail
   refine HC.out.mono ?_
   rintro e w3 ⟨u, rfl, ho, hb⟩
   have HO3 := Lib.hid ho
   have HB3 := Lib.hid (HB.out.1.trans (hb.mono (Nat.le_succ _)))
   clear ho hb
   go_wp2_with fail
   go_ret
   exact ⟨_, rfl, by rw [HE.out]; exact HO3.out, HB3.out⟩
end Go.Proofs.YtonfkhkalodldabGreatDoor
end

section
set_option maxRecDepth 100000
namespace Go.Proofs.YtonfkhkalodldabGreatDoor
open Go.RowKit Go.PlainAid
namespace Nam
theorem fmt_size {l : List Pr} (h : fmtE l = 0) : (fmtV l).size ≤ 1100000 := by
 obtain ⟨h1, h2⟩ := fmtE_ok h
 have hb := barC_len 600 (l.map fmtC) (fun p hq => by
  obtain ⟨q, hq1, rfl⟩ := List.mem_map.1 hq
  have := prE_small (h1 q hq1)
  have := fmtC_len q
  omega)
 rw [List.length_map] at hb
 have : l.length * (600 + 1) ≤ 8 * 601 := Nat.mul_le_mul_right _ h2
 unfold fmtV
 rw [if_pos h, ofB_size]; omega
theorem clean_size (s : ByteArray) : (cleanV s).size ≤ 1100000 := by
 unfold cleanV
 by_cases h : parseE s = 0
 ·rw [if_pos h]; exact fmt_size (fmt_parse_ok h)
 ·rw [if_neg h]; exact Nat.zero_le _
end Nam
theorem formS_small {x : Int} {s f : ByteArray} (hs : s.size ≤ 1100000) (h : formS x s = some f) : f.size ≤ 1000000000 := by
 unfold formS at h
 split at h
 ·obtain rfl := Option.some.inj h; have := foldS_size s; omega
 ·split at h
  ·obtain rfl := Option.some.inj h; omega
  ·split at h
   ·cases hn : numS s with
    | none => rw [hn] at h; cases h
    | some n =>
     rw [hn] at h
     obtain rfl := Option.some.inj h
     have hb : -9223372036854775808 ≤ n ∧ n ≤ 9223372036854775807 := by
      unfold numS at hn
      split at hn
      ·split at hn
       ·rename_i v hv
        obtain rfl := Option.some.inj hn
        exact Lib.atoiAll_bounds hv
       ·cases hn
      ·cases hn
     have := Lib.itoa_length_le n hb.1 hb.2
     have e : (ofL (Lib.itoa n)).size = (Lib.itoa n).length := by unfold ofL; exact Lib.size_mk _
     show (ofL (Lib.itoa n)).size ≤ 1000000000
     omega
   ·split at h
    ·split at h
     ·obtain rfl := Option.some.inj h; have := Nam.clean_size s; omega
     ·cases h
    ·unfold truthS at h
     split at h
     ·obtain rfl := Option.some.inj h; decide
     ·split at h
      ·obtain rfl := Option.some.inj h; decide
      ·cases h
def nrmE (T : List Ty) (n v : ByteArray) : Int := match tyOf T n with
 | none => 6
 | some t => normE t.syn v
def nrmV (T : List Ty) (n v : ByteArray) : ByteArray := match tyOf T n with
 | none => ⟨#[]⟩
 | some t => (normS t.syn v).getD ⟨#[]⟩
set_option maxHeartbeats 4000000 in
theorem normalF_s (v : Value) (ts : List Ty) (cs : List Cl) (n s : ByteArray) (w : World) (h : SchV w v ts cs) (hn : n.size ≤ 1000000000) (hs : s.size ≤ 1100000) (ho : IntOk w) :
  Calls Tryz.prog 42 #[v, .string n, .string s] w fun e w' => e = .returned (.tuple #[.string (nrmV (soundT ts cs) n s), .int .i64 (nrmE (soundT ts cs) n s)]) ∧ Below w.heap.size w w' := by
 have h' := h
 obtain ⟨ao, k, cap, bo, m, dap, rfl, _⟩ := h'
 have hb0 : Below w.heap.size w (w.alloc (.cells #[.slice ao k cap, .slice bo m dap] 25)) := (Below.refl _ _).alloc (Nat.le_refl _) _
 have HB0 := Lib.hid hb0
 have HC := Lib.hid (typeF_s _ ts cs n _ (h.below hb0) hn)
 have HO := Lib.hid (ho.below hb0)
 clear h hb0 ho
 go_enter Tryz.func42, Tryz.ntmps42
 go_wp2_with fail
 refine HC.out.mono ?_
 rintro e w1 ⟨rfl, hb⟩
 have hsz1 : w.heap.size < w1.heap.size := by have := hb.size; simp at this; omega
 have HB1 := Lib.hid (HB0.out.trans (hb.mono (by simp)))
 have HO1 := Lib.hid (HO.out.below hb)
 clear hb HC HB0 HO
 unfold tyV
 cases ht : tyOf (soundT ts cs) n with
 | none =>
  have HE := Lib.hid (show nrmV (soundT ts cs) n s = ⟨#[]⟩ ∧ nrmE (soundT ts cs) n s = 6 by unfold nrmV nrmE; rw [ht]; exact ⟨rfl, rfl⟩)
  clear ht
  dsimp only [Option.getD, Option.isSome, zeroTy]
  go_wp2_with fail
  go_ret2
  exact ⟨by rw [HE.out.1, HE.out.2]; rfl, HB1.out.alloc (by omega) _⟩
 | some t =>
  have HE := Lib.hid (show nrmV (soundT ts cs) n s = (normS t.syn s).getD ⟨#[]⟩ ∧ nrmE (soundT ts cs) n s = normE t.syn s by unfold nrmV nrmE; rw [ht]; exact ⟨rfl, rfl⟩)
  clear ht
  dsimp only [Option.getD, Option.isSome]
  have hal := (Below.refl w1.heap.size w1).alloc (Nat.le_refl _) (.cells #[.string t.name, .int .i64 t.syn, .bool t.single] 104)
  have HC2 := Lib.hid (normal_s t.syn s _ hs (HO1.out.below hal) (fun f hf => formS_small hs hf))
  have HAL := Lib.hid (HB1.out.trans (hal.mono (Nat.le_of_lt hsz1)))
  clear hal
  go_wp2_with fail
  refine HC2.out.mono ?_
  rintro e w2 ⟨rfl, hb⟩
  have HB2 := Lib.hid (HAL.out.trans (hb.mono HAL.out.size))
  clear hb
  go_wp2_with fail
  go_ret2
  exact ⟨by rw [HE.out.1, HE.out.2]; rfl, HB2.out⟩
end Go.Proofs.YtonfkhkalodldabGreatDoor
end

section
set_option maxRecDepth 100000
namespace Go.Proofs.YtonfkhkalodldabGreatDoor
open Go.RowKit Go.PlainAid
theorem all_take {f : ByteArray → Bool} {ns : List ByteArray} {k : Nat} (h : (ns.take k).all f = true) (hk : k < ns.length) (h1 : f (partAt ns k) = true) : (ns.take (k + 1)).all f = true := by
 rw [take_snoc ns k hk, List.all_append, h]
 simpa using h1
theorem all_false {f : ByteArray → Bool} {ns : List ByteArray} {k : Nat} (hk : k < ns.length) (h1 : f (partAt ns k) = false) : ns.all f = false := by
 cases e : ns.all f
 ·rfl
 ·have := (List.all_eq_true.1 e) _ (part_mem ns k hk)
  rw [h1] at this; cases this
theorem contains_s (b m : Nat) (D : DataW Unit) (ks : List ByteArray) (ao : Option Addr) (n cap : Nat) (ns : List ByteArray) (w : World) (hG : SetM w b m D ks) (hs : StrsAt w ao n cap ns) (hz : ∀ s ∈ ns, s.size ≤ 1000000000) :
  Calls Tryz.prog 93 #[.map (some b), .slice ao n cap] w fun e w' => e = .returned (.bool (ns.all (memB ks))) ∧ w = w' := by
 obtain ⟨h1, h2, h3, h4⟩ := hs
 subst h1
 unfold maxLen at h3
 have H4 := Lib.hid h4; clear h4
 have HZ := Lib.hid hz; clear hz
 have HG := Lib.hid hG; clear hG
 go_enter Tryz.func93, Tryz.ntmps93
 go_wp2
 go_loopw [6, 9] (fun s6 i wr => ∃ k : Nat, k ≤ ns.length ∧ i = .int .i64 k ∧ Hid ((ns.take k).all (memB ks) = true) ∧ w = wr) (fun _ i _ => ns.length - (intOf i).toNat)
 case atStart => exact ⟨0, Nat.zero_le _, rfl, Lib.hid rfl, rfl⟩
 case round =>
  obtain ⟨k, hk, rfl, HA, rfl⟩ := hrel
  by_cases hlt : k < ns.length
  ·obtain ⟨g, off, rfl, hs⟩ := H4.out (by omega)
   have hcell := hs.2 k hlt
   clear hs
   obtain ⟨p, hp⟩ : ∃ x, partAt ns k = x := ⟨_, rfl⟩
   have hps : p.size ≤ 1000000000 := by rw [← hp]; exact HZ.out _ (part_mem ns k hlt)
   have hlook := HG.out.look p (by unfold maxLen; omega)
   have d1 : (k : Int) < (ns.length : Int) := by omega
   rw [hp] at hcell
   cases ht : memB ks p
   ·have HE := Lib.hid (show ns.all (memB ks) = false from all_false hlt (by rw [hp]; exact ht))
    rw [ht] at hlook
    clear ht hp
    go_wp2_with fail
    go_ret
    exact ⟨by rw [HE.out]; rfl, rfl⟩
   ·have HA2 := Lib.hid (all_take HA.out hlt (by rw [hp]; exact ht))
    rw [ht] at hlook
    clear ht hp
    go_wp2_with fail
    go_roundw
    case rel => exact ⟨k + 1, by omega, by go_num, HA2, trivial⟩
    case measure => simp [intOf]; omega
  ·have hk2 : k = ns.length := by omega
   have HE := Lib.hid (show ns.all (memB ks) = true by have := HA.out; rw [hk2, List.take_length] at this; exact this)
   have d1 : ¬ (k : Int) < (ns.length : Int) := by omega
   go_wp2_with fail
   go_ret
   exact ⟨by rw [HE.out]; rfl, rfl⟩
def valE (x : Int) (vs : List ByteArray) : Int := firstE (fun j => normE x (partAt vs j)) vs.length
def chkAt (T : List Ty) (a : At) : Int := match tyOf T a.1 with
 | none => 6
 | some t => if valE t.syn a.2 ≠ 0 then valE t.syn a.2 else if t.single = true ∧ 1 < a.2.length then 9 else 0
set_option maxHeartbeats 8000000 in
theorem checkAttr_s (mt mc : Option Nat) (ts : List Ty) (a : At) (vo : Option Addr) (vn vc : Nat) (w : World) (h : TMap w mt ts) (hv : StrsAt w vo vn vc a.2) (hn : a.1.size ≤ 1100000) (hz : SmallS a.2) (ho : IntOk w) :
  Calls Tryz.prog 46 #[.agg #[.map mt, .map mc], .agg #[.string a.1, .slice vo vn vc]] w fun e w' => e = .returned (.int .i64 (chkAt ts a)) ∧ Below w.heap.size w w' := by
 obtain ⟨nm, vs⟩ := a
 simp only at hv hn hz ⊢
 have hb0 : Below w.heap.size w ((w.alloc (.cells #[.map mt, .map mc] 88)).alloc (.cells #[.string nm, .slice vo vn vc] 41)) := ((Below.refl _ _).alloc (Nat.le_refl _) _).alloc (by simp) _
 have HB0 := Lib.hid hb0
 have HC := Lib.hid (typeOf_s mt mc ts nm _ (h.below hb0) (by omega))
 have HO := Lib.hid (ho.below hb0)
 have HV := Lib.hid hv
 have HZ := Lib.hid hz
 have hvl := hv.1
 have hvm := hv.2.2.1
 unfold maxLen at hvm
 have hvc := hv.2.1
 clear h hb0 ho hv hz
 go_enter Tryz.func46, Tryz.ntmps46
 go_wp2_with fail
 refine HC.out.mono ?_
 rintro e w1 ⟨rfl, hb⟩
 have hsz1 : w.heap.size + 1 < w1.heap.size := by have := hb.size; simp at this; omega
 have q0 : w1.cell? ⟨w.heap.size + 1, 0, none⟩ = some (.string nm) := cell_later hb (by go_simp)
 have q1 : w1.cell? ⟨w.heap.size + 1, 1, none⟩ = some (.slice vo vn vc) := cell_later hb (by go_simp)
 have HB1 := Lib.hid (HB0.out.trans (hb.mono (by simp; omega)))
 have HO1 := Lib.hid (HO.out.below hb)
 clear hb HC HB0 HO
 unfold tyV
 cases ht : tyOf ts nm with
 | none =>
  have HE := Lib.hid (show chkAt ts (nm, vs) = 6 by unfold chkAt; simp only; rw [ht])
  clear ht
  dsimp only [Option.getD, Option.isSome, zeroTy]
  go_wp2_with fail
  go_ret
  exact ⟨by rw [HE.out]; rfl, HB1.out.alloc (by omega) _⟩
 | some t =>
  have HE := Lib.hid (show chkAt ts (nm, vs) = if valE t.syn vs ≠ 0 then valE t.syn vs else if t.single = true ∧ 1 < vs.length then 9 else 0 by unfold chkAt; simp only; rw [ht])
  clear ht
  dsimp only [Option.getD, Option.isSome]
  obtain ⟨tn, syn, sg⟩ := t
  dsimp only at HE ⊢
  have hal := (Below.refl w1.heap.size w1).alloc (Nat.le_refl _) (.cells #[.string tn, .int .i64 syn, .bool sg] 104)
  have HI := Lib.hid (show (w1.alloc (.cells #[.string tn, .int .i64 syn, .bool sg] 104)).cell? ⟨w1.heap.size, 1, none⟩ = some (.int .i64 syn) ∧ (w1.alloc (.cells #[.string tn, .int .i64 syn, .bool sg] 104)).cell? ⟨w1.heap.size, 2, none⟩ = some (.bool sg) ∧ (w1.alloc (.cells #[.string tn, .int .i64 syn, .bool sg] 104)).cell? ⟨w.heap.size + 1, 1, none⟩ = some (.slice vo vn vc) from ⟨by go_simp, by go_simp, cell_later hal q1⟩)
  have HB2 := Lib.hid (HB1.out.trans (hal.mono (by omega)))
  have HO2 := Lib.hid (HO1.out.below hal)
  clear hal
  go_wp2_with fail
  go_loopw [8, 9, 10, 23] (fun s8 s9 s10 i wr => ∃ k : Nat, k ≤ vn ∧ i = .int .i64 k ∧ Hid (∀ q, q < k → normE syn (partAt vs q) = 0) ∧ Hid (wr.cell? ⟨w1.heap.size, 1, none⟩ = some (.int .i64 syn) ∧ wr.cell? ⟨w1.heap.size, 2, none⟩ = some (.bool sg) ∧ wr.cell? ⟨w.heap.size + 1, 1, none⟩ = some (.slice vo vn vc)) ∧ Hid (IntOk wr) ∧ Hid (Below w.heap.size w wr)) (fun _ _ _ i _ => vn - (intOf i).toNat)
  case atStart => exact ⟨0, Nat.zero_le _, rfl, Lib.hid (fun q hq => absurd hq (Nat.not_lt_zero _)), HI, HO2, HB2⟩
  case round =>
   clear HI HO2 HB2
   obtain ⟨k, hk, rfl, HA, HI, HO, HB⟩ := hrel
   obtain ⟨i0, i1, i2⟩ := HI.out
   by_cases hlt : k < vn
   ·obtain ⟨b, off, rfl, hs⟩ := HV.out.2.2.2 (by omega)
    have hcell := (hs.below HB.out hs.1).2 k (by omega)
    clear hs
    have hps := HZ.out _ (part_mem vs k (by omega))
    obtain ⟨p, hp⟩ : ∃ x, partAt vs k = x := ⟨_, rfl⟩
    rw [hp] at hcell hps
    have HC := Lib.hid (normal_s syn p wr hps HO.out (fun f hf => formS_small hps hf))
    obtain ⟨fv, hfv⟩ : ∃ f, (normS syn p).getD ⟨#[]⟩ = f := ⟨_, rfl⟩
    obtain ⟨ev, hev⟩ : ∃ e, normE syn p = e := ⟨_, rfl⟩
    rw [hfv, hev] at HC
    have d1 : (k : Int) < (vn : Int) := by omega
    have HP := Lib.hid (And.intro hp hev)
    clear hp hfv hev
    go_wp2_with fail
    refine HC.out.mono ?_
    rintro e w2 ⟨rfl, hb⟩
    have HI2 := Lib.hid (And.intro (cell_later hb i0) (And.intro (cell_later hb i1) (cell_later hb i2)))
    have HO3 := Lib.hid (HO.out.below hb)
    have HB3 := Lib.hid (HB.out.trans (hb.mono HB.out.size))
    clear hb i0 i1 i2 HC
    by_cases he : ev = 0
    ·subst he
     go_wp2_with fail
     go_roundw
     case rel =>
      refine ⟨k + 1, by omega, by go_num, Lib.hid fun q hq => ?_, HI2, HO3, HB3⟩
      rcases Nat.lt_or_ge q k with h | h
      ·exact HA.out q h
      ·obtain rfl : q = k := by omega
       rw [HP.out.1]; exact HP.out.2
     case measure => simp [intOf]; omega
    ·have hve : valE syn vs = ev := by
      unfold valE
      rw [firstE_hit (k := k) HA.out (by rw [HP.out.1, HP.out.2]; exact he) (by omega), HP.out.1, HP.out.2]
     have HE2 := Lib.hid (show chkAt ts (nm, vs) = ev from HE.out.trans (by rw [hve, if_pos he]))
     clear hve
     go_wp2_with fail
     go_ret
     exact ⟨by rw [HE2.out]; rfl, HB3.out⟩
   ·obtain rfl : k = vn := by omega
    have d1 : ¬ (k : Int) < (k : Int) := by omega
    have hve : valE syn vs = 0 := firstE_zero (fun j hj => HA.out j (by omega))
    have HE2 := Lib.hid (show chkAt ts (nm, vs) = if sg = true ∧ 1 < k then 9 else 0 from HE.out.trans (by rw [hve, hvl]; simp))
    clear hve
    cases sg
    ·have HE3 := Lib.hid (show chkAt ts (nm, vs) = 0 from HE2.out.trans (by simp))
     go_wp2_with fail
     go_ret
     exact ⟨by rw [HE3.out]; rfl, HB.out⟩
    ·by_cases h1 : 1 < k
     ·have d2 : (1 : Int) < (k : Int) := by omega
      have HE3 := Lib.hid (show chkAt ts (nm, vs) = 9 from HE2.out.trans (by simp [h1]))
      go_wp2_with fail
      go_ret
      exact ⟨by rw [HE3.out]; rfl, HB.out⟩
     ·have d2 : ¬ (1 : Int) < (k : Int) := by omega
      have HE3 := Lib.hid (show chkAt ts (nm, vs) = 0 from HE2.out.trans (by simp [h1]))
      go_wp2_with fail
      go_ret
      exact ⟨by rw [HE3.out]; rfl, HB.out⟩
def FarV (b : Nat) (v vt vc : Value) : Prop := ∀ g off n c, v = .slice (some ⟨g, off, none⟩) n c → 0 < n → b < g ∧ vt.ownBlock ≠ some g ∧ vc.ownBlock ≠ some g
structure SB (W : World) (b : Nat) (ts : List Ty) (cvs : List Cv) (vt vc : Value) : Prop where
 blk : W.heap[b]? = some (.cells #[vt, vc] 25)
 rowT : W.ownsRow (b + 1) 104 3 vt ts.length (ycells ts)
 rowC : W.ownsRow (b + 1) 106 4 vc cvs.length (ccells cvs)
 apart : vt.ownBlock = none ∨ vt.ownBlock ≠ vc.ownBlock
 ok : ∀ d ∈ cvs, CvOk W d
 far : ∀ d ∈ cvs, FarV b d.hm vt vc ∧ FarV b d.hy vt vc
theorem SB.lt {W : World} {b : Nat} {ts : List Ty} {cvs : List Cv} {vt vc : Value} (h : SB W b ts cvs vt vc) : b < W.heap.size := (Array.getElem?_eq_some_iff.1 h.blk).1
theorem SB.below {W V : World} {b : Nat} {ts : List Ty} {cvs : List Cv} {vt vc : Value} (h : SB W b ts cvs vt vc) (hb : Below W.heap.size W V) : SB V b ts cvs vt vc :=
 ⟨(hb.block _ h.lt).trans h.blk, own_below h.rowT hb, own_below h.rowC hb, h.apart, fun d hd => (h.ok d hd).below hb, h.far⟩
theorem Hdr.keepP {w w' : World} {v : Value} {l : List ByteArray} (h : Hdr w v l) (hs : w.heap.size ≤ w'.heap.size) (hk : ∀ g off n c, v = .slice (some ⟨g, off, none⟩) n c → 0 < n → g < w.heap.size → w'.heap[g]? = w.heap[g]?) : Hdr w' v l := by
 obtain ⟨ao, n, cap, rfl, h1, h2, h3, h4⟩ := h
 refine ⟨ao, n, cap, rfl, h1, h2, h3, fun hn => ?_⟩
 obtain ⟨g, off, rfl, hi⟩ := h4 hn
 refine ⟨g, off, rfl, Nat.lt_of_lt_of_le hi.1 hs, fun j hj => ?_⟩
 rw [← hi.2 j hj]
 exact World.cell?_of_block (a := ⟨g, off + j, none⟩) (hk g off n cap rfl hn hi.1)
theorem row_slice {w : World} {base : Nat} {e : TypeId} {size : Nat} {v : Value} {n : Nat} {xs : List Value} (h : w.ownsRow base e size v n xs) : ∃ ao cap, v = .slice ao n cap := by
 rcases h.2 with ⟨rfl, rfl⟩ | ⟨g, cap, cur, rfl, _⟩
 ·exact ⟨_, _, rfl⟩
 ·exact ⟨_, _, rfl⟩
theorem FarV.fresh {W : World} {b : Nat} {ts : List Ty} {cvs : List Cv} {vt vc : Value} (h : SB W b ts cvs vt vc) {ao : Option Addr} {n c : Nat} (hf : FreshA W.heap.size ao) : FarV b (.slice ao n c) vt vc := fun g off n' c' e hn => by
 simp only [Value.slice.injEq] at e
 obtain ⟨rfl, _, _⟩ := e
 have hg := hf g off rfl
 refine ⟨by have := h.lt; omega, fun e => by have := (h.rowT.lt g e).2; omega, fun e => by have := (h.rowC.lt g e).2; omega⟩
theorem SB.other {W : World} {b : Nat} {ts : List Ty} {cvs : List Cv} {vt vc : Value} (h : SB W b ts cvs vt vc) (a : Addr) (ha : a.block < b) (u : Value) : SB (W.setCell a u) b ts cvs vt vc := by
 have hsz : W.heap.size ≤ (W.setCell a u).heap.size := by simp [World.setCell]
 have hk : ∀ {v : Value} {l : List ByteArray}, Hdr W v l → FarV b v vt vc → Hdr (W.setCell a u) v l := fun hh hf => hh.keepP hsz fun g off n c e hn hgl => Below.heap_setCell W a u g (by have := (hf g off n c e hn).1; omega)
 exact ⟨(Below.heap_setCell W a u b (by omega)).trans h.blk, ownsRow_setCell_below h.rowT (by omega) u, ownsRow_setCell_below h.rowC (by omega) u, h.apart, fun d hd => ⟨hk (h.ok d hd).1 (h.far d hd).1, hk (h.ok d hd).2 (h.far d hd).2⟩, h.far⟩
theorem StrsAt.tail {w : World} {b off n cap : Nat} {l : List ByteArray} (h : StrsAt w (some ⟨b, off, none⟩) n cap l) (hn : 0 < n) : StrsAt w (some ⟨b, off + 1, none⟩) (n - 1) (cap - 1) l.tail := by
 cases l with
 | nil => have := h.1; simp at this; omega
 | cons p r => exact h.drop
theorem emp_false {s : ByteArray} (h : s ≠ ⟨#[]⟩) : s.toList.isEmpty = false := by
 rw [Lib.toList_data]
 rcases s with ⟨⟨l⟩⟩
 cases l with
 | nil => exact absurd rfl h
 | cons => rfl
theorem cl_takeAt (l : List Cl) {k j : Nat} (h : j < k) : clAt (l.take k) j = clAt l j := by
 unfold clAt; rw [List.getD_eq_getElem?_getD, List.getElem?_take_of_lt h, List.getD_eq_getElem?_getD]
theorem ty_takeAt (l : List Ty) {k j : Nat} (h : j < k) : tyAt (l.take k) j = tyAt l j := by
 unfold tyAt; rw [List.getD_eq_getElem?_getD, List.getElem?_take_of_lt h, List.getD_eq_getElem?_getD]
theorem ClsAt.cut {w : World} {ao : Option Addr} {n cap : Nat} {l : List Cl} (h : ClsAt w ao n cap l) {k : Nat} (hk : k ≤ n) : ClsAt w ao k cap (l.take k) := by
 obtain ⟨h1, h2, h3, h4⟩ := h
 refine ⟨by rw [List.length_take]; omega, by omega, h3, fun hn => ?_⟩
 obtain ⟨b, off, e, hb, hs⟩ := h4 (by omega)
 exact ⟨b, off, e, hb, fun j hj => by rw [cl_takeAt l hj]; exact hs j (by omega)⟩
theorem TysAt.cut {w : World} {ao : Option Addr} {n cap : Nat} {l : List Ty} (h : TysAt w ao n cap l) {k : Nat} (hk : k ≤ n) : TysAt w ao k cap (l.take k) := by
 obtain ⟨h1, h2, h3, h4⟩ := h
 refine ⟨by rw [List.length_take]; omega, by omega, h3, fun hn => ?_⟩
 obtain ⟨b, off, e, hb, hs⟩ := h4 (by omega)
 exact ⟨b, off, e, hb, fun j hj => by rw [ty_takeAt l hj]; exact hs j (by omega)⟩
end Go.Proofs.YtonfkhkalodldabGreatDoor
end
