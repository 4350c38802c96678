/-
  Texts of the schema layer and of those beneath it, joined: AttG1, AttG2, AttG3, AttG4, AttG5, AttG6, AttG7, SchG, SchTab, SchAdd, SchTac, SchTyp. Conditions stand at each contract.
-/
import Derived.Test.YtonfkhkalodldabGreatDoorT07
import Derived.Test.YtonfkhkalodldabGreatDoorT10
set_option linter.unusedVariables false
set_option linter.unusedSimpArgs false
set_option linter.unnecessarySimpa false

section
set_option maxRecDepth 100000
namespace Go.Proofs.YtonfkhkalodldabGreatDoor
open Go.RowKit Go.PlainAid
theorem cells_new (w : World) (cs : List Value) (e : TypeId) (j : Nat) (u : Value) (h : cs[j]? = some u) : (w.alloc (.cells cs.toArray e)).cell? ⟨w.heap.size, j, none⟩ = some u := by
 have hb := heap_alloc_new w (.cells cs.toArray e)
 unfold World.cell?
 simp only [hb]
 simpa using h
theorem strs_new (w : World) (l : List ByteArray) (h : l.length ≤ maxLen) : StrsAt (w.alloc (.cells (scells l).toArray 9)) (some ⟨w.heap.size, 0, none⟩) l.length l.length l :=
 ⟨rfl, Nat.le_refl _, h, fun _ => ⟨w.heap.size, 0, rfl, by simp, fun j hj => by
  rw [Nat.zero_add]
  refine cells_new w _ _ _ _ ?_
  unfold scells partAt
  rw [List.getElem?_map, List.getD_eq_getElem?_getD, List.getElem?_eq_getElem hj]; rfl⟩⟩
theorem small_dec {l : List ByteArray} (h : l.all (fun v => decide (v.size ≤ 1000)) = true) : SmallS l := fun v hv => by
 have := List.all_eq_true.1 h v hv
 have := of_decide_eq_true this
 omega
theorem smallA_dec {l : List At} (h : l.all (fun a => decide (a.1.size ≤ 1000) && a.2.all (fun v => decide (v.size ≤ 1000))) = true) : SmallA l := fun a ha => by
 have := List.all_eq_true.1 h a ha
 rw [Bool.and_eq_true] at this
 exact ⟨by have := of_decide_eq_true this.1; omega, small_dec this.2⟩
theorem firstE_all {f : Nat → Int} : ∀ {n : Nat}, firstE f n = 0 → ∀ j, j < n → f j = 0
 | 0, _, j, hj => absurd hj (Nat.not_lt_zero _)
 | n + 1, h, j, hj => by
  unfold firstE at h
  by_cases e : firstE f n = 0
  ·rw [if_pos e] at h
   rcases Nat.lt_or_ge j n with k | k
   ·exact firstE_all e j k
   ·obtain rfl : j = n := by omega
    exact h
  ·rw [if_neg e] at h; exact absurd h e
structure Fit (vs old : List ByteArray) : Prop where
 clean : ∀ v ∈ vs, cleanB v = true
 nd : vs.Nodup
 new : ∀ v ∈ vs, v ∉ old
theorem nodup_take {l : List ByteArray} (h : ∀ j, j < l.length → partAt l j ∉ l.take j) : ∀ n, n ≤ l.length → (l.take n).Nodup
 | 0, _ => by rw [List.take_zero]; exact List.nodup_nil
 | n + 1, hn => by
  rw [take_snoc l n (by omega)]
  refine List.nodup_append.2 ⟨nodup_take h n (by omega), by simp, fun a ha b hb e => ?_⟩
  rw [List.mem_singleton.1 hb] at e
  exact h n (by omega) (e ▸ ha)
theorem chk_fit {vs old : List ByteArray} (h : chkV vs old = 0) : Fit vs old := by
 have h1 : ∀ j, j < vs.length → cleanB (partAt vs j) = true ∧ partAt vs j ∉ old ∧ partAt vs j ∉ vs.take j := fun j hj => by
  have h2 := firstE_all h j hj
  unfold errV at h2
  by_cases c : cleanB (partAt vs j) = false
  ·rw [if_pos c] at h2; exact absurd h2 (by decide)
  ·rw [if_neg c] at h2
   by_cases d : memB old (partAt vs j) = true ∨ memB (vs.take j) (partAt vs j) = true
   ·rw [if_pos d] at h2; exact absurd h2 (by decide)
   ·exact ⟨by simpa using c, fun e => d (.inl (memB_iff.2 e)), fun e => d (.inr (memB_iff.2 e))⟩
 have hm : ∀ v ∈ vs, ∃ j, j < vs.length ∧ partAt vs j = v := fun v hv => by
  obtain ⟨j, hj, e⟩ := List.mem_iff_getElem.1 hv
  exact ⟨j, hj, by unfold partAt; rw [List.getD_eq_getElem?_getD, List.getElem?_eq_getElem hj, Option.getD_some]; exact e⟩
 refine ⟨fun v hv => ?_, ?_, fun v hv => ?_⟩
 ·obtain ⟨j, hj, rfl⟩ := hm v hv; exact (h1 j hj).1
 ·have := nodup_take (fun j hj => (h1 j hj).2.2) vs.length (Nat.le_refl _)
  rwa [List.take_length] at this
 ·obtain ⟨j, hj, rfl⟩ := hm v hv; exact (h1 j hj).2.1
theorem fit_chk {vs old : List ByteArray} (h : Fit vs old) : chkV vs old = 0 := by
 refine firstE_zero fun j hj => ?_
 have hv := part_mem vs j hj
 unfold errV
 rw [if_neg (by rw [h.clean _ hv]; simp), if_neg ?_]
 rintro (k | k)
 ·exact h.new _ hv (memB_iff.1 k)
 ·have h2 : (vs.take (j + 1)).Nodup := h.nd.sublist (List.take_sublist _ _)
  rw [take_snoc vs j hj] at h2
  exact (List.nodup_append.1 h2).2.2 _ (memB_iff.1 k) _ (List.mem_singleton.2 rfl) rfl
theorem hl_app {l k : List At} {n v : ByteArray} : Hl (l ++ k) n v ↔ Hl l n v ∨ Hl k n v := by
 unfold Hl
 simp only [List.mem_append]
 exact ⟨fun ⟨a, h, k⟩ => h.elim (fun h => .inl ⟨a, h, k⟩) fun h => .inr ⟨a, h, k⟩, fun h => h.elim (fun ⟨a, h, k⟩ => ⟨a, .inl h, k⟩) fun ⟨a, h, k⟩ => ⟨a, .inr h, k⟩⟩
theorem hl_wth {l : List At} {lw n v : ByteArray} : Hl (wthL l lw) n v ↔ n ≠ lw ∧ Hl l n v := by
 have hlow := (nf_NF l).low
 rw [show Hl l n v ↔ Hl (nf l) n v from hl_nf.symm]
 unfold Hl wthL
 constructor
 ·rintro ⟨a, ha, e, hv⟩
  obtain ⟨h1, h2⟩ := List.mem_filter.1 ha
  have h3 : a.1 ≠ lw := of_decide_eq_true h2
  exact ⟨by rw [← e, hlow a h1]; exact h3, a, h1, e, hv⟩
 ·rintro ⟨hn, a, ha, e, hv⟩
  exact ⟨a, List.mem_filter.2 ⟨ha, decide_eq_true (by rw [← hlow a ha, e]; exact hn)⟩, e, hv⟩
theorem hl_with {l : List At} {name : ByteArray} {us : List ByteArray} {n v : ByteArray} : Hl (withL l name us) n v ↔ if n = lowS name then v ∈ us else Hl l n v := by
 unfold withL
 rw [hl_nf, hl_app, hl_wth]
 have h1 : Hl [(name, us)] n v ↔ n = lowS name ∧ v ∈ us := by
  unfold Hl
  constructor
  ·rintro ⟨a, ha, e, hv⟩
   rw [List.mem_singleton.1 ha] at e hv
   exact ⟨e.symm, hv⟩
  ·rintro ⟨e, hv⟩
   exact ⟨_, List.mem_singleton.2 rfl, e.symm, hv⟩
 rw [h1]
 by_cases e : n = lowS name
 ·rw [if_pos e]; simp [e]
 ·rw [if_neg e]; simp [e]
theorem vals_with {l : List At} {name : ByteArray} {us : List ByteArray} : vals (withL l name us) (lowS name) = sortU us :=
 asc_ext (vals_asc _ _) (sortU_asc _) fun v => by rw [vals_mem, hl_with, if_pos rfl, sortU_mem]
theorem vals_other {l : List At} {name : ByteArray} {us : List ByteArray} {n : ByteArray} (h : n ≠ lowS name) : vals (withL l name us) n = vals l n :=
 asc_ext (vals_asc _ _) (vals_asc _ _) fun v => by rw [vals_mem, vals_mem, hl_with, if_neg h]
theorem lim_ok {l : List At} {m : Nat} (h : (limR l m).2 = 0) : limR l m = (l, 0) ∧ l.length ≤ 32 ∧ m ≤ 16 := by
 unfold limR at h ⊢
 by_cases c : 32 < l.length ∨ 16 < m
 ·rw [if_pos c] at h; exact absurd h (by decide)
 ·rw [if_neg c]; exact ⟨rfl, by omega, by omega⟩
structure Added (l : List At) (name : ByteArray) (vs : List ByteArray) : Prop where
 nm : nameB name = true
 ne : vs.length ≠ 0
 fit : Fit vs (vals l (lowS name))
 len : (withL l name (vals l (lowS name) ++ vs)).length ≤ 32
 cnt : (vals l (lowS name) ++ vs).length ≤ 16
 eq : (addR l name vs).1 = withL l name (vals l (lowS name) ++ vs)
theorem add_ok {l : List At} {name : ByteArray} {vs : List ByteArray} (h : (addR l name vs).2 = 0) : Added l name vs := by
 unfold addR at h
 by_cases c1 : nameB name = false
 ·rw [if_pos c1] at h; exact absurd h (by decide)
 ·rw [if_neg c1] at h
  by_cases c2 : vs.length = 0
  ·rw [if_pos c2] at h; exact absurd h (by decide)
  ·rw [if_neg c2] at h
   by_cases c3 : chkV vs (vals l (lowS name)) = 0
   ·rw [if_neg (by simp [c3])] at h
    obtain ⟨h1, h2, h3⟩ := lim_ok h
    exact ⟨by simpa using c1, c2, chk_fit c3, h2, h3, by unfold addR; rw [if_neg c1, if_neg c2, if_neg (by simp [c3]), h1]⟩
   ·rw [if_pos c3] at h; exact absurd h c3
structure Put (l : List At) (name : ByteArray) (vs : List ByteArray) : Prop where
 nm : nameB name = true
 fit : Fit vs []
 len : (withL l name vs).length ≤ 32
 cnt : vs.length ≤ 16
 eq : (repR l name vs).1 = withL l name vs
theorem rep_ok {l : List At} {name : ByteArray} {vs : List ByteArray} (h : (repR l name vs).2 = 0) : Put l name vs := by
 unfold repR at h
 by_cases c1 : nameB name = false
 ·rw [if_pos c1] at h; exact absurd h (by decide)
 ·rw [if_neg c1] at h
  by_cases c3 : chkV vs [] = 0
  ·rw [if_neg (by simp [c3])] at h
   obtain ⟨h1, h2, h3⟩ := lim_ok h
   exact ⟨by simpa using c1, chk_fit c3, h2, h3, by unfold repR; rw [if_neg c1, if_neg (by simp [c3]), h1]⟩
  ·rw [if_pos c3] at h; exact absurd h c3
structure Gone (l : List At) (name : ByteArray) (vs : List ByteArray) : Prop where
 nm : nameB name = true
 eq : (remR l name vs).1 = withL l name (leftV (vals l (lowS name)) vs)
theorem rem_ok {l : List At} {name : ByteArray} {vs : List ByteArray} (h : (remR l name vs).2 = 0) : Gone l name vs := by
 unfold remR at h
 by_cases c1 : nameB name = false
 ·rw [if_pos c1] at h; exact absurd h (by decide)
 ·rw [if_neg c1] at h
  by_cases c2 : (vals l (lowS name)).length = 0
  ·rw [if_pos c2] at h; exact absurd h (by decide)
  ·rw [if_neg c2] at h
   by_cases c3 : remE vs (vals l (lowS name)) = 0
   ·exact ⟨by simpa using c1, by unfold remR; rw [if_neg c1, if_neg c2, if_neg (by simp [c3])]⟩
   ·rw [if_pos c3] at h; exact absurd h (by decide)
theorem with_nf {m l : List At} {name : ByteArray} {us : List ByteArray} (h : ∀ n v, Hl (withL m name us) n v ↔ Hl l n v) : withL m name us = nf l := by
 have h1 : nf (withL m name us) = withL m name us := nf_nf _
 rw [← h1]
 exact nf_ext (nf_NF _) (nf_NF _) fun n v => by rw [hs_nf, hs_nf]; exact h n v
theorem leftV_len (a b : List ByteArray) : (leftV a b).length ≤ a.length := List.length_filter_le _ _
theorem bt_lowA (s : ByteArray) (j : Nat) (h : j < s.size) : bt (lowS s) j = (if 65 ≤ bt s j ∧ bt s j ≤ 90 then bt s j + 32 else bt s j) := by
 obtain ⟨c, hc⟩ : ∃ c, s.data.toList[j]? = some c := ⟨_, List.getElem?_eq_getElem (by rw [← Lib.size_eq]; exact h)⟩
 have h2 : (lowS s).data.toList[j]? = some (lowB c) := by unfold lowS lowL; simp [hc]
 rw [bt_list _ _ _ h2, bt_list _ _ _ hc]
 by_cases hA : 65 ≤ (c.toNat : Int) ∧ (c.toNat : Int) ≤ 90
 ·rw [if_pos hA, lowB_hit _ hA.1 hA.2]
 ·rw [if_neg hA, lowB_miss _ hA]
theorem ltrI_low (x : Int) : ltrI (if 65 ≤ x ∧ x ≤ 90 then x + 32 else x) = ltrI x := by
 rw [Bool.eq_iff_iff]; unfold ltrI; simp only [Bool.or_eq_true, Bool.and_eq_true, decide_eq_true_eq]
 split <;> omega
theorem nameP_low (x : Int) : nameP (if 65 ≤ x ∧ x ≤ 90 then x + 32 else x) = nameP x := by
 unfold nameP
 rw [ltrI_low]
 by_cases h : 65 ≤ x ∧ x ≤ 90
 ·rw [if_pos h]
  have : ltrI x = true := by unfold ltrI; simp; omega
  rw [this]; rfl
 ·rw [if_neg h]
theorem name_low {s : ByteArray} (h : nameB s = true) : nameB (lowS s) = true := by
 unfold nameB at h ⊢
 simp only [Bool.and_eq_true, decide_eq_true_eq] at h ⊢
 obtain ⟨⟨⟨h1, h2⟩, h3⟩, h4⟩ := h
 rw [allB_iff] at h4 ⊢
 rw [lowS_size]
 exact ⟨⟨⟨h1, h2⟩, by rw [bt_lowA s 0 (by omega), ltrI_low]; exact h3⟩, fun j hj => by rw [bt_lowA s j hj, nameP_low]; exact h4 j hj⟩
structure OkL (l : List At) : Prop where
 len : l.length ≤ 32
 each : ∀ a ∈ l, nameB a.1 = true ∧ a.2.length ≤ 16 ∧ Fit a.2 []
 one : ∀ i j, i < j → j < l.length → lowS (atD l i).1 ≠ lowS (atD l j).1
theorem mem_at {l : List At} {a : At} (h : a ∈ l) : ∃ j, j < l.length ∧ atD l j = a := by
 obtain ⟨j, hj, e⟩ := List.mem_iff_getElem.1 h
 exact ⟨j, hj, by rw [at_get l j hj]; exact e⟩
theorem chk_ok {l : List At} (h : chkA l = 0) : OkL l := by
 unfold chkA at h
 by_cases c : 32 < l.length
 ·rw [if_pos c] at h; exact absurd h (by decide)
 ·rw [if_neg c] at h
  have h1 : ∀ j, j < l.length → nameB (atD l j).1 = true ∧ twiceB l j = false ∧ (atD l j).2.length ≤ 16 ∧ chkV (atD l j).2 [] = 0 := fun j hj => by
   have h2 := firstE_all h j hj
   unfold errA at h2
   by_cases c1 : nameB (atD l j).1 = false
   ·rw [if_pos c1] at h2; exact absurd h2 (by decide)
   ·rw [if_neg c1] at h2
    by_cases c2 : twiceB l j = true
    ·rw [if_pos c2] at h2; exact absurd h2 (by decide)
    ·rw [if_neg c2] at h2
     by_cases c3 : (atD l j).2.length = 0
     ·rw [if_pos c3] at h2; exact absurd h2 (by decide)
     ·rw [if_neg c3] at h2
      by_cases c4 : 16 < (atD l j).2.length
      ·rw [if_pos c4] at h2; exact absurd h2 (by decide)
      ·rw [if_neg c4] at h2
       exact ⟨by simpa using c1, by simpa using c2, by omega, h2⟩
  refine ⟨by omega, fun a ha => ?_, fun i j hij hj e => ?_⟩
  ·obtain ⟨j, hj, rfl⟩ := mem_at ha
   exact ⟨(h1 j hj).1, (h1 j hj).2.2.1, chk_fit (h1 j hj).2.2.2⟩
  ·have h2 := twice_true hj hij e
   rw [(h1 j hj).2.1] at h2; cases h2
theorem part_map {l : List At} {i : Nat} (h : i < l.length) : partAt (l.map (·.1)) i = (atD l i).1 := by
 unfold partAt
 rw [List.getD_eq_getElem?_getD, List.getElem?_map, List.getElem?_eq_getElem h, at_get l i h]; rfl
theorem ok_chk {L : List At} (h : NF L) (hl : L.length ≤ 32) (he : ∀ a ∈ L, nameB a.1 = true ∧ a.2.length ≤ 16 ∧ ∀ v ∈ a.2, cleanB v = true) : chkA L = 0 := by
 unfold chkA
 rw [if_neg (by omega)]
 refine firstE_zero fun j hj => ?_
 have hm := at_mem L j hj
 obtain ⟨h1, h2, h3⟩ := he _ hm
 have h4 : twiceB L j = false := twice_false hj fun k hk => by
  rw [h.low _ (at_mem L k (by omega)), h.low _ hm, ← part_map hj, ← part_map (show k < L.length by omega)]
  exact part_ne h.asc (by rw [List.length_map]; omega) (by rw [List.length_map]; exact hj) (by omega)
 have h5 := h.ne _ hm
 unfold errA
 rw [if_neg (by rw [h1]; simp), if_neg (by rw [h4]; simp), if_neg (fun e => h5 (List.eq_nil_of_length_eq_zero e)), if_neg (by omega)]
 exact fit_chk ⟨h3, asc_nodup (h.vasc _ hm), fun _ _ => List.not_mem_nil⟩
theorem OkL.same {l : List At} (h : OkL l) {a b : At} (ha : a ∈ l) (hb : b ∈ l) (e : lowS a.1 = lowS b.1) : a = b := by
 obtain ⟨i, hi, rfl⟩ := mem_at ha
 obtain ⟨j, hj, rfl⟩ := mem_at hb
 rcases Nat.lt_trichotomy i j with k | k | k
 ·exact absurd e (h.one i j k hj)
 ·rw [k]
 ·exact absurd e.symm (h.one j i k hi)
theorem OkL.vals {l : List At} (h : OkL l) {n : ByteArray} (hne : Proofs.YtonfkhkalodldabGreatDoor.vals l n ≠ []) : nameB n = true ∧ (Proofs.YtonfkhkalodldabGreatDoor.vals l n).length ≤ 16 ∧ ∀ v ∈ Proofs.YtonfkhkalodldabGreatDoor.vals l n, cleanB v = true := by
 obtain ⟨v, hv⟩ := List.exists_mem_of_ne_nil _ hne
 obtain ⟨a, ha, e, hva⟩ := vals_mem.1 hv
 obtain ⟨h1, h2, h3⟩ := h.each a ha
 have h4 : Proofs.YtonfkhkalodldabGreatDoor.vals l n = sortU a.2 := asc_ext (vals_asc _ _) (sortU_asc _) fun x => by
  rw [vals_mem, sortU_mem]
  constructor
  ·rintro ⟨b, hb, e2, hx⟩
   rw [h.same ha hb (e.trans e2.symm)]; exact hx
  ·intro hx; exact ⟨a, ha, e, hx⟩
 refine ⟨by rw [← e]; exact name_low h1, ?_, fun x hx => ?_⟩
 ·rw [h4]; exact Nat.le_trans (sortU_len _) h2
 ·rw [h4, sortU_mem] at hx; exact h3.clean x hx
theorem nf_chk {l : List At} (h : chkA l = 0) : chkA (nf l) = 0 := by
 have hk := chk_ok h
 refine ok_chk (nf_NF l) (Nat.le_trans (nf_len l) hk.len) fun a ha => ?_
 obtain ⟨h1, h2⟩ := nf_mem.1 ha
 rw [h1] at h2 ⊢
 exact hk.vals h2
theorem with_chk {l : List At} {name : ByteArray} {us : List ByteArray} (h : OkL l) (hn : nameB name = true) (hc : ∀ v ∈ us, cleanB v = true) (h16 : us.length ≤ 16) (h32 : (withL l name us).length ≤ 32) : chkA (withL l name us) = 0 := by
 refine ok_chk (nf_NF _) h32 fun a ha => ?_
 obtain ⟨h1, h2⟩ := nf_mem.1 ha
 have h3 : a.2 = vals (withL l name us) a.1 := by unfold withL; rw [vals_nf]; exact h1
 by_cases e : a.1 = lowS name
 ·rw [e, vals_with] at h3
  refine ⟨by rw [e]; exact name_low hn, ?_, fun v hv => ?_⟩
  ·rw [h3]; exact Nat.le_trans (sortU_len _) h16
  ·rw [h3, sortU_mem] at hv; exact hc v hv
 ·rw [vals_other e] at h3
  rw [h3] at h2 ⊢
  exact h.vals h2
theorem old_clean {l : List At} (h : OkL l) (n : ByteArray) : (vals l n).length ≤ 16 ∧ ∀ v ∈ vals l n, cleanB v = true := by
 by_cases e : vals l n = []
 ·rw [e]; exact ⟨Nat.zero_le _, fun v hv => absurd hv List.not_mem_nil⟩
 ·exact (h.vals e).2
theorem add_chk {l : List At} {name : ByteArray} {vs : List ByteArray} (h : chkA l = 0) (he : (addR l name vs).2 = 0) : chkA (addR l name vs).1 = 0 := by
 have hA := add_ok he
 rw [hA.eq]
 exact with_chk (chk_ok h) hA.nm (fun v hv => (List.mem_append.1 hv).elim ((old_clean (chk_ok h) _).2 v) (hA.fit.clean v)) hA.cnt hA.len
theorem rep_chk {l : List At} {name : ByteArray} {vs : List ByteArray} (h : chkA l = 0) (he : (repR l name vs).2 = 0) : chkA (repR l name vs).1 = 0 := by
 have hA := rep_ok he
 rw [hA.eq]
 exact with_chk (chk_ok h) hA.nm hA.fit.clean hA.cnt hA.len
theorem rem_len {l : List At} {name : ByteArray} {us : List ByteArray} (hl : l.length ≤ 32) (hu : us ≠ [] → vals l (lowS name) ≠ []) : (withL l name us).length ≤ 32 := by
 have h2 := nf_len l
 by_cases e : us = []
 ·have h1 : withL l name us = nf (wthL l (lowS name)) := with_nf fun n v => by
   rw [hl_with, hl_wth, e]
   by_cases c : n = lowS name
   ·rw [if_pos c]; simp [c]
   ·rw [if_neg c]; simp [c]
  rw [h1]
  have h3 := nf_len (wthL l (lowS name))
  have h4 : (wthL l (lowS name)).length ≤ (nf l).length := List.length_filter_le _ _
  omega
 ·have h3 := nf_len (wthL l (lowS name) ++ [(name, us)])
  rw [List.length_append, List.length_singleton] at h3
  have h4 : (wthL l (lowS name)).length < (nf l).length := by
   unfold wthL
   refine List.length_filter_lt_length_iff_exists.2 ⟨(lowS name, vals l (lowS name)), nf_mem.2 ⟨rfl, hu e⟩, by simp⟩
  unfold withL
  omega
theorem rem_chk {l : List At} {name : ByteArray} {vs : List ByteArray} (h : chkA l = 0) (he : (remR l name vs).2 = 0) : chkA (remR l name vs).1 = 0 := by
 have hA := rem_ok he
 have hk := chk_ok h
 obtain ⟨h1, h2⟩ := old_clean hk (lowS name)
 rw [hA.eq]
 refine with_chk hk hA.nm (fun v hv => h2 v (List.mem_filter.1 hv).1) (Nat.le_trans (leftV_len _ _) h1) (rem_len hk.len fun e k => e ?_)
 rw [k]; rfl
theorem frozen_later {w w' : World} {b i : Nat} (hb : Below w.heap.size w w') (hl : b < w.heap.size) (h : w.frozen? ⟨b, i, none⟩ = false) : w'.frozen? ⟨b, i, none⟩ = false := by
 unfold World.frozen? at *
 rw [show w'.heap[(⟨b, i, none⟩ : Addr).block]? = w.heap[(⟨b, i, none⟩ : Addr).block]? from hb.block b hl]
 exact h
theorem below_set1 {B : Nat} {a w : World} (h : Below B a w) (g i : Nat) (hg : B ≤ g) (u : Value) : Below B a (w.setCell ⟨g, i, none⟩ u) := h.setCell (p := ⟨g, i, none⟩) hg u
theorem set_size (w : World) (a : Addr) (u : Value) : (w.setCell a u).heap.size = w.heap.size := by simp [World.setCell]
theorem lsees {w W : World} {mv : Option Nat} {i : Nat} {t : TypeId} {k : ByteArray} {v : Value} {s : Nat} (h : ∀ W, Below w.heap.size w W → (Instr.lookup t (.map mv) (.string k) true).run Tryz.prog W = .ok v W) (c : W.cell? ⟨w.heap.size, i, none⟩ = some (.map mv)) (hb : Below w.heap.size w W) (hs : w.heap.size + s ≤ W.heap.size) :
  W.cell? ⟨w.heap.size, i, none⟩ = some (.map mv) ∧ (Instr.lookup t (.map mv) (.string k) true).run Tryz.prog W = .ok v W ∧ Hid (Below w.heap.size w W ∧ w.heap.size + s ≤ W.heap.size) := ⟨c, h W hb, Lib.hid ⟨hb, hs⟩⟩
theorem lsees_below {w W V : World} {mv : Option Nat} {i : Nat} {t : TypeId} {k : ByteArray} {v : Value} {s : Nat} (h : ∀ W, Below w.heap.size w W → (Instr.lookup t (.map mv) (.string k) true).run Tryz.prog W = .ok v W)
  (c : W.cell? ⟨w.heap.size, i, none⟩ = some (.map mv) ∧ (Instr.lookup t (.map mv) (.string k) true).run Tryz.prog W = .ok v W ∧ Hid (Below w.heap.size w W ∧ w.heap.size + s ≤ W.heap.size)) (hb : Below W.heap.size W V) :
  V.cell? ⟨w.heap.size, i, none⟩ = some (.map mv) ∧ (Instr.lookup t (.map mv) (.string k) true).run Tryz.prog V = .ok v V ∧ Hid (Below w.heap.size w V ∧ w.heap.size + s ≤ V.heap.size) :=
 lsees h (cell_later hb c.1) (c.2.2.out.1.trans (hb.mono (by have := c.2.2.out.2; omega))) (Nat.le_trans c.2.2.out.2 hb.size)
theorem lsees_set {w W : World} {mv : Option Nat} {i : Nat} {t : TypeId} {k : ByteArray} {v : Value} {s : Nat} (h : ∀ W, Below w.heap.size w W → (Instr.lookup t (.map mv) (.string k) true).run Tryz.prog W = .ok v W) (g j : Nat) (u : Value) (hg : w.heap.size < g)
  (c : W.cell? ⟨w.heap.size, i, none⟩ = some (.map mv) ∧ (Instr.lookup t (.map mv) (.string k) true).run Tryz.prog W = .ok v W ∧ Hid (Below w.heap.size w W ∧ w.heap.size + s ≤ W.heap.size)) :
  (W.setCell ⟨g, j, none⟩ u).cell? ⟨w.heap.size, i, none⟩ = some (.map mv) ∧ (Instr.lookup t (.map mv) (.string k) true).run Tryz.prog (W.setCell ⟨g, j, none⟩ u) = .ok v (W.setCell ⟨g, j, none⟩ u) ∧ Hid (Below w.heap.size w (W.setCell ⟨g, j, none⟩ u) ∧ w.heap.size + s ≤ (W.setCell ⟨g, j, none⟩ u).heap.size) :=
 lsees h ((World.cell?_of_block (heap_setCell_other W ⟨g, j, none⟩ w.heap.size u (by show w.heap.size ≠ g; omega))).trans c.1) (below_set1 c.2.2.out.1 g j (by omega) u) (by rw [set_size]; exact c.2.2.out.2)
def ClGot (w0 : World) (cs : List Cl) (n : ByteArray) (d : Cv) : Prop := (clOf cs n = none → d = zeroCv) ∧ ∀ c, clOf cs n = some c → d.cl = c ∧ CvOk w0 d
theorem TMap.looks {w : World} {mv : Option Nat} {ts : List Ty} (h : TMap w mv ts) (n : ByteArray) (hn : n.size ≤ 1000000000) :
  ∃ t : Ty, (tyOf ts n).getD zeroTy = t ∧ ∀ W, Below w.heap.size w W → (Instr.lookup 85 (.map mv) (.string (lowS n)) true).run Tryz.prog W = .ok (.tuple #[.agg #[.string t.name, .int .i64 t.syn, .bool t.single], .bool (tyOf ts n).isSome]) W := by
 refine ⟨_, rfl, fun W hb => ?_⟩
 rw [(h.below hb).look n hn]
 cases tyOf ts n <;> rfl
theorem CMap.looks {w0 w : World} {mv : Option Nat} {cs : List Cl} (h : CMap w0 w mv cs) (n : ByteArray) (hn : n.size ≤ 1000000000) :
  ∃ (d : Cv) (a1 : Option Addr) (p1 q1 : Nat) (a2 : Option Addr) (p2 q2 : Nat), d.hm = .slice a1 p1 q1 ∧ d.hy = .slice a2 p2 q2 ∧ ClGot w0 cs n d ∧
   ∀ W, Below w.heap.size w W → (Instr.lookup 86 (.map mv) (.string (lowS n)) true).run Tryz.prog W = .ok (.tuple #[.agg #[.string d.cl.name, .string d.cl.super, .slice a1 p1 q1, .slice a2 p2 q2], .bool (clOf cs n).isSome]) W := by
 obtain ⟨f, h, k⟩ := h
 have key : ∀ (z : Value) W, Below w.heap.size w W → (f (lowS n)).getD zeroClV = z → (f (lowS n)).isSome = (clOf cs n).isSome → (Instr.lookup 86 (.map mv) (.string (lowS n)) true).run Tryz.prog W = .ok (.tuple #[z, .bool (clOf cs n).isSome]) W := fun z W hb hz hs => by
  rw [(h.below hb).look_ok Tryz.underlying86 (Tryz.zeroValue106 _) (lowS n) (by rw [lowS_size]; unfold maxLen; omega), ← hz, ← hs]; rfl
 cases hc : clOf cs n with
 | none =>
  have hf := (k n).1 hc
  exact ⟨zeroCv, none, 0, 0, none, 0, 0, rfl, rfl, ⟨fun _ => rfl, fun c e => absurd (hc.symm.trans e) (by simp)⟩, fun W hb => by
   have := key zeroClV W hb (by rw [hf]; rfl) (by rw [hf, hc]; rfl)
   rw [hc] at this; exact this⟩
 | some c =>
  obtain ⟨d, e, ho, hf⟩ := (k n).2 c hc
  obtain ⟨⟨a1, p1, q1, e1, s1⟩, a2, p2, q2, e2, s2⟩ := ho
  refine ⟨d, a1, p1, q1, a2, p2, q2, e1, e2, ⟨(fun e => by rw [e] at hc; cases hc), fun c' e' => ⟨by rw [e]; rw [hc] at e'; exact Option.some.inj e', ⟨a1, p1, q1, e1, s1⟩, a2, p2, q2, e2, s2⟩⟩, fun W hb => ?_⟩
  have := key (cvV d) W hb (by rw [hf]; rfl) (by rw [hf, hc]; rfl)
  rw [hc] at this
  unfold cvV at this
  rw [e1, e2] at this
  exact this
set_option maxHeartbeats 4000000 in
theorem typeOf_s (mt mc : Option Nat) (ts : List Ty) (n : ByteArray) (w : World) (h : TMap w mt ts) (hn : n.size ≤ 1000000000) :
  Calls Tryz.prog 89 #[.agg #[.map mt, .map mc], .string n] w fun e w' => e = .returned (.tuple #[tyV ((tyOf ts n).getD zeroTy), .bool (tyOf ts n).isSome]) ∧ Below w.heap.size w w' := by
 obtain ⟨t, ht, hl⟩ := h.looks n hn
 unfold tyV
 rw [ht]
 obtain ⟨ok, hok⟩ : ∃ b, (tyOf ts n).isSome = b := ⟨_, rfl⟩
 rw [hok] at hl ⊢
 have HL := Lib.hid hl
 clear hl h hok ht
 have hb0 : Below w.heap.size w ((w.alloc (.cells #[.map mt, .map mc] 88)).alloc (.cells #[.string ⟨#[]⟩, .int .i64 0, .bool false] 104)) := ((Below.refl _ _).alloc (Nat.le_refl _) _).alloc (by simp) _
 have S0 := lsees (s := 2) (i := 0) (W := ((w.alloc (.cells #[.map mt, .map mc] 88)).alloc (.cells #[.string ⟨#[]⟩, .int .i64 0, .bool false] 104)).drew) HL.out (by go_simp) hb0.drew (by simp)
 clear hb0
 go_enter Tryz.func89, Tryz.ntmps89
 go_wp2_with fail
 refine wp_region_held_drew (S := fun W => W.cell? ⟨w.heap.size, 0, none⟩ = some (.map mt) ∧ (Instr.lookup 85 (.map mt) (.string (lowS n)) true).run Tryz.prog W = .ok (.tuple #[.agg #[.string t.name, .int .i64 t.syn, .bool t.single], .bool ok]) W ∧ Hid (Below w.heap.size w W ∧ w.heap.size + 2 ≤ W.heap.size)) (by kernel_rfl) (S0) (fun hS => ?_)
 refine rgT 0 (some 9) ?_
 refine rgT 1 (some 10) ?_
 refine rgT 2 (some 11) ?_
 refine wpAnyH_ready (rs := [3, 8]) (by kernel_rfl) (by simp) ?_
 refine AllReadyH.cons rfl (fun K hK => ?_) (AllReadyH.cons rfl (fun K hK => ?_) AllReadyH.nil)
 ·go_simp
  refine (lower_s n _ hn).mono ?_
  rintro e w5 ⟨rfl, hb⟩
  go_wp2_with fail
  refine hK.out _ _ ?_ (fun hHeld => ?_)
  ·exact lsees_below HL.out (by assumption) hb
  clear hK K
  try simp only [Act.put, lsA, lsZ, lsS]
  refine rgT 4 (some 13) ?_
  refine rgT 5 (some 8) ?_
  refine rgT 6 (some 14) ?_
  refine rgT 7 (some 15) ?_
  refine rgC 8 (fun K hK => ?_)
  go_simp
  refine hK.out _ _ ?_ (fun hHeld => ?_)
  ·exact lsees_below HL.out (by assumption) ((Below.refl _ _).alloc (Nat.le_refl _) _)
  clear hK K
  try simp only [Act.put, lsA, lsZ, lsS]
  refine rgC 9 (fun K hK => ?_)
  go_simp
  refine hK.out _ _ ?_ (fun hHeld => ?_)
  ·exact lsees_below HL.out (by assumption) ((Below.refl _ w5).alloc (Nat.le_refl _) _)
  clear hK K
  try simp only [Act.put, lsA, lsZ, lsS]
  refine rgT 10 (some 7) ?_
  refine wpAnyH_done (by kernel_rfl) ?_ _
  have hS5 : (fun W => W.cell? ⟨w.heap.size, 0, none⟩ = some (.map mt) ∧ (Instr.lookup 85 (.map mt) (.string (lowS n)) true).run Tryz.prog W = .ok (.tuple #[.agg #[.string t.name, .int .i64 t.syn, .bool t.single], .bool ok]) W ∧ Hid (Below w.heap.size w W ∧ w.heap.size + 2 ≤ W.heap.size)) w5 := by assumption
  have hB5 := hS5.2.2
  have e0 : w5.cell? ⟨w.heap.size + 1, 0, none⟩ = some (.string ⟨#[]⟩) := cell_later hb (by go_simp)
  have e1 : w5.cell? ⟨w.heap.size + 1, 1, none⟩ = some (.int .i64 0) := cell_later hb (by go_simp)
  have e2 : w5.cell? ⟨w.heap.size + 1, 2, none⟩ = some (.bool false) := cell_later hb (by go_simp)
  have fe0 := frozen_later (i := 0) hb (b := w.heap.size + 1) (by simp) (by go_simp)
  have fe1 := frozen_later (i := 1) hb (b := w.heap.size + 1) (by simp) (by go_simp)
  have fe2 := frozen_later (i := 2) hb (b := w.heap.size + 1) (by simp) (by go_simp)
  have hlt : w.heap.size + 1 < w5.heap.size := hB5.out.2
  clear hS5
  go_wp2_with fail
  refine bodyPost_ret (v := .tuple #[.agg #[.string t.name, .int .i64 t.syn, .bool t.single], .bool ok]) (by simp only [results, Tryz.results89]; go_simp) rfl ?_
  refine ⟨rfl, ?_⟩
  have hf : w.heap.size ≤ w.heap.size + 1 := Nat.le_succ _
  have hg : w.heap.size ≤ w.heap.size + 1 + 1 := Nat.le_succ_of_le (Nat.le_succ _)
  exact (below_set1 (below_set1 (below_set1 (hB5.out.1) (w.heap.size + 1) 0 hf _) (w.heap.size + 1) 1 hf _) (w.heap.size + 1) 2 hf _).alloc (by simp only [set_size]; omega) _
 ·go_simp
  refine hK.out _ _ ?_ (fun hHeld => ?_)
  ·exact lsees_below HL.out (by assumption) ((Below.refl _ _).alloc (Nat.le_refl _) _)
  clear hK K
  try simp only [Act.put, lsA, lsZ, lsS]
  refine rgC 3 (fun K hK => ?_)
  go_simp
  refine (lower_s n _ hn).mono ?_
  rintro e w5 ⟨rfl, hb⟩
  have c0 : w5.cell? ⟨w.heap.size + 1 + 1, 0, none⟩ = some (.string ⟨#[]⟩) := cell_later hb (by go_simp)
  have c1 : w5.cell? ⟨w.heap.size + 1 + 1, 1, none⟩ = some (.int .i64 0) := cell_later hb (by go_simp)
  have c2 : w5.cell? ⟨w.heap.size + 1 + 1, 2, none⟩ = some (.bool false) := cell_later hb (by go_simp)
  have fc0 := frozen_later (i := 0) hb (b := w.heap.size + 1 + 1) (by simp) (by go_simp)
  have fc1 := frozen_later (i := 1) hb (b := w.heap.size + 1 + 1) (by simp) (by go_simp)
  have fc2 := frozen_later (i := 2) hb (b := w.heap.size + 1 + 1) (by simp) (by go_simp)
  go_wp2_with fail
  refine hK.out _ _ ?_ (fun hHeld => ?_)
  ·exact lsees_below HL.out (by assumption) hb
  clear hK K
  try simp only [Act.put, lsA, lsZ, lsS]
  refine rgT 4 (some 13) ?_
  refine rgT 5 (some 8) ?_
  refine rgT 6 (some 14) ?_
  refine rgT 7 (some 15) ?_
  refine rgC 9 (fun K hK => ?_)
  go_simp
  refine hK.out _ _ ?_ (fun hHeld => ?_)
  ·exact (lsees_set HL.out (w.heap.size + 1 + 1) 2 _ (Nat.lt_succ_of_le (Nat.le_succ _)) (lsees_set HL.out (w.heap.size + 1 + 1) 1 _ (Nat.lt_succ_of_le (Nat.le_succ _)) (lsees_set HL.out (w.heap.size + 1 + 1) 0 _ (Nat.lt_succ_of_le (Nat.le_succ _)) (by assumption))))
  clear hK K
  try simp only [Act.put, lsA, lsZ, lsS]
  refine rgT 10 (some 7) ?_
  refine wpAnyH_done (by kernel_rfl) ?_ _
  have hS5 : (fun W => W.cell? ⟨w.heap.size, 0, none⟩ = some (.map mt) ∧ (Instr.lookup 85 (.map mt) (.string (lowS n)) true).run Tryz.prog W = .ok (.tuple #[.agg #[.string t.name, .int .i64 t.syn, .bool t.single], .bool ok]) W ∧ Hid (Below w.heap.size w W ∧ w.heap.size + 2 ≤ W.heap.size)) w5 := by assumption
  have hB5 := hS5.2.2
  have e0 : w5.cell? ⟨w.heap.size + 1, 0, none⟩ = some (.string ⟨#[]⟩) := cell_later hb (by go_simp)
  have e1 : w5.cell? ⟨w.heap.size + 1, 1, none⟩ = some (.int .i64 0) := cell_later hb (by go_simp)
  have e2 : w5.cell? ⟨w.heap.size + 1, 2, none⟩ = some (.bool false) := cell_later hb (by go_simp)
  have fe0 := frozen_later (i := 0) hb (b := w.heap.size + 1) (by simp) (by go_simp)
  have fe1 := frozen_later (i := 1) hb (b := w.heap.size + 1) (by simp) (by go_simp)
  have fe2 := frozen_later (i := 2) hb (b := w.heap.size + 1) (by simp) (by go_simp)
  have hlt : w.heap.size + 1 < w5.heap.size := hB5.out.2
  clear hS5
  go_wp2_with fail
  refine bodyPost_ret (v := .tuple #[.agg #[.string t.name, .int .i64 t.syn, .bool t.single], .bool ok]) (by simp only [results, Tryz.results89]; go_simp) rfl ?_
  refine ⟨rfl, ?_⟩
  have hf : w.heap.size ≤ w.heap.size + 1 := Nat.le_succ _
  have hg : w.heap.size ≤ w.heap.size + 1 + 1 := Nat.le_succ_of_le (Nat.le_succ _)
  exact below_set1 (below_set1 (below_set1 (below_set1 (below_set1 (below_set1 (hB5.out.1) (w.heap.size + 1 + 1) 0 hg _) (w.heap.size + 1 + 1) 1 hg _) (w.heap.size + 1 + 1) 2 hg _) (w.heap.size + 1) 0 hf _) (w.heap.size + 1) 1 hf _) (w.heap.size + 1) 2 hf _
def errTy (ts : List Ty) (t : Ty) : Int :=
 if nameB t.name = false then 5 else if (tyOf ts t.name).isSome = true then 7 else if t.syn < 1 ∨ 5 < t.syn then 8 else 0
theorem errT_take (ts : List Ty) (j : Nat) : errT ts j = errTy (ts.take j) (tyAt ts j) := rfl
theorem grown_of_below {w w' : World} {row : Option Nat} (h : Below w.heap.size w w') : w.grownBy w' row := ⟨h.os, h.tape, h.output, h.size, fun k hk _ => h.block k hk⟩
theorem keepG {w w1 w2 : World} {row : Option Nat} {f : Nat} (h : Hid (w.grownBy w1 row ∧ f ≤ w1.heap.size)) (hb : Below w1.heap.size w1 w2) : Hid (w.grownBy w2 row ∧ f ≤ w2.heap.size) :=
 Lib.hid ⟨grown_two h.out.1 (grown_of_below hb), Nat.le_trans h.out.2 hb.size⟩
theorem keepGG {w w1 w2 : World} {row : Option Nat} {f : Nat} (h : Hid (w.grownBy w1 row ∧ f ≤ w1.heap.size)) (hb : w1.grownBy w2 row) : Hid (w.grownBy w2 row ∧ f ≤ w2.heap.size) :=
 Lib.hid ⟨grown_two h.out.1 hb, Nat.le_trans h.out.2 hb.size⟩
theorem keepG5 {w w1 w2 : World} {row : Option Nat} {f : Nat} {A B C D : Addr} {x y z u : Value} (h : w1.cell? A = some x ∧ w1.cell? B = some y ∧ w1.cell? C = some z ∧ w1.cell? D = some u ∧ Hid (w.grownBy w1 row ∧ f ≤ w1.heap.size)) (hb : Below w1.heap.size w1 w2) :
  w2.cell? A = some x ∧ w2.cell? B = some y ∧ w2.cell? C = some z ∧ w2.cell? D = some u ∧ Hid (w.grownBy w2 row ∧ f ≤ w2.heap.size) :=
 ⟨cell_later hb h.1, cell_later hb h.2.1, cell_later hb h.2.2.1, cell_later hb h.2.2.2.1, keepG h.2.2.2.2 hb⟩
theorem cell_turned {w w' : World} {g : Nat} {A : Addr} {x : Value} (h : w.cell? A = some x) (hg : w.grownBy w' (some g)) (hA : A.block ≠ g) : w'.cell? A = some x := hg.cell h (fun e => hA (Option.some.inj e))
theorem keepGG5 {w w1 w2 : World} {g : Nat} {f : Nat} {A B C D : Addr} {x y z u : Value} (h : w1.cell? A = some x ∧ w1.cell? B = some y ∧ w1.cell? C = some z ∧ w1.cell? D = some u ∧ Hid (w.grownBy w1 (some g) ∧ f ≤ w1.heap.size)) (hb : w1.grownBy w2 (some g))
  (hA : A.block ≠ g) (hB : B.block ≠ g) (hC : C.block ≠ g) (hD : D.block ≠ g) :
  w2.cell? A = some x ∧ w2.cell? B = some y ∧ w2.cell? C = some z ∧ w2.cell? D = some u ∧ Hid (w.grownBy w2 (some g) ∧ f ≤ w2.heap.size) :=
 ⟨cell_turned h.1 hb hA, cell_turned h.2.1 hb hB, cell_turned h.2.2.1 hb hC, cell_turned h.2.2.2.1 hb hD, keepGG h.2.2.2.2 hb⟩
set_option maxHeartbeats 4000000 in
theorem addType_s (bt : Nat) (mc : Option Nat) (k : Nat) (ts : List Ty) (t : Ty) (w : World) (h : TOpen w bt k ts) (hk : k < 1100000) (hz : t.name.size ≤ 1000000000) :
  Calls Tryz.prog 118 #[.agg #[.map (some bt), .map mc], .agg #[.string t.name, .int .i64 t.syn, .bool t.single]] w fun e w' =>
   e = .returned (.int .i64 (errTy ts t)) ∧ w.grownBy w' (some bt) ∧ (errTy ts t = 0 → TOpen w' bt (k + 1) (ts ++ [t])) := by
 obtain ⟨nm, syn, sg⟩ := t
 simp only at hz ⊢
 have hbl : bt < w.heap.size := h.lt
 have hb0 : Below w.heap.size w ((w.alloc (.cells #[.map (some bt), .map mc] 88)).alloc (.cells #[.string nm, .int .i64 syn, .bool sg] 104)) := ((Below.refl _ _).alloc (Nat.le_refl _) _).alloc (by simp) _
 have HB0 := Lib.hid hb0
 have HO := Lib.hid h
 have HC := Lib.hid (typeOf_s (some bt) mc ts nm _ (h.map.below hb0) hz)
 obtain ⟨u, hu⟩ : ∃ u, (tyOf ts nm).getD zeroTy = u := ⟨_, rfl⟩
 obtain ⟨tw, htw⟩ : ∃ b, (tyOf ts nm).isSome = b := ⟨_, rfl⟩
 unfold tyV at HC
 rw [hu, htw] at HC
 have HW := Lib.hid htw
 clear h hu htw hb0
 obtain ⟨nb, hnb⟩ : ∃ b, nameB nm = b := ⟨_, rfl⟩
 have HNB := Lib.hid hnb; clear hnb
 obtain ⟨d1, hd1⟩ : ∃ b, decide (syn < 1) = b := ⟨_, rfl⟩
 obtain ⟨d2, hd2⟩ : ∃ b, decide (5 < syn) = b := ⟨_, rfl⟩
 have HE := Lib.hid (show errTy ts ⟨nm, syn, sg⟩ = if nb = false then 5 else if tw = true then 7 else if d1 = true ∨ d2 = true then 8 else 0 by
  unfold errTy; simp only; rw [HNB.out, HW.out, ← hd1, ← hd2]; simp)
 go_enter Tryz.func118, Tryz.ntmps118
 go_wp2_with fail
 refine HC.out.mono ?_
 rintro e w1 ⟨rfl, hb⟩
 have a0 : w1.cell? ⟨w.heap.size + 1, 0, none⟩ = some (.string nm) := cell_later hb (by go_simp)
 have a1 : w1.cell? ⟨w.heap.size + 1, 1, none⟩ = some (.int .i64 syn) := cell_later hb (by go_simp)
 have a2 : w1.cell? ⟨w.heap.size + 1, 2, none⟩ = some (.bool sg) := cell_later hb (by go_simp)
 have a3 : w1.cell? ⟨w.heap.size, 0, none⟩ = some (.map (some bt)) := cell_later hb (by go_simp)
 have hs1 : w.heap.size + 1 < w1.heap.size := by have := hb.size; simp at this; omega
 have HB1 := Lib.hid (HB0.out.trans (hb.mono (by simp; omega)))
 clear hb HB0 HC
 go_wp2_with fail
 refine (name_s nm _ hz).mono ?_
 rintro e w2 ⟨rfl, rfl⟩
 rw [HNB.out]
 have HG := Lib.hid (grown_of_below (row := some bt) (HB1.out.alloc (by omega) (.cells #[.string u.name, .int .i64 u.syn, .bool u.single] 104)))
 have fin : ∀ c, errTy ts ⟨nm, syn, sg⟩ = c → c ≠ 0 → ∀ W, w.grownBy W (some bt) → (Ending.returned (.int .i64 c) = .returned (.int .i64 (errTy ts ⟨nm, syn, sg⟩)) ∧ w.grownBy W (some bt) ∧ (errTy ts ⟨nm, syn, sg⟩ = 0 → TOpen W bt (k + 1) (ts ++ [⟨nm, syn, sg⟩]))) :=
  fun c h1 h2 W h3 => ⟨by rw [h1], h3, fun h => absurd (h1.symm.trans h) h2⟩
 have FIN := Lib.hid fin; clear fin
 cases nb
 ·have HE5 := Lib.hid (HE.out.trans rfl)
  go_wp2_with fail
  go_ret
  exact FIN.out 5 HE5.out (by decide) _ HG.out
 ·cases tw
  ·cases d1
   ·cases d2
    ·have HE5 := Lib.hid (show errTy ts ⟨nm, syn, sg⟩ = 0 from HE.out.trans (by simp))
     have hnone : tyOf ts nm = none := by
      have := HW.out
      cases e : tyOf ts nm with
      | none => rfl
      | some x => rw [e] at this; cases this
     have HN := Lib.hid hnone; clear hnone
     have HX : Hid (Below w1.heap.size w1 (w1.alloc (.cells #[.string u.name, .int .i64 u.syn, .bool u.single] 104)).drew) := Lib.hid ((Below.refl _ _).alloc (Nat.le_refl _) _).drew
     have S0 := keepG5 (f := w.heap.size + 2) ⟨a3, a0, a1, a2, Lib.hid ⟨grown_of_below (row := some bt) HB1.out, by omega⟩⟩ HX.out
     go_wp2_with fail
     refine wp_region_held_drew (S := fun W => W.cell? ⟨w.heap.size, 0, none⟩ = some (.map (some bt)) ∧ W.cell? ⟨w.heap.size + 1, 0, none⟩ = some (.string nm) ∧ W.cell? ⟨w.heap.size + 1, 1, none⟩ = some (.int .i64 syn) ∧ W.cell? ⟨w.heap.size + 1, 2, none⟩ = some (.bool sg) ∧ Hid (w.grownBy W (some bt) ∧ w.heap.size + 2 ≤ W.heap.size)) (by kernel_rfl) (S0) (fun hS => ?_)
     refine rgT 0 (some 30) ?_
     refine rgT 1 (some 31) ?_
     refine rgT 2 (some 32) ?_
     refine rgT 3 (some 33) ?_
     refine rgT 5 (some 35) ?_
     refine rgC 4 (fun K hK => ?_)
     go_simp
     refine (lower_s nm _ hz).mono ?_
     rintro e w5 ⟨rfl, hb⟩
     have hT5 := (HO.out.below HB1.out hbl).below (HX.out.trans (hb.mono (by simp))) (by omega)
     obtain ⟨w6, hrun6, hT6, hg6⟩ := hT5.store ⟨nm, syn, sg⟩ hk hz HN.out
     clear hT5
     unfold tyV at hrun6
     dsimp only at hrun6
     go_wp2_with fail
     refine hK.out _ _ ?_ (fun hHeld => ?_)
     ·exact keepG5 (by assumption) hb
     clear hK K
     try simp only [Act.put, lsA, lsZ, lsS]
     refine rgC 6 (fun K hK => ?_)
     go_simp
     refine hK.out _ _ ?_ (fun hHeld => ?_)
     ·exact keepGG5 (by assumption) hg6 (by show w.heap.size ≠ bt; omega) (by show w.heap.size + 1 ≠ bt; omega) (by show w.heap.size + 1 ≠ bt; omega) (by show w.heap.size + 1 ≠ bt; omega)
     clear hK K
     try simp only [Act.put, lsA, lsZ, lsS]
     refine wpAnyH_done (by kernel_rfl) ?_ _
     have hS6 : w6.cell? ⟨w.heap.size, 0, none⟩ = some (.map (some bt)) ∧ w6.cell? ⟨w.heap.size + 1, 0, none⟩ = some (.string nm) ∧ w6.cell? ⟨w.heap.size + 1, 1, none⟩ = some (.int .i64 syn) ∧ w6.cell? ⟨w.heap.size + 1, 2, none⟩ = some (.bool sg) ∧ Hid (w.grownBy w6 (some bt) ∧ w.heap.size + 2 ≤ w6.heap.size) := by assumption
     have HG6 := hS6.2.2.2.2
     have HT6 := Lib.hid hT6
     clear hS6 hT6 hg6 hrun6 hb
     go_wp2_with fail
     go_ret
     exact ⟨by rw [HE5.out]; rfl, HG6.out.1, fun _ => HT6.out⟩
    ·have HE5 := Lib.hid (HE.out.trans rfl)
     go_wp2_with fail
     go_ret
     exact FIN.out 8 HE5.out (by decide) _ HG.out
   ·have HE5 := Lib.hid (HE.out.trans rfl)
    go_wp2_with fail
    go_ret
    exact FIN.out 8 HE5.out (by decide) _ HG.out
  ·have HE5 := Lib.hid (HE.out.trans rfl)
   go_wp2_with fail
   go_ret
   exact FIN.out 7 HE5.out (by decide) _ HG.out
set_option maxHeartbeats 4000000 in
theorem class_s (mt mc : Option Nat) (w0 : World) (cs : List Cl) (n : ByteArray) (w : World) (h : CMap w0 w mc cs) (hn : n.size ≤ 1000000000) :
  Calls Tryz.prog 92 #[.agg #[.map mt, .map mc], .string n] w fun e w' => ∃ (d : Cv) (a1 : Option Addr) (p1 q1 : Nat) (a2 : Option Addr) (p2 q2 : Nat), d.hm = .slice a1 p1 q1 ∧ d.hy = .slice a2 p2 q2 ∧ ClGot w0 cs n d ∧
   e = .returned (.tuple #[.agg #[.string d.cl.name, .string d.cl.super, .slice a1 p1 q1, .slice a2 p2 q2], .bool (clOf cs n).isSome]) ∧ Below w.heap.size w w' := by
 obtain ⟨d, a1, p1, q1, a2, p2, q2, h1, h2, hg, hl⟩ := h.looks n hn
 obtain ⟨ok, hok⟩ : ∃ b, (clOf cs n).isSome = b := ⟨_, rfl⟩
 rw [hok] at hl ⊢
 obtain ⟨nm, hnm⟩ : ∃ x, d.cl.name = x := ⟨_, rfl⟩
 obtain ⟨su, hsu⟩ : ∃ x, d.cl.super = x := ⟨_, rfl⟩
 rw [hnm, hsu] at hl
 have HL := Lib.hid hl
 have HG := Lib.hid (And.intro h1 (And.intro h2 (And.intro hg (And.intro hnm hsu))))
 clear hl h hok h1 h2 hg hnm hsu
 have hb0 : Below w.heap.size w ((w.alloc (.cells #[.map mt, .map mc] 88)).alloc (.cells #[.string ⟨#[]⟩, .string ⟨#[]⟩, .slice none 0 0, .slice none 0 0] 106)) := ((Below.refl _ _).alloc (Nat.le_refl _) _).alloc (by simp) _
 have S0 := lsees (s := 2) (i := 1) (W := ((w.alloc (.cells #[.map mt, .map mc] 88)).alloc (.cells #[.string ⟨#[]⟩, .string ⟨#[]⟩, .slice none 0 0, .slice none 0 0] 106)).drew) HL.out (by go_simp) hb0.drew (by simp)
 clear hb0
 go_enter Tryz.func92, Tryz.ntmps92
 go_wp2_with fail
 refine wp_region_held_drew (S := fun W => W.cell? ⟨w.heap.size, 1, none⟩ = some (.map mc) ∧ (Instr.lookup 86 (.map mc) (.string (lowS n)) true).run Tryz.prog W = .ok (.tuple #[.agg #[.string nm, .string su, .slice a1 p1 q1, .slice a2 p2 q2], .bool ok]) W ∧ Hid (Below w.heap.size w W ∧ w.heap.size + 2 ≤ W.heap.size)) (by kernel_rfl) (S0) (fun hS => ?_)
 refine rgT 0 (some 9) ?_
 refine rgT 1 (some 10) ?_
 refine rgT 2 (some 11) ?_
 refine wpAnyH_ready (rs := [3, 8]) (by kernel_rfl) (by simp) ?_
 refine AllReadyH.cons rfl (fun K hK => ?_) (AllReadyH.cons rfl (fun K hK => ?_) AllReadyH.nil)
 ·go_simp
  refine (lower_s n _ hn).mono ?_
  rintro e w5 ⟨rfl, hb⟩
  go_wp2_with fail
  refine hK.out _ _ ?_ (fun hHeld => ?_)
  ·exact lsees_below HL.out (by assumption) hb
  clear hK K
  try simp only [Act.put, lsA, lsZ, lsS]
  refine rgT 4 (some 13) ?_
  refine rgT 5 (some 8) ?_
  refine rgT 6 (some 14) ?_
  refine rgT 7 (some 15) ?_
  refine rgC 8 (fun K hK => ?_)
  go_simp
  refine hK.out _ _ ?_ (fun hHeld => ?_)
  ·exact lsees_below HL.out (by assumption) ((Below.refl _ _).alloc (Nat.le_refl _) _)
  clear hK K
  try simp only [Act.put, lsA, lsZ, lsS]
  refine rgC 9 (fun K hK => ?_)
  go_simp
  refine hK.out _ _ ?_ (fun hHeld => ?_)
  ·exact lsees_below HL.out (by assumption) ((Below.refl _ w5).alloc (Nat.le_refl _) _)
  clear hK K
  try simp only [Act.put, lsA, lsZ, lsS]
  refine rgT 10 (some 7) ?_
  refine wpAnyH_done (by kernel_rfl) ?_ _
  have hS5 : (fun W => W.cell? ⟨w.heap.size, 1, none⟩ = some (.map mc) ∧ (Instr.lookup 86 (.map mc) (.string (lowS n)) true).run Tryz.prog W = .ok (.tuple #[.agg #[.string nm, .string su, .slice a1 p1 q1, .slice a2 p2 q2], .bool ok]) W ∧ Hid (Below w.heap.size w W ∧ w.heap.size + 2 ≤ W.heap.size)) w5 := by assumption
  have hB5 := hS5.2.2
  have e0 : w5.cell? ⟨w.heap.size + 1, 0, none⟩ = some (.string ⟨#[]⟩) := cell_later hb (by go_simp)
  have e1 : w5.cell? ⟨w.heap.size + 1, 1, none⟩ = some (.string ⟨#[]⟩) := cell_later hb (by go_simp)
  have e2 : w5.cell? ⟨w.heap.size + 1, 2, none⟩ = some (.slice none 0 0) := cell_later hb (by go_simp)
  have e3 : w5.cell? ⟨w.heap.size + 1, 3, none⟩ = some (.slice none 0 0) := cell_later hb (by go_simp)
  have fe0 := frozen_later (i := 0) hb (b := w.heap.size + 1) (by simp) (by go_simp)
  have fe1 := frozen_later (i := 1) hb (b := w.heap.size + 1) (by simp) (by go_simp)
  have fe2 := frozen_later (i := 2) hb (b := w.heap.size + 1) (by simp) (by go_simp)
  have fe3 := frozen_later (i := 3) hb (b := w.heap.size + 1) (by simp) (by go_simp)
  have hlt : w.heap.size + 1 < w5.heap.size := hB5.out.2
  clear hS5
  go_wp2_with fail
  refine bodyPost_ret (v := .tuple #[.agg #[.string nm, .string su, .slice a1 p1 q1, .slice a2 p2 q2], .bool ok]) (by simp only [results, Tryz.results92]; go_simp) rfl ?_
  obtain ⟨h1, h2, hg, hnm, hsu⟩ := HG.out
  refine ⟨d, a1, p1, q1, a2, p2, q2, h1, h2, hg, by rw [hnm, hsu], ?_⟩
  have hf : w.heap.size ≤ w.heap.size + 1 := Nat.le_succ _
  have hg : w.heap.size ≤ w.heap.size + 1 + 1 := Nat.le_succ_of_le (Nat.le_succ _)
  exact (below_set1 (below_set1 (below_set1 (below_set1 (hB5.out.1) (w.heap.size + 1) 0 hf _) (w.heap.size + 1) 1 hf _) (w.heap.size + 1) 2 hf _) (w.heap.size + 1) 3 hf _).alloc (by simp only [set_size]; omega) _
 ·go_simp
  refine hK.out _ _ ?_ (fun hHeld => ?_)
  ·exact lsees_below HL.out (by assumption) ((Below.refl _ _).alloc (Nat.le_refl _) _)
  clear hK K
  try simp only [Act.put, lsA, lsZ, lsS]
  refine rgC 3 (fun K hK => ?_)
  go_simp
  refine (lower_s n _ hn).mono ?_
  rintro e w5 ⟨rfl, hb⟩
  have c0 : w5.cell? ⟨w.heap.size + 1 + 1, 0, none⟩ = some (.string ⟨#[]⟩) := cell_later hb (by go_simp)
  have c1 : w5.cell? ⟨w.heap.size + 1 + 1, 1, none⟩ = some (.string ⟨#[]⟩) := cell_later hb (by go_simp)
  have c2 : w5.cell? ⟨w.heap.size + 1 + 1, 2, none⟩ = some (.slice none 0 0) := cell_later hb (by go_simp)
  have c3 : w5.cell? ⟨w.heap.size + 1 + 1, 3, none⟩ = some (.slice none 0 0) := cell_later hb (by go_simp)
  have fc0 := frozen_later (i := 0) hb (b := w.heap.size + 1 + 1) (by simp) (by go_simp)
  have fc1 := frozen_later (i := 1) hb (b := w.heap.size + 1 + 1) (by simp) (by go_simp)
  have fc2 := frozen_later (i := 2) hb (b := w.heap.size + 1 + 1) (by simp) (by go_simp)
  have fc3 := frozen_later (i := 3) hb (b := w.heap.size + 1 + 1) (by simp) (by go_simp)
  go_wp2_with fail
  refine hK.out _ _ ?_ (fun hHeld => ?_)
  ·exact lsees_below HL.out (by assumption) hb
  clear hK K
  try simp only [Act.put, lsA, lsZ, lsS]
  refine rgT 4 (some 13) ?_
  refine rgT 5 (some 8) ?_
  refine rgT 6 (some 14) ?_
  refine rgT 7 (some 15) ?_
  refine rgC 9 (fun K hK => ?_)
  go_simp
  refine hK.out _ _ ?_ (fun hHeld => ?_)
  ·exact (lsees_set HL.out (w.heap.size + 1 + 1) 3 _ (Nat.lt_succ_of_le (Nat.le_succ _)) (lsees_set HL.out (w.heap.size + 1 + 1) 2 _ (Nat.lt_succ_of_le (Nat.le_succ _)) (lsees_set HL.out (w.heap.size + 1 + 1) 1 _ (Nat.lt_succ_of_le (Nat.le_succ _)) (lsees_set HL.out (w.heap.size + 1 + 1) 0 _ (Nat.lt_succ_of_le (Nat.le_succ _)) (by assumption)))))
  clear hK K
  try simp only [Act.put, lsA, lsZ, lsS]
  refine rgT 10 (some 7) ?_
  refine wpAnyH_done (by kernel_rfl) ?_ _
  have hS5 : (fun W => W.cell? ⟨w.heap.size, 1, none⟩ = some (.map mc) ∧ (Instr.lookup 86 (.map mc) (.string (lowS n)) true).run Tryz.prog W = .ok (.tuple #[.agg #[.string nm, .string su, .slice a1 p1 q1, .slice a2 p2 q2], .bool ok]) W ∧ Hid (Below w.heap.size w W ∧ w.heap.size + 2 ≤ W.heap.size)) w5 := by assumption
  have hB5 := hS5.2.2
  have e0 : w5.cell? ⟨w.heap.size + 1, 0, none⟩ = some (.string ⟨#[]⟩) := cell_later hb (by go_simp)
  have e1 : w5.cell? ⟨w.heap.size + 1, 1, none⟩ = some (.string ⟨#[]⟩) := cell_later hb (by go_simp)
  have e2 : w5.cell? ⟨w.heap.size + 1, 2, none⟩ = some (.slice none 0 0) := cell_later hb (by go_simp)
  have e3 : w5.cell? ⟨w.heap.size + 1, 3, none⟩ = some (.slice none 0 0) := cell_later hb (by go_simp)
  have fe0 := frozen_later (i := 0) hb (b := w.heap.size + 1) (by simp) (by go_simp)
  have fe1 := frozen_later (i := 1) hb (b := w.heap.size + 1) (by simp) (by go_simp)
  have fe2 := frozen_later (i := 2) hb (b := w.heap.size + 1) (by simp) (by go_simp)
  have fe3 := frozen_later (i := 3) hb (b := w.heap.size + 1) (by simp) (by go_simp)
  have hlt : w.heap.size + 1 < w5.heap.size := hB5.out.2
  clear hS5
  go_wp2_with fail
  refine bodyPost_ret (v := .tuple #[.agg #[.string nm, .string su, .slice a1 p1 q1, .slice a2 p2 q2], .bool ok]) (by simp only [results, Tryz.results92]; go_simp) rfl ?_
  obtain ⟨h1, h2, hg, hnm, hsu⟩ := HG.out
  refine ⟨d, a1, p1, q1, a2, p2, q2, h1, h2, hg, by rw [hnm, hsu], ?_⟩
  have hf : w.heap.size ≤ w.heap.size + 1 := Nat.le_succ _
  have hg : w.heap.size ≤ w.heap.size + 1 + 1 := Nat.le_succ_of_le (Nat.le_succ _)
  exact below_set1 (below_set1 (below_set1 (below_set1 (below_set1 (below_set1 (below_set1 (below_set1 (hB5.out.1) (w.heap.size + 1 + 1) 0 hg _) (w.heap.size + 1 + 1) 1 hg _) (w.heap.size + 1 + 1) 2 hg _) (w.heap.size + 1 + 1) 3 hg _) (w.heap.size + 1) 0 hf _) (w.heap.size + 1) 1 hf _) (w.heap.size + 1) 2 hf _) (w.heap.size + 1) 3 hf _
theorem typedB_take {ts : List Ty} {ns : List ByteArray} {k : Nat} (h : typedB ts (ns.take k) = true) (hk : k < ns.length) (h1 : (tyOf ts (partAt ns k)).isSome = true) : typedB ts (ns.take (k + 1)) = true := by
 unfold typedB at *
 rw [take_snoc ns k hk, List.all_append, h]
 simpa using h1
theorem typedB_false {ts : List Ty} {ns : List ByteArray} {k : Nat} (hk : k < ns.length) (h1 : (tyOf ts (partAt ns k)).isSome = false) : typedB ts ns = false := by
 unfold typedB
 cases e : ns.all (fun n => (tyOf ts n).isSome)
 ·rfl
 ·have := (List.all_eq_true.1 e) _ (part_mem ns k hk)
  rw [h1] at this; cases this
set_option maxHeartbeats 4000000 in
theorem typed_s (mt mc : Option Nat) (ts : List Ty) (ao : Option Addr) (n cap : Nat) (ns : List ByteArray) (w : World) (h : TMap w mt ts) (hs : StrsAt w ao n cap ns) (hz : ∀ s ∈ ns, s.size ≤ 1000000000) :
  Calls Tryz.prog 135 #[.agg #[.map mt, .map mc], .slice ao n cap] w fun e w' => e = .returned (.bool (typedB ts ns)) ∧ Below w.heap.size w w' := by
 obtain ⟨h1, h2, h3, h4⟩ := hs
 subst h1
 unfold maxLen at h3
 have H4 := Lib.hid h4; clear h4
 have HZ := Lib.hid hz; clear hz
 have HT := Lib.hid h; clear h
 have HB0 : Hid (Below w.heap.size w (w.alloc (.cells #[.map mt, .map mc] 88))) := Lib.hid ((Below.refl _ _).alloc (Nat.le_refl _) _)
 have c0 : (w.alloc (.cells #[.map mt, .map mc] 88)).cell? ⟨w.heap.size, 0, none⟩ = some (.map mt) := by go_simp
 have c1 : (w.alloc (.cells #[.map mt, .map mc] 88)).cell? ⟨w.heap.size, 1, none⟩ = some (.map mc) := by go_simp
 have HC0 := Lib.hid (And.intro c0 c1)
 clear c0 c1
 go_enter Tryz.func135, Tryz.ntmps135
 go_wp2
 go_loopw [6, 7, 8, 11] (fun s6 s7 s8 i wr => ∃ k : Nat, k ≤ ns.length ∧ i = .int .i64 k ∧ Hid (typedB ts (ns.take k) = true) ∧ Hid (wr.cell? ⟨w.heap.size, 0, none⟩ = some (.map mt) ∧ wr.cell? ⟨w.heap.size, 1, none⟩ = some (.map mc)) ∧ Hid (Below w.heap.size w wr ∧ w.heap.size < wr.heap.size)) (fun _ _ _ i _ => ns.length - (intOf i).toNat)
 case atStart => exact ⟨0, Nat.zero_le _, rfl, Lib.hid rfl, HC0, Lib.hid ⟨HB0.out, by simp⟩⟩
 case round =>
  obtain ⟨k, hk, rfl, HA, HC, HB⟩ := hrel
  by_cases hlt : k < ns.length
  ·obtain ⟨b, off, rfl, hs⟩ := H4.out (by omega)
   have hcell := (hs.below HB.out.1 hs.1).2 k hlt
   clear hs
   obtain ⟨p, hp⟩ : ∃ x, partAt ns k = x := ⟨_, rfl⟩
   have hps : p.size ≤ 1000000000 := by rw [← hp]; exact HZ.out _ (part_mem ns k hlt)
   obtain ⟨u, hu⟩ : ∃ u, (tyOf ts p).getD zeroTy = u := ⟨_, rfl⟩
   have HCall := Lib.hid (fun W hW => typeOf_s mt mc ts p W (HT.out.below hW) hps)
   unfold tyV at HCall
   rw [hu] at HCall
   have c0 := HC.out.1
   have c1 := HC.out.2
   have d1 : (k : Int) < (ns.length : Int) := by omega
   rw [hp] at hcell
   cases ht : (tyOf ts p).isSome
   ·have HE := Lib.hid (show typedB ts ns = false from typedB_false hlt (by rw [hp]; exact ht))
    rw [ht] at HCall
    clear ht hu hp
    go_wp2_with fail
    refine (HCall.out _ HB.out.1).mono ?_
    rintro e w1 ⟨rfl, hb⟩
    have HB1 := Lib.hid (HB.out.1.trans (hb.mono (Nat.le_of_lt HB.out.2)))
    have hs1 : w.heap.size < w1.heap.size := Nat.lt_of_lt_of_le HB.out.2 hb.size
    clear hb
    go_wp2_with fail
    go_ret
    exact ⟨by rw [HE.out]; rfl, HB1.out.alloc (by omega) _⟩
   ·have HA2 := Lib.hid (typedB_take HA.out hlt (by rw [hp]; exact ht))
    rw [ht] at HCall
    clear ht hu hp
    go_wp2_with fail
    refine (HCall.out _ HB.out.1).mono ?_
    rintro e w1 ⟨rfl, hb⟩
    have HB1 := Lib.hid (HB.out.1.trans (hb.mono (Nat.le_of_lt HB.out.2)))
    have hs1 : w.heap.size < w1.heap.size := Nat.lt_of_lt_of_le HB.out.2 hb.size
    have HC1 := Lib.hid (And.intro (cell_later hb c0) (cell_later hb c1))
    clear hb
    go_wp2_with fail
    go_roundw
    case rel =>
     have hal : ∀ o, Below w1.heap.size w1 (w1.alloc o) := fun o => (Below.refl _ _).alloc (Nat.le_refl _) o
     exact ⟨k + 1, by omega, by go_num, HA2, Lib.hid ⟨cell_later (hal _) HC1.out.1, cell_later (hal _) HC1.out.2⟩, Lib.hid ⟨HB1.out.trans ((hal _).mono (by omega)), by simp; omega⟩⟩
    case measure => simp [intOf]; omega
  ·have hk2 : k = ns.length := by omega
   have HE := Lib.hid (show typedB ts ns = true by have := HA.out; rw [hk2, List.take_length] at this; exact this)
   have HB1 := Lib.hid HB.out.1
   have d1 : ¬ (k : Int) < (ns.length : Int) := by omega
   go_wp2_with fail
   go_ret
   exact ⟨by rw [HE.out]; rfl, HB1.out⟩
end Go.Proofs.YtonfkhkalodldabGreatDoor
end
