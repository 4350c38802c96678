/-
  Texts of the schema layer and of those beneath it, joined: AttG5, AttG6, AttG7, CodecA, CodecB, ShelfB, CodecBuild, CodecStr, CodecC, CodecDec, CodecInt, CodecIntP, CodecEsc, CodecREsc, CodecRInt, CodecRInt2. Conditions stand at each contract.
-/
import Derived.Lib.TrimByte
import Derived.Lib.Bytealg
import Derived.Lib.Builder
import Derived.Lib.AppendStr
import Derived.Laws.Externs
import Derived.Laws.RangeAny
import Derived.Laws.RangeString
import Derived.Lib.RuneCount
import Derived.Lib.AtoiAllCases
import Derived.Lib.LaidTab
import Derived.Deep.RegionHeld3
import Derived.Deep.AppendLies
import Derived.Lib.ItoaLen
import Derived.Test.YtonfkhkalodldabGreatDoorP01
import Derived.Test.YtonfkhkalodldabGreatDoorP06
set_option linter.unusedVariables false
set_option linter.unusedSimpArgs false
set_option linter.unnecessarySimpa false

section
/-
  What the edited lists hold: pure facts for the laws Undone, Others and Normal. No condition.
-/
set_option maxRecDepth 100000
namespace Go.Proofs.YtonfkhkalodldabGreatDoor
open Go.RowKit Go.PlainAid
theorem firstE_all {f : Nat → Int} : ∀ {n : Nat}, firstE f n = 0 → ∀ j, j < n → f j = 0
  | 0, _, j, hj => absurd hj (Nat.not_lt_zero _)
  | n + 1, h, j, hj => by
    unfold firstE at h
    by_cases e : firstE f n = 0
    · rw [if_pos e] at h
      rcases Nat.lt_or_ge j n with k | k
      · exact firstE_all e j k
      · obtain rfl : j = n := by omega
        exact h
    · rw [if_neg e] at h; exact absurd h e
/-- values that may stand beside the old ones: each once, none of the old -/
structure Fit (vs old : List ByteArray) : Prop where
  clean : ∀ v ∈ vs, cleanB v = true
  nd : vs.Nodup
  new : ∀ v ∈ vs, v ∉ old
theorem nodup_take {l : List ByteArray} (h : ∀ j, j < l.length → partAt l j ∉ l.take j) : ∀ n, n ≤ l.length → (l.take n).Nodup
  | 0, _ => by rw [List.take_zero]; exact List.nodup_nil
  | n + 1, hn => by
    rw [take_snoc l n (by omega)]
    refine List.nodup_append.2 ⟨nodup_take h n (by omega), by simp, fun a ha b hb e => ?_⟩
    rw [List.mem_singleton.1 hb] at e
    exact h n (by omega) (e ▸ ha)
theorem chk_fit {vs old : List ByteArray} (h : chkV vs old = 0) : Fit vs old := by
  have h1 : ∀ j, j < vs.length → cleanB (partAt vs j) = true ∧ partAt vs j ∉ old ∧ partAt vs j ∉ vs.take j := fun j hj => by
    have h2 := firstE_all h j hj
    unfold errV at h2
    by_cases c : cleanB (partAt vs j) = false
    · rw [if_pos c] at h2; exact absurd h2 (by decide)
    · rw [if_neg c] at h2
      by_cases d : memB old (partAt vs j) = true ∨ memB (vs.take j) (partAt vs j) = true
      · rw [if_pos d] at h2; exact absurd h2 (by decide)
      · exact ⟨by simpa using c, fun e => d (.inl (memB_iff.2 e)), fun e => d (.inr (memB_iff.2 e))⟩
  have hm : ∀ v ∈ vs, ∃ j, j < vs.length ∧ partAt vs j = v := fun v hv => by
    obtain ⟨j, hj, e⟩ := List.mem_iff_getElem.1 hv
    exact ⟨j, hj, by unfold partAt; rw [List.getD_eq_getElem?_getD, List.getElem?_eq_getElem hj, Option.getD_some]; exact e⟩
  refine ⟨fun v hv => ?_, ?_, fun v hv => ?_⟩
  · obtain ⟨j, hj, rfl⟩ := hm v hv; exact (h1 j hj).1
  · have := nodup_take (fun j hj => (h1 j hj).2.2) vs.length (Nat.le_refl _)
    rwa [List.take_length] at this
  · obtain ⟨j, hj, rfl⟩ := hm v hv; exact (h1 j hj).2.1
theorem fit_chk {vs old : List ByteArray} (h : Fit vs old) : chkV vs old = 0 := by
  refine firstE_zero fun j hj => ?_
  have hv := part_mem vs j hj
  unfold errV
  rw [if_neg (by rw [h.clean _ hv]; simp), if_neg ?_]
  rintro (k | k)
  · exact h.new _ hv (memB_iff.1 k)
  · have h2 : (vs.take (j + 1)).Nodup := h.nd.sublist (List.take_sublist _ _)
    rw [take_snoc vs j hj] at h2
    exact (List.nodup_append.1 h2).2.2 _ (memB_iff.1 k) _ (List.mem_singleton.2 rfl) rfl
theorem hl_app {l k : List At} {n v : ByteArray} : Hl (l ++ k) n v ↔ Hl l n v ∨ Hl k n v := by
  unfold Hl
  simp only [List.mem_append]
  exact ⟨fun ⟨a, h, k⟩ => h.elim (fun h => .inl ⟨a, h, k⟩) fun h => .inr ⟨a, h, k⟩, fun h => h.elim (fun ⟨a, h, k⟩ => ⟨a, .inl h, k⟩) fun ⟨a, h, k⟩ => ⟨a, .inr h, k⟩⟩
theorem hl_wth {l : List At} {lw n v : ByteArray} : Hl (wthL l lw) n v ↔ n ≠ lw ∧ Hl l n v := by
  have hlow := (nf_NF l).low
  rw [show Hl l n v ↔ Hl (nf l) n v from hl_nf.symm]
  unfold Hl wthL
  constructor
  · rintro ⟨a, ha, e, hv⟩
    obtain ⟨h1, h2⟩ := List.mem_filter.1 ha
    have h3 : a.1 ≠ lw := of_decide_eq_true h2
    exact ⟨by rw [← e, hlow a h1]; exact h3, a, h1, e, hv⟩
  · rintro ⟨hn, a, ha, e, hv⟩
    exact ⟨a, List.mem_filter.2 ⟨ha, decide_eq_true (by rw [← hlow a ha, e]; exact hn)⟩, e, hv⟩
/-- what a list with the values us under a name holds -/
theorem hl_with {l : List At} {name : ByteArray} {us : List ByteArray} {n v : ByteArray} : Hl (withL l name us) n v ↔ if n = lowS name then v ∈ us else Hl l n v := by
  unfold withL
  rw [hl_nf, hl_app, hl_wth]
  have h1 : Hl [(name, us)] n v ↔ n = lowS name ∧ v ∈ us := by
    unfold Hl
    constructor
    · rintro ⟨a, ha, e, hv⟩
      rw [List.mem_singleton.1 ha] at e hv
      exact ⟨e.symm, hv⟩
    · rintro ⟨e, hv⟩
      exact ⟨_, List.mem_singleton.2 rfl, e.symm, hv⟩
  rw [h1]
  by_cases e : n = lowS name
  · rw [if_pos e]; simp [e]
  · rw [if_neg e]; simp [e]
theorem vals_with {l : List At} {name : ByteArray} {us : List ByteArray} : vals (withL l name us) (lowS name) = sortU us :=
  asc_ext (vals_asc _ _) (sortU_asc _) fun v => by rw [vals_mem, hl_with, if_pos rfl, sortU_mem]
theorem vals_other {l : List At} {name : ByteArray} {us : List ByteArray} {n : ByteArray} (h : n ≠ lowS name) : vals (withL l name us) n = vals l n :=
  asc_ext (vals_asc _ _) (vals_asc _ _) fun v => by rw [vals_mem, vals_mem, hl_with, if_neg h]
theorem lim_ok {l : List At} {m : Nat} (h : (limR l m).2 = 0) : limR l m = (l, 0) ∧ l.length ≤ 32 ∧ m ≤ 16 := by
  unfold limR at h ⊢
  by_cases c : 32 < l.length ∨ 16 < m
  · rw [if_pos c] at h; exact absurd h (by decide)
  · rw [if_neg c]; exact ⟨rfl, by omega, by omega⟩
/-- values were added -/
structure Added (l : List At) (name : ByteArray) (vs : List ByteArray) : Prop where
  nm : nameB name = true
  ne : vs.length ≠ 0
  fit : Fit vs (vals l (lowS name))
  len : (withL l name (vals l (lowS name) ++ vs)).length ≤ 32
  cnt : (vals l (lowS name) ++ vs).length ≤ 16
  eq : (addR l name vs).1 = withL l name (vals l (lowS name) ++ vs)
theorem add_ok {l : List At} {name : ByteArray} {vs : List ByteArray} (h : (addR l name vs).2 = 0) : Added l name vs := by
  unfold addR at h
  by_cases c1 : nameB name = false
  · rw [if_pos c1] at h; exact absurd h (by decide)
  · rw [if_neg c1] at h
    by_cases c2 : vs.length = 0
    · rw [if_pos c2] at h; exact absurd h (by decide)
    · rw [if_neg c2] at h
      by_cases c3 : chkV vs (vals l (lowS name)) = 0
      · rw [if_neg (by simp [c3])] at h
        obtain ⟨h1, h2, h3⟩ := lim_ok h
        exact ⟨by simpa using c1, c2, chk_fit c3, h2, h3, by unfold addR; rw [if_neg c1, if_neg c2, if_neg (by simp [c3]), h1]⟩
      · rw [if_pos c3] at h; exact absurd h c3
/-- what was replaced -/
structure Put (l : List At) (name : ByteArray) (vs : List ByteArray) : Prop where
  nm : nameB name = true
  fit : Fit vs []
  len : (withL l name vs).length ≤ 32
  cnt : vs.length ≤ 16
  eq : (repR l name vs).1 = withL l name vs
theorem rep_ok {l : List At} {name : ByteArray} {vs : List ByteArray} (h : (repR l name vs).2 = 0) : Put l name vs := by
  unfold repR at h
  by_cases c1 : nameB name = false
  · rw [if_pos c1] at h; exact absurd h (by decide)
  · rw [if_neg c1] at h
    by_cases c3 : chkV vs [] = 0
    · rw [if_neg (by simp [c3])] at h
      obtain ⟨h1, h2, h3⟩ := lim_ok h
      exact ⟨by simpa using c1, chk_fit c3, h2, h3, by unfold repR; rw [if_neg c1, if_neg (by simp [c3]), h1]⟩
    · rw [if_pos c3] at h; exact absurd h c3
/-- what was removed -/
structure Gone (l : List At) (name : ByteArray) (vs : List ByteArray) : Prop where
  nm : nameB name = true
  eq : (remR l name vs).1 = withL l name (leftV (vals l (lowS name)) vs)
theorem rem_ok {l : List At} {name : ByteArray} {vs : List ByteArray} (h : (remR l name vs).2 = 0) : Gone l name vs := by
  unfold remR at h
  by_cases c1 : nameB name = false
  · rw [if_pos c1] at h; exact absurd h (by decide)
  · rw [if_neg c1] at h
    by_cases c2 : (vals l (lowS name)).length = 0
    · rw [if_pos c2] at h; exact absurd h (by decide)
    · rw [if_neg c2] at h
      by_cases c3 : remE vs (vals l (lowS name)) = 0
      · exact ⟨by simpa using c1, by unfold remR; rw [if_neg c1, if_neg c2, if_neg (by simp [c3])]⟩
      · rw [if_pos c3] at h; exact absurd h (by decide)
theorem with_nf {m l : List At} {name : ByteArray} {us : List ByteArray} (h : ∀ n v, Hl (withL m name us) n v ↔ Hl l n v) : withL m name us = nf l := by
  have h1 : nf (withL m name us) = withL m name us := nf_nf _
  rw [← h1]
  exact nf_ext (nf_NF _) (nf_NF _) fun n v => by rw [hs_nf, hs_nf]; exact h n v
end Go.Proofs.YtonfkhkalodldabGreatDoor
end

section
/-
  The edited lists stay small: for the laws Undone, Others and Normal. No condition.
-/
set_option maxRecDepth 100000
namespace Go.Proofs.YtonfkhkalodldabGreatDoor
open Go.RowKit Go.PlainAid
theorem leftV_len (a b : List ByteArray) : (leftV a b).length ≤ a.length := List.length_filter_le _ _
end Go.Proofs.YtonfkhkalodldabGreatDoor
end

section
/-
  Check says OK of normal forms and of edited lists, where it says so of the list: for the law Normal. No condition.
-/
set_option maxRecDepth 100000
namespace Go.Proofs.YtonfkhkalodldabGreatDoor
open Go.RowKit Go.PlainAid
theorem bt_lowA (s : ByteArray) (j : Nat) (h : j < s.size) : bt (lowS s) j = (if 65 ≤ bt s j ∧ bt s j ≤ 90 then bt s j + 32 else bt s j) := by
  obtain ⟨c, hc⟩ : ∃ c, s.data.toList[j]? = some c := ⟨_, List.getElem?_eq_getElem (by rw [← Lib.size_eq]; exact h)⟩
  have h2 : (lowS s).data.toList[j]? = some (lowB c) := by unfold lowS lowL; simp [hc]
  rw [bt_list _ _ _ h2, bt_list _ _ _ hc]
  by_cases hA : 65 ≤ (c.toNat : Int) ∧ (c.toNat : Int) ≤ 90
  · rw [if_pos hA, lowB_hit _ hA.1 hA.2]
  · rw [if_neg hA, lowB_miss _ hA]
theorem ltrI_low (x : Int) : ltrI (if 65 ≤ x ∧ x ≤ 90 then x + 32 else x) = ltrI x := by
  rw [Bool.eq_iff_iff]; unfold ltrI; simp only [Bool.or_eq_true, Bool.and_eq_true, decide_eq_true_eq]
  split <;> omega
theorem nameP_low (x : Int) : nameP (if 65 ≤ x ∧ x ≤ 90 then x + 32 else x) = nameP x := by
  unfold nameP
  rw [ltrI_low]
  by_cases h : 65 ≤ x ∧ x ≤ 90
  · rw [if_pos h]
    have : ltrI x = true := by unfold ltrI; simp; omega
    rw [this]; rfl
  · rw [if_neg h]
theorem name_low {s : ByteArray} (h : nameB s = true) : nameB (lowS s) = true := by
  unfold nameB at h ⊢
  simp only [Bool.and_eq_true, decide_eq_true_eq] at h ⊢
  obtain ⟨⟨⟨h1, h2⟩, h3⟩, h4⟩ := h
  rw [allB_iff] at h4 ⊢
  rw [lowS_size]
  exact ⟨⟨⟨h1, h2⟩, by rw [bt_lowA s 0 (by omega), ltrI_low]; exact h3⟩, fun j hj => by rw [bt_lowA s j hj, nameP_low]; exact h4 j hj⟩
/-- attributes that Check lets through -/
structure OkL (l : List At) : Prop where
  len : l.length ≤ 32
  each : ∀ a ∈ l, nameB a.1 = true ∧ a.2.length ≤ 16 ∧ Fit a.2 []
  one : ∀ i j, i < j → j < l.length → lowS (atD l i).1 ≠ lowS (atD l j).1
theorem mem_at {l : List At} {a : At} (h : a ∈ l) : ∃ j, j < l.length ∧ atD l j = a := by
  obtain ⟨j, hj, e⟩ := List.mem_iff_getElem.1 h
  exact ⟨j, hj, by rw [at_get l j hj]; exact e⟩
theorem chk_ok {l : List At} (h : chkA l = 0) : OkL l := by
  unfold chkA at h
  by_cases c : 32 < l.length
  · rw [if_pos c] at h; exact absurd h (by decide)
  · rw [if_neg c] at h
    have h1 : ∀ j, j < l.length → nameB (atD l j).1 = true ∧ twiceB l j = false ∧ (atD l j).2.length ≤ 16 ∧ chkV (atD l j).2 [] = 0 := fun j hj => by
      have h2 := firstE_all h j hj
      unfold errA at h2
      by_cases c1 : nameB (atD l j).1 = false
      · rw [if_pos c1] at h2; exact absurd h2 (by decide)
      · rw [if_neg c1] at h2
        by_cases c2 : twiceB l j = true
        · rw [if_pos c2] at h2; exact absurd h2 (by decide)
        · rw [if_neg c2] at h2
          by_cases c3 : (atD l j).2.length = 0
          · rw [if_pos c3] at h2; exact absurd h2 (by decide)
          · rw [if_neg c3] at h2
            by_cases c4 : 16 < (atD l j).2.length
            · rw [if_pos c4] at h2; exact absurd h2 (by decide)
            · rw [if_neg c4] at h2
              exact ⟨by simpa using c1, by simpa using c2, by omega, h2⟩
    refine ⟨by omega, fun a ha => ?_, fun i j hij hj e => ?_⟩
    · obtain ⟨j, hj, rfl⟩ := mem_at ha
      exact ⟨(h1 j hj).1, (h1 j hj).2.2.1, chk_fit (h1 j hj).2.2.2⟩
    · have h2 := twice_true hj hij e
      rw [(h1 j hj).2.1] at h2; cases h2
theorem part_map {l : List At} {i : Nat} (h : i < l.length) : partAt (l.map (·.1)) i = (atD l i).1 := by
  unfold partAt
  rw [List.getD_eq_getElem?_getD, List.getElem?_map, List.getElem?_eq_getElem h, at_get l i h]; rfl
theorem ok_chk {L : List At} (h : NF L) (hl : L.length ≤ 32) (he : ∀ a ∈ L, nameB a.1 = true ∧ a.2.length ≤ 16 ∧ ∀ v ∈ a.2, cleanB v = true) : chkA L = 0 := by
  unfold chkA
  rw [if_neg (by omega)]
  refine firstE_zero fun j hj => ?_
  have hm := at_mem L j hj
  obtain ⟨h1, h2, h3⟩ := he _ hm
  have h4 : twiceB L j = false := twice_false hj fun k hk => by
    rw [h.low _ (at_mem L k (by omega)), h.low _ hm, ← part_map hj, ← part_map (show k < L.length by omega)]
    exact part_ne h.asc (by rw [List.length_map]; omega) (by rw [List.length_map]; exact hj) (by omega)
  have h5 := h.ne _ hm
  unfold errA
  rw [if_neg (by rw [h1]; simp), if_neg (by rw [h4]; simp), if_neg (fun e => h5 (List.eq_nil_of_length_eq_zero e)), if_neg (by omega)]
  exact fit_chk ⟨h3, asc_nodup (h.vasc _ hm), fun _ _ => List.not_mem_nil⟩
theorem OkL.same {l : List At} (h : OkL l) {a b : At} (ha : a ∈ l) (hb : b ∈ l) (e : lowS a.1 = lowS b.1) : a = b := by
  obtain ⟨i, hi, rfl⟩ := mem_at ha
  obtain ⟨j, hj, rfl⟩ := mem_at hb
  rcases Nat.lt_trichotomy i j with k | k | k
  · exact absurd e (h.one i j k hj)
  · rw [k]
  · exact absurd e.symm (h.one j i k hi)
theorem OkL.vals {l : List At} (h : OkL l) {n : ByteArray} (hne : Proofs.YtonfkhkalodldabGreatDoor.vals l n ≠ []) : nameB n = true ∧ (Proofs.YtonfkhkalodldabGreatDoor.vals l n).length ≤ 16 ∧ ∀ v ∈ Proofs.YtonfkhkalodldabGreatDoor.vals l n, cleanB v = true := by
  obtain ⟨v, hv⟩ := List.exists_mem_of_ne_nil _ hne
  obtain ⟨a, ha, e, hva⟩ := vals_mem.1 hv
  obtain ⟨h1, h2, h3⟩ := h.each a ha
  have h4 : Proofs.YtonfkhkalodldabGreatDoor.vals l n = sortU a.2 := asc_ext (vals_asc _ _) (sortU_asc _) fun x => by
    rw [vals_mem, sortU_mem]
    constructor
    · rintro ⟨b, hb, e2, hx⟩
      rw [h.same ha hb (e.trans e2.symm)]; exact hx
    · intro hx; exact ⟨a, ha, e, hx⟩
  refine ⟨by rw [← e]; exact name_low h1, ?_, fun x hx => ?_⟩
  · rw [h4]; exact Nat.le_trans (sortU_len _) h2
  · rw [h4, sortU_mem] at hx; exact h3.clean x hx
theorem nf_chk {l : List At} (h : chkA l = 0) : chkA (nf l) = 0 := by
  have hk := chk_ok h
  refine ok_chk (nf_NF l) (Nat.le_trans (nf_len l) hk.len) fun a ha => ?_
  obtain ⟨h1, h2⟩ := nf_mem.1 ha
  rw [h1] at h2 ⊢
  exact hk.vals h2
theorem with_chk {l : List At} {name : ByteArray} {us : List ByteArray} (h : OkL l) (hn : nameB name = true) (hc : ∀ v ∈ us, cleanB v = true) (h16 : us.length ≤ 16) (h32 : (withL l name us).length ≤ 32) : chkA (withL l name us) = 0 := by
  refine ok_chk (nf_NF _) h32 fun a ha => ?_
  obtain ⟨h1, h2⟩ := nf_mem.1 ha
  have h3 : a.2 = vals (withL l name us) a.1 := by unfold withL; rw [vals_nf]; exact h1
  by_cases e : a.1 = lowS name
  · rw [e, vals_with] at h3
    refine ⟨by rw [e]; exact name_low hn, ?_, fun v hv => ?_⟩
    · rw [h3]; exact Nat.le_trans (sortU_len _) h16
    · rw [h3, sortU_mem] at hv; exact hc v hv
  · rw [vals_other e] at h3
    rw [h3] at h2 ⊢
    exact h.vals h2
theorem old_clean {l : List At} (h : OkL l) (n : ByteArray) : (vals l n).length ≤ 16 ∧ ∀ v ∈ vals l n, cleanB v = true := by
  by_cases e : vals l n = []
  · rw [e]; exact ⟨Nat.zero_le _, fun v hv => absurd hv List.not_mem_nil⟩
  · exact (h.vals e).2
theorem add_chk {l : List At} {name : ByteArray} {vs : List ByteArray} (h : chkA l = 0) (he : (addR l name vs).2 = 0) : chkA (addR l name vs).1 = 0 := by
  have hA := add_ok he
  rw [hA.eq]
  exact with_chk (chk_ok h) hA.nm (fun v hv => (List.mem_append.1 hv).elim ((old_clean (chk_ok h) _).2 v) (hA.fit.clean v)) hA.cnt hA.len
theorem rep_chk {l : List At} {name : ByteArray} {vs : List ByteArray} (h : chkA l = 0) (he : (repR l name vs).2 = 0) : chkA (repR l name vs).1 = 0 := by
  have hA := rep_ok he
  rw [hA.eq]
  exact with_chk (chk_ok h) hA.nm hA.fit.clean hA.cnt hA.len
theorem rem_len {l : List At} {name : ByteArray} {us : List ByteArray} (hl : l.length ≤ 32) (hu : us ≠ [] → vals l (lowS name) ≠ []) : (withL l name us).length ≤ 32 := by
  have h2 := nf_len l
  by_cases e : us = []
  · have h1 : withL l name us = nf (wthL l (lowS name)) := with_nf fun n v => by
      rw [hl_with, hl_wth, e]
      by_cases c : n = lowS name
      · rw [if_pos c]; simp [c]
      · rw [if_neg c]; simp [c]
    rw [h1]
    have h3 := nf_len (wthL l (lowS name))
    have h4 : (wthL l (lowS name)).length ≤ (nf l).length := List.length_filter_le _ _
    omega
  · have h3 := nf_len (wthL l (lowS name) ++ [(name, us)])
    rw [List.length_append, List.length_singleton] at h3
    have h4 : (wthL l (lowS name)).length < (nf l).length := by
      unfold wthL
      refine List.length_filter_lt_length_iff_exists.2 ⟨(lowS name, vals l (lowS name)), nf_mem.2 ⟨rfl, hu e⟩, by simp⟩
    unfold withL
    omega
theorem rem_chk {l : List At} {name : ByteArray} {vs : List ByteArray} (h : chkA l = 0) (he : (remR l name vs).2 = 0) : chkA (remR l name vs).1 = 0 := by
  have hA := rem_ok he
  have hk := chk_ok h
  obtain ⟨h1, h2⟩ := old_clean hk (lowS name)
  rw [hA.eq]
  refine with_chk hk hA.nm (fun v hv => h2 v (List.mem_filter.1 hv).1) (Nat.le_trans (leftV_len _ _) h1) (rem_len hk.len fun e k => e ?_)
  rw [k]; rfl
end Go.Proofs.YtonfkhkalodldabGreatDoor
end

section
/-
  Plain functions for the escaped forms: which bytes stand as they are, hexadecimal digits, the escaped form and reading it back. No condition.
-/
set_option maxRecDepth 100000
namespace Go.Proofs.YtonfkhkalodldabGreatDoor
open Go.PlainAid
def plainI (c : Int) : Bool := decide (33 ≤ c) && decide (c ≤ 126) && !(c == 37) && !(c == 124) && !(c == 44) && !(c == 61) && !(c == 59) && !(c == 34)
def plainC (c : UInt8) : Bool := plainI (c.toNat : Int)
def hexC (d : Nat) : UInt8 := if d < 10 then UInt8.ofNat (48 + d) else UInt8.ofNat (55 + d)
def escC (c : UInt8) : List UInt8 := if plainC c then [c] else [37, hexC (c.toNat / 16), hexC (c.toNat % 16)]
def escL (l : List UInt8) : List UInt8 := l.flatMap escC
def hexS : ByteArray := ⟨#[48, 49, 50, 51, 52, 53, 54, 55, 56, 57, 65, 66, 67, 68, 69, 70]⟩
theorem hexC_table : ∀ d : Nat, d < 16 → bt hexS d = ((hexC d).toNat : Int) := by decide +kernel
theorem escL_snoc (l : List UInt8) (c : UInt8) : escL (l ++ [c]) = escL l ++ escC c := by simp [escL]
theorem escC_length (c : UInt8) : (escC c).length ≤ 3 := by unfold escC; split <;> simp
theorem escL_length (l : List UInt8) : (escL l).length ≤ 3 * l.length := by
  induction l with
  | nil => simp [escL]
  | cons c l ih =>
    have e : escL (c :: l) = escC c ++ escL l := by simp [escL]
    rw [e, List.length_append, List.length_cons]
    have := escC_length c
    omega
theorem escC_plain (c : UInt8) (h : plainC c = true) : escC c = [c] := by unfold escC; rw [if_pos h]
theorem escC_other (c : UInt8) (h : plainC c = false) : escC c = [37, hexC (c.toNat / 16), hexC (c.toNat % 16)] := by unfold escC; rw [if_neg (by simp [h])]
theorem hex_hi (x : Int) (c : UInt8) (h : x = (c.toNat : Int)) : bt (⟨#[48, 49, 50, 51, 52, 53, 54, 55, 56, 57, 65, 66, 67, 68, 69, 70]⟩ : ByteArray) (x / 16).toNat = ((hexC (c.toNat / 16)).toNat : Int) := by
  have hc := c.toNat_lt
  have e : (x / 16).toNat = c.toNat / 16 := by omega
  rw [e]
  exact hexC_table _ (by omega)
theorem hex_lo (x : Int) (c : UInt8) (h : x = (c.toNat : Int)) : bt (⟨#[48, 49, 50, 51, 52, 53, 54, 55, 56, 57, 65, 66, 67, 68, 69, 70]⟩ : ByteArray) (x % 16).toNat = ((hexC (c.toNat % 16)).toNat : Int) := by
  have e : (x % 16).toNat = c.toNat % 16 := by omega
  rw [e]
  exact hexC_table _ (by omega)
/-- byte k of a string -/
def chr (s : ByteArray) (k : Nat) : UInt8 := s.data.toList.getD k 0
theorem bt_chr (s : ByteArray) (k : Nat) : bt s k = ((chr s k).toNat : Int) := by
  unfold chr
  by_cases h : k < s.size
  · rw [bt_at s k h, List.getD_eq_getElem?_getD, List.getElem?_eq_getElem (by simpa using h)]; rfl
  · rw [bt_end s (by omega), List.getD_eq_getElem?_getD, List.getElem?_eq_none (by rw [← Lib.size_eq]; omega)]; rfl
theorem take_chr (s : ByteArray) (k : Nat) (h : k < s.size) : s.data.toList.take (k + 1) = s.data.toList.take k ++ [chr s k] := by
  rw [take_succ s k h]; unfold chr; rw [List.getD_eq_getElem?_getD, List.getElem?_eq_getElem (by simpa using h)]; rfl
theorem esc_step (s : ByteArray) (k : Nat) (h : k < s.size) : escL (s.data.toList.take (k + 1)) = escL (s.data.toList.take k) ++ escC (chr s k) := by rw [take_chr s k h, escL_snoc]
theorem plain_chr (s : ByteArray) (k : Nat) : plainC (chr s k) = plainI (bt s k) := by unfold plainC; rw [bt_chr]
end Go.Proofs.YtonfkhkalodldabGreatDoor
end

section
/-
  Plain functions for reading escaped forms. No condition.
-/
set_option maxRecDepth 100000
namespace Go.Proofs.YtonfkhkalodldabGreatDoor
open Go.PlainAid
theorem drop_chr (s : ByteArray) (i : Nat) (h : i < s.size) : s.data.toList.drop i = chr s i :: s.data.toList.drop (i + 1) := by
  unfold chr
  rw [List.getD_eq_getElem?_getD, List.getElem?_eq_getElem (by simpa using h)]
  exact List.drop_eq_getElem_cons (by simpa using h)
end Go.Proofs.YtonfkhkalodldabGreatDoor
end

section
/-
  The shelf of this seat lies in one text. No condition.
-/
set_option maxRecDepth 100000
namespace Go.Proofs.YtonfkhkalodldabGreatDoor
end Go.Proofs.YtonfkhkalodldabGreatDoor
end

section
/-
  Contracts of strings.Builder as this program's translation has it: copyCheck, WriteByte, WriteString, String, at a builder that the call itself made. Condition: at most 2^47 bytes.
-/
set_option maxRecDepth 100000
namespace Go.Proofs.YtonfkhkalodldabGreatDoor
open Go.RowKit Go.PlainAid
theorem bsize : (Tryz.prog.info? 95).map (·.size) = some 2 := by kernel_rfl
theorem blies : liesAt Tryz.prog Tryz.prog.depth 95 (2 / Tryz.prog.cellsOf 95) 0 95 1 = true := by kernel_rfl
set_option maxHeartbeats 1000000 in
set_option maxRecDepth 100000 in
/-- a builder that was written before -/
theorem check_used (b : Nat) (w : World) (h0 : w.cell? ⟨b, 0, none⟩ = some (.pointer (some ⟨b, 0, none⟩))) :
    Calls Tryz.prog 97 #[.pointer (some ⟨b, 0, none⟩)] w fun e w' => e = .returned (.tuple #[]) ∧ w' = w := by
  obtain ⟨j, hj, _⟩ := Option.map_eq_some_iff.1 bsize
  go_enter Tryz.func97, Tryz.ntmps97
  go_wp2
  rw [Lib.run_neq_ptr_same w _ Tryz.underlying92 hj]
  go_wp2
  go_end0
  exact ⟨rfl, rfl⟩
set_option maxHeartbeats 1000000 in
set_option maxRecDepth 100000 in
/-- a fresh one: it notes its own address -/
theorem check_fresh (b : Nat) (w : World) (h0 : w.cell? ⟨b, 0, none⟩ = some (.pointer none)) (hsh : w.shape? b = some (95, 2)) (hfz : w.frozen? ⟨b, 0, none⟩ = false) :
    Calls Tryz.prog 97 #[.pointer (some ⟨b, 0, none⟩)] w fun e w' => e = .returned (.tuple #[]) ∧ w' = w.setCell ⟨b, 0, none⟩ (.pointer (some ⟨b, 0, none⟩)) := by
  obtain ⟨j, hj, hjs⟩ := Option.map_eq_some_iff.1 bsize
  go_enter Tryz.func97, Tryz.ntmps97
  go_wp2
  rw [Lib.run_to_unsafe w ⟨b, 0, none⟩ Tryz.underlying92 Tryz.underlying169 hj (by rw [hjs]; decide) hsh (Nat.zero_lt_succ 1)]
  simp only [Result.andThen]
  rw [Oper.upon_value]
  go_wp2
  rw [run_callFunc_extern Tryz.func122 (by kernel_rfl) (by kernel_rfl) (by kernel_rfl) (e := Extern.AbiNoEscape.same) (by kernel_rfl)]
  rw [Lib.run_noEscape]
  simp only [Result.andThen]
  rw [Oper.upon_value]
  go_wp2
  rw [Lib.run_from_unsafe w ⟨b, 0, none⟩ Tryz.underlying169 Tryz.underlying92 hj hsh blies]
  simp only [Result.andThen]
  rw [Oper.upon_value]
  go_wp2
  go_end0
  exact ⟨rfl, rfl⟩
/-- a builder of the call's own that holds the bytes l -/
def Bld (B b : Nat) (l : List UInt8) (w : World) : Prop := Lib.IsBuilder 95 5 B b (bcells l) w
theorem check_any (B b : Nat) (bs : List Value) (w : World) (h : Lib.IsBuilder 95 5 B b bs w) :
    Calls Tryz.prog 97 #[.pointer (some ⟨b, 0, none⟩)] w fun e w' => e = .returned (.tuple #[]) ∧ (Lib.BuilderAt 95 5 B b (.pointer (some ⟨b, 0, none⟩)) bs w' ∧ Below B w w') := by
  rcases h with h | h
  · refine (check_fresh b w h.cell0 h.shape h.frozen0).mono ?_
    rintro e w' ⟨rfl, rfl⟩
    exact ⟨rfl, h.used _, (Below.refl B w).setCell (p := ⟨b, 0, none⟩) h.1 _⟩
  · refine (check_used b w h.cell0).mono ?_
    rintro e w' ⟨rfl, rfl⟩
    exact ⟨rfl, h, Below.refl B _⟩
/-- 'b = append(b, c)' as push_byte, telling what has grown -/
theorem push_byte_g {ops : Array Oper} {rest : List Oper} {o : Oper} {a : Act} {Q : Exit → Act → World → Prop} (wr : World) {base : Nat} {v : Value} {n : Nat} {xs : List Value} (hown : wr.ownsRow base 5 1 v n xs) (s x : Operand)
    (c : Int) (hgd : o.guard = none)
    (ho : o.op = .call { callee := .builtin .append, args := #[s, x], argTypes := #[93, 93] })
    (hs : a.eval s = v) (hx : a.eval x = .slice (some ⟨wr.heap.size, 0, none⟩) 1 1) (hn : n + 1 ≤ 140737488355328) (hbase : base ≤ wr.heap.size)
    (h : ∀ v' w', w'.ownsRow base 5 1 v' (n + 1) (xs ++ [.int .u8 c]) → (wr.alloc (.cells #[.int .u8 c] 5)).grownBy w' v.ownBlock → wpList Tryz.prog ops Q rest (a.put o.dst v') w') :
    wpList Tryz.prog ops Q (o :: rest) a (wr.alloc (.cells #[.int .u8 c] 5)) := by
  obtain ⟨i0, hi, hz0, hz1, hz2⟩ := info_parts info5
  refine wpList_append_own _ hgd s x 93 ho base 5 i0 (.int .u8 0) 1 1 Tryz.underlying93 hi hz0 hz1 hz2 rfl (by decide) v n xs hs (hown.alloc _) ⟨wr.heap.size, 0, none⟩ 1 1 [.int .u8 c] hx rfl
    (cell_one_new _ _ _) (by intro u hu; simp at hu; subst hu; rfl) (by unfold maxLen; omega) (by omega) (by simp; omega) ?_
  intro v' w' h1 h2 _
  exact h v' w' h1 h2
set_option maxHeartbeats 2000000 in
set_option maxRecDepth 100000 in
theorem writeByte_cells (B b : Nat) (bs : List Value) (c : Int) (w : World) (h : Lib.IsBuilder 95 5 B b bs w) (hlen : bs.length + 1 ≤ 140737488355328) (hBw : B ≤ w.heap.size) :
    Calls Tryz.prog 68 #[.pointer (some ⟨b, 0, none⟩), .int .u8 c] w fun e w' => e = .returned .nilIface ∧ (Lib.BuilderAt 95 5 B b (.pointer (some ⟨b, 0, none⟩)) (bs ++ [.int .u8 c]) w' ∧ Below B w w') := by
  go_enter Tryz.func68, Tryz.ntmps68
  go_wp2_with (go_at_call 97; refine (check_any B b bs _ h).mono ?_)
  rintro e w1 ⟨rfl, h1, hb1⟩
  obtain ⟨hB, v, hbk, hown, hne⟩ := h1
  have c1 : w1.cell? ⟨b, 1, none⟩ = some v := by rw [Lib.cell_of_heap hbk]; rfl
  have HZ := hb1.size
  go_wp2_with (at_builtin; refine push_byte_g w1 hown (.tmp 11) (.tmp 13) _ ?_ ?_ ?_ ?_ ?_ ?_ ?_; exact rfl; exact rfl; exact rfl; exact rfl; omega; omega)
  intro v' w2 hown' hgrow
  have hlt : b < w1.heap.size := by
    rcases Nat.lt_or_ge b w1.heap.size with h' | h'
    · exact h'
    · simp [Array.getElem?_eq_none h'] at hbk
  have hb2 : w2.heap[b]? = some (.cells #[.pointer (some ⟨b, 0, none⟩), v] 95 (0, 0)) := by
    rw [hgrow.block b (by simp; omega) (fun e => hne e.symm), Lib.alloc_old w1 _ b hlt]
    exact hbk
  have d1 : w2.cell? ⟨b, 1, none⟩ = some v := by rw [Lib.cell_of_heap hb2]; rfl
  have f1 : w2.frozen? ⟨b, 1, none⟩ = false := Lib.frozen_of_heap hb2 1
  obtain ⟨g, cap, rfl⟩ : ∃ g cap, v' = .slice (some ⟨g, 0, none⟩) (bs.length + 1) cap := by
    rcases hown'.2 with ⟨_, h0⟩ | ⟨g, cap, cur, hv, _⟩
    · omega
    · exact ⟨g, cap, hv⟩
  go_wp2
  go_ret
  refine ⟨rfl, ?_, ?_⟩
  · exact Lib.BuilderAt.put (T := 95) (e := 5) hB hb2 (bs' := bs ++ [.int .u8 c]) (by simpa using hown') (by decide)
  · exact ((hb1.alloc (by omega) _).grown hgrow (by simp; omega) (fun k hk => (hown.lt k hk).1)).setCell (p := ⟨b, 1, none⟩) hB _
/-- WriteByte at a builder that holds the bytes l -/
theorem writeByte_s (B b : Nat) (l : List UInt8) (c : UInt8) (x : Int) (w : World) (h : Bld B b l w) (hx : x = (c.toNat : Int)) (hlen : l.length ≤ 100000000000) (hBw : B ≤ w.heap.size) :
    Calls Tryz.prog 68 #[.pointer (some ⟨b, 0, none⟩), .int .u8 x] w fun e w' => e = .returned .nilIface ∧ Bld B b (l ++ [c]) w' ∧ Below B w w' := by
  subst hx
  refine (writeByte_cells B b (bcells l) c.toNat w h (by rw [bcells_length]; omega) hBw).mono fun e w' h => ⟨h.1, ?_, h.2.2⟩
  unfold Bld
  rw [bcells_append]
  exact .inr h.2.1
/-- String at a builder that holds the bytes l -/
theorem string_s (B b : Nat) (l : List UInt8) (w : World) (h : Bld B b l w) (hBw : B ≤ w.heap.size) :
    Calls Tryz.prog 51 #[.pointer (some ⟨b, 0, none⟩)] w fun e w' => e = .returned (.string ⟨l.toArray⟩) ∧ Below B w w' :=
  (Tryz.Builder_String_any B b l w h hBw).mono fun e w' h => ⟨h.1, h.2⟩
/-- a fresh builder -/
theorem bld_new (w : World) : Bld w.heap.size w.heap.size [] (w.alloc (.cells #[.pointer none, .slice none 0 0] 95)) := Lib.fresh_isBuilder _ _ w
theorem Bld.below {B b : Nat} {l : List UInt8} {w w' : World} (h : Bld B b l w) (hb : Below w.heap.size w w') : Bld B b l w' := by
  have one : ∀ p, Lib.BuilderAt 95 5 B b p (bcells l) w → Lib.BuilderAt 95 5 B b p (bcells l) w' := fun p h => by
    have hl := h.lt
    obtain ⟨hB, v, hbk, hown, hne⟩ := h
    refine ⟨hB, v, by rw [hb.block b hl]; exact hbk, ?_, hne⟩
    exact hown.kept (row := none) ⟨hb.os, hb.tape, hb.output, hb.size, fun k hk _ => hb.block k hk⟩ (by
      cases h : v.ownBlock
      · exact .inl rfl
      · exact .inr (by simp))
  rcases h with h | h
  · exact .inl (one _ h)
  · exact .inr (one _ h)
end Go.Proofs.YtonfkhkalodldabGreatDoor
end

section
/-
  The contract of strings.Builder's WriteString as this program's translation has it, at a builder that the call itself made. Condition: at most 2^46 bytes.
-/
set_option maxRecDepth 100000
namespace Go.Proofs.YtonfkhkalodldabGreatDoor
open Go.RowKit Go.PlainAid
theorem strCells_b (s : ByteArray) : Lib.strCells s = bcells s.data.toList := rfl
end Go.Proofs.YtonfkhkalodldabGreatDoor
end

section
/-
  Plain functions for the text forms of lists: the pieces between the bars, reading them, writing them. No condition.
-/
set_option maxRecDepth 100000
namespace Go.Proofs.YtonfkhkalodldabGreatDoor
open Go.PlainAid
/-- the pieces between the bytes b -/
def pieces (b : UInt8) : List UInt8 → List (List UInt8)
  | [] => [[]]
  | c :: l => if c = b then [] :: pieces b l else match pieces b l with
    | p :: r => (c :: p) :: r
    | [] => [[c]]
theorem occ_one (l : List UInt8) (b : UInt8) (i : Nat) : Lib.occAt l [b] i = true ↔ l[i]? = some b := by
  unfold Lib.occAt
  rw [← List.head?_drop]
  cases l.drop i with
  | nil => simp
  | cons c m =>
    simp only [List.isPrefixOf, Bool.and_true, List.head?_cons, Option.some.injEq, beq_iff_eq]
    exact eq_comm
theorem pieces_hit (b : UInt8) : ∀ (l : List UInt8) (i : Nat), l[i]? = some b → (∀ j, j < i → l[j]? ≠ some b) → pieces b l = l.take i :: pieces b (l.drop (i + 1))
  | [], i, h, _ => by simp at h
  | c :: l, 0, h, _ => by
    have : c = b := by simpa using h
    conv => lhs; unfold pieces
    rw [if_pos this]; rfl
  | c :: l, i + 1, h, hn => by
    have hc : c ≠ b := fun e => hn 0 (by omega) (by rw [e]; rfl)
    have ih := pieces_hit b l i (by simpa using h) (fun j hj => by have := hn (j + 1) (by omega); simpa using this)
    conv => lhs; unfold pieces
    rw [if_neg hc, ih]
    rfl
theorem pieces_miss (b : UInt8) : ∀ (l : List UInt8), (∀ j : Nat, l[j]? ≠ some b) → pieces b l = [l]
  | [], _ => rfl
  | c :: l, hn => by
    have hc : c ≠ b := fun e => hn 0 (by rw [e]; rfl)
    have ih := pieces_miss b l (fun j => by have := hn (j + 1); simpa using this)
    unfold pieces
    rw [if_neg hc, ih]
/-- Cut at one byte -/
theorem cut_one (t : ByteArray) (b : UInt8) : (cutOk t ⟨#[b]⟩ = true ∧ pieces b t.data.toList = (cutBef t ⟨#[b]⟩).data.toList :: pieces b (cutAft t ⟨#[b]⟩).data.toList ∧ (cutAft t ⟨#[b]⟩).size < t.size ∧ (cutBef t ⟨#[b]⟩).size ≤ t.size ∧
      (∀ j : Nat, (cutBef t ⟨#[b]⟩).data.toList[j]? ≠ some b)) ∨
    (cutOk t ⟨#[b]⟩ = false ∧ pieces b t.data.toList = [t.data.toList] ∧ cutBef t ⟨#[b]⟩ = t ∧ cutAft t ⟨#[b]⟩ = ⟨#[]⟩) := by
  have e : (⟨#[b]⟩ : ByteArray).data.toList = [b] := rfl
  rcases Lib.index_spec t.data.toList [b] with ⟨hi, hn⟩ | ⟨i, hi, hle, ho, hno⟩
  · refine .inr ?_
    have hcut : Lib.cut t.data.toList (⟨#[b]⟩ : ByteArray).data.toList = (t.data.toList, [], false) := by
      unfold Lib.cut; rw [e, hi]; rfl
    refine ⟨by unfold cutOk; rw [hcut], ?_, ?_, ?_⟩
    · refine pieces_miss b _ (fun j hj => ?_)
      have hlt : j < t.data.toList.length := (List.getElem?_eq_some_iff.1 hj).1
      have := hn j (by omega)
      rw [(occ_one _ _ _).2 hj] at this
      cases this
    · unfold cutBef; rw [hcut]
    · unfold cutAft; rw [hcut]
  · refine .inl ?_
    have hget := (occ_one _ _ _).1 ho
    have hlt : i < t.data.toList.length := (List.getElem?_eq_some_iff.1 hget).1
    have hcut : Lib.cut t.data.toList (⟨#[b]⟩ : ByteArray).data.toList = (t.data.toList.take i, t.data.toList.drop (i + 1), true) := by
      unfold Lib.cut; rw [e, hi, if_pos (by omega)]; simp
    have hno' : ∀ j, j < i → t.data.toList[j]? ≠ some b := fun j hj h => by
      have := hno j hj
      rw [(occ_one _ _ _).2 h] at this
      cases this
    have eb : (cutBef t ⟨#[b]⟩).data.toList = t.data.toList.take i := by unfold cutBef; rw [hcut]
    have ea : (cutAft t ⟨#[b]⟩).data.toList = t.data.toList.drop (i + 1) := by unfold cutAft; rw [hcut]
    refine ⟨by unfold cutOk; rw [hcut], ?_, ?_, ?_, ?_⟩
    · rw [eb, ea]; exact pieces_hit b _ i hget hno'
    · rw [Lib.size_eq, Lib.size_eq t, ea, List.length_drop]; omega
    · rw [Lib.size_eq, Lib.size_eq t, eb, List.length_take]; omega
    · intro j hj
      rw [eb, List.getElem?_take] at hj
      by_cases h : j < i
      · rw [if_pos h] at hj; exact hno' j h hj
      · rw [if_neg h] at hj; cases hj
def ofL (l : List UInt8) : ByteArray := ⟨l.toArray⟩
end Go.Proofs.YtonfkhkalodldabGreatDoor
end

section
/-
  Plain functions for decimal forms, and the contract of codec.decimal. Condition: at most 1000000000 bytes.
-/
set_option maxRecDepth 100000
namespace Go.Proofs.YtonfkhkalodldabGreatDoor
open Go.RowKit Go.PlainAid
def digB (c : UInt8) : Bool := decide (48 ≤ c.toNat) && decide (c.toNat ≤ 57)
/-- without one leading minus -/
def stripL (l : List UInt8) : List UInt8 := Lib.trimPrefix l [45]
def digsB (l : List UInt8) : Bool := match l with
  | [] => false
  | c :: _ => !(c == 48) && l.all digB
def decB (l : List UInt8) : Bool := decide (l = [48]) || digsB (stripL l)
theorem byte_chr (t : ByteArray) (k : Nat) (h : k < t.size) : ((t[k]'h).toNat : Int) = bt t k := by unfold bt; rw [dif_pos h]
end Go.Proofs.YtonfkhkalodldabGreatDoor
end

section
/-
  What strconv's Itoa and Atoi ask of the world, and the contracts of codec.Int and codec.ReadInt. Condition: the library's table of powers and its error lie as the program's text lays them; at most 1000000000 bytes.
-/
set_option maxRecDepth 100000
namespace Go.Proofs.YtonfkhkalodldabGreatDoor
open Go.RowKit Go.PlainAid
def IntOk (w : World) : Prop := Lib.TabIs Tryz.prog w "internal/strconv.uint64pow10" .u64 Lib.pow10Tab ∧ ∃ tp p, w.var? Tryz.prog "strconv.ErrRange" = some #[.iface tp p]
theorem var_below {w w' : World} {B : Nat} {n : String} {cs : Array Value} (h : w.var? Tryz.prog n = some cs) (hb : Below B w w') (hB : w.heap.size ≤ B) : w'.var? Tryz.prog n = some cs := by
  unfold World.var? at h ⊢
  cases hg : Tryz.prog.globalNamed n with
  | none => rw [hg] at h; cases h
  | some g =>
    rw [hg] at h
    simp only [Option.bind_some] at h ⊢
    have hlt : g < w.heap.size := by
      rcases Nat.lt_or_ge g w.heap.size with k | k
      · exact k
      · rw [Array.getElem?_eq_none k] at h; cases h
    rw [hb.block g (by omega)]
    exact h
theorem IntOk.below {w w' : World} (h : IntOk w) (hb : Below w.heap.size w w') : IntOk w' :=
  ⟨var_below h.1 hb (Nat.le_refl _), by obtain ⟨tp, p, e⟩ := h.2; exact ⟨tp, p, var_below e hb (Nat.le_refl _)⟩⟩
theorem below_bw (w : World) (e : TypeId) (s : ByteArray) : Below w.heap.size w (Lib.bytesWorld w e s) :=
  ⟨rfl, rfl, rfl, by rw [Lib.bytesWorld_size]; omega, fun j hj => Lib.bytesWorld_at_old w e s j hj⟩
theorem below_grow (w : World) (k : Nat) (os : Array Obj) : Below w.heap.size w (Go.Sort.grow (w.drewN k) os) :=
  ⟨rfl, rfl, rfl, by simp [Go.Sort.grow], fun j hj => by simp [Go.Sort.grow, Array.getElem?_append, hj]⟩
theorem atoi_ok (s : ByteArray) (v : Int) (w : World) (hs : s.size ≤ 1000000000) (h : Lib.atoiAll s.data.toList = .ok v) :
    Calls Tryz.prog 147 #[.string s] w fun e w' => e = .returned (.tuple #[.int .i64 v, .nilIface]) ∧ Below w.heap.size w w' :=
  (Tryz.strconv_Atoi_ok s (by omega) v h w).mono fun e w' k => ⟨k.1, by
    rcases k.2 with rfl | ⟨t, rfl⟩
    · exact Below.refl _ _
    · exact below_bw _ _ _⟩
theorem itoa_s (n : Int) (w : World) (h0 : -9223372036854775808 ≤ n) (h1 : n ≤ 9223372036854775807) (ho : IntOk w) :
    Calls Tryz.prog 148 #[.int .i64 n] w fun e w' => e = .returned (.string (ofL (Lib.itoa n))) ∧ Below w.heap.size w w' :=
  (Tryz.strconv_Itoa n h0 h1 w ho.1).mono fun e w' ⟨k1, k, os, k2⟩ => ⟨k1, by rw [k2]; exact below_grow w k os⟩
/-- a parse that ends in a number or out of range -/
def Fair {α : Type} (x : Lib.NumEnd α) : Prop := (∃ v, x = .ok v) ∨ x = .range
theorem parse_digits : ∀ (l : List UInt8) (acc : Nat), l.all digB = true → Fair (Lib.parseUint10 acc l)
  | [], acc, _ => .inl ⟨acc, rfl⟩
  | c :: r, acc, h => by
    rw [List.all_cons, Bool.and_eq_true] at h
    have hc : 48 ≤ c.toNat ∧ c.toNat ≤ 57 := by simpa [digB] using h.1
    unfold Lib.parseUint10
    rw [if_pos hc]
    split
    · exact .inr rfl
    · split
      · exact .inr rfl
      · exact parse_digits r _ h.2
theorem signless_fair {x : Lib.NumEnd Nat} (h : Fair x) : Fair (Lib.signless x) := by
  rcases h with ⟨v, rfl⟩ | rfl
  · unfold Lib.signless; dsimp only; split
    · exact .inr rfl
    · exact .inl ⟨_, rfl⟩
  · exact .inr rfl
theorem signed_fair {x : Lib.NumEnd Nat} (h : Fair x) : Fair (Lib.signed x) := by
  rcases h with ⟨v, rfl⟩ | rfl
  · unfold Lib.signed; dsimp only; split
    · exact .inr rfl
    · exact .inl ⟨_, rfl⟩
  · exact .inr rfl
theorem strip_minus (r : List UInt8) : stripL (45 :: r) = r := by simp [stripL, Lib.trimPrefix, Lib.hasPrefix]
theorem strip_plain (c : UInt8) (r : List UInt8) (h : c ≠ 45) : stripL (c :: r) = c :: r := by
  unfold stripL Lib.trimPrefix Lib.hasPrefix
  rw [if_neg]
  simp only [List.isPrefixOf, Bool.and_eq_true, beq_iff_eq]
  rintro ⟨e, _⟩; exact h e.symm
/-- what ReadInt returns -/
def readI (l : List UInt8) : Int × Int := if decB l then (match Lib.atoiAll l with
  | .ok v => (v, 0)
  | _ => (0, 27)) else (0, 4)
set_option maxRecDepth 100000 in
theorem int_s (n : Int) (w : World) (h0 : -9223372036854775808 ≤ n) (h1 : n ≤ 9223372036854775807) (ho : IntOk w) :
    Calls Tryz.prog 132 #[.int .i64 n] w fun e w' => e = .returned (.string (ofL (Lib.itoa n))) ∧ Below w.heap.size w w' := by
  have HO := Lib.hid ho; clear ho
  go_enter Tryz.func132, Tryz.ntmps132
  go_wp2_with (go_at_call 148; refine (itoa_s n _ h0 h1 HO.out).mono ?_; rintro e w1 ⟨rfl, hb1⟩)
  go_ret
  exact ⟨rfl, hb1⟩
end Go.Proofs.YtonfkhkalodldabGreatDoor
end

section
/-
  Decimal numerals and their values: what ReadInt returns, by the value of the digits. No condition.
-/
set_option maxRecDepth 100000
namespace Go.Proofs.YtonfkhkalodldabGreatDoor
/-- the value of digits behind acc -/
def valA (acc : Nat) (l : List UInt8) : Nat := l.foldl (fun a c => 10 * a + (c.toNat - 48)) acc
def valD (l : List UInt8) : Nat := valA 0 l
theorem valA_cons (a : Nat) (c : UInt8) (l : List UInt8) : valA a (c :: l) = valA (10 * a + (c.toNat - 48)) l := by
  unfold valA
  rw [List.foldl_cons]
theorem valD_snoc (l : List UInt8) (c : UInt8) : valD (l ++ [c]) = 10 * valD l + (c.toNat - 48) := by
  unfold valD valA
  rw [List.foldl_append, List.foldl_cons, List.foldl_nil]
theorem valA_ge : ∀ (l : List UInt8) (a : Nat), a ≤ valA a l
  | [], a => Nat.le_refl _
  | c :: l, a => by rw [valA_cons]; exact Nat.le_trans (by omega) (valA_ge l _)
theorem digB_bounds {c : UInt8} (h : digB c = true) : 48 ≤ c.toNat ∧ c.toNat ≤ 57 := by simpa [digB] using h
theorem parse_val : ∀ (l : List UInt8) (acc : Nat), acc < 18446744073709551616 → l.all digB = true →
    Lib.parseUint10 acc l = if valA acc l < 18446744073709551616 then .ok (valA acc l) else .range
  | [], acc, ha, h => by rw [if_pos (show valA acc [] < _ from ha)]; rfl
  | c :: r, acc, ha, h => by
    rw [List.all_cons, Bool.and_eq_true] at h
    have hc := digB_bounds h.1
    have hg := valA_ge r (10 * acc + (c.toNat - 48))
    unfold Lib.parseUint10
    rw [if_pos hc, valA_cons]
    split
    · rw [if_neg (by omega)]
    · split
      · rw [if_neg (by omega)]
      · rw [Nat.mul_comm acc 10]
        exact parse_val r _ (by omega) h.2
theorem val_dec (u : Nat) : valD (Lib.decDigits u) = u := by
  induction u using Nat.strongRecOn with
  | _ u ih =>
    by_cases h : u < 10
    · rw [Lib.decDigits, dif_pos h]
      show 10 * 0 + ((UInt8.ofNat (48 + u)).toNat - 48) = u
      rw [UInt8.toNat_ofNat']; omega
    · rw [Lib.decDigits, dif_neg h, valD_snoc, ih (u / 10) (by omega), UInt8.toNat_ofNat']; omega
theorem digs_snoc {l : List UInt8} {c : UInt8} (h : digsB l = true) (hc : digB c = true) : digsB (l ++ [c]) = true := by
  cases l with
  | nil => cases h
  | cons d r =>
    unfold digsB at h ⊢
    rw [List.cons_append]
    simp only [Bool.and_eq_true, List.all_cons, List.all_append, List.all_nil] at h ⊢
    exact ⟨h.1, h.2.1, h.2.2, hc, trivial⟩
theorem dig_of (d : Nat) (h : d < 10) : digB (UInt8.ofNat (48 + d)) = true := by
  unfold digB; rw [UInt8.toNat_ofNat']; simp; omega
theorem dec_digs (u : Nat) (h1 : 1 ≤ u) : digsB (Lib.decDigits u) = true := by
  induction u using Nat.strongRecOn with
  | _ u ih =>
    by_cases h : u < 10
    · rw [Lib.decDigits, dif_pos h]
      unfold digsB
      have h2 := dig_of u h
      simp only [Bool.and_eq_true, List.all_cons, List.all_nil]
      refine ⟨?_, h2, trivial⟩
      have : (UInt8.ofNat (48 + u) == 48) = false := by
        refine beq_false_of_ne fun e => ?_
        have e2 := congrArg UInt8.toNat e
        rw [UInt8.toNat_ofNat'] at e2
        have h4 : (48 : UInt8).toNat = 48 := rfl
        omega
      rw [this]; rfl
    · rw [Lib.decDigits, dif_neg h]
      exact digs_snoc (ih (u / 10) (by omega) (by omega)) (dig_of _ (by omega))
theorem digs_parts {l : List UInt8} (h : digsB l = true) : l ≠ [] ∧ l.all digB = true := by
  cases l with
  | nil => cases h
  | cons c r =>
    unfold digsB at h
    rw [Bool.and_eq_true] at h
    exact ⟨by simp, h.2⟩
theorem mag_val {l : List UInt8} (h : digsB l = true) : Lib.parseMag l = if valD l < 18446744073709551616 then .ok (valD l) else .range := by
  unfold Lib.parseMag
  rw [if_neg (digs_parts h).1]
  exact parse_val l 0 (by omega) (digs_parts h).2
theorem digs_head {c : UInt8} {r : List UInt8} (h : digsB (c :: r) = true) : 49 ≤ c.toNat ∧ c.toNat ≤ 57 := by
  unfold digsB at h
  simp only [Bool.and_eq_true, List.all_cons] at h
  have := digB_bounds h.2.1
  have hne : c ≠ 48 := by simpa using h.1
  have hn : c.toNat ≠ 48 := fun e => hne (UInt8.toNat_inj.1 e)
  omega
theorem dec_plain {l : List UInt8} (h : digsB l = true) : decB l = true := by
  cases l with
  | nil => cases h
  | cons c r =>
    have := digs_head h
    unfold decB
    rw [strip_plain c r (fun e => by have h4 : (45 : UInt8).toNat = 45 := rfl; rw [e] at this; omega), h, Bool.or_true]
theorem dec_minus {r : List UInt8} : decB (45 :: r) = digsB r := by
  unfold decB
  rw [strip_minus]
  have : decide ((45 : UInt8) :: r = [48]) = false := decide_eq_false (by intro e; injection e with e1 _; exact absurd e1 (by decide))
  rw [this, Bool.false_or]
theorem signless_small {u : Nat} (h : u < 9223372036854775808) : Lib.signless (.ok u) = .ok (u : Int) := by unfold Lib.signless; dsimp only; rw [if_neg (by omega)]
theorem signless_big {u : Nat} (h : ¬ u < 9223372036854775808) : Lib.signless (.ok u) = .range := by unfold Lib.signless; dsimp only; rw [if_pos (by omega)]
theorem signed_small {u : Nat} (h : u ≤ 9223372036854775808) : Lib.signed (.ok u) = .ok (-(u : Int)) := by unfold Lib.signed; dsimp only; rw [if_neg (by omega)]
theorem signed_big {u : Nat} (h : ¬ u ≤ 9223372036854775808) : Lib.signed (.ok u) = .range := by unfold Lib.signed; dsimp only; rw [if_pos (by omega)]
theorem readI_plain {l : List UInt8} (h : digsB l = true) : readI l = if valD l < 9223372036854775808 then ((valD l : Int), 0) else (0, 27) := by
  unfold readI
  rw [dec_plain h, if_pos rfl]
  cases l with
  | nil => cases h
  | cons c r =>
    have hd := digs_head h
    rw [Lib.atoiAll_plain c r (by omega) (by omega), mag_val h]
    by_cases h1 : valD (c :: r) < 9223372036854775808
    · rw [if_pos h1, if_pos (by omega), signless_small h1]
    · rw [if_neg h1]
      by_cases h2 : valD (c :: r) < 18446744073709551616
      · rw [if_pos h2, signless_big h1]
      · rw [if_neg h2]; rfl
theorem readI_minus {r : List UInt8} (h : digsB r = true) : readI (45 :: r) = if valD r ≤ 9223372036854775808 then (-(valD r : Int), 0) else (0, 27) := by
  unfold readI
  rw [dec_minus, h, if_pos rfl, Lib.atoiAll_minus, mag_val h]
  by_cases h1 : valD r ≤ 9223372036854775808
  · rw [if_pos h1, if_pos (by omega), signed_small h1]
  · rw [if_neg h1]
    by_cases h2 : valD r < 18446744073709551616
    · rw [if_pos h2, signed_big h1]
    · rw [if_neg h2]; rfl
theorem readI_zero : readI [48] = (0, 0) := by decide
theorem readI_itoa (n : Int) (h0 : -9223372036854775808 ≤ n) (h1 : n ≤ 9223372036854775807) : readI (Lib.itoa n) = (n, 0) := by
  by_cases hn : n < 0
  · obtain ⟨u, rfl⟩ : ∃ u : Nat, n = -(u : Int) := ⟨n.natAbs, by omega⟩
    rw [Lib.itoa_neg u (by omega), readI_minus (dec_digs u (by omega)), val_dec, if_pos (by omega)]
  · obtain ⟨u, rfl⟩ : ∃ u : Nat, n = u := ⟨n.toNat, by omega⟩
    rw [Lib.itoa_nonneg]
    by_cases hz : u = 0
    · subst hz; rw [Lib.decDigits, dif_pos (by omega)]; exact readI_zero
    · rw [readI_plain (dec_digs u (by omega)), val_dec, if_pos (by omega)]
end Go.Proofs.YtonfkhkalodldabGreatDoor
end

section
/-
  Contracts of codec.plain and codec.Escape, and of the specification's. Condition: at most 1000000000 bytes.
-/
set_option maxRecDepth 100000
namespace Go.Proofs.YtonfkhkalodldabGreatDoor
open Go.RowKit Go.PlainAid
set_option maxHeartbeats 1000000 in
theorem plain_any (c : Int) (w : World) (h0 : 0 ≤ c) (h1 : c ≤ 255) :
    Calls Tryz.prog 123 #[.int .u8 c] w fun e w' => e = .returned (.bool (plainI c)) ∧ w = w' := by
  cases a1 : (c == 37)
  · cases a2 : (c == 124)
    · cases a3 : (c == 44)
      · cases a4 : (c == 61)
        · cases a5 : (c == 59)
          · cases a6 : (c == 34)
            · by_cases b1 : 33 ≤ c
              · by_cases b2 : c ≤ 126
                · have HE := Lib.hid (show plainI c = true by unfold plainI; rw [a1, a2, a3, a4, a5, a6]; simp [b1, b2])
                  have d2 : decide (c ≤ 126) = true := by simp [b2]
                  go_enter Tryz.func123, Tryz.ntmps123
                  go_wp2
                  go_ret
                  exact ⟨by rw [HE.out]; rfl, rfl⟩
                · have HE := Lib.hid (show plainI c = false by unfold plainI; simp [b2])
                  have d2 : decide (c ≤ 126) = false := by simp [b2]
                  go_enter Tryz.func123, Tryz.ntmps123
                  go_wp2
                  go_ret
                  exact ⟨by rw [HE.out]; rfl, rfl⟩
              · have HE := Lib.hid (show plainI c = false by unfold plainI; simp [b1])
                go_enter Tryz.func123, Tryz.ntmps123
                go_wp2
                go_ret
                exact ⟨by rw [HE.out]; rfl, rfl⟩
            · have HE := Lib.hid (show plainI c = false by unfold plainI; rw [a6]; simp)
              go_enter Tryz.func123, Tryz.ntmps123
              go_wp2
              go_ret
              exact ⟨by rw [HE.out]; rfl, rfl⟩
          · have HE := Lib.hid (show plainI c = false by unfold plainI; rw [a5]; simp)
            go_enter Tryz.func123, Tryz.ntmps123
            go_wp2
            go_ret
            exact ⟨by rw [HE.out]; rfl, rfl⟩
        · have HE := Lib.hid (show plainI c = false by unfold plainI; rw [a4]; simp)
          go_enter Tryz.func123, Tryz.ntmps123
          go_wp2
          go_ret
          exact ⟨by rw [HE.out]; rfl, rfl⟩
      · have HE := Lib.hid (show plainI c = false by unfold plainI; rw [a3]; simp)
        go_enter Tryz.func123, Tryz.ntmps123
        go_wp2
        go_ret
        exact ⟨by rw [HE.out]; rfl, rfl⟩
    · have HE := Lib.hid (show plainI c = false by unfold plainI; rw [a2]; simp)
      go_enter Tryz.func123, Tryz.ntmps123
      go_wp2
      go_ret
      exact ⟨by rw [HE.out]; rfl, rfl⟩
  · have HE := Lib.hid (show plainI c = false by unfold plainI; rw [a1]; simp)
    go_enter Tryz.func123, Tryz.ntmps123
    go_wp2
    go_ret
    exact ⟨by rw [HE.out]; rfl, rfl⟩
set_option maxRecDepth 100000 in
set_option maxHeartbeats 2000000 in
theorem escape_any (s : ByteArray) (w : World) (hs : s.size ≤ 1000000000) :
    Calls Tryz.prog 98 #[.string s] w fun e w' => e = .returned (.string ⟨(escL s.data.toList).toArray⟩) ∧ Below w.heap.size w w' := by
  have hb := get_bt s
  have hx := get_bt (⟨#[48, 49, 50, 51, 52, 53, 54, 55, 56, 57, 65, 66, 67, 68, 69, 70]⟩ : ByteArray)
  have HN := Lib.hid (bld_new w)
  go_enter Tryz.func98, Tryz.ntmps98
  go_wp2
  go_loopw [7] (fun i wr => ∃ k : Nat, k ≤ s.size ∧ i = .int .i64 k ∧ Bld w.heap.size w.heap.size (escL (s.data.toList.take k)) wr ∧ Below w.heap.size w wr ∧ w.heap.size < wr.heap.size)
    (fun i _ => s.size - (intOf i).toNat)
  case atStart => exact ⟨0, Nat.zero_le _, rfl, HN.out, (Below.refl _ _).alloc (Nat.le_refl _) _, by simp⟩
  case round =>
    obtain ⟨k, hk, rfl, HB, hbel, hsz⟩ := hrel
    have h0 := bt_nonneg s k
    have h255 := bt_le s k
    have hl3 := escL_length (s.data.toList.take k)
    have hl4 : (s.data.toList.take k).length ≤ k := List.length_take_le _ _
    have HC := Lib.hid (bt_chr s k)
    by_cases hlt : k < s.size
    · have HST := Lib.hid (esc_step s k hlt)
      have HP := Lib.hid (plain_chr s k)
      cases c1 : plainI (bt s k)
      · have HST2 := Lib.hid (show escL (s.data.toList.take (k + 1)) = ((escL (s.data.toList.take k) ++ [37]) ++ [hexC ((chr s k).toNat / 16)]) ++ [hexC ((chr s k).toNat % 16)] by
          rw [HST.out, escC_other _ (by rw [HP.out, c1])]; simp)
        go_wp2_with (go_at_call 123; refine (plain_any _ _ h0 h255).mono ?_; rintro e w' ⟨rfl, rfl⟩)
        refine (writeByte_s w.heap.size w.heap.size _ 37 37 _ HB rfl (by omega) hbel.size).mono ?_
        rintro e w1 ⟨rfl, HB1, hb1⟩
        go_wp2_with fail
        refine (writeByte_s w.heap.size w.heap.size _ (hexC ((chr s k).toNat / 16)) _ _ HB1 (hex_hi _ _ HC.out) (by simp; omega) (Nat.le_trans hbel.size hb1.size)).mono ?_
        rintro e w2 ⟨rfl, HB2, hb2⟩
        go_wp2_with fail
        refine (writeByte_s w.heap.size w.heap.size _ (hexC ((chr s k).toNat % 16)) _ _ HB2 (hex_lo _ _ HC.out) (by simp; omega) (Nat.le_trans hbel.size (Nat.le_trans hb1.size hb2.size))).mono ?_
        rintro e w3 ⟨rfl, HB3, hb3⟩
        have hbel3 := hbel.trans (hb1.trans (hb2.trans hb3))
        go_wp2
        go_roundw
        case rel => exact ⟨k + 1, by omega, by go_num, by rw [HST2.out]; exact HB3, hbel3, Nat.lt_of_lt_of_le hsz (Nat.le_trans hb1.size (Nat.le_trans hb2.size hb3.size))⟩
        case measure => simp [intOf]; omega
      · have HST2 := Lib.hid (show escL (s.data.toList.take (k + 1)) = escL (s.data.toList.take k) ++ [chr s k] by
          rw [HST.out, escC_plain _ (by rw [HP.out, c1])])
        go_wp2_with (go_at_call 123; refine (plain_any _ _ h0 h255).mono ?_; rintro e w' ⟨rfl, rfl⟩)
        refine (writeByte_s w.heap.size w.heap.size _ (chr s k) _ _ HB HC.out (by omega) hbel.size).mono ?_
        rintro e w1 ⟨rfl, HB1, hb1⟩
        go_wp2
        go_roundw
        case rel => exact ⟨k + 1, by omega, by go_num, by rw [HST2.out]; exact HB1, hbel.trans hb1, Nat.lt_of_lt_of_le hsz hb1.size⟩
        case measure => simp [intOf]; omega
    · have HT := Lib.hid (show s.data.toList.take k = s.data.toList by rw [List.take_of_length_le]; simp; omega)
      rw [HT.out] at HB
      go_wp2_with (go_at_call 51; refine (string_s w.heap.size w.heap.size _ _ HB hbel.size).mono ?_; rintro e w1 ⟨rfl, hb1⟩)
      go_ret
      exact ⟨rfl, hbel.trans hb1⟩
end Go.Proofs.YtonfkhkalodldabGreatDoor
end

section
/-
  Contracts of the specification's plain and Escape. Condition: at most 1000000000 bytes.
-/
set_option maxRecDepth 100000
namespace Go.Proofs.YtonfkhkalodldabGreatDoor
open Go.RowKit Go.PlainAid
end Go.Proofs.YtonfkhkalodldabGreatDoor
end

section
/-
  Contracts of the specification's decimal, ReadInt and Int. Condition: at most 1000000000 bytes; an int.
-/
set_option maxRecDepth 100000
namespace Go.Proofs.YtonfkhkalodldabGreatDoor
open Go.RowKit Go.PlainAid
end Go.Proofs.YtonfkhkalodldabGreatDoor
end

section
/-
  Contract of the specification's Int. Condition: an int.
-/
set_option maxRecDepth 100000
namespace Go.Proofs.YtonfkhkalodldabGreatDoor
open Go.RowKit Go.PlainAid
end Go.Proofs.YtonfkhkalodldabGreatDoor
end
