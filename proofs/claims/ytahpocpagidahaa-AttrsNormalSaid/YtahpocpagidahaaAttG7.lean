/-
  Check says OK of normal forms and of edited lists, where it says so of the list: for the law Normal. No condition.
-/
import Derived.Test.YtahpocpagidahaaAttG6
set_option linter.unusedVariables false
set_option linter.unusedSimpArgs false
set_option linter.unnecessarySimpa false
namespace Go.Proofs.Ytahpocpagidahaa
open Go.RowKit Go.PlainAid

theorem bt_lowA (s : ByteArray) (j : Nat) (h : j < s.size) : bt (lowS s) j = (if 65 ≤ bt s j ∧ bt s j ≤ 90 then bt s j + 32 else bt s j) := by
  obtain ⟨c, hc⟩ : ∃ c, s.data.toList[j]? = some c := ⟨_, List.getElem?_eq_getElem (by rw [← Lib.size_eq]; exact h)⟩
  have h2 : (lowS s).data.toList[j]? = some (lowB c) := by unfold lowS lowL; simp [hc]
  rw [bt_list _ _ _ h2, bt_list _ _ _ hc]
  by_cases hA : 65 ≤ (c.toNat : Int) ∧ (c.toNat : Int) ≤ 90
  · rw [if_pos hA, lowB_hit _ hA.1 hA.2]
  · rw [if_neg hA, lowB_miss _ hA]
theorem ltrI_low (x : Int) : ltrI (if 65 ≤ x ∧ x ≤ 90 then x + 32 else x) = ltrI x := by
  rw [Bool.eq_iff_iff]; unfold ltrI; simp only [Bool.or_eq_true, Bool.and_eq_true, decide_eq_true_eq]
  split <;> omega
theorem nameP_low (x : Int) : nameP (if 65 ≤ x ∧ x ≤ 90 then x + 32 else x) = nameP x := by
  unfold nameP
  rw [ltrI_low]
  by_cases h : 65 ≤ x ∧ x ≤ 90
  · rw [if_pos h]
    have : ltrI x = true := by unfold ltrI; simp; omega
    rw [this]; rfl
  · rw [if_neg h]
theorem name_low {s : ByteArray} (h : nameB s = true) : nameB (lowS s) = true := by
  unfold nameB at h ⊢
  simp only [Bool.and_eq_true, decide_eq_true_eq] at h ⊢
  obtain ⟨⟨⟨h1, h2⟩, h3⟩, h4⟩ := h
  rw [allB_iff] at h4 ⊢
  rw [lowS_size]
  exact ⟨⟨⟨h1, h2⟩, by rw [bt_lowA s 0 (by omega), ltrI_low]; exact h3⟩, fun j hj => by rw [bt_lowA s j hj, nameP_low]; exact h4 j hj⟩
/-- attributes that Check lets through -/
structure OkL (l : List At) : Prop where
  len : l.length ≤ 32
  each : ∀ a ∈ l, nameB a.1 = true ∧ a.2.length ≤ 16 ∧ Fit a.2 []
  one : ∀ i j, i < j → j < l.length → lowS (atD l i).1 ≠ lowS (atD l j).1
theorem mem_at {l : List At} {a : At} (h : a ∈ l) : ∃ j, j < l.length ∧ atD l j = a := by
  obtain ⟨j, hj, e⟩ := List.mem_iff_getElem.1 h
  exact ⟨j, hj, by rw [at_get l j hj]; exact e⟩
theorem chk_ok {l : List At} (h : chkA l = 0) : OkL l := by
  unfold chkA at h
  by_cases c : 32 < l.length
  · rw [if_pos c] at h; exact absurd h (by decide)
  · rw [if_neg c] at h
    have h1 : ∀ j, j < l.length → nameB (atD l j).1 = true ∧ twiceB l j = false ∧ (atD l j).2.length ≤ 16 ∧ chkV (atD l j).2 [] = 0 := fun j hj => by
      have h2 := firstE_all h j hj
      unfold errA at h2
      by_cases c1 : nameB (atD l j).1 = false
      · rw [if_pos c1] at h2; exact absurd h2 (by decide)
      · rw [if_neg c1] at h2
        by_cases c2 : twiceB l j = true
        · rw [if_pos c2] at h2; exact absurd h2 (by decide)
        · rw [if_neg c2] at h2
          by_cases c3 : (atD l j).2.length = 0
          · rw [if_pos c3] at h2; exact absurd h2 (by decide)
          · rw [if_neg c3] at h2
            by_cases c4 : 16 < (atD l j).2.length
            · rw [if_pos c4] at h2; exact absurd h2 (by decide)
            · rw [if_neg c4] at h2
              exact ⟨by simpa using c1, by simpa using c2, by omega, h2⟩
    refine ⟨by omega, fun a ha => ?_, fun i j hij hj e => ?_⟩
    · obtain ⟨j, hj, rfl⟩ := mem_at ha
      exact ⟨(h1 j hj).1, (h1 j hj).2.2.1, chk_fit (h1 j hj).2.2.2⟩
    · have h2 := twice_true hj hij e
      rw [(h1 j hj).2.1] at h2; cases h2
theorem part_map {l : List At} {i : Nat} (h : i < l.length) : partAt (l.map (·.1)) i = (atD l i).1 := by
  unfold partAt
  rw [List.getD_eq_getElem?_getD, List.getElem?_map, List.getElem?_eq_getElem h, at_get l i h]; rfl
theorem ok_chk {L : List At} (h : NF L) (hl : L.length ≤ 32) (he : ∀ a ∈ L, nameB a.1 = true ∧ a.2.length ≤ 16 ∧ ∀ v ∈ a.2, cleanB v = true) : chkA L = 0 := by
  unfold chkA
  rw [if_neg (by omega)]
  refine firstE_zero fun j hj => ?_
  have hm := at_mem L j hj
  obtain ⟨h1, h2, h3⟩ := he _ hm
  have h4 : twiceB L j = false := twice_false hj fun k hk => by
    rw [h.low _ (at_mem L k (by omega)), h.low _ hm, ← part_map hj, ← part_map (show k < L.length by omega)]
    exact part_ne h.asc (by rw [List.length_map]; omega) (by rw [List.length_map]; exact hj) (by omega)
  have h5 := h.ne _ hm
  unfold errA
  rw [if_neg (by rw [h1]; simp), if_neg (by rw [h4]; simp), if_neg (fun e => h5 (List.eq_nil_of_length_eq_zero e)), if_neg (by omega)]
  exact fit_chk ⟨h3, asc_nodup (h.vasc _ hm), fun _ _ => List.not_mem_nil⟩
theorem OkL.same {l : List At} (h : OkL l) {a b : At} (ha : a ∈ l) (hb : b ∈ l) (e : lowS a.1 = lowS b.1) : a = b := by
  obtain ⟨i, hi, rfl⟩ := mem_at ha
  obtain ⟨j, hj, rfl⟩ := mem_at hb
  rcases Nat.lt_trichotomy i j with k | k | k
  · exact absurd e (h.one i j k hj)
  · rw [k]
  · exact absurd e.symm (h.one j i k hi)
theorem OkL.vals {l : List At} (h : OkL l) {n : ByteArray} (hne : Proofs.Ytahpocpagidahaa.vals l n ≠ []) : nameB n = true ∧ (Proofs.Ytahpocpagidahaa.vals l n).length ≤ 16 ∧ ∀ v ∈ Proofs.Ytahpocpagidahaa.vals l n, cleanB v = true := by
  obtain ⟨v, hv⟩ := List.exists_mem_of_ne_nil _ hne
  obtain ⟨a, ha, e, hva⟩ := vals_mem.1 hv
  obtain ⟨h1, h2, h3⟩ := h.each a ha
  have h4 : Proofs.Ytahpocpagidahaa.vals l n = sortU a.2 := asc_ext (vals_asc _ _) (sortU_asc _) fun x => by
    rw [vals_mem, sortU_mem]
    constructor
    · rintro ⟨b, hb, e2, hx⟩
      rw [h.same ha hb (e.trans e2.symm)]; exact hx
    · intro hx; exact ⟨a, ha, e, hx⟩
  refine ⟨by rw [← e]; exact name_low h1, ?_, fun x hx => ?_⟩
  · rw [h4]; exact Nat.le_trans (sortU_len _) h2
  · rw [h4, sortU_mem] at hx; exact h3.clean x hx
theorem nf_chk {l : List At} (h : chkA l = 0) : chkA (nf l) = 0 := by
  have hk := chk_ok h
  refine ok_chk (nf_NF l) (Nat.le_trans (nf_len l) hk.len) fun a ha => ?_
  obtain ⟨h1, h2⟩ := nf_mem.1 ha
  rw [h1] at h2 ⊢
  exact hk.vals h2
theorem with_chk {l : List At} {name : ByteArray} {us : List ByteArray} (h : OkL l) (hn : nameB name = true) (hc : ∀ v ∈ us, cleanB v = true) (h16 : us.length ≤ 16) (h32 : (withL l name us).length ≤ 32) : chkA (withL l name us) = 0 := by
  refine ok_chk (nf_NF _) h32 fun a ha => ?_
  obtain ⟨h1, h2⟩ := nf_mem.1 ha
  have h3 : a.2 = vals (withL l name us) a.1 := by unfold withL; rw [vals_nf]; exact h1
  by_cases e : a.1 = lowS name
  · rw [e, vals_with] at h3
    refine ⟨by rw [e]; exact name_low hn, ?_, fun v hv => ?_⟩
    · rw [h3]; exact Nat.le_trans (sortU_len _) h16
    · rw [h3, sortU_mem] at hv; exact hc v hv
  · rw [vals_other e] at h3
    rw [h3] at h2 ⊢
    exact h.vals h2
theorem old_clean {l : List At} (h : OkL l) (n : ByteArray) : (vals l n).length ≤ 16 ∧ ∀ v ∈ vals l n, cleanB v = true := by
  by_cases e : vals l n = []
  · rw [e]; exact ⟨Nat.zero_le _, fun v hv => absurd hv List.not_mem_nil⟩
  · exact (h.vals e).2
theorem add_chk {l : List At} {name : ByteArray} {vs : List ByteArray} (h : chkA l = 0) (he : (addR l name vs).2 = 0) : chkA (addR l name vs).1 = 0 := by
  have hA := add_ok he
  rw [hA.eq]
  exact with_chk (chk_ok h) hA.nm (fun v hv => (List.mem_append.1 hv).elim ((old_clean (chk_ok h) _).2 v) (hA.fit.clean v)) hA.cnt hA.len
theorem rep_chk {l : List At} {name : ByteArray} {vs : List ByteArray} (h : chkA l = 0) (he : (repR l name vs).2 = 0) : chkA (repR l name vs).1 = 0 := by
  have hA := rep_ok he
  rw [hA.eq]
  exact with_chk (chk_ok h) hA.nm hA.fit.clean hA.cnt hA.len
theorem rem_len {l : List At} {name : ByteArray} {us : List ByteArray} (hl : l.length ≤ 32) (hu : us ≠ [] → vals l (lowS name) ≠ []) : (withL l name us).length ≤ 32 := by
  have h2 := nf_len l
  by_cases e : us = []
  · have h1 : withL l name us = nf (wthL l (lowS name)) := with_nf fun n v => by
      rw [hl_with, hl_wth, e]
      by_cases c : n = lowS name
      · rw [if_pos c]; simp [c]
      · rw [if_neg c]; simp [c]
    rw [h1]
    have h3 := nf_len (wthL l (lowS name))
    have h4 : (wthL l (lowS name)).length ≤ (nf l).length := List.length_filter_le _ _
    omega
  · have h3 := nf_len (wthL l (lowS name) ++ [(name, us)])
    rw [List.length_append, List.length_singleton] at h3
    have h4 : (wthL l (lowS name)).length < (nf l).length := by
      unfold wthL
      refine List.length_filter_lt_length_iff_exists.2 ⟨(lowS name, vals l (lowS name)), nf_mem.2 ⟨rfl, hu e⟩, by simp⟩
    unfold withL
    omega
theorem rem_chk {l : List At} {name : ByteArray} {vs : List ByteArray} (h : chkA l = 0) (he : (remR l name vs).2 = 0) : chkA (remR l name vs).1 = 0 := by
  have hA := rem_ok he
  have hk := chk_ok h
  obtain ⟨h1, h2⟩ := old_clean hk (lowS name)
  rw [hA.eq]
  refine with_chk hk hA.nm (fun v hv => h2 v (List.mem_filter.1 hv).1) (Nat.le_trans (leftV_len _ _) h1) (rem_len hk.len fun e k => e ?_)
  rw [k]; rfl

end Go.Proofs.Ytahpocpagidahaa
