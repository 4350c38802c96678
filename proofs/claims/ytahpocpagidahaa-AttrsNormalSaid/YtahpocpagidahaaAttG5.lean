/-
  What the edited lists hold: pure facts for the laws Undone, Others and Normal. No condition.
-/
import Derived.Test.YtahpocpagidahaaAttG4
import Derived.Test.YtahpocpagidahaaAttP8
import Derived.Test.YtahpocpagidahaaAttP6
set_option linter.unusedVariables false
set_option linter.unusedSimpArgs false
set_option linter.unnecessarySimpa false
namespace Go.Proofs.Ytahpocpagidahaa
open Go.RowKit Go.PlainAid

theorem firstE_all {f : Nat → Int} : ∀ {n : Nat}, firstE f n = 0 → ∀ j, j < n → f j = 0
  | 0, _, j, hj => absurd hj (Nat.not_lt_zero _)
  | n + 1, h, j, hj => by
    unfold firstE at h
    by_cases e : firstE f n = 0
    · rw [if_pos e] at h
      rcases Nat.lt_or_ge j n with k | k
      · exact firstE_all e j k
      · obtain rfl : j = n := by omega
        exact h
    · rw [if_neg e] at h; exact absurd h e
/-- values that may stand beside the old ones: each once, none of the old -/
structure Fit (vs old : List ByteArray) : Prop where
  clean : ∀ v ∈ vs, cleanB v = true
  nd : vs.Nodup
  new : ∀ v ∈ vs, v ∉ old
theorem nodup_take {l : List ByteArray} (h : ∀ j, j < l.length → partAt l j ∉ l.take j) : ∀ n, n ≤ l.length → (l.take n).Nodup
  | 0, _ => by rw [List.take_zero]; exact List.nodup_nil
  | n + 1, hn => by
    rw [take_snoc l n (by omega)]
    refine List.nodup_append.2 ⟨nodup_take h n (by omega), by simp, fun a ha b hb e => ?_⟩
    rw [List.mem_singleton.1 hb] at e
    exact h n (by omega) (e ▸ ha)
theorem chk_fit {vs old : List ByteArray} (h : chkV vs old = 0) : Fit vs old := by
  have h1 : ∀ j, j < vs.length → cleanB (partAt vs j) = true ∧ partAt vs j ∉ old ∧ partAt vs j ∉ vs.take j := fun j hj => by
    have h2 := firstE_all h j hj
    unfold errV at h2
    by_cases c : cleanB (partAt vs j) = false
    · rw [if_pos c] at h2; exact absurd h2 (by decide)
    · rw [if_neg c] at h2
      by_cases d : memB old (partAt vs j) = true ∨ memB (vs.take j) (partAt vs j) = true
      · rw [if_pos d] at h2; exact absurd h2 (by decide)
      · exact ⟨by simpa using c, fun e => d (.inl (memB_iff.2 e)), fun e => d (.inr (memB_iff.2 e))⟩
  have hm : ∀ v ∈ vs, ∃ j, j < vs.length ∧ partAt vs j = v := fun v hv => by
    obtain ⟨j, hj, e⟩ := List.mem_iff_getElem.1 hv
    exact ⟨j, hj, by unfold partAt; rw [List.getD_eq_getElem?_getD, List.getElem?_eq_getElem hj, Option.getD_some]; exact e⟩
  refine ⟨fun v hv => ?_, ?_, fun v hv => ?_⟩
  · obtain ⟨j, hj, rfl⟩ := hm v hv; exact (h1 j hj).1
  · have := nodup_take (fun j hj => (h1 j hj).2.2) vs.length (Nat.le_refl _)
    rwa [List.take_length] at this
  · obtain ⟨j, hj, rfl⟩ := hm v hv; exact (h1 j hj).2.1
theorem fit_chk {vs old : List ByteArray} (h : Fit vs old) : chkV vs old = 0 := by
  refine firstE_zero fun j hj => ?_
  have hv := part_mem vs j hj
  unfold errV
  rw [if_neg (by rw [h.clean _ hv]; simp), if_neg ?_]
  rintro (k | k)
  · exact h.new _ hv (memB_iff.1 k)
  · have h2 : (vs.take (j + 1)).Nodup := h.nd.sublist (List.take_sublist _ _)
    rw [take_snoc vs j hj] at h2
    exact (List.nodup_append.1 h2).2.2 _ (memB_iff.1 k) _ (List.mem_singleton.2 rfl) rfl
theorem fit_rem {vs old : List ByteArray} (h : vs.Nodup) (hm : ∀ v ∈ vs, v ∈ old) : remE vs old = 0 := by
  refine firstE_zero fun j hj => ?_
  have hv := part_mem vs j hj
  unfold errR
  rw [if_neg ?_]
  rintro (k | k)
  · rw [memB_iff.2 (hm _ hv)] at k; cases k
  · have h2 : (vs.take (j + 1)).Nodup := h.sublist (List.take_sublist _ _)
    rw [take_snoc vs j hj] at h2
    exact (List.nodup_append.1 h2).2.2 _ (memB_iff.1 k) _ (List.mem_singleton.2 rfl) rfl
theorem hl_app {l k : List At} {n v : ByteArray} : Hl (l ++ k) n v ↔ Hl l n v ∨ Hl k n v := by
  unfold Hl
  simp only [List.mem_append]
  exact ⟨fun ⟨a, h, k⟩ => h.elim (fun h => .inl ⟨a, h, k⟩) fun h => .inr ⟨a, h, k⟩, fun h => h.elim (fun ⟨a, h, k⟩ => ⟨a, .inl h, k⟩) fun ⟨a, h, k⟩ => ⟨a, .inr h, k⟩⟩
theorem hl_wth {l : List At} {lw n v : ByteArray} : Hl (wthL l lw) n v ↔ n ≠ lw ∧ Hl l n v := by
  have hlow := (nf_NF l).low
  rw [show Hl l n v ↔ Hl (nf l) n v from hl_nf.symm]
  unfold Hl wthL
  constructor
  · rintro ⟨a, ha, e, hv⟩
    obtain ⟨h1, h2⟩ := List.mem_filter.1 ha
    have h3 : a.1 ≠ lw := of_decide_eq_true h2
    exact ⟨by rw [← e, hlow a h1]; exact h3, a, h1, e, hv⟩
  · rintro ⟨hn, a, ha, e, hv⟩
    exact ⟨a, List.mem_filter.2 ⟨ha, decide_eq_true (by rw [← hlow a ha, e]; exact hn)⟩, e, hv⟩
/-- what a list with the values us under a name holds -/
theorem hl_with {l : List At} {name : ByteArray} {us : List ByteArray} {n v : ByteArray} : Hl (withL l name us) n v ↔ if n = lowS name then v ∈ us else Hl l n v := by
  unfold withL
  rw [hl_nf, hl_app, hl_wth]
  have h1 : Hl [(name, us)] n v ↔ n = lowS name ∧ v ∈ us := by
    unfold Hl
    constructor
    · rintro ⟨a, ha, e, hv⟩
      rw [List.mem_singleton.1 ha] at e hv
      exact ⟨e.symm, hv⟩
    · rintro ⟨e, hv⟩
      exact ⟨_, List.mem_singleton.2 rfl, e.symm, hv⟩
  rw [h1]
  by_cases e : n = lowS name
  · rw [if_pos e]; simp [e]
  · rw [if_neg e]; simp [e]
theorem vals_with {l : List At} {name : ByteArray} {us : List ByteArray} : vals (withL l name us) (lowS name) = sortU us :=
  asc_ext (vals_asc _ _) (sortU_asc _) fun v => by rw [vals_mem, hl_with, if_pos rfl, sortU_mem]
theorem vals_other {l : List At} {name : ByteArray} {us : List ByteArray} {n : ByteArray} (h : n ≠ lowS name) : vals (withL l name us) n = vals l n :=
  asc_ext (vals_asc _ _) (vals_asc _ _) fun v => by rw [vals_mem, vals_mem, hl_with, if_neg h]
theorem lim_ok {l : List At} {m : Nat} (h : (limR l m).2 = 0) : limR l m = (l, 0) ∧ l.length ≤ 32 ∧ m ≤ 16 := by
  unfold limR at h ⊢
  by_cases c : 32 < l.length ∨ 16 < m
  · rw [if_pos c] at h; exact absurd h (by decide)
  · rw [if_neg c]; exact ⟨rfl, by omega, by omega⟩
/-- values were added -/
structure Added (l : List At) (name : ByteArray) (vs : List ByteArray) : Prop where
  nm : nameB name = true
  ne : vs.length ≠ 0
  fit : Fit vs (vals l (lowS name))
  len : (withL l name (vals l (lowS name) ++ vs)).length ≤ 32
  cnt : (vals l (lowS name) ++ vs).length ≤ 16
  eq : (addR l name vs).1 = withL l name (vals l (lowS name) ++ vs)
theorem add_ok {l : List At} {name : ByteArray} {vs : List ByteArray} (h : (addR l name vs).2 = 0) : Added l name vs := by
  unfold addR at h
  by_cases c1 : nameB name = false
  · rw [if_pos c1] at h; exact absurd h (by decide)
  · rw [if_neg c1] at h
    by_cases c2 : vs.length = 0
    · rw [if_pos c2] at h; exact absurd h (by decide)
    · rw [if_neg c2] at h
      by_cases c3 : chkV vs (vals l (lowS name)) = 0
      · rw [if_neg (by simp [c3])] at h
        obtain ⟨h1, h2, h3⟩ := lim_ok h
        exact ⟨by simpa using c1, c2, chk_fit c3, h2, h3, by unfold addR; rw [if_neg c1, if_neg c2, if_neg (by simp [c3]), h1]⟩
      · rw [if_pos c3] at h; exact absurd h c3
theorem add_no {l : List At} {name : ByteArray} {vs : List ByteArray} (h : (addR l name vs).2 ≠ 0) : (addR l name vs).1 = [] := by
  unfold addR at h ⊢
  by_cases c1 : nameB name = false
  · rw [if_pos c1]
  · rw [if_neg c1] at h ⊢
    by_cases c2 : vs.length = 0
    · rw [if_pos c2]
    · rw [if_neg c2] at h ⊢
      by_cases c3 : chkV vs (vals l (lowS name)) = 0
      · rw [if_neg (by simp [c3])] at h ⊢
        unfold limR at h ⊢
        by_cases c4 : 32 < (withL l name (vals l (lowS name) ++ vs)).length ∨ 16 < (vals l (lowS name) ++ vs).length
        · rw [if_pos c4]
        · rw [if_neg c4] at h; exact absurd rfl h
      · rw [if_pos c3]
/-- what was replaced -/
structure Put (l : List At) (name : ByteArray) (vs : List ByteArray) : Prop where
  nm : nameB name = true
  fit : Fit vs []
  len : (withL l name vs).length ≤ 32
  cnt : vs.length ≤ 16
  eq : (repR l name vs).1 = withL l name vs
theorem rep_ok {l : List At} {name : ByteArray} {vs : List ByteArray} (h : (repR l name vs).2 = 0) : Put l name vs := by
  unfold repR at h
  by_cases c1 : nameB name = false
  · rw [if_pos c1] at h; exact absurd h (by decide)
  · rw [if_neg c1] at h
    by_cases c3 : chkV vs [] = 0
    · rw [if_neg (by simp [c3])] at h
      obtain ⟨h1, h2, h3⟩ := lim_ok h
      exact ⟨by simpa using c1, chk_fit c3, h2, h3, by unfold repR; rw [if_neg c1, if_neg (by simp [c3]), h1]⟩
    · rw [if_pos c3] at h; exact absurd h c3
/-- what was removed -/
structure Gone (l : List At) (name : ByteArray) (vs : List ByteArray) : Prop where
  nm : nameB name = true
  eq : (remR l name vs).1 = withL l name (leftV (vals l (lowS name)) vs)
theorem rem_ok {l : List At} {name : ByteArray} {vs : List ByteArray} (h : (remR l name vs).2 = 0) : Gone l name vs := by
  unfold remR at h
  by_cases c1 : nameB name = false
  · rw [if_pos c1] at h; exact absurd h (by decide)
  · rw [if_neg c1] at h
    by_cases c2 : (vals l (lowS name)).length = 0
    · rw [if_pos c2] at h; exact absurd h (by decide)
    · rw [if_neg c2] at h
      by_cases c3 : remE vs (vals l (lowS name)) = 0
      · exact ⟨by simpa using c1, by unfold remR; rw [if_neg c1, if_neg c2, if_neg (by simp [c3])]⟩
      · rw [if_pos c3] at h; exact absurd h (by decide)
theorem with_nf {m l : List At} {name : ByteArray} {us : List ByteArray} (h : ∀ n v, Hl (withL m name us) n v ↔ Hl l n v) : withL m name us = nf l := by
  have h1 : nf (withL m name us) = withL m name us := nf_nf _
  rw [← h1]
  exact nf_ext (nf_NF _) (nf_NF _) fun n v => by rw [hs_nf, hs_nf]; exact h n v
/-- added values can be removed: what was there is there again -/
theorem add_rem {l : List At} {name : ByteArray} {vs : List ByteArray} (h : Added l name vs) : remR (addR l name vs).1 name vs = (nf l, 0) := by
  have hv : vals (addR l name vs).1 (lowS name) = sortU (vals l (lowS name) ++ vs) := by rw [h.eq, vals_with]
  have hpos : 0 < vs.length := Nat.pos_of_ne_zero h.ne
  have hlen : ¬ (sortU (vals l (lowS name) ++ vs)).length = 0 := fun e => by
    have h1 := List.append_eq_nil_iff.1 (sortU_nil.1 (List.eq_nil_of_length_eq_zero e))
    rw [h1.2] at hpos; exact absurd hpos (by decide)
  unfold remR
  rw [if_neg (by rw [h.nm]; simp), hv, if_neg hlen, if_neg (by rw [fit_rem h.fit.nd fun v hv => sortU_mem.2 (List.mem_append.2 (.inr hv))]; simp), h.eq]
  refine congrArg (fun x => (x, (0 : Int))) (with_nf fun n v => ?_)
  rw [hl_with]
  by_cases e : n = lowS name
  · rw [if_pos e]
    unfold leftV
    rw [List.mem_filter, sortU_mem, List.mem_append, vals_mem, e]
    have hd : decide (0 < vs.length) = true := decide_eq_true hpos
    rw [hd, Bool.true_and]
    constructor
    · rintro ⟨k | k, m⟩
      · exact k
      · rw [memB_iff.2 k] at m; cases m
    · intro k
      refine ⟨.inl k, ?_⟩
      rcases hB : memB vs v with _ | _
      · rfl
      · exact absurd (vals_mem.2 k) (h.fit.new v (memB_iff.1 hB))
  · rw [if_neg e, hl_with, if_neg e]

end Go.Proofs.Ytahpocpagidahaa
