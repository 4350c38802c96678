/-
  Scopes as values: what a scope is, implies, covered, sorted, common, minus; the errors of a list, its text; what the laws say of them. No condition.
-/
import Derived.Test.YtminodinhbcgnaaDoorFoldWord
import Derived.Test.YtminodinhbcgnaaDoorAttL
import Derived.Test.YtminodinhbcgnaaDoorAttIns
import Derived.Test.YtminodinhbcgnaaDoorChgPc
set_option maxRecDepth 100000
set_option linter.unusedVariables false
set_option linter.unusedSimpArgs false
set_option linter.unnecessarySimpa false
namespace Go.Proofs.YtminodinhbcgnaaDoor
open Go.RowKit Go.PlainAid

/-! ### a scope -/
def dotP (s : ByteArray) (j : Nat) : Bool := bt s j == 46
/-- two points at j, j+1 -/
def ddB (s : ByteArray) : Bool := (List.range s.size).any fun j => dotP s j && dotP s (j + 1) && decide (j + 1 < s.size)
def vdB (s : ByteArray) : Bool := wordB s && !dotP s 0 && !dotP s (s.size - 1) && !ddB s
theorem ddB_iff {s : ByteArray} : ddB s = true ↔ ∃ j, j + 1 < s.size ∧ dotP s j = true ∧ dotP s (j + 1) = true := by
  unfold ddB
  rw [List.any_eq_true]
  constructor
  · rintro ⟨j, _, h⟩
    rw [Bool.and_eq_true, Bool.and_eq_true, decide_eq_true_eq] at h
    exact ⟨j, h.2, h.1.1, h.1.2⟩
  · rintro ⟨j, h1, h2, h3⟩
    exact ⟨j, List.mem_range.2 (by omega), by rw [h2, h3, decide_eq_true h1]; rfl⟩
theorem vd_word {s : ByteArray} (h : vdB s = true) : wordB s = true := by
  unfold vdB at h
  rw [Bool.and_eq_true, Bool.and_eq_true, Bool.and_eq_true] at h
  exact h.1.1.1
theorem word_size {s : ByteArray} (h : wordB s = true) : 1 ≤ s.size ∧ s.size ≤ 64 := by
  unfold wordB at h
  rw [Bool.and_eq_true, Bool.and_eq_true, decide_eq_true_eq, decide_eq_true_eq] at h
  exact h.1
theorem word_free {s : ByteArray} (h : wordB s = true) : (32 : UInt8) ∉ s.data.toList := by
  intro hm
  unfold wordB at h
  rw [Bool.and_eq_true] at h
  obtain ⟨k, hk, e⟩ := List.getElem_of_mem hm
  have hk2 : k < s.size := by simpa using hk
  have := allB_iff.1 h.2 k hk2
  rw [bt_at s k hk2, e] at this
  exact absurd this (by decide)
theorem vd_ne {s : ByteArray} (h : vdB s = true) : s ≠ ⟨#[]⟩ := by
  intro e
  have := (word_size (vd_word h)).1
  rw [e] at this
  exact absurd this (by decide)

theorem bt_dot {s : ByteArray} {j : Nat} (h : j < s.size) : dotP s j = decide (s.data.toList[j]? = some 46) := by
  unfold dotP
  have hj : j < s.data.toList.length := by simpa using h
  rw [bt_at s j h, List.getElem?_eq_getElem hj, Bool.eq_iff_iff, beq_iff_eq, decide_eq_true_eq, Option.some.injEq]
  exact ⟨fun e => UInt8.toNat_inj.1 (by have : (46 : UInt8).toNat = 46 := rfl; omega), fun e => by rw [e]; rfl⟩
theorem pre_one (l : List UInt8) (c : UInt8) : Lib.hasPrefix l [c] = decide (l[0]? = some c) := by
  unfold Lib.hasPrefix
  cases l with
  | nil => simp [List.isPrefixOf]
  | cons x r =>
    simp only [List.isPrefixOf, Bool.and_true, List.getElem?_cons_zero, Option.some.injEq]
    rw [Bool.eq_iff_iff, beq_iff_eq, decide_eq_true_eq]
    exact eq_comm
theorem dot_pre {s : ByteArray} (h : wordB s = true) : dotP s 0 = Lib.hasPrefix s.data.toList [46] := by
  rw [pre_one, bt_dot (by have := (word_size h).1; omega)]
theorem dot_suf {s : ByteArray} (h : wordB s = true) : dotP s (s.size - 1) = Lib.hasSuffix s.data.toList [46] := by
  have hz := (word_size h).1
  rw [bt_dot (by omega)]
  have : Lib.hasSuffix s.data.toList [46] = Lib.hasPrefix s.data.toList.reverse [46] := rfl
  rw [this, pre_one]
  refine decide_eq_decide.2 ?_
  rw [List.getElem?_reverse (by rw [← Lib.size_eq]; omega), ← Lib.size_eq]
  rw [show s.size - 1 - 0 = s.size - 1 by omega]
theorem occ_two (l : List UInt8) (c : UInt8) (j : Nat) : Lib.occAt l [c, c] j = true ↔ l[j]? = some c ∧ l[j + 1]? = some c := by
  unfold Lib.occAt
  rw [← Nat.add_zero j, ← List.getElem?_drop, Nat.add_zero, ← List.getElem?_drop]
  cases l.drop j with
  | nil => simp [List.isPrefixOf]
  | cons x r =>
    cases r with
    | nil => simp [List.isPrefixOf]
    | cons y r =>
      simp only [List.isPrefixOf, Bool.and_true, List.getElem?_cons_zero, List.getElem?_cons_succ, Option.some.injEq, Bool.and_eq_true, beq_iff_eq]
      exact and_congr eq_comm eq_comm
theorem dd_con (s : ByteArray) : ddB s = Lib.contains s.data.toList [46, 46] := by
  unfold Lib.contains
  rw [Bool.eq_iff_iff, ddB_iff, decide_eq_true_eq]
  have hz := Lib.size_eq s
  rcases Lib.index_spec s.data.toList [46, 46] with ⟨hi, hn⟩ | ⟨i, hi, hle, ho, _⟩
  · rw [hi]
    refine ⟨?_, fun h => absurd h (by omega)⟩
    rintro ⟨j, h1, h2, h3⟩
    rw [bt_dot (by omega), decide_eq_true_eq] at h2 h3
    have := hn j (by omega)
    rw [(occ_two _ _ _).2 ⟨h2, h3⟩] at this
    cases this
  · rw [hi]
    refine ⟨fun _ => by omega, fun _ => ?_⟩
    obtain ⟨h1, h2⟩ := (occ_two _ _ _).1 ho
    have l2 := (List.getElem?_eq_some_iff.1 h2).1
    exact ⟨i, by omega, by rw [bt_dot (by omega)]; exact decide_eq_true h1, by rw [bt_dot (by omega)]; exact decide_eq_true h2⟩

/-! ### implies -/
def impL (a b : List UInt8) : Bool := decide (a = b) || (a ++ [46]).isPrefixOf b
def imp (a b : ByteArray) : Bool := vdB a && vdB b && impL a.data.toList b.data.toList
theorem impL_iff {a b : List UInt8} : impL a b = true ↔ a = b ∨ a ++ [46] <+: b := by
  unfold impL
  rw [Bool.or_eq_true, decide_eq_true_eq, List.isPrefixOf_iff_prefix]
theorem impL_pre {a b : List UInt8} (h : impL a b = true) : a <+: b := by
  rcases impL_iff.1 h with rfl | h
  · exact List.prefix_rfl
  · exact (List.prefix_append a [46]).trans h
theorem impL_refl (a : List UInt8) : impL a a = true := impL_iff.2 (.inl rfl)
theorem impL_trans {a b c : List UInt8} (h : impL a b = true) (k : impL b c = true) : impL a c = true := by
  rcases impL_iff.1 h with rfl | h
  · exact k
  · exact impL_iff.2 (.inr (h.trans (impL_pre k)))
theorem impL_anti {a b : List UInt8} (h : impL a b = true) (k : impL b a = true) : a = b := by
  have h1 := (impL_pre h).length_le
  have h2 := (impL_pre k).length_le
  exact (impL_pre h).eq_of_length (by omega)
theorem impL_less {a b : List UInt8} (h : impL a b = true) (hn : a ≠ b) : a.length < b.length := by
  rcases impL_iff.1 h with e | h
  · exact absurd e hn
  · have := h.length_le
    rw [List.length_append, List.length_singleton] at this
    omega
/-- two that include a third include one another -/
theorem impL_two {a b c : List UInt8} (h : impL a c = true) (k : impL b c = true) (hl : a.length ≤ b.length) : impL a b = true := by
  rcases impL_iff.1 h with rfl | h
  · have := (impL_pre k).length_le
    rw [(impL_pre k).eq_of_length (by omega)]
    exact impL_refl _
  · rcases impL_iff.1 k with rfl | k
    · exact impL_iff.2 (.inr h)
    · rcases Nat.lt_or_ge a.length b.length with hlt | hge
      · exact impL_iff.2 (.inr (List.prefix_of_prefix_length_le h ((List.prefix_append b [46]).trans k) (by rw [List.length_append, List.length_singleton]; omega)))
      · have e := List.prefix_of_prefix_length_le ((List.prefix_append a [46]).trans h) ((List.prefix_append b [46]).trans k) hl
        rw [e.eq_of_length (by omega)]
        exact impL_refl _
theorem ba_inj {a b : ByteArray} : a.data.toList = b.data.toList ↔ a = b := ⟨ba_ext, fun e => by rw [e]⟩
theorem imp_iff {a b : ByteArray} : imp a b = true ↔ vdB a = true ∧ vdB b = true ∧ impL a.data.toList b.data.toList = true := by
  unfold imp
  rw [Bool.and_eq_true, Bool.and_eq_true, and_assoc]
theorem imp_self (a : ByteArray) : imp a a = vdB a := by
  rw [Bool.eq_iff_iff, imp_iff]
  exact ⟨fun h => h.1, fun h => ⟨h, h, impL_refl _⟩⟩
theorem imp_trans {a b c : ByteArray} (h : imp a b = true) (k : imp b c = true) : imp a c = true :=
  imp_iff.2 ⟨(imp_iff.1 h).1, (imp_iff.1 k).2.1, impL_trans (imp_iff.1 h).2.2 (imp_iff.1 k).2.2⟩
theorem imp_anti {a b : ByteArray} (h : imp a b = true) (k : imp b a = true) : a = b := ba_ext (impL_anti (imp_iff.1 h).2.2 (imp_iff.1 k).2.2)
theorem imp_less {a b : ByteArray} (h : imp a b = true) (hn : a ≠ b) : a.size < b.size := by
  have := impL_less (imp_iff.1 h).2.2 (fun e => hn (ba_ext e))
  rw [Lib.size_eq, Lib.size_eq]; exact this
theorem imp_two {a b c : ByteArray} (h : imp a c = true) (k : imp b c = true) : imp a b = true ∨ imp b a = true := by
  obtain ⟨a1, a2, a3⟩ := imp_iff.1 h
  obtain ⟨b1, _, b3⟩ := imp_iff.1 k
  rcases Nat.le_total a.data.toList.length b.data.toList.length with hl | hl
  · exact .inl (imp_iff.2 ⟨a1, b1, impL_two a3 b3 hl⟩)
  · exact .inr (imp_iff.2 ⟨b1, a1, impL_two b3 a3 hl⟩)

/-! ### lists -/
def cov (l : List ByteArray) (s : ByteArray) : Bool := l.any fun t => imp t s
theorem cov_iff {l : List ByteArray} {s : ByteArray} : cov l s = true ↔ ∃ t ∈ l, imp t s = true := by unfold cov; rw [List.any_eq_true]
/-- nothing else of l includes s -/
def lstB (l : List ByteArray) (s : ByteArray) : Bool := vdB s && !(l.any fun t => decide (t ≠ s) && imp t s)
theorem lst_iff {l : List ByteArray} {s : ByteArray} : lstB l s = true ↔ vdB s = true ∧ ∀ t ∈ l, t ≠ s → imp t s = false := by
  unfold lstB
  rw [Bool.and_eq_true, Bool.not_eq_true', List.any_eq_false]
  refine and_congr Iff.rfl ⟨fun h t ht hn => ?_, fun h t ht => ?_⟩
  · have := h t ht
    rw [decide_eq_true hn, Bool.true_and] at this
    exact Bool.eq_false_iff.2 this
  · by_cases e : t = s
    · rw [decide_eq_false (fun k => k e)]; exact Bool.false_ne_true
    · rw [h t ht e, Bool.and_false]; exact Bool.false_ne_true
def srt (l : List ByteArray) : List ByteArray := sortU (l.filter (lstB l))
theorem srt_mem {l : List ByteArray} {s : ByteArray} : s ∈ srt l ↔ s ∈ l ∧ lstB l s = true := by
  unfold srt
  rw [sortU_mem, List.mem_filter]
theorem srt_asc (l : List ByteArray) : Asc (srt l) := sortU_asc _
theorem srt_len (l : List ByteArray) : (srt l).length ≤ l.length := Nat.le_trans (sortU_len _) (List.length_filter_le _ _)
theorem srt_vd {l : List ByteArray} {s : ByteArray} (h : s ∈ srt l) : vdB s = true := (lst_iff.1 (srt_mem.1 h).2).1
/-- what is in l is included in one that nothing else of l includes -/
theorem srt_over (l : List ByteArray) : ∀ (n : Nat) (t : ByteArray), t.size ≤ n → t ∈ l → vdB t = true → ∃ u ∈ srt l, imp u t = true := by
  intro n
  induction n with
  | zero =>
    intro t hn _ hv
    have := (word_size (vd_word hv)).1
    omega
  | succ n ih =>
    intro t hn ht hv
    cases h : lstB l t with
    | true => exact ⟨t, srt_mem.2 ⟨ht, h⟩, by rw [imp_self]; exact hv⟩
    | false =>
      have hx : ∃ u ∈ l, u ≠ t ∧ imp u t = true := by
        unfold lstB at h
        rw [hv, Bool.true_and, Bool.not_eq_false', List.any_eq_true] at h
        obtain ⟨u, hu, h⟩ := h
        rw [Bool.and_eq_true, decide_eq_true_eq] at h
        exact ⟨u, hu, h⟩
      obtain ⟨u, hu, hne, hi⟩ := hx
      have hlt := imp_less hi hne
      obtain ⟨v, hv1, hv2⟩ := ih u (by omega) hu (imp_iff.1 hi).1
      exact ⟨v, hv1, imp_trans hv2 hi⟩
theorem cov_srt (l : List ByteArray) (s : ByteArray) : cov (srt l) s = cov l s := by
  rw [Bool.eq_iff_iff, cov_iff, cov_iff]
  constructor
  · rintro ⟨t, ht, h⟩
    exact ⟨t, (srt_mem.1 ht).1, h⟩
  · rintro ⟨t, ht, h⟩
    obtain ⟨u, hu, k⟩ := srt_over l t.size t (Nat.le_refl _) ht (imp_iff.1 h).1
    exact ⟨u, hu, imp_trans k h⟩
theorem srt_srt (l : List ByteArray) : srt (srt l) = srt l := by
  refine asc_ext (srt_asc _) (srt_asc _) fun x => ?_
  rw [srt_mem]
  refine ⟨fun h => h.1, fun h => ⟨h, lst_iff.2 ⟨srt_vd h, fun t ht hn => ?_⟩⟩⟩
  exact (lst_iff.1 (srt_mem.1 h).2).2 t (srt_mem.1 ht).1 hn
theorem srt_ext {a b : List ByteArray} (h : ∀ x, vdB x = true → (x ∈ a ↔ x ∈ b)) : srt a = srt b := by
  have key : ∀ {a b : List ByteArray}, (∀ x, vdB x = true → (x ∈ a ↔ x ∈ b)) → ∀ x, x ∈ srt a → x ∈ srt b := by
    intro a b h x hx
    have hv := srt_vd hx
    refine srt_mem.2 ⟨(h x hv).1 (srt_mem.1 hx).1, lst_iff.2 ⟨hv, fun t ht hn => ?_⟩⟩
    cases hi : imp t x with
    | false => rfl
    | true =>
      have := (lst_iff.1 (srt_mem.1 hx).2).2 t ((h t (imp_iff.1 hi).1).2 ht) hn
      rw [hi] at this; exact this
  exact asc_ext (srt_asc _) (srt_asc _) fun x => ⟨key h x, key (fun x hv => (h x hv).symm) x⟩
/-- no two of a sorted list include one another -/
theorem srt_apart {l : List ByteArray} {s t : ByteArray} (hs : s ∈ srt l) (ht : t ∈ srt l) (h : imp t s = true) : t = s := by
  by_cases e : t = s
  · exact e
  · have := (lst_iff.1 (srt_mem.1 hs).2).2 t (srt_mem.1 ht).1 e
    rw [h] at this; cases this

/-! ### within, common, minus -/
def wthn (a b : List ByteArray) : Bool := a.all (cov b)
theorem wthn_iff {a b : List ByteArray} : wthn a b = true ↔ ∀ s ∈ a, cov b s = true := by unfold wthn; rw [List.all_eq_true]
def covN (b : List ByteArray) (s : ByteArray) : Bool := !cov b s
def cmn (a b : List ByteArray) : List ByteArray := srt (a.filter (cov b) ++ b.filter (cov a))
def mns (a b : List ByteArray) : List ByteArray := srt (a.filter (covN b))
theorem wthn_none (a b : List ByteArray) : (a.filter (covN b)).length = 0 ↔ wthn a b = true := by
  rw [List.length_eq_zero_iff, List.filter_eq_nil_iff, wthn_iff]
  refine forall_congr' fun s => forall_congr' fun _ => ?_
  unfold covN
  cases cov b s <;> simp
theorem wthn_one (l : List ByteArray) (s : ByteArray) : wthn [s] l = cov l s := by unfold wthn; simp
theorem cov_imp {l : List ByteArray} {t s : ByteArray} (h : cov l t = true) (k : imp t s = true) : cov l s = true := by
  obtain ⟨u, hu, hi⟩ := cov_iff.1 h
  exact cov_iff.2 ⟨u, hu, imp_trans hi k⟩
theorem cov_mem {l : List ByteArray} {s : ByteArray} (h : s ∈ l) (hv : vdB s = true) : cov l s = true := cov_iff.2 ⟨s, h, by rw [imp_self]; exact hv⟩
theorem cmn_cov (a b : List ByteArray) (s : ByteArray) : cov (cmn a b) s = (cov a s && cov b s) := by
  unfold cmn
  rw [cov_srt, Bool.eq_iff_iff, Bool.and_eq_true, cov_iff]
  constructor
  · rintro ⟨t, ht, h⟩
    rcases List.mem_append.1 ht with ht | ht
    · obtain ⟨h1, h2⟩ := List.mem_filter.1 ht
      exact ⟨cov_iff.2 ⟨t, h1, h⟩, cov_imp h2 h⟩
    · obtain ⟨h1, h2⟩ := List.mem_filter.1 ht
      exact ⟨cov_imp h2 h, cov_iff.2 ⟨t, h1, h⟩⟩
  · rintro ⟨h, k⟩
    obtain ⟨x, hx, h⟩ := cov_iff.1 h
    obtain ⟨y, hy, k⟩ := cov_iff.1 k
    rcases imp_two h k with e | e
    · exact ⟨y, List.mem_append.2 (.inr (List.mem_filter.2 ⟨hy, cov_iff.2 ⟨x, hx, e⟩⟩)), k⟩
    · exact ⟨x, List.mem_append.2 (.inl (List.mem_filter.2 ⟨hx, cov_iff.2 ⟨y, hy, e⟩⟩)), h⟩
theorem cmn_comm (a b : List ByteArray) : cmn a b = cmn b a := by
  unfold cmn
  refine srt_ext fun x _ => ?_
  rw [List.mem_append, List.mem_append]
  exact Or.comm
theorem cmn_left (a b : List ByteArray) : wthn (cmn a b) a = true := by
  refine wthn_iff.2 fun s hs => ?_
  have := cmn_cov a b s
  rw [cov_mem hs (srt_vd hs)] at this
  exact (Bool.and_eq_true _ _ ▸ this.symm).1
theorem cmn_right (a b : List ByteArray) : wthn (cmn a b) b = true := by rw [cmn_comm]; exact cmn_left b a
theorem mns_mem {a b : List ByteArray} {s : ByteArray} (h : s ∈ mns a b) : s ∈ a ∧ cov b s = false := by
  obtain ⟨h1, h2⟩ := List.mem_filter.1 (srt_mem.1 h).1
  unfold covN at h2
  exact ⟨h1, by simpa using h2⟩
theorem mns_cov {a b : List ByteArray} {s : ByteArray} (h : s ∈ a) (hv : vdB s = true) (hb : cov b s = false) : cov (mns a b) s = true := by
  unfold mns
  rw [cov_srt]
  exact cov_mem (List.mem_filter.2 ⟨h, by unfold covN; rw [hb]; rfl⟩) hv
theorem mns_self (a : List ByteArray) : mns a a = [] := by
  rcases List.eq_nil_or_concat (mns a a) with e | ⟨d, x, e⟩
  · exact e
  · have hx : x ∈ mns a a := by rw [e]; simp
    have h := mns_mem hx
    rw [cov_mem h.1 (srt_vd hx)] at h
    cases h.2

/-! ### check, text -/
/-- the error of place k -/
def scI (l : List ByteArray) (k : Nat) : Int := if vdB (partAt l k) = false then 5 else if memB (l.take k) (partAt l k) = true then 7 else 0
/-- the first that is not 0 of n -/
def firE (f : Nat → Int) : Nat → Int
  | 0 => 0
  | n + 1 => if firE f n = 0 then f n else firE f n
theorem firE_stay {f : Nat → Int} {z : Int} (hz : z ≠ 0) : ∀ {n m : Nat}, firE f n = z → n ≤ m → firE f m = z
  | n, 0, h, hm => by obtain rfl : n = 0 := by omega
                      exact h
  | n, m + 1, h, hm => by
    rcases Nat.lt_or_ge m n with k | k
    · obtain rfl : n = m + 1 := by omega
      exact h
    · unfold firE
      rw [firE_stay hz h k, if_neg hz]
theorem firE_hit {f : Nat → Int} {i n : Nat} {z : Int} (h0 : firE f i = 0) (hf : f i = z) (hz : z ≠ 0) (hi : i < n) : firE f n = z :=
  firE_stay hz (n := i + 1) (by unfold firE; rw [if_pos h0, hf]) hi
theorem firE_next {f : Nat → Int} {i : Nat} (h0 : firE f i = 0) (hf : f i = 0) : firE f (i + 1) = 0 := by unfold firE; rw [if_pos h0, hf]
theorem firE_zero {f : Nat → Int} : ∀ {n : Nat}, firE f n = 0 → ∀ i, i < n → f i = 0
  | 0, _, i, hi => absurd hi (Nat.not_lt_zero _)
  | n + 1, h, i, hi => by
    unfold firE at h
    split at h
    · next h0 =>
      rcases Nat.lt_or_ge i n with k | k
      · exact firE_zero h0 i k
      · obtain rfl : i = n := by omega
        exact h
    · next h0 => exact absurd h h0
/-- the error of a list -/
def chkS (l : List ByteArray) : Int := if 16 < l.length then 3 else firE (scI l) l.length
theorem chk_len {l : List ByteArray} (h : chkS l = 0) : l.length ≤ 16 := by
  unfold chkS at h
  split at h
  · cases h
  · omega
theorem chk_vd {l : List ByteArray} (h : chkS l = 0) {s : ByteArray} (hs : s ∈ l) : vdB s = true := by
  have hl := chk_len h
  unfold chkS at h
  rw [if_neg (by omega)] at h
  obtain ⟨j, hj, rfl⟩ := List.getElem_of_mem hs
  have := firE_zero h j hj
  unfold scI at this
  rw [show partAt l j = l[j] by unfold partAt; rw [List.getD_eq_getElem?_getD, List.getElem?_eq_getElem hj]; rfl] at this
  cases hv : vdB l[j] with
  | true => rfl
  | false => rw [if_pos hv] at this; cases this
theorem chk_one (s : ByteArray) : chkS [s] = if vdB s = true then 0 else 5 := by
  unfold chkS
  rw [if_neg (by simp)]
  show (if firE (scI [s]) 0 = 0 then scI [s] 0 else firE (scI [s]) 0) = _
  rw [if_pos (show firE (scI [s]) 0 = 0 from rfl)]
  unfold scI
  rw [show partAt [s] 0 = s from rfl]
  cases vdB s <;> simp [memB]
theorem partsB_nil (c : UInt8) : partsB c ⟨#[]⟩ = [⟨#[]⟩] := by
  rw [parts_ofL]; rfl
theorem joinB_nil (c : UInt8) : joinB c [] = ⟨#[]⟩ := rfl
def txS (l : List ByteArray) : ByteArray := if chkS l = 0 then joinB 32 l else ⟨#[]⟩
def prE (s : ByteArray) : Int := if s = ⟨#[]⟩ then 0 else chkS (partsB 32 s)
def prL (s : ByteArray) : List ByteArray := if s = ⟨#[]⟩ then [] else if chkS (partsB 32 s) = 0 then partsB 32 s else []
theorem text_read {l : List ByteArray} (h : chkS l = 0) : prE (txS l) = 0 ∧ prL (txS l) = l := by
  unfold txS
  rw [if_pos h]
  by_cases hl : l = []
  · subst hl
    exact ⟨rfl, rfl⟩
  · have hp : partsB 32 (joinB 32 l) = l := parts_join hl fun s hs => word_free (vd_word (chk_vd h hs))
    have hne : joinB 32 l ≠ ⟨#[]⟩ := fun e => by
      rw [e, partsB_nil] at hp
      exact vd_ne (chk_vd h (s := ⟨#[]⟩) (by rw [← hp]; simp)) rfl
    unfold prE prL
    rw [if_neg hne, if_neg hne, hp, if_pos h]
    exact ⟨h, rfl⟩
theorem read_text {s : ByteArray} (h : prE s = 0) : chkS (prL s) = 0 ∧ txS (prL s) = s := by
  unfold prE at h
  unfold prL
  by_cases e : s = ⟨#[]⟩
  · rw [if_pos e]
    exact ⟨rfl, e.symm⟩
  · rw [if_neg e] at h
    rw [if_neg e, if_pos h]
    refine ⟨h, ?_⟩
    unfold txS
    rw [if_pos h, join_parts]

end Go.Proofs.YtminodinhbcgnaaDoor
