/-
  Plain functions for update vectors: the first error, what Covers, Note, Join and Within return, and that Join gives the least vector that contains both. Nothing of the program stands here. No condition.
-/
import Derived.Test.YtcnhkoijphfibaaDoorCsnL
set_option linter.unusedVariables false
set_option linter.unusedSimpArgs false
set_option linter.unnecessarySimpa false
namespace Go.Proofs.YtcnhkoijphfibaaDoor
open Go.PlainAid

/-- the first of n errors that is one -/
def fstC (f : Nat → Int) : Nat → Int
  | 0 => 0
  | n + 1 => if fstC f n = 0 then f n else fstC f n
theorem fstC_zero {f : Nat → Int} : ∀ {n : Nat}, (∀ j, j < n → f j = 0) → fstC f n = 0
  | 0, _ => rfl
  | n + 1, h => by
    unfold fstC
    rw [if_pos (fstC_zero fun j hj => h j (by omega))]
    exact h n (by omega)
theorem fstC_hit {f : Nat → Int} {k : Nat} (h : ∀ j, j < k → f j = 0) (hk : f k ≠ 0) : ∀ {n : Nat}, k < n → fstC f n = f k
  | 0, hn => absurd hn (Nat.not_lt_zero _)
  | n + 1, hn => by
    unfold fstC
    by_cases e : k = n
    · subst e; rw [if_pos (fstC_zero h)]
    · have := fstC_hit h hk (n := n) (by omega)
      rw [if_neg (by rw [this]; exact hk)]; exact this
theorem fstC_each {f : Nat → Int} {m : Nat} (h : fstC f m = 0) (j : Nat) (hj : j < m) : f j = 0 := by
  induction j using Nat.strongRecOn with
  | _ j ih =>
    by_cases e : f j = 0
    · exact e
    · exact absurd ((fstC_hit (fun k hk => ih k hk (Nat.lt_trans hk hj)) e hj).symm.trans h) e
/-- an earlier number has this replica -/
def seenC (l : List Cn) (i : Nat) (r : Int) : Bool := (l.take i).any fun e => decide (e.2.2 = r)
def errC (l : List Cn) (i : Nat) : Int := if ¬ Vld (cnA l i) then 2 else if seenC l i (cnA l i).2.2 = true then 7 else if 0 < i ∧ (cnA l i).2.2 < (cnA l (i - 1)).2.2 then 4 else 0
def chkC (l : List Cn) : Int := fstC (errC l) l.length
theorem seenC_iff {l : List Cn} {i : Nat} {r : Int} : seenC l i r = true ↔ ∃ k, k < i ∧ k < l.length ∧ (cnA l k).2.2 = r := by
  unfold seenC
  rw [List.any_eq_true]
  constructor
  · rintro ⟨e, he, h⟩
    obtain ⟨k, hk, rfl⟩ := List.mem_iff_getElem.1 he
    rw [List.length_take] at hk
    refine ⟨k, by omega, by omega, ?_⟩
    rw [List.getElem_take] at h
    rw [cn_get (by omega)]
    exact of_decide_eq_true h
  · rintro ⟨k, h1, h2, h3⟩
    refine ⟨cnA l k, ?_, decide_eq_true h3⟩
    rw [cn_get h2]
    exact List.mem_take_iff_getElem.2 ⟨k, by omega, rfl⟩
theorem seenC_succ {l : List Cn} {i : Nat} (h : i < l.length) (r : Int) : seenC l (i + 1) r = (seenC l i r || decide ((cnA l i).2.2 = r)) := by
  unfold seenC
  rw [take_cn l i h, List.any_append]
  simp
theorem chk_vec {l : List Cn} : chkC l = 0 ↔ VecC l := by
  constructor
  · intro h
    have hz : ∀ i, i < l.length → Vld (cnA l i) ∧ ¬ seenC l i (cnA l i).2.2 = true ∧ ¬ (0 < i ∧ (cnA l i).2.2 < (cnA l (i - 1)).2.2) := fun i hi => by
      have e := fstC_each h i hi
      unfold errC at e
      split at e
      · cases e
      · rename_i k1
        split at e
        · cases e
        · rename_i k2
          split at e
          · cases e
          · rename_i k3
            exact ⟨Classical.not_not.1 k1, k2, k3⟩
    have step : ∀ i, i + 1 < l.length → (cnA l i).2.2 < (cnA l (i + 1)).2.2 := fun i hi => by
      obtain ⟨_, h2, h3⟩ := hz (i + 1) hi
      rw [Nat.add_sub_cancel] at h3
      have : (cnA l i).2.2 ≠ (cnA l (i + 1)).2.2 := fun e => h2 (seenC_iff.2 ⟨i, by omega, by omega, e⟩)
      omega
    have all : ∀ d i, i + d + 1 < l.length → (cnA l i).2.2 < (cnA l (i + d + 1)).2.2 := by
      intro d
      induction d with
      | zero => intro i hi; exact step i hi
      | succ d ih =>
        intro i hi
        have h1 := ih i (by omega)
        have h2 := step (i + d + 1) hi
        have e : i + (d + 1) + 1 = i + d + 1 + 1 := by omega
        rw [e]; omega
    refine ⟨fun c hc => ?_, List.pairwise_iff_getElem.2 fun i j hi hj hij => ?_⟩
    · obtain ⟨i, hi, rfl⟩ := List.mem_iff_getElem.1 hc
      have := (hz i hi).1
      rwa [cn_get hi] at this
    · have := all (j - i - 1) i (by omega)
      rw [show i + (j - i - 1) + 1 = j by omega, cn_get hi, cn_get hj] at this
      exact this
  · intro h
    refine fstC_zero fun i hi => ?_
    have hp := List.pairwise_iff_getElem.1 h.2
    unfold errC
    rw [if_neg (fun k => k (h.1 _ (cn_mem hi))), if_neg, if_neg]
    · rintro ⟨h0, h1⟩
      have := hp (i - 1) i (by omega) hi (by omega)
      rw [cn_get hi, cn_get (by omega)] at h1
      omega
    · intro k
      obtain ⟨j, h1, h2, h3⟩ := seenC_iff.1 k
      have := hp j i h2 hi h1
      rw [cn_get hi, cn_get h2] at h3
      omega
/-- the vector as which a list counts -/
def vecO (l : List Cn) : List Cn := if chkC l = 0 then l else []
theorem vecO_vec (l : List Cn) : VecC (vecO l) := by
  unfold vecO
  split
  · rename_i h; exact chk_vec.1 h
  · exact vec_nil
theorem vecO_self {l : List Cn} (h : VecC l) : vecO l = l := if_pos (chk_vec.2 h)
theorem vecO_len (l : List Cn) : (vecO l).length ≤ l.length := by
  unfold vecO
  split
  · exact Nat.le_refl _
  · simp
theorem vec_len {l : List Cn} (h : VecC l) : l.length ≤ 8 := by
  have key : ∀ (m : List Cn) (a : Int), 0 ≤ a → (∀ c ∈ m, Vld c) → (∀ c ∈ m, a ≤ c.2.2) → m.Pairwise (fun x y => x.2.2 < y.2.2) → (m.length : Int) ≤ if m = [] then 0 else 8 - a := by
    intro m
    induction m with
    | nil => intro a _ _ _ _; simp
    | cons c m ih =>
      intro a ha hv hl hp
      have hp := List.pairwise_cons.1 hp
      have h1 := ih (c.2.2 + 1) (by have := hl c (by simp); omega) (fun d hd => hv d (by simp [hd])) (fun d hd => by have := hp.1 d hd; omega) hp.2
      have h2 := hl c (by simp)
      have h3 := hv c (by simp)
      unfold Vld at h3
      rw [if_neg (by simp), List.length_cons]
      by_cases e : m = []
      · subst e; simp; omega
      · rw [if_neg e] at h1; omega
  have := key l 0 (Int.le_refl _) h.1 (fun c hc => by have := h.1 c hc; unfold Vld at this; omega) h.2
  split at this <;> omega
def covC (v : List Cn) (c : Cn) : Bool := decide (Vld c) && (vecO v).any fun e => decide (e.2.2 = c.2.2) && !decide (ltC e c)
theorem covC_iff {v : List Cn} {c : Cn} : covC v c = true ↔ Vld c ∧ ∃ e ∈ vecO v, e.2.2 = c.2.2 ∧ ¬ ltC e c := by
  unfold covC
  rw [Bool.and_eq_true, decide_eq_true_iff, List.any_eq_true]
  simp only [Bool.and_eq_true, decide_eq_true_iff, Bool.not_eq_true', decide_eq_false_iff_not]
def joinC (a b : List Cn) : List Cn := lstC (vecO a ++ vecO b)
def noteC (v : List Cn) (c : Cn) : List Cn := joinC v [c]
theorem both_vld (a b : List Cn) : ∀ c ∈ vecO a ++ vecO b, Vld c := fun c hc => (List.mem_append.1 hc).elim ((vecO_vec a).1 c) ((vecO_vec b).1 c)
theorem join_vec (a b : List Cn) : VecC (joinC a b) := lst_vec (both_vld a b)
theorem vecO_one (c : Cn) : vecO [c] = if Vld c then [c] else [] := by
  by_cases h : Vld c
  · rw [if_pos h, vecO_self (vec_one h)]
  · rw [if_neg h]
    unfold vecO
    rw [if_neg fun e => h ((chk_vec.1 e).1 c (by simp))]
theorem note_is (v : List Cn) (c : Cn) : noteC v c = if Vld c then lstC (vecO v ++ [c]) else vecO v := by
  unfold noteC joinC
  rw [vecO_one]
  split
  · rfl
  · rw [List.append_nil, lst_self (vecO_vec v)]
/-- the specification's way: the number is put into its place -/
def noteR (l : List Cn) (c : Cn) : List Cn := if ¬ Vld c ∨ covC l c = true then l else l.filter (fun e => decide (e.2.2 < c.2.2)) ++ c :: l.filter (fun e => decide (c.2.2 < e.2.2))
theorem noteR_vec {l : List Cn} (h : VecC l) (c : Cn) : VecC (noteR l c) := by
  unfold noteR
  split
  · exact h
  · rename_i k
    have hv : Vld c := Classical.not_not.1 fun e => k (.inl e)
    refine ⟨fun d hd => ?_, ?_⟩
    · rcases List.mem_append.1 hd with hd | hd
      · exact h.1 d (List.mem_filter.1 hd).1
      · rcases List.mem_cons.1 hd with rfl | hd
        · exact hv
        · exact h.1 d (List.mem_filter.1 hd).1
    · rw [List.pairwise_append]
      refine ⟨h.2.filter _, List.pairwise_cons.2 ⟨fun d hd => of_decide_eq_true (List.mem_filter.1 hd).2, h.2.filter _⟩, fun a ha b hb => ?_⟩
      have h1 := of_decide_eq_true (List.mem_filter.1 ha).2
      rcases List.mem_cons.1 hb with rfl | hb
      · exact h1
      · have h2 := of_decide_eq_true (List.mem_filter.1 hb).2
        omega
theorem noteR_lst {l : List Cn} (h : VecC l) {c : Cn} (hv : Vld c) : noteR l c = lstC (l ++ [c]) := by
  have hall : ∀ d ∈ l ++ [c], Vld d := fun d hd => (List.mem_append.1 hd).elim (h.1 d) fun e => by rw [List.mem_singleton.1 e]; exact hv
  refine vec_uniq (noteR_vec h c) (lst_vec hall) fun d => ?_
  rw [mem_lst]
  by_cases hc : covC l c = true
  · have e : noteR l c = l := if_pos (.inr hc)
    rw [e]
    obtain ⟨_, f, hf, hr, hn⟩ := covC_iff.1 hc
    rw [vecO_self h] at hf
    constructor
    · intro hd
      have hvd := h.1 d hd
      unfold Vld at hvd
      refine ⟨by omega, bst_is (by simp [hd]) rfl fun g hg hgr => ?_⟩
      rcases List.mem_append.1 hg with hg | hg
      · rw [vec_rep h hg hd hgr]; exact ltC_irr _
      · rw [List.mem_singleton.1 hg] at hgr ⊢
        rw [vec_rep h hd hf (by omega)]; exact hn
    · rintro ⟨_, hb⟩
      obtain ⟨h1, _, h3⟩ := bst_mem hb
      rcases List.mem_append.1 h1 with h1 | h1
      · exact h1
      · have e := List.mem_singleton.1 h1
        have h4 := h3 f (by simp [hf]) (by rw [e]; exact hr)
        rw [e] at h4 ⊢
        rw [ltC_tri h4 hn]; exact hf
  · have e : noteR l c = l.filter (fun e => decide (e.2.2 < c.2.2)) ++ c :: l.filter (fun e => decide (c.2.2 < e.2.2)) := if_neg fun k => k.elim (fun k => k hv) hc
    have hno : ∀ f ∈ l, f.2.2 = c.2.2 → ltC f c := fun f hf hr => Classical.byContradiction fun hn => hc (covC_iff.2 ⟨hv, f, by rw [vecO_self h]; exact hf, hr, hn⟩)
    rw [e, List.mem_append, List.mem_cons, List.mem_filter, List.mem_filter]
    simp only [decide_eq_true_iff]
    constructor
    · rintro (⟨hd, hlt⟩ | rfl | ⟨hd, hlt⟩)
      · have hvd := h.1 d hd
        unfold Vld at hvd
        refine ⟨by omega, bst_is (by simp [hd]) rfl fun g hg hgr => ?_⟩
        rcases List.mem_append.1 hg with hg | hg
        · rw [vec_rep h hg hd hgr]; exact ltC_irr _
        · rw [List.mem_singleton.1 hg] at hgr; omega
      · have hvd := hv
        unfold Vld at hvd
        refine ⟨by omega, bst_is (by simp) rfl fun g hg hgr => ?_⟩
        rcases List.mem_append.1 hg with hg | hg
        · exact ltC_asymm (hno g hg hgr)
        · rw [List.mem_singleton.1 hg]; exact ltC_irr _
      · have hvd := h.1 d hd
        unfold Vld at hvd
        refine ⟨by omega, bst_is (by simp [hd]) rfl fun g hg hgr => ?_⟩
        rcases List.mem_append.1 hg with hg | hg
        · rw [vec_rep h hg hd hgr]; exact ltC_irr _
        · rw [List.mem_singleton.1 hg] at hgr; omega
    · rintro ⟨_, hb⟩
      obtain ⟨h1, _, h3⟩ := bst_mem hb
      rcases List.mem_append.1 h1 with h1 | h1
      · rcases Int.lt_trichotomy d.2.2 c.2.2 with k | k | k
        · exact .inl ⟨h1, k⟩
        · exact absurd (hno d h1 k) (h3 c (by simp) k.symm)
        · exact .inr (.inr ⟨h1, k⟩)
      · exact .inr (.inl (List.mem_singleton.1 h1))
theorem noteR_note {v : List Cn} (c : Cn) : noteR (vecO v) c = noteC v c := by
  rw [note_is]
  split
  · rename_i h; exact noteR_lst (vecO_vec v) h
  · rename_i h; exact if_pos (.inl h)
theorem fold_note : ∀ (m l : List Cn), VecC l → (∀ c ∈ m, Vld c) → m.foldl noteR l = lstC (l ++ m)
  | [], l, h, _ => by rw [List.append_nil, lst_self h]; rfl
  | c :: m, l, h, hm => by
    have hc := hm c (by simp)
    rw [List.foldl_cons, fold_note m _ (noteR_vec h c) (fun d hd => hm d (by simp [hd])), noteR_lst h hc, lst_lst (fun d hd => (List.mem_append.1 hd).elim (h.1 d) fun e => by rw [List.mem_singleton.1 e]; exact hc), List.append_assoc]
    rfl
def witC (a b : List Cn) : Bool := (vecO a).all fun c => covC b c
theorem witC_iff {a b : List Cn} : witC a b = true ↔ ∀ c ∈ vecO a, covC b c = true := by unfold witC; rw [List.all_eq_true]

/-! ### what the statements say -/
def aloneC (c d : Cn) : Bool := decide (Vld c) && decide (Vld d) && decide (c.2.2 = d.2.2) && decide (cmpC d c ≤ 0)
theorem notes_law (v : List Cn) (c d : Cn) : covC (noteC v c) d = (covC v d || aloneC c d) := by
  rw [Bool.eq_iff_iff, Bool.or_eq_true, covC_iff, covC_iff]
  unfold aloneC
  simp only [Bool.and_eq_true, decide_eq_true_iff, cmpC_le]
  unfold noteC
  rw [vecO_self (join_vec v [c])]
  unfold joinC
  rw [cov_lst (both_vld v [c]), vecO_one]
  constructor
  · rintro ⟨hd, e, he, hr, hn⟩
    rcases List.mem_append.1 he with he | he
    · exact .inl ⟨hd, e, he, hr, hn⟩
    · split at he
      · rename_i hc
        rw [List.mem_singleton.1 he] at hr hn
        exact .inr ⟨⟨⟨hc, hd⟩, hr⟩, hn⟩
      · cases he
  · rintro (⟨hd, e, he, hr, hn⟩ | ⟨⟨⟨hc, hd⟩, hr⟩, hn⟩)
    · exact ⟨hd, e, List.mem_append.2 (.inl he), hr, hn⟩
    · exact ⟨hd, c, List.mem_append.2 (.inr (by rw [if_pos hc]; simp)), hr, hn⟩
theorem join_comm (a b : List Cn) : joinC a b = joinC b a := lst_comm _ _
theorem join_assoc (a b c : List Cn) : joinC (joinC a b) c = joinC a (joinC b c) := by
  have h1 : joinC (joinC a b) c = lstC (vecO a ++ vecO b ++ vecO c) := by
    show lstC (vecO (joinC a b) ++ vecO c) = _
    rw [vecO_self (join_vec a b)]
    exact lst_lst (both_vld a b) _
  have h2 : joinC a (joinC b c) = lstC (vecO a ++ (vecO b ++ vecO c)) := by
    show lstC (vecO a ++ vecO (joinC b c)) = _
    rw [vecO_self (join_vec b c)]
    exact lst_lst2 (both_vld b c) _
  rw [h1, h2, List.append_assoc]
theorem join_idem {j : List Cn} (h : VecC j) : joinC j j = j := by
  unfold joinC
  rw [vecO_self h, lst_set (m := j) fun c => by simp, lst_self h]
theorem chk_join (a b : List Cn) : chkC (joinC a b) = 0 := chk_vec.2 (join_vec a b)
theorem wit_refl {a : List Cn} (h : VecC a) : witC a a = true := witC_iff.2 fun c hc => covC_iff.2 ⟨(vecO_vec a).1 c hc, c, hc, rfl, ltC_irr _⟩
theorem wit_join {a b c : List Cn} (h : ∀ d ∈ vecO c, d ∈ vecO a ++ vecO b) : witC c (joinC a b) = true := witC_iff.2 fun d hd => by
  have hv := (vecO_vec c).1 d hd
  refine covC_iff.2 ⟨hv, ?_⟩
  rw [vecO_self (join_vec a b)]
  exact (cov_lst (both_vld a b) d).2 ⟨d, h d hd, rfl, ltC_irr _⟩
theorem wit_left (a b : List Cn) : witC a (joinC a b) = true := wit_join fun d hd => List.mem_append.2 (.inl hd)
theorem wit_right (a b : List Cn) : witC b (joinC a b) = true := wit_join fun d hd => List.mem_append.2 (.inr hd)
theorem wit_least {a b c : List Cn} (h : witC a c = true) (k : witC b c = true) : witC (joinC a b) c = true := witC_iff.2 fun d hd => by
  rw [vecO_self (join_vec a b)] at hd
  have := (bst_mem (mem_lst.1 hd).2).1
  exact (List.mem_append.1 this).elim (witC_iff.1 h d) (witC_iff.1 k d)
theorem wit_trans {a b c : List Cn} (h : witC a b = true) (k : witC b c = true) : witC a c = true := witC_iff.2 fun d hd => by
  obtain ⟨hv, e, he, hr, hn⟩ := covC_iff.1 (witC_iff.1 h d hd)
  obtain ⟨_, f, hf, hr2, hn2⟩ := covC_iff.1 (witC_iff.1 k e he)
  exact covC_iff.2 ⟨hv, f, hf, by omega, nlt_trans hn2 hn⟩
theorem wit_anti {a b : List Cn} (ha : VecC a) (hb : VecC b) (h : witC a b = true) (k : witC b a = true) : a = b := by
  have key : ∀ {a b : List Cn}, VecC a → VecC b → witC a b = true → witC b a = true → ∀ c ∈ a, c ∈ b := by
    intro a b ha hb h k c hc
    have hc' : c ∈ vecO a := by rw [vecO_self ha]; exact hc
    obtain ⟨hv, e, he, hr, hn⟩ := covC_iff.1 (witC_iff.1 h c hc')
    obtain ⟨_, f, hf, hr2, hn2⟩ := covC_iff.1 (witC_iff.1 k e he)
    rw [vecO_self ha] at hf
    have : f = c := vec_rep ha hf hc (by omega)
    rw [this] at hn2
    rw [ltC_tri hn2 hn]
    rw [vecO_self hb] at he
    exact he
  exact vec_uniq ha hb fun c => ⟨key ha hb h k c, key hb ha k h c⟩

/-- what Next returns -/
def insI (n : Int) : Int := if n < 0 then 0 else if 1099511627776 < n then 1099511627776 else n
def nxtE (c : Cn) (now r : Int) : Int := if ¬ Vld c ∨ r < 0 ∨ 8 ≤ r then 2 else if c.1 < insI now then 0 else if c.2.1 = 4294967295 then 27 else 0
def nxtV (c : Cn) (now r : Int) : Cn := if nxtE c now r ≠ 0 then (0, 0, 0) else if c.1 < insI now then (insI now, 0, r) else (c.1, c.2.1 + 1, r)
theorem nxt_ok {c : Cn} {now r : Int} (h : nxtE c now r = 0) : Vld (nxtV c now r) ∧ ltC c (nxtV c now r) ∧ (nxtV c now r).2.2 = r ∧ insI now ≤ (nxtV c now r).1 := by
  have hx : 0 ≤ insI now ∧ insI now ≤ 1099511627776 := by unfold insI; split <;> (try split) <;> omega
  unfold nxtV
  rw [if_neg (fun k => k h)]
  unfold nxtE at h
  split at h
  · cases h
  · rename_i k
    have hv : Vld c := Classical.not_not.1 fun e => k (.inl e)
    have hr : 0 ≤ r ∧ r < 8 := by
      constructor
      · exact Int.not_lt.1 fun e => k (.inr (.inl e))
      · exact Int.not_le.1 fun e => k (.inr (.inr e))
    unfold Vld at hv
    split
    · rename_i hl
      unfold Vld ltC
      dsimp only
      exact ⟨by omega, by omega, rfl, Int.le_refl _⟩
    · rename_i hl
      rw [if_neg hl] at h
      have hs : c.2.1 ≠ 4294967295 := by intro e; rw [if_pos e] at h; cases h
      unfold Vld ltC
      dsimp only
      exact ⟨by omega, by omega, rfl, by omega⟩
theorem nxt_arg {c : Cn} (hv : Vld c) (now r : Int) (h : nxtE c now r ≠ 0) : (nxtE c now r = 2) ↔ (r < 0 ∨ 8 ≤ r) := by
  unfold nxtE at h ⊢
  by_cases k : r < 0 ∨ 8 ≤ r
  · rw [if_pos (.inr k)]; exact ⟨fun _ => k, fun _ => rfl⟩
  · have : ¬ (¬ Vld c ∨ r < 0 ∨ 8 ≤ r) := fun e => e.elim (fun e => e hv) k
    rw [if_neg this] at h ⊢
    refine ⟨fun e => ?_, fun e => absurd e k⟩
    split at e
    · cases e
    · split at e <;> cases e

end Go.Proofs.YtcnhkoijphfibaaDoor
