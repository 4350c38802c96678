/-
  Plain functions for change sequence numbers and update vectors: validity, the order, the latest number of a replica, the least vector that contains a list, and what Note, Join, Covers and Within mean there. Nothing of the program stands here. No condition.
-/
import Derived.Test.YtcnhkoijphfibaaDoorDigA
import Derived.Test.YtcnhkoijphfibaaDoorCodecA
set_option linter.unusedVariables false
set_option linter.unusedSimpArgs false
set_option linter.unnecessarySimpa false
namespace Go.Proofs.YtcnhkoijphfibaaDoor
open Go.PlainAid

/-- a change sequence number: its time, its place, its replica -/
abbrev Cn := Int × Int × Int
def Vld (c : Cn) : Prop := 0 ≤ c.1 ∧ c.1 ≤ 1099511627776 ∧ 0 ≤ c.2.1 ∧ c.2.1 ≤ 4294967295 ∧ 0 ≤ c.2.2 ∧ c.2.2 < 8
instance (c : Cn) : Decidable (Vld c) := by unfold Vld; exact inferInstance
def vldC (c : Cn) : Bool := decide (Vld c)
theorem vldC_iff (c : Cn) : vldC c = true ↔ Vld c := decide_eq_true_iff
def cmpN (a b : Int) : Int := if a < b then -1 else if b < a then 1 else 0
def cmpC (a b : Cn) : Int := if a.1 ≠ b.1 then cmpN a.1 b.1 else if a.2.1 ≠ b.2.1 then cmpN a.2.1 b.2.1 else cmpN a.2.2 b.2.2
def ltC (a b : Cn) : Prop := a.1 < b.1 ∨ (a.1 = b.1 ∧ (a.2.1 < b.2.1 ∨ (a.2.1 = b.2.1 ∧ a.2.2 < b.2.2)))
instance (a b : Cn) : Decidable (ltC a b) := by unfold ltC; exact inferInstance
theorem cn_ext {a b : Cn} (h1 : a.1 = b.1) (h2 : a.2.1 = b.2.1) (h3 : a.2.2 = b.2.2) : a = b := Prod.ext h1 (Prod.ext h2 h3)
theorem cmpC_cases (a b : Cn) : (ltC a b ∧ cmpC a b = -1) ∨ (ltC b a ∧ cmpC a b = 1) ∨ (a = b ∧ cmpC a b = 0) := by
  obtain ⟨a1, a2, a3⟩ := a
  obtain ⟨b1, b2, b3⟩ := b
  unfold ltC cmpC cmpN
  dsimp only
  by_cases h1 : a1 = b1
  · rw [if_neg (by omega)]
    by_cases h2 : a2 = b2
    · rw [if_neg (by omega)]
      by_cases h3 : a3 < b3
      · rw [if_pos h3]; exact .inl ⟨by omega, rfl⟩
      · rw [if_neg h3]
        by_cases h4 : b3 < a3
        · rw [if_pos h4]; exact .inr (.inl ⟨by omega, rfl⟩)
        · rw [if_neg h4]; exact .inr (.inr ⟨cn_ext h1 h2 (by dsimp only; omega), rfl⟩)
    · rw [if_pos h2]
      by_cases h3 : a2 < b2
      · rw [if_pos h3]; exact .inl ⟨by omega, rfl⟩
      · rw [if_neg h3, if_pos (by omega)]; exact .inr (.inl ⟨by omega, rfl⟩)
  · rw [if_pos h1]
    by_cases h3 : a1 < b1
    · rw [if_pos h3]; exact .inl ⟨by omega, rfl⟩
    · rw [if_neg h3, if_pos (by omega)]; exact .inr (.inl ⟨by omega, rfl⟩)
theorem ltC_irr (a : Cn) : ¬ ltC a a := by unfold ltC; omega
theorem ltC_trans {a b c : Cn} (h : ltC a b) (k : ltC b c) : ltC a c := by unfold ltC at *; omega
theorem ltC_asymm {a b : Cn} (h : ltC a b) : ¬ ltC b a := by unfold ltC at *; omega
theorem ltC_tri {a b : Cn} (h : ¬ ltC a b) (k : ¬ ltC b a) : a = b := by
  unfold ltC at h k
  exact cn_ext (by omega) (by omega) (by omega)
theorem nlt_trans {a b c : Cn} (h : ¬ ltC a b) (k : ¬ ltC b c) : ¬ ltC a c := by unfold ltC at *; omega
theorem cmpC_lt {a b : Cn} : cmpC a b = -1 ↔ ltC a b := by
  rcases cmpC_cases a b with ⟨h, e⟩ | ⟨h, e⟩ | ⟨h, e⟩
  · exact ⟨fun _ => h, fun _ => e⟩
  · exact ⟨fun k => (by rw [e] at k; cases k), fun k => absurd h (ltC_asymm k)⟩
  · exact ⟨fun k => (by rw [e] at k; cases k), fun k => absurd (h ▸ k) (ltC_irr _)⟩
theorem cmpC_gt {a b : Cn} : 0 < cmpC a b ↔ ltC b a := by
  rcases cmpC_cases a b with ⟨h, e⟩ | ⟨h, e⟩ | ⟨h, e⟩
  · rw [e]; exact ⟨fun k => absurd k (by decide), fun k => absurd h (ltC_asymm k)⟩
  · rw [e]; exact ⟨fun _ => h, fun _ => by decide⟩
  · rw [e]; exact ⟨fun k => absurd k (by decide), fun k => absurd (h ▸ k) (ltC_irr _)⟩
theorem cmpC_ge {a b : Cn} : 0 ≤ cmpC a b ↔ ¬ ltC a b := by
  rcases cmpC_cases a b with ⟨h, e⟩ | ⟨h, e⟩ | ⟨h, e⟩
  · rw [e]; exact ⟨fun k => absurd k (by decide), fun k => absurd h k⟩
  · rw [e]; exact ⟨fun _ => ltC_asymm h, fun _ => by decide⟩
  · rw [e]; exact ⟨fun _ k => absurd (h ▸ k) (ltC_irr _), fun _ => by decide⟩
theorem cmpC_eq {a b : Cn} : cmpC a b = 0 ↔ a = b := by
  rcases cmpC_cases a b with ⟨h, e⟩ | ⟨h, e⟩ | ⟨h, e⟩
  · rw [e]; exact ⟨fun k => absurd k (by decide), fun k => absurd h (k ▸ ltC_irr _)⟩
  · rw [e]; exact ⟨fun k => absurd k (by decide), fun k => absurd h (k ▸ ltC_irr _)⟩
  · rw [e]; exact ⟨fun _ => h, fun _ => rfl⟩
theorem cmpC_neg (a b : Cn) : cmpC b a = - cmpC a b := by
  rcases cmpC_cases a b with ⟨h, e⟩ | ⟨h, e⟩ | ⟨h, e⟩ <;> rcases cmpC_cases b a with ⟨k, f⟩ | ⟨k, f⟩ | ⟨k, f⟩ <;> rw [e, f] <;> first | rfl | exact absurd h (ltC_asymm k) | (subst h; exact absurd k (ltC_irr _)) | (subst k; exact absurd h (ltC_irr _))
theorem cmpC_le {a b : Cn} : cmpC a b ≤ 0 ↔ ¬ ltC b a := by
  have := @cmpC_ge b a
  rw [cmpC_neg] at this
  rw [← this]; omega

/-! ### the latest number of a replica; the least vector -/
def laterC (r : Int) (o : Option Cn) (c : Cn) : Option Cn := if c.2.2 = r then (match o with | none => some c | some d => if ltC d c then some c else some d) else o
def bstC (r : Int) (l : List Cn) : Option Cn := l.foldl (laterC r) none
def lstC (l : List Cn) : List Cn := (List.range 8).filterMap fun (k : Nat) => bstC (k : Int) l
theorem bst_snoc (r : Int) (l : List Cn) (c : Cn) : bstC r (l ++ [c]) = laterC r (bstC r l) c := by unfold bstC; rw [List.foldl_append, List.foldl_cons, List.foldl_nil]
/-- what the latest number is -/
def IsBst (r : Int) (l : List Cn) : Option Cn → Prop
  | none => ∀ d ∈ l, d.2.2 ≠ r
  | some c => c ∈ l ∧ c.2.2 = r ∧ ∀ d ∈ l, d.2.2 = r → ¬ ltC c d
theorem later_spec {r : Int} {l : List Cn} {o : Option Cn} (h : IsBst r l o) (c : Cn) : IsBst r (l ++ [c]) (laterC r o c) := by
  unfold laterC
  by_cases e : c.2.2 = r
  · rw [if_pos e]
    cases o with
    | none =>
      refine ⟨by simp, e, fun d hd hr => ?_⟩
      rcases List.mem_append.1 hd with hd | hd
      · exact absurd hr (h d hd)
      · have : d = c := by simpa using hd
        rw [this]; exact ltC_irr _
    | some b =>
      obtain ⟨h1, h2, h3⟩ := h
      by_cases hb : ltC b c
      · simp only [if_pos hb]
        refine ⟨by simp, e, fun d hd hr => ?_⟩
        rcases List.mem_append.1 hd with hd | hd
        · exact nlt_trans (ltC_asymm hb) (h3 d hd hr)
        · have : d = c := by simpa using hd
          rw [this]; exact ltC_irr _
      · simp only [if_neg hb]
        refine ⟨by simp [h1], h2, fun d hd hr => ?_⟩
        rcases List.mem_append.1 hd with hd | hd
        · exact h3 d hd hr
        · have : d = c := by simpa using hd
          rw [this]; exact hb
  · rw [if_neg e]
    cases o with
    | none =>
      intro d hd
      rcases List.mem_append.1 hd with hd | hd
      · exact h d hd
      · have : d = c := by simpa using hd
        rw [this]; exact e
    | some b =>
      obtain ⟨h1, h2, h3⟩ := h
      refine ⟨by simp [h1], h2, fun d hd hr => ?_⟩
      rcases List.mem_append.1 hd with hd | hd
      · exact h3 d hd hr
      · have : d = c := by simpa using hd
        rw [this] at hr; exact absurd hr e
theorem bst_spec (r : Int) (l : List Cn) : IsBst r l (bstC r l) := by
  have key : ∀ (m l : List Cn) (o : Option Cn), IsBst r l o → IsBst r (l ++ m) (m.foldl (laterC r) o) := by
    intro m
    induction m with
    | nil => intro l o h; rw [List.append_nil]; exact h
    | cons c m ih =>
      intro l o h
      have := ih (l ++ [c]) (laterC r o c) (later_spec h c)
      rw [List.append_assoc] at this
      exact this
  have h0 : IsBst r [] none := fun d hd => by cases hd
  exact key l [] none h0
theorem isBst_uniq {r : Int} {l m : List Cn} {o p : Option Cn} (hs : ∀ c, c ∈ l ↔ c ∈ m) (h : IsBst r l o) (k : IsBst r m p) : o = p := by
  cases o with
  | none =>
    cases p with
    | none => rfl
    | some b => exact absurd k.2.1 (h b ((hs b).2 k.1))
  | some a =>
    cases p with
    | none => exact absurd h.2.1 (k a ((hs a).1 h.1))
    | some b => rw [ltC_tri (h.2.2 b ((hs b).2 k.1) k.2.1) (k.2.2 a ((hs a).1 h.1) h.2.1)]
theorem bst_set {r : Int} {l m : List Cn} (hs : ∀ c, c ∈ l ↔ c ∈ m) : bstC r l = bstC r m := isBst_uniq hs (bst_spec r l) (bst_spec r m)
theorem bst_is {r : Int} {l : List Cn} {c : Cn} (h1 : c ∈ l) (h2 : c.2.2 = r) (h3 : ∀ d ∈ l, d.2.2 = r → ¬ ltC c d) : bstC r l = some c := isBst_uniq (fun _ => Iff.rfl) (bst_spec r l) (show IsBst r l (some c) from ⟨h1, h2, h3⟩)
theorem bst_mem {r : Int} {l : List Cn} {c : Cn} (h : bstC r l = some c) : c ∈ l ∧ c.2.2 = r ∧ ∀ d ∈ l, d.2.2 = r → ¬ ltC c d := by
  have := bst_spec r l
  rw [h] at this
  exact this
theorem lst_set {l m : List Cn} (hs : ∀ c, c ∈ l ↔ c ∈ m) : lstC l = lstC m := by
  unfold lstC
  congr 1
  funext k
  exact bst_set hs
theorem mem_lst {l : List Cn} {c : Cn} : c ∈ lstC l ↔ (0 ≤ c.2.2 ∧ c.2.2 < 8) ∧ bstC c.2.2 l = some c := by
  unfold lstC
  rw [List.mem_filterMap]
  constructor
  · rintro ⟨k, hk, h⟩
    have hk := List.mem_range.1 hk
    have hr := (bst_mem h).2.1
    rw [← hr] at h
    exact ⟨by omega, h⟩
  · rintro ⟨hr, h⟩
    refine ⟨c.2.2.toNat, List.mem_range.2 (by omega), ?_⟩
    rw [Int.toNat_of_nonneg hr.1]; exact h
/-- an update vector -/
def VecC (l : List Cn) : Prop := (∀ c ∈ l, Vld c) ∧ l.Pairwise fun a b => a.2.2 < b.2.2
theorem vec_nil : VecC [] := ⟨fun c h => (by cases h), List.Pairwise.nil⟩
theorem vec_one {c : Cn} (h : Vld c) : VecC [c] := ⟨fun d hd => List.mem_singleton.1 hd ▸ h, List.pairwise_singleton _ _⟩
theorem lst_vec {l : List Cn} (h : ∀ c ∈ l, Vld c) : VecC (lstC l) := by
  refine ⟨fun c hc => h c (bst_mem (mem_lst.1 hc).2).1, ?_⟩
  unfold lstC
  rw [List.pairwise_filterMap]
  refine List.Pairwise.imp (R := fun a b => a < b) ?_ List.pairwise_lt_range
  intro a b hab c hc d hd
  have h1 := (bst_mem hc).2.1
  have h2 := (bst_mem hd).2.1
  omega
theorem vec_rep {l : List Cn} (h : VecC l) {a b : Cn} (ha : a ∈ l) (hb : b ∈ l) (e : a.2.2 = b.2.2) : a = b := by
  obtain ⟨i, hi, rfl⟩ := List.mem_iff_getElem.1 ha
  obtain ⟨j, hj, rfl⟩ := List.mem_iff_getElem.1 hb
  have hp := List.pairwise_iff_getElem.1 h.2
  rcases Nat.lt_trichotomy i j with k | k | k
  · have := hp i j hi hj k; omega
  · subst k; rfl
  · have := hp j i hj hi k; omega
theorem vec_uniq : ∀ {l m : List Cn}, VecC l → VecC m → (∀ c, c ∈ l ↔ c ∈ m) → l = m
  | [], [], _, _, _ => rfl
  | [], b :: m, _, _, h => absurd ((h b).2 (by simp)) (by simp)
  | a :: l, [], _, _, h => absurd ((h a).1 (by simp)) (by simp)
  | a :: l, b :: m, hl, hm, h => by
    have la := List.pairwise_cons.1 hl.2
    have lb := List.pairwise_cons.1 hm.2
    have e1 : a.2.2 ≤ b.2.2 := by
      rcases List.mem_cons.1 ((h b).2 (by simp)) with e | hb
      · rw [e]; exact Int.le_refl _
      · have := la.1 b hb; omega
    have e2 : b.2.2 ≤ a.2.2 := by
      rcases List.mem_cons.1 ((h a).1 (by simp)) with e | hb
      · rw [e]; exact Int.le_refl _
      · have := lb.1 a hb; omega
    have e : a = b := vec_rep hm ((h a).1 (by simp)) (by simp) (by omega)
    subst e
    have : l = m := vec_uniq ⟨fun c hc => hl.1 c (by simp [hc]), la.2⟩ ⟨fun c hc => hm.1 c (by simp [hc]), lb.2⟩ fun c => by
      constructor
      · intro hc
        rcases List.mem_cons.1 ((h c).1 (by simp [hc])) with e | k
        · have := la.1 c hc; rw [e] at this; omega
        · exact k
      · intro hc
        rcases List.mem_cons.1 ((h c).2 (by simp [hc])) with e | k
        · have := lb.1 c hc; rw [e] at this; omega
        · exact k
    rw [this]
theorem lst_self {l : List Cn} (h : VecC l) : lstC l = l := by
  refine vec_uniq (lst_vec h.1) h fun c => ?_
  rw [mem_lst]
  constructor
  · intro k; exact (bst_mem k.2).1
  · intro k
    have := h.1 c k
    unfold Vld at this
    exact ⟨by omega, bst_is k rfl fun d hd e => by rw [vec_rep h hd k e]; exact ltC_irr _⟩
/-- putting the least vector in a list's place changes no latest number -/
theorem bst_lst {l : List Cn} (h : ∀ c ∈ l, Vld c) (r : Int) (m : List Cn) : bstC r (lstC l ++ m) = bstC r (l ++ m) := by
  refine isBst_uniq (fun _ => Iff.rfl) (bst_spec r _) (?_ : IsBst r (lstC l ++ m) (bstC r (l ++ m)))
  have hs := bst_spec r (l ++ m)
  cases hb : bstC r (l ++ m) with
  | none =>
    rw [hb] at hs
    intro d hd
    refine hs d ?_
    rcases List.mem_append.1 hd with hd | hd
    · exact List.mem_append.2 (.inl (bst_mem (mem_lst.1 hd).2).1)
    · exact List.mem_append.2 (.inr hd)
  | some c =>
    rw [hb] at hs
    obtain ⟨h1, h2, h3⟩ := hs
    refine ⟨?_, h2, fun d hd hr => h3 d ?_ hr⟩
    · rcases List.mem_append.1 h1 with h1 | h1
      · have hv := h c h1
        unfold Vld at hv
        exact List.mem_append.2 (.inl (mem_lst.2 ⟨by omega, bst_is h1 rfl fun d hd hr => h3 d (by simp [hd]) (hr.trans h2)⟩))
      · exact List.mem_append.2 (.inr h1)
    · rcases List.mem_append.1 hd with hd | hd
      · exact List.mem_append.2 (.inl (bst_mem (mem_lst.1 hd).2).1)
      · exact List.mem_append.2 (.inr hd)
theorem lst_lst {l : List Cn} (h : ∀ c ∈ l, Vld c) (m : List Cn) : lstC (lstC l ++ m) = lstC (l ++ m) := by
  unfold lstC
  congr 1
  funext k
  exact bst_lst h k m
theorem lst_comm (l m : List Cn) : lstC (l ++ m) = lstC (m ++ l) := lst_set fun c => by rw [List.mem_append, List.mem_append]; exact Or.comm
theorem lst_lst2 {l : List Cn} (h : ∀ c ∈ l, Vld c) (m : List Cn) : lstC (m ++ lstC l) = lstC (m ++ l) := by rw [lst_comm, lst_lst h, lst_comm]
/-- what is covered by the least vector is covered by the list -/
theorem cov_lst {l : List Cn} (h : ∀ c ∈ l, Vld c) (d : Cn) : (∃ e ∈ lstC l, e.2.2 = d.2.2 ∧ ¬ ltC e d) ↔ ∃ e ∈ l, e.2.2 = d.2.2 ∧ ¬ ltC e d := by
  constructor
  · rintro ⟨e, he, k⟩
    exact ⟨e, (bst_mem (mem_lst.1 he).2).1, k⟩
  · rintro ⟨e, he, hr, hn⟩
    have hv := h e he
    unfold Vld at hv
    cases hb : bstC d.2.2 l with
    | none =>
      have := bst_spec d.2.2 l
      rw [hb] at this
      exact absurd hr (this e he)
    | some f =>
      obtain ⟨h1, h2, h3⟩ := bst_mem hb
      exact ⟨f, mem_lst.2 ⟨by omega, by rw [h2]; exact hb⟩, h2, nlt_trans (h3 e he hr) hn⟩

/-! ### places -/
def cnA (l : List Cn) (j : Nat) : Cn := l.getD j (0, 0, 0)
theorem cn_get {l : List Cn} {j : Nat} (h : j < l.length) : cnA l j = l[j] := by unfold cnA; rw [List.getD_eq_getElem?_getD, List.getElem?_eq_getElem h]; rfl
theorem cn_mem {l : List Cn} {j : Nat} (h : j < l.length) : cnA l j ∈ l := by rw [cn_get h]; exact List.getElem_mem h
theorem take_cn (l : List Cn) (k : Nat) (h : k < l.length) : l.take (k + 1) = l.take k ++ [cnA l k] := by
  rw [List.take_add_one, List.getElem?_eq_getElem h, cn_get h]; rfl
theorem cns_ext {ps qs : List Cn} (hl : ps.length = qs.length) (h : ∀ j, j < ps.length → cnA ps j = cnA qs j) : ps = qs := by
  apply List.ext_getElem hl
  intro j h1 h2
  have := h j h1
  rwa [cn_get h1, cn_get h2] at this

end Go.Proofs.YtcnhkoijphfibaaDoor
