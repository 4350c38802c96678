/-
  Plain functions for registers: what a register holds, what Use, Seen and Purge answer and leave; what the laws say of them. Nothing of the program stands here. No condition.
-/
import Derived.Test.YteoaekjhicphlaaClkA
import Derived.Test.YteoaekjhicphlaaFoldWord
set_option linter.unusedVariables false
set_option linter.unusedSimpArgs false
set_option linter.unnecessarySimpa false
namespace Go.Proofs.Yteoaekjhicphlaa
open Go.PlainAid Go.RowKit

def MT : Int := 1099511627776
/-- what a register holds, in the order in which it came -/
abbrev Ol := List (ByteArray × Int)
def olO : Ol → ByteArray → Option Int
  | [], _ => none
  | p :: A, u => if u = p.1 then some p.2 else olO A u
def olSet (A : Ol) (u : ByteArray) (r : Int) : Ol := if (olO A u).isSome then A.map (fun p => if p.1 = u then (p.1, r) else p) else A ++ [(u, r)]
def olDel (A : Ol) (u : ByteArray) : Ol := A.filter fun p => decide (p.1 ≠ u)
/-- what is left at the instant n -/
def purA (A : Ol) (n : Int) : Ol := A.filter fun p => decide (n < p.2)
def atA (A : Ol) (u : ByteArray) : Int := (olO A u).getD 0
/-- Use of u until t at n -/
def useP (most : Int) (A : Ol) (u : ByteArray) (t n : Int) : Int × Ol :=
  if wordB u = false then (5, A) else if t ≤ n then (13, A) else
  if n < atA A u then (18, A) else if (olO A u).isSome = true then (0, olSet A u t) else
  if (A.length : Int) < most then (0, olSet A u t) else if ((purA A n).length : Int) < most then (0, olSet (purA A n) u t) else (3, purA A n)

theorem olO_none : ∀ {A : Ol} {u : ByteArray}, olO A u = none ↔ ∀ p ∈ A, p.1 ≠ u
  | [], u => ⟨fun _ p hp => (by cases hp), fun _ => rfl⟩
  | p :: A, u => by
    unfold olO
    by_cases e : u = p.1
    · rw [if_pos e]
      exact ⟨fun h => (by cases h), fun h => absurd e.symm (h p (by simp))⟩
    · rw [if_neg e, olO_none]
      exact ⟨fun h q hq => by
        rcases List.mem_cons.1 hq with k | k
        · subst k; exact fun k => e k.symm
        · exact h q k, fun h q hq => h q (List.mem_cons_of_mem _ hq)⟩
theorem olO_append : ∀ (A B : Ol) (u : ByteArray), olO (A ++ B) u = (olO A u).or (olO B u)
  | [], B, u => rfl
  | p :: A, B, u => by
    show (if u = p.1 then some p.2 else olO (A ++ B) u) = ((if u = p.1 then some p.2 else olO A u)).or (olO B u)
    split
    · rfl
    · exact olO_append A B u
theorem olO_map : ∀ (A : Ol) (u v : ByteArray) (r : Int), olO (A.map fun p => if p.1 = u then (p.1, r) else p) v = if v = u then (olO A v).map (fun _ => r) else olO A v
  | [], u, v, r => by split <;> rfl
  | p :: A, u, v, r => by
    have ih := olO_map A u v r
    rw [List.map_cons]
    unfold olO
    by_cases e1 : p.1 = u
    · rw [if_pos e1]
      by_cases e2 : v = p.1
      · rw [if_pos e2, if_pos (e2.trans e1), if_pos e2]; rfl
      · rw [if_neg e2, if_neg e2]; exact ih
    · rw [if_neg e1]
      by_cases e2 : v = p.1
      · rw [if_pos e2, if_neg (fun k => e1 (e2.symm.trans k)), if_pos e2]
      · rw [if_neg e2, if_neg e2]; exact ih
theorem olO_set (A : Ol) (u v : ByteArray) (r : Int) : olO (olSet A u r) v = if v = u then some r else olO A v := by
  unfold olSet
  cases h : (olO A u).isSome
  · rw [if_neg (by simp)]
    have hn : olO A u = none := by simpa using h
    rw [olO_append]
    by_cases e : v = u
    · subst e; rw [hn, if_pos rfl]; unfold olO; rw [if_pos rfl]; rfl
    · rw [if_neg e]
      have : olO [(u, r)] v = none := olO_none.2 fun p hp => by simp at hp; subst hp; exact fun k => e k.symm
      rw [this, Option.or_none]
  · rw [if_pos rfl, olO_map]
    by_cases e : v = u
    · subst e; rw [if_pos rfl, if_pos rfl]
      obtain ⟨x, hx⟩ := Option.isSome_iff_exists.1 h
      rw [hx]; rfl
    · rw [if_neg e, if_neg e]
theorem olSet_len (A : Ol) (u : ByteArray) (r : Int) : (olSet A u r).length = if (olO A u).isSome then A.length else A.length + 1 := by
  unfold olSet
  cases h : (olO A u).isSome <;> simp
theorem olO_del : ∀ (A : Ol) (u v : ByteArray), olO (olDel A u) v = if v = u then none else olO A v
  | [], u, v => by split <;> rfl
  | p :: A, u, v => by
    have ih := olO_del A u v
    unfold olDel at ih ⊢
    by_cases e1 : p.1 = u
    · rw [List.filter_cons_of_neg (by simp [e1]), ih]
      by_cases e : v = u
      · rw [if_pos e, if_pos e]
      · rw [if_neg e, if_neg e]
        show _ = if v = p.1 then _ else _
        rw [if_neg (fun k => e (k.trans e1))]
    · rw [List.filter_cons_of_pos (by simpa using e1)]
      show (if v = p.1 then _ else _) = if v = u then none else (if v = p.1 then _ else _)
      by_cases e2 : v = p.1
      · rw [if_pos e2, if_neg (fun k => e1 (e2.symm.trans k)), if_pos e2]
      · rw [if_neg e2, if_neg e2]; exact ih
/-- no key twice -/
def OlN (A : Ol) : Prop := (A.map Prod.fst).Nodup
theorem olN_set {A : Ol} (h : OlN A) (u : ByteArray) (r : Int) : OlN (olSet A u r) := by
  unfold olSet
  cases k : (olO A u).isSome
  · rw [if_neg (by simp)]
    unfold OlN at h ⊢
    rw [List.map_append, List.nodup_append]
    refine ⟨h, by simp, fun a ha b hb => ?_⟩
    have hn : olO A u = none := by simpa using k
    obtain ⟨p, hp, rfl⟩ := List.mem_map.1 ha
    simp at hb
    subst hb
    exact olO_none.1 hn p hp
  · rw [if_pos rfl]
    unfold OlN at h ⊢
    rw [List.map_map]
    have : (Prod.fst ∘ fun p : ByteArray × Int => if p.1 = u then (p.1, r) else p) = Prod.fst := by
      funext p
      simp only [Function.comp]
      split <;> rfl
    rw [this]; exact h
theorem olN_filter {A : Ol} (h : OlN A) (q : ByteArray × Int → Bool) : OlN (A.filter q) := by
  unfold OlN at *
  exact h.sublist (List.filter_sublist.map _)
theorem del_len : ∀ {A : Ol}, OlN A → ∀ u : ByteArray, (olDel A u).length + (if (olO A u).isSome then 1 else 0) = A.length
  | [], _, u => rfl
  | p :: A, h, u => by
    unfold OlN at h
    rw [List.map_cons, List.nodup_cons] at h
    have ih := del_len (A := A) h.2 u
    unfold olDel at *
    show _ + (if (if u = p.1 then some p.2 else olO A u).isSome then 1 else 0) = _
    by_cases e : p.1 = u
    · rw [List.filter_cons_of_neg (by simp [e]), if_pos e.symm, List.length_cons]
      have hn : olO A u = none := olO_none.2 fun q hq k => h.1 (List.mem_map.2 ⟨q, hq, by rw [k, e]⟩)
      rw [hn] at ih
      simp at ih ⊢
      exact ih
    · rw [List.filter_cons_of_pos (by simpa using e), List.length_cons, List.length_cons, if_neg (show ¬ u = p.1 from fun k => e k.symm)]
      omega
theorem olO_mem : ∀ {A : Ol} {u : ByteArray} {z : Int}, olO A u = some z → (u, z) ∈ A
  | [], u, z, h => by cases h
  | p :: A, u, z, h => by
    unfold olO at h
    by_cases e : u = p.1
    · rw [if_pos e] at h
      injection h with h
      rw [e, ← h]; exact List.mem_cons_self
    · rw [if_neg e] at h
      exact List.mem_cons_of_mem _ (olO_mem h)
theorem olO_of_mem : ∀ {A : Ol}, OlN A → ∀ {u : ByteArray} {z : Int}, (u, z) ∈ A → olO A u = some z
  | [], _, u, z, h => by cases h
  | p :: A, hn, u, z, h => by
    unfold OlN at hn
    rw [List.map_cons, List.nodup_cons] at hn
    unfold olO
    rcases List.mem_cons.1 h with e | e
    · rw [← e, if_pos rfl]
    · rw [if_neg fun q => hn.1 (List.mem_map.2 ⟨_, e, q⟩)]
      exact olO_of_mem hn.2 e
/-- what a filter leaves -/
theorem olO_filter {A : Ol} (h : OlN A) (q : ByteArray × Int → Bool) (u : ByteArray) : olO (A.filter q) u = (olO A u).filter fun z => q (u, z) := by
  cases k : olO A u with
  | none =>
    rw [Option.filter_none, olO_none]
    intro p hp
    exact olO_none.1 k p (List.mem_filter.1 hp).1
  | some z =>
    have hm := olO_mem k
    cases hq : q (u, z) with
    | true => rw [Option.filter_some, if_pos (by simpa using hq)]; exact olO_of_mem (olN_filter h q) (List.mem_filter.2 ⟨hm, hq⟩)
    | false =>
      rw [Option.filter_some, if_neg (by simp [hq]), olO_none]
      intro p hp e
      obtain ⟨h1, h2⟩ := List.mem_filter.1 hp
      have : p = (u, z) := by
        have h3 : olO A u = some p.2 := olO_of_mem h (by rw [← e]; exact h1)
        rw [k] at h3
        injection h3 with h3
        cases p; simp only at e h3; rw [e, h3]
      rw [this, hq] at h2; cases h2
theorem olO_pur {A : Ol} (h : OlN A) (n : Int) (u : ByteArray) : olO (purA A n) u = (olO A u).filter fun z => decide (n < z) := olO_filter h _ u
/-- a register within its bounds -/
structure OlOk (most : Int) (A : Ol) : Prop where
  nod : OlN A
  len : (A.length : Int) ≤ most
  bd : ∀ p ∈ A, 0 < p.2 ∧ p.2 ≤ MT ∧ wordB p.1 = true
theorem olOk_nil {most : Int} (h : 0 ≤ most) : OlOk most [] := ⟨List.nodup_nil, by simpa using h, fun p hp => by cases hp⟩
theorem OlOk.filter {most : Int} {A : Ol} (h : OlOk most A) (q : ByteArray × Int → Bool) : OlOk most (A.filter q) :=
  ⟨olN_filter h.nod q, by have := h.len; have := List.length_filter_le q A; omega, fun p hp => h.bd p (List.mem_filter.1 hp).1⟩
theorem OlOk.pur {most : Int} {A : Ol} (h : OlOk most A) (n : Int) : OlOk most (purA A n) := h.filter _
theorem mem_set {A : Ol} {u : ByteArray} {t : Int} {p : ByteArray × Int} (h : p ∈ olSet A u t) : p ∈ A ∨ p = (u, t) := by
  unfold olSet at h
  split at h
  · obtain ⟨q, hq, rfl⟩ := List.mem_map.1 h
    by_cases e : q.1 = u
    · rw [if_pos e, e]; exact .inr rfl
    · rw [if_neg e]; exact .inl hq
  · rcases List.mem_append.1 h with h | h
    · exact .inl h
    · exact .inr (by simpa using h)
theorem OlOk.set {most : Int} {A : Ol} (h : OlOk most A) {u : ByteArray} {t : Int} (hw : wordB u = true) (h0 : 0 < t) (h1 : t ≤ MT) (hl : (olO A u).isSome = true ∨ (A.length : Int) < most) : OlOk most (olSet A u t) := by
  refine ⟨olN_set h.nod u t, ?_, fun p hp => ?_⟩
  · rw [olSet_len]
    have := h.len
    split
    · exact this
    · rename_i h2
      rcases hl with h3 | h3
      · exact absurd h3 h2
      · omega
  · rcases mem_set hp with h2 | h2
    · exact h.bd p h2
    · subst h2; exact ⟨h0, h1, hw⟩
theorem OlOk.use {most : Int} {A : Ol} (h : OlOk most A) (u : ByteArray) {t n : Int} (h0 : 0 ≤ n) (h1 : t ≤ MT) : OlOk most (useP most A u t n).2 := by
  unfold useP
  split
  · exact h
  rename_i hw
  have hw : wordB u = true := by simpa using hw
  split
  · exact h
  rename_i ht
  split
  · exact h
  split
  · rename_i hs
    exact h.set hw (by omega) h1 (.inl hs)
  split
  · rename_i hl
    exact h.set hw (by omega) h1 (.inr hl)
  split
  · rename_i hl
    exact (h.pur n).set hw (by omega) h1 (.inr hl)
  · exact h.pur n
theorem atA_pur {A : Ol} (h : OlN A) (n : Int) (u : ByteArray) (h0 : 0 ≤ n) : (n < atA (purA A n) u) ↔ n < atA A u := by
  unfold atA
  rw [olO_pur h]
  cases olO A u with
  | none => simp
  | some z =>
    rw [Option.filter_some]
    by_cases q : n < z
    · simp [q]
    · simp [q]; omega
theorem atA_pur_later {A : Ol} (h : OlN A) {n z : Int} {u : ByteArray} (hz : olO A u = some z) (hn : n < z) : olO (purA A n) u = some z := by
  rw [olO_pur h, hz, Option.filter_some, if_pos (by simpa using hn)]
theorem olO_at {A : Ol} {u : ByteArray} {z : Int} (h : olO A u = some z) : atA A u = z := by unfold atA; rw [h]; rfl
/-- a use of another identifier, or of the same before its end, leaves it -/
theorem use_keeps {most : Int} {A : Ol} (h : OlOk most A) {u v : ByteArray} {z t n : Int} (hz : olO A u = some z) (hn : n < z) : olO (useP most A v t n).2 u = some z ∧ (u = v → (useP most A v t n).1 ≠ 0) := by
  by_cases e : u = v
  · subst e
    have hat := olO_at hz
    unfold useP
    split
    · exact ⟨hz, fun _ => by simp⟩
    split
    · exact ⟨hz, fun _ => by simp⟩
    rw [hat, if_pos hn]
    exact ⟨hz, fun _ => by simp⟩
  · refine ⟨?_, fun q => absurd q e⟩
    have hs : ∀ (B : Ol) (r : Int), olO B u = some z → olO (olSet B v r) u = some z := fun B r hB => by rw [olO_set, if_neg e]; exact hB
    have hp := atA_pur_later h.nod hz hn
    unfold useP
    split
    · exact hz
    split
    · exact hz
    split
    · exact hz
    split
    · exact hs _ _ hz
    split
    · exact hs _ _ hz
    split
    · exact hs _ _ hp
    · exact hp
/-- a use that was accepted -/
theorem use_done {most : Int} {A : Ol} {u : ByteArray} {t n : Int} (h : (useP most A u t n).1 = 0) : wordB u = true ∧ n < t ∧ olO (useP most A u t n).2 u = some t := by
  have hs : ∀ B : Ol, olO (olSet B u t) u = some t := fun B => by rw [olO_set, if_pos rfl]
  unfold useP at h ⊢
  by_cases c1 : wordB u = false
  · rw [if_pos c1] at h; exact absurd h (by simp)
  rw [if_neg c1] at h ⊢
  by_cases c2 : t ≤ n
  · rw [if_pos c2] at h; exact absurd h (by simp)
  rw [if_neg c2] at h ⊢
  refine ⟨by simpa using c1, by omega, ?_⟩
  by_cases c3 : n < atA A u
  · rw [if_pos c3] at h; exact absurd h (by simp)
  rw [if_neg c3] at h ⊢
  by_cases c4 : (olO A u).isSome = true
  · rw [if_pos c4]; exact hs _
  rw [if_neg c4] at h ⊢
  by_cases c5 : (A.length : Int) < most
  · rw [if_pos c5]; exact hs _
  rw [if_neg c5] at h ⊢
  by_cases c6 : ((purA A n).length : Int) < most
  · rw [if_pos c6]; exact hs _
  rw [if_neg c6] at h; exact absurd h (by simp)
theorem use_replay {most : Int} {A : Ol} {u : ByteArray} {z t n : Int} (hw : wordB u = true) (hz : olO A u = some z) (hn : n < z) (ht : n < t) : useP most A u t n = (18, A) := by
  unfold useP
  rw [if_neg (by simp [hw]), if_neg (by omega), olO_at hz, if_pos hn]
theorem pur_pur (A : Ol) (n : Int) : purA (purA A n) n = purA A n := by
  unfold purA; rw [List.filter_filter]; simp
/-- Use behind Purge at the same instant -/
theorem use_pur {most : Int} {A : Ol} (h : OlOk most A) (u : ByteArray) (t n : Int) (h0 : 0 ≤ n) : (useP most (purA A n) u t n).1 = (useP most A u t n).1 ∧ ((n < atA (useP most (purA A n) u t n).2 u) ↔ n < atA (useP most A u t n).2 u) := by
  have hp := atA_pur h.nod n u h0
  have hpp := pur_pur A n
  have hlen : (purA A n).length ≤ A.length := List.length_filter_le _ _
  have hs : ∀ B : Ol, atA (olSet B u t) u = t := fun B => olO_at (by rw [olO_set, if_pos rfl])
  unfold useP
  by_cases c1 : wordB u = false
  · rw [if_pos c1, if_pos c1]; exact ⟨rfl, hp⟩
  rw [if_neg c1, if_neg c1]
  by_cases c2 : t ≤ n
  · rw [if_pos c2, if_pos c2]; exact ⟨rfl, hp⟩
  rw [if_neg c2, if_neg c2]
  by_cases c3 : n < atA A u
  · rw [if_pos c3, if_pos (hp.2 c3)]; exact ⟨rfl, hp⟩
  rw [if_neg c3, if_neg (fun q => c3 (hp.1 q))]
  have hnone : olO (purA A n) u = none := by
    rw [olO_pur h.nod]
    cases q : olO A u with
    | none => rfl
    | some z =>
      have := olO_at q
      rw [Option.filter_some, if_neg (by simp; omega)]
  rw [hnone, hpp, if_neg (show ¬ (none : Option Int).isSome = true by simp)]
  by_cases c4 : (olO A u).isSome = true
  · rw [if_pos c4]
    have hlt : (purA A n).length < A.length := by
      obtain ⟨z, hz⟩ := Option.isSome_iff_exists.1 c4
      have hm := olO_mem hz
      have hat := olO_at hz
      unfold purA
      rcases Nat.lt_or_ge (A.filter fun p => decide (n < p.2)).length A.length with q | q
      · exact q
      · have := List.filter_eq_self.1 (List.filter_sublist.eq_of_length_le q) _ hm
        simp at this; omega
    have := h.len
    rw [if_pos (by omega)]
    exact ⟨rfl, by rw [hs, hs]⟩
  rw [if_neg c4]
  by_cases c5 : (A.length : Int) < most
  · rw [if_pos c5, if_pos (by omega)]; exact ⟨rfl, by rw [hs, hs]⟩
  rw [if_neg c5]
  by_cases c6 : ((purA A n).length : Int) < most
  · rw [if_pos c6, if_pos c6]; exact ⟨rfl, by rw [hs]⟩
  · rw [if_neg c6]
    exact ⟨rfl, Iff.rfl⟩
/-- a use changes nothing for others -/
theorem use_apart {most : Int} {A : Ol} (h : OlOk most A) {u v : ByteArray} (t n : Int) (h0 : 0 ≤ n) (e : v ≠ u) : (n < atA (useP most A u t n).2 v) ↔ n < atA A v := by
  have hp := atA_pur h.nod n v h0
  have hs : ∀ B : Ol, atA (olSet B u t) v = atA B v := fun B => by unfold atA; rw [olO_set, if_neg e]
  unfold useP
  split
  · exact Iff.rfl
  split
  · exact Iff.rfl
  split
  · exact Iff.rfl
  split
  · rw [hs]
  split
  · rw [hs]
  split
  · rw [hs]; exact hp
  · exact hp
theorem at_word {most : Int} {A : Ol} (h : OlOk most A) {u : ByteArray} {n : Int} (h0 : 0 ≤ n) (hn : n < atA A u) : wordB u = true := by
  unfold atA at hn
  cases k : olO A u with
  | none => rw [k] at hn; simp at hn; omega
  | some z => exact (h.bd _ (olO_mem k)).2.2
/-- the code of errors is one of these -/
theorem use_noword {most : Int} {A : Ol} {u : ByteArray} (h : wordB u = false) (t n : Int) : useP most A u t n = (5, A) := by unfold useP; rw [if_pos h]
end Go.Proofs.Yteoaekjhicphlaa
