/-
  Plain functions for passwords and locks: which strings are passwords, the classes of their bytes, whether a string contains another, what locks remember of users. Nothing of the program stands here. No condition.
-/
import Derived.Test.YtclecajbcmmddaaDigMac
import Derived.Test.YtclecajbcmmddaaClkA
import Derived.Test.YtclecajbcmmddaaFoldWord
import Derived.Lib.IndexMore
set_option maxRecDepth 100000
set_option linter.unusedVariables false
set_option linter.unusedSimpArgs false
set_option linter.unnecessarySimpa false
namespace Go.Proofs.Ytclecajbcmmddaa
open Go.PlainAid Go.RowKit

/-- a password -/
def pwB (s : ByteArray) : Bool := decide (8 ≤ s.size) && decide (s.size ≤ 256) && allB cleanP s
theorem pwB_short {s : ByteArray} (h : s.size < 8) : pwB s = false := by unfold pwB; simp [Nat.not_le.2 h]
theorem pwB_long {s : ByteArray} (h : 256 < s.size) : pwB s = false := by unfold pwB; simp [Nat.not_le.2 h]
theorem pwB_bad {s : ByteArray} {k : Nat} (hk : k < s.size) (h : cleanP (bt s k) = false) : pwB s = false := by unfold pwB; rw [allB_false k hk h, Bool.and_false]
theorem pwB_good {s : ByteArray} (h1 : 8 ≤ s.size) (h2 : s.size ≤ 256) (h : ∀ j, j < s.size → cleanP (bt s j) = true) : pwB s = true := by unfold pwB; rw [allB_true h]; simp [h1, h2]
theorem pwB_size {s : ByteArray} (h : pwB s = true) : 8 ≤ s.size ∧ s.size ≤ 256 := by
  unfold pwB at h
  simp only [Bool.and_eq_true, decide_eq_true_eq] at h
  exact h.1
theorem cleanP_yes {c : Int} (h1 : 32 ≤ c) (h2 : c ≤ 126) : cleanP c = true := by unfold cleanP; simp [h1, h2]
theorem cleanP_low {c : Int} (h : c < 32) : cleanP c = false := by unfold cleanP; simp; omega
theorem cleanP_high {c : Int} (h : 126 < c) : cleanP c = false := by unfold cleanP; simp; omega

/-- a salt and a number of rounds -/
def usB (salt : ByteArray) (r : Int) : Bool := wordB salt && decide (1 ≤ r) && decide (r ≤ 64)
/-- a verifier: salt, rounds, hash -/
abbrev Vf := ByteArray × Int × ByteArray
def vfV (v : Vf) : Value := .agg #[.string v.1, .int .i64 v.2.1, .string v.2.2]
def vfZ : Vf := (⟨#[]⟩, 0, ⟨#[]⟩)
def hxB (h : ByteArray) : Bool := decide (rdE h.data.toList = 0)
def valB (v : Vf) : Bool := usB v.1 v.2.1 && hxB v.2.2
def chkB (v : Vf) (p : ByteArray) : Bool := valB v && pwB p && decide (v.2.2 = iterS v.1 p v.2.1)
def mkV (p salt : ByteArray) (r : Int) : Vf := if usB salt r = true then (if pwB p = true then (salt, r, iterS salt p r) else vfZ) else vfZ
def mkE (p salt : ByteArray) (r : Int) : Int := if usB salt r = true then (if pwB p = true then 0 else 4) else 2
def reuB (l : List Vf) (p : ByteArray) : Bool := l.any fun v => chkB v p

/-- the class of a byte -/
def clsI (c : Int) : Int := if 97 ≤ c ∧ c ≤ 122 then 0 else if 65 ≤ c ∧ c ≤ 90 then 1 else if 48 ≤ c ∧ c ≤ 57 then 2 else 3
theorem clsI_bd (c : Int) : 0 ≤ clsI c ∧ clsI c ≤ 3 := by
  unfold clsI
  split
  · omega
  · split
    · omega
    · split <;> omega
/-- a byte of class k among the first n -/
def hasK (s : ByteArray) (k : Int) (n : Nat) : Bool := (List.range n).any fun j => decide (clsI (bt s j) = k)
theorem hasK_zero (s : ByteArray) (k : Int) : hasK s k 0 = false := rfl
theorem hasK_succ (s : ByteArray) (k : Int) (n : Nat) : hasK s k (n + 1) = (hasK s k n || decide (clsI (bt s n) = k)) := by
  unfold hasK; rw [List.range_succ, List.any_append]; simp
/-- how many of the first i classes occur -/
def cntU (s : ByteArray) (i : Nat) : Nat := ((List.range i).filter fun (k : Nat) => hasK s (k : Int) s.size).length
theorem cntU_yes {s : ByteArray} {i : Nat} (h : hasK s (i : Int) s.size = true) : cntU s (i + 1) = cntU s i + 1 := by
  unfold cntU; rw [List.range_succ, List.filter_append, List.length_append]; simp [h]
theorem cntU_no {s : ByteArray} {i : Nat} (h : hasK s (i : Int) s.size = false) : cntU s (i + 1) = cntU s i := by
  unfold cntU; rw [List.range_succ, List.filter_append, List.length_append]; simp [h]
theorem cntU_le (s : ByteArray) (i : Nat) : cntU s i ≤ i := by
  unfold cntU
  exact Nat.le_trans (List.length_filter_le _ _) (by rw [List.length_range]; exact Nat.le_refl _)
def cntK (s : ByteArray) : Nat := cntU s 4
/-- a string contains another -/
def conB (s p : ByteArray) : Bool := Lib.contains s.data.toList p.data.toList
def quE (p u : ByteArray) : Int :=
  if pwB p = true then (if cntK p < 3 then 11 else if 3 ≤ u.size ∧ conB (lowS p) (lowS u) = true then 11 else 0) else 4

/-- what is remembered of a user: the instants of the last failures, the instant before which the user is locked -/
abbrev Rc := List Int × Int
/-- the users who have failures, in the order in which they came -/
abbrev Us := List (ByteArray × Rc)
def usO : Us → ByteArray → Option Rc
  | [], _ => none
  | p :: A, u => if u = p.1 then some p.2 else usO A u
def cntF (win : Int) (l : List Int) (n : Int) : Nat := (l.filter fun t => decide (t ≤ n) && decide (n - t < win)).length
def lastN (l : List Int) : List Int := l.drop (l.length - 256)
def failR (most win lock : Int) (r : Rc) (n : Int) : Rc :=
  (lastN (r.1 ++ [n]), if most ≤ (cntF win (lastN (r.1 ++ [n])) n : Int) ∨ n < r.2 then max r.2 (addI n lock) else r.2)
def usSet (A : Us) (u : ByteArray) (r : Rc) : Us := if (usO A u).isSome then A.map (fun p => if p.1 = u then (p.1, r) else p) else A ++ [(u, r)]
def failA (most win lock : Int) (A : Us) (u : ByteArray) (now : Int) : Us :=
  if wordB u = true then (if (usO A u).isSome = false ∧ 256 ≤ A.length then A else usSet A u (failR most win lock ((usO A u).getD ([], 0)) (limI now))) else A
def clearA (A : Us) (u : ByteArray) : Us := A.filter fun p => decide (p.1 ≠ u)
def lockedA (A : Us) (u : ByteArray) (now : Int) : Bool := decide (limI now < ((usO A u).getD ([], 0)).2)
def failsA (win : Int) (A : Us) (u : ByteArray) (now : Int) : Nat := cntF win ((usO A u).getD ([], 0)).1 (limI now)

theorem usO_none : ∀ {A : Us} {u : ByteArray}, usO A u = none ↔ ∀ p ∈ A, p.1 ≠ u
  | [], u => ⟨fun _ p hp => (by cases hp), fun _ => rfl⟩
  | p :: A, u => by
    unfold usO
    by_cases e : u = p.1
    · rw [if_pos e]
      exact ⟨fun h => (by cases h), fun h => absurd e.symm (h p (by simp))⟩
    · rw [if_neg e, usO_none]
      exact ⟨fun h q hq => by
        rcases List.mem_cons.1 hq with k | k
        · subst k; exact fun k => e k.symm
        · exact h q k, fun h q hq => h q (List.mem_cons_of_mem _ hq)⟩
theorem usO_append : ∀ (A B : Us) (u : ByteArray), usO (A ++ B) u = (usO A u).or (usO B u)
  | [], B, u => rfl
  | p :: A, B, u => by
    show (if u = p.1 then some p.2 else usO (A ++ B) u) = ((if u = p.1 then some p.2 else usO A u)).or (usO B u)
    split
    · rfl
    · exact usO_append A B u
theorem usO_map : ∀ (A : Us) (u v : ByteArray) (r : Rc), usO (A.map fun p => if p.1 = u then (p.1, r) else p) v = if v = u then (usO A v).map (fun _ => r) else usO A v
  | [], u, v, r => by split <;> rfl
  | p :: A, u, v, r => by
    have ih := usO_map A u v r
    rw [List.map_cons]
    unfold usO
    by_cases e1 : p.1 = u
    · rw [if_pos e1]
      by_cases e2 : v = p.1
      · rw [if_pos e2, if_pos (e2.trans e1), if_pos e2]; rfl
      · rw [if_neg e2, if_neg e2]; exact ih
    · rw [if_neg e1]
      by_cases e2 : v = p.1
      · rw [if_pos e2, if_neg (fun k => e1 (e2.symm.trans k)), if_pos e2]
      · rw [if_neg e2, if_neg e2]; exact ih
theorem usO_set (A : Us) (u v : ByteArray) (r : Rc) : usO (usSet A u r) v = if v = u then some r else usO A v := by
  unfold usSet
  cases h : (usO A u).isSome
  · rw [if_neg (by simp)]
    have hn : usO A u = none := by simpa using h
    rw [usO_append]
    by_cases e : v = u
    · subst e; rw [hn, if_pos rfl]; unfold usO; rw [if_pos rfl]; rfl
    · rw [if_neg e]
      have : usO [(u, r)] v = none := usO_none.2 fun p hp => by simp at hp; subst hp; exact fun k => e k.symm
      rw [this, Option.or_none]
  · rw [if_pos rfl, usO_map]
    by_cases e : v = u
    · subst e; rw [if_pos rfl, if_pos rfl]
      obtain ⟨x, hx⟩ := Option.isSome_iff_exists.1 h
      rw [hx]; rfl
    · rw [if_neg e, if_neg e]
theorem usSet_len (A : Us) (u : ByteArray) (r : Rc) : (usSet A u r).length = if (usO A u).isSome then A.length else A.length + 1 := by
  unfold usSet
  cases h : (usO A u).isSome <;> simp
theorem usO_clear : ∀ (A : Us) (u v : ByteArray), usO (clearA A u) v = if v = u then none else usO A v
  | [], u, v => by split <;> rfl
  | p :: A, u, v => by
    have ih := usO_clear A u v
    unfold clearA at ih ⊢
    by_cases e1 : p.1 = u
    · rw [List.filter_cons_of_neg (by simp [e1]), ih]
      by_cases e : v = u
      · rw [if_pos e, if_pos e]
      · rw [if_neg e, if_neg e]
        show _ = if v = p.1 then _ else _
        rw [if_neg (fun k => e (k.trans e1))]
    · rw [List.filter_cons_of_pos (by simpa using e1)]
      show (if v = p.1 then _ else _) = if v = u then none else (if v = p.1 then _ else _)
      by_cases e2 : v = p.1
      · rw [if_pos e2, if_neg (fun k => e1 (e2.symm.trans k)), if_pos e2]
      · rw [if_neg e2, if_neg e2]; exact ih
/-- no user twice -/
def UsN (A : Us) : Prop := (A.map Prod.fst).Nodup
theorem usN_nil : UsN [] := List.nodup_nil
theorem usN_set {A : Us} (h : UsN A) (u : ByteArray) (r : Rc) : UsN (usSet A u r) := by
  unfold usSet
  cases k : (usO A u).isSome
  · rw [if_neg (by simp)]
    unfold UsN at h ⊢
    rw [List.map_append, List.nodup_append]
    refine ⟨h, by simp, fun a ha b hb => ?_⟩
    have hn : usO A u = none := by simpa using k
    obtain ⟨p, hp, rfl⟩ := List.mem_map.1 ha
    simp at hb
    subst hb
    exact usO_none.1 hn p hp
  · rw [if_pos rfl]
    unfold UsN at h ⊢
    rw [List.map_map]
    have : (Prod.fst ∘ fun p : ByteArray × Rc => if p.1 = u then (p.1, r) else p) = Prod.fst := by
      funext p
      simp only [Function.comp]
      split <;> rfl
    rw [this]; exact h
theorem usN_clear {A : Us} (h : UsN A) (u : ByteArray) : UsN (clearA A u) := by
  unfold UsN clearA at *
  exact h.sublist (List.filter_sublist.map _)
theorem clear_len : ∀ {A : Us}, UsN A → ∀ u : ByteArray, (clearA A u).length + (if (usO A u).isSome then 1 else 0) = A.length
  | [], _, u => rfl
  | p :: A, h, u => by
    unfold UsN at h
    rw [List.map_cons, List.nodup_cons] at h
    have ih := clear_len (A := A) h.2 u
    unfold clearA at *
    show _ + (if (if u = p.1 then some p.2 else usO A u).isSome then 1 else 0) = _
    by_cases e : p.1 = u
    · rw [List.filter_cons_of_neg (by simp [e]), if_pos e.symm, List.length_cons]
      have hn : usO A u = none := usO_none.2 fun q hq k => h.1 (List.mem_map.2 ⟨q, hq, by rw [k, e]⟩)
      rw [hn] at ih
      simp at ih ⊢
      exact ih
    · rw [List.filter_cons_of_pos (by simpa using e), List.length_cons, List.length_cons, if_neg (show ¬ u = p.1 from fun k => e k.symm)]
      omega
theorem lastN_len (l : List Int) : (lastN l).length ≤ 256 := by unfold lastN; rw [List.length_drop]; omega
theorem lastN_mem {l : List Int} {t : Int} (h : t ∈ lastN l) : t ∈ l := List.mem_of_mem_drop h
theorem cntF_le (win : Int) (l : List Int) (n : Int) : cntF win l n ≤ l.length := List.length_filter_le _ _
theorem cntF_snoc (win : Int) (l : List Int) (t n : Int) : cntF win (l ++ [t]) n = cntF win l n + (if t ≤ n ∧ n - t < win then 1 else 0) := by
  unfold cntF
  rw [List.filter_append, List.length_append]
  congr 1
  by_cases h : t ≤ n ∧ n - t < win
  · rw [if_pos h]; simp [h.1, h.2]
  · rw [if_neg h]
    have : (decide (t ≤ n) && decide (n - t < win)) = false := by
      rw [Bool.and_eq_false_iff]
      by_cases h1 : t ≤ n
      · exact .inr (by simp; omega)
      · exact .inl (by simp; omega)
    simp [this]

end Go.Proofs.Ytclecajbcmmddaa
