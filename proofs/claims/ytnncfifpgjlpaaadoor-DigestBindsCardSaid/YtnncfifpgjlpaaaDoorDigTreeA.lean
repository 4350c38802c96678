/-
  Plain hash trees: levels, roots, paths, climbing along a path, that a path proves its element, and that two ways that end in one root agree or digest two different strings alike. Nothing of the program stands here. No condition.
-/
import Derived.Test.YtnncfifpgjlpaaaDoorDigRHex
set_option linter.unusedVariables false
set_option linter.unusedSimpArgs false
set_option linter.unnecessarySimpa false
namespace Go.Proofs.YtnncfifpgjlpaaaDoor
open Go.PlainAid

def leafQ (s : ByteArray) : ByteArray := ⟨#[48]⟩ ++ s
def leafS (s : ByteArray) : ByteArray := txtS (leafQ s)
def pairQ (a b : ByteArray) : ByteArray := ⟨#[49]⟩ ++ a ++ b
def pairS (a b : ByteArray) : ByteArray := txtS (pairQ a b)
def upL : List ByteArray → List ByteArray
  | a :: b :: r => pairS a b :: upL r
  | [a] => [a]
  | [] => []
theorem upL_len : ∀ l : List ByteArray, (upL l).length = (l.length + 1) / 2
  | [] => rfl
  | [a] => by simp [upL]
  | a :: b :: r => by
    show (upL r).length + 1 = _
    rw [upL_len r]
    simp only [List.length_cons]; omega
def topL (l : List ByteArray) : ByteArray := if h : l.length ≤ 1 then l.headD ByteArray.empty else topL (upL l)
termination_by l.length
decreasing_by rw [upL_len]; omega
def rootS (l : List ByteArray) : ByteArray := if l = [] then txtS ⟨#[]⟩ else topL (l.map leafS)
/-- the index of the other node of a pair -/
def mate (i : Nat) : Nat := if i % 2 = 0 then i + 1 else i - 1
def pathL (l : List ByteArray) (i : Nat) : List ByteArray :=
  if h : l.length ≤ 1 then [] else (if mate i < l.length then [partAt l (mate i)] else []) ++ pathL (upL l) (i / 2)
termination_by l.length
decreasing_by rw [upL_len]; omega
/-- the string that is digested for the next node -/
def joinQ (node other : ByteArray) (i : Nat) : ByteArray := if i % 2 = 0 then pairQ node other else pairQ other node
/-- the strings that are digested on the way up, unless the path does not fit -/
def climb (node : ByteArray) (i n : Nat) (path : List ByteArray) : Option (List ByteArray) :=
  if h : n ≤ 1 then (if path = [] then some [] else none)
  else if mate i < n then (match path with
    | [] => none
    | p :: r => (climb (txtS (joinQ node p i)) (i / 2) (n / 2 + n % 2) r).map (joinQ node p i :: ·))
  else climb node (i / 2) (n / 2 + n % 2) path
termination_by n
decreasing_by all_goals omega
/-- the node at the top -/
def tipS (node : ByteArray) : List ByteArray → ByteArray
  | [] => node
  | q :: r => tipS (txtS q) r
def stringsO (s : ByteArray) (i n : Int) (path : List ByteArray) : Option (List ByteArray) :=
  if i < 0 ∨ n ≤ i then none else (climb (leafS s) i.toNat n.toNat path).map (leafQ s :: ·)
def provesB (root s : ByteArray) (i n : Int) (path : List ByteArray) : Bool := match stringsO s i n path with
  | none => false
  | some l => decide (tipS root l = root)

theorem tipS_cons (x q : ByteArray) (r : List ByteArray) : tipS x (q :: r) = tipS (txtS q) r := by rw [tipS]
theorem topL_one (l : List ByteArray) (h : l.length ≤ 1) : topL l = l.headD ByteArray.empty := by rw [topL, dif_pos h]
theorem topL_up (l : List ByteArray) (h : ¬ l.length ≤ 1) : topL l = topL (upL l) := by
  conv => lhs; rw [topL]
  rw [dif_neg h]
theorem pathL_one (l : List ByteArray) (i : Nat) (h : l.length ≤ 1) : pathL l i = [] := by rw [pathL, dif_pos h]
theorem pathL_up (l : List ByteArray) (i : Nat) (h : ¬ l.length ≤ 1) : pathL l i = (if mate i < l.length then [partAt l (mate i)] else []) ++ pathL (upL l) (i / 2) := by
  conv => lhs; rw [pathL]
  rw [dif_neg h]
theorem climb_end (node : ByteArray) (i n : Nat) (path : List ByteArray) (h : n ≤ 1) : climb node i n path = if path = [] then some [] else none := by rw [climb.eq_def, dif_pos h]
theorem climb_skip (node : ByteArray) (i n : Nat) (path : List ByteArray) (h : ¬ n ≤ 1) (hm : ¬ mate i < n) : climb node i n path = climb node (i / 2) (n / 2 + n % 2) path := by
  conv => lhs; rw [climb.eq_def]
  rw [dif_neg h, if_neg hm]
theorem climb_none (node : ByteArray) (i n : Nat) (h : ¬ n ≤ 1) (hm : mate i < n) : climb node i n [] = none := by
  rw [climb.eq_def, dif_neg h, if_pos hm]
theorem climb_cons (node p : ByteArray) (r : List ByteArray) (i n : Nat) (h : ¬ n ≤ 1) (hm : mate i < n) :
    climb node i n (p :: r) = (climb (txtS (joinQ node p i)) (i / 2) (n / 2 + n % 2) r).map (joinQ node p i :: ·) := by
  conv => lhs; rw [climb.eq_def]
  rw [dif_neg h, if_pos hm]

theorem partAt_nil (j : Nat) : partAt [] j = ByteArray.empty := rfl
theorem partAt_zero (a : ByteArray) (l : List ByteArray) : partAt (a :: l) 0 = a := rfl
theorem partAt_succ (a : ByteArray) (l : List ByteArray) (j : Nat) : partAt (a :: l) (j + 1) = partAt l j := rfl
/-- the next level, node by node -/
theorem up_at : ∀ (l : List ByteArray) (i : Nat), i < l.length → partAt (upL l) (i / 2) = if mate i < l.length then txtS (joinQ (partAt l i) (partAt l (mate i)) i) else partAt l i
  | [], i, h => absurd h (Nat.not_lt_zero _)
  | [a], i, h => by
    have : i = 0 := by simpa using h
    subst this
    rw [if_neg (by unfold mate; simp)]; rfl
  | a :: b :: r, 0, h => by
    rw [if_pos (by unfold mate; simp)]; rfl
  | a :: b :: r, 1, h => by
    rw [if_pos (by unfold mate; simp)]; rfl
  | a :: b :: r, i + 2, h => by
    have e1 : (i + 2) / 2 = i / 2 + 1 := by omega
    have e2 : mate (i + 2) = mate i + 2 := by unfold mate; split <;> split <;> omega
    have e3 : ∀ x y, joinQ x y (i + 2) = joinQ x y i := fun x y => by unfold joinQ; rw [show (i + 2) % 2 = i % 2 by omega]
    have hi : i < r.length := by simpa using h
    rw [e1, e2, e3]
    show partAt (upL r) (i / 2) = _
    rw [up_at r i hi]
    simp only [List.length_cons, partAt_succ]
    by_cases hm : mate i < r.length
    · rw [if_pos hm, if_pos (by omega)]
    · rw [if_neg hm, if_neg (by omega)]
theorem climb_path : ∀ (m : Nat) (l : List ByteArray) (i : Nat), l.length ≤ m → i < l.length → ∃ L, climb (partAt l i) i l.length (pathL l i) = some L ∧ tipS (partAt l i) L = topL l
  | 0, l, i, hm, hi => by omega
  | m + 1, l, i, hm, hi => by
    by_cases h1 : l.length ≤ 1
    · have hi0 : i = 0 := by omega
      subst hi0
      refine ⟨[], ?_, ?_⟩
      · rw [climb_end _ _ _ _ h1, pathL_one _ _ h1, if_pos rfl]
      · rw [topL_one _ h1]
        cases l with
        | nil => cases hi
        | cons a r => rfl
    · have hlen := upL_len l
      have hlt : i / 2 < (upL l).length := by omega
      have hn : l.length / 2 + l.length % 2 = (upL l).length := by omega
      obtain ⟨L, h2, h3⟩ := climb_path m (upL l) (i / 2) (by omega) hlt
      rw [topL_up l h1, pathL_up l i h1]
      have hu := up_at l i hi
      by_cases hmt : mate i < l.length
      · rw [if_pos hmt] at hu ⊢
        rw [List.singleton_append, climb_cons _ _ _ _ _ h1 hmt, hn, ← hu, h2]
        exact ⟨_, rfl, by show tipS (txtS _) L = _; rw [← hu]; exact h3⟩
      · rw [if_neg hmt] at hu ⊢
        rw [List.nil_append, climb_skip _ _ _ _ h1 hmt, hn, ← hu, h2]
        exact ⟨L, rfl, h3⟩
/-- the path of an element proves it -/
theorem path_proves (l : List ByteArray) (i : Nat) (hi : i < l.length) : provesB (rootS l) (partAt l i) i l.length (pathL (l.map leafS) i) = true := by
  have hl : (l.map leafS).length = l.length := List.length_map _
  have hp : partAt (l.map leafS) i = leafS (partAt l i) := by
    unfold partAt
    rw [List.getD_eq_getElem?_getD, List.getD_eq_getElem?_getD, List.getElem?_map, List.getElem?_eq_getElem hi]; rfl
  obtain ⟨L, h1, h2⟩ := climb_path _ (l.map leafS) i (Nat.le_refl _) (by omega)
  rw [hl, hp] at h1
  rw [hp] at h2
  unfold provesB stringsO
  rw [if_neg (by omega), Int.toNat_natCast, Int.toNat_natCast, h1]
  show decide (tipS (txtS (leafQ (partAt l i))) L = rootS l) = true
  rw [decide_eq_true_iff]
  unfold rootS
  rw [if_neg (by intro e; subst e; cases hi)]
  exact h2

/-- two strings at one place of two ways that differ and have the same digest -/
def Clash (a b : List ByteArray) : Prop := ∃ k, k < a.length ∧ k < b.length ∧ partAt a k ≠ partAt b k ∧ txtS (partAt a k) = txtS (partAt b k)
theorem Clash.cons {a b : List ByteArray} (x y : ByteArray) (h : Clash a b) : Clash (x :: a) (y :: b) := by
  obtain ⟨k, h1, h2, h3, h4⟩ := h
  exact ⟨k + 1, by simpa using h1, by simpa using h2, h3, h4⟩
theorem Clash.head (a b : List ByteArray) {x y : ByteArray} (h : x ≠ y) (e : txtS x = txtS y) : Clash (x :: a) (y :: b) := by
  refine ⟨0, by simp, by simp, ?_, ?_⟩
  · rw [partAt_zero, partAt_zero]; exact h
  · rw [partAt_zero, partAt_zero]; exact e
theorem climb_len : ∀ (m n : Nat) (x y : ByteArray) (i : Nat) (p q : List ByteArray) (a b : List ByteArray), n ≤ m → climb x i n p = some a → climb y i n q = some b → a.length = b.length
  | m, n, x, y, i, p, q, a, b, hm, ha, hb => by
    induction m generalizing n x y i p q a b with
    | zero =>
      rw [climb_end _ _ _ _ (by omega)] at ha hb
      split at ha
      · split at hb
        · cases ha; cases hb; rfl
        · cases hb
      · cases ha
    | succ m ih =>
      by_cases h1 : n ≤ 1
      · rw [climb_end _ _ _ _ h1] at ha hb
        split at ha
        · split at hb
          · cases ha; cases hb; rfl
          · cases hb
        · cases ha
      · by_cases hmt : mate i < n
        · cases p with
          | nil => rw [climb_none _ _ _ h1 hmt] at ha; cases ha
          | cons p0 p =>
            cases q with
            | nil => rw [climb_none _ _ _ h1 hmt] at hb; cases hb
            | cons q0 q =>
              rw [climb_cons _ _ _ _ _ h1 hmt] at ha hb
              obtain ⟨a', ha', rfl⟩ := Option.map_eq_some_iff.1 ha
              obtain ⟨b', hb', rfl⟩ := Option.map_eq_some_iff.1 hb
              have := ih _ _ _ _ _ _ _ _ (show n / 2 + n % 2 ≤ m by omega) ha' hb'
              simp [this]
        · rw [climb_skip _ _ _ _ h1 hmt] at ha hb
          exact ih _ _ _ _ _ _ _ _ (show n / 2 + n % 2 ≤ m by omega) ha hb
theorem app_split {a b c d : ByteArray} (h : a ++ b = c ++ d) (hs : a.size = c.size) : a = c ∧ b = d := by
  have h1 := congrArg (fun x => x.data.toList) h
  simp only [ByteArray.data_append, Array.toList_append] at h1
  have h2 := List.append_inj h1 (by rw [← Lib.size_eq, ← Lib.size_eq, hs])
  exact ⟨ByteArray.ext (Array.toList_inj.1 h2.1), ByteArray.ext (Array.toList_inj.1 h2.2)⟩
theorem app_split' {a b c d : ByteArray} (h : a ++ b = c ++ d) (hs : b.size = d.size) : a = c ∧ b = d := by
  refine app_split h ?_
  have := congrArg ByteArray.size h
  rw [ByteArray.size_append, ByteArray.size_append] at this
  omega
theorem joinQ_inj {x y p q : ByteArray} {i : Nat} (hx : x.size = 16) (hy : y.size = 16) (h : joinQ x p i = joinQ y q i) : x = y := by
  unfold joinQ pairQ at h
  split at h
  · have h1 := (app_split h (by rw [ByteArray.size_append, ByteArray.size_append, hx, hy])).1
    exact (app_split' h1 (by rw [hx, hy])).2
  · exact (app_split' h (by rw [hx, hy])).2
/-- two ways from different nodes to one top clash -/
theorem climb_clash : ∀ (m n : Nat) (x y : ByteArray) (i : Nat) (p q : List ByteArray) (a b : List ByteArray), n ≤ m → x.size = 16 → y.size = 16 → x ≠ y → climb x i n p = some a → climb y i n q = some b → tipS x a = tipS y b → Clash a b := by
  intro m
  induction m with
  | zero =>
    intro n x y i p q a b hm hx hy hne ha hb ht
    rw [climb_end _ _ _ _ (by omega)] at ha hb
    split at ha
    · split at hb
      · cases ha; cases hb; exact absurd ht hne
      · cases hb
    · cases ha
  | succ m ih =>
    intro n x y i p q a b hm hx hy hne ha hb ht
    by_cases h1 : n ≤ 1
    · rw [climb_end _ _ _ _ h1] at ha hb
      split at ha
      · split at hb
        · cases ha; cases hb; exact absurd ht hne
        · cases hb
      · cases ha
    · by_cases hmt : mate i < n
      · cases p with
        | nil => rw [climb_none _ _ _ h1 hmt] at ha; cases ha
        | cons p0 p =>
          cases q with
          | nil => rw [climb_none _ _ _ h1 hmt] at hb; cases hb
          | cons q0 q =>
            rw [climb_cons _ _ _ _ _ h1 hmt] at ha hb
            obtain ⟨a', ha', rfl⟩ := Option.map_eq_some_iff.1 ha
            obtain ⟨b', hb', rfl⟩ := Option.map_eq_some_iff.1 hb
            have hq : joinQ x p0 i ≠ joinQ y q0 i := fun e => hne (joinQ_inj hx hy e)
            by_cases he : txtS (joinQ x p0 i) = txtS (joinQ y q0 i)
            · exact Clash.head _ _ hq he
            · rw [tipS_cons x, tipS_cons y] at ht
              have hu := txtS_size (joinQ x p0 i)
              have hv := txtS_size (joinQ y q0 i)
              exact (ih (n / 2 + n % 2) (txtS (joinQ x p0 i)) (txtS (joinQ y q0 i)) (i / 2) p q a' b' (by omega) hu hv he ha' hb' ht).cons _ _
      · rw [climb_skip _ _ _ _ h1 hmt] at ha hb
        exact ih _ _ _ _ _ _ _ _ (show n / 2 + n % 2 ≤ m by omega) hx hy hne ha hb ht
theorem leafQ_inj {s t : ByteArray} (h : leafQ s = leafQ t) : s = t := by
  unfold leafQ at h
  exact (app_split h rfl).2
/-- what is proved for a root at an index is the element, or two strings clash -/
theorem binds (l : List ByteArray) (s : ByteArray) (i : Nat) (path : List ByteArray) (hi : i < l.length) (hne : s ≠ partAt l i) (hp : provesB (rootS l) s i l.length path = true) :
    ∃ a b, stringsO (partAt l i) i l.length (pathL (l.map leafS) i) = some a ∧ stringsO s i l.length path = some b ∧ a.length = b.length ∧ Clash a b := by
  have hq := path_proves l i hi
  have hst : ∀ t q, stringsO t i l.length q = (climb (leafS t) i l.length q).map (leafQ t :: ·) := fun t q => by
    unfold stringsO
    rw [if_neg (by omega), Int.toNat_natCast, Int.toNat_natCast]
  unfold provesB at hp hq
  rw [hst] at hp hq
  rw [hst, hst]
  cases ha : climb (leafS (partAt l i)) i l.length (pathL (l.map leafS) i) with
  | none => rw [ha] at hq; cases hq
  | some a =>
    cases hb : climb (leafS s) i l.length path with
    | none => rw [hb] at hp; cases hp
    | some b =>
      rw [ha] at hq
      rw [hb] at hp
      have tq : tipS (leafS (partAt l i)) a = rootS l := by
        have := of_decide_eq_true hq
        rw [tipS_cons] at this; exact this
      have tp : tipS (leafS s) b = rootS l := by
        have := of_decide_eq_true hp
        rw [tipS_cons] at this; exact this
      refine ⟨_, _, rfl, rfl, by simp [climb_len _ _ _ _ _ _ _ _ _ (Nat.le_refl _) ha hb], ?_⟩
      have hl : leafQ (partAt l i) ≠ leafQ s := fun e => hne (leafQ_inj e).symm
      by_cases he : leafS (partAt l i) = leafS s
      · exact Clash.head _ _ hl he
      · have hu : (leafS (partAt l i)).size = 16 := txtS_size (leafQ (partAt l i))
        have hv : (leafS s).size = 16 := txtS_size (leafQ s)
        exact (climb_clash l.length l.length (leafS (partAt l i)) (leafS s) i _ path a b (Nat.le_refl _) hu hv he ha hb (by rw [tq, tp])).cons _ _

end Go.Proofs.YtnncfifpgjlpaaaDoor
