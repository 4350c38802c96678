/-
  Plain calendar: leap years, days of years and months, that every day has exactly one date, and that later days have greater dates. Nothing of the program stands here. No condition.
-/
import Derived.PlainAid
set_option linter.unusedVariables false
set_option linter.unusedSimpArgs false
set_option linter.unnecessarySimpa false
namespace Go.Proofs.YtnncfifpgjlpaabDoor

def leapN (y : Nat) : Bool := decide (y % 4 = 0) && !decide (y % 100 = 0) || decide (y % 400 = 0)
def ylen (y : Nat) : Nat := if leapN y then 366 else 365
/-- days from the beginning of the year 0 to that of year y -/
def dby (y : Nat) : Nat := 365 * y + (y + 3) / 4 - (y + 99) / 100 + (y + 399) / 400
def mtab (m : Nat) : Nat := [31, 28, 31, 30, 31, 30, 31, 31, 30, 31, 30, 31].getD (m - 1) 0
def mlen (y m : Nat) : Nat := if m = 2 ∧ leapN y = true then 29 else mtab m
/-- days of the first k months of year y -/
def cumM (y : Nat) : Nat → Nat
  | 0 => 0
  | k + 1 => cumM y k + mlen y (k + 1)
def numD (y m d : Nat) : Nat := dby y + cumM y (m - 1) + (d - 1)
def okD (y m d : Nat) : Prop := 1 ≤ m ∧ m ≤ 12 ∧ 1 ≤ d ∧ d ≤ mlen y m

theorem dby_succ (y : Nat) : dby (y + 1) = dby y + ylen y := by
  unfold dby ylen leapN
  by_cases h1 : y % 4 = 0
  · by_cases h2 : y % 100 = 0
    · by_cases h3 : y % 400 = 0
      · rw [if_pos (by simp [h3])]; omega
      · rw [if_neg (by simp [h2, h3])]; omega
    · rw [if_pos (by simp [h1, h2])]; omega
  · rw [if_neg (by simp [h1]; omega)]; omega
theorem ylen_le (y : Nat) : 365 ≤ ylen y ∧ ylen y ≤ 366 := by unfold ylen; split <;> omega
theorem dby_mono {a b : Nat} (h : a ≤ b) : dby a ≤ dby b := by
  obtain ⟨k, rfl⟩ : ∃ k, b = a + k := ⟨b - a, by omega⟩
  clear h
  induction k with
  | zero => exact Nat.le_refl _
  | succ k ih => rw [show a + (k + 1) = a + k + 1 from rfl, dby_succ]; omega
theorem dby_ge (y : Nat) : 365 * y ≤ dby y := by unfold dby; omega
theorem dby_1970 : dby 1970 = 719528 := by decide
theorem cum12 (y : Nat) : cumM y 12 = ylen y := by
  unfold ylen
  cases h : leapN y
  · have e : ∀ m, mlen y m = mtab m := fun m => by unfold mlen; rw [if_neg (by simp [h])]
    simp only [cumM, e]; decide
  · have e2 : mlen y 2 = 29 := by unfold mlen; rw [if_pos ⟨rfl, h⟩]
    have e : ∀ m, m ≠ 2 → mlen y m = mtab m := fun m hm => by unfold mlen; rw [if_neg (by simp [hm])]
    simp only [cumM]
    rw [e2, e 1 (by decide), e (2 + 1) (by decide), e (3 + 1) (by decide), e (4 + 1) (by decide), e (5 + 1) (by decide), e (6 + 1) (by decide), e (7 + 1) (by decide), e (8 + 1) (by decide), e (9 + 1) (by decide), e (10 + 1) (by decide), e (11 + 1) (by decide)]
    decide
theorem mtab_bd : ∀ m : Nat, 1 ≤ m → m ≤ 12 → 28 ≤ mtab m ∧ mtab m ≤ 31 := by
  intro m h1 h2
  have : ∀ m : Nat, m < 13 → 1 ≤ m → 28 ≤ mtab m ∧ mtab m ≤ 31 := by decide
  exact this m (by omega) h1
theorem mlen_bd (y m : Nat) (h1 : 1 ≤ m) (h2 : m ≤ 12) : 28 ≤ mlen y m ∧ mlen y m ≤ 31 := by
  unfold mlen
  split
  · omega
  · exact mtab_bd m h1 h2
theorem cum_mono (y : Nat) {a b : Nat} (h : a ≤ b) : cumM y a ≤ cumM y b := by
  obtain ⟨k, rfl⟩ : ∃ k, b = a + k := ⟨b - a, by omega⟩
  clear h
  induction k with
  | zero => exact Nat.le_refl _
  | succ k ih => exact Nat.le_trans ih (Nat.le_add_right _ _)
theorem cum_le (y m : Nat) (h : m ≤ 12) : cumM y m ≤ ylen y := by rw [← cum12]; exact cum_mono y h
/-- a date lies in its month and year -/
theorem num_in {y m d : Nat} (h : okD y m d) : dby y ≤ numD y m d ∧ numD y m d < dby (y + 1) ∧ cumM y (m - 1) ≤ numD y m d - dby y ∧ numD y m d - dby y < cumM y m := by
  obtain ⟨h1, h2, h3, h4⟩ := h
  have e : cumM y m = cumM y (m - 1) + mlen y m := by
    obtain ⟨k, rfl⟩ : ∃ k, m = k + 1 := ⟨m - 1, by omega⟩
    rfl
  have := cum_le y m h2
  have := dby_succ y
  unfold numD
  omega
theorem year_ex : ∀ n : Nat, ∃ y, dby y ≤ n ∧ n < dby (y + 1)
  | 0 => ⟨0, by decide, by decide⟩
  | n + 1 => by
    obtain ⟨y, h1, h2⟩ := year_ex n
    by_cases h : n + 1 < dby (y + 1)
    · exact ⟨y, by omega, h⟩
    · refine ⟨y + 1, by omega, ?_⟩
      have := dby_succ (y + 1)
      have := ylen_le (y + 1)
      omega
theorem month_ex (y : Nat) : ∀ k : Nat, k < ylen y → ∃ m, 1 ≤ m ∧ m ≤ 12 ∧ cumM y (m - 1) ≤ k ∧ k < cumM y m := by
  intro k hk
  have : ∀ j, j ≤ 12 → k < cumM y j → ∃ m, 1 ≤ m ∧ m ≤ j ∧ cumM y (m - 1) ≤ k ∧ k < cumM y m := by
    intro j
    induction j with
    | zero => intro _ h; exact absurd h (Nat.not_lt_zero _)
    | succ j ih =>
      intro hj h
      by_cases h1 : k < cumM y j
      · obtain ⟨m, a, b, c, d⟩ := ih (by omega) h1
        exact ⟨m, a, by omega, c, d⟩
      · exact ⟨j + 1, by omega, Nat.le_refl _, by show cumM y j ≤ k; omega, h⟩
  obtain ⟨m, a, b, c, d⟩ := this 12 (Nat.le_refl _) (by rw [cum12]; exact hk)
  exact ⟨m, a, b, c, d⟩
/-- every day has a date -/
theorem date_ex (n : Nat) : ∃ y m d, okD y m d ∧ numD y m d = n := by
  obtain ⟨y, h1, h2⟩ := year_ex n
  have h3 := dby_succ y
  obtain ⟨m, a, b, c, e⟩ := month_ex y (n - dby y) (by omega)
  have em : cumM y m = cumM y (m - 1) + mlen y m := by
    obtain ⟨k, rfl⟩ : ∃ k, m = k + 1 := ⟨m - 1, by omega⟩
    rfl
  refine ⟨y, m, n - dby y - cumM y (m - 1) + 1, ⟨a, b, by omega, by omega⟩, ?_⟩
  unfold numD
  omega
theorem year_le {y y' n n' : Nat} (h1 : dby y ≤ n) (h2 : n' < dby (y' + 1)) (h : n ≤ n') : y ≤ y' := by
  rcases Nat.lt_or_ge y' y with h3 | h3
  · have := dby_mono (show y' + 1 ≤ y from h3); omega
  · exact h3
theorem month_le {y m m' k k' : Nat} (h1 : cumM y (m - 1) ≤ k) (h2 : k' < cumM y m') (h : k ≤ k') (hm : 1 ≤ m) : m ≤ m' := by
  rcases Nat.lt_or_ge m' m with h3 | h3
  · have := cum_mono y (show m' ≤ m - 1 by omega); omega
  · exact h3
/-- a day has one date -/
theorem date_unique {y m d y' m' d' : Nat} (h : okD y m d) (h' : okD y' m' d') (e : numD y m d = numD y' m' d') : y = y' ∧ m = m' ∧ d = d' := by
  obtain ⟨a1, a2, a3, a4⟩ := num_in h
  obtain ⟨b1, b2, b3, b4⟩ := num_in h'
  have hy : y = y' := Nat.le_antisymm (year_le a1 b2 (by omega)) (year_le b1 a2 (by omega))
  subst hy
  have hm : m = m' := Nat.le_antisymm (month_le a3 b4 (by omega) h.1) (month_le b3 a4 (by omega) h'.1)
  subst hm
  refine ⟨rfl, rfl, ?_⟩
  obtain ⟨_, _, h3, _⟩ := h
  obtain ⟨_, _, h3', _⟩ := h'
  unfold numD at e
  omega
/-- later days have greater dates -/
theorem date_lt {y m d y' m' d' : Nat} (h : okD y m d) (h' : okD y' m' d') (e : numD y m d < numD y' m' d') : y < y' ∨ (y = y' ∧ (m < m' ∨ (m = m' ∧ d < d'))) := by
  obtain ⟨a1, a2, a3, a4⟩ := num_in h
  obtain ⟨b1, b2, b3, b4⟩ := num_in h'
  have hy := year_le a1 b2 (by omega)
  rcases Nat.lt_or_ge y y' with hlt | hge
  · exact .inl hlt
  · have hy : y = y' := by omega
    subst hy
    have hm := month_le a3 b4 (by omega) h.1
    rcases Nat.lt_or_ge m m' with hlt | hge
    · exact .inr ⟨rfl, .inl hlt⟩
    · have hm : m = m' := by omega
      subst hm
      refine .inr ⟨rfl, .inr ⟨rfl, ?_⟩⟩
      obtain ⟨_, _, h3, _⟩ := h
      obtain ⟨_, _, h3', _⟩ := h'
      unfold numD at e
      omega
/-- the years repeat every 400 years -/
theorem leap_400 (y k : Nat) : leapN (y + 400 * k) = leapN y := by
  unfold leapN
  rw [show (y + 400 * k) % 4 = y % 4 by omega, show (y + 400 * k) % 100 = y % 100 by omega, show (y + 400 * k) % 400 = y % 400 by omega]
theorem dby_400 (y k : Nat) : dby (y + 400 * k) = dby y + 146097 * k := by unfold dby; omega

end Go.Proofs.YtnncfifpgjlpaabDoor
