/-
  Contracts of clock's limited, between, Valid, Add, Sub, In, Check, empty, Common, and of the specification's. No condition beyond that ints are ints.
-/
import Derived.Test.YtnncfifpgjlpaabDoorWinA
import Derived.Test.YtnncfifpgjlpaabDoorBaseLow
import Derived.Deep.QuietTactic
import Derived.BigQuiet
import Derived.Lib.MinMax
set_option linter.unusedVariables false
set_option linter.unusedSimpArgs false
set_option linter.unnecessarySimpa false
namespace Go.Proofs.YtnncfifpgjlpaabDoor
open Go.RowKit Go.PlainAid

def I64 (n : Int) : Prop := -9223372036854775808 ≤ n ∧ n ≤ 9223372036854775807
def limI (t : Int) : Int := min (max t 0) 1099511627776
theorem limI_bd (t : Int) : 0 ≤ limI t ∧ limI t ≤ 1099511627776 := by unfold limI; omega
def validB (t : Int) : Bool := decide (0 ≤ t) && decide (t ≤ 1099511627776)
def addI (t d : Int) : Int := limI (limI t + limI d)
def subI (a b : Int) : Int := limI a - limI b
def inW (a b t : Int) : Bool := decide (a ≤ limI t) && decide (limI t < b)
def skewI (s : Int) : Int := min (max s 0) 600
def checkI (a b t s : Int) : Int := if b < a then 2 else if limI t + skewI s < a then 14 else if b ≤ limI t - skewI s then 13 else 0
/-- a window as a value -/
def winV (w : Wn) : Value := .agg #[.int .i64 w.1, .int .i64 w.2]

theorem between_s (n a b : Int) (w : World) :
    Calls Tryd.prog 32 #[.int .i64 n, .int .i64 a, .int .i64 b] w fun e w' => e = .returned (.int .i64 (min (max n a) b)) ∧ w = w' := by
  obtain ⟨x, hx⟩ : ∃ x, max n a = x := ⟨_, rfl⟩
  obtain ⟨y, hy⟩ : ∃ y, min x b = y := ⟨_, rfl⟩
  rw [hx, hy]
  go_enter Tryd.func32, Tryd.ntmps32
  go_wp2
  go_ret
  exact ⟨rfl, rfl⟩
theorem limited_s (t : Int) (w : World) :
    Calls Tryd.prog 30 #[.int .i64 t] w fun e w' => e = .returned (.int .i64 (limI t)) ∧ w = w' := by
  go_enter Tryd.func30, Tryd.ntmps30
  go_wp2_with (go_at_call 32; refine (between_s _ _ _ _).mono ?_; rintro e w' ⟨rfl, rfl⟩)
  go_ret
  exact ⟨rfl, rfl⟩
theorem limited_k (t x : Int) (w : World) (h : limI t = x) :
    Calls Tryd.prog 30 #[.int .i64 t] w fun e w' => e = .returned (.int .i64 x) ∧ w = w' := by subst h; exact limited_s t w
theorem limit_s (t : Int) (w : World) :
    Calls Tryd.prog 31 #[.int .i64 t] w fun e w' => e = .returned (.int .i64 (limI t)) ∧ w = w' := by
  obtain ⟨x, hx⟩ : ∃ x, min t 1099511627776 = x := ⟨_, rfl⟩
  obtain ⟨y, hy⟩ : ∃ y, max 0 x = y := ⟨_, rfl⟩
  have HE := Lib.hid (show y = limI t by rw [← hy, ← hx]; unfold limI; omega)
  go_enter Tryd.func31, Tryd.ntmps31
  go_wp2
  go_ret
  exact ⟨by rw [← HE.out]; rfl, rfl⟩
theorem limit_k (t x : Int) (w : World) (h : limI t = x) :
    Calls Tryd.prog 31 #[.int .i64 t] w fun e w' => e = .returned (.int .i64 x) ∧ w = w' := by subst h; exact limit_s t w

theorem valid_s (t : Int) (w : World) :
    Calls Tryd.prog 10 #[.int .i64 t] w fun e w' => e = .returned (.bool (validB t)) ∧ w = w' := by
  obtain ⟨x, hx⟩ : ∃ x, limI t = x := ⟨_, rfl⟩
  have HE := Lib.hid (show (t == x) = validB t by
    unfold validB; rw [Bool.eq_iff_iff, beq_iff_eq, ← hx]; simp; unfold limI; omega)
  go_enter Tryd.func10, Tryd.ntmps10
  go_wp2_with (go_at_call 30; refine (limited_k _ x _ hx).mono ?_; rintro e w' ⟨rfl, rfl⟩)
  go_ret
  exact ⟨by rw [← HE.out]; rfl, rfl⟩
theorem rvalid_s (t : Int) (w : World) :
    Calls Tryd.prog 11 #[.int .i64 t] w fun e w' => e = .returned (.bool (validB t)) ∧ w = w' := by
  have HE := Lib.hid (show (decide (0 ≤ t) && decide (t ≤ 1099511627776)) = validB t from rfl)
  by_cases h0 : 0 ≤ t
  · by_cases h1 : t ≤ 1099511627776
    · have HX := Lib.hid (show validB t = true by rw [← HE.out, decide_eq_true h0, decide_eq_true h1]; rfl)
      go_enter Tryd.func11, Tryd.ntmps11
      go_wp2
      go_ret
      exact ⟨by rw [HX.out]; rfl, rfl⟩
    · have HX := Lib.hid (show validB t = false by rw [← HE.out, decide_eq_false h1, Bool.and_false])
      have d1 := decide_eq_false h1
      go_enter Tryd.func11, Tryd.ntmps11
      go_wp2
      go_ret
      exact ⟨by rw [HX.out]; rfl, rfl⟩
  · have HX := Lib.hid (show validB t = false by rw [← HE.out, decide_eq_false h0, Bool.false_and])
    have d1 := decide_eq_false h0
    go_enter Tryd.func11, Tryd.ntmps11
    go_wp2
    go_ret
    exact ⟨by rw [HX.out]; rfl, rfl⟩
theorem add_s (t d : Int) (w : World) :
    Calls Tryd.prog 12 #[.int .i64 t, .int .i64 d] w fun e w' => e = .returned (.int .i64 (addI t d)) ∧ w = w' := by
  obtain ⟨x, hx⟩ : ∃ x, limI t = x := ⟨_, rfl⟩
  obtain ⟨y, hy⟩ : ∃ x, limI d = x := ⟨_, rfl⟩
  have b1 := limI_bd t
  have b2 := limI_bd d
  rw [hx] at b1
  rw [hy] at b2
  obtain ⟨b1, b1'⟩ := b1
  obtain ⟨b2, b2'⟩ := b2
  have HE := Lib.hid (show limI (x + y) = addI t d by unfold addI; rw [hx, hy])
  have HX := Lib.hid hx; clear hx
  have HY := Lib.hid hy; clear hy
  go_enter Tryd.func12, Tryd.ntmps12
  go_wp2_with fail
  refine (limited_k _ x _ HX.out).mono ?_
  rintro e w' ⟨rfl, rfl⟩
  go_wp2_with fail
  refine (limited_k _ y _ HY.out).mono ?_
  rintro e w' ⟨rfl, rfl⟩
  go_wp2_with fail
  refine (limited_k _ _ _ HE.out).mono ?_
  rintro e w' ⟨rfl, rfl⟩
  go_wp2_with fail
  go_ret
  exact ⟨rfl, rfl⟩
theorem radd_s (t d : Int) (w : World) :
    Calls Tryd.prog 13 #[.int .i64 t, .int .i64 d] w fun e w' => e = .returned (.int .i64 (addI t d)) ∧ w = w' := by
  obtain ⟨x, hx⟩ : ∃ x, limI t = x := ⟨_, rfl⟩
  obtain ⟨y, hy⟩ : ∃ x, limI d = x := ⟨_, rfl⟩
  have b1 := limI_bd t
  have b2 := limI_bd d
  rw [hx] at b1
  rw [hy] at b2
  obtain ⟨b1, b1'⟩ := b1
  obtain ⟨b2, b2'⟩ := b2
  have HE := Lib.hid (show limI (x + y) = addI t d by unfold addI; rw [hx, hy])
  have HX := Lib.hid hx; clear hx
  have HY := Lib.hid hy; clear hy
  go_enter Tryd.func13, Tryd.ntmps13
  go_wp2_with fail
  refine (limit_k _ x _ HX.out).mono ?_
  rintro e w' ⟨rfl, rfl⟩
  go_wp2_with fail
  refine (limit_k _ y _ HY.out).mono ?_
  rintro e w' ⟨rfl, rfl⟩
  go_wp2_with fail
  refine (limit_k _ _ _ HE.out).mono ?_
  rintro e w' ⟨rfl, rfl⟩
  go_wp2_with fail
  go_ret
  exact ⟨rfl, rfl⟩
theorem sub_s (t d : Int) (w : World) :
    Calls Tryd.prog 14 #[.int .i64 t, .int .i64 d] w fun e w' => e = .returned (.int .i64 (subI t d)) ∧ w = w' := by
  obtain ⟨x, hx⟩ : ∃ x, limI t = x := ⟨_, rfl⟩
  obtain ⟨y, hy⟩ : ∃ x, limI d = x := ⟨_, rfl⟩
  have b1 := limI_bd t
  have b2 := limI_bd d
  rw [hx] at b1
  rw [hy] at b2
  obtain ⟨b1, b1'⟩ := b1
  obtain ⟨b2, b2'⟩ := b2
  have HE := Lib.hid (show x - y = subI t d by unfold subI; rw [hx, hy])
  have HX := Lib.hid hx; clear hx
  have HY := Lib.hid hy; clear hy
  go_enter Tryd.func14, Tryd.ntmps14
  go_wp2_with fail
  refine (limited_k _ x _ HX.out).mono ?_
  rintro e w' ⟨rfl, rfl⟩
  go_wp2_with fail
  refine (limited_k _ y _ HY.out).mono ?_
  rintro e w' ⟨rfl, rfl⟩
  go_wp2_with fail
  go_ret
  exact ⟨by rw [← HE.out]; rfl, rfl⟩
theorem rsub_s (t d : Int) (w : World) :
    Calls Tryd.prog 15 #[.int .i64 t, .int .i64 d] w fun e w' => e = .returned (.int .i64 (subI t d)) ∧ w = w' := by
  obtain ⟨x, hx⟩ : ∃ x, limI t = x := ⟨_, rfl⟩
  obtain ⟨y, hy⟩ : ∃ x, limI d = x := ⟨_, rfl⟩
  have b1 := limI_bd t
  have b2 := limI_bd d
  rw [hx] at b1
  rw [hy] at b2
  obtain ⟨b1, b1'⟩ := b1
  obtain ⟨b2, b2'⟩ := b2
  have HE := Lib.hid (show x - y = subI t d by unfold subI; rw [hx, hy])
  have HX := Lib.hid hx; clear hx
  have HY := Lib.hid hy; clear hy
  go_enter Tryd.func15, Tryd.ntmps15
  go_wp2_with fail
  refine (limit_k _ x _ HX.out).mono ?_
  rintro e w' ⟨rfl, rfl⟩
  go_wp2_with fail
  refine (limit_k _ y _ HY.out).mono ?_
  rintro e w' ⟨rfl, rfl⟩
  go_wp2_with fail
  go_ret
  exact ⟨by rw [← HE.out]; rfl, rfl⟩

end Go.Proofs.YtnncfifpgjlpaabDoor
