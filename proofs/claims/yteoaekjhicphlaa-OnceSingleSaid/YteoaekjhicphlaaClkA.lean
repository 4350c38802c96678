/-
  Contracts of clock's limited, between, Valid, Add, Sub, In, Check, empty, Common, and of the specification's. No condition beyond that ints are ints.
-/
import Derived.Test.YteoaekjhicphlaaWinA
import Derived.Test.YteoaekjhicphlaaBaseLow
import Derived.Deep.QuietTactic
import Derived.BigQuiet
import Derived.Lib.MinMax
set_option maxRecDepth 100000
set_option linter.unusedVariables false
set_option linter.unusedSimpArgs false
set_option linter.unnecessarySimpa false
namespace Go.Proofs.Yteoaekjhicphlaa
open Go.RowKit Go.PlainAid

def I64 (n : Int) : Prop := -9223372036854775808 ≤ n ∧ n ≤ 9223372036854775807
def limI (t : Int) : Int := min (max t 0) 1099511627776
theorem limI_bd (t : Int) : 0 ≤ limI t ∧ limI t ≤ 1099511627776 := by unfold limI; omega
def validB (t : Int) : Bool := decide (0 ≤ t) && decide (t ≤ 1099511627776)
def addI (t d : Int) : Int := limI (limI t + limI d)
def subI (a b : Int) : Int := limI a - limI b
def inW (a b t : Int) : Bool := decide (a ≤ limI t) && decide (limI t < b)
def skewI (s : Int) : Int := min (max s 0) 600
def checkI (a b t s : Int) : Int := if b < a then 2 else if limI t + skewI s < a then 14 else if b ≤ limI t - skewI s then 13 else 0
/-- a window as a value -/
def winV (w : Wn) : Value := .agg #[.int .i64 w.1, .int .i64 w.2]

theorem between_s (n a b : Int) (w : World) :
    Calls Try.prog 34 #[.int .i64 n, .int .i64 a, .int .i64 b] w fun e w' => e = .returned (.int .i64 (min (max n a) b)) ∧ w = w' := by
  obtain ⟨x, hx⟩ : ∃ x, max n a = x := ⟨_, rfl⟩
  obtain ⟨y, hy⟩ : ∃ y, min x b = y := ⟨_, rfl⟩
  rw [hx, hy]
  go_enter Try.func34, Try.ntmps34
  go_wp2
  go_ret
  exact ⟨rfl, rfl⟩
theorem limited_s (t : Int) (w : World) :
    Calls Try.prog 30 #[.int .i64 t] w fun e w' => e = .returned (.int .i64 (limI t)) ∧ w = w' := by
  go_enter Try.func30, Try.ntmps30
  go_wp2_with (go_at_call 34; refine (between_s _ _ _ _).mono ?_; rintro e w' ⟨rfl, rfl⟩)
  go_ret
  exact ⟨rfl, rfl⟩
theorem limited_k (t x : Int) (w : World) (h : limI t = x) :
    Calls Try.prog 30 #[.int .i64 t] w fun e w' => e = .returned (.int .i64 x) ∧ w = w' := by subst h; exact limited_s t w
theorem limit_s (t : Int) (w : World) :
    Calls Try.prog 27 #[.int .i64 t] w fun e w' => e = .returned (.int .i64 (limI t)) ∧ w = w' := by
  obtain ⟨x, hx⟩ : ∃ x, min t 1099511627776 = x := ⟨_, rfl⟩
  obtain ⟨y, hy⟩ : ∃ y, max 0 x = y := ⟨_, rfl⟩
  have HE := Lib.hid (show y = limI t by rw [← hy, ← hx]; unfold limI; omega)
  go_enter Try.func27, Try.ntmps27
  go_wp2
  go_ret
  exact ⟨by rw [← HE.out]; rfl, rfl⟩
theorem limit_k (t x : Int) (w : World) (h : limI t = x) :
    Calls Try.prog 27 #[.int .i64 t] w fun e w' => e = .returned (.int .i64 x) ∧ w = w' := by subst h; exact limit_s t w

theorem add_s (t d : Int) (w : World) :
    Calls Try.prog 22 #[.int .i64 t, .int .i64 d] w fun e w' => e = .returned (.int .i64 (addI t d)) ∧ w = w' := by
  obtain ⟨x, hx⟩ : ∃ x, limI t = x := ⟨_, rfl⟩
  obtain ⟨y, hy⟩ : ∃ x, limI d = x := ⟨_, rfl⟩
  have b1 := limI_bd t
  have b2 := limI_bd d
  rw [hx] at b1
  rw [hy] at b2
  obtain ⟨b1, b1'⟩ := b1
  obtain ⟨b2, b2'⟩ := b2
  have HE := Lib.hid (show limI (x + y) = addI t d by unfold addI; rw [hx, hy])
  have HX := Lib.hid hx; clear hx
  have HY := Lib.hid hy; clear hy
  go_enter Try.func22, Try.ntmps22
  go_wp2_with fail
  refine (limited_k _ x _ HX.out).mono ?_
  rintro e w' ⟨rfl, rfl⟩
  go_wp2_with fail
  refine (limited_k _ y _ HY.out).mono ?_
  rintro e w' ⟨rfl, rfl⟩
  go_wp2_with fail
  refine (limited_k _ _ _ HE.out).mono ?_
  rintro e w' ⟨rfl, rfl⟩
  go_wp2_with fail
  go_ret
  exact ⟨rfl, rfl⟩
end Go.Proofs.Yteoaekjhicphlaa
