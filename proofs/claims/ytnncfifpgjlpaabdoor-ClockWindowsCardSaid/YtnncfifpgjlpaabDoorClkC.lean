/-
  Contracts of the specification's In and Check. Condition: ints are ints.
-/
import Derived.Test.YtnncfifpgjlpaabDoorClkB
set_option linter.unusedVariables false
set_option linter.unusedSimpArgs false
set_option linter.unnecessarySimpa false
namespace Go.Proofs.YtnncfifpgjlpaabDoor
open Go.RowKit Go.PlainAid

theorem limit_q (t x : Int) (w : World) (h : limI t = x) :
    Calls Tryd.prog 31 #[.int .i64 t] w fun e w' => e = .returned (.int .i64 x) ∧ w' = w := (limit_k t x w h).mono fun e w' h => ⟨h.1, h.2.symm⟩
theorem below_drawn (w : World) (o : Obj) (q : Nat) : Below w.heap.size w ((w.alloc o).drewN q) := ⟨rfl, rfl, rfl, by show w.heap.size ≤ (w.heap.push o).size; simp, fun k hk => Below.heap_alloc w o k hk⟩

theorem rin_s (a b t : Int) (w : World) :
    Calls Tryd.prog 18 #[.agg #[.int .i64 a, .int .i64 b], .int .i64 t] w fun e w' => e = .returned (.bool (inW a b t)) ∧ Below w.heap.size w w' := by
  obtain ⟨x, hx⟩ : ∃ x, limI t = x := ⟨_, rfl⟩
  have HE := Lib.hid (show inW a b t = (decide (a ≤ x) && decide (x < b)) by unfold inW; rw [hx])
  by_cases h1 : a ≤ x
  · by_cases h2 : x < b
    · have d1 : decide (a ≤ x) = true := decide_eq_true h1
      have d2 : decide (x < b) = true := decide_eq_true h2
      have HF := Lib.hid (show inW a b t = true by rw [HE.out, d1, d2]; rfl)
      have HX := Lib.hid hx; clear hx h1 h2
      go_enter Tryd.func18, Tryd.ntmps18
      go_wp2_with fail
      go_quiet ((go_at_call 31; refine Calls.quiet_of_same (limit_q _ x _ HX.out)))
      go_wp2_with fail
      go_ret
      exact ⟨by rw [HF.out]; rfl, below_drawn _ _ _⟩
    · have d1 : decide (a ≤ x) = true := decide_eq_true h1
      have d2 : decide (x < b) = false := decide_eq_false h2
      have HF := Lib.hid (show inW a b t = false by rw [HE.out, d2, Bool.and_false])
      have HX := Lib.hid hx; clear hx h1 h2
      go_enter Tryd.func18, Tryd.ntmps18
      go_wp2_with fail
      go_quiet ((go_at_call 31; refine Calls.quiet_of_same (limit_q _ x _ HX.out)))
      go_wp2_with fail
      go_ret
      exact ⟨by rw [HF.out]; rfl, below_drawn _ _ _⟩
  · have d1 : decide (a ≤ x) = false := decide_eq_false h1
    have HF := Lib.hid (show inW a b t = false by rw [HE.out, d1, Bool.false_and])
    have HX := Lib.hid hx; clear hx h1
    go_enter Tryd.func18, Tryd.ntmps18
    go_wp2_with fail
    go_quiet ((go_at_call 31; refine Calls.quiet_of_same (limit_q _ x _ HX.out)))
    go_wp2_with fail
    go_ret
    exact ⟨by rw [HF.out]; rfl, below_drawn _ _ _⟩

theorem rcheck_s (a b t s : Int) (w : World) :
    Calls Tryd.prog 20 #[.agg #[.int .i64 a, .int .i64 b], .int .i64 t, .int .i64 s] w fun e w' => e = .returned (.int .i64 (checkI a b t s)) ∧ Below w.heap.size w w' := by
  obtain ⟨x, hx⟩ : ∃ x, limI t = x := ⟨_, rfl⟩
  obtain ⟨z, hz⟩ : ∃ x, min s 600 = x := ⟨_, rfl⟩
  obtain ⟨y, hy⟩ : ∃ x, max 0 z = x := ⟨_, rfl⟩
  have b1 := limI_bd t
  rw [hx] at b1
  obtain ⟨b1, b1'⟩ := b1
  have hs : skewI s = y := by rw [← hy, ← hz]; unfold skewI; omega
  have b2 : 0 ≤ y ∧ y ≤ 600 := by rw [← hs]; unfold skewI; omega
  obtain ⟨b2, b2'⟩ := b2
  have HE := Lib.hid (show checkI a b t s = if b < a then 2 else if x + y < a then 14 else if b ≤ x - y then 13 else 0 by unfold checkI; rw [hx, hs])
  have HX := Lib.hid hx; clear hx hs
  by_cases h1 : b < a
  · have HF := Lib.hid (show checkI a b t s = 2 by rw [HE.out, if_pos h1])
    go_enter Tryd.func20, Tryd.ntmps20
    go_wp2_with fail
    go_ret
    exact ⟨by rw [HF.out]; rfl, (Below.refl _ _).alloc (Nat.le_refl _) _⟩
  · have w1 : IntKind.i64.wrap (x + y) = x + y := IntWalk.i64_in _ (by omega)
    have w2 : IntKind.i64.wrap (x - y) = x - y := IntWalk.i64_in _ (by omega)
    by_cases h2 : x + y < a
    · have HF := Lib.hid (show checkI a b t s = 14 by rw [HE.out, if_neg h1, if_pos h2])
      have d2 : decide (x + y < a) = true := decide_eq_true h2
      go_enter Tryd.func20, Tryd.ntmps20
      go_wp2_with fail
      go_quiet ((go_at_call 31; refine Calls.quiet_of_same (limit_q _ x _ HX.out)))
      go_wp2_with fail
      go_ret
      exact ⟨by rw [HF.out]; rfl, below_drawn _ _ _⟩
    · have d2 : decide (x + y < a) = false := decide_eq_false h2
      by_cases h3 : b ≤ x - y
      · have HF := Lib.hid (show checkI a b t s = 13 by rw [HE.out, if_neg h1, if_neg h2, if_pos h3])
        have d3 : decide (b ≤ x - y) = true := decide_eq_true h3
        go_enter Tryd.func20, Tryd.ntmps20
        go_wp2_with fail
        go_quiet ((go_at_call 31; refine Calls.quiet_of_same (limit_q _ x _ HX.out)))
        go_wp2_with fail
        have c0 : ∀ q, ((w.alloc (.cells #[.int .i64 a, .int .i64 b] 27)).drewN q).cell? ⟨w.heap.size, 1, none⟩ = some (.int .i64 b) := fun q => by go_simp
        generalize hW : World.drewN (w.alloc (.cells #[.int .i64 a, .int .i64 b] 27)) _ = W1
        have HBW := Lib.hid (show Below w.heap.size w W1 by rw [← hW]; exact below_drawn _ _ _)
        have c1 : W1.cell? ⟨w.heap.size, 1, none⟩ = some (.int .i64 b) := by rw [← hW]; exact c0 _
        clear hW c0
        go_quiet ((go_at_call 31; refine Calls.quiet_of_same (limit_q _ x _ HX.out)))
        go_wp2_with fail
        go_ret
        exact ⟨by rw [HF.out]; rfl, HBW.out.trans ⟨rfl, rfl, rfl, Nat.le_refl _, fun _ _ => rfl⟩⟩
      · have HF := Lib.hid (show checkI a b t s = 0 by rw [HE.out, if_neg h1, if_neg h2, if_neg h3])
        have d3 : decide (b ≤ x - y) = false := decide_eq_false h3
        go_enter Tryd.func20, Tryd.ntmps20
        go_wp2_with fail
        go_quiet ((go_at_call 31; refine Calls.quiet_of_same (limit_q _ x _ HX.out)))
        go_wp2_with fail
        have c0 : ∀ q, ((w.alloc (.cells #[.int .i64 a, .int .i64 b] 27)).drewN q).cell? ⟨w.heap.size, 1, none⟩ = some (.int .i64 b) := fun q => by go_simp
        generalize hW : World.drewN (w.alloc (.cells #[.int .i64 a, .int .i64 b] 27)) _ = W1
        have HBW := Lib.hid (show Below w.heap.size w W1 by rw [← hW]; exact below_drawn _ _ _)
        have c1 : W1.cell? ⟨w.heap.size, 1, none⟩ = some (.int .i64 b) := by rw [← hW]; exact c0 _
        clear hW c0
        go_quiet ((go_at_call 31; refine Calls.quiet_of_same (limit_q _ x _ HX.out)))
        go_wp2_with fail
        go_ret
        exact ⟨by rw [HF.out]; rfl, HBW.out.trans ⟨rfl, rfl, rfl, Nat.le_refl _, fun _ _ => rfl⟩⟩

end Go.Proofs.YtnncfifpgjlpaabDoor
