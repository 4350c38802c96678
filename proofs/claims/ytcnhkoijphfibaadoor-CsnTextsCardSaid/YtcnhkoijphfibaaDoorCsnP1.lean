/-
  Contracts of csn.Valid, isReplica, Compare, Next and of the specification's. No condition.
-/
import Derived.Test.YtcnhkoijphfibaaDoorCsnM
import Derived.Test.YtcnhkoijphfibaaDoorCsnV
import Derived.Test.YtcnhkoijphfibaaDoorShelfC
import Derived.Lib.MinMax
import Derived.StillTailTactics
import Derived.WalkLawsBesides
import Derived.Lib.SliceRun
set_option maxRecDepth 100000
set_option linter.unusedVariables false
set_option linter.unusedSimpArgs false
set_option linter.unnecessarySimpa false
namespace Go.Proofs.YtcnhkoijphfibaaDoor
open Go.RowKit Go.PlainAid

theorem isrep_s (n : Int) (w : World) :
    Calls Tryd.prog 38 #[.int .i64 n] w fun e w' => e = .returned (.bool (decide (0 ≤ n) && decide (n < 8))) ∧ w = w' := by
  by_cases h0 : 0 ≤ n
  · have d0 : decide (0 ≤ n) = true := decide_eq_true h0
    by_cases h1 : n < 8
    · have d1 : decide (n < 8) = true := decide_eq_true h1
      rw [d0, d1]
      go_enter Tryd.func38, Tryd.ntmps38
      go_wp2
      go_ret
      exact ⟨rfl, rfl⟩
    · have d1 : decide (n < 8) = false := decide_eq_false h1
      rw [d0, d1]
      go_enter Tryd.func38, Tryd.ntmps38
      go_wp2
      go_ret
      exact ⟨rfl, rfl⟩
  · have d0 : decide (0 ≤ n) = false := decide_eq_false h0
    rw [d0, Bool.false_and]
    go_enter Tryd.func38, Tryd.ntmps38
    go_wp2
    go_ret
    exact ⟨rfl, rfl⟩
theorem isrep_k (n : Int) (b : Bool) (w : World) (h : (decide (0 ≤ n) && decide (n < 8)) = b) :
    Calls Tryd.prog 38 #[.int .i64 n] w fun e w' => e = .returned (.bool b) ∧ w = w' := by subst h; exact isrep_s n w
set_option maxHeartbeats 4000000 in
theorem vld_s (c : Cn) (w : World) :
    Calls Tryd.prog 12 #[cnV c] w fun e w' => e = .returned (.bool (vldC c)) ∧ w' = w.alloc (cnB c) := by
  obtain ⟨t, s, r⟩ := c
  show Calls _ _ #[.agg #[.int .i64 t, .int .i64 s, .int .i64 r]] w _
  by_cases h0 : 0 ≤ t
  · have d0 : decide (0 ≤ t) = true := decide_eq_true h0
    by_cases h1 : t ≤ 1099511627776
    · have d1 : decide (t ≤ 1099511627776) = true := decide_eq_true h1
      by_cases h2 : 0 ≤ s
      · have d2 : decide (0 ≤ s) = true := decide_eq_true h2
        by_cases h3 : s ≤ 4294967295
        · have d3 : decide (s ≤ 4294967295) = true := decide_eq_true h3
          obtain ⟨b, hb⟩ : ∃ b, (decide (0 ≤ r) && decide (r < 8)) = b := ⟨_, rfl⟩
          have HF := Lib.hid (show vldC (t, s, r) = b by
            rw [← hb, Bool.eq_iff_iff, vldC_iff, Bool.and_eq_true, decide_eq_true_iff, decide_eq_true_iff]; unfold Vld; dsimp only; omega)
          have HX := Lib.hid hb
          clear hb
          rw [HF.out]
          go_enter Tryd.func12, Tryd.ntmps12
          go_wp2_with (go_at_call 38; refine (isrep_k r b _ HX.out).mono ?_; rintro e w' ⟨rfl, rfl⟩)
          go_ret
          exact ⟨rfl, rfl⟩
        · have d3 : decide (s ≤ 4294967295) = false := decide_eq_false h3
          have HF := Lib.hid (show vldC (t, s, r) = false from decide_eq_false fun k => by unfold Vld at k; dsimp only at k; omega)
          rw [HF.out]
          go_enter Tryd.func12, Tryd.ntmps12
          go_wp2
          go_ret
          exact ⟨rfl, rfl⟩
      · have d2 : decide (0 ≤ s) = false := decide_eq_false h2
        have HF := Lib.hid (show vldC (t, s, r) = false from decide_eq_false fun k => by unfold Vld at k; dsimp only at k; omega)
        rw [HF.out]
        go_enter Tryd.func12, Tryd.ntmps12
        go_wp2
        go_ret
        exact ⟨rfl, rfl⟩
    · have d1 : decide (t ≤ 1099511627776) = false := decide_eq_false h1
      have HF := Lib.hid (show vldC (t, s, r) = false from decide_eq_false fun k => by unfold Vld at k; dsimp only at k; omega)
      rw [HF.out]
      go_enter Tryd.func12, Tryd.ntmps12
      go_wp2
      go_ret
      exact ⟨rfl, rfl⟩
  · have d0 : decide (0 ≤ t) = false := decide_eq_false h0
    have HF := Lib.hid (show vldC (t, s, r) = false from decide_eq_false fun k => by unfold Vld at k; dsimp only at k; omega)
    rw [HF.out]
    go_enter Tryd.func12, Tryd.ntmps12
    go_wp2
    go_ret
    exact ⟨rfl, rfl⟩
set_option maxHeartbeats 4000000 in
theorem rvld_s (c : Cn) (w : World) :
    Calls Tryd.prog 13 #[cnV c] w fun e w' => e = .returned (.bool (vldC c)) ∧ w' = w.alloc (cnB c) := by
  obtain ⟨t, s, r⟩ := c
  show Calls _ _ #[.agg #[.int .i64 t, .int .i64 s, .int .i64 r]] w _
  by_cases h0 : 0 ≤ t
  · have d0 : decide (0 ≤ t) = true := decide_eq_true h0
    by_cases h1 : t ≤ 1099511627776
    · have d1 : decide (t ≤ 1099511627776) = true := decide_eq_true h1
      by_cases h2 : 0 ≤ s
      · have d2 : decide (0 ≤ s) = true := decide_eq_true h2
        by_cases h3 : s ≤ 4294967295
        · have d3 : decide (s ≤ 4294967295) = true := decide_eq_true h3
          by_cases h4 : 0 ≤ r
          · have d4 : decide (0 ≤ r) = true := decide_eq_true h4
            by_cases h5 : r < 8
            · have d5 : decide (r < 8) = true := decide_eq_true h5
              have HF := Lib.hid (show vldC (t, s, r) = true from decide_eq_true (by unfold Vld; dsimp only; omega))
              rw [HF.out]
              go_enter Tryd.func13, Tryd.ntmps13
              go_wp2
              go_ret
              exact ⟨rfl, rfl⟩
            · have d5 : decide (r < 8) = false := decide_eq_false h5
              have HF := Lib.hid (show vldC (t, s, r) = false from decide_eq_false fun k => by unfold Vld at k; dsimp only at k; omega)
              rw [HF.out]
              go_enter Tryd.func13, Tryd.ntmps13
              go_wp2
              go_ret
              exact ⟨rfl, rfl⟩
          · have d4 : decide (0 ≤ r) = false := decide_eq_false h4
            have HF := Lib.hid (show vldC (t, s, r) = false from decide_eq_false fun k => by unfold Vld at k; dsimp only at k; omega)
            rw [HF.out]
            go_enter Tryd.func13, Tryd.ntmps13
            go_wp2
            go_ret
            exact ⟨rfl, rfl⟩
        · have d3 : decide (s ≤ 4294967295) = false := decide_eq_false h3
          have HF := Lib.hid (show vldC (t, s, r) = false from decide_eq_false fun k => by unfold Vld at k; dsimp only at k; omega)
          rw [HF.out]
          go_enter Tryd.func13, Tryd.ntmps13
          go_wp2
          go_ret
          exact ⟨rfl, rfl⟩
      · have d2 : decide (0 ≤ s) = false := decide_eq_false h2
        have HF := Lib.hid (show vldC (t, s, r) = false from decide_eq_false fun k => by unfold Vld at k; dsimp only at k; omega)
        rw [HF.out]
        go_enter Tryd.func13, Tryd.ntmps13
        go_wp2
        go_ret
        exact ⟨rfl, rfl⟩
    · have d1 : decide (t ≤ 1099511627776) = false := decide_eq_false h1
      have HF := Lib.hid (show vldC (t, s, r) = false from decide_eq_false fun k => by unfold Vld at k; dsimp only at k; omega)
      rw [HF.out]
      go_enter Tryd.func13, Tryd.ntmps13
      go_wp2
      go_ret
      exact ⟨rfl, rfl⟩
  · have d0 : decide (0 ≤ t) = false := decide_eq_false h0
    have HF := Lib.hid (show vldC (t, s, r) = false from decide_eq_false fun k => by unfold Vld at k; dsimp only at k; omega)
    rw [HF.out]
    go_enter Tryd.func13, Tryd.ntmps13
    go_wp2
    go_ret
    exact ⟨rfl, rfl⟩
theorem vld_k (c : Cn) (b : Bool) (w : World) (h : vldC c = b) :
    Calls Tryd.prog 12 #[.agg #[.int .i64 c.1, .int .i64 c.2.1, .int .i64 c.2.2]] w fun e w' => e = .returned (.bool b) ∧ w' = w.alloc (.cells #[.int .i64 c.1, .int .i64 c.2.1, .int .i64 c.2.2] 23) := by subst h; exact vld_s c w
theorem rvld_k (c : Cn) (b : Bool) (w : World) (h : vldC c = b) :
    Calls Tryd.prog 13 #[.agg #[.int .i64 c.1, .int .i64 c.2.1, .int .i64 c.2.2]] w fun e w' => e = .returned (.bool b) ∧ w' = w.alloc (.cells #[.int .i64 c.1, .int .i64 c.2.1, .int .i64 c.2.2] 23) := by subst h; exact rvld_s c w
theorem order_s (a b : Int) (w : World) :
    Calls Tryd.prog 39 #[.int .i64 a, .int .i64 b] w fun e w' => e = .returned (.int .i64 (cmpN a b)) ∧ w = w' := by
  by_cases h0 : a < b
  · have HF := Lib.hid (show cmpN a b = -1 from if_pos h0)
    rw [HF.out]
    go_enter Tryd.func39, Tryd.ntmps39
    go_wp2
    go_ret
    exact ⟨rfl, rfl⟩
  · by_cases h1 : b < a
    · have HF := Lib.hid (show cmpN a b = 1 by unfold cmpN; rw [if_neg h0, if_pos h1])
      rw [HF.out]
      go_enter Tryd.func39, Tryd.ntmps39
      go_wp2
      go_ret
      exact ⟨rfl, rfl⟩
    · have HF := Lib.hid (show cmpN a b = 0 by unfold cmpN; rw [if_neg h0, if_neg h1])
      rw [HF.out]
      go_enter Tryd.func39, Tryd.ntmps39
      go_wp2
      go_ret
      exact ⟨rfl, rfl⟩
theorem order_k (a b x : Int) (w : World) (h : cmpN a b = x) :
    Calls Tryd.prog 39 #[.int .i64 a, .int .i64 b] w fun e w' => e = .returned (.int .i64 x) ∧ w = w' := by subst h; exact order_s a b w

end Go.Proofs.YtcnhkoijphfibaaDoor
