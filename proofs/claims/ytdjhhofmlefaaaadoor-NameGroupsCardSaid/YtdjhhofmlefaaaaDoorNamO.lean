/-
  Contracts of cmp.Or at two numbers, name.comparePairs, slices.Reverse and slices.CompareFunc at pairs, and the specification's bytes. Condition: at most 1000 pairs.
-/
import Derived.Test.YtdjhhofmlefaaaaDoorNamQ
import Derived.Test.YtdjhhofmlefaaaaDoorShelfR
import Derived.WalkLawsBesides
import Derived.Lib.SliceRun
import Derived.StillTailTactics
set_option linter.unusedVariables false
set_option linter.unusedSimpArgs false
set_option linter.unnecessarySimpa false
namespace Go.Proofs.YtdjhhofmlefaaaaDoor
open Go.RowKit Go.PlainAid

theorem bytes_s (a b : ByteArray) (w : World) :
    Calls Tryd.prog 59 #[.string a, .string b] w fun e w' => e = .returned (.int .i64 (cmpS a b)) ∧ w = w' := by
  have HC := Lib.hid (cmp_tests a.data.toList b.data.toList)
  cases h1 : Op.bytesLess a.toList b.toList
  · cases h2 : (a.toList == b.toList)
    · have HE := Lib.hid (show cmpS a b = 1 by unfold cmpS; rw [HC.out, ← Lib.toList_data, ← Lib.toList_data, h1, h2]; rfl)
      go_enter Tryd.func59, Tryd.ntmps59
      go_wp2
      go_ret
      exact ⟨by rw [HE.out]; rfl, rfl⟩
    · have HE := Lib.hid (show cmpS a b = 0 by unfold cmpS; rw [HC.out, ← Lib.toList_data, ← Lib.toList_data, h1, h2]; rfl)
      go_enter Tryd.func59, Tryd.ntmps59
      go_wp2
      go_ret
      exact ⟨by rw [HE.out]; rfl, rfl⟩
  · have HE := Lib.hid (show cmpS a b = -1 by unfold cmpS; rw [HC.out, ← Lib.toList_data, ← Lib.toList_data, h1]; rfl)
    go_enter Tryd.func59, Tryd.ntmps59
    go_wp2
    go_ret
    exact ⟨by rw [HE.out]; rfl, rfl⟩
theorem compare_lib (a b : ByteArray) (w : World) :
    Calls Tryd.prog 58 #[.string a, .string b] w fun e w' => e = .returned (.int .i64 (cmpS a b)) ∧ w = w' :=
  (Tryd.strings_Compare a b w).mono fun _ _ h => ⟨h.1, h.2.symm⟩

theorem compare_q (a b : ByteArray) (w : World) :
    Calls Tryd.prog 58 #[.string a, .string b] w fun e w' => e = .returned (.int .i64 (cmpS a b)) ∧ w' = w := Tryd.strings_Compare a b w
theorem ints_new (w : World) (x y : Int) : (w.alloc (.cells #[.int .i64 x, .int .i64 y] 3)).cell? ⟨w.heap.size, 0, none⟩ = some (.int .i64 x) ∧ (w.alloc (.cells #[.int .i64 x, .int .i64 y] 3)).cell? ⟨w.heap.size, 1, none⟩ = some (.int .i64 y) := by
  have h : (w.alloc (.cells #[.int .i64 x, .int .i64 y] 3)).heap[w.heap.size]? = some (.cells #[.int .i64 x, .int .i64 y] 3) := heap_alloc_new w _
  exact ⟨by rw [Lib.cell_of_heap h]; rfl, by rw [Lib.cell_of_heap h]; rfl⟩
def orI (x y : Int) : Int := if x = 0 then y else x
set_option maxRecDepth 100000 in
set_option maxHeartbeats 2000000 in
theorem or_s (x y : Int) (w : World) :
    Calls Tryd.prog 74 #[.slice (some ⟨w.heap.size, 0, none⟩) 2 2] (w.alloc (.cells #[.int .i64 x, .int .i64 y] 3)) fun e w' => e = .returned (.int .i64 (orI x y)) ∧ (w.alloc (.cells #[.int .i64 x, .int .i64 y] 3)) = w' := by
  obtain ⟨c0, c1⟩ := ints_new w x y
  by_cases hx : x = 0
  · have HE := Lib.hid (show orI x y = y from if_pos hx)
    have q0 : (x != 0) = false := by rw [hx]; rfl
    clear hx
    by_cases hy : y = 0
    · subst hy
      go_enter Tryd.func74, Tryd.ntmps74
      go_wp2
      refine wp_loop_rounds 3 ?_
      rw [rounds_succ]
      go_wp2
      rw [rounds_succ]
      go_wp2
      rw [rounds_succ]
      go_wp2
      go_ret
      exact ⟨by rw [HE.out]; rfl, rfl⟩
    · have q1 : (y != 0) = true := by simpa using hy
      clear hy
      go_enter Tryd.func74, Tryd.ntmps74
      go_wp2
      refine wp_loop_rounds 3 ?_
      rw [rounds_succ]
      go_wp2
      rw [rounds_succ]
      go_wp2
      go_ret
      exact ⟨by rw [HE.out]; rfl, rfl⟩
  · have HE := Lib.hid (show orI x y = x from if_neg hx)
    have q0 : (x != 0) = true := by simpa using hx
    clear hx
    go_enter Tryd.func74, Tryd.ntmps74
    go_wp2
    refine wp_loop_rounds 3 ?_
    rw [rounds_succ]
    go_wp2
    go_ret
    exact ⟨by rw [HE.out]; rfl, rfl⟩

theorem orI_pair (p q : Pr) : orI (cmpS p.1 q.1) (cmpS p.2 q.2) = cmpP p q := rfl
theorem cmpS_range (a b : ByteArray) : -1 ≤ cmpS a b ∧ cmpS a b ≤ 1 := by rcases cmpS_ord.range a b with h | h | h <;> omega
set_option maxRecDepth 100000 in
set_option maxHeartbeats 4000000 in
theorem comparePairs_s (p q : Pr) (w : World) :
    Calls Tryd.prog 57 #[.agg #[.string p.1, .string p.2], .agg #[.string q.1, .string q.2]] w fun e w' => e = .returned (.int .i64 (cmpP p q)) ∧ Below w.heap.size w w' := by
  obtain ⟨p1, p2⟩ := p
  obtain ⟨q1, q2⟩ := q
  have HE := Lib.hid (orI_pair (p1, p2) (q1, q2))
  have X1 := (pbox_new w (p1, p2)).alloc (.cells #[.string q1, .string q2] 36)
  have X2 := pbox_new (w.alloc (.cells #[.string p1, .string p2] 36)) (q1, q2)
  obtain ⟨c0, c1⟩ := X1.cells
  obtain ⟨d0, d1⟩ := X2.cells
  rw [World.size_alloc] at d0 d1
  have L0 := Lib.hid (show Below w.heap.size w ((w.alloc (.cells #[.string p1, .string p2] 36)).alloc (.cells #[.string q1, .string q2] 36)) from below_next (below_new _) (below_new _))
  clear X1 X2
  go_enter Tryd.func57, Tryd.ntmps57
  go_wp2_with fail
  generalize (w.alloc (.cells #[.string p1, .string p2] 36)).alloc (.cells #[.string q1, .string q2] 36) = W0 at c0 c1 d0 d1 L0 ⊢
  refine wp_region_still_tail 10 (by kernel_rfl) (by kernel_rfl) ?_
  simp only [List.take_succ_cons, List.take_zero, List.drop_succ_cons, List.drop_zero]
  change wpStill _ _ (World.drew W0) _ _ _
  still_step
  still_step
  still_step
  still_step
  still_call (compare_q p1 q1 _)
  still_step
  still_step
  still_step
  still_step
  still_call (compare_q p2 q2 _)
  refine wpStill_nil ?_
  change wpList _ _ _ _ _ (World.drew W0)
  go_wp2_with (go_at_call 74; refine (or_s _ _ (World.drew W0)).mono ?_; rintro e w' ⟨rfl, rfl⟩)
  go_ret
  exact ⟨by rw [← HE.out]; rfl, (L0.out.drew).alloc (by have := L0.out.size; exact this) _⟩

end Go.Proofs.YtdjhhofmlefaaaaDoor
