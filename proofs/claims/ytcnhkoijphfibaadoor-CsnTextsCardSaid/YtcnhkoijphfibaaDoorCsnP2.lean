/-
  Contracts of csn.Compare and Next, of the specification's Compare, Instant and Next, and of the law's at. No condition.
-/
import Derived.Test.YtcnhkoijphfibaaDoorCsnP1
set_option maxRecDepth 100000
set_option linter.unusedVariables false
set_option linter.unusedSimpArgs false
set_option linter.unnecessarySimpa false
namespace Go.Proofs.YtcnhkoijphfibaaDoor
open Go.RowKit Go.PlainAid

theorem below_allocs : ∀ (os : List Obj) (B : Nat) (a w : World), Below B a w → B ≤ w.heap.size → Below B a (os.foldl World.alloc w)
  | [], _, _, _, h, _ => h
  | o :: os, B, a, w, h, hB => below_allocs os B a (w.alloc o) (h.alloc hB o) (by show B ≤ (w.heap.push o).size; simp; omega)
theorem at_s (a b c : Int) (w : World) :
    Calls Tryd.prog 40 #[.int .i64 a, .int .i64 b, .int .i64 c] w fun e w' => e = .returned (.agg #[.int .i64 a, .int .i64 b, .int .i64 c]) ∧ Below w.heap.size w w' := by
  go_enter Tryd.func40, Tryd.ntmps40
  go_wp2
  refine bodyPost_ret (v := .agg #[.int .i64 a, .int .i64 b, .int .i64 c]) (by simp [results, Tryd.results40, go_sem]) rfl ⟨rfl, ?_⟩
  exact box_below _ _
theorem instant_s (n : Int) (w : World) :
    Calls Tryd.prog 23 #[.int .i64 n] w fun e w' => e = .returned (.int .i64 (insI n)) ∧ w = w' := by
  by_cases h0 : n < 0
  · have HF := Lib.hid (show insI n = 0 from if_pos h0)
    rw [HF.out]
    go_enter Tryd.func23, Tryd.ntmps23
    go_wp2
    go_ret
    exact ⟨rfl, rfl⟩
  · by_cases h1 : 1099511627776 < n
    · have HF := Lib.hid (show insI n = 1099511627776 by unfold insI; rw [if_neg h0, if_pos h1])
      rw [HF.out]
      go_enter Tryd.func23, Tryd.ntmps23
      go_wp2
      go_ret
      exact ⟨rfl, rfl⟩
    · have HF := Lib.hid (show insI n = n by unfold insI; rw [if_neg h0, if_neg h1])
      rw [HF.out]
      go_enter Tryd.func23, Tryd.ntmps23
      go_wp2
      go_ret
      exact ⟨rfl, rfl⟩
theorem instant_k (n x : Int) (w : World) (h : insI n = x) :
    Calls Tryd.prog 23 #[.int .i64 n] w fun e w' => e = .returned (.int .i64 x) ∧ w = w' := by subst h; exact instant_s n w

/-! ### Compare -/
theorem cmpI_is (x y : Int) : Lib.compareInt x y = cmpN x y := by
  unfold Lib.compareInt cmpN
  simp
theorem icmp_q (x y : Int) (w : World) :
    Calls Tryd.prog 37 #[.int .i64 x, .int .i64 y] w fun e w' => e = .returned (.int .i64 (cmpN x y)) ∧ w' = w :=
  (Tryd.cmp_Compare_int x y w).mono fun e w' h => ⟨by rw [h.1, cmpI_is], h.2⟩
theorem ints3_new (w : World) (x y z : Int) : (w.alloc (.cells #[.int .i64 x, .int .i64 y, .int .i64 z] 3)).cell? ⟨w.heap.size, 0, none⟩ = some (.int .i64 x) ∧ (w.alloc (.cells #[.int .i64 x, .int .i64 y, .int .i64 z] 3)).cell? ⟨w.heap.size, 1, none⟩ = some (.int .i64 y) ∧ (w.alloc (.cells #[.int .i64 x, .int .i64 y, .int .i64 z] 3)).cell? ⟨w.heap.size, 2, none⟩ = some (.int .i64 z) := by
  have h : (w.alloc (.cells #[.int .i64 x, .int .i64 y, .int .i64 z] 3)).heap[w.heap.size]? = some (.cells #[.int .i64 x, .int .i64 y, .int .i64 z] 3) := heap_alloc_new w _
  refine ⟨?_, ?_, ?_⟩ <;> (unfold World.cell?; rw [h]; rfl)
def orC (x y z : Int) : Int := if x ≠ 0 then x else if y ≠ 0 then y else z
set_option maxHeartbeats 4000000 in
theorem or3_s (x y z : Int) (w : World) :
    Calls Tryd.prog 36 #[.slice (some ⟨w.heap.size, 0, none⟩) 3 3] (w.alloc (.cells #[.int .i64 x, .int .i64 y, .int .i64 z] 3)) fun e w' => e = .returned (.int .i64 (orC x y z)) ∧ (w.alloc (.cells #[.int .i64 x, .int .i64 y, .int .i64 z] 3)) = w' := by
  obtain ⟨c0, c1, c2⟩ := ints3_new w x y z
  by_cases hx : x = 0
  · have q0 : (x != 0) = false := by rw [hx]; rfl
    by_cases hy : y = 0
    · have q1 : (y != 0) = false := by rw [hy]; rfl
      have HE := Lib.hid (show orC x y z = z by unfold orC; rw [if_neg (fun h => h hx), if_neg (fun h => h hy)])
      rw [HE.out]
      clear hx hy
      by_cases hz : z = 0
      · subst hz
        go_enter Tryd.func36, Tryd.ntmps36
        go_wp2
        refine wp_loop_rounds 4 ?_
        rw [rounds_succ]
        go_wp2
        rw [rounds_succ]
        go_wp2
        rw [rounds_succ]
        go_wp2
        rw [rounds_succ]
        go_wp2
        go_ret
        exact ⟨rfl, rfl⟩
      · have q2 : (z != 0) = true := by simpa using hz
        clear hz
        go_enter Tryd.func36, Tryd.ntmps36
        go_wp2
        refine wp_loop_rounds 4 ?_
        rw [rounds_succ]
        go_wp2
        rw [rounds_succ]
        go_wp2
        rw [rounds_succ]
        go_wp2
        go_ret
        exact ⟨rfl, rfl⟩
    · have q1 : (y != 0) = true := by simpa using hy
      have HE := Lib.hid (show orC x y z = y by unfold orC; rw [if_neg (fun h => h hx), if_pos hy])
      rw [HE.out]
      clear hx hy
      go_enter Tryd.func36, Tryd.ntmps36
      go_wp2
      refine wp_loop_rounds 4 ?_
      rw [rounds_succ]
      go_wp2
      rw [rounds_succ]
      go_wp2
      go_ret
      exact ⟨rfl, rfl⟩
  · have q0 : (x != 0) = true := by simpa using hx
    have HE := Lib.hid (show orC x y z = x by unfold orC; rw [if_pos hx])
    rw [HE.out]
    clear hx
    go_enter Tryd.func36, Tryd.ntmps36
    go_wp2
    refine wp_loop_rounds 4 ?_
    rw [rounds_succ]
    go_wp2
    go_ret
    exact ⟨rfl, rfl⟩
theorem cmpN_zero {a b : Int} : cmpN a b = 0 ↔ a = b := by
  unfold cmpN
  split
  · exact ⟨fun h => (by cases h), fun h => by omega⟩
  · split
    · exact ⟨fun h => (by cases h), fun h => by omega⟩
    · exact ⟨fun _ => by omega, fun _ => rfl⟩
theorem orC_cmp (a b : Cn) : orC (cmpN a.1 b.1) (cmpN a.2.1 b.2.1) (cmpN a.2.2 b.2.2) = cmpC a b := by
  unfold orC cmpC
  by_cases h1 : a.1 = b.1
  · rw [if_neg (show ¬ cmpN a.1 b.1 ≠ 0 from fun h => h (cmpN_zero.2 h1)), if_neg (show ¬ a.1 ≠ b.1 from fun h => h h1)]
    by_cases h2 : a.2.1 = b.2.1
    · rw [if_neg (show ¬ cmpN a.2.1 b.2.1 ≠ 0 from fun h => h (cmpN_zero.2 h2)), if_neg (show ¬ a.2.1 ≠ b.2.1 from fun h => h h2)]
    · rw [if_pos (show cmpN a.2.1 b.2.1 ≠ 0 from fun h => h2 (cmpN_zero.1 h)), if_pos h2]
  · rw [if_pos (show cmpN a.1 b.1 ≠ 0 from fun h => h1 (cmpN_zero.1 h)), if_pos h1]
theorem cmpN_wf (a b : Int) : -1 ≤ cmpN a b ∧ cmpN a b ≤ 1 := by unfold cmpN; split <;> (try split) <;> omega
set_option maxHeartbeats 4000000 in
theorem cmp_s (a b : Cn) (w : World) :
    Calls Tryd.prog 11 #[cnV a, cnV b] w fun e w' => e = .returned (.int .i64 (cmpC a b)) ∧ Below w.heap.size w w' := by
  have HE := Lib.hid (orC_cmp a b)
  obtain ⟨a0, a1, a2⟩ := a
  obtain ⟨b0, b1, b2⟩ := b
  show Calls _ _ #[.agg #[.int .i64 a0, .int .i64 a1, .int .i64 a2], .agg #[.int .i64 b0, .int .i64 b1, .int .i64 b2]] w _
  have L0 := Lib.hid (below_allocs [cnB (a0, a1, a2), cnB (b0, b1, b2)] _ _ _ (Below.refl w.heap.size w) (Nat.le_refl _))
  obtain ⟨d0, d1, d2⟩ := box_cells (w.alloc (cnB (a0, a1, a2))) (b0, b1, b2)
  obtain ⟨c0, c1, c2⟩ : ((w.alloc (cnB (a0, a1, a2))).alloc (cnB (b0, b1, b2))).cell? ⟨w.heap.size, 0, none⟩ = some (.int .i64 a0) ∧ ((w.alloc (cnB (a0, a1, a2))).alloc (cnB (b0, b1, b2))).cell? ⟨w.heap.size, 1, none⟩ = some (.int .i64 a1) ∧ ((w.alloc (cnB (a0, a1, a2))).alloc (cnB (b0, b1, b2))).cell? ⟨w.heap.size, 2, none⟩ = some (.int .i64 a2) := by
    obtain ⟨e0, e1, e2⟩ := box_cells w (a0, a1, a2)
    have hb := box_below (w.alloc (cnB (a0, a1, a2))) (cnB (b0, b1, b2))
    have hl := box_lt w (cnB (a0, a1, a2))
    exact ⟨(hb.cell (p := ⟨w.heap.size, 0, none⟩) hl).trans e0, (hb.cell (p := ⟨w.heap.size, 1, none⟩) hl).trans e1, (hb.cell (p := ⟨w.heap.size, 2, none⟩) hl).trans e2⟩
  rw [World.size_alloc] at d0 d1 d2
  unfold cnB at c0 c1 c2 d0 d1 d2 L0
  dsimp only [List.foldl] at c0 c1 c2 d0 d1 d2 L0
  go_enter Tryd.func11, Tryd.ntmps11
  go_wp2_with fail
  generalize (w.alloc (.cells #[.int .i64 a0, .int .i64 a1, .int .i64 a2] 23)).alloc (.cells #[.int .i64 b0, .int .i64 b1, .int .i64 b2] 23) = W0 at c0 c1 c2 d0 d1 d2 L0 ⊢
  refine wp_region_still_tail 15 (by kernel_rfl) (by kernel_rfl) ?_
  simp only [List.take_succ_cons, List.take_zero, List.drop_succ_cons, List.drop_zero]
  change wpStill _ _ (World.drew W0) _ _ _
  still_step
  still_step
  still_step
  still_step
  still_call (icmp_q a0 b0 _)
  still_step
  still_step
  still_step
  still_step
  still_call (icmp_q a1 b1 _)
  still_step
  still_step
  still_step
  still_step
  still_call (icmp_q a2 b2 _)
  refine wpStill_nil ?_
  change wpList _ _ _ _ _ (World.drew W0)
  go_wp2_with (go_at_call 36; refine (or3_s _ _ _ (World.drew W0)).mono ?_; rintro e w' ⟨rfl, rfl⟩)
  go_ret
  exact ⟨by rw [← HE.out]; rfl, (L0.out.drew).alloc (by have := L0.out.size; exact this) _⟩

end Go.Proofs.YtcnhkoijphfibaaDoor
