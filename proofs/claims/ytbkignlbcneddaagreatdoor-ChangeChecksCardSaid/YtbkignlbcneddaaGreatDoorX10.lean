/-
  Texts of the schema layer and of those beneath it, joined: CsnP1, CsnP2, CsnP3, CsnF1, CsnF2, CsnF3, CsnF4, CsnF5, CsnF6. Conditions stand at each contract.
-/
import Derived.Lib.MinMax
import Derived.StillTailTactics
import Derived.WalkLawsBesides
import Derived.Lib.SliceRun
import Derived.Laws.BitsLemmas
import Derived.Laws.NewBlocks
import Derived.Test.YtbkignlbcneddaaGreatDoorX04
import Derived.Test.YtbkignlbcneddaaGreatDoorX09
set_option linter.unusedVariables false
set_option linter.unusedSimpArgs false
set_option linter.unnecessarySimpa false

section
/-
  Contracts of csn.Valid, isReplica, Compare, Next and of the specification's. No condition.
-/
set_option maxRecDepth 100000
set_option maxRecDepth 100000
namespace Go.Proofs.YtbkignlbcneddaaGreatDoor
namespace Csn
open Go.RowKit Go.PlainAid
theorem isrep_s (n : Int) (w : World) :
    Calls Tryz.prog 86 #[.int .i64 n] w fun e w' => e = .returned (.bool (decide (0 ≤ n) && decide (n < 8))) ∧ w = w' := by
  by_cases h0 : 0 ≤ n
  · have d0 : decide (0 ≤ n) = true := decide_eq_true h0
    by_cases h1 : n < 8
    · have d1 : decide (n < 8) = true := decide_eq_true h1
      rw [d0, d1]
      go_enter Tryz.func86, Tryz.ntmps86
      go_wp2
      go_ret
      exact ⟨rfl, rfl⟩
    · have d1 : decide (n < 8) = false := decide_eq_false h1
      rw [d0, d1]
      go_enter Tryz.func86, Tryz.ntmps86
      go_wp2
      go_ret
      exact ⟨rfl, rfl⟩
  · have d0 : decide (0 ≤ n) = false := decide_eq_false h0
    rw [d0, Bool.false_and]
    go_enter Tryz.func86, Tryz.ntmps86
    go_wp2
    go_ret
    exact ⟨rfl, rfl⟩
theorem isrep_k (n : Int) (b : Bool) (w : World) (h : (decide (0 ≤ n) && decide (n < 8)) = b) :
    Calls Tryz.prog 86 #[.int .i64 n] w fun e w' => e = .returned (.bool b) ∧ w = w' := by subst h; exact isrep_s n w
set_option maxHeartbeats 4000000 in
theorem vld_s (c : Cn) (w : World) :
    Calls Tryz.prog 40 #[cnV c] w fun e w' => e = .returned (.bool (vldC c)) ∧ w' = w.alloc (cnB c) := by
  obtain ⟨t, s, r⟩ := c
  show Calls _ _ #[.agg #[.int .i64 t, .int .i64 s, .int .i64 r]] w _
  by_cases h0 : 0 ≤ t
  · have d0 : decide (0 ≤ t) = true := decide_eq_true h0
    by_cases h1 : t ≤ 1099511627776
    · have d1 : decide (t ≤ 1099511627776) = true := decide_eq_true h1
      by_cases h2 : 0 ≤ s
      · have d2 : decide (0 ≤ s) = true := decide_eq_true h2
        by_cases h3 : s ≤ 4294967295
        · have d3 : decide (s ≤ 4294967295) = true := decide_eq_true h3
          obtain ⟨b, hb⟩ : ∃ b, (decide (0 ≤ r) && decide (r < 8)) = b := ⟨_, rfl⟩
          have HF := Lib.hid (show vldC (t, s, r) = b by
            rw [← hb, Bool.eq_iff_iff, vldC_iff, Bool.and_eq_true, decide_eq_true_iff, decide_eq_true_iff]; unfold Vld; dsimp only; omega)
          have HX := Lib.hid hb
          clear hb
          rw [HF.out]
          go_enter Tryz.func40, Tryz.ntmps40
          go_wp2_with (go_at_call 86; refine (isrep_k r b _ HX.out).mono ?_; rintro e w' ⟨rfl, rfl⟩)
          go_ret
          exact ⟨rfl, rfl⟩
        · have d3 : decide (s ≤ 4294967295) = false := decide_eq_false h3
          have HF := Lib.hid (show vldC (t, s, r) = false from decide_eq_false fun k => by unfold Vld at k; dsimp only at k; omega)
          rw [HF.out]
          go_enter Tryz.func40, Tryz.ntmps40
          go_wp2
          go_ret
          exact ⟨rfl, rfl⟩
      · have d2 : decide (0 ≤ s) = false := decide_eq_false h2
        have HF := Lib.hid (show vldC (t, s, r) = false from decide_eq_false fun k => by unfold Vld at k; dsimp only at k; omega)
        rw [HF.out]
        go_enter Tryz.func40, Tryz.ntmps40
        go_wp2
        go_ret
        exact ⟨rfl, rfl⟩
    · have d1 : decide (t ≤ 1099511627776) = false := decide_eq_false h1
      have HF := Lib.hid (show vldC (t, s, r) = false from decide_eq_false fun k => by unfold Vld at k; dsimp only at k; omega)
      rw [HF.out]
      go_enter Tryz.func40, Tryz.ntmps40
      go_wp2
      go_ret
      exact ⟨rfl, rfl⟩
  · have d0 : decide (0 ≤ t) = false := decide_eq_false h0
    have HF := Lib.hid (show vldC (t, s, r) = false from decide_eq_false fun k => by unfold Vld at k; dsimp only at k; omega)
    rw [HF.out]
    go_enter Tryz.func40, Tryz.ntmps40
    go_wp2
    go_ret
    exact ⟨rfl, rfl⟩
set_option maxHeartbeats 4000000 in
theorem rvld_s (c : Cn) (w : World) :
    Calls Tryz.prog 55 #[cnV c] w fun e w' => e = .returned (.bool (vldC c)) ∧ w' = w.alloc (cnB c) := by
  obtain ⟨t, s, r⟩ := c
  show Calls _ _ #[.agg #[.int .i64 t, .int .i64 s, .int .i64 r]] w _
  by_cases h0 : 0 ≤ t
  · have d0 : decide (0 ≤ t) = true := decide_eq_true h0
    by_cases h1 : t ≤ 1099511627776
    · have d1 : decide (t ≤ 1099511627776) = true := decide_eq_true h1
      by_cases h2 : 0 ≤ s
      · have d2 : decide (0 ≤ s) = true := decide_eq_true h2
        by_cases h3 : s ≤ 4294967295
        · have d3 : decide (s ≤ 4294967295) = true := decide_eq_true h3
          by_cases h4 : 0 ≤ r
          · have d4 : decide (0 ≤ r) = true := decide_eq_true h4
            by_cases h5 : r < 8
            · have d5 : decide (r < 8) = true := decide_eq_true h5
              have HF := Lib.hid (show vldC (t, s, r) = true from decide_eq_true (by unfold Vld; dsimp only; omega))
              rw [HF.out]
              go_enter Tryz.func55, Tryz.ntmps55
              go_wp2
              go_ret
              exact ⟨rfl, rfl⟩
            · have d5 : decide (r < 8) = false := decide_eq_false h5
              have HF := Lib.hid (show vldC (t, s, r) = false from decide_eq_false fun k => by unfold Vld at k; dsimp only at k; omega)
              rw [HF.out]
              go_enter Tryz.func55, Tryz.ntmps55
              go_wp2
              go_ret
              exact ⟨rfl, rfl⟩
          · have d4 : decide (0 ≤ r) = false := decide_eq_false h4
            have HF := Lib.hid (show vldC (t, s, r) = false from decide_eq_false fun k => by unfold Vld at k; dsimp only at k; omega)
            rw [HF.out]
            go_enter Tryz.func55, Tryz.ntmps55
            go_wp2
            go_ret
            exact ⟨rfl, rfl⟩
        · have d3 : decide (s ≤ 4294967295) = false := decide_eq_false h3
          have HF := Lib.hid (show vldC (t, s, r) = false from decide_eq_false fun k => by unfold Vld at k; dsimp only at k; omega)
          rw [HF.out]
          go_enter Tryz.func55, Tryz.ntmps55
          go_wp2
          go_ret
          exact ⟨rfl, rfl⟩
      · have d2 : decide (0 ≤ s) = false := decide_eq_false h2
        have HF := Lib.hid (show vldC (t, s, r) = false from decide_eq_false fun k => by unfold Vld at k; dsimp only at k; omega)
        rw [HF.out]
        go_enter Tryz.func55, Tryz.ntmps55
        go_wp2
        go_ret
        exact ⟨rfl, rfl⟩
    · have d1 : decide (t ≤ 1099511627776) = false := decide_eq_false h1
      have HF := Lib.hid (show vldC (t, s, r) = false from decide_eq_false fun k => by unfold Vld at k; dsimp only at k; omega)
      rw [HF.out]
      go_enter Tryz.func55, Tryz.ntmps55
      go_wp2
      go_ret
      exact ⟨rfl, rfl⟩
  · have d0 : decide (0 ≤ t) = false := decide_eq_false h0
    have HF := Lib.hid (show vldC (t, s, r) = false from decide_eq_false fun k => by unfold Vld at k; dsimp only at k; omega)
    rw [HF.out]
    go_enter Tryz.func55, Tryz.ntmps55
    go_wp2
    go_ret
    exact ⟨rfl, rfl⟩
theorem vld_k (c : Cn) (b : Bool) (w : World) (h : vldC c = b) :
    Calls Tryz.prog 40 #[.agg #[.int .i64 c.1, .int .i64 c.2.1, .int .i64 c.2.2]] w fun e w' => e = .returned (.bool b) ∧ w' = w.alloc (.cells #[.int .i64 c.1, .int .i64 c.2.1, .int .i64 c.2.2] 23) := by subst h; exact vld_s c w
theorem rvld_k (c : Cn) (b : Bool) (w : World) (h : vldC c = b) :
    Calls Tryz.prog 55 #[.agg #[.int .i64 c.1, .int .i64 c.2.1, .int .i64 c.2.2]] w fun e w' => e = .returned (.bool b) ∧ w' = w.alloc (.cells #[.int .i64 c.1, .int .i64 c.2.1, .int .i64 c.2.2] 23) := by subst h; exact rvld_s c w
end Csn
end Go.Proofs.YtbkignlbcneddaaGreatDoor
end

section
/-
  Contracts of csn.Compare and Next, of the specification's Compare, Instant and Next, and of the law's at. No condition.
-/
set_option maxRecDepth 100000
set_option maxRecDepth 100000
namespace Go.Proofs.YtbkignlbcneddaaGreatDoor
namespace Csn
open Go.RowKit Go.PlainAid
theorem below_allocs : ∀ (os : List Obj) (B : Nat) (a w : World), Below B a w → B ≤ w.heap.size → Below B a (os.foldl World.alloc w)
  | [], _, _, _, h, _ => h
  | o :: os, B, a, w, h, hB => below_allocs os B a (w.alloc o) (h.alloc hB o) (by show B ≤ (w.heap.push o).size; simp; omega)
/-! ### Compare -/
theorem cmpI_is (x y : Int) : Lib.compareInt x y = cmpN x y := by
  unfold Lib.compareInt cmpN
  simp
theorem icmp_q (x y : Int) (w : World) :
    Calls Tryz.prog 113 #[.int .i64 x, .int .i64 y] w fun e w' => e = .returned (.int .i64 (cmpN x y)) ∧ w' = w :=
  (Tryz.cmp_Compare_int x y w).mono fun e w' h => ⟨by rw [h.1, cmpI_is], h.2⟩
theorem ints3_new (w : World) (x y z : Int) : (w.alloc (.cells #[.int .i64 x, .int .i64 y, .int .i64 z] 3)).cell? ⟨w.heap.size, 0, none⟩ = some (.int .i64 x) ∧ (w.alloc (.cells #[.int .i64 x, .int .i64 y, .int .i64 z] 3)).cell? ⟨w.heap.size, 1, none⟩ = some (.int .i64 y) ∧ (w.alloc (.cells #[.int .i64 x, .int .i64 y, .int .i64 z] 3)).cell? ⟨w.heap.size, 2, none⟩ = some (.int .i64 z) := by
  have h : (w.alloc (.cells #[.int .i64 x, .int .i64 y, .int .i64 z] 3)).heap[w.heap.size]? = some (.cells #[.int .i64 x, .int .i64 y, .int .i64 z] 3) := heap_alloc_new w _
  refine ⟨?_, ?_, ?_⟩ <;> (unfold World.cell?; rw [h]; rfl)
def orC (x y z : Int) : Int := if x ≠ 0 then x else if y ≠ 0 then y else z
set_option maxHeartbeats 4000000 in
theorem or3_s (x y z : Int) (w : World) :
    Calls Tryz.prog 112 #[.slice (some ⟨w.heap.size, 0, none⟩) 3 3] (w.alloc (.cells #[.int .i64 x, .int .i64 y, .int .i64 z] 3)) fun e w' => e = .returned (.int .i64 (orC x y z)) ∧ (w.alloc (.cells #[.int .i64 x, .int .i64 y, .int .i64 z] 3)) = w' := by
  obtain ⟨c0, c1, c2⟩ := ints3_new w x y z
  by_cases hx : x = 0
  · have q0 : (x != 0) = false := by rw [hx]; rfl
    by_cases hy : y = 0
    · have q1 : (y != 0) = false := by rw [hy]; rfl
      have HE := Lib.hid (show orC x y z = z by unfold orC; rw [if_neg (fun h => h hx), if_neg (fun h => h hy)])
      rw [HE.out]
      clear hx hy
      by_cases hz : z = 0
      · subst hz
        go_enter Tryz.func112, Tryz.ntmps112
        go_wp2
        refine wp_loop_rounds 4 ?_
        rw [rounds_succ]
        go_wp2
        rw [rounds_succ]
        go_wp2
        rw [rounds_succ]
        go_wp2
        rw [rounds_succ]
        go_wp2
        go_ret
        exact ⟨rfl, rfl⟩
      · have q2 : (z != 0) = true := by simpa using hz
        clear hz
        go_enter Tryz.func112, Tryz.ntmps112
        go_wp2
        refine wp_loop_rounds 4 ?_
        rw [rounds_succ]
        go_wp2
        rw [rounds_succ]
        go_wp2
        rw [rounds_succ]
        go_wp2
        go_ret
        exact ⟨rfl, rfl⟩
    · have q1 : (y != 0) = true := by simpa using hy
      have HE := Lib.hid (show orC x y z = y by unfold orC; rw [if_neg (fun h => h hx), if_pos hy])
      rw [HE.out]
      clear hx hy
      go_enter Tryz.func112, Tryz.ntmps112
      go_wp2
      refine wp_loop_rounds 4 ?_
      rw [rounds_succ]
      go_wp2
      rw [rounds_succ]
      go_wp2
      go_ret
      exact ⟨rfl, rfl⟩
  · have q0 : (x != 0) = true := by simpa using hx
    have HE := Lib.hid (show orC x y z = x by unfold orC; rw [if_pos hx])
    rw [HE.out]
    clear hx
    go_enter Tryz.func112, Tryz.ntmps112
    go_wp2
    refine wp_loop_rounds 4 ?_
    rw [rounds_succ]
    go_wp2
    go_ret
    exact ⟨rfl, rfl⟩
theorem cmpN_zero {a b : Int} : cmpN a b = 0 ↔ a = b := by
  unfold cmpN
  split
  · exact ⟨fun h => (by cases h), fun h => by omega⟩
  · split
    · exact ⟨fun h => (by cases h), fun h => by omega⟩
    · exact ⟨fun _ => by omega, fun _ => rfl⟩
theorem orC_cmp (a b : Cn) : orC (cmpN a.1 b.1) (cmpN a.2.1 b.2.1) (cmpN a.2.2 b.2.2) = cmpC a b := by
  unfold orC cmpC
  by_cases h1 : a.1 = b.1
  · rw [if_neg (show ¬ cmpN a.1 b.1 ≠ 0 from fun h => h (cmpN_zero.2 h1)), if_neg (show ¬ a.1 ≠ b.1 from fun h => h h1)]
    by_cases h2 : a.2.1 = b.2.1
    · rw [if_neg (show ¬ cmpN a.2.1 b.2.1 ≠ 0 from fun h => h (cmpN_zero.2 h2)), if_neg (show ¬ a.2.1 ≠ b.2.1 from fun h => h h2)]
    · rw [if_pos (show cmpN a.2.1 b.2.1 ≠ 0 from fun h => h2 (cmpN_zero.1 h)), if_pos h2]
  · rw [if_pos (show cmpN a.1 b.1 ≠ 0 from fun h => h1 (cmpN_zero.1 h)), if_pos h1]
set_option maxHeartbeats 4000000 in
theorem cmp_s (a b : Cn) (w : World) :
    Calls Tryz.prog 69 #[cnV a, cnV b] w fun e w' => e = .returned (.int .i64 (cmpC a b)) ∧ Below w.heap.size w w' := by
  have HE := Lib.hid (orC_cmp a b)
  obtain ⟨a0, a1, a2⟩ := a
  obtain ⟨b0, b1, b2⟩ := b
  show Calls _ _ #[.agg #[.int .i64 a0, .int .i64 a1, .int .i64 a2], .agg #[.int .i64 b0, .int .i64 b1, .int .i64 b2]] w _
  have L0 := Lib.hid (below_allocs [cnB (a0, a1, a2), cnB (b0, b1, b2)] _ _ _ (Below.refl w.heap.size w) (Nat.le_refl _))
  obtain ⟨d0, d1, d2⟩ := box_cells (w.alloc (cnB (a0, a1, a2))) (b0, b1, b2)
  obtain ⟨c0, c1, c2⟩ : ((w.alloc (cnB (a0, a1, a2))).alloc (cnB (b0, b1, b2))).cell? ⟨w.heap.size, 0, none⟩ = some (.int .i64 a0) ∧ ((w.alloc (cnB (a0, a1, a2))).alloc (cnB (b0, b1, b2))).cell? ⟨w.heap.size, 1, none⟩ = some (.int .i64 a1) ∧ ((w.alloc (cnB (a0, a1, a2))).alloc (cnB (b0, b1, b2))).cell? ⟨w.heap.size, 2, none⟩ = some (.int .i64 a2) := by
    obtain ⟨e0, e1, e2⟩ := box_cells w (a0, a1, a2)
    have hb := box_below (w.alloc (cnB (a0, a1, a2))) (cnB (b0, b1, b2))
    have hl := box_lt w (cnB (a0, a1, a2))
    exact ⟨(hb.cell (p := ⟨w.heap.size, 0, none⟩) hl).trans e0, (hb.cell (p := ⟨w.heap.size, 1, none⟩) hl).trans e1, (hb.cell (p := ⟨w.heap.size, 2, none⟩) hl).trans e2⟩
  rw [World.size_alloc] at d0 d1 d2
  unfold cnB at c0 c1 c2 d0 d1 d2 L0
  dsimp only [List.foldl] at c0 c1 c2 d0 d1 d2 L0
  go_enter Tryz.func69, Tryz.ntmps69
  go_wp2_with fail
  generalize (w.alloc (.cells #[.int .i64 a0, .int .i64 a1, .int .i64 a2] 23)).alloc (.cells #[.int .i64 b0, .int .i64 b1, .int .i64 b2] 23) = W0 at c0 c1 c2 d0 d1 d2 L0 ⊢
  refine wp_region_still_tail 15 (by kernel_rfl) (by kernel_rfl) ?_
  simp only [List.take_succ_cons, List.take_zero, List.drop_succ_cons, List.drop_zero]
  change wpStill _ _ (World.drew W0) _ _ _
  still_step
  still_step
  still_step
  still_step
  still_call (icmp_q a0 b0 _)
  still_step
  still_step
  still_step
  still_step
  still_call (icmp_q a1 b1 _)
  still_step
  still_step
  still_step
  still_step
  still_call (icmp_q a2 b2 _)
  refine wpStill_nil ?_
  change wpList _ _ _ _ _ (World.drew W0)
  go_wp2_with (go_at_call 112; refine (or3_s _ _ _ (World.drew W0)).mono ?_; rintro e w' ⟨rfl, rfl⟩)
  go_ret
  exact ⟨by rw [← HE.out]; rfl, (L0.out.drew).alloc (by have := L0.out.size; exact this) _⟩
end Csn
end Go.Proofs.YtbkignlbcneddaaGreatDoor
end

section
/-
  Contracts of the specification's Compare, and of Next in the program and in the specification. No condition.
-/
set_option maxRecDepth 100000
set_option maxRecDepth 100000
namespace Go.Proofs.YtbkignlbcneddaaGreatDoor
namespace Csn
open Go.RowKit Go.PlainAid
end Csn
end Go.Proofs.YtbkignlbcneddaaGreatDoor
end

section
/-
  Contracts of strconv.FormatInt at base 16 (what csn's text forms need of it). Condition: numbers below 16 to the power of 16; one cell of the table of math/bits as the card says.
-/
set_option maxRecDepth 100000
set_option maxRecDepth 100000
namespace Go.Proofs.YtbkignlbcneddaaGreatDoor
namespace Csn
open Go.RowKit Go.PlainAid
/-- the table's cell that is read at base 16 -/
def TzOk (w : World) : Prop := w.cell? ⟨6, 15, none⟩ = some (.int .u8 4)
theorem TzOk.below {w w' : World} (h : TzOk w) (hb : Below w.heap.size w w') : TzOk w' := by
  have hlt : 6 < w.heap.size := World.block_lt_of_cell? w _ h
  unfold TzOk
  rw [hb.cell (p := ⟨6, 15, none⟩) hlt]; exact h
def dig36 : ByteArray := ⟨#[48, 49, 50, 51, 52, 53, 54, 55, 56, 57, 97, 98, 99, 100, 101, 102, 103, 104, 105, 106, 107, 108, 109, 110, 111, 112, 113, 114, 115, 116, 117, 118, 119, 120, 121, 122]⟩
theorem dig36_at : ∀ d : Nat, d < 16 → bt dig36 d = ((hexD d).toNat : Int) := by decide +kernel
def arC (n k : Nat) : List Value := List.replicate (65 - k) (Value.int .u8 0) ++ bcells (hexK k n)
theorem arC_at (n k : Nat) (hk : k < 65) : (arC n k)[64 - k]? = some (.int .u8 0) := by
  unfold arC
  rw [List.getElem?_append_left (by rw [List.length_replicate]; omega), List.getElem?_replicate, if_pos (by omega)]
theorem arC_set (n k : Nat) (hk : k < 65) : (arC n k).set (64 - k) (.int .u8 ((hexD (n / 16 ^ k % 16)).toNat : Int)) = arC n (k + 1) := by
  have e : 65 - k = (64 - k) + 1 := by omega
  unfold arC
  rw [hexK_front, e, List.replicate_succ', List.append_assoc, show 65 - (k + 1) = 64 - k by omega]
  rw [List.set_append_right _ _ (by rw [List.length_replicate]; omega), List.length_replicate, Nat.sub_self]
  rfl
def arW (w : World) (n k : Nat) : World := w.alloc (.cells (arC n k).toArray 238)
theorem arW_cell (w : World) (n k j : Nat) : (arW w n k).cell? ⟨w.heap.size, j, none⟩ = (arC n k)[j]? := by
  unfold arW
  rw [World.cell?_alloc_at _ _ _ _ rfl]; simp
theorem arW_set (w : World) (n k : Nat) (hk : k < 65) : (arW w n k).setCell ⟨w.heap.size, 64 - k, none⟩ (.int .u8 ((hexD (n / 16 ^ k % 16)).toNat : Int)) = arW w n (k + 1) := by
  unfold arW
  rw [World.setCell_alloc_at _ _ _ _ _ rfl, List.setIfInBounds_toArray, arC_set n k hk]
theorem and15u (m : Nat) (hm : m < 18446744073709551616) : ∃ d : Nat, Hid (d = m % 16) ∧ d < 16 ∧ bits .and .u64 (m : Int) 15 = (d : Int) :=
  ⟨m % 16, Lib.hid rfl, Nat.mod_lt _ (by decide), by
    have := bits_mask .u64 64 (by decide) (fun n h0 h1 => by rw [IntKind.wrap_u64]; omega) 4 (by decide) (m : Int) (by omega) (by omega)
    rw [show ((2 : Int) ^ 4 - 1) = 15 by decide, show ((2 : Int) ^ 4) = 16 by decide] at this
    rw [this]; rfl⟩
theorem pow2_s (w : World) :
    Calls Tryz.prog 240 #[.int .i64 16] w fun e w' => e = .returned (.bool true) ∧ w = w' := by
  have h : bits .and .i64 16 15 = 0 := by decide +kernel
  go_enter Tryz.func240, Tryz.ntmps240
  go_wp2
  go_ret
  exact ⟨rfl, rfl⟩
theorem tz64_s (w : World) (h : TzOk w) :
    Calls Tryz.prog 246 #[.int .u64 16] w fun e w' => e = .returned (.int .i64 4) ∧ w = w' := by
  have h0 : w.cell? ⟨6, 15, none⟩ = some (.int .u8 4) := h
  have h1 : IntKind.u64.wrap (-16) = 18446744073709551600 := by decide +kernel
  have h2 : bits .and .u64 16 18446744073709551600 = 16 := by decide +kernel
  have h3 : IntKind.u64.wrap (16 * 285870213051353865) = 4573923408821661840 := by decide +kernel
  go_enter Tryz.func246, Tryz.ntmps246
  go_wp2
  go_ret
  exact ⟨rfl, rfl⟩
theorem tz_s (w : World) (h : TzOk w) :
    Calls Tryz.prog 241 #[.int .u64 16] w fun e w' => e = .returned (.int .i64 4) ∧ w = w' := by
  go_enter Tryz.func241, Tryz.ntmps241
  go_wp2_with (go_at_call 246; refine (tz64_s _ h).mono ?_; rintro e w' ⟨rfl, rfl⟩)
  go_ret
  exact ⟨rfl, rfl⟩
end Csn
end Go.Proofs.YtbkignlbcneddaaGreatDoor
end

section
/-
  Contracts of strconv.formatBits and FormatInt at base 16. Condition: numbers below 16 to the power of 15; one cell of the table of math/bits as the card says.
-/
set_option maxRecDepth 100000
set_option maxRecDepth 100000
namespace Go.Proofs.YtbkignlbcneddaaGreatDoor
namespace Csn
open Go.RowKit Go.PlainAid
/-- a form of a number: its lowest m digits, which are all that are not zero -/
def HexOf (n k : Nat) (r : ByteArray) : Prop := ∃ m, 1 ≤ m ∧ m ≤ k ∧ n < 16 ^ m ∧ r = ⟨(hexK m n).toArray⟩
theorem pow16_le {a b : Nat} (h : a ≤ b) : 16 ^ a ≤ 16 ^ b := Nat.pow_le_pow_right (by decide) h
set_option maxHeartbeats 8000000 in
theorem fbits_s (n k : Nat) (w : World) (hn : n < 16 ^ k) (hk : 1 ≤ k) (hk2 : k ≤ 15) (ho : TzOk w) :
    Calls Tryz.prog 214 #[.slice none 0 0, .int .u64 n, .int .i64 16, .bool false, .bool false] w fun e w' => ∃ r, e = .returned (.tuple #[.slice none 0 0, .string r]) ∧ HexOf n k r ∧ Below w.heap.size w w' := by
  have hx := get_bt (⟨#[48, 49, 50, 51, 52, 53, 54, 55, 56, 57, 97, 98, 99, 100, 101, 102, 103, 104, 105, 106, 107, 108, 109, 110, 111, 112, 113, 114, 115, 116, 117, 118, 119, 120, 121, 122]⟩ : ByteArray)
  have HO := Lib.hid ho
  clear ho
  have HN := Lib.hid hn
  have hn2 : n < 1152921504606846976 := Nat.lt_of_lt_of_le hn (pow16_le hk2)
  clear hn
  go_enter Tryz.func214, Tryz.ntmps214
  go_wp2_with (first | (go_at_call 240; refine (pow2_s _).mono ?_; rintro e w' ⟨rfl, rfl⟩) | (go_at_call 241; refine (tz_s _ (HO.out.below (box_below _ _))).mono ?_; rintro e w' ⟨rfl, rfl⟩))
  go_loopw [1, 13] (fun u iv wr => ∃ j i m : Nat, j < k ∧ i + j = 65 ∧ iv = .int .i64 i ∧ u = .int .u64 m ∧ Hid (m = n / 16 ^ j) ∧ Hid (wr = arW w n j)) (fun _ iv _ => (intOf iv).toNat)
  case atStart => exact ⟨0, 65, n, by omega, rfl, rfl, rfl, Lib.hid (by simp), Lib.hid rfl⟩
  case round =>
    obtain ⟨j, i, m, hj, hij, rfl, rfl, HM, HW⟩ := hrel
    obtain ⟨p, rfl⟩ : ∃ p, i = p + 1 := ⟨i - 1, by omega⟩
    have hp : p < 65 := by omega
    have hp2 : p = 64 - j := by omega
    have hcell : wr.cell? ⟨w.heap.size, p, none⟩ = some (.int .u8 0) := by rw [HW.out, arW_cell, hp2, arC_at n j (by omega)]
    have hfr : wr.frozen? ⟨w.heap.size, p, none⟩ = false := by
      rw [HW.out]; unfold arW
      exact World.frozen?_alloc_at _ _ _ _ rfl
    have hml : m < 1152921504606846976 := by rw [HM.out]; exact Nat.lt_of_le_of_lt (Nat.div_le_self _ _) hn2
    have HP := Lib.hid hp2
    clear hp2
    by_cases hlt : 16 ≤ m
    · have hlt2 : (16 : Int) ≤ (m : Int) := by omega
      obtain ⟨d, HD, hd, hand⟩ := and15u m (by omega)
      have hjk : j + 1 < k := by
        rcases Nat.lt_or_ge (j + 1) k with h | h
        · exact h
        · have h1 : n < 16 ^ (j + 1) := Nat.lt_of_lt_of_le HN.out (pow16_le h)
          rw [Nat.pow_succ] at h1
          have h2 : n / 16 ^ j < 16 := Nat.div_lt_of_lt_mul (by rw [Nat.mul_comm] at h1; omega)
          rw [← HM.out] at h2; omega
      go_wp2_with fail
      go_roundw
      case rel => exact ⟨j + 1, p, m / 16, hjk, by omega, rfl, by rw [Int.natCast_ediv]; rfl, Lib.hid (by rw [HM.out, Nat.div_div_eq_div_mul, Nat.pow_succ]), Lib.hid (by
        rw [show bt (⟨#[48, 49, 50, 51, 52, 53, 54, 55, 56, 57, 97, 98, 99, 100, 101, 102, 103, 104, 105, 106, 107, 108, 109, 110, 111, 112, 113, 114, 115, 116, 117, 118, 119, 120, 121, 122]⟩ : ByteArray) d = ((hexD (n / 16 ^ j % 16)).toNat : Int) by rw [← HM.out, ← HD.out]; exact dig36_at d hd, HW.out, HP.out]
        exact arW_set w n j (by omega))⟩
      case measure => simp [intOf]
    · have hlt2 : ¬ (16 : Int) ≤ (m : Int) := by omega
      have hm36 : m < 36 := by omega
      obtain ⟨r, HR⟩ : ∃ r : ByteArray, Hid (r = ⟨(hexK (j + 1) n).toArray⟩) := ⟨_, Lib.hid rfl⟩
      obtain ⟨W2, HW2⟩ : ∃ W2, Hid (W2 = arW w n (j + 1)) := ⟨_, Lib.hid rfl⟩
      have hst : wr.setCell ⟨w.heap.size, p, none⟩ (.int .u8 (bt (⟨#[48, 49, 50, 51, 52, 53, 54, 55, 56, 57, 97, 98, 99, 100, 101, 102, 103, 104, 105, 106, 107, 108, 109, 110, 111, 112, 113, 114, 115, 116, 117, 118, 119, 120, 121, 122]⟩ : ByteArray) m)) = W2 := by
        rw [show bt (⟨#[48, 49, 50, 51, 52, 53, 54, 55, 56, 57, 97, 98, 99, 100, 101, 102, 103, 104, 105, 106, 107, 108, 109, 110, 111, 112, 113, 114, 115, 116, 117, 118, 119, 120, 121, 122]⟩ : ByteArray) m = ((hexD (n / 16 ^ j % 16)).toNat : Int) by rw [← HM.out, Nat.mod_eq_of_lt (by omega)]; exact dig36_at m (by omega), HW.out, HW2.out, HP.out]
        exact arW_set w n j (by omega)
      have hbk : (convert 79 9 (.slice (some ⟨w.heap.size, p, none⟩) (65 - p) (65 - p))).run Tryz.prog W2 = .ok (.string r) W2 := by
        rw [HR.out]
        have hl : (hexK (j + 1) n).length = 65 - p := by rw [hexK_length]; omega
        have := run_convert_bytes_back (P := Tryz.prog) W2 79 9 5 ⟨w.heap.size, p, none⟩ (65 - p) (hexK (j + 1) n) Tryz.underlying79 Tryz.underlying5 Tryz.underlying9 (fun q hq => by
          rw [Go.WideShapes.add_plain, HW2.out, arW_cell]
          unfold arC
          rw [List.getElem?_append_right (by rw [List.length_replicate]; omega), List.length_replicate, show p + q - (65 - (j + 1)) = q by omega]
          simp [bcells, hq])
        rw [hl] at this; exact this
      have HB : Hid (Below w.heap.size w W2) := Lib.hid (by rw [HW2.out]; exact (Below.refl _ _).alloc (Nat.le_refl _) _)
      have HF : Hid (HexOf n k r) := Lib.hid ⟨j + 1, by omega, by omega, by
        have h1 : n / 16 ^ j < 16 := by rw [← HM.out]; omega
        rw [Nat.pow_succ]
        exact (Nat.div_lt_iff_lt_mul (Nat.pow_pos (by decide))).1 h1 |> fun h => by rw [Nat.mul_comm]; exact h, HR.out⟩
      clear HR
      have hp3 : (p : Int) ≤ 65 := by omega
      have hp4 : ¬ 65 = p := by omega
      go_wp2_with fail
      go_ret2
      exact ⟨r, rfl, HF.out, HB.out⟩
end Csn
end Go.Proofs.YtbkignlbcneddaaGreatDoor
end

section
/-
  Contracts of csn.digits and Format. Condition: one cell of the table of math/bits as the card says.
-/
set_option maxRecDepth 100000
set_option maxRecDepth 100000
namespace Go.Proofs.YtbkignlbcneddaaGreatDoor
namespace Csn
open Go.RowKit Go.PlainAid
theorem ifmt_s (n k : Nat) (w : World) (hn : n < 16 ^ k) (hk : 1 ≤ k) (hk2 : k ≤ 15) (ho : TzOk w) :
    Calls Tryz.prog 162 #[.int .i64 n, .int .i64 16] w fun e w' => ∃ r, e = .returned (.string r) ∧ HexOf n k r ∧ Below w.heap.size w w' := by
  have hn2 : n < 1152921504606846976 := Nat.lt_of_lt_of_le hn (pow16_le hk2)
  have HC := Lib.hid (fbits_s n k w hn hk hk2 ho)
  clear hn
  have d0 : decide ((n : Int) < 0) = false := decide_eq_false (by omega)
  have e1 : IntKind.u64.wrap (n : Int) = n := by rw [IntKind.wrap_u64]; omega
  go_enter Tryz.func162, Tryz.ntmps162
  go_wp2_with (go_at_call 214; refine HC.out.mono ?_; rintro e w' ⟨r, rfl, hr, hb⟩)
  go_ret
  exact ⟨r, rfl, hr, hb⟩
theorem fmt16_s (n k : Nat) (w : World) (hn : n < 16 ^ k) (hk : 1 ≤ k) (hk2 : k ≤ 15) (ho : TzOk w) :
    Calls Tryz.prog 127 #[.int .i64 n, .int .i64 16] w fun e w' => ∃ r, e = .returned (.string r) ∧ HexOf n k r ∧ Below w.heap.size w w' := by
  have HC := Lib.hid (ifmt_s n k w hn hk hk2 ho)
  clear hn
  go_enter Tryz.func127, Tryz.ntmps127
  go_wp2_with (go_at_call 162; refine HC.out.mono ?_; rintro e w' ⟨r, rfl, hr, hb⟩)
  go_ret
  exact ⟨r, rfl, hr, hb⟩
theorem hexK_pad (m n : Nat) (h : n < 16 ^ m) : ∀ d, hexK (m + d) n = List.replicate d 48 ++ hexK m n
  | 0 => rfl
  | d + 1 => by
    rw [← Nat.add_assoc, hexK_front, hexK_pad m n h d, List.replicate_succ, List.cons_append]
    congr 1
    rw [Nat.div_eq_of_lt (Nat.lt_of_lt_of_le h (pow16_le (by omega)))]
    rfl
theorem rep_one (c : UInt8) : ∀ k, Lib.repeatL [c] k = List.replicate k c
  | 0 => rfl
  | k + 1 => by
    show [c] ++ Lib.repeatL [c] k = _
    rw [rep_one c k, List.replicate_succ]; rfl
theorem rep48_k (c : Nat) (v : Int) (w : World) (hv : v = (c : Int)) (hc : c ≤ 1000) :
    Calls Tryz.prog 128 #[.string ⟨#[48]⟩, .int .i64 v] w fun e w' => e = .returned (.string ⟨(List.replicate c (48 : UInt8)).toArray⟩) ∧ Below w.heap.size w w' := by
  subst hv
  refine (Tryz.strings_Repeat ⟨#[48]⟩ c w (by omega) (by show 1 * c ≤ _; omega)).mono fun e w' h => ⟨?_, h.2⟩
  rw [h.1, show (⟨#[48]⟩ : ByteArray).data.toList = [48] from rfl, rep_one]
def hexS15 (k n : Nat) : ByteArray := ⟨(hexK k n).toArray⟩
theorem hexS_size (k n : Nat) : (hexS15 k n).size = k := by unfold hexS15; rw [Lib.size_mk, hexK_length]
theorem digits_s (n k : Nat) (w : World) (hn : n < 16 ^ k) (hk : 1 ≤ k) (hk2 : k ≤ 15) (ho : TzOk w) :
    Calls Tryz.prog 87 #[.int .i64 n, .int .i64 k] w fun e w' => e = .returned (.string (hexS15 k n)) ∧ Below w.heap.size w w' := by
  have HC := Lib.hid (fmt16_s n k w hn hk hk2 ho)
  clear hn
  go_enter Tryz.func87, Tryz.ntmps87
  go_wp2_with fail
  refine HC.out.mono ?_
  rintro e w1 ⟨r, rfl, ⟨m, hm1, hm2, hm3, hr⟩, hb⟩
  have hsz : r.size = m := by rw [hr, Lib.size_mk, hexK_length]
  have HR := Lib.hid (show (⟨(List.replicate (k - m) (48 : UInt8)).toArray⟩ : ByteArray) ++ r = hexS15 k n by
    unfold hexS15
    rw [hr, show k = m + (k - m) by omega, hexK_pad m n hm3, show m + (k - m) - m = k - m by omega]
    apply ByteArray.ext
    rw [ByteArray.data_append]
    simp)
  clear hr
  obtain ⟨z, hz, hzs⟩ : ∃ z : ByteArray, z = (⟨(List.replicate (k - m) (48 : UInt8)).toArray⟩ : ByteArray) ∧ z.size = k - m := ⟨_, rfl, by rw [Lib.size_mk, List.length_replicate]⟩
  have HRp := Lib.hid (rep48_k (k - m))
  rw [← hz] at HR HRp
  clear hz
  go_wp2_with fail
  refine (HRp.out _ w1 (by omega) (by omega)).mono ?_
  rintro e w2 ⟨rfl, hb2⟩
  have hlim : ¬ 9223372036854775807 < z.size + r.size := by omega
  go_wp2_with fail
  go_ret
  exact ⟨by rw [← HR.out]; rfl, hb.trans (hb2.mono hb.size)⟩
end Csn
end Go.Proofs.YtbkignlbcneddaaGreatDoor
end

section
/-
  Contract of csn.Format. Condition: one cell of the table of math/bits as the card says.
-/
set_option maxRecDepth 100000
set_option maxRecDepth 100000
namespace Go.Proofs.YtbkignlbcneddaaGreatDoor
namespace Csn
open Go.RowKit Go.PlainAid
theorem fmtS_is {c : Cn} (h : Vld c) : fmtS c = hexS15 11 c.1.toNat ++ ⟨#[45]⟩ ++ hexS15 8 c.2.1.toNat ++ ⟨#[45]⟩ ++ hexS15 1 c.2.2.toNat := by
  unfold fmtS
  rw [if_pos h]
  unfold fmtL hexS15
  apply ByteArray.ext
  rw [ByteArray.data_append, ByteArray.data_append, ByteArray.data_append, ByteArray.data_append]
  simp
theorem dig_k (n k : Nat) (v : Int) (x : ByteArray) (w : World) (hv : v = (n : Int)) (hn : n < 16 ^ k) (hk : 1 ≤ k) (hk2 : k ≤ 15) (ho : TzOk w) (hx : hexS15 k n = x) :
    Calls Tryz.prog 87 #[.int .i64 v, .int .i64 k] w fun e w' => e = .returned (.string x) ∧ Below w.heap.size w w' := by subst hv; subst hx; exact digits_s n k w hn hk hk2 ho
/-- the box's cells, while the world grows -/
def BxC (w : World) (b : Nat) (c : Cn) (V : World) : Prop := V.cell? ⟨b, 0, none⟩ = some (.int .i64 c.1) ∧ V.cell? ⟨b, 1, none⟩ = some (.int .i64 c.2.1) ∧ V.cell? ⟨b, 2, none⟩ = some (.int .i64 c.2.2) ∧ b < V.heap.size ∧ Below w.heap.size w V
theorem BxC.step {w V X : World} {b : Nat} {c : Cn} (h : BxC w b c V) (hb : Below V.heap.size V X) (hw : w.heap.size ≤ V.heap.size) : BxC w b c X := by
  obtain ⟨h0, h1, h2, h3, h4⟩ := h
  exact ⟨(hb.cell (p := ⟨b, 0, none⟩) h3).trans h0, (hb.cell (p := ⟨b, 1, none⟩) h3).trans h1, (hb.cell (p := ⟨b, 2, none⟩) h3).trans h2, Nat.lt_of_lt_of_le h3 hb.size, h4.trans (hb.mono hw)⟩
set_option maxHeartbeats 8000000 in
theorem format_s (c : Cn) (w : World) (ho : TzOk w) :
    Calls Tryz.prog 41 #[cnV c] w fun e w' => e = .returned (.string (fmtS c)) ∧ Below w.heap.size w w' := by
  obtain ⟨t, s, r⟩ := c
  show Calls _ _ #[.agg #[.int .i64 t, .int .i64 s, .int .i64 r]] w _
  have hv1 := vld_k (t, s, r)
  dsimp only at hv1
  cases hv : vldC (t, s, r)
  · have HF := Lib.hid (show fmtS (t, s, r) = ⟨#[]⟩ from if_neg fun k => by rw [(vldC_iff _).2 k] at hv; cases hv)
    rw [HF.out]
    go_enter Tryz.func41, Tryz.ntmps41
    go_wp2_with (go_at_call 40; refine (hv1 false _ hv).mono ?_; rintro e w' ⟨rfl, rfl⟩)
    go_ret
    exact ⟨rfl, below_allocs [_, _] _ _ _ (Below.refl _ _) (Nat.le_refl _)⟩
  · have hV := (vldC_iff _).1 hv
    have HF := Lib.hid (fmtS_is hV)
    unfold Vld at hV
    dsimp only at hV HF
    obtain ⟨v0, v1, v2, v3, v4, v5⟩ := hV
    obtain ⟨x, hx⟩ : ∃ x, hexS15 11 t.toNat = x := ⟨_, rfl⟩
    obtain ⟨y, hy⟩ : ∃ x, hexS15 8 s.toNat = x := ⟨_, rfl⟩
    obtain ⟨z, hz⟩ : ∃ x, hexS15 1 r.toNat = x := ⟨_, rfl⟩
    rw [hx, hy, hz] at HF
    have p11 : (16 : Nat) ^ 11 = 17592186044416 := by decide
    have p8 : (16 : Nat) ^ 8 = 4294967296 := by decide
    have p1 : (16 : Nat) ^ 1 = 16 := by decide
    have sx : x.size = 11 := by rw [← hx]; exact hexS_size _ _
    have sy : y.size = 8 := by rw [← hy]; exact hexS_size _ _
    have sz : z.size = 1 := by rw [← hz]; exact hexS_size _ _
    have D1 := Lib.hid (fun (W : World) (h : TzOk W) => dig_k t.toNat 11 t x W (by omega) (by omega) (by omega) (by omega) h hx)
    have D2 := Lib.hid (fun (W : World) (h : TzOk W) => dig_k s.toNat 8 s y W (by omega) (by omega) (by omega) (by omega) h hy)
    have D3 := Lib.hid (fun (W : World) (h : TzOk W) => dig_k r.toNat 1 r z W (by omega) (by omega) (by omega) (by omega) h hz)
    clear hx hy hz p11 p8 p1
    have s45 : (⟨#[45]⟩ : ByteArray).size = 1 := rfl
    have l1 : ¬ 9223372036854775807 < x.size + (⟨#[45]⟩ : ByteArray).size := by omega
    have z1 : (x ++ (⟨#[45]⟩ : ByteArray)).size = 12 := by rw [ByteArray.size_append]; omega
    have l2 : ¬ 9223372036854775807 < (x ++ (⟨#[45]⟩ : ByteArray)).size + y.size := by omega
    have z2 : (x ++ (⟨#[45]⟩ : ByteArray) ++ y).size = 20 := by rw [ByteArray.size_append]; omega
    have l3 : ¬ 9223372036854775807 < (x ++ (⟨#[45]⟩ : ByteArray) ++ y).size + (⟨#[45]⟩ : ByteArray).size := by omega
    have z3 : (x ++ (⟨#[45]⟩ : ByteArray) ++ y ++ (⟨#[45]⟩ : ByteArray)).size = 21 := by rw [ByteArray.size_append]; omega
    have l4 : ¬ 9223372036854775807 < (x ++ (⟨#[45]⟩ : ByteArray) ++ y ++ (⟨#[45]⟩ : ByteArray)).size + z.size := by omega
    have B0 : BxC w w.heap.size (t, s, r) ((w.alloc (cnB (t, s, r))).alloc (cnB (t, s, r))) := by
      obtain ⟨c0, c1, c2⟩ := box_cells w (t, s, r)
      exact BxC.step (V := w.alloc (cnB (t, s, r))) ⟨c0, c1, c2, box_lt _ _, box_below _ _⟩ (box_below _ _) (Nat.le_of_lt (box_lt _ _))
    unfold cnB at B0
    dsimp only at B0
    have HO := Lib.hid ho
    clear ho
    go_enter Tryz.func41, Tryz.ntmps41
    go_wp2_with (go_at_call 40; refine (hv1 true _ hv).mono ?_; rintro e w' ⟨rfl, rfl⟩)
    generalize hW0 : (w.alloc (.cells #[.int .i64 t, .int .i64 s, .int .i64 r] 23)).alloc (.cells #[.int .i64 t, .int .i64 s, .int .i64 r] 23) = W0 at B0 ⊢
    clear hW0
    have HB := Lib.hid B0
    obtain ⟨c0, c1, c2, _, _⟩ := B0
    have HSt := Lib.hid (show ∀ V X : World, BxC w w.heap.size (t, s, r) V → Below V.heap.size V X → (X.cell? ⟨w.heap.size, 0, none⟩ = some (.int .i64 t) ∧ X.cell? ⟨w.heap.size, 1, none⟩ = some (.int .i64 s) ∧ X.cell? ⟨w.heap.size, 2, none⟩ = some (.int .i64 r) ∧ Hid (BxC w w.heap.size (t, s, r) X)) from fun V X h hb => by
      have k := h.step hb (Nat.le_of_lt h.2.2.2.1)
      exact ⟨k.1, k.2.1, k.2.2.1, Lib.hid k⟩)
    have S0 := HSt.out _ _ HB.out (Below.refl _ _).drew
    clear c0 c1 c2
    refine wp_region_held_drew (S := fun V => V.cell? ⟨w.heap.size, 0, none⟩ = some (.int .i64 t) ∧ V.cell? ⟨w.heap.size, 1, none⟩ = some (.int .i64 s) ∧ V.cell? ⟨w.heap.size, 2, none⟩ = some (.int .i64 r) ∧ Hid (BxC w w.heap.size (t, s, r) V)) (by kernel_rfl) (S0) (fun hS => ?_)
    refine wpAnyH_take (i := 0) (oi := { dst := some 6, op := _, type := _, pos := _, after := _, guard := _ }) (v := ?_) rfl (by kernel_rfl) (by kernel_rfl) (by kernel_rfl) (fun _ _ _ h => h) (Or.inl ⟨by rfl, ?_⟩) (by assumption) ?_
    rotate_left
    · intro w hSw
      try dsimp only at hSw
      go_simp
      try with_reducible rfl
    try simp only [Act.put, List.setIfInBounds_toArray, List.set_cons_zero, List.set_cons_succ]
    refine wpAnyH_take (i := 1) (oi := { dst := some 7, op := _, type := _, pos := _, after := _, guard := _ }) (v := ?_) rfl (by kernel_rfl) (by kernel_rfl) (by kernel_rfl) (fun _ _ _ h => h) (Or.inl ⟨by rfl, ?_⟩) (by assumption) ?_
    rotate_left
    · intro w hSw
      try dsimp only at hSw
      go_simp
      try with_reducible rfl
    try simp only [Act.put, List.setIfInBounds_toArray, List.set_cons_zero, List.set_cons_succ]
    refine wpAnyH_take (i := 4) (oi := { dst := some 10, op := _, type := _, pos := _, after := _, guard := _ }) (v := ?_) rfl (by kernel_rfl) (by kernel_rfl) (by kernel_rfl) (fun _ _ _ h => h) (Or.inl ⟨by rfl, ?_⟩) (by assumption) ?_
    rotate_left
    · intro w hSw
      try dsimp only at hSw
      go_simp
      try with_reducible rfl
    try simp only [Act.put, List.setIfInBounds_toArray, List.set_cons_zero, List.set_cons_succ]
    refine wpAnyH_take (i := 5) (oi := { dst := some 11, op := _, type := _, pos := _, after := _, guard := _ }) (v := ?_) rfl (by kernel_rfl) (by kernel_rfl) (by kernel_rfl) (fun _ _ _ h => h) (Or.inl ⟨by rfl, ?_⟩) (by assumption) ?_
    rotate_left
    · intro w hSw
      try dsimp only at hSw
      go_simp
      try with_reducible rfl
    try simp only [Act.put, List.setIfInBounds_toArray, List.set_cons_zero, List.set_cons_succ]
    refine wpAnyH_take (i := 9) (oi := { dst := some 15, op := _, type := _, pos := _, after := _, guard := _ }) (v := ?_) rfl (by kernel_rfl) (by kernel_rfl) (by kernel_rfl) (fun _ _ _ h => h) (Or.inl ⟨by rfl, ?_⟩) (by assumption) ?_
    rotate_left
    · intro w hSw
      try dsimp only at hSw
      go_simp
      try with_reducible rfl
    try simp only [Act.put, List.setIfInBounds_toArray, List.set_cons_zero, List.set_cons_succ]
    refine wpAnyH_take (i := 10) (oi := { dst := some 16, op := _, type := _, pos := _, after := _, guard := _ }) (v := ?_) rfl (by kernel_rfl) (by kernel_rfl) (by kernel_rfl) (fun _ _ _ h => h) (Or.inl ⟨by rfl, ?_⟩) (by assumption) ?_
    rotate_left
    · intro w hSw
      try dsimp only at hSw
      go_simp
      try with_reducible rfl
    try simp only [Act.put, List.setIfInBounds_toArray, List.set_cons_zero, List.set_cons_succ]
    refine wpAnyH_ready (rs := [2]) (by kernel_rfl) (by simp) ?_
    refine AllReadyH.cons rfl (fun K hK => ?_) AllReadyH.nil
    go_simp
    refine (D1.out _ (HO.out.below hS.2.2.2.out.2.2.2.2)).mono ?_
    rintro e v1 ⟨rfl, hb⟩
    have HKp := hS.2.2.2
    go_wp2_with fail
    refine hK.out _ _ ?_ (fun hHeld => ?_)
    · exact HSt.out _ _ HKp.out hb
    clear hK K
    try simp only [Act.put, List.setIfInBounds_toArray, List.set_cons_zero, List.set_cons_succ]
    refine wpAnyH_take (i := 3) (oi := { dst := some 9, op := _, type := _, pos := _, after := _, guard := _ }) (v := ?_) rfl (by kernel_rfl) (by kernel_rfl) (by kernel_rfl) (fun _ _ _ h => h) (Or.inl ⟨by rfl, ?_⟩) (by assumption) ?_
    rotate_left
    · intro w hSw
      try dsimp only at hSw
      go_simp
      try with_reducible rfl
    try simp only [Act.put, List.setIfInBounds_toArray, List.set_cons_zero, List.set_cons_succ]
    refine wpAnyH_ready (rs := [6]) (by kernel_rfl) (by simp) ?_
    refine AllReadyH.cons rfl (fun K hK => ?_) AllReadyH.nil
    go_simp
    refine (D2.out _ (HO.out.below hHeld.2.2.2.out.2.2.2.2)).mono ?_
    rintro e v2 ⟨rfl, hb⟩
    have HKp := hHeld.2.2.2
    go_wp2_with fail
    refine hK.out _ _ ?_ (fun hHeld => ?_)
    · exact HSt.out _ _ HKp.out hb
    clear hK K
    try simp only [Act.put, List.setIfInBounds_toArray, List.set_cons_zero, List.set_cons_succ]
    refine wpAnyH_take (i := 7) (oi := { dst := some 13, op := _, type := _, pos := _, after := _, guard := _ }) (v := ?_) rfl (by kernel_rfl) (by kernel_rfl) (by kernel_rfl) (fun _ _ _ h => h) (Or.inl ⟨by rfl, ?_⟩) (by assumption) ?_
    rotate_left
    · intro w hSw
      try dsimp only at hSw
      go_simp
      try with_reducible rfl
    try simp only [Act.put, List.setIfInBounds_toArray, List.set_cons_zero, List.set_cons_succ]
    refine wpAnyH_take (i := 8) (oi := { dst := some 14, op := _, type := _, pos := _, after := _, guard := _ }) (v := ?_) rfl (by kernel_rfl) (by kernel_rfl) (by kernel_rfl) (fun _ _ _ h => h) (Or.inl ⟨by rfl, ?_⟩) (by assumption) ?_
    rotate_left
    · intro w hSw
      try dsimp only at hSw
      go_simp
      try with_reducible rfl
    try simp only [Act.put, List.setIfInBounds_toArray, List.set_cons_zero, List.set_cons_succ]
    refine wpAnyH_ready (rs := [11]) (by kernel_rfl) (by simp) ?_
    refine AllReadyH.cons rfl (fun K hK => ?_) AllReadyH.nil
    go_simp
    refine (D3.out _ (HO.out.below hHeld.2.2.2.out.2.2.2.2)).mono ?_
    rintro e v3 ⟨rfl, hb⟩
    have HKp := hHeld.2.2.2
    go_wp2_with fail
    refine hK.out _ _ ?_ (fun hHeld => ?_)
    · exact HSt.out _ _ HKp.out hb
    clear hK K
    try simp only [Act.put, List.setIfInBounds_toArray, List.set_cons_zero, List.set_cons_succ]
    refine wpAnyH_take (i := 12) (oi := { dst := some 18, op := _, type := _, pos := _, after := _, guard := _ }) (v := ?_) rfl (by kernel_rfl) (by kernel_rfl) (by kernel_rfl) (fun _ _ _ h => h) (Or.inl ⟨by rfl, ?_⟩) (by assumption) ?_
    rotate_left
    · intro w hSw
      try dsimp only at hSw
      go_simp
      try with_reducible rfl
    try simp only [Act.put, List.setIfInBounds_toArray, List.set_cons_zero, List.set_cons_succ]
    refine wpAnyH_take (i := 13) (oi := { dst := some 2, op := _, type := _, pos := _, after := _, guard := _ }) (v := ?_) rfl (by kernel_rfl) (by kernel_rfl) (by kernel_rfl) (fun _ _ _ h => h) (Or.inl ⟨by rfl, ?_⟩) (by assumption) ?_
    rotate_left
    · intro w hSw
      try dsimp only at hSw
      go_simp
      try with_reducible rfl
    try simp only [Act.put, List.setIfInBounds_toArray, List.set_cons_zero, List.set_cons_succ]
    refine wpAnyH_done (by kernel_rfl) ?_ _
    go_wp2_with fail
    go_ret
    exact ⟨by rw [HF.out]; rfl, hHeld.2.2.2.out.2.2.2.2⟩
end Csn
end Go.Proofs.YtbkignlbcneddaaGreatDoor
end

section
/-
  Contract of the specification's hex. Condition: numbers below 16 to the power of 15.
-/
set_option maxRecDepth 100000
set_option maxRecDepth 100000
namespace Go.Proofs.YtbkignlbcneddaaGreatDoor
namespace Csn
open Go.RowKit Go.PlainAid
def hexLowC : ByteArray := ⟨#[48, 49, 50, 51, 52, 53, 54, 55, 56, 57, 97, 98, 99, 100, 101, 102]⟩
theorem hexLowC_at : ∀ d : Nat, d < 16 → bt hexLowC d = ((hexD d).toNat : Int) := by decide +kernel
theorem one_back (w : World) (x : Int) (c : UInt8) (hx : x = (c.toNat : Int)) :
    (convert 79 9 (.slice (some ⟨w.heap.size, 0, none⟩) 1 1)).run Tryz.prog (w.alloc (.cells #[.int .u8 x] 5)) = .ok (.string ⟨#[c]⟩) (w.alloc (.cells #[.int .u8 x] 5)) := by
  subst hx
  have h : (w.alloc (.cells #[.int .u8 (c.toNat : Int)] 5)).heap[w.heap.size]? = some (.cells #[.int .u8 (c.toNat : Int)] 5) := heap_alloc_new w _
  exact run_convert_bytes_back (P := Tryz.prog) _ 79 9 5 ⟨w.heap.size, 0, none⟩ 1 [c] Tryz.underlying79 Tryz.underlying5 Tryz.underlying9 (fun q hq => by
    have : q = 0 := by simp at hq; omega
    subst this
    rw [Go.WideShapes.add_plain]
    unfold World.cell?
    rw [h]; rfl)
theorem hexS_front (k n : Nat) : hexS15 (k + 1) n = ⟨#[hexD (n / 16 ^ k % 16)]⟩ ++ hexS15 k n := by
  unfold hexS15
  rw [hexK_front]
  apply ByteArray.ext
  rw [ByteArray.data_append]
  simp
set_option maxHeartbeats 4000000 in
theorem rhex_s (n k : Nat) (w : World) (hn : n < 1152921504606846976) (hk2 : k ≤ 15) :
    Calls Tryz.prog 91 #[.int .i64 n, .int .i64 k] w fun e w' => e = .returned (.string (hexS15 k n)) ∧ Below w.heap.size w w' := by
  have hx := get_bt (⟨#[48, 49, 50, 51, 52, 53, 54, 55, 56, 57, 97, 98, 99, 100, 101, 102]⟩ : ByteArray)
  go_enter Tryz.func91, Tryz.ntmps91
  go_wp2_with fail
  go_loopw [0, 5, 6] (fun nv sv iv wr => ∃ (i m : Nat) (o : ByteArray), i ≤ k ∧ iv = .int .i64 i ∧ nv = .int .i64 m ∧ sv = .string o ∧ o.size ≤ 15 ∧ Hid (o = hexS15 i n) ∧ Hid (m = n / 16 ^ i) ∧ Hid (Below w.heap.size w wr)) (fun _ _ iv _ => k - (intOf iv).toNat)
  case atStart => exact ⟨0, n, ⟨#[]⟩, Nat.zero_le _, rfl, rfl, rfl, Nat.zero_le _, Lib.hid rfl, Lib.hid (by simp), Lib.hid (Below.refl _ _)⟩
  case round =>
    obtain ⟨i, m, o, hi, rfl, rfl, rfl, ho, HS, HM, HB⟩ := hrel
    by_cases hlt : i < k
    · have d1 : (i : Int) < (k : Int) := by omega
      have hml : m < 1152921504606846976 := by rw [HM.out]; exact Nat.lt_of_le_of_lt (Nat.div_le_self _ _) hn
      have hd : m % 16 < 16 := Nat.mod_lt _ (by decide)
      obtain ⟨q, hq⟩ : ∃ q : ByteArray, q = ⟨#[hexD (m % 16)]⟩ := ⟨_, rfl⟩
      have hqs : q.size = 1 := by rw [hq]; rfl
      have hbk := one_back wr (bt (⟨#[48, 49, 50, 51, 52, 53, 54, 55, 56, 57, 97, 98, 99, 100, 101, 102]⟩ : ByteArray) (m % 16)) (hexD (m % 16)) (hexLowC_at _ hd)
      rw [← hq] at hbk
      have hlim : ¬ 9223372036854775807 < q.size + o.size := by omega
      have HN := Lib.hid (show q ++ o = hexS15 (i + 1) n by rw [hq, HS.out, HM.out]; exact (hexS_front i n).symm)
      have HZ := Lib.hid (show (q ++ o).size ≤ 15 by rw [HN.out, hexS_size]; omega)
      clear hq
      go_wp2_with fail
      go_roundw
      case rel => exact ⟨i + 1, m / 16, q ++ o, by omega, by go_num, by rw [Int.natCast_ediv]; rfl, rfl, HZ.out, HN, Lib.hid (by rw [HM.out, Nat.div_div_eq_div_mul, Nat.pow_succ]), Lib.hid (HB.out.alloc HB.out.size _)⟩
      case measure => simp [intOf]; omega
    · obtain rfl : i = k := by omega
      have d1 : ¬ (i : Int) < (i : Int) := by omega
      go_wp2_with fail
      go_ret
      exact ⟨by rw [HS.out]; rfl, HB.out⟩
end Csn
end Go.Proofs.YtbkignlbcneddaaGreatDoor
end

section
/-
  Contract of the specification's Format. No condition.
-/
set_option maxRecDepth 100000
set_option maxRecDepth 100000
namespace Go.Proofs.YtbkignlbcneddaaGreatDoor
namespace Csn
open Go.RowKit Go.PlainAid
theorem rdig_k (n k : Nat) (v : Int) (x : ByteArray) (w : World) (hv : v = (n : Int)) (hn : n < 1152921504606846976) (hk2 : k ≤ 15) (hx : hexS15 k n = x) :
    Calls Tryz.prog 91 #[.int .i64 v, .int .i64 k] w fun e w' => e = .returned (.string x) ∧ Below w.heap.size w w' := by subst hv; subst hx; exact rhex_s n k w hn hk2
set_option maxHeartbeats 8000000 in
theorem rformat_s (c : Cn) (w : World) :
    Calls Tryz.prog 44 #[cnV c] w fun e w' => e = .returned (.string (fmtS c)) ∧ Below w.heap.size w w' := by
  obtain ⟨t, s, r⟩ := c
  show Calls _ _ #[.agg #[.int .i64 t, .int .i64 s, .int .i64 r]] w _
  have hv1 := rvld_k (t, s, r)
  dsimp only at hv1
  cases hv : vldC (t, s, r)
  · have HF := Lib.hid (show fmtS (t, s, r) = ⟨#[]⟩ from if_neg fun k => by rw [(vldC_iff _).2 k] at hv; cases hv)
    rw [HF.out]
    go_enter Tryz.func44, Tryz.ntmps44
    go_wp2_with (go_at_call 55; refine (hv1 false _ hv).mono ?_; rintro e w' ⟨rfl, rfl⟩)
    go_ret
    exact ⟨rfl, below_allocs [_, _] _ _ _ (Below.refl _ _) (Nat.le_refl _)⟩
  · have hV := (vldC_iff _).1 hv
    have HF := Lib.hid (fmtS_is hV)
    unfold Vld at hV
    dsimp only at hV HF
    obtain ⟨v0, v1, v2, v3, v4, v5⟩ := hV
    obtain ⟨x, hx⟩ : ∃ x, hexS15 11 t.toNat = x := ⟨_, rfl⟩
    obtain ⟨y, hy⟩ : ∃ x, hexS15 8 s.toNat = x := ⟨_, rfl⟩
    obtain ⟨z, hz⟩ : ∃ x, hexS15 1 r.toNat = x := ⟨_, rfl⟩
    rw [hx, hy, hz] at HF
    have p11 : (16 : Nat) ^ 11 = 17592186044416 := by decide
    have p8 : (16 : Nat) ^ 8 = 4294967296 := by decide
    have p1 : (16 : Nat) ^ 1 = 16 := by decide
    have sx : x.size = 11 := by rw [← hx]; exact hexS_size _ _
    have sy : y.size = 8 := by rw [← hy]; exact hexS_size _ _
    have sz : z.size = 1 := by rw [← hz]; exact hexS_size _ _
    have D1 := Lib.hid (fun (W : World) => rdig_k t.toNat 11 t x W (by omega) (by omega) (by omega) hx)
    have D2 := Lib.hid (fun (W : World) => rdig_k s.toNat 8 s y W (by omega) (by omega) (by omega) hy)
    have D3 := Lib.hid (fun (W : World) => rdig_k r.toNat 1 r z W (by omega) (by omega) (by omega) hz)
    clear hx hy hz p11 p8 p1
    have s45 : (⟨#[45]⟩ : ByteArray).size = 1 := rfl
    have l1 : ¬ 9223372036854775807 < x.size + (⟨#[45]⟩ : ByteArray).size := by omega
    have z1 : (x ++ (⟨#[45]⟩ : ByteArray)).size = 12 := by rw [ByteArray.size_append]; omega
    have l2 : ¬ 9223372036854775807 < (x ++ (⟨#[45]⟩ : ByteArray)).size + y.size := by omega
    have z2 : (x ++ (⟨#[45]⟩ : ByteArray) ++ y).size = 20 := by rw [ByteArray.size_append]; omega
    have l3 : ¬ 9223372036854775807 < (x ++ (⟨#[45]⟩ : ByteArray) ++ y).size + (⟨#[45]⟩ : ByteArray).size := by omega
    have z3 : (x ++ (⟨#[45]⟩ : ByteArray) ++ y ++ (⟨#[45]⟩ : ByteArray)).size = 21 := by rw [ByteArray.size_append]; omega
    have l4 : ¬ 9223372036854775807 < (x ++ (⟨#[45]⟩ : ByteArray) ++ y ++ (⟨#[45]⟩ : ByteArray)).size + z.size := by omega
    have B0 : BxC w w.heap.size (t, s, r) ((w.alloc (cnB (t, s, r))).alloc (cnB (t, s, r))) := by
      obtain ⟨c0, c1, c2⟩ := box_cells w (t, s, r)
      exact BxC.step (V := w.alloc (cnB (t, s, r))) ⟨c0, c1, c2, box_lt _ _, box_below _ _⟩ (box_below _ _) (Nat.le_of_lt (box_lt _ _))
    unfold cnB at B0
    dsimp only at B0
    go_enter Tryz.func44, Tryz.ntmps44
    go_wp2_with (go_at_call 55; refine (hv1 true _ hv).mono ?_; rintro e w' ⟨rfl, rfl⟩)
    generalize hW0 : (w.alloc (.cells #[.int .i64 t, .int .i64 s, .int .i64 r] 23)).alloc (.cells #[.int .i64 t, .int .i64 s, .int .i64 r] 23) = W0 at B0 ⊢
    clear hW0
    have HB := Lib.hid B0
    obtain ⟨c0, c1, c2, _, _⟩ := B0
    have HSt := Lib.hid (show ∀ V X : World, BxC w w.heap.size (t, s, r) V → Below V.heap.size V X → (X.cell? ⟨w.heap.size, 0, none⟩ = some (.int .i64 t) ∧ X.cell? ⟨w.heap.size, 1, none⟩ = some (.int .i64 s) ∧ X.cell? ⟨w.heap.size, 2, none⟩ = some (.int .i64 r) ∧ Hid (BxC w w.heap.size (t, s, r) X)) from fun V X h hb => by
      have k := h.step hb (Nat.le_of_lt h.2.2.2.1)
      exact ⟨k.1, k.2.1, k.2.2.1, Lib.hid k⟩)
    have S0 := HSt.out _ _ HB.out (Below.refl _ _).drew
    clear c0 c1 c2
    refine wp_region_held_drew (S := fun V => V.cell? ⟨w.heap.size, 0, none⟩ = some (.int .i64 t) ∧ V.cell? ⟨w.heap.size, 1, none⟩ = some (.int .i64 s) ∧ V.cell? ⟨w.heap.size, 2, none⟩ = some (.int .i64 r) ∧ Hid (BxC w w.heap.size (t, s, r) V)) (by kernel_rfl) (S0) (fun hS => ?_)
    refine wpAnyH_take (i := 0) (oi := { dst := some 6, op := _, type := _, pos := _, after := _, guard := _ }) (v := ?_) rfl (by kernel_rfl) (by kernel_rfl) (by kernel_rfl) (fun _ _ _ h => h) (Or.inl ⟨by rfl, ?_⟩) (by assumption) ?_
    rotate_left
    · intro w hSw
      try dsimp only at hSw
      go_simp
      try with_reducible rfl
    try simp only [Act.put, List.setIfInBounds_toArray, List.set_cons_zero, List.set_cons_succ]
    refine wpAnyH_take (i := 1) (oi := { dst := some 7, op := _, type := _, pos := _, after := _, guard := _ }) (v := ?_) rfl (by kernel_rfl) (by kernel_rfl) (by kernel_rfl) (fun _ _ _ h => h) (Or.inl ⟨by rfl, ?_⟩) (by assumption) ?_
    rotate_left
    · intro w hSw
      try dsimp only at hSw
      go_simp
      try with_reducible rfl
    try simp only [Act.put, List.setIfInBounds_toArray, List.set_cons_zero, List.set_cons_succ]
    refine wpAnyH_take (i := 4) (oi := { dst := some 10, op := _, type := _, pos := _, after := _, guard := _ }) (v := ?_) rfl (by kernel_rfl) (by kernel_rfl) (by kernel_rfl) (fun _ _ _ h => h) (Or.inl ⟨by rfl, ?_⟩) (by assumption) ?_
    rotate_left
    · intro w hSw
      try dsimp only at hSw
      go_simp
      try with_reducible rfl
    try simp only [Act.put, List.setIfInBounds_toArray, List.set_cons_zero, List.set_cons_succ]
    refine wpAnyH_take (i := 5) (oi := { dst := some 11, op := _, type := _, pos := _, after := _, guard := _ }) (v := ?_) rfl (by kernel_rfl) (by kernel_rfl) (by kernel_rfl) (fun _ _ _ h => h) (Or.inl ⟨by rfl, ?_⟩) (by assumption) ?_
    rotate_left
    · intro w hSw
      try dsimp only at hSw
      go_simp
      try with_reducible rfl
    try simp only [Act.put, List.setIfInBounds_toArray, List.set_cons_zero, List.set_cons_succ]
    refine wpAnyH_take (i := 9) (oi := { dst := some 15, op := _, type := _, pos := _, after := _, guard := _ }) (v := ?_) rfl (by kernel_rfl) (by kernel_rfl) (by kernel_rfl) (fun _ _ _ h => h) (Or.inl ⟨by rfl, ?_⟩) (by assumption) ?_
    rotate_left
    · intro w hSw
      try dsimp only at hSw
      go_simp
      try with_reducible rfl
    try simp only [Act.put, List.setIfInBounds_toArray, List.set_cons_zero, List.set_cons_succ]
    refine wpAnyH_take (i := 10) (oi := { dst := some 16, op := _, type := _, pos := _, after := _, guard := _ }) (v := ?_) rfl (by kernel_rfl) (by kernel_rfl) (by kernel_rfl) (fun _ _ _ h => h) (Or.inl ⟨by rfl, ?_⟩) (by assumption) ?_
    rotate_left
    · intro w hSw
      try dsimp only at hSw
      go_simp
      try with_reducible rfl
    try simp only [Act.put, List.setIfInBounds_toArray, List.set_cons_zero, List.set_cons_succ]
    refine wpAnyH_ready (rs := [2]) (by kernel_rfl) (by simp) ?_
    refine AllReadyH.cons rfl (fun K hK => ?_) AllReadyH.nil
    go_simp
    refine (D1.out _).mono ?_
    rintro e v1 ⟨rfl, hb⟩
    have HKp := hS.2.2.2
    go_wp2_with fail
    refine hK.out _ _ ?_ (fun hHeld => ?_)
    · exact HSt.out _ _ HKp.out hb
    clear hK K
    try simp only [Act.put, List.setIfInBounds_toArray, List.set_cons_zero, List.set_cons_succ]
    refine wpAnyH_take (i := 3) (oi := { dst := some 9, op := _, type := _, pos := _, after := _, guard := _ }) (v := ?_) rfl (by kernel_rfl) (by kernel_rfl) (by kernel_rfl) (fun _ _ _ h => h) (Or.inl ⟨by rfl, ?_⟩) (by assumption) ?_
    rotate_left
    · intro w hSw
      try dsimp only at hSw
      go_simp
      try with_reducible rfl
    try simp only [Act.put, List.setIfInBounds_toArray, List.set_cons_zero, List.set_cons_succ]
    refine wpAnyH_ready (rs := [6]) (by kernel_rfl) (by simp) ?_
    refine AllReadyH.cons rfl (fun K hK => ?_) AllReadyH.nil
    go_simp
    refine (D2.out _).mono ?_
    rintro e v2 ⟨rfl, hb⟩
    have HKp := hHeld.2.2.2
    go_wp2_with fail
    refine hK.out _ _ ?_ (fun hHeld => ?_)
    · exact HSt.out _ _ HKp.out hb
    clear hK K
    try simp only [Act.put, List.setIfInBounds_toArray, List.set_cons_zero, List.set_cons_succ]
    refine wpAnyH_take (i := 7) (oi := { dst := some 13, op := _, type := _, pos := _, after := _, guard := _ }) (v := ?_) rfl (by kernel_rfl) (by kernel_rfl) (by kernel_rfl) (fun _ _ _ h => h) (Or.inl ⟨by rfl, ?_⟩) (by assumption) ?_
    rotate_left
    · intro w hSw
      try dsimp only at hSw
      go_simp
      try with_reducible rfl
    try simp only [Act.put, List.setIfInBounds_toArray, List.set_cons_zero, List.set_cons_succ]
    refine wpAnyH_take (i := 8) (oi := { dst := some 14, op := _, type := _, pos := _, after := _, guard := _ }) (v := ?_) rfl (by kernel_rfl) (by kernel_rfl) (by kernel_rfl) (fun _ _ _ h => h) (Or.inl ⟨by rfl, ?_⟩) (by assumption) ?_
    rotate_left
    · intro w hSw
      try dsimp only at hSw
      go_simp
      try with_reducible rfl
    try simp only [Act.put, List.setIfInBounds_toArray, List.set_cons_zero, List.set_cons_succ]
    refine wpAnyH_ready (rs := [11]) (by kernel_rfl) (by simp) ?_
    refine AllReadyH.cons rfl (fun K hK => ?_) AllReadyH.nil
    go_simp
    refine (D3.out _).mono ?_
    rintro e v3 ⟨rfl, hb⟩
    have HKp := hHeld.2.2.2
    go_wp2_with fail
    refine hK.out _ _ ?_ (fun hHeld => ?_)
    · exact HSt.out _ _ HKp.out hb
    clear hK K
    try simp only [Act.put, List.setIfInBounds_toArray, List.set_cons_zero, List.set_cons_succ]
    refine wpAnyH_take (i := 12) (oi := { dst := some 18, op := _, type := _, pos := _, after := _, guard := _ }) (v := ?_) rfl (by kernel_rfl) (by kernel_rfl) (by kernel_rfl) (fun _ _ _ h => h) (Or.inl ⟨by rfl, ?_⟩) (by assumption) ?_
    rotate_left
    · intro w hSw
      try dsimp only at hSw
      go_simp
      try with_reducible rfl
    try simp only [Act.put, List.setIfInBounds_toArray, List.set_cons_zero, List.set_cons_succ]
    refine wpAnyH_take (i := 13) (oi := { dst := some 2, op := _, type := _, pos := _, after := _, guard := _ }) (v := ?_) rfl (by kernel_rfl) (by kernel_rfl) (by kernel_rfl) (fun _ _ _ h => h) (Or.inl ⟨by rfl, ?_⟩) (by assumption) ?_
    rotate_left
    · intro w hSw
      try dsimp only at hSw
      go_simp
      try with_reducible rfl
    try simp only [Act.put, List.setIfInBounds_toArray, List.set_cons_zero, List.set_cons_succ]
    refine wpAnyH_done (by kernel_rfl) ?_ _
    go_wp2_with fail
    go_ret
    exact ⟨by rw [HF.out]; rfl, hHeld.2.2.2.out.2.2.2.2⟩
end Csn
end Go.Proofs.YtbkignlbcneddaaGreatDoor
end
