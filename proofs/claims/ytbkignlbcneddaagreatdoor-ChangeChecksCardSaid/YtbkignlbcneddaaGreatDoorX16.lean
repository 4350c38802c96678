/-
  Texts of the schema layer and of those beneath it, joined: ChgK6. Conditions stand at each contract.
-/
import Derived.Test.YtbkignlbcneddaaGreatDoorX15
set_option linter.unusedVariables false
set_option linter.unusedSimpArgs false
set_option linter.unnecessarySimpa false

section
/-
  Contracts of the kinds' words: the specification's word, the program's readOp; the program's variable of words. No condition.
-/
set_option maxRecDepth 100000
namespace Go.Proofs.YtbkignlbcneddaaGreatDoor
open Go.RowKit Go.PlainAid
open Csn (Cn cnV KbC kbc_new box_below box_lt parEC parVC vldC)
/-- the program's variable holds the words of the kinds -/
def OpOk (w : World) : Prop := ∀ k : Nat, k < 5 → w.cell? ⟨0, k, none⟩ = some (.string (wordW ((k : Int) + 1)))
theorem OpOk.lt {w : World} (h : OpOk w) : 0 < w.heap.size := World.block_lt_of_cell? w _ (h 0 (by omega))
theorem OpOk.below {w w' : World} (h : OpOk w) (hb : Below w.heap.size w w') : OpOk w' := fun k hk => cell_later hb (h k hk)
theorem word_s (o : Int) (w : World) (h1 : 1 ≤ o) (h5 : o ≤ 5) :
    Calls Tryz.prog 43 #[.int .i64 o] w fun e w' => e = .returned (.string (wordW o)) ∧ Below w.heap.size w w' := by
  have HB := Lib.hid (box_below w (.cells #[.string ⟨#[99, 114, 101, 97, 116, 101]⟩, .string ⟨#[114, 101, 109, 111, 118, 101]⟩, .string ⟨#[114, 101, 110, 97, 109, 101]⟩, .string ⟨#[112, 117, 116]⟩, .string ⟨#[100, 114, 111, 112]⟩] 9))
  rcases (show o = 1 ∨ o = 2 ∨ o = 3 ∨ o = 4 ∨ o = 5 by omega) with rfl | rfl | rfl | rfl | rfl
  all_goals
    go_enter Tryz.func43, Tryz.ntmps43
    go_wp2_with fail
    go_ret
    exact ⟨rfl, HB.out⟩
set_option maxHeartbeats 4000000 in
theorem readOp_s (s : ByteArray) (w : World) (ho : OpOk w) :
    Calls Tryz.prog 94 #[.string s] w fun e w' => e = .returned (.int .i64 (opW s)) ∧ Below w.heap.size w w' := by
  have c0 : w.cell? ⟨0, 0, none⟩ = some (.string createW) := ho 0 (by decide)
  have c1 : w.cell? ⟨0, 1, none⟩ = some (.string removeW) := ho 1 (by decide)
  have c2 : w.cell? ⟨0, 2, none⟩ = some (.string renameW) := ho 2 (by decide)
  have c3 : w.cell? ⟨0, 3, none⟩ = some (.string putW) := ho 3 (by decide)
  have c4 : w.cell? ⟨0, 4, none⟩ = some (.string dropW) := ho 4 (by decide)
  have d0 := str_eq createW s
  have d1 := str_eq removeW s
  have d2 := str_eq renameW s
  have d3 := str_eq putW s
  have d4 := str_eq dropW s
  have HO : Hid (opW s = if s = createW then 1 else if s = removeW then 2 else if s = renameW then 3 else if s = putW then 4 else if s = dropW then 5 else 0) := Lib.hid rfl
  clear ho
  generalize createW = a0 at c0 d0 HO
  generalize removeW = a1 at c1 d1 HO
  generalize renameW = a2 at c2 d2 HO
  generalize putW = a3 at c3 d3 HO
  generalize dropW = a4 at c4 d4 HO
  have i0 : ∀ w, (Instr.index 117 (.agg #[.string a0, .string a1, .string a2, .string a3, .string a4]) (.int .i64 0)).run Tryz.prog w = .ok (.string a0) w := fun w => by kernel_rfl
  have i1 : ∀ w, (Instr.index 117 (.agg #[.string a0, .string a1, .string a2, .string a3, .string a4]) (.int .i64 1)).run Tryz.prog w = .ok (.string a1) w := fun w => by kernel_rfl
  have i2 : ∀ w, (Instr.index 117 (.agg #[.string a0, .string a1, .string a2, .string a3, .string a4]) (.int .i64 2)).run Tryz.prog w = .ok (.string a2) w := fun w => by kernel_rfl
  have i3 : ∀ w, (Instr.index 117 (.agg #[.string a0, .string a1, .string a2, .string a3, .string a4]) (.int .i64 3)).run Tryz.prog w = .ok (.string a3) w := fun w => by kernel_rfl
  have i4 : ∀ w, (Instr.index 117 (.agg #[.string a0, .string a1, .string a2, .string a3, .string a4]) (.int .i64 4)).run Tryz.prog w = .ok (.string a4) w := fun w => by kernel_rfl
  obtain ⟨z, hz⟩ : ∃ x, opW s = x := ⟨_, rfl⟩
  rw [hz] at HO ⊢
  clear hz
  by_cases e0 : s = a0
  · have HZ := Lib.hid (show z = 1 from HO.out.trans (by exact if_pos e0))
    rw [decide_eq_true e0.symm] at d0
    clear e0 HO
    go_enter Tryz.func94, Tryz.ntmps94
    go_wp2_with fail
    refine wp_loop_rounds 6 ?_
    rw [rounds_succ]
    go_wp2_with fail
    go_ret
    exact ⟨by rw [HZ.out]; rfl, Below.refl _ _⟩
  · skip
    by_cases e1 : s = a1
    · have HZ := Lib.hid (show z = 2 from HO.out.trans (by rw [if_neg e0]; exact if_pos e1))
      rw [decide_eq_false (fun k => e0 k.symm)] at d0
      rw [decide_eq_true e1.symm] at d1
      clear e0 e1 HO
      go_enter Tryz.func94, Tryz.ntmps94
      go_wp2_with fail
      refine wp_loop_rounds 6 ?_
      rw [rounds_succ]
      go_wp2_with fail
      rw [rounds_succ]
      go_wp2_with fail
      go_ret
      exact ⟨by rw [HZ.out]; rfl, Below.refl _ _⟩
    · skip
      by_cases e2 : s = a2
      · have HZ := Lib.hid (show z = 3 from HO.out.trans (by rw [if_neg e0]; rw [if_neg e1]; exact if_pos e2))
        rw [decide_eq_false (fun k => e0 k.symm)] at d0
        rw [decide_eq_false (fun k => e1 k.symm)] at d1
        rw [decide_eq_true e2.symm] at d2
        clear e0 e1 e2 HO
        go_enter Tryz.func94, Tryz.ntmps94
        go_wp2_with fail
        refine wp_loop_rounds 6 ?_
        rw [rounds_succ]
        go_wp2_with fail
        rw [rounds_succ]
        go_wp2_with fail
        rw [rounds_succ]
        go_wp2_with fail
        go_ret
        exact ⟨by rw [HZ.out]; rfl, Below.refl _ _⟩
      · skip
        by_cases e3 : s = a3
        · have HZ := Lib.hid (show z = 4 from HO.out.trans (by rw [if_neg e0]; rw [if_neg e1]; rw [if_neg e2]; exact if_pos e3))
          rw [decide_eq_false (fun k => e0 k.symm)] at d0
          rw [decide_eq_false (fun k => e1 k.symm)] at d1
          rw [decide_eq_false (fun k => e2 k.symm)] at d2
          rw [decide_eq_true e3.symm] at d3
          clear e0 e1 e2 e3 HO
          go_enter Tryz.func94, Tryz.ntmps94
          go_wp2_with fail
          refine wp_loop_rounds 6 ?_
          rw [rounds_succ]
          go_wp2_with fail
          rw [rounds_succ]
          go_wp2_with fail
          rw [rounds_succ]
          go_wp2_with fail
          rw [rounds_succ]
          go_wp2_with fail
          go_ret
          exact ⟨by rw [HZ.out]; rfl, Below.refl _ _⟩
        · skip
          by_cases e4 : s = a4
          · have HZ := Lib.hid (show z = 5 from HO.out.trans (by rw [if_neg e0]; rw [if_neg e1]; rw [if_neg e2]; rw [if_neg e3]; exact if_pos e4))
            rw [decide_eq_false (fun k => e0 k.symm)] at d0
            rw [decide_eq_false (fun k => e1 k.symm)] at d1
            rw [decide_eq_false (fun k => e2 k.symm)] at d2
            rw [decide_eq_false (fun k => e3 k.symm)] at d3
            rw [decide_eq_true e4.symm] at d4
            clear e0 e1 e2 e3 e4 HO
            go_enter Tryz.func94, Tryz.ntmps94
            go_wp2_with fail
            refine wp_loop_rounds 6 ?_
            rw [rounds_succ]
            go_wp2_with fail
            rw [rounds_succ]
            go_wp2_with fail
            rw [rounds_succ]
            go_wp2_with fail
            rw [rounds_succ]
            go_wp2_with fail
            rw [rounds_succ]
            go_wp2_with fail
            go_ret
            exact ⟨by rw [HZ.out]; rfl, Below.refl _ _⟩
          · skip
            have HZ := Lib.hid (show z = 0 from HO.out.trans (by rw [if_neg e0, if_neg e1, if_neg e2, if_neg e3, if_neg e4]))
            rw [decide_eq_false (fun k => e0 k.symm)] at d0
            rw [decide_eq_false (fun k => e1 k.symm)] at d1
            rw [decide_eq_false (fun k => e2 k.symm)] at d2
            rw [decide_eq_false (fun k => e3 k.symm)] at d3
            rw [decide_eq_false (fun k => e4 k.symm)] at d4
            clear e0 e1 e2 e3 e4 HO
            go_enter Tryz.func94, Tryz.ntmps94
            go_wp2_with fail
            refine wp_loop_rounds 6 ?_
            rw [rounds_succ]
            go_wp2_with fail
            rw [rounds_succ]
            go_wp2_with fail
            rw [rounds_succ]
            go_wp2_with fail
            rw [rounds_succ]
            go_wp2_with fail
            rw [rounds_succ]
            go_wp2_with fail
            rw [rounds_succ]
            go_wp2_with fail
            go_ret
            exact ⟨by rw [HZ.out]; rfl, Below.refl _ _⟩
end Go.Proofs.YtbkignlbcneddaaGreatDoor
end
