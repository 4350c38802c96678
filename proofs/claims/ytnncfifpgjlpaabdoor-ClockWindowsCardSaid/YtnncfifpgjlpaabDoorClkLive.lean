/-
  The contract of the law's alive: the chapter's small cases. Condition: the program's table of the lengths of months and the library's table of powers lie as their texts lay them.
-/
import Derived.Test.YtnncfifpgjlpaabDoorClkAlive
set_option linter.unusedVariables false
set_option linter.unusedSimpArgs false
set_option linter.unnecessarySimpa false
namespace Go.Proofs.YtnncfifpgjlpaabDoor
open Go.RowKit Go.PlainAid

set_option maxRecDepth 100000 in
set_option maxHeartbeats 8000000 in
theorem alive_s (w : World) (hm : MonOk w) (hp : PowOk w) :
    Calls Tryd.prog 16 #[] w fun e w' => e = .returned (.bool true) ∧ Below w.heap.size w w' := by
  have HM := Lib.hid hm
  have HP := Lib.hid hp
  clear hm hp
  have hbx := cells_box w 100 200
  have HA := Lib.hid ((Below.refl w.heap.size w).alloc (Nat.le_refl _) (.cells #[.int .i64 100, .int .i64 200] 27))
  have hsz : (w.alloc (.cells #[.int .i64 100, .int .i64 200] 27)).heap.size = w.heap.size + 1 := by simp
  have HX : Hid (∀ W, Below (w.heap.size + 1) (w.alloc (.cells #[.int .i64 100, .int .i64 200] 27)) W → W.cell? ⟨w.heap.size, 0, none⟩ = some (.int .i64 100) ∧ W.cell? ⟨w.heap.size, 1, none⟩ = some (.int .i64 200)) := Lib.hid fun W hb => by
    rw [hb.cell (p := ⟨w.heap.size, 0, none⟩) (Nat.lt_succ_self _), hb.cell (p := ⟨w.heap.size, 1, none⟩) (Nat.lt_succ_self _)]; exact hbx
  have B0 := Below.refl (w.heap.size + 1) (w.alloc (.cells #[.int .i64 100, .int .i64 200] 27))
  have S0 : w.heap.size + 1 ≤ (w.alloc (.cells #[.int .i64 100, .int .i64 200] 27)).heap.size := by omega
  clear hbx
  go_enter Tryd.func16, Tryd.ntmps16
  go_wp2_with fail
  generalize hW0 : w.alloc (.cells #[.int .i64 100, .int .i64 200] 27) = W0 at HA HX B0 S0 hsz
  clear hW0 hsz
  refine (common_k (1, 5) (3, 9) (3, 5) true _ (by decide) (by decide)).mono ?_
  rintro e w1 ⟨rfl, hb⟩
  have B1 := B0.trans (hb.mono S0)
  have S1 := Nat.le_trans S0 hb.size
  clear hb B0 S0
  have hcx := cells_box w1 3 5
  have B2 := B1.alloc S1 (.cells #[.int .i64 3, .int .i64 5] 27)
  have hl4 := wins_lit (w1.alloc (.cells #[.int .i64 3, .int .i64 5] 27)) [(5, 9), (1, 3), (3, 4), (7, 7)] (by decide) (by decide)
  have B3 := B2.alloc (Nat.le_trans S1 (by simp)) (.cells (wcells [(5, 9), (1, 3), (3, 4), (7, 7)]).toArray 27)
  have HC : Hid (∀ W, Below (w1.heap.size + 1) (w1.alloc (.cells #[.int .i64 3, .int .i64 5] 27)) W → W.cell? ⟨w1.heap.size, 0, none⟩ = some (.int .i64 3) ∧ W.cell? ⟨w1.heap.size, 1, none⟩ = some (.int .i64 5)) := Lib.hid fun W hb => by
    rw [hb.cell (p := ⟨w1.heap.size, 0, none⟩) (Nat.lt_succ_self _), hb.cell (p := ⟨w1.heap.size, 1, none⟩) (Nat.lt_succ_self _)]; exact hcx
  have hs2 : (w1.alloc (.cells #[.int .i64 3, .int .i64 5] 27)).heap.size = w1.heap.size + 1 := by simp
  have D3 : Below (w1.heap.size + 1) (w1.alloc (.cells #[.int .i64 3, .int .i64 5] 27)) ((w1.alloc (.cells #[.int .i64 3, .int .i64 5] 27)).alloc (.cells (wcells [(5, 9), (1, 3), (3, 4), (7, 7)]).toArray 27)) := (Below.refl _ _).alloc (by omega) _
  have S3 : w1.heap.size + 1 ≤ ((w1.alloc (.cells #[.int .i64 3, .int .i64 5] 27)).alloc (.cells (wcells [(5, 9), (1, 3), (3, 4), (7, 7)]).toArray 27)).heap.size := by simp
  have E3 : Hid (((w1.alloc (.cells #[.int .i64 3, .int .i64 5] 27)).alloc (.cells (wcells [(5, 9), (1, 3), (3, 4), (7, 7)]).toArray 27)) = ((w1.alloc (.cells #[.int .i64 3, .int .i64 5] 27)).alloc (.cells #[.int .i64 5, .int .i64 9, .int .i64 1, .int .i64 3, .int .i64 3, .int .i64 4, .int .i64 7, .int .i64 7] 27))) := Lib.hid rfl
  rw [hs2] at hl4
  clear B2 hcx hs2
  go_wp2_with fail
  rw [← E3.out]
  generalize hW3 : (w1.alloc (.cells #[.int .i64 3, .int .i64 5] 27)).alloc (.cells (wcells [(5, 9), (1, 3), (3, 4), (7, 7)]).toArray 27) = W3 at hl4 B3 D3 S3
  generalize hW2 : w1.alloc (.cells #[.int .i64 3, .int .i64 5] 27) = W2 at HC D3
  clear hW3 hW2 E3
  refine (union_k _ 4 4 [(5, 9), (1, 3), (3, 4), (7, 7)] [(1, 4), (5, 9)] _ hl4 (by decide) (by intro e; cases e) lit_u).mono ?_
  rintro e w4 ⟨uo, un, uc, rfl, hu, hb⟩
  have HU := Lib.hid hu
  have S1' : w.heap.size + 1 ≤ W3.heap.size := Nat.le_trans S1 (Nat.le_trans (Nat.le_succ _) S3)
  have B4 := B3.trans (hb.mono S1')
  have S4 := Nat.le_trans S1' hb.size
  have D4 := D3.trans (hb.mono S3)
  have T4 := Nat.le_trans S3 hb.size
  clear hb hu hl4 B3 D3 S3 S1' B1 S1
  go_wp2_with fail
  refine (parse_k _ 951782400 0 _ (HM.out.below (HA.out.trans (B4.mono (Nat.le_succ _)))) lit_1).mono ?_
  rintro e w5 ⟨rfl, hb⟩
  have B5 := B4.trans (hb.mono S4)
  have S5 := Nat.le_trans S4 hb.size
  have D5 := D4.trans (hb.mono T4)
  have T5 := Nat.le_trans T4 hb.size
  have HU := Lib.hid (HU.out.below hb)
  clear hb B4 S4 D4 T4
  go_wp2_with fail
  refine (parse_k _ 0 27 _ (HM.out.below (HA.out.trans (B5.mono (Nat.le_succ _)))) lit_2).mono ?_
  rintro e w6 ⟨rfl, hb⟩
  have B6 := B5.trans (hb.mono S5)
  have S6 := Nat.le_trans S5 hb.size
  have D6 := D5.trans (hb.mono T5)
  have T6 := Nat.le_trans T5 hb.size
  have HU := Lib.hid (HU.out.below hb)
  clear hb B5 S5 D5 T5
  obtain ⟨c0, c1⟩ := HC.out _ D6
  have hl2 := wins_lit w6 [(1, 4), (5, 9)] (by decide) (by decide)
  have HU7 := Lib.hid (HU.out.below ((Below.refl _ w6).alloc (Nat.le_refl _) (.cells (wcells [(1, 4), (5, 9)]).toArray 27)))
  have B7 := B6.alloc S6 (.cells (wcells [(1, 4), (5, 9)]).toArray 27)
  have S7 : w.heap.size + 1 ≤ (w6.alloc (.cells (wcells [(1, 4), (5, 9)]).toArray 27)).heap.size := Nat.le_trans S6 (by simp)
  have E7 : Hid ((w6.alloc (.cells (wcells [(1, 4), (5, 9)]).toArray 27)) = (w6.alloc (.cells #[.int .i64 1, .int .i64 4, .int .i64 5, .int .i64 9] 27))) := Lib.hid rfl
  go_wp2_with fail
  rw [← E7.out]
  generalize hW7 : w6.alloc (.cells (wcells [(1, 4), (5, 9)]).toArray 27) = w7 at hl2 HU7 B7 S7
  clear hW7 E7 c0 c1 D6 T6 B6 S6
  refine (same_k _ _ _ 2 _ 2 [(1, 4), (5, 9)] [(1, 4), (5, 9)] true _ HU7.out hl2 (decide_eq_true rfl)).mono ?_
  rintro e w8 ⟨rfl, hb⟩
  have B8 := B7.trans (hb.mono S7)
  have S8 := Nat.le_trans S7 hb.size
  clear hb B7 S7
  go_wp2_with fail
  refine (add_k 10 (-5) 10 _ (by decide)).mono ?_
  rintro e w' ⟨rfl, rfl⟩
  go_wp2_with fail
  refine (add_k 1099511627776 1 1099511627776 _ (by decide)).mono ?_
  rintro e w' ⟨rfl, rfl⟩
  go_wp2_with fail
  refine (sub_k 3 10 (-7) _ (by decide)).mono ?_
  rintro e w' ⟨rfl, rfl⟩
  go_wp2_with fail
  refine (valid_k 0 true _ (by decide)).mono ?_
  rintro e w' ⟨rfl, rfl⟩
  go_wp2_with fail
  refine (valid_k (-1) false _ (by decide)).mono ?_
  rintro e w' ⟨rfl, rfl⟩
  obtain ⟨c0, c1⟩ := HX.out _ B8
  go_wp2_with fail
  refine (in_k 100 200 100 true _ (by decide)).mono ?_
  rintro e w9 ⟨rfl, hb⟩
  have B9 := B8.trans (hb.mono S8)
  have S9 := Nat.le_trans S8 hb.size
  clear c0 c1
  clear hb B8 S8
  obtain ⟨c0, c1⟩ := HX.out _ B9
  go_wp2_with fail
  refine (in_k 100 200 200 false _ (by decide)).mono ?_
  rintro e w10 ⟨rfl, hb⟩
  have B10 := B9.trans (hb.mono S9)
  have S10 := Nat.le_trans S9 hb.size
  clear c0 c1
  clear hb B9 S9
  obtain ⟨c0, c1⟩ := HX.out _ B10
  go_wp2_with fail
  refine (check_k 100 200 95 5 0 _ (by decide)).mono ?_
  rintro e w11 ⟨rfl, hb⟩
  have B11 := B10.trans (hb.mono S10)
  have S11 := Nat.le_trans S10 hb.size
  clear c0 c1
  clear hb B10 S10
  obtain ⟨c0, c1⟩ := HX.out _ B11
  go_wp2_with fail
  refine (check_k 100 200 94 5 14 _ (by decide)).mono ?_
  rintro e w12 ⟨rfl, hb⟩
  have B12 := B11.trans (hb.mono S11)
  have S12 := Nat.le_trans S11 hb.size
  clear c0 c1
  clear hb B11 S11
  obtain ⟨c0, c1⟩ := HX.out _ B12
  go_wp2_with fail
  refine (check_k 100 200 204 5 0 _ (by decide)).mono ?_
  rintro e w13 ⟨rfl, hb⟩
  have B13 := B12.trans (hb.mono S12)
  have S13 := Nat.le_trans S12 hb.size
  clear c0 c1
  clear hb B12 S12
  obtain ⟨c0, c1⟩ := HX.out _ B13
  go_wp2_with fail
  refine (check_k 100 200 205 5 13 _ (by decide)).mono ?_
  rintro e w14 ⟨rfl, hb⟩
  have B14 := B13.trans (hb.mono S13)
  have S14 := Nat.le_trans S13 hb.size
  clear c0 c1
  clear hb B13 S13
  go_wp2_with fail
  refine (format_k 0 _ _ (HM.out.below (HA.out.trans (B14.mono (Nat.le_succ _)))) (HP.out.below (HA.out.trans (B14.mono (Nat.le_succ _)))) lit_f0).mono ?_
  rintro e w15 ⟨rfl, hb⟩
  have B15 := B14.trans (hb.mono S14)
  have S15 := Nat.le_trans S14 hb.size
  clear hb B14 S14
  go_wp2_with fail
  refine (format_k 86399 _ _ (HM.out.below (HA.out.trans (B15.mono (Nat.le_succ _)))) (HP.out.below (HA.out.trans (B15.mono (Nat.le_succ _)))) lit_f1).mono ?_
  rintro e w16 ⟨rfl, hb⟩
  have B16 := B15.trans (hb.mono S15)
  have S16 := Nat.le_trans S15 hb.size
  clear hb B15 S15
  have HB := Lib.hid (HA.out.trans (B16.mono (Nat.le_succ _)))
  go_wp2_with fail
  go_ret
  exact ⟨rfl, HB.out⟩

end Go.Proofs.YtnncfifpgjlpaabDoor
