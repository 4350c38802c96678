/-
  Contracts of Order and of the two Compare. Condition: at most 1000000000 bytes.
-/
import Derived.Test.YtelddbgnhfhkiaaDoorFoldKind
import Derived.Test.YtelddbgnhfhkiaaDoorFoldF
import Derived.WalkLawsBesides
set_option linter.unusedVariables false
set_option linter.unusedSimpArgs false
set_option linter.unnecessarySimpa false
namespace Go.Proofs.YtelddbgnhfhkiaaDoor
open Go.RowKit Go.PlainAid


theorem order_s (a b : ByteArray) (w : World) :
    Calls Tryd.prog 56 #[.string a, .string b] w fun e w' => e = .returned (.int .i64 (cmpS a b)) ∧ w = w' := by
  have HC := Lib.hid (cmp_tests a.data.toList b.data.toList)
  cases h1 : Op.bytesLess a.toList b.toList
  · cases h2 : (a.toList == b.toList)
    · have HE := Lib.hid (show cmpS a b = 1 by unfold cmpS; rw [HC.out, ← Lib.toList_data, ← Lib.toList_data, h1, h2]; rfl)
      go_enter Tryd.func56, Tryd.ntmps56
      go_wp2
      go_ret
      exact ⟨by rw [HE.out]; rfl, rfl⟩
    · have HE := Lib.hid (show cmpS a b = 0 by unfold cmpS; rw [HC.out, ← Lib.toList_data, ← Lib.toList_data, h1, h2]; rfl)
      go_enter Tryd.func56, Tryd.ntmps56
      go_wp2
      go_ret
      exact ⟨by rw [HE.out]; rfl, rfl⟩
  · have HE := Lib.hid (show cmpS a b = -1 by unfold cmpS; rw [HC.out, ← Lib.toList_data, ← Lib.toList_data, h1]; rfl)
    go_enter Tryd.func56, Tryd.ntmps56
    go_wp2
    go_ret
    exact ⟨by rw [HE.out]; rfl, rfl⟩

theorem compare_lib (a b : ByteArray) (w : World) :
    Calls Tryd.prog 55 #[.string a, .string b] w fun e w' => e = .returned (.int .i64 (cmpS a b)) ∧ w = w' :=
  (Tryd.strings_Compare a b w).mono fun _ _ h => ⟨h.1, h.2.symm⟩

set_option maxRecDepth 100000 in
theorem rCompare_s (a b : ByteArray) (w : World) (ha : a.size ≤ 1000000000) (hb : b.size ≤ 1000000000) :
    Calls Tryd.prog 29 #[.string a, .string b] w fun e w' => e = .returned (.int .i64 (compS a b)) ∧ Below w.heap.size w w' := by
  cases h : (cmpS (foldS a) (foldS b) != 0)
  · have HE := Lib.hid (show compS a b = cmpS a b by unfold compS; rw [if_pos (by simpa using h)])
    go_enter Tryd.func29, Tryd.ntmps29
    go_wp2_with fail
    refine (rFold_s a _ ha).mono ?_
    rintro e w1 ⟨rfl, hb1⟩
    go_wp2_with fail
    refine (rFold_s b _ hb).mono ?_
    rintro e w2 ⟨rfl, hb2⟩
    go_wp2_with (go_at_call 56; refine (order_s _ _ _).mono ?_; rintro e w' ⟨rfl, rfl⟩)
    go_ret
    exact ⟨by rw [HE.out]; rfl, hb1.trans (hb2.mono hb1.size)⟩
  · have HE := Lib.hid (show compS a b = cmpS (foldS a) (foldS b) by unfold compS; rw [if_neg (by simpa using h)])
    go_enter Tryd.func29, Tryd.ntmps29
    go_wp2_with fail
    refine (rFold_s a _ ha).mono ?_
    rintro e w1 ⟨rfl, hb1⟩
    go_wp2_with fail
    refine (rFold_s b _ hb).mono ?_
    rintro e w2 ⟨rfl, hb2⟩
    go_wp2_with (go_at_call 56; refine (order_s _ _ _).mono ?_; rintro e w' ⟨rfl, rfl⟩)
    go_ret
    exact ⟨by rw [HE.out]; rfl, hb1.trans (hb2.mono hb1.size)⟩

set_option maxRecDepth 100000 in
theorem compare_s (a b : ByteArray) (w : World) (ha : a.size ≤ 1000000000) (hb : b.size ≤ 1000000000) :
    Calls Tryd.prog 28 #[.string a, .string b] w fun e w' => e = .returned (.int .i64 (compS a b)) ∧ Below w.heap.size w w' := by
  cases h : (cmpS (foldS a) (foldS b) != 0)
  · have HE := Lib.hid (show compS a b = cmpS a b by unfold compS; rw [if_pos (by simpa using h)])
    go_enter Tryd.func28, Tryd.ntmps28
    go_wp2_with fail
    refine (fold_s a _ ha).mono ?_
    rintro e w1 ⟨rfl, hb1⟩
    go_wp2_with fail
    refine (fold_s b _ hb).mono ?_
    rintro e w2 ⟨rfl, hb2⟩
    go_wp2_with (go_at_call 55; refine (compare_lib _ _ _).mono ?_; rintro e w' ⟨rfl, rfl⟩)
    go_ret
    exact ⟨by rw [HE.out]; rfl, hb1.trans (hb2.mono hb1.size)⟩
  · have HE := Lib.hid (show compS a b = cmpS (foldS a) (foldS b) by unfold compS; rw [if_neg (by simpa using h)])
    go_enter Tryd.func28, Tryd.ntmps28
    go_wp2_with fail
    refine (fold_s a _ ha).mono ?_
    rintro e w1 ⟨rfl, hb1⟩
    go_wp2_with fail
    refine (fold_s b _ hb).mono ?_
    rintro e w2 ⟨rfl, hb2⟩
    go_wp2_with (go_at_call 55; refine (compare_lib _ _ _).mono ?_; rintro e w' ⟨rfl, rfl⟩)
    go_ret
    exact ⟨by rw [HE.out]; rfl, hb1.trans (hb2.mono hb1.size)⟩

end Go.Proofs.YtelddbgnhfhkiaaDoor
