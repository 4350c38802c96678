/-
  Contracts of clock's In, Check, empty, Common, and of the specification's. Condition: ints are ints.
-/
import Derived.Test.YtnncfifpgjlpaabDoorClkA
import Derived.Deep.RegionHeld3
set_option linter.unusedVariables false
set_option linter.unusedSimpArgs false
set_option linter.unnecessarySimpa false
namespace Go.Proofs.YtnncfifpgjlpaabDoor
open Go.RowKit Go.PlainAid

theorem in_s (a b t : Int) (w : World) :
    Calls Tryd.prog 17 #[.agg #[.int .i64 a, .int .i64 b], .int .i64 t] w fun e w' => e = .returned (.bool (inW a b t)) ∧ Below w.heap.size w w' := by
  obtain ⟨x, hx⟩ : ∃ x, limI t = x := ⟨_, rfl⟩
  have HE := Lib.hid (show inW a b t = (decide (a ≤ x) && decide (x < b)) by unfold inW; rw [hx])
  have HB := Lib.hid ((Below.refl w.heap.size w).alloc (Nat.le_refl _) (.cells #[.int .i64 a, .int .i64 b] 27))
  by_cases h1 : a ≤ x
  · by_cases h2 : x < b
    · have d1 : decide (a ≤ x) = true := decide_eq_true h1
      have d2 : decide (x < b) = true := decide_eq_true h2
      have HF := Lib.hid (show inW a b t = true by rw [HE.out, d1, d2]; rfl)
      have HX := Lib.hid hx; clear hx h1 h2
      go_enter Tryd.func17, Tryd.ntmps17
      go_wp2_with (go_at_call 30; refine (limited_k _ x _ HX.out).mono ?_; rintro e w' ⟨rfl, rfl⟩)
      go_ret
      exact ⟨by rw [HF.out]; rfl, HB.out⟩
    · have d1 : decide (a ≤ x) = true := decide_eq_true h1
      have d2 : decide (x < b) = false := decide_eq_false h2
      have HF := Lib.hid (show inW a b t = false by rw [HE.out, d2, Bool.and_false])
      have HX := Lib.hid hx; clear hx h1 h2
      go_enter Tryd.func17, Tryd.ntmps17
      go_wp2_with (go_at_call 30; refine (limited_k _ x _ HX.out).mono ?_; rintro e w' ⟨rfl, rfl⟩)
      go_ret
      exact ⟨by rw [HF.out]; rfl, HB.out⟩
  · have d1 : decide (a ≤ x) = false := decide_eq_false h1
    have HF := Lib.hid (show inW a b t = false by rw [HE.out, d1, Bool.false_and])
    have HX := Lib.hid hx; clear hx h1
    go_enter Tryd.func17, Tryd.ntmps17
    go_wp2_with (go_at_call 30; refine (limited_k _ x _ HX.out).mono ?_; rintro e w' ⟨rfl, rfl⟩)
    go_ret
    exact ⟨by rw [HF.out]; rfl, HB.out⟩

theorem empty_s (a b : Int) (w : World) :
    Calls Tryd.prog 33 #[.agg #[.int .i64 a, .int .i64 b]] w fun e w' => e = .returned (.bool (decide (b ≤ a))) ∧ w' = w.alloc (.cells #[.int .i64 a, .int .i64 b] 27) := by
  go_enter Tryd.func33, Tryd.ntmps33
  go_wp2
  go_ret
  exact ⟨rfl, rfl⟩

theorem check_s (a b t s : Int) (w : World) :
    Calls Tryd.prog 19 #[.agg #[.int .i64 a, .int .i64 b], .int .i64 t, .int .i64 s] w fun e w' => e = .returned (.int .i64 (checkI a b t s)) ∧ Below w.heap.size w w' := by
  obtain ⟨x, hx⟩ : ∃ x, limI t = x := ⟨_, rfl⟩
  obtain ⟨y, hy⟩ : ∃ x, skewI s = x := ⟨_, rfl⟩
  have b1 := limI_bd t
  rw [hx] at b1
  obtain ⟨b1, b1'⟩ := b1
  have b2 : 0 ≤ y ∧ y ≤ 600 := by rw [← hy]; unfold skewI; omega
  obtain ⟨b2, b2'⟩ := b2
  have HE := Lib.hid (show checkI a b t s = if b < a then 2 else if x + y < a then 14 else if b ≤ x - y then 13 else 0 by unfold checkI; rw [hx, hy])
  have HB := Lib.hid ((Below.refl w.heap.size w).alloc (Nat.le_refl _) (.cells #[.int .i64 a, .int .i64 b] 27))
  have HX := Lib.hid hx; clear hx
  have HY : Hid (min (max s 0) 600 = y) := Lib.hid hy
  clear hy
  by_cases h1 : b < a
  · have HF := Lib.hid (show checkI a b t s = 2 by rw [HE.out, if_pos h1])
    go_enter Tryd.func19, Tryd.ntmps19
    go_wp2_with (first | (go_at_call 30; refine (limited_k _ x _ HX.out).mono ?_; rintro e w' ⟨rfl, rfl⟩) | (go_at_call 32; refine (between_s _ _ _ _).mono ?_; rintro e w' ⟨rfl, rfl⟩; rw [HY.out]))
    go_ret
    exact ⟨by rw [HF.out]; rfl, HB.out⟩
  · by_cases h2 : x + y < a
    · have HF := Lib.hid (show checkI a b t s = 14 by rw [HE.out, if_neg h1, if_pos h2])
      go_enter Tryd.func19, Tryd.ntmps19
      go_wp2_with (first | (go_at_call 30; refine (limited_k _ x _ HX.out).mono ?_; rintro e w' ⟨rfl, rfl⟩) | (go_at_call 32; refine (between_s _ _ _ _).mono ?_; rintro e w' ⟨rfl, rfl⟩; rw [HY.out]))
      go_ret
      exact ⟨by rw [HF.out]; rfl, HB.out⟩
    · by_cases h3 : b ≤ x - y
      · have HF := Lib.hid (show checkI a b t s = 13 by rw [HE.out, if_neg h1, if_neg h2, if_pos h3])
        go_enter Tryd.func19, Tryd.ntmps19
        go_wp2_with (first | (go_at_call 30; refine (limited_k _ x _ HX.out).mono ?_; rintro e w' ⟨rfl, rfl⟩) | (go_at_call 32; refine (between_s _ _ _ _).mono ?_; rintro e w' ⟨rfl, rfl⟩; rw [HY.out]))
        go_ret
        exact ⟨by rw [HF.out]; rfl, HB.out⟩
      · have HF := Lib.hid (show checkI a b t s = 0 by rw [HE.out, if_neg h1, if_neg h2, if_neg h3])
        go_enter Tryd.func19, Tryd.ntmps19
        go_wp2_with (first | (go_at_call 30; refine (limited_k _ x _ HX.out).mono ?_; rintro e w' ⟨rfl, rfl⟩) | (go_at_call 32; refine (between_s _ _ _ _).mono ?_; rintro e w' ⟨rfl, rfl⟩; rw [HY.out]))
        go_ret
        exact ⟨by rw [HF.out]; rfl, HB.out⟩

theorem below_allocs : ∀ (os : List Obj) (B : Nat) (a w : World), Below B a w → B ≤ w.heap.size → Below B a (os.foldl World.alloc w)
  | [], _, _, _, h, _ => h
  | o :: os, B, a, w, h, hB => below_allocs os B a (w.alloc o) (h.alloc hB o) (by show B ≤ (w.heap.push o).size; simp; omega)
theorem below5 (w : World) (o1 o2 o3 o4 o5 : Obj) : Below w.heap.size w (((((w.alloc o1).alloc o2).alloc o3).alloc o4).alloc o5) := below_allocs [o1, o2, o3, o4, o5] _ _ _ (Below.refl _ _) (Nat.le_refl _)
theorem below4 (w : World) (o1 o2 o3 o4 : Obj) : Below w.heap.size w ((((w.alloc o1).alloc o2).alloc o3).alloc o4) := below_allocs [o1, o2, o3, o4] _ _ _ (Below.refl _ _) (Nat.le_refl _)
/-- Common's answer -/
def comW (u v : Wn) : Wn := if min u.2 v.2 ≤ max u.1 v.1 then (0, 0) else (max u.1 v.1, min u.2 v.2)
def comB (u v : Wn) : Bool := !decide (min u.2 v.2 ≤ max u.1 v.1)
set_option maxHeartbeats 1000000 in
theorem common_s (u v : Wn) (w : World) :
    Calls Tryd.prog 21 #[.agg #[.int .i64 u.1, .int .i64 u.2], .agg #[.int .i64 v.1, .int .i64 v.2]] w fun e w' => e = .returned (.tuple #[.agg #[.int .i64 (comW u v).1, .int .i64 (comW u v).2], .bool (comB u v)]) ∧ Below w.heap.size w w' := by
  obtain ⟨x, hx⟩ : ∃ x, max u.1 v.1 = x := ⟨_, rfl⟩
  obtain ⟨y, hy⟩ : ∃ x, min u.2 v.2 = x := ⟨_, rfl⟩
  obtain ⟨a, b⟩ := u
  obtain ⟨c, d⟩ := v
  simp only at hx hy
  by_cases h : y ≤ x
  · have HF := Lib.hid (show comW (a, b) (c, d) = (0, 0) ∧ comB (a, b) (c, d) = false by
      unfold comW comB; simp only; rw [hx, hy, if_pos h, decide_eq_true h]; exact ⟨rfl, rfl⟩)
    have hd : decide (y ≤ x) = true := decide_eq_true h
    go_enter Tryd.func21, Tryd.ntmps21
    go_wp2_with (go_at_call 33; refine (empty_s _ _ _).mono ?_; rintro e w' ⟨rfl, rfl⟩)
    refine bodyPost_ret (v := .tuple #[.agg #[.int .i64 0, .int .i64 0], .bool false]) (by simp [results, Tryd.results21, go_sem]) rfl ⟨by rw [HF.out.1, HF.out.2], ?_⟩
    exact below5 _ _ _ _ _ _
  · have HF := Lib.hid (show comW (a, b) (c, d) = (x, y) ∧ comB (a, b) (c, d) = true by
      unfold comW comB; simp only; rw [hx, hy, if_neg h, decide_eq_false h]; exact ⟨rfl, rfl⟩)
    have hd : decide (y ≤ x) = false := decide_eq_false h
    go_enter Tryd.func21, Tryd.ntmps21
    go_wp2_with (go_at_call 33; refine (empty_s _ _ _).mono ?_; rintro e w' ⟨rfl, rfl⟩)
    refine bodyPost_ret (v := .tuple #[.agg #[.int .i64 x, .int .i64 y], .bool true]) (by simp [results, Tryd.results21, go_sem]) rfl ⟨by rw [HF.out.1, HF.out.2], ?_⟩
    exact below5 _ _ _ _ _ _
set_option maxHeartbeats 1000000 in
theorem rcommon_s (u v : Wn) (w : World) :
    Calls Tryd.prog 22 #[.agg #[.int .i64 u.1, .int .i64 u.2], .agg #[.int .i64 v.1, .int .i64 v.2]] w fun e w' => e = .returned (.tuple #[.agg #[.int .i64 (comW u v).1, .int .i64 (comW u v).2], .bool (comB u v)]) ∧ Below w.heap.size w w' := by
  obtain ⟨x, hx⟩ : ∃ x, max u.1 v.1 = x := ⟨_, rfl⟩
  obtain ⟨y, hy⟩ : ∃ x, min u.2 v.2 = x := ⟨_, rfl⟩
  obtain ⟨a, b⟩ := u
  obtain ⟨c, d⟩ := v
  simp only at hx hy
  by_cases h : y ≤ x
  · have HF := Lib.hid (show comW (a, b) (c, d) = (0, 0) ∧ comB (a, b) (c, d) = false by
      unfold comW comB; simp only; rw [hx, hy, if_pos h, decide_eq_true h]; exact ⟨rfl, rfl⟩)
    have hd : decide (y ≤ x) = true := decide_eq_true h
    go_enter Tryd.func22, Tryd.ntmps22
    go_wp2
    refine bodyPost_ret (v := .tuple #[.agg #[.int .i64 0, .int .i64 0], .bool false]) (by simp [results, Tryd.results22, go_sem]) rfl ⟨by rw [HF.out.1, HF.out.2], ?_⟩
    exact below4 _ _ _ _ _
  · have HF := Lib.hid (show comW (a, b) (c, d) = (x, y) ∧ comB (a, b) (c, d) = true by
      unfold comW comB; simp only; rw [hx, hy, if_neg h, decide_eq_false h]; exact ⟨rfl, rfl⟩)
    have hd : decide (y ≤ x) = false := decide_eq_false h
    go_enter Tryd.func22, Tryd.ntmps22
    go_wp2
    refine bodyPost_ret (v := .tuple #[.agg #[.int .i64 x, .int .i64 y], .bool true]) (by simp [results, Tryd.results22, go_sem]) rfl ⟨by rw [HF.out.1, HF.out.2], ?_⟩
    exact below4 _ _ _ _ _

end Go.Proofs.YtnncfifpgjlpaabDoor
