/-
  Contracts of clock's isLeap, daysOfMonth, daysBefore and toDays. Condition: the program's table of the lengths of months lies as its text lays it; years of at most 1000000.
-/
import Derived.Test.YtnncfifpgjlpaabDoorClkC
import Derived.Test.YtnncfifpgjlpaabDoorCalA
set_option linter.unusedVariables false
set_option linter.unusedSimpArgs false
set_option linter.unnecessarySimpa false
namespace Go.Proofs.YtnncfifpgjlpaabDoor
open Go.RowKit Go.PlainAid

def MonOk (w : World) : Prop := ∀ j, j < 12 → w.cell? ⟨0, j, none⟩ = some (.int .i64 (mtab (j + 1) : Nat))
theorem MonOk.lt {w : World} (h : MonOk w) : 0 < w.heap.size := World.block_lt_of_cell? w _ (h 0 (by decide))
theorem MonOk.below {w w' : World} (h : MonOk w) (hb : Below w.heap.size w w') : MonOk w' := fun j hj => by
  rw [hb.cell (p := ⟨0, j, none⟩) h.lt]; exact h j hj

set_option maxHeartbeats 1000000 in
theorem isLeap_s (y : Nat) (w : World) :
    Calls Tryd.prog 50 #[.int .i64 y] w fun e w' => e = .returned (.bool (leapN y)) ∧ w = w' := by
  have HL : Hid (leapN y = (decide (y % 4 = 0) && !decide (y % 100 = 0) || decide (y % 400 = 0))) := Lib.hid rfl
  by_cases h4 : y % 4 = 0
  · have d4 : ((y : Int) % 4 == 0) = true := by rw [beq_iff_eq]; omega
    by_cases h100 : y % 100 = 0
    · have d100 : ((y : Int) % 100 == 0) = true := by rw [beq_iff_eq]; omega
      have e100 : ((y : Int) % 100 != 0) = false := by simp [bne, d100]
      by_cases h400 : y % 400 = 0
      · have d400 : ((y : Int) % 400 == 0) = true := by rw [beq_iff_eq]; omega
        have HX := Lib.hid (show leapN y = true by rw [HL.out]; simp [h400])
        clear h4 h100 h400
        go_enter Tryd.func50, Tryd.ntmps50
        go_wp2
        go_ret
        exact ⟨by rw [HX.out]; rfl, rfl⟩
      · have d400 : ((y : Int) % 400 == 0) = false := by rw [beq_eq_false_iff_ne]; omega
        have HX := Lib.hid (show leapN y = false by rw [HL.out]; simp [h100, h400])
        clear h4 h100 h400
        go_enter Tryd.func50, Tryd.ntmps50
        go_wp2
        go_ret
        exact ⟨by rw [HX.out]; rfl, rfl⟩
    · have d100 : ((y : Int) % 100 == 0) = false := by rw [beq_eq_false_iff_ne]; omega
      have e100 : ((y : Int) % 100 != 0) = true := by simp [bne, d100]
      have HX := Lib.hid (show leapN y = true by rw [HL.out]; simp [h4, h100])
      clear h4 h100
      go_enter Tryd.func50, Tryd.ntmps50
      go_wp2
      go_ret
      exact ⟨by rw [HX.out]; rfl, rfl⟩
  · have d4 : ((y : Int) % 4 == 0) = false := by rw [beq_eq_false_iff_ne]; omega
    have d400 : ((y : Int) % 400 == 0) = false := by rw [beq_eq_false_iff_ne]; omega
    have HX := Lib.hid (show leapN y = false by rw [HL.out]; have : ¬ y % 400 = 0 := by omega
                                                simp [h4, this])
    clear h4
    go_enter Tryd.func50, Tryd.ntmps50
    go_wp2
    go_ret
    exact ⟨by rw [HX.out]; rfl, rfl⟩
theorem isLeap_k (y : Nat) (r : Bool) (w : World) (h : leapN y = r) :
    Calls Tryd.prog 50 #[.int .i64 y] w fun e w' => e = .returned (.bool r) ∧ w = w' := by subst h; exact isLeap_s y w

set_option maxHeartbeats 1000000 in
theorem daysOfMonth_s (y m : Nat) (w : World) (h1 : 1 ≤ m) (h2 : m ≤ 12) (ho : MonOk w) :
    Calls Tryd.prog 37 #[.int .i64 y, .int .i64 m] w fun e w' => e = .returned (.int .i64 (mlen y m : Nat)) ∧ w = w' := by
  have hc := ho (m - 1) (by omega)
  rw [show m - 1 + 1 = m by omega] at hc
  have hb := mtab_bd m h1 h2
  obtain ⟨t, ht⟩ : ∃ t, mtab m = t := ⟨_, rfl⟩
  rw [ht] at hc hb
  obtain ⟨hb1, hb2⟩ := hb
  have k1 : (1 : Int) ≤ (m : Int) := by omega
  have k2 : (m : Int) ≤ 12 := by omega
  have HL := Lib.hid (show mlen y m = if m = 2 ∧ leapN y = true then 29 else t by unfold mlen; rw [ht])
  clear ho
  by_cases hm : m = 2
  · have d2 : ((m : Int) == 2) = true := by rw [beq_iff_eq]; omega
    cases hl : leapN y with
    | true =>
      have HX := Lib.hid (show mlen y m = 29 by rw [HL.out, if_pos ⟨hm, hl⟩])
      have ht28 : t = 28 := by rw [← ht, hm]; rfl
      have HT := Lib.hid ht28
      clear hm ht ht28
      go_enter Tryd.func37, Tryd.ntmps37
      go_wp2_with (go_at_call 50; refine (isLeap_k _ true _ hl).mono ?_; rintro e w' ⟨rfl, rfl⟩)
      go_ret
      exact ⟨by rw [HX.out, HT.out]; rfl, rfl⟩
    | false =>
      have HX := Lib.hid (show mlen y m = t by rw [HL.out, if_neg (by simp [hl])])
      clear hm ht
      go_enter Tryd.func37, Tryd.ntmps37
      go_wp2_with (go_at_call 50; refine (isLeap_k _ false _ hl).mono ?_; rintro e w' ⟨rfl, rfl⟩)
      go_ret
      exact ⟨by rw [HX.out]; rfl, rfl⟩
  · have d2 : ((m : Int) == 2) = false := by rw [beq_eq_false_iff_ne]; omega
    have HX := Lib.hid (show mlen y m = t by rw [HL.out, if_neg (by simp [hm])])
    clear hm ht
    go_enter Tryd.func37, Tryd.ntmps37
    go_wp2_with fail
    go_ret
    exact ⟨by rw [HX.out]; rfl, rfl⟩

theorem dby_int (y : Nat) : 365 * (y : Int) + ((y : Int) + 3) / 4 - ((y : Int) + 99) / 100 + ((y : Int) + 399) / 400 = ((dby y : Nat) : Int) := by unfold dby; omega
theorem daysBefore_s (y : Nat) (w : World) (hy : y ≤ 100000000000) :
    Calls Tryd.prog 51 #[.int .i64 y] w fun e w' => e = .returned (.int .i64 (dby y : Nat)) ∧ w = w' := by
  have HD := Lib.hid (dby_int y)
  go_enter Tryd.func51, Tryd.ntmps51
  go_wp2
  go_ret
  exact ⟨by rw [← HD.out]; rfl, rfl⟩
theorem daysBefore_k (y : Nat) (v x : Int) (w : World) (hy : y ≤ 100000000000) (hv : v = (y : Int)) (h : ((dby y : Nat) : Int) = x) :
    Calls Tryd.prog 51 #[.int .i64 v] w fun e w' => e = .returned (.int .i64 x) ∧ w = w' := by subst h hv; exact daysBefore_s y w hy

theorem cum_bd (y k : Nat) (h : k ≤ 12) : cumM y k ≤ 366 := by have := cum_le y k h; have := ylen_le y; omega
set_option maxHeartbeats 1000000 in
theorem toDays_s (y m d : Nat) (w : World) (hy : y ≤ 1000000) (h1 : 1 ≤ m) (h2 : m ≤ 12) (hd : d ≤ 100) (ho : MonOk w) :
    Calls Tryd.prog 38 #[.int .i64 y, .int .i64 m, .int .i64 d] w fun e w' => e = .returned (.int .i64 ((dby y : Nat) - 719528 + (cumM y (m - 1) : Nat) + d - 1)) ∧ w = w' := by
  obtain ⟨D, hD, hD2⟩ : ∃ D : Int, ((dby y : Nat) : Int) = D ∧ 0 ≤ D ∧ D ≤ 400000000 := ⟨_, rfl, by omega, by
    have : dby y ≤ 400000000 := by unfold dby; omega
    omega⟩
  obtain ⟨hD2, hD3⟩ := hD2
  have HO := Lib.hid ho; clear ho
  rw [hD]
  have H70 := Lib.hid (show ((dby 1970 : Nat) : Int) = 719528 by rw [dby_1970]; rfl)
  have HD := Lib.hid hD; clear hD
  go_enter Tryd.func38, Tryd.ntmps38
  go_wp2_with fail
  refine (daysBefore_k y _ D _ (by omega) rfl HD.out).mono ?_
  rintro e w' ⟨rfl, rfl⟩
  go_wp2_with fail
  refine (daysBefore_k 1970 _ 719528 _ (by omega) rfl H70.out).mono ?_
  rintro e w' ⟨rfl, rfl⟩
  go_wp2_with fail
  go_loop [7, 8] (fun nv i => ∃ (k c : Nat), 1 ≤ k ∧ k ≤ m ∧ i = .int .i64 k ∧ c ≤ 366 ∧ nv = .int .i64 (D - 719528 + c) ∧ Hid (c = cumM y (k - 1))) (fun _ i => m - (intOf i).toNat)
  case atStart => exact ⟨1, 0, Nat.le_refl _, h1, rfl, Nat.zero_le _, by simp, Lib.hid rfl⟩
  case round =>
    obtain ⟨k, c, hk1, hk, rfl, hc, rfl, HC⟩ := hrel
    by_cases hlt : k < m
    · have hb := mlen_bd y k hk1 (by omega)
      have HN := Lib.hid (show c + mlen y k = cumM y (k + 1 - 1) by
        obtain ⟨j, rfl⟩ : ∃ j, k = j + 1 := ⟨k - 1, by omega⟩
        rw [HC.out]; rfl)
      have HB := Lib.hid (cum_bd y k (by omega))
      obtain ⟨q, hq⟩ : ∃ q, mlen y k = q := ⟨_, rfl⟩
      rw [hq] at hb HN
      have HQ := Lib.hid hq
      go_wp2_with (go_at_call 37; refine (daysOfMonth_s y k _ hk1 (by omega) HO.out).mono ?_; rintro e w' ⟨rfl, rfl⟩; rw [HQ.out])
      go_round
      case rel => exact ⟨k + 1, c + q, by omega, by omega, by go_num, by rw [HN.out, show k + 1 - 1 = k by omega]; exact HB.out, by go_num, HN⟩
      case measure => simp [intOf]; omega
    · obtain rfl : k = m := by omega
      go_wp2_with fail
      go_ret
      exact ⟨by rw [← HC.out]; rfl, rfl⟩

end Go.Proofs.YtnncfifpgjlpaabDoor
