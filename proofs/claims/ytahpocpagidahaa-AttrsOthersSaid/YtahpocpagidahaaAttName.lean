/-
  Contracts of the specification's Clean, of Name and of the specification's Name. Condition: at most 1000000000 bytes.
-/
import Derived.Test.YtahpocpagidahaaAttKind
set_option linter.unusedVariables false
set_option linter.unusedSimpArgs false
set_option linter.unnecessarySimpa false
namespace Go.Proofs.Ytahpocpagidahaa
open Go.RowKit Go.PlainAid



set_option maxRecDepth 100000 in
set_option maxHeartbeats 1000000 in
theorem rClean_s (s : ByteArray) (w : World) (hs : s.size ≤ 1000000000) :
    Calls Try.prog 67 #[.string s] w fun e w' => e = .returned (.bool (cleanB s)) ∧ w = w' := by
  have hb := get_bt s
  by_cases hz : 1 ≤ s.size
  · by_cases hz2 : s.size ≤ 256
    · by_cases b1 : (bt s 0 == 32) = true
      · have HE := Lib.hid (show cleanB s = false by unfold cleanB; simp [b1])
        go_enter Try.func67, Try.ntmps67
        go_wp2
        go_ret
        exact ⟨by rw [HE.out]; rfl, rfl⟩
      · have b2 : (bt s 0 == 32) = false := by simpa using b1
        clear b1
        have hsub : IntKind.i64.wrap ((s.size : Int) - 1) = ((s.size - 1 : Nat) : Int) := by rw [IntWalk.i64_in _ ⟨by omega, by omega⟩]; omega
        by_cases b3 : (bt s (s.size - 1) == 32) = true
        · have HE := Lib.hid (show cleanB s = false by unfold cleanB; simp [b3])
          go_enter Try.func67, Try.ntmps67
          go_wp2
          go_ret
          exact ⟨by rw [HE.out]; rfl, rfl⟩
        · have b4 : (bt s (s.size - 1) == 32) = false := by simpa using b3
          clear b3
          go_enter Try.func67, Try.ntmps67
          go_wp2
          have B2 := Lib.hid b2
          have B4 := Lib.hid b4
          clear b2 b4 hsub
          go_loop [3] (fun i => ∃ k : Nat, k ≤ s.size ∧ i = .int .i64 k ∧ Hid (∀ j, j < k → cleanP (bt s j) = true)) (fun i => s.size - (intOf i).toNat)
          case atStart => exact ⟨0, Nat.zero_le _, rfl, Lib.hid fun j hj => absurd hj (Nat.not_lt_zero _)⟩
          case round =>
            obtain ⟨k, hk, rfl, HA⟩ := hrel
            have h0 := bt_nonneg s k
            have h255 := bt_le s k
            by_cases hlt : k < s.size
            · by_cases a1 : bt s k < 32
              · have HE := Lib.hid (show cleanB s = false by unfold cleanB; rw [allB_false k hlt (by unfold cleanP; simp; omega), Bool.and_false])
                go_wp2
                go_ret
                exact ⟨by rw [HE.out]; rfl, rfl⟩
              · by_cases a2 : 126 < bt s k
                · have HE := Lib.hid (show cleanB s = false by unfold cleanB; rw [allB_false k hlt (by unfold cleanP; simp; omega), Bool.and_false])
                  go_wp2
                  go_ret
                  exact ⟨by rw [HE.out]; rfl, rfl⟩
                · go_wp2
                  go_round
                  case rel => exact ⟨k + 1, by omega, by go_num, Lib.hid (all_next HA.out (by unfold cleanP; simp; omega))⟩
                  case measure => simp [intOf]; omega
            · have HE := Lib.hid (show cleanB s = true by
                unfold cleanB; rw [allB_true (p := cleanP) (s := s) fun j hj => HA.out j (by omega), B2.out, B4.out]; simp [hz, hz2])
              go_wp2
              go_ret
              exact ⟨by rw [HE.out]; rfl, rfl⟩
    · have HE := Lib.hid (show cleanB s = false by unfold cleanB; simp [hz2])
      go_enter Try.func67, Try.ntmps67
      go_wp2
      go_ret
      exact ⟨by rw [HE.out]; rfl, rfl⟩
  · have HE := Lib.hid (show cleanB s = false by unfold cleanB; simp [hz])
    go_enter Try.func67, Try.ntmps67
    go_wp2
    go_ret
    exact ⟨by rw [HE.out]; rfl, rfl⟩

set_option maxRecDepth 100000 in
set_option maxHeartbeats 1000000 in
theorem name_s (s : ByteArray) (w : World) (hs : s.size ≤ 1000000000) :
    Calls Try.prog 37 #[.string s] w fun e w' => e = .returned (.bool (nameB s)) ∧ w = w' := by
  have hb := get_bt s
  by_cases hz : 1 ≤ s.size
  · by_cases hz2 : s.size ≤ 64
    · by_cases b1 : ltrI (bt s 0) = true
      · go_enter Try.func37, Try.ntmps37
        go_wp2_with (first
          | (go_at_call 62; refine (letter_any _ _ (bt_nonneg _ _) (bt_le _ _)).mono ?_; rintro e w' ⟨rfl, rfl⟩)
          | (go_at_call 63; refine (digit_any _ _ (bt_nonneg _ _) (bt_le _ _)).mono ?_; rintro e w' ⟨rfl, rfl⟩))
        have B1 := Lib.hid b1; clear b1
        go_loop [20] (fun i => ∃ k : Nat, k ≤ s.size ∧ i = .int .i64 k ∧ Hid (∀ j, j < k → nameP (bt s j) = true)) (fun i => s.size - (intOf i).toNat)
        case atStart => exact ⟨0, Nat.zero_le _, rfl, Lib.hid fun j hj => absurd hj (Nat.not_lt_zero _)⟩
        case round =>
          obtain ⟨k, hk, rfl, HA⟩ := hrel
          by_cases hlt : k < s.size
          · cases c1 : ltrI (bt s k)
            · cases c2 : dgtI (bt s k)
              · cases c3 : (bt s k == 45)
                · have HE := Lib.hid (show nameB s = false by unfold nameB; rw [allB_false k hlt (by unfold nameP; rw [c1, c2, c3]; rfl), Bool.and_false])
                  have c4 : (bt s k != 45) = true := by rw [bne, c3]; rfl
                  clear c3
                  go_wp2_with (first | (go_at_call 62; refine (letter_any _ _ (bt_nonneg _ _) (bt_le _ _)).mono ?_; rintro e w' ⟨rfl, rfl⟩) | (go_at_call 63; refine (digit_any _ _ (bt_nonneg _ _) (bt_le _ _)).mono ?_; rintro e w' ⟨rfl, rfl⟩))
                  go_ret
                  exact ⟨by rw [HE.out]; rfl, rfl⟩
                · have c4 : (bt s k != 45) = false := by rw [bne, c3]; rfl
                  have HN := Lib.hid (all_next HA.out (show nameP (bt s k) = true by unfold nameP; rw [c1, c2, c3]; rfl))
                  clear c3
                  go_wp2_with (first | (go_at_call 62; refine (letter_any _ _ (bt_nonneg _ _) (bt_le _ _)).mono ?_; rintro e w' ⟨rfl, rfl⟩) | (go_at_call 63; refine (digit_any _ _ (bt_nonneg _ _) (bt_le _ _)).mono ?_; rintro e w' ⟨rfl, rfl⟩))
                  go_round
                  case rel => exact ⟨k + 1, by omega, by go_num, HN⟩
                  case measure => simp [intOf]; omega
              · have HN := Lib.hid (all_next HA.out (show nameP (bt s k) = true by unfold nameP; rw [c1, c2]; rfl))
                go_wp2_with (first | (go_at_call 62; refine (letter_any _ _ (bt_nonneg _ _) (bt_le _ _)).mono ?_; rintro e w' ⟨rfl, rfl⟩) | (go_at_call 63; refine (digit_any _ _ (bt_nonneg _ _) (bt_le _ _)).mono ?_; rintro e w' ⟨rfl, rfl⟩))
                go_round
                case rel => exact ⟨k + 1, by omega, by go_num, HN⟩
                case measure => simp [intOf]; omega
            · have HN := Lib.hid (all_next HA.out (show nameP (bt s k) = true by unfold nameP; rw [c1]; rfl))
              go_wp2_with (first | (go_at_call 62; refine (letter_any _ _ (bt_nonneg _ _) (bt_le _ _)).mono ?_; rintro e w' ⟨rfl, rfl⟩) | (go_at_call 63; refine (digit_any _ _ (bt_nonneg _ _) (bt_le _ _)).mono ?_; rintro e w' ⟨rfl, rfl⟩))
              go_round
              case rel => exact ⟨k + 1, by omega, by go_num, HN⟩
              case measure => simp [intOf]; omega
          · have HE := Lib.hid (show nameB s = true by
              unfold nameB; rw [allB_true (p := nameP) (s := s) fun j hj => HA.out j (by omega), B1.out]; simp [hz, hz2])
            go_wp2
            go_ret
            exact ⟨by rw [HE.out]; rfl, rfl⟩
      · have b2 : ltrI (bt s 0) = false := by simpa using b1
        clear b1
        have HE := Lib.hid (show nameB s = false by unfold nameB; simp [b2])
        go_enter Try.func37, Try.ntmps37
        go_wp2_with (first | (go_at_call 62; refine (letter_any _ _ (bt_nonneg _ _) (bt_le _ _)).mono ?_; rintro e w' ⟨rfl, rfl⟩) | (go_at_call 63; refine (digit_any _ _ (bt_nonneg _ _) (bt_le _ _)).mono ?_; rintro e w' ⟨rfl, rfl⟩))
        go_ret
        exact ⟨by rw [HE.out]; rfl, rfl⟩
    · have HE := Lib.hid (show nameB s = false by unfold nameB; simp [hz2])
      go_enter Try.func37, Try.ntmps37
      go_wp2
      go_ret
      exact ⟨by rw [HE.out]; rfl, rfl⟩
  · have HE := Lib.hid (show nameB s = false by unfold nameB; simp [hz])
    go_enter Try.func37, Try.ntmps37
    go_wp2
    go_ret
    exact ⟨by rw [HE.out]; rfl, rfl⟩

set_option maxRecDepth 100000 in
set_option maxHeartbeats 1000000 in
theorem rName_s (s : ByteArray) (w : World) (hs : s.size ≤ 1000000000) :
    Calls Try.prog 39 #[.string s] w fun e w' => e = .returned (.bool (nameB s)) ∧ w = w' := by
  have hb := get_bt s
  by_cases hz : 1 ≤ s.size
  · by_cases hz2 : s.size ≤ 64
    · by_cases b1 : ltrI (bt s 0) = true
      · go_enter Try.func39, Try.ntmps39
        go_wp2_with (first
          | (go_at_call 65; refine (rLetter_any _ _ (bt_nonneg _ _) (bt_le _ _)).mono ?_; rintro e w' ⟨rfl, rfl⟩)
          | (go_at_call 66; refine (rDigit_any _ _ (bt_nonneg _ _) (bt_le _ _)).mono ?_; rintro e w' ⟨rfl, rfl⟩))
        have B1 := Lib.hid b1; clear b1
        go_loop [3] (fun i => ∃ k : Nat, k ≤ s.size ∧ i = .int .i64 k ∧ Hid (∀ j, j < k → nameP (bt s j) = true)) (fun i => s.size - (intOf i).toNat)
        case atStart => exact ⟨0, Nat.zero_le _, rfl, Lib.hid fun j hj => absurd hj (Nat.not_lt_zero _)⟩
        case round =>
          obtain ⟨k, hk, rfl, HA⟩ := hrel
          by_cases hlt : k < s.size
          · cases c1 : ltrI (bt s k)
            · cases c2 : dgtI (bt s k)
              · cases c3 : (bt s k == 45)
                · have HE := Lib.hid (show nameB s = false by unfold nameB; rw [allB_false k hlt (by unfold nameP; rw [c1, c2, c3]; rfl), Bool.and_false])
                  have c4 : (bt s k != 45) = true := by rw [bne, c3]; rfl
                  clear c3
                  go_wp2_with (first | (go_at_call 65; refine (rLetter_any _ _ (bt_nonneg _ _) (bt_le _ _)).mono ?_; rintro e w' ⟨rfl, rfl⟩) | (go_at_call 66; refine (rDigit_any _ _ (bt_nonneg _ _) (bt_le _ _)).mono ?_; rintro e w' ⟨rfl, rfl⟩))
                  go_ret
                  exact ⟨by rw [HE.out]; rfl, rfl⟩
                · have c4 : (bt s k != 45) = false := by rw [bne, c3]; rfl
                  have HN := Lib.hid (all_next HA.out (show nameP (bt s k) = true by unfold nameP; rw [c1, c2, c3]; rfl))
                  clear c3
                  go_wp2_with (first | (go_at_call 65; refine (rLetter_any _ _ (bt_nonneg _ _) (bt_le _ _)).mono ?_; rintro e w' ⟨rfl, rfl⟩) | (go_at_call 66; refine (rDigit_any _ _ (bt_nonneg _ _) (bt_le _ _)).mono ?_; rintro e w' ⟨rfl, rfl⟩))
                  go_round
                  case rel => exact ⟨k + 1, by omega, by go_num, HN⟩
                  case measure => simp [intOf]; omega
              · have HN := Lib.hid (all_next HA.out (show nameP (bt s k) = true by unfold nameP; rw [c1, c2]; rfl))
                go_wp2_with (first | (go_at_call 65; refine (rLetter_any _ _ (bt_nonneg _ _) (bt_le _ _)).mono ?_; rintro e w' ⟨rfl, rfl⟩) | (go_at_call 66; refine (rDigit_any _ _ (bt_nonneg _ _) (bt_le _ _)).mono ?_; rintro e w' ⟨rfl, rfl⟩))
                go_round
                case rel => exact ⟨k + 1, by omega, by go_num, HN⟩
                case measure => simp [intOf]; omega
            · have HN := Lib.hid (all_next HA.out (show nameP (bt s k) = true by unfold nameP; rw [c1]; rfl))
              go_wp2_with (first | (go_at_call 65; refine (rLetter_any _ _ (bt_nonneg _ _) (bt_le _ _)).mono ?_; rintro e w' ⟨rfl, rfl⟩) | (go_at_call 66; refine (rDigit_any _ _ (bt_nonneg _ _) (bt_le _ _)).mono ?_; rintro e w' ⟨rfl, rfl⟩))
              go_round
              case rel => exact ⟨k + 1, by omega, by go_num, HN⟩
              case measure => simp [intOf]; omega
          · have HE := Lib.hid (show nameB s = true by
              unfold nameB; rw [allB_true (p := nameP) (s := s) fun j hj => HA.out j (by omega), B1.out]; simp [hz, hz2])
            go_wp2
            go_ret
            exact ⟨by rw [HE.out]; rfl, rfl⟩
      · have b2 : ltrI (bt s 0) = false := by simpa using b1
        clear b1
        have HE := Lib.hid (show nameB s = false by unfold nameB; simp [b2])
        go_enter Try.func39, Try.ntmps39
        go_wp2_with (first | (go_at_call 65; refine (rLetter_any _ _ (bt_nonneg _ _) (bt_le _ _)).mono ?_; rintro e w' ⟨rfl, rfl⟩) | (go_at_call 66; refine (rDigit_any _ _ (bt_nonneg _ _) (bt_le _ _)).mono ?_; rintro e w' ⟨rfl, rfl⟩))
        go_ret
        exact ⟨by rw [HE.out]; rfl, rfl⟩
    · have HE := Lib.hid (show nameB s = false by unfold nameB; simp [hz2])
      go_enter Try.func39, Try.ntmps39
      go_wp2
      go_ret
      exact ⟨by rw [HE.out]; rfl, rfl⟩
  · have HE := Lib.hid (show nameB s = false by unfold nameB; simp [hz])
    go_enter Try.func39, Try.ntmps39
    go_wp2
    go_ret
    exact ⟨by rw [HE.out]; rfl, rfl⟩


end Go.Proofs.Ytahpocpagidahaa
