/-
  Contracts of wordByte, Word and the specification's Word. Condition: at most 1000000000 bytes.
-/
import Derived.Test.YtminodinhbcgnaaDoorAttKind
set_option maxRecDepth 100000
set_option linter.unusedVariables false
set_option linter.unusedSimpArgs false
set_option linter.unnecessarySimpa false
namespace Go.Proofs.YtminodinhbcgnaaDoor
open Go.RowKit Go.PlainAid

theorem wordByte_any (c : Int) (w : World) (h0 : 0 ≤ c) (h1 : c ≤ 255) :
    Calls Tryd.prog 66 #[.int .u8 c] w fun e w' => e = .returned (.bool (wordP c)) ∧ w = w' := by
  cases a1 : (c == 45)
  · cases a2 : (c == 95)
    · cases a3 : (c == 46)
      · cases a4 : (c == 58)
        · cases l : ltrI c
          · cases d : dgtI c
            · have HE := Lib.hid (show wordP c = false by unfold wordP; rw [a1, a2, a3, a4, l, d]; rfl)
              go_enter Tryd.func66, Tryd.ntmps66
              go_wp2_with (first | (go_at_call 88; refine (letter_any _ _ h0 h1).mono ?_; rintro e w' ⟨rfl, rfl⟩) | (go_at_call 89; refine (digit_any _ _ h0 h1).mono ?_; rintro e w' ⟨rfl, rfl⟩))
              go_ret
              exact ⟨by rw [HE.out]; rfl, rfl⟩
            · have HE := Lib.hid (show wordP c = true by unfold wordP; rw [a1, a2, a3, a4, l, d]; rfl)
              go_enter Tryd.func66, Tryd.ntmps66
              go_wp2_with (first | (go_at_call 88; refine (letter_any _ _ h0 h1).mono ?_; rintro e w' ⟨rfl, rfl⟩) | (go_at_call 89; refine (digit_any _ _ h0 h1).mono ?_; rintro e w' ⟨rfl, rfl⟩))
              go_ret
              exact ⟨by rw [HE.out]; rfl, rfl⟩
          · have HE := Lib.hid (show wordP c = true by unfold wordP; rw [l]; rfl)
            go_enter Tryd.func66, Tryd.ntmps66
            go_wp2_with (first | (go_at_call 88; refine (letter_any _ _ h0 h1).mono ?_; rintro e w' ⟨rfl, rfl⟩) | (go_at_call 89; refine (digit_any _ _ h0 h1).mono ?_; rintro e w' ⟨rfl, rfl⟩))
            go_ret
            exact ⟨by rw [HE.out]; rfl, rfl⟩
        · have HE := Lib.hid (show wordP c = true by unfold wordP; rw [a4]; simp)
          go_enter Tryd.func66, Tryd.ntmps66
          go_wp2
          go_ret
          exact ⟨by rw [HE.out]; rfl, rfl⟩
      · have HE := Lib.hid (show wordP c = true by unfold wordP; rw [a3]; simp)
        go_enter Tryd.func66, Tryd.ntmps66
        go_wp2
        go_ret
        exact ⟨by rw [HE.out]; rfl, rfl⟩
    · have HE := Lib.hid (show wordP c = true by unfold wordP; rw [a2]; simp)
      go_enter Tryd.func66, Tryd.ntmps66
      go_wp2
      go_ret
      exact ⟨by rw [HE.out]; rfl, rfl⟩
  · have HE := Lib.hid (show wordP c = true by unfold wordP; rw [a1]; simp)
    go_enter Tryd.func66, Tryd.ntmps66
    go_wp2
    go_ret
    exact ⟨by rw [HE.out]; rfl, rfl⟩

set_option maxRecDepth 100000 in
set_option maxHeartbeats 1000000 in
theorem word_s (s : ByteArray) (w : World) (hs : s.size ≤ 1000000000) :
    Calls Tryd.prog 47 #[.string s] w fun e w' => e = .returned (.bool (wordB s)) ∧ w = w' := by
  have hb := get_bt s
  by_cases hz : 1 ≤ s.size
  · by_cases hz2 : s.size ≤ 64
    · go_enter Tryd.func47, Tryd.ntmps47
      go_wp2
      go_loop [14] (fun i => ∃ k : Nat, k ≤ s.size ∧ i = .int .i64 k ∧ Hid (∀ j, j < k → wordP (bt s j) = true)) (fun i => s.size - (intOf i).toNat)
      case atStart => exact ⟨0, Nat.zero_le _, rfl, Lib.hid fun j hj => absurd hj (Nat.not_lt_zero _)⟩
      case round =>
        obtain ⟨k, hk, rfl, HA⟩ := hrel
        by_cases hlt : k < s.size
        · cases c1 : wordP (bt s k)
          · have HE := Lib.hid (show wordB s = false by unfold wordB; rw [allB_false k hlt c1, Bool.and_false])
            go_wp2_with (go_at_call 66; refine (wordByte_any _ _ (bt_nonneg _ _) (bt_le _ _)).mono ?_; rintro e w' ⟨rfl, rfl⟩)
            go_ret
            exact ⟨by rw [HE.out]; rfl, rfl⟩
          · have HN := Lib.hid (all_next HA.out c1)
            go_wp2_with (go_at_call 66; refine (wordByte_any _ _ (bt_nonneg _ _) (bt_le _ _)).mono ?_; rintro e w' ⟨rfl, rfl⟩)
            go_round
            case rel => exact ⟨k + 1, by omega, by go_num, HN⟩
            case measure => simp [intOf]; omega
        · have HE := Lib.hid (show wordB s = true by
            unfold wordB; rw [allB_true (p := wordP) (s := s) fun j hj => HA.out j (by omega)]; simp [hz, hz2])
          go_wp2
          go_ret
          exact ⟨by rw [HE.out]; rfl, rfl⟩
    · have HE := Lib.hid (show wordB s = false by unfold wordB; simp [hz2])
      go_enter Tryd.func47, Tryd.ntmps47
      go_wp2
      go_ret
      exact ⟨by rw [HE.out]; rfl, rfl⟩
  · have HE := Lib.hid (show wordB s = false by unfold wordB; simp [hz])
    go_enter Tryd.func47, Tryd.ntmps47
    go_wp2
    go_ret
    exact ⟨by rw [HE.out]; rfl, rfl⟩

set_option maxRecDepth 100000 in
set_option maxHeartbeats 2000000 in
theorem rWord_s (s : ByteArray) (w : World) (hs : s.size ≤ 1000000000) :
    Calls Tryd.prog 51 #[.string s] w fun e w' => e = .returned (.bool (wordB s)) ∧ w = w' := by
  have hb := get_bt s
  go_enter Tryd.func51, Tryd.ntmps51
  go_wp2
  go_loop [3] (fun i => ∃ k : Nat, k ≤ s.size ∧ i = .int .i64 k ∧ Hid (∀ j, j < k → wordP (bt s j) = true)) (fun i => s.size - (intOf i).toNat)
  case atStart => exact ⟨0, Nat.zero_le _, rfl, Lib.hid fun j hj => absurd hj (Nat.not_lt_zero _)⟩
  case round =>
    obtain ⟨k, hk, rfl, HA⟩ := hrel
    by_cases hlt : k < s.size
    · have hex : (wordP (bt s k) = false ∧ ltrI (bt s k) = false ∧ dgtI (bt s k) = false ∧ (bt s k != 45) = true ∧ (bt s k != 95) = true ∧ (bt s k != 46) = true ∧ (bt s k != 58) = true) ∨
          (wordP (bt s k) = true ∧ (ltrI (bt s k) = true ∨ (ltrI (bt s k) = false ∧ dgtI (bt s k) = true) ∨
            (ltrI (bt s k) = false ∧ dgtI (bt s k) = false ∧ (bt s k != 45) = false) ∨ (ltrI (bt s k) = false ∧ dgtI (bt s k) = false ∧ (bt s k != 45) = true ∧ (bt s k != 95) = false) ∨
            (ltrI (bt s k) = false ∧ dgtI (bt s k) = false ∧ (bt s k != 45) = true ∧ (bt s k != 95) = true ∧ (bt s k != 46) = false) ∨
            (ltrI (bt s k) = false ∧ dgtI (bt s k) = false ∧ (bt s k != 45) = true ∧ (bt s k != 95) = true ∧ (bt s k != 46) = true ∧ (bt s k != 58) = false))) := by
        unfold wordP bne
        cases ltrI (bt s k) <;> cases dgtI (bt s k) <;> cases (bt s k == 45) <;> cases (bt s k == 95) <;> cases (bt s k == 46) <;> cases (bt s k == 58) <;> simp
      rcases hex with ⟨c0, c1, c2, c3, c4, c5, c6⟩ | ⟨c0, hex⟩
      · have HE := Lib.hid (show wordB s = false by unfold wordB; rw [allB_false k hlt c0, Bool.and_false])
        clear c0
        go_wp2_with (first
          | (go_at_call 68; refine (rLetter_any _ _ (bt_nonneg _ _) (bt_le _ _)).mono ?_; rintro e w' ⟨rfl, rfl⟩)
          | (go_at_call 69; refine (rDigit_any _ _ (bt_nonneg _ _) (bt_le _ _)).mono ?_; rintro e w' ⟨rfl, rfl⟩))
        go_ret
        exact ⟨by rw [HE.out]; rfl, rfl⟩
      · have HN := Lib.hid (all_next HA.out c0)
        clear c0
        rcases hex with c1 | ⟨c1, c2⟩ | ⟨c1, c2, c3⟩ | ⟨c1, c2, c3, c4⟩ | ⟨c1, c2, c3, c4, c5⟩ | ⟨c1, c2, c3, c4, c5, c6⟩
        all_goals
          go_wp2_with (first | (go_at_call 68; refine (rLetter_any _ _ (bt_nonneg _ _) (bt_le _ _)).mono ?_; rintro e w' ⟨rfl, rfl⟩) | (go_at_call 69; refine (rDigit_any _ _ (bt_nonneg _ _) (bt_le _ _)).mono ?_; rintro e w' ⟨rfl, rfl⟩))
          go_round
          case rel => exact ⟨k + 1, by omega, by go_num, HN⟩
          case measure => simp [intOf]; omega
    · have HB := Lib.hid (allB_true (p := wordP) (s := s) fun j hj => HA.out j (by omega))
      by_cases hz : 1 ≤ s.size
      · by_cases hz2 : s.size ≤ 64
        · have HE := Lib.hid (show wordB s = true by unfold wordB; rw [HB.out]; simp [hz, hz2])
          have hz3 : decide ((s.size : Int) ≤ 64) = true := by simp; omega
          go_wp2
          go_ret
          exact ⟨by rw [HE.out]; rfl, rfl⟩
        · have HE := Lib.hid (show wordB s = false by unfold wordB; simp [hz2])
          have hz3 : decide ((s.size : Int) ≤ 64) = false := by simp; omega
          go_wp2
          go_ret
          exact ⟨by rw [HE.out]; rfl, rfl⟩
      · have HE := Lib.hid (show wordB s = false by unfold wordB; simp [hz])
        go_wp2
        go_ret
        exact ⟨by rw [HE.out]; rfl, rfl⟩

end Go.Proofs.YtminodinhbcgnaaDoor
