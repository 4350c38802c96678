/-
  Contracts of the specification's Clean, of Name and of the specification's Name. Condition: at most 1000000000 bytes.
-/
import Derived.Test.YtmkcojgdhdmnnaaDoorAttKind
import Derived.Test.YtmkcojgdhdmnnaaDoorAttKind
set_option maxRecDepth 100000
set_option linter.unusedVariables false
set_option linter.unusedSimpArgs false
set_option linter.unnecessarySimpa false
namespace Go.Proofs.YtmkcojgdhdmnnaaDoor
open Go.RowKit Go.PlainAid



set_option maxRecDepth 100000 in
set_option maxHeartbeats 1000000 in
theorem rClean_s (s : ByteArray) (w : World) (hs : s.size ≤ 1000000000) :
    Calls Tryd.prog 31 #[.string s] w fun e w' => e = .returned (.bool (cleanB s)) ∧ w = w' := by
  have hb := get_bt s
  by_cases hz : 1 ≤ s.size
  · by_cases hz2 : s.size ≤ 256
    · by_cases b1 : (bt s 0 == 32) = true
      · have HE := Lib.hid (show cleanB s = false by unfold cleanB; simp [b1])
        go_enter Tryd.func31, Tryd.ntmps31
        go_wp2
        go_ret
        exact ⟨by rw [HE.out]; rfl, rfl⟩
      · have b2 : (bt s 0 == 32) = false := by simpa using b1
        clear b1
        have hsub : IntKind.i64.wrap ((s.size : Int) - 1) = ((s.size - 1 : Nat) : Int) := by rw [IntWalk.i64_in _ ⟨by omega, by omega⟩]; omega
        by_cases b3 : (bt s (s.size - 1) == 32) = true
        · have HE := Lib.hid (show cleanB s = false by unfold cleanB; simp [b3])
          go_enter Tryd.func31, Tryd.ntmps31
          go_wp2
          go_ret
          exact ⟨by rw [HE.out]; rfl, rfl⟩
        · have b4 : (bt s (s.size - 1) == 32) = false := by simpa using b3
          clear b3
          go_enter Tryd.func31, Tryd.ntmps31
          go_wp2
          have B2 := Lib.hid b2
          have B4 := Lib.hid b4
          clear b2 b4 hsub
          go_loop [3] (fun i => ∃ k : Nat, k ≤ s.size ∧ i = .int .i64 k ∧ Hid (∀ j, j < k → cleanP (bt s j) = true)) (fun i => s.size - (intOf i).toNat)
          case atStart => exact ⟨0, Nat.zero_le _, rfl, Lib.hid fun j hj => absurd hj (Nat.not_lt_zero _)⟩
          case round =>
            obtain ⟨k, hk, rfl, HA⟩ := hrel
            have h0 := bt_nonneg s k
            have h255 := bt_le s k
            by_cases hlt : k < s.size
            · by_cases a1 : bt s k < 32
              · have HE := Lib.hid (show cleanB s = false by unfold cleanB; rw [allB_false k hlt (by unfold cleanP; simp; omega), Bool.and_false])
                go_wp2
                go_ret
                exact ⟨by rw [HE.out]; rfl, rfl⟩
              · by_cases a2 : 126 < bt s k
                · have HE := Lib.hid (show cleanB s = false by unfold cleanB; rw [allB_false k hlt (by unfold cleanP; simp; omega), Bool.and_false])
                  go_wp2
                  go_ret
                  exact ⟨by rw [HE.out]; rfl, rfl⟩
                · go_wp2
                  go_round
                  case rel => exact ⟨k + 1, by omega, by go_num, Lib.hid (all_next HA.out (by unfold cleanP; simp; omega))⟩
                  case measure => simp [intOf]; omega
            · have HE := Lib.hid (show cleanB s = true by
                unfold cleanB; rw [allB_true (p := cleanP) (s := s) fun j hj => HA.out j (by omega), B2.out, B4.out]; simp [hz, hz2])
              go_wp2
              go_ret
              exact ⟨by rw [HE.out]; rfl, rfl⟩
    · have HE := Lib.hid (show cleanB s = false by unfold cleanB; simp [hz2])
      go_enter Tryd.func31, Tryd.ntmps31
      go_wp2
      go_ret
      exact ⟨by rw [HE.out]; rfl, rfl⟩
  · have HE := Lib.hid (show cleanB s = false by unfold cleanB; simp [hz])
    go_enter Tryd.func31, Tryd.ntmps31
    go_wp2
    go_ret
    exact ⟨by rw [HE.out]; rfl, rfl⟩

end Go.Proofs.YtmkcojgdhdmnnaaDoor
