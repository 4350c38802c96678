/-
  Contracts of Lower, letter, digit and Clean (program and specification). Condition: at most 1000000000 bytes.
-/
import Derived.Test.YtmkcojgdhdmnnaaDoorFoldLow
import Derived.Test.YtmkcojgdhdmnnaaDoorFoldC
set_option maxRecDepth 100000
set_option linter.unusedVariables false
set_option linter.unusedSimpArgs false
set_option linter.unnecessarySimpa false
namespace Go.Proofs.YtmkcojgdhdmnnaaDoor
open Go.RowKit Go.PlainAid



def lowS (s : ByteArray) : ByteArray := ⟨(lowL s.data.toList).toArray⟩
theorem lowS_size (s : ByteArray) : (lowS s).size = s.size := by unfold lowS; rw [Lib.size_mk, lowL_length, ← Lib.size_eq]
set_option maxRecDepth 100000 in
set_option maxHeartbeats 1000000 in
theorem clean_s (s : ByteArray) (w : World) (hs : s.size ≤ 1000000000) :
    Calls Tryd.prog 29 #[.string s] w fun e w' => e = .returned (.bool (cleanB s)) ∧ w = w' := by
  have hb := get_bt s
  by_cases hz : 1 ≤ s.size
  · by_cases hz2 : s.size ≤ 256
    · go_enter Tryd.func29, Tryd.ntmps29
      go_wp2
      go_loop [14] (fun i => ∃ k : Nat, k ≤ s.size ∧ i = .int .i64 k ∧ Hid (∀ j, j < k → cleanP (bt s j) = true)) (fun i => s.size - (intOf i).toNat)
      case atStart => exact ⟨0, Nat.zero_le _, rfl, Lib.hid fun j hj => absurd hj (Nat.not_lt_zero _)⟩
      case round =>
        obtain ⟨k, hk, rfl, HA⟩ := hrel
        have h0 := bt_nonneg s k
        have h255 := bt_le s k
        by_cases hlt : k < s.size
        · by_cases a1 : bt s k < 32
          · have HE := Lib.hid (show cleanB s = false by unfold cleanB; rw [allB_false k hlt (by unfold cleanP; simp; omega), Bool.and_false])
            go_wp2
            go_ret
            exact ⟨by rw [HE.out]; rfl, rfl⟩
          · by_cases a2 : 126 < bt s k
            · have HE := Lib.hid (show cleanB s = false by unfold cleanB; rw [allB_false k hlt (by unfold cleanP; simp; omega), Bool.and_false])
              go_wp2
              go_ret
              exact ⟨by rw [HE.out]; rfl, rfl⟩
            · go_wp2
              go_round
              case rel => exact ⟨k + 1, by omega, by go_num, Lib.hid (all_next HA.out (by unfold cleanP; simp; omega))⟩
              case measure => simp [intOf]; omega
        · have hkk : k = s.size := by omega
          have HB := Lib.hid (allB_true (p := cleanP) (s := s) fun j hj => HA.out j (by omega))
          clear hkk
          by_cases b1 : (bt s 0 == 32) = true
          · have HE := Lib.hid (show cleanB s = false by unfold cleanB; simp [b1])
            have b2 : (bt s 0 != 32) = false := by rw [bne, b1]; rfl
            clear b1
            go_wp2
            go_ret
            exact ⟨by rw [HE.out]; rfl, rfl⟩
          · have b2 : (bt s 0 != 32) = true := by rw [bne]; simp [b1]
            have hsub : IntKind.i64.wrap ((s.size : Int) - 1) = ((s.size - 1 : Nat) : Int) := by rw [IntWalk.i64_in _ ⟨by omega, by omega⟩]; omega
            by_cases b3 : (bt s (s.size - 1) == 32) = true
            · have HE := Lib.hid (show cleanB s = false by unfold cleanB; simp [b3])
              have b4 : (bt s (s.size - 1) != 32) = false := by rw [bne, b3]; rfl
              clear b1 b3
              go_wp2
              go_ret
              exact ⟨by rw [HE.out]; rfl, rfl⟩
            · have HE := Lib.hid (show cleanB s = true by unfold cleanB; rw [HB.out]; simp [hz, hz2]; exact ⟨by simpa using b1, by simpa using b3⟩)
              have b4 : (bt s (s.size - 1) != 32) = true := by rw [bne]; simp [b3]
              clear b1 b3
              go_wp2
              go_ret
              exact ⟨by rw [HE.out]; rfl, rfl⟩
    · have HE := Lib.hid (show cleanB s = false by unfold cleanB; simp [hz2])
      go_enter Tryd.func29, Tryd.ntmps29
      go_wp2
      go_ret
      exact ⟨by rw [HE.out]; rfl, rfl⟩
  · have HE := Lib.hid (show cleanB s = false by unfold cleanB; simp [hz])
    go_enter Tryd.func29, Tryd.ntmps29
    go_wp2
    go_ret
    exact ⟨by rw [HE.out]; rfl, rfl⟩


end Go.Proofs.YtmkcojgdhdmnnaaDoor
