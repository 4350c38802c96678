/-
  The contract of the specification's ReadHex. Condition: at most 1000000000 bytes.
-/
import Derived.Test.YtbogmmdmfbcbnaaDoorDigRead
set_option maxRecDepth 100000
set_option linter.unusedVariables false
set_option linter.unusedSimpArgs false
set_option linter.unnecessarySimpa false
namespace Go.Proofs.YtbogmmdmfbcbnaaDoor
open Go.RowKit Go.PlainAid

theorem hexO_cases (c : UInt8) : (48 ≤ c.toNat ∧ c.toNat ≤ 57 ∧ hexO c = some (c.toNat - 48)) ∨ (97 ≤ c.toNat ∧ c.toNat ≤ 102 ∧ hexO c = some (c.toNat - 87)) ∨
    (c.toNat < 48 ∧ hexO c = none) ∨ (57 < c.toNat ∧ c.toNat < 97 ∧ hexO c = none) ∨ (102 < c.toNat ∧ hexO c = none) := by
  unfold hexO
  by_cases h1 : 48 ≤ c.toNat ∧ c.toNat ≤ 57
  · rw [if_pos h1]; exact .inl ⟨h1.1, h1.2, rfl⟩
  · rw [if_neg h1]
    by_cases h2 : 97 ≤ c.toNat ∧ c.toNat ≤ 102
    · rw [if_pos h2]; exact .inr (.inl ⟨h2.1, h2.2, rfl⟩)
    · rw [if_neg h2]
      have : c.toNat < 48 ∨ (57 < c.toNat ∧ c.toNat < 97) ∨ 102 < c.toNat := by omega
      rcases this with h | ⟨h, h'⟩ | h
      · exact .inr (.inr (.inl ⟨h, rfl⟩))
      · exact .inr (.inr (.inr (.inl ⟨h, h', rfl⟩)))
      · exact .inr (.inr (.inr (.inr ⟨h, rfl⟩)))

set_option maxHeartbeats 4000000 in
theorem rreadHex_s (s : ByteArray) (w : World) (hs : s.size ≤ 1000000000) :
    Calls Tryd.prog 45 #[.string s] w fun e w' => e = .returned (.tuple #[.int .u64 (rdV s.data.toList : Nat), .int .i64 (rdE s.data.toList)]) ∧ w = w' := by
  by_cases h16 : s.size = 16
  · have hb := get_bt s
    have e0 : ((s.size : Int) != 16) = false := by rw [h16]; rfl
    go_enter Tryd.func45, Tryd.ntmps45
    go_wp2
    go_loop [4, 5] (fun nv i => ∃ k a : Nat, k ≤ 16 ∧ i = .int .i64 k ∧ nv = .int .u64 a ∧ Hid (rdA 0 (s.data.toList.take k) = some a)) (fun _ i => 16 - (intOf i).toNat)
    case atStart => exact ⟨0, 0, Nat.zero_le _, rfl, rfl, Lib.hid rfl⟩
    case round =>
      obtain ⟨k, a, hk, rfl, rfl, HR⟩ := hrel
      have h0 := bt_nonneg s k
      have h255 := bt_le s k
      by_cases hlt : k < s.size
      · have hc := bt_chr s k
        have ha := rd_small s k a (by omega) HR.out
        have HT := Lib.hid (rd_step s k a hlt HR.out)
        have hlt16 : k < 16 := by omega
        rcases hexO_cases (chr s k) with ⟨c1, c2, ho⟩ | ⟨c1, c2, ho⟩ | ⟨c1, ho⟩ | ⟨c1, c2, ho⟩ | ⟨c1, ho⟩
        · have b1 : 48 ≤ bt s k := by omega
          have b2 : bt s k ≤ 57 := by omega
          have HN := Lib.hid (show rdA 0 (s.data.toList.take (k + 1)) = some (a * 16 + ((chr s k).toNat - 48)) by rw [HT.out, ho]; rfl)
          have HE := Lib.hid (show (((a * 16 + ((chr s k).toNat - 48) : Nat)) : Int) = (a : Int) * 16 + (bt s k - 48) by omega)
          clear ho hc c1 c2
          go_wp2
          go_round
          case rel => exact ⟨k + 1, _, by omega, by go_num, by rw [HE.out], HN⟩
          case measure => simp [intOf]; omega
        · have b1 : 97 ≤ bt s k := by omega
          have b2 : bt s k ≤ 102 := by omega
          have b3 : decide (bt s k ≤ 57) = false := by rw [decide_eq_false_iff_not]; omega
          have HN := Lib.hid (show rdA 0 (s.data.toList.take (k + 1)) = some (a * 16 + ((chr s k).toNat - 87)) by rw [HT.out, ho]; rfl)
          have HE := Lib.hid (show (((a * 16 + ((chr s k).toNat - 87) : Nat)) : Int) = (a : Int) * 16 + (bt s k - 97 + 10) by omega)
          clear ho hc c1 c2
          go_wp2
          go_round
          case rel => exact ⟨k + 1, _, by omega, by go_num, by rw [HE.out], HN⟩
          case measure => simp [intOf]; omega
        · have b1 : bt s k < 48 := by omega
          have b3 : decide (48 ≤ bt s k) = false := by rw [decide_eq_false_iff_not]; omega
          have b4 : decide (97 ≤ bt s k) = false := by rw [decide_eq_false_iff_not]; omega
          have HF := Lib.hid (rdV_no (rd_fail s (k + 1) (by rw [HT.out, ho]; rfl)))
          clear ho hc c1
          go_wp2
          go_ret2
          exact ⟨by rw [HF.out.1, HF.out.2]; rfl, rfl⟩
        · have b1 : 57 < bt s k := by omega
          have b2 : bt s k < 97 := by omega
          have b3 : decide (bt s k ≤ 57) = false := by rw [decide_eq_false_iff_not]; omega
          have b4 : decide (97 ≤ bt s k) = false := by rw [decide_eq_false_iff_not]; omega
          have HF := Lib.hid (rdV_no (rd_fail s (k + 1) (by rw [HT.out, ho]; rfl)))
          clear ho hc c1 c2
          go_wp2
          go_ret2
          exact ⟨by rw [HF.out.1, HF.out.2]; rfl, rfl⟩
        · have b1 : 102 < bt s k := by omega
          have b3 : decide (bt s k ≤ 57) = false := by rw [decide_eq_false_iff_not]; omega
          have b4 : decide (bt s k ≤ 102) = false := by rw [decide_eq_false_iff_not]; omega
          have HF := Lib.hid (rdV_no (rd_fail s (k + 1) (by rw [HT.out, ho]; rfl)))
          clear ho hc c1
          go_wp2
          go_ret2
          exact ⟨by rw [HF.out.1, HF.out.2]; rfl, rfl⟩
      · have HF := Lib.hid (show rdO s.data.toList = some a by
          have := HR.out
          rw [List.take_of_length_le (by rw [← Lib.size_eq]; omega)] at this
          unfold rdO
          rw [if_pos (by rw [← Lib.size_eq]; exact h16), this])
        have HG := Lib.hid (rdV_of HF.out)
        go_wp2
        go_ret2
        exact ⟨by rw [HG.out.1, HG.out.2]; rfl, rfl⟩
  · have e0 : ((s.size : Int) != 16) = true := by simp; omega
    have HF := Lib.hid (rdV_no (show rdO s.data.toList = none by unfold rdO; rw [if_neg (by rw [← Lib.size_eq]; exact h16)]))
    clear h16
    go_enter Tryd.func45, Tryd.ntmps45
    go_wp2
    go_ret2
    exact ⟨by rw [HF.out.1, HF.out.2]; rfl, rfl⟩

end Go.Proofs.YtbogmmdmfbcbnaaDoor
