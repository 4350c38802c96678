/-
  Contracts of the specification's Hex and Text. Condition: at most 1000000000 bytes.
-/
import Derived.Test.YtbogmmdmfbcbnaaDoorDigHex
set_option maxRecDepth 100000
set_option linter.unusedVariables false
set_option linter.unusedSimpArgs false
set_option linter.unnecessarySimpa false
namespace Go.Proofs.YtbogmmdmfbcbnaaDoor
open Go.RowKit Go.PlainAid

def oL (l : List UInt8) : ByteArray := ⟨l.toArray⟩
theorem hexLow_sl : ∀ d : Nat, d < 16 → hexLow.extract d (d + 1) = oL [hexD d] := by decide +kernel
theorem oL_app (a b : List UInt8) : oL a ++ oL b = oL (a ++ b) := by
  apply ByteArray.ext
  rw [ByteArray.data_append]
  simp [oL]

set_option maxHeartbeats 1000000 in
theorem rhex_s (n : Nat) (w : World) (hn : n < 18446744073709551616) :
    Calls Tryd.prog 50 #[.int .u64 n] w fun e w' => e = .returned (.string ⟨(hexN n).toArray⟩) ∧ w = w' := by
  go_enter Tryd.func50, Tryd.ntmps50
  go_wp2
  go_loop [0, 3, 4] (fun nv sv i => ∃ (k m : Nat) (l : List UInt8), k ≤ 16 ∧ i = .int .i64 k ∧ nv = .int .u64 m ∧ sv = .string (oL l) ∧ Hid (m = n / 16 ^ k) ∧ Hid (l = hexK k n))
    (fun _ _ i => 16 - (intOf i).toNat)
  case atStart => exact ⟨0, n, [], Nat.zero_le _, rfl, rfl, rfl, Lib.hid (by simp), Lib.hid rfl⟩
  case round =>
    obtain ⟨k, m, l, hk, rfl, rfl, rfl, HM, HL⟩ := hrel
    have hml : m < 18446744073709551616 := by rw [HM.out]; exact Nat.lt_of_le_of_lt (Nat.div_le_self _ _) hn
    by_cases hlt : k < 16
    · have hll : (oL l).size ≤ 16 := by
        rw [HL.out]; unfold oL; rw [Lib.size_mk, hexK_length]; exact hk
      obtain ⟨q, HQ, hq1, hq2⟩ : ∃ q : ByteArray, Hid (q = oL [hexD (m % 16)]) ∧ q.size = 1 ∧ (⟨#[48, 49, 50, 51, 52, 53, 54, 55, 56, 57, 97, 98, 99, 100, 101, 102]⟩ : ByteArray).extract (m % 16) (m % 16 + 1) = q :=
        ⟨_, Lib.hid rfl, rfl, hexLow_sl _ (Nat.mod_lt _ (by decide))⟩
      go_wp2
      go_round
      case rel => exact ⟨k + 1, m / 16, hexD (m % 16) :: l, by omega, by go_num, by rw [Int.natCast_ediv]; rfl, by rw [HQ.out, oL_app]; rfl, Lib.hid (by rw [HM.out, Nat.div_div_eq_div_mul, Nat.pow_succ]), Lib.hid (by rw [hexK_front, ← HM.out, ← HL.out])⟩
      case measure => simp [intOf]; omega
    · obtain rfl : k = 16 := by omega
      have HF : Hid (l = hexN n) := HL
      go_wp2
      go_ret
      exact ⟨by rw [HF.out]; rfl, rfl⟩

theorem rtext_s (s : ByteArray) (w : World) (hs : s.size ≤ 1000000000) :
    Calls Tryd.prog 30 #[.string s] w fun e w' => e = .returned (.string (txtS s)) ∧ w = w' := by
  have HL := Lib.hid (sumN_lt s.data.toList)
  go_enter Tryd.func30, Tryd.ntmps30
  go_wp2_with (first | (go_at_call 51; refine (rsum_s s _ hs).mono ?_; rintro e w' ⟨rfl, rfl⟩) | (go_at_call 50; refine (rhex_s _ _ HL.out).mono ?_; rintro e w' ⟨rfl, rfl⟩))
  go_ret
  exact ⟨rfl, rfl⟩

end Go.Proofs.YtbogmmdmfbcbnaaDoor
