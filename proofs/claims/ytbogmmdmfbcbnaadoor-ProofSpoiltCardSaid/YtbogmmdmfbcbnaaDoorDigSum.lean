/-
  Contracts of digest.Sum and of the specification's. Condition: at most 1000000000 bytes.
-/
import Derived.Test.YtbogmmdmfbcbnaaDoorBaseE
import Derived.Test.YtbogmmdmfbcbnaaDoorCodecA
import Derived.Test.YtbogmmdmfbcbnaaDoorDigA
set_option maxRecDepth 100000
set_option linter.unusedVariables false
set_option linter.unusedSimpArgs false
set_option linter.unnecessarySimpa false
namespace Go.Proofs.YtbogmmdmfbcbnaaDoor
open Go.RowKit Go.PlainAid

theorem xs_int (X : Nat) (hX : X < 18446744073709551616) : bits .xor .u64 (X : Int) ((X : Int) / 8589934592) = ((xsN X : Nat) : Int) := xorShift_u64 X 8589934592 hX
theorem mul_int (X f : Nat) : IntKind.u64.wrap ((X : Int) * (f : Int)) = ((mulN X f : Nat) : Int) := by
  rw [IntKind.wrap_u64]
  unfold mulN
  rw [Int.natCast_emod, Int.natCast_mul]
  rfl
theorem mix_facts (h : Nat) (hh : h < 18446744073709551616) : ∃ a b c d : Nat,
    bits .xor .u64 (h : Int) ((h : Int) / 8589934592) = (a : Int) ∧ IntKind.u64.wrap ((a : Int) * 18397679294719823053) = (b : Int) ∧
    bits .xor .u64 (b : Int) ((b : Int) / 8589934592) = (c : Int) ∧ IntKind.u64.wrap ((c : Int) * 14181476777654086739) = (d : Int) ∧
    bits .xor .u64 (d : Int) ((d : Int) / 8589934592) = ((mixN h : Nat) : Int) :=
  ⟨_, _, _, _, xs_int h hh, mul_int _ 18397679294719823053, xs_int _ (mulN_lt _ _), mul_int _ 14181476777654086739, xs_int _ (mulN_lt _ _)⟩

theorem mix_s (h : Nat) (w : World) (hh : h < 18446744073709551616) :
    Calls Tryd.prog 57 #[.int .u64 h] w fun e w' => e = .returned (.int .u64 (mixN h : Nat)) ∧ w = w' := by
  obtain ⟨a, b, c, d, h1, h2, h3, h4, h5⟩ := mix_facts h hh
  generalize mixN h = m at h5 ⊢
  go_enter Tryd.func57, Tryd.ntmps57
  go_wp2
  go_ret
  exact ⟨rfl, rfl⟩

theorem fnv_facts (s : ByteArray) (k : Nat) (h : k < s.size) : ∃ x : Nat, bits .xor .u64 ((fnvN (s.data.toList.take k) : Nat) : Int) (bt s k) = (x : Int) ∧
    IntKind.u64.wrap ((x : Int) * 1099511628211) = ((fnvN (s.data.toList.take (k + 1)) : Nat) : Int) := by
  refine ⟨fnvN (s.data.toList.take k) ^^^ (chr s k).toNat, ?_, ?_⟩
  · rw [bt_chr]; exact bits_xor_u64_nat _ _ (fnvN_lt _) (byte_lt _)
  · rw [take_chr s k h, fnvN_snoc]; exact mul_int _ 1099511628211
theorem take_all (s : ByteArray) : s.data.toList.take s.size = s.data.toList := List.take_of_length_le (by simp)

set_option maxHeartbeats 1000000 in
theorem sum_s (s : ByteArray) (w : World) (hs : s.size ≤ 1000000000) :
    Calls Tryd.prog 37 #[.string s] w fun e w' => e = .returned (.int .u64 (sumN s.data.toList : Nat)) ∧ w = w' := by
  have hb := get_bt s
  go_enter Tryd.func37, Tryd.ntmps37
  go_wp2
  go_loop [3, 7] (fun h i => ∃ k : Nat, k ≤ s.size ∧ i = .int .i64 k ∧ h = .int .u64 (fnvN (s.data.toList.take k) : Nat)) (fun _ i => s.size - (intOf i).toNat)
  case atStart => exact ⟨0, Nat.zero_le _, rfl, rfl⟩
  case round =>
    obtain ⟨k, hk, rfl, rfl⟩ := hrel
    have h0 := bt_nonneg s k
    have h255 := bt_le s k
    by_cases hlt : k < s.size
    · obtain ⟨x, f1, f2⟩ := fnv_facts s k hlt
      have HG : ∃ g : Nat, IntKind.u64.wrap ((x : Int) * 1099511628211) = (g : Int) ∧ Hid (fnvN (s.data.toList.take (k + 1)) = g) := ⟨_, f2, Lib.hid rfl⟩
      clear f2
      obtain ⟨g, f2, HG⟩ := HG
      go_wp2
      go_round
      case rel => exact ⟨k + 1, by omega, by go_num, by rw [HG.out]⟩
      case measure => simp [intOf]; omega
    · obtain rfl : k = s.size := by omega
      have HL := Lib.hid (fnvN_lt s.data.toList)
      have HT := Lib.hid (take_all s)
      rw [HT.out]
      go_wp2_with (go_at_call 57; refine (mix_s _ _ HL.out).mono ?_; rintro e w' ⟨rfl, rfl⟩)
      go_ret
      exact ⟨rfl, rfl⟩

set_option maxHeartbeats 1000000 in
theorem rsum_s (s : ByteArray) (w : World) (hs : s.size ≤ 1000000000) :
    Calls Tryd.prog 51 #[.string s] w fun e w' => e = .returned (.int .u64 (sumN s.data.toList : Nat)) ∧ w = w' := by
  have hb := get_bt s
  go_enter Tryd.func51, Tryd.ntmps51
  go_wp2
  go_loop [3, 4] (fun h i => ∃ k : Nat, k ≤ s.size ∧ i = .int .i64 k ∧ h = .int .u64 (fnvN (s.data.toList.take k) : Nat)) (fun _ i => s.size - (intOf i).toNat)
  case atStart => exact ⟨0, Nat.zero_le _, rfl, rfl⟩
  case round =>
    obtain ⟨k, hk, rfl, rfl⟩ := hrel
    have h0 := bt_nonneg s k
    have h255 := bt_le s k
    by_cases hlt : k < s.size
    · obtain ⟨x, f1, f2⟩ := fnv_facts s k hlt
      have HG : ∃ g : Nat, IntKind.u64.wrap ((x : Int) * 1099511628211) = (g : Int) ∧ Hid (fnvN (s.data.toList.take (k + 1)) = g) := ⟨_, f2, Lib.hid rfl⟩
      clear f2
      obtain ⟨g, f2, HG⟩ := HG
      go_wp2
      go_round
      case rel => exact ⟨k + 1, by omega, by go_num, by rw [HG.out]⟩
      case measure => simp [intOf]; omega
    · obtain rfl : k = s.size := by omega
      have HT := Lib.hid (take_all s)
      rw [HT.out]
      obtain ⟨a, b, c, d, h1, h2, h3, h4, h5⟩ := mix_facts (fnvN s.data.toList) (fnvN_lt _)
      have HM : ∃ m : Nat, Hid (mixN (fnvN s.data.toList) = m) ∧ bits .xor .u64 (d : Int) ((d : Int) / 8589934592) = (m : Int) := ⟨_, Lib.hid rfl, h5⟩
      clear h5
      obtain ⟨m, HM, h5⟩ := HM
      go_wp2
      go_ret
      exact ⟨by rw [show sumN s.data.toList = m from HM.out]; rfl, rfl⟩

end Go.Proofs.YtbogmmdmfbcbnaaDoor
