/-
  Contracts of digest.ReadHex and of the specification's. Condition: at most 1000000000 bytes.
-/
import Derived.Test.YtbogmmdmfbcbnaaDoorDigRHex
import Derived.Test.YtbogmmdmfbcbnaaDoorShelfD
set_option maxRecDepth 100000
set_option linter.unusedVariables false
set_option linter.unusedSimpArgs false
set_option linter.unnecessarySimpa false
namespace Go.Proofs.YtbogmmdmfbcbnaaDoor
open Go.RowKit Go.PlainAid

def hexI (c : UInt8) : Int := match hexO c with
  | some d => (d : Int)
  | none => -1
theorem hexI_table : ∀ n : Nat, n < 256 → Lib.indexByte hexLow.data.toList (UInt8.ofNat n) = hexI (UInt8.ofNat n) := by decide +kernel
theorem hexI_idx (c : UInt8) : Lib.indexByte hexLow.data.toList c = hexI c := by
  have := hexI_table c.toNat c.toNat_lt
  rwa [UInt8.ofNat_toNat] at this
theorem idx_s (c : UInt8) (v x : Int) (w : World) (hv : v = (c.toNat : Int)) (hx : hexI c = x) :
    Calls Tryd.prog 52 #[.string ⟨#[48, 49, 50, 51, 52, 53, 54, 55, 56, 57, 97, 98, 99, 100, 101, 102]⟩, .int .u8 v] w fun e w' => e = .returned (.int .i64 x) ∧ w = w' := by
  subst hv hx
  refine (Tryd.strings_IndexByte hexLow (c.toNat : Int) w).mono fun e w' h => ⟨?_, h.2.symm⟩
  rw [h.1, show ((c.toNat : Int).toNat).toUInt8 = c by rw [Int.toNat_natCast]; exact UInt8.ofNat_toNat, hexI_idx]
theorem or16 (a d : Nat) (ha : a < 1152921504606846976) (hd : d < 16) : bits .or .u64 ((a : Int) * 16) (d : Int) = (a : Int) * 16 + (d : Int) :=
  bits_join .u64 64 (by decide) (fun n h0 h1 => by rw [IntKind.wrap_u64]; omega) 4 ((a : Int) * 16) (d : Int) (by omega) (by omega) (by omega) (by omega) (by omega) (by omega)
theorem rd_step (s : ByteArray) (k a : Nat) (h : k < s.size) (hr : rdA 0 (s.data.toList.take k) = some a) : rdA 0 (s.data.toList.take (k + 1)) = (hexO (chr s k)).map (a * 16 + ·) := by
  rw [take_chr s k h, rdA_snoc, hr]; rfl
theorem rd_fail (s : ByteArray) (k : Nat) (h : rdA 0 (s.data.toList.take k) = none) : rdO s.data.toList = none := by
  unfold rdO
  split
  · rw [← List.take_append_drop k s.data.toList]; exact rdA_none_append _ _ _ h
  · rfl
theorem rd_small (s : ByteArray) (k a : Nat) (hk : k < 16) (hr : rdA 0 (s.data.toList.take k) = some a) : a < 1152921504606846976 := by
  have h1 := rdA_lt hr
  have h2 : (s.data.toList.take k).length ≤ 15 := Nat.le_trans (List.length_take_le _ _) (by omega)
  have h3 := Nat.pow_le_pow_right (show 0 < 16 by decide) h2
  have h4 : (16 : Nat) ^ 15 = 1152921504606846976 := by decide
  omega

set_option maxHeartbeats 2000000 in
theorem readHex_s (s : ByteArray) (w : World) (hs : s.size ≤ 1000000000) :
    Calls Tryd.prog 43 #[.string s] w fun e w' => e = .returned (.tuple #[.int .u64 (rdV s.data.toList : Nat), .int .i64 (rdE s.data.toList)]) ∧ w = w' := by
  by_cases h16 : s.size = 16
  · have hb := get_bt s
    have e0 : ((s.size : Int) != 16) = false := by rw [h16]; rfl
    go_enter Tryd.func43, Tryd.ntmps43
    go_wp2
    go_loop [4, 12] (fun nv i => ∃ k a : Nat, k ≤ 16 ∧ i = .int .i64 k ∧ nv = .int .u64 a ∧ Hid (rdA 0 (s.data.toList.take k) = some a)) (fun _ i => 16 - (intOf i).toNat)
    case atStart => exact ⟨0, 0, Nat.zero_le _, rfl, rfl, Lib.hid rfl⟩
    case round =>
      obtain ⟨k, a, hk, rfl, rfl, HR⟩ := hrel
      have h0 := bt_nonneg s k
      have h255 := bt_le s k
      by_cases hlt : k < s.size
      · have HC := Lib.hid (bt_chr s k)
        have ha := rd_small s k a (by omega) HR.out
        have HT := Lib.hid (rd_step s k a hlt HR.out)
        cases ho : hexO (chr s k) with
        | none =>
          have HI := Lib.hid (show hexI (chr s k) = -1 by unfold hexI; rw [ho])
          have HF := Lib.hid (rdV_no (rd_fail s (k + 1) (by rw [HT.out, ho]; rfl)))
          clear ho
          go_wp2_with (go_at_call 52; refine (idx_s (chr s k) _ _ _ HC.out HI.out).mono ?_; rintro e w' ⟨rfl, rfl⟩)
          go_ret2
          exact ⟨by rw [HF.out.1, HF.out.2]; rfl, rfl⟩
        | some d =>
          have hd := hexO_lt ho
          have HI := Lib.hid (show hexI (chr s k) = (d : Int) by unfold hexI; rw [ho])
          have HN := Lib.hid (show rdA 0 (s.data.toList.take (k + 1)) = some (a * 16 + d) by rw [HT.out, ho]; rfl)
          have hor := or16 a d ha hd
          clear ho
          go_wp2_with (go_at_call 52; refine (idx_s (chr s k) _ _ _ HC.out HI.out).mono ?_; rintro e w' ⟨rfl, rfl⟩)
          go_round
          case rel => exact ⟨k + 1, a * 16 + d, by omega, by go_num, by go_num, HN⟩
          case measure => simp [intOf]; omega
      · have HF := Lib.hid (show rdO s.data.toList = some a by
          have := HR.out
          rw [List.take_of_length_le (by rw [← Lib.size_eq]; omega)] at this
          unfold rdO
          rw [if_pos (by rw [← Lib.size_eq]; exact h16), this])
        have HG := Lib.hid (rdV_of HF.out)
        go_wp2
        go_ret2
        exact ⟨by rw [HG.out.1, HG.out.2]; rfl, rfl⟩
  · have e0 : ((s.size : Int) != 16) = true := by simp; omega
    have HF := Lib.hid (rdV_no (show rdO s.data.toList = none by unfold rdO; rw [if_neg (by rw [← Lib.size_eq]; exact h16)]))
    clear h16
    go_enter Tryd.func43, Tryd.ntmps43
    go_wp2
    go_ret2
    exact ⟨by rw [HF.out.1, HF.out.2]; rfl, rfl⟩

end Go.Proofs.YtbogmmdmfbcbnaaDoor
