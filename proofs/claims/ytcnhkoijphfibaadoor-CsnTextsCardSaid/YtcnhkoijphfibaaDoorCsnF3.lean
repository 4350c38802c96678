/-
  Contracts of csn.digits and Format. Condition: one cell of the table of math/bits as the card says.
-/
import Derived.Test.YtcnhkoijphfibaaDoorCsnF2
set_option maxRecDepth 100000
set_option linter.unusedVariables false
set_option linter.unusedSimpArgs false
set_option linter.unnecessarySimpa false
namespace Go.Proofs.YtcnhkoijphfibaaDoor
open Go.RowKit Go.PlainAid

theorem ifmt_s (n k : Nat) (w : World) (hn : n < 16 ^ k) (hk : 1 ≤ k) (hk2 : k ≤ 15) (ho : TzOk w) :
    Calls Tryd.prog 63 #[.int .i64 n, .int .i64 16] w fun e w' => ∃ r, e = .returned (.string r) ∧ HexOf n k r ∧ Below w.heap.size w w' := by
  have hn2 : n < 1152921504606846976 := Nat.lt_of_lt_of_le hn (pow16_le hk2)
  have HC := Lib.hid (fbits_s n k w hn hk hk2 ho)
  clear hn
  have d0 : decide ((n : Int) < 0) = false := decide_eq_false (by omega)
  have e1 : IntKind.u64.wrap (n : Int) = n := by rw [IntKind.wrap_u64]; omega
  go_enter Tryd.func63, Tryd.ntmps63
  go_wp2_with (go_at_call 77; refine HC.out.mono ?_; rintro e w' ⟨r, rfl, hr, hb⟩)
  go_ret
  exact ⟨r, rfl, hr, hb⟩
theorem fmt16_s (n k : Nat) (w : World) (hn : n < 16 ^ k) (hk : 1 ≤ k) (hk2 : k ≤ 15) (ho : TzOk w) :
    Calls Tryd.prog 56 #[.int .i64 n, .int .i64 16] w fun e w' => ∃ r, e = .returned (.string r) ∧ HexOf n k r ∧ Below w.heap.size w w' := by
  have HC := Lib.hid (ifmt_s n k w hn hk hk2 ho)
  clear hn
  go_enter Tryd.func56, Tryd.ntmps56
  go_wp2_with (go_at_call 63; refine HC.out.mono ?_; rintro e w' ⟨r, rfl, hr, hb⟩)
  go_ret
  exact ⟨r, rfl, hr, hb⟩
theorem hexK_pad (m n : Nat) (h : n < 16 ^ m) : ∀ d, hexK (m + d) n = List.replicate d 48 ++ hexK m n
  | 0 => rfl
  | d + 1 => by
    rw [← Nat.add_assoc, hexK_front, hexK_pad m n h d, List.replicate_succ, List.cons_append]
    congr 1
    rw [Nat.div_eq_of_lt (Nat.lt_of_lt_of_le h (pow16_le (by omega)))]
    rfl
theorem rep_one (c : UInt8) : ∀ k, Lib.repeatL [c] k = List.replicate k c
  | 0 => rfl
  | k + 1 => by
    show [c] ++ Lib.repeatL [c] k = _
    rw [rep_one c k, List.replicate_succ]; rfl
theorem rep48_k (c : Nat) (v : Int) (w : World) (hv : v = (c : Int)) (hc : c ≤ 1000) :
    Calls Tryd.prog 57 #[.string ⟨#[48]⟩, .int .i64 v] w fun e w' => e = .returned (.string ⟨(List.replicate c (48 : UInt8)).toArray⟩) ∧ Below w.heap.size w w' := by
  subst hv
  refine (Tryd.strings_Repeat ⟨#[48]⟩ c w (by omega) (by show 1 * c ≤ _; omega)).mono fun e w' h => ⟨?_, h.2⟩
  rw [h.1, show (⟨#[48]⟩ : ByteArray).data.toList = [48] from rfl, rep_one]
def hexS15 (k n : Nat) : ByteArray := ⟨(hexK k n).toArray⟩
theorem hexS_size (k n : Nat) : (hexS15 k n).size = k := by unfold hexS15; rw [Lib.size_mk, hexK_length]
theorem digits_s (n k : Nat) (w : World) (hn : n < 16 ^ k) (hk : 1 ≤ k) (hk2 : k ≤ 15) (ho : TzOk w) :
    Calls Tryd.prog 44 #[.int .i64 n, .int .i64 k] w fun e w' => e = .returned (.string (hexS15 k n)) ∧ Below w.heap.size w w' := by
  have HC := Lib.hid (fmt16_s n k w hn hk hk2 ho)
  clear hn
  go_enter Tryd.func44, Tryd.ntmps44
  go_wp2_with fail
  refine HC.out.mono ?_
  rintro e w1 ⟨r, rfl, ⟨m, hm1, hm2, hm3, hr⟩, hb⟩
  have hsz : r.size = m := by rw [hr, Lib.size_mk, hexK_length]
  have HR := Lib.hid (show (⟨(List.replicate (k - m) (48 : UInt8)).toArray⟩ : ByteArray) ++ r = hexS15 k n by
    unfold hexS15
    rw [hr, show k = m + (k - m) by omega, hexK_pad m n hm3, show m + (k - m) - m = k - m by omega]
    apply ByteArray.ext
    rw [ByteArray.data_append]
    simp)
  clear hr
  obtain ⟨z, hz, hzs⟩ : ∃ z : ByteArray, z = (⟨(List.replicate (k - m) (48 : UInt8)).toArray⟩ : ByteArray) ∧ z.size = k - m := ⟨_, rfl, by rw [Lib.size_mk, List.length_replicate]⟩
  have HRp := Lib.hid (rep48_k (k - m))
  rw [← hz] at HR HRp
  clear hz
  go_wp2_with fail
  refine (HRp.out _ w1 (by omega) (by omega)).mono ?_
  rintro e w2 ⟨rfl, hb2⟩
  have hlim : ¬ 9223372036854775807 < z.size + r.size := by omega
  go_wp2_with fail
  go_ret
  exact ⟨by rw [← HR.out]; rfl, hb.trans (hb2.mono hb.size)⟩

end Go.Proofs.YtcnhkoijphfibaaDoor
