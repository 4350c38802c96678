/-
  Contracts of strconv.formatBits and FormatInt at base 16. Condition: numbers below 16 to the power of 15; one cell of the table of math/bits as the card says.
-/
import Derived.Test.YtcnhkoijphfibaaDoorCsnF1
set_option maxRecDepth 100000
set_option linter.unusedVariables false
set_option linter.unusedSimpArgs false
set_option linter.unnecessarySimpa false
namespace Go.Proofs.YtcnhkoijphfibaaDoor
open Go.RowKit Go.PlainAid

/-- a form of a number: its lowest m digits, which are all that are not zero -/
def HexOf (n k : Nat) (r : ByteArray) : Prop := ∃ m, 1 ≤ m ∧ m ≤ k ∧ n < 16 ^ m ∧ r = ⟨(hexK m n).toArray⟩
theorem pow16_le {a b : Nat} (h : a ≤ b) : 16 ^ a ≤ 16 ^ b := Nat.pow_le_pow_right (by decide) h
set_option maxHeartbeats 8000000 in
theorem fbits_s (n k : Nat) (w : World) (hn : n < 16 ^ k) (hk : 1 ≤ k) (hk2 : k ≤ 15) (ho : TzOk w) :
    Calls Tryd.prog 77 #[.slice none 0 0, .int .u64 n, .int .i64 16, .bool false, .bool false] w fun e w' => ∃ r, e = .returned (.tuple #[.slice none 0 0, .string r]) ∧ HexOf n k r ∧ Below w.heap.size w w' := by
  have hx := get_bt (⟨#[48, 49, 50, 51, 52, 53, 54, 55, 56, 57, 97, 98, 99, 100, 101, 102, 103, 104, 105, 106, 107, 108, 109, 110, 111, 112, 113, 114, 115, 116, 117, 118, 119, 120, 121, 122]⟩ : ByteArray)
  have HO := Lib.hid ho
  clear ho
  have HN := Lib.hid hn
  have hn2 : n < 1152921504606846976 := Nat.lt_of_lt_of_le hn (pow16_le hk2)
  clear hn
  go_enter Tryd.func77, Tryd.ntmps77
  go_wp2_with (first | (go_at_call 87; refine (pow2_s _).mono ?_; rintro e w' ⟨rfl, rfl⟩) | (go_at_call 88; refine (tz_s _ (HO.out.below (box_below _ _))).mono ?_; rintro e w' ⟨rfl, rfl⟩))
  go_loopw [1, 13] (fun u iv wr => ∃ j i m : Nat, j < k ∧ i + j = 65 ∧ iv = .int .i64 i ∧ u = .int .u64 m ∧ Hid (m = n / 16 ^ j) ∧ Hid (wr = arW w n j)) (fun _ iv _ => (intOf iv).toNat)
  case atStart => exact ⟨0, 65, n, by omega, rfl, rfl, rfl, Lib.hid (by simp), Lib.hid rfl⟩
  case round =>
    obtain ⟨j, i, m, hj, hij, rfl, rfl, HM, HW⟩ := hrel
    obtain ⟨p, rfl⟩ : ∃ p, i = p + 1 := ⟨i - 1, by omega⟩
    have hp : p < 65 := by omega
    have hp2 : p = 64 - j := by omega
    have hcell : wr.cell? ⟨w.heap.size, p, none⟩ = some (.int .u8 0) := by rw [HW.out, arW_cell, hp2, arC_at n j (by omega)]
    have hfr : wr.frozen? ⟨w.heap.size, p, none⟩ = false := by
      rw [HW.out]; unfold arW
      exact World.frozen?_alloc_at _ _ _ _ rfl
    have hml : m < 1152921504606846976 := by rw [HM.out]; exact Nat.lt_of_le_of_lt (Nat.div_le_self _ _) hn2
    have HP := Lib.hid hp2
    clear hp2
    by_cases hlt : 16 ≤ m
    · have hlt2 : (16 : Int) ≤ (m : Int) := by omega
      obtain ⟨d, HD, hd, hand⟩ := and15u m (by omega)
      have hjk : j + 1 < k := by
        rcases Nat.lt_or_ge (j + 1) k with h | h
        · exact h
        · have h1 : n < 16 ^ (j + 1) := Nat.lt_of_lt_of_le HN.out (pow16_le h)
          rw [Nat.pow_succ] at h1
          have h2 : n / 16 ^ j < 16 := Nat.div_lt_of_lt_mul (by rw [Nat.mul_comm] at h1; omega)
          rw [← HM.out] at h2; omega
      go_wp2_with fail
      go_roundw
      case rel => exact ⟨j + 1, p, m / 16, hjk, by omega, rfl, by rw [Int.natCast_ediv]; rfl, Lib.hid (by rw [HM.out, Nat.div_div_eq_div_mul, Nat.pow_succ]), Lib.hid (by
        rw [show bt (⟨#[48, 49, 50, 51, 52, 53, 54, 55, 56, 57, 97, 98, 99, 100, 101, 102, 103, 104, 105, 106, 107, 108, 109, 110, 111, 112, 113, 114, 115, 116, 117, 118, 119, 120, 121, 122]⟩ : ByteArray) d = ((hexD (n / 16 ^ j % 16)).toNat : Int) by rw [← HM.out, ← HD.out]; exact dig36_at d hd, HW.out, HP.out]
        exact arW_set w n j (by omega))⟩
      case measure => simp [intOf]
    · have hlt2 : ¬ (16 : Int) ≤ (m : Int) := by omega
      have hm36 : m < 36 := by omega
      obtain ⟨r, HR⟩ : ∃ r : ByteArray, Hid (r = ⟨(hexK (j + 1) n).toArray⟩) := ⟨_, Lib.hid rfl⟩
      obtain ⟨W2, HW2⟩ : ∃ W2, Hid (W2 = arW w n (j + 1)) := ⟨_, Lib.hid rfl⟩
      have hst : wr.setCell ⟨w.heap.size, p, none⟩ (.int .u8 (bt (⟨#[48, 49, 50, 51, 52, 53, 54, 55, 56, 57, 97, 98, 99, 100, 101, 102, 103, 104, 105, 106, 107, 108, 109, 110, 111, 112, 113, 114, 115, 116, 117, 118, 119, 120, 121, 122]⟩ : ByteArray) m)) = W2 := by
        rw [show bt (⟨#[48, 49, 50, 51, 52, 53, 54, 55, 56, 57, 97, 98, 99, 100, 101, 102, 103, 104, 105, 106, 107, 108, 109, 110, 111, 112, 113, 114, 115, 116, 117, 118, 119, 120, 121, 122]⟩ : ByteArray) m = ((hexD (n / 16 ^ j % 16)).toNat : Int) by rw [← HM.out, Nat.mod_eq_of_lt (by omega)]; exact dig36_at m (by omega), HW.out, HW2.out, HP.out]
        exact arW_set w n j (by omega)
      have hbk : (convert 67 9 (.slice (some ⟨w.heap.size, p, none⟩) (65 - p) (65 - p))).run Tryd.prog W2 = .ok (.string r) W2 := by
        rw [HR.out]
        have hl : (hexK (j + 1) n).length = 65 - p := by rw [hexK_length]; omega
        have := run_convert_bytes_back (P := Tryd.prog) W2 67 9 5 ⟨w.heap.size, p, none⟩ (65 - p) (hexK (j + 1) n) Tryd.underlying67 Tryd.underlying5 Tryd.underlying9 (fun q hq => by
          rw [Go.WideShapes.add_plain, HW2.out, arW_cell]
          unfold arC
          rw [List.getElem?_append_right (by rw [List.length_replicate]; omega), List.length_replicate, show p + q - (65 - (j + 1)) = q by omega]
          simp [bcells, hq])
        rw [hl] at this; exact this
      have HB : Hid (Below w.heap.size w W2) := Lib.hid (by rw [HW2.out]; exact (Below.refl _ _).alloc (Nat.le_refl _) _)
      have HF : Hid (HexOf n k r) := Lib.hid ⟨j + 1, by omega, by omega, by
        have h1 : n / 16 ^ j < 16 := by rw [← HM.out]; omega
        rw [Nat.pow_succ]
        exact (Nat.div_lt_iff_lt_mul (Nat.pow_pos (by decide))).1 h1 |> fun h => by rw [Nat.mul_comm]; exact h, HR.out⟩
      clear HR
      have hp3 : (p : Int) ≤ 65 := by omega
      have hp4 : ¬ 65 = p := by omega
      go_wp2_with fail
      go_ret2
      exact ⟨r, rfl, HF.out, HB.out⟩

end Go.Proofs.YtcnhkoijphfibaaDoor
