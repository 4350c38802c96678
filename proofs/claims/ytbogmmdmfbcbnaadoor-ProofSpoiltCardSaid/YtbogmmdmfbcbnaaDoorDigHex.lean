/-
  Contracts of digest.Hex, digest.Text and of the specification's. Condition: at most 1000000000 bytes.
-/
import Derived.Test.YtbogmmdmfbcbnaaDoorDigSum
import Derived.Laws.BitsLemmas
set_option maxRecDepth 100000
set_option linter.unusedVariables false
set_option linter.unusedSimpArgs false
set_option linter.unnecessarySimpa false
namespace Go.Proofs.YtbogmmdmfbcbnaaDoor
open Go.RowKit Go.PlainAid

def hexLow : ByteArray := ⟨#[48, 49, 50, 51, 52, 53, 54, 55, 56, 57, 97, 98, 99, 100, 101, 102]⟩
def arrL (n k : Nat) : List Value := List.replicate (16 - k) (Value.int .u8 0) ++ bcells (hexK k n)
theorem hexLow_at : ∀ d : Nat, d < 16 → bt hexLow d = ((hexD d).toNat : Int) := by decide +kernel
theorem arrL_length (n k : Nat) (hk : k ≤ 16) : (arrL n k).length = 16 := by
  unfold arrL; rw [List.length_append, List.length_replicate, bcells_length, hexK_length]; omega
theorem arrL_at (n k : Nat) (hk : k < 16) : (arrL n k)[15 - k]? = some (.int .u8 0) := by
  unfold arrL
  rw [List.getElem?_append_left (by rw [List.length_replicate]; omega), List.getElem?_replicate, if_pos (by omega)]
theorem arrL_set (n k : Nat) (hk : k < 16) : (arrL n k).set (15 - k) (.int .u8 ((hexD (n / 16 ^ k % 16)).toNat : Int)) = arrL n (k + 1) := by
  have e : 16 - k = (15 - k) + 1 := by omega
  unfold arrL
  rw [hexK_front, e, List.replicate_succ', List.append_assoc, show 16 - (k + 1) = 15 - k by omega]
  rw [List.set_append_right _ _ (by rw [List.length_replicate]; omega), List.length_replicate, Nat.sub_self]
  rfl
theorem arrL_end (n : Nat) : arrL n 16 = bcells (hexN n) := by unfold arrL hexN; rw [Nat.sub_self, List.replicate_zero, List.nil_append]
def arrW (w : World) (n k : Nat) : World := w.alloc (.cells (arrL n k).toArray 70)
theorem arrW_cell (w : World) (n k j : Nat) : (arrW w n k).cell? ⟨w.heap.size, j, none⟩ = (arrL n k)[j]? := by
  unfold arrW
  rw [World.cell?_alloc_at _ _ _ _ rfl]; simp
theorem arrW_set (w : World) (n k : Nat) (hk : k < 16) : (arrW w n k).setCell ⟨w.heap.size, 15 - k, none⟩ (.int .u8 ((hexD (n / 16 ^ k % 16)).toNat : Int)) = arrW w n (k + 1) := by
  unfold arrW
  rw [World.setCell_alloc_at _ _ _ _ _ rfl, List.setIfInBounds_toArray, arrL_set n k hk]
theorem and15 (m : Nat) (hm : m < 18446744073709551616) : ∃ d : Nat, Hid (d = m % 16) ∧ d < 16 ∧ bits .and .u64 (m : Int) 15 = (d : Int) :=
  ⟨m % 16, Lib.hid rfl, Nat.mod_lt _ (by decide), by
    have := bits_mask .u64 64 (by decide) (fun n h0 h1 => by rw [IntKind.wrap_u64]; omega) 4 (by decide) (m : Int) (by omega) (by omega)
    rw [show ((2 : Int) ^ 4 - 1) = 15 by decide, show ((2 : Int) ^ 4) = 16 by decide] at this
    rw [this]; rfl⟩

set_option maxHeartbeats 1000000 in
theorem hex_s (n : Nat) (w : World) (hn : n < 18446744073709551616) :
    Calls Tryd.prog 36 #[.int .u64 n] w fun e w' => e = .returned (.string ⟨(hexN n).toArray⟩) ∧ Below w.heap.size w w' := by
  have hx := get_bt (⟨#[48, 49, 50, 51, 52, 53, 54, 55, 56, 57, 97, 98, 99, 100, 101, 102]⟩ : ByteArray)
  go_enter Tryd.func36, Tryd.ntmps36
  go_wp2
  go_loopw [0, 5] (fun nv i wr => ∃ k m : Nat, k ≤ 16 ∧ i = .int .i64 k ∧ nv = .int .u64 m ∧ Hid (m = n / 16 ^ k) ∧ Hid (wr = arrW w n k))
    (fun _ i _ => 16 - (intOf i).toNat)
  case atStart => exact ⟨0, n, Nat.zero_le _, rfl, rfl, Lib.hid (by simp), Lib.hid rfl⟩
  case round =>
    obtain ⟨k, m, hk, rfl, rfl, HM, HW⟩ := hrel
    by_cases hlt : k < 16
    · have hcell : wr.cell? ⟨w.heap.size, 15 - k, none⟩ = some (.int .u8 0) := by rw [HW.out, arrW_cell, arrL_at n k hlt]
      have hfr : wr.frozen? ⟨w.heap.size, 15 - k, none⟩ = false := by
        rw [HW.out]; unfold arrW
        exact World.frozen?_alloc_at _ _ _ _ rfl
      have hml : m < 18446744073709551616 := by rw [HM.out]; exact Nat.lt_of_le_of_lt (Nat.div_le_self _ _) hn
      obtain ⟨d, HD, hd, hand⟩ := and15 m hml
      go_wp2
      go_roundw
      case rel => exact ⟨k + 1, m / 16, by omega, by go_num, by rw [Int.natCast_ediv]; rfl, Lib.hid (by rw [HM.out, Nat.div_div_eq_div_mul, Nat.pow_succ]), Lib.hid (by
        rw [show bt (⟨#[48, 49, 50, 51, 52, 53, 54, 55, 56, 57, 97, 98, 99, 100, 101, 102]⟩ : ByteArray) d = ((hexD (n / 16 ^ k % 16)).toNat : Int) by rw [← HM.out, ← HD.out]; exact hexLow_at d hd, HW.out]
        exact arrW_set w n k hlt)⟩
      case measure => simp [intOf]; omega
    · obtain rfl : k = 16 := by omega
      obtain ⟨r, HR⟩ : ∃ r : ByteArray, Hid (r = ⟨(hexN n).toArray⟩) := ⟨_, Lib.hid rfl⟩
      have hbk : (convert 48 9 (.slice (some ⟨w.heap.size, 0, none⟩) 16 16)).run Tryd.prog wr = .ok (.string r) wr := by
        rw [HR.out]
        have hl : (hexN n).length = 16 := hexK_length 16 n
        have := run_convert_bytes_back (P := Tryd.prog) wr 48 9 5 ⟨w.heap.size, 0, none⟩ 16 (hexN n) Tryd.underlying48 Tryd.underlying5 Tryd.underlying9 (fun j hj => by
          rw [Go.WideShapes.add_plain, HW.out, Nat.zero_add, arrW_cell]
          rw [arrL_end]
          exact bcells_at (hexN n) j hj)
        rw [hl] at this; exact this
      have HB : Hid (Below w.heap.size w wr) := Lib.hid (by rw [HW.out]; exact (Below.refl _ _).alloc (Nat.le_refl _) _)
      go_wp2
      go_ret
      exact ⟨by rw [← HR.out]; rfl, HB.out⟩

theorem text_s (s : ByteArray) (w : World) (hs : s.size ≤ 1000000000) :
    Calls Tryd.prog 18 #[.string s] w fun e w' => e = .returned (.string (txtS s)) ∧ Below w.heap.size w w' := by
  have HL := Lib.hid (sumN_lt s.data.toList)
  go_enter Tryd.func18, Tryd.ntmps18
  go_wp2_with (first | (go_at_call 37; refine (sum_s s _ hs).mono ?_; rintro e w' ⟨rfl, rfl⟩) | (go_at_call 36; refine (hex_s _ _ HL.out).mono ?_; rintro e w1 ⟨rfl, hb⟩))
  go_ret
  exact ⟨rfl, hb⟩

end Go.Proofs.YtbogmmdmfbcbnaaDoor
