/-
  The contract of the specification's digits. Condition: at most 8 bytes.
-/
import Derived.Test.YtnncfifpgjlpaabDoorClkRFmt
set_option linter.unusedVariables false
set_option linter.unusedSimpArgs false
set_option linter.unnecessarySimpa false
namespace Go.Proofs.YtnncfifpgjlpaabDoor
open Go.RowKit Go.PlainAid

def digB (c : UInt8) : Bool := decide (48 ≤ c.toNat) && decide (c.toNat ≤ 57)
/-- the value of digits behind acc -/
def valA (acc : Nat) (l : List UInt8) : Nat := l.foldl (fun a c => 10 * a + (c.toNat - 48)) acc
def valD (l : List UInt8) : Nat := valA 0 l
theorem valA_cons (a : Nat) (c : UInt8) (l : List UInt8) : valA a (c :: l) = valA (10 * a + (c.toNat - 48)) l := by
  unfold valA
  rw [List.foldl_cons]
theorem valD_snoc (l : List UInt8) (c : UInt8) : valD (l ++ [c]) = 10 * valD l + (c.toNat - 48) := by
  unfold valD valA
  rw [List.foldl_append, List.foldl_cons, List.foldl_nil]
theorem digB_bounds {c : UInt8} (h : digB c = true) : 48 ≤ c.toNat ∧ c.toNat ≤ 57 := by simpa [digB] using h
theorem valA_lt : ∀ (l : List UInt8) (a : Nat), l.all digB = true → valA a l < (a + 1) * 10 ^ l.length
  | [], a, _ => by show a < (a + 1) * 1; omega
  | c :: r, a, h => by
    rw [List.all_cons, Bool.and_eq_true] at h
    have hc := digB_bounds h.1
    rw [valA_cons, List.length_cons, Nat.pow_succ]
    have h1 := valA_lt r (10 * a + (c.toNat - 48)) h.2
    have h2 : (10 * a + (c.toNat - 48) + 1) * 10 ^ r.length ≤ (10 * (a + 1)) * 10 ^ r.length := Nat.mul_le_mul_right _ (by omega)
    have h3 : (a + 1) * (10 ^ r.length * 10) = (10 * (a + 1)) * 10 ^ r.length := by
      rw [Nat.mul_comm (10 ^ r.length) 10, ← Nat.mul_assoc, Nat.mul_comm (a + 1) 10]
    omega
theorem valD_lt (l : List UInt8) (h : l.all digB = true) : valD l < 10 ^ l.length := by
  have := valA_lt l 0 h
  unfold valD; omega
theorem val_step (t : ByteArray) (k : Nat) (h : k < t.size) : valD (t.data.toList.take (k + 1)) = 10 * valD (t.data.toList.take k) + ((chr t k).toNat - 48) := by
  rw [take_chr t k h, valD_snoc]
theorem get_all {t : ByteArray} (n : Nat) (hn : n ≤ t.size) (h : ∀ j, j < n → digB (chr t j) = true) : (t.data.toList.take n).all digB = true := by
  rw [List.all_eq_true]
  intro c hc
  obtain ⟨j, hj, rfl⟩ := List.getElem_of_mem hc
  rw [List.length_take, ← Lib.size_eq] at hj
  have := h j (by omega)
  unfold chr at this
  rw [List.getElem_take]
  rw [List.getD_eq_getElem?_getD, List.getElem?_eq_getElem (by rw [← Lib.size_eq]; omega)] at this
  exact this
theorem all_bad {t : ByteArray} (j : Nat) (h : j < t.size) (hd : digB (chr t j) = false) : t.data.toList.all digB = false := by
  rw [List.all_eq_false]
  refine ⟨chr t j, ?_, by rw [hd]; simp⟩
  unfold chr
  rw [List.getD_eq_getElem?_getD, List.getElem?_eq_getElem (by simpa using h)]
  exact List.getElem_mem _
def digAll (l : List UInt8) : Bool := l.all digB
/-- the number that digits stand for, 0 if another byte stands among them -/
def numL (l : List UInt8) : Nat := if digAll l then valD l else 0

set_option maxHeartbeats 2000000 in
theorem rdigits_s (t : ByteArray) (w : World) (hs : t.size ≤ 8) :
    Calls Tryd.prog 39 #[.string t] w fun e w' => e = .returned (.tuple #[.int .i64 (numL t.data.toList), .bool (digAll t.data.toList)]) ∧ w = w' := by
  have hb := get_bt t
  go_enter Tryd.func39, Tryd.ntmps39
  go_wp2_with fail
  go_loop [4, 5] (fun n i => ∃ k m : Nat, k ≤ t.size ∧ i = .int .i64 k ∧ n = .int .i64 m ∧ m ≤ 99999999 ∧ Hid (valD (t.data.toList.take k) = m) ∧ Hid (∀ j, j < k → digB (chr t j) = true)) (fun _ i => t.size - (intOf i).toNat)
  case atStart => exact ⟨0, 0, Nat.zero_le _, rfl, rfl, by omega, Lib.hid rfl, Lib.hid fun j hj => absurd hj (Nat.not_lt_zero _)⟩
  case round =>
    obtain ⟨k, m, hk, rfl, rfl, hm, HV, HA⟩ := hrel
    by_cases hlt : k < t.size
    · have hk0 := bt_nonneg t k
      have HC := Lib.hid (bt_chr t k)
      by_cases d1 : 48 ≤ bt t k
      · by_cases d2 : bt t k ≤ 57
        · have HD := Lib.hid (show digB (chr t k) = true by
            have := bt_chr t k
            unfold digB; simp; omega)
          have HS := Lib.hid (val_step t k hlt)
          have HN := Lib.hid (show ∀ j, j < k + 1 → digB (chr t j) = true from fun j hj => if e : j = k then by rw [e]; exact HD.out else HA.out j (by omega))
          have HB := Lib.hid (show 10 * m + ((chr t k).toNat - 48) ≤ 99999999 by
            have h1 := valD_lt _ (get_all (k + 1) (by omega) HN.out)
            rw [HS.out, HV.out, List.length_take, ← Lib.size_eq, Nat.min_eq_left (by omega)] at h1
            have h2 : 10 ^ (k + 1) ≤ 10 ^ 8 := Nat.pow_le_pow_right (by omega) (by omega)
            omega)
          have d3 : ¬ bt t k < 48 := by omega
          have d4 : ¬ 57 < bt t k := by omega
          go_wp2
          go_round
          case rel => exact ⟨k + 1, 10 * m + ((chr t k).toNat - 48), by omega, by go_num, by congr 1; have := HC.out; omega, HB.out, Lib.hid (by rw [HS.out, HV.out]), HN⟩
          case measure => simp [intOf]; omega
        · have HF := Lib.hid (show digAll t.data.toList = false by
            refine all_bad k hlt ?_
            have := bt_chr t k
            unfold digB; simp; omega)
          have d3 : 57 < bt t k := by omega
          go_wp2
          go_ret2
          exact ⟨by unfold numL; rw [HF.out]; rfl, rfl⟩
      · have HF := Lib.hid (show digAll t.data.toList = false by
          refine all_bad k hlt ?_
          have := bt_chr t k
          unfold digB; simp; omega)
        have d3 : bt t k < 48 := by omega
        go_wp2
        go_ret2
        exact ⟨by unfold numL; rw [HF.out]; rfl, rfl⟩
    · have hks : k = t.size := by omega
      have HT : Hid (t.data.toList.take k = t.data.toList) := Lib.hid (List.take_of_length_le (by rw [← Lib.size_eq]; omega))
      have HF := Lib.hid (show digAll t.data.toList = true by rw [← HT.out]; exact get_all k hk HA.out)
      have HG := Lib.hid (show numL t.data.toList = m by unfold numL; rw [HF.out, if_pos rfl, ← HV.out, HT.out])
      clear hks
      go_wp2
      go_ret2
      exact ⟨by rw [HG.out, HF.out]; rfl, rfl⟩

end Go.Proofs.YtnncfifpgjlpaabDoor
