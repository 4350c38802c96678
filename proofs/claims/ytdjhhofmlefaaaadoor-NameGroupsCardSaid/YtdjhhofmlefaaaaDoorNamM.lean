/-
  Plain facts for the loops that look for a separator and read a value; contracts of name.mark, name.cut and the specification's special and next. Condition: at most 1000000000 bytes.
-/
import Derived.Test.YtdjhhofmlefaaaaDoorNamP
import Derived.Test.YtdjhhofmlefaaaaDoorCodecB
import Derived.Test.YtdjhhofmlefaaaaDoorCodecBuild
import Derived.Deep.RegionHeld3
set_option linter.unusedVariables false
set_option linter.unusedSimpArgs false
set_option linter.unnecessarySimpa false
namespace Go.Proofs.YtdjhhofmlefaaaaDoor
open Go.RowKit Go.PlainAid

theorem mark_table : ∀ n : Nat, n < 256 → decide (0 ≤ Lib.indexByte [44, 61, 43, 92] (UInt8.ofNat n)) = spec4 (UInt8.ofNat n) := by decide +kernel
theorem mark_lib (c : UInt8) : decide (0 ≤ Lib.indexByte [44, 61, 43, 92] c) = spec4 c := by
  have := mark_table c.toNat c.toNat_lt
  rwa [UInt8.ofNat_toNat] at this
set_option maxRecDepth 100000 in
set_option maxHeartbeats 1000000 in
theorem mark_s (x : Int) (c : UInt8) (w : World) (hx : x = (c.toNat : Int)) :
    Calls Tryd.prog 67 #[.int .u8 x] w fun e w' => e = .returned (.bool (spec4 c)) ∧ w = w' := by
  have HX := Lib.hid (show x.toNat.toUInt8 = c by subst hx; simp)
  have HM := Lib.hid (mark_lib c)
  clear hx
  go_enter Tryd.func67, Tryd.ntmps67
  go_wp2_with fail
  refine (Tryd.strings_IndexByte ⟨#[44, 61, 43, 92]⟩ x _).mono ?_
  rintro e w' ⟨rfl, rfl⟩
  rw [HX.out]
  generalize hv : Lib.indexByte (⟨#[44, 61, 43, 92]⟩ : ByteArray).data.toList c = v
  have HV := Lib.hid hv; clear hv
  go_wp2_with fail
  go_ret
  exact ⟨by rw [← HM.out, ← HV.out]; rfl, rfl⟩
set_option maxHeartbeats 1000000 in
theorem special_s (x : Int) (c : UInt8) (w : World) (hx : x = (c.toNat : Int)) :
    Calls Tryd.prog 50 #[.int .u8 x] w fun e w' => e = .returned (.bool (spec4 c)) ∧ w = w' := by
  have key : ∀ d : UInt8, (x == (d.toNat : Int)) = (c == d) := fun d => by
    rw [Bool.eq_iff_iff, beq_iff_eq, beq_iff_eq, hx]
    exact ⟨fun h => UInt8.toNat_inj.1 (by omega), fun h => by rw [h]⟩
  have k1 : (x == 44) = (c == 44) := key 44
  have k2 : (x == 61) = (c == 61) := key 61
  have k3 : (x == 43) = (c == 43) := key 43
  have k4 : (x == 92) = (c == 92) := key 92
  have HS : Hid (spec4 c = ((x == 44) || (x == 61) || (x == 43) || (x == 92))) := Lib.hid (by unfold spec4; rw [k1, k2, k3, k4])
  clear k1 k2 k3 k4 key hx
  cases a1 : (x == 44) <;> cases a2 : (x == 61) <;> cases a3 : (x == 43) <;> cases a4 : (x == 92)
  all_goals
    rw [a1, a2, a3, a4] at HS
    go_enter Tryd.func50, Tryd.ntmps50
    go_wp2
    go_ret
    exact ⟨by rw [HS.out]; rfl, rfl⟩

/-! ### where the separator stands -/
theorem next_here (c : UInt8) (s : ByteArray) (i : Nat) (h : i < s.size) (hc : chr s i = c) : nextP c (s.data.toList.drop i) = 0 := by
  rw [drop_chr s i h]; unfold nextP; rw [if_pos hc]
theorem next_esc (c : UInt8) (s : ByteArray) (i : Nat) (h : i < s.size) (hc : chr s i ≠ c) (h92 : chr s i = 92) :
    nextP c (s.data.toList.drop i) = if i + 1 < s.size then nextP c (s.data.toList.drop (i + 2)) + 2 else 1 := by
  rw [drop_chr s i h]
  conv => lhs; unfold nextP
  rw [if_neg hc, if_pos h92]
  by_cases h1 : i + 1 < s.size
  · rw [drop_chr s (i + 1) h1, if_pos h1]
  · rw [List.drop_eq_nil_of_le (by rw [← Lib.size_eq]; omega), if_neg h1]
theorem next_other (c : UInt8) (s : ByteArray) (i : Nat) (h : i < s.size) (hc : chr s i ≠ c) (h92 : chr s i ≠ 92) :
    nextP c (s.data.toList.drop i) = nextP c (s.data.toList.drop (i + 1)) + 1 := by
  rw [drop_chr s i h]
  conv => lhs; unfold nextP
  rw [if_neg hc, if_neg h92]
/-- what the loop knows at place i -/
def NextAt (c : UInt8) (s : ByteArray) (i : Nat) : Prop := i ≤ s.size + 1 ∧ nextP c s.data.toList = min (i + nextP c (s.data.toList.drop i)) s.size
theorem nextAt_zero (c : UInt8) (s : ByteArray) : NextAt c s 0 := by
  refine ⟨by omega, ?_⟩
  have := nextP_le c s.data.toList
  rw [← Lib.size_eq] at this
  rw [List.drop_zero]; omega
theorem nextAt_here {c : UInt8} {s : ByteArray} {i : Nat} (h : NextAt c s i) (hi : i < s.size) (hc : chr s i = c) : nextP c s.data.toList = i := by
  rw [h.2, next_here c s i hi hc]; omega
theorem nextAt_esc {c : UInt8} {s : ByteArray} {i : Nat} (h : NextAt c s i) (hi : i < s.size) (hc : chr s i ≠ c) (h92 : chr s i = 92) : NextAt c s (i + 2) := by
  refine ⟨by omega, ?_⟩
  rw [h.2, next_esc c s i hi hc h92]
  by_cases h1 : i + 1 < s.size
  · rw [if_pos h1]; omega
  · rw [if_neg h1, List.drop_eq_nil_of_le (by rw [← Lib.size_eq]; omega)]; simp [nextP]; omega
theorem nextAt_other {c : UInt8} {s : ByteArray} {i : Nat} (h : NextAt c s i) (hi : i < s.size) (hc : chr s i ≠ c) (h92 : chr s i ≠ 92) : NextAt c s (i + 1) := by
  refine ⟨by omega, ?_⟩
  rw [h.2, next_other c s i hi hc h92]; omega
theorem nextAt_end {c : UInt8} {s : ByteArray} {i : Nat} (h : NextAt c s i) (hi : ¬ i < s.size) : nextP c s.data.toList = s.size := by
  rw [h.2]; omega
theorem bt_ne (s : ByteArray) (i : Nat) (c : UInt8) : (bt s i == (c.toNat : Int)) = decide (chr s i = c) := by
  rw [bt_chr, Bool.eq_iff_iff, beq_iff_eq, decide_eq_true_eq]
  exact ⟨fun h => UInt8.toNat_inj.1 (by omega), fun h => by rw [h]⟩

def cutA (c : UInt8) (s : ByteArray) : ByteArray := tk s (nextP c s.data.toList)
def cutZ (c : UInt8) (s : ByteArray) : ByteArray := if nextP c s.data.toList < s.size then dr s (nextP c s.data.toList + 1) else ByteArray.empty
def cutF (c : UInt8) (s : ByteArray) : Bool := decide (nextP c s.data.toList < s.size)
theorem extract_tk (s : ByteArray) (k : Nat) : s.extract 0 k = tk s k := by
  have : s = ⟨s.data.toList.toArray⟩ := (Lib.mk_data s).symm
  rw [this, Lib.extract_mk, List.drop_zero]; rfl
theorem cut_hit {c : UInt8} {s : ByteArray} {i : Nat} (h : nextP c s.data.toList = i) (hi : i < s.size) : cutA c s = s.extract 0 i ∧ cutZ c s = s.extract (i + 1) s.size ∧ cutF c s = true := by
  unfold cutA cutZ cutF
  rw [h, if_pos hi]
  exact ⟨(extract_tk s i).symm, (Lib.extract_from s (i + 1)).symm, decide_eq_true hi⟩
theorem cut_miss {c : UInt8} {s : ByteArray} (h : nextP c s.data.toList = s.size) : cutA c s = s ∧ cutZ c s = ByteArray.empty ∧ cutF c s = false := by
  unfold cutA cutZ cutF
  rw [h, if_neg (Nat.lt_irrefl _), tk_all]
  exact ⟨rfl, rfl, decide_eq_false (Nat.lt_irrefl _)⟩

set_option maxRecDepth 100000 in
set_option maxHeartbeats 2000000 in
theorem cut_s (s : ByteArray) (x : Int) (c : UInt8) (w : World) (hs : s.size ≤ 1000000000) (hx : x = (c.toNat : Int)) :
    Calls Tryd.prog 36 #[.string s, .int .u8 x] w fun e w' => e = .returned (.tuple #[.string (cutA c s), .string (cutZ c s), .bool (cutF c s)]) ∧ Below w.heap.size w w' := by
  have hb := get_bt s
  have HQ := Lib.hid (fun i => show (bt s i == x) = decide (chr s i = c) by rw [hx]; exact bt_ne s i c)
  clear hx
  go_enter Tryd.func36, Tryd.ntmps36
  go_wp2
  go_loop [7] (fun iv => ∃ i : Nat, iv = .int .i64 i ∧ i ≤ s.size + 1 ∧ Hid (NextAt c s i)) (fun iv => s.size + 1 - (intOf iv).toNat)
  case atStart => exact ⟨0, rfl, by omega, Lib.hid (nextAt_zero c s)⟩
  case round =>
    obtain ⟨i, rfl, hi, HA⟩ := hrel
    by_cases hlt : i < s.size
    · have i0 : (0 : Int) ≤ (i : Int) := by omega
      cases c1 : (bt s i == x)
      · have HN := Lib.hid (show chr s i ≠ c by have := HQ.out i; rw [c1] at this; exact of_decide_eq_false this.symm)
        cases c2 : (bt s i == 92)
        · have HM := Lib.hid (show chr s i ≠ 92 by have := bt_ne s i 92; rw [show ((92 : UInt8).toNat : Int) = 92 from rfl, c2] at this; exact of_decide_eq_false this.symm)
          have HT := Lib.hid (nextAt_other HA.out hlt HN.out HM.out)
          go_wp2
          go_round
          case rel => exact ⟨i + 1, by go_num, by omega, HT⟩
          case measure => simp [intOf]; omega
        · have HM := Lib.hid (show chr s i = 92 by have := bt_ne s i 92; rw [show ((92 : UInt8).toNat : Int) = 92 from rfl, c2] at this; exact of_decide_eq_true this.symm)
          have HT := Lib.hid (nextAt_esc HA.out hlt HN.out HM.out)
          go_wp2
          go_round
          case rel => exact ⟨i + 2, by go_num, by omega, HT⟩
          case measure => simp [intOf]; omega
      · have HN := Lib.hid (show chr s i = c by have := HQ.out i; rw [c1] at this; exact of_decide_eq_true this.symm)
        have HC := Lib.hid (cut_hit (nextAt_here HA.out hlt HN.out) hlt)
        have m5 : IntKind.i64.wrap ((i : Int) + 1) = (i : Int) + 1 := IntWalk.i64_in _ (by omega)
        have k1 : (i : Int) ≤ (s.size : Int) := by omega
        have k2 : (0 : Int) ≤ (i : Int) + 1 := by omega
        have k3 : (i : Int) + 1 ≤ (s.size : Int) := by omega
        have k4 : ((i : Int) + 1).toNat = i + 1 := by omega
        go_wp2
        go_region_held3 (fun _ => True) (trivial) ((fail))
        go_wp2
        go_ret3
        exact ⟨by rw [HC.out.1, HC.out.2.1, HC.out.2.2]; rfl, (Below.refl _ _).drew⟩
    · have HC := Lib.hid (cut_miss (nextAt_end HA.out hlt))
      go_wp2
      go_ret3
      exact ⟨by rw [HC.out.1, HC.out.2.1, HC.out.2.2]; rfl, Below.refl _ _⟩

set_option maxRecDepth 100000 in
set_option maxHeartbeats 2000000 in
theorem next_s (s : ByteArray) (x : Int) (c : UInt8) (w : World) (hs : s.size ≤ 1000000000) (hx : x = (c.toNat : Int)) :
    Calls Tryd.prog 38 #[.string s, .int .u8 x] w fun e w' => e = .returned (.int .i64 (nextP c s.data.toList : Nat)) ∧ w = w' := by
  have hb := get_bt s
  have HQ := Lib.hid (fun i => show (bt s i == x) = decide (chr s i = c) by rw [hx]; exact bt_ne s i c)
  clear hx
  go_enter Tryd.func38, Tryd.ntmps38
  go_wp2
  go_loop [5] (fun iv => ∃ i : Nat, iv = .int .i64 i ∧ i ≤ s.size + 1 ∧ Hid (NextAt c s i)) (fun iv => s.size + 1 - (intOf iv).toNat)
  case atStart => exact ⟨0, rfl, by omega, Lib.hid (nextAt_zero c s)⟩
  case round =>
    obtain ⟨i, rfl, hi, HA⟩ := hrel
    by_cases hlt : i < s.size
    · have i0 : (0 : Int) ≤ (i : Int) := by omega
      cases c1 : (bt s i == x)
      · have HN := Lib.hid (show chr s i ≠ c by have := HQ.out i; rw [c1] at this; exact of_decide_eq_false this.symm)
        cases c2 : (bt s i == 92)
        · have HM := Lib.hid (show chr s i ≠ 92 by have := bt_ne s i 92; rw [show ((92 : UInt8).toNat : Int) = 92 from rfl, c2] at this; exact of_decide_eq_false this.symm)
          have HT := Lib.hid (nextAt_other HA.out hlt HN.out HM.out)
          go_wp2
          go_round
          case rel => exact ⟨i + 1, by go_num, by omega, HT⟩
          case measure => simp [intOf]; omega
        · have HM := Lib.hid (show chr s i = 92 by have := bt_ne s i 92; rw [show ((92 : UInt8).toNat : Int) = 92 from rfl, c2] at this; exact of_decide_eq_true this.symm)
          have HT := Lib.hid (nextAt_esc HA.out hlt HN.out HM.out)
          go_wp2
          go_round
          case rel => exact ⟨i + 2, by go_num, by omega, HT⟩
          case measure => simp [intOf]; omega
      · have HN := Lib.hid (show chr s i = c by have := HQ.out i; rw [c1] at this; exact of_decide_eq_true this.symm)
        have HC := Lib.hid (nextAt_here HA.out hlt HN.out)
        go_wp2
        go_ret
        exact ⟨by rw [HC.out]; rfl, rfl⟩
    · have HC := Lib.hid (nextAt_end HA.out hlt)
      go_wp2
      go_ret
      exact ⟨by rw [HC.out]; rfl, rfl⟩

end Go.Proofs.YtdjhhofmlefaaaaDoor
