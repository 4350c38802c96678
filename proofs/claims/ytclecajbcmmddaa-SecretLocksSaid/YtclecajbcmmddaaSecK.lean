/-
  Contracts of secret's classOf, countClasses and Quality, and of the specification's class, contains and Quality. Condition: at most 1000000 bytes; the library's MaxLen is there.
-/
import Derived.Test.YtclecajbcmmddaaSecR
set_option maxRecDepth 100000
set_option maxRecDepth 100000
set_option linter.unusedVariables false
set_option linter.unusedSimpArgs false
set_option linter.unnecessarySimpa false
namespace Go.Proofs.Ytclecajbcmmddaa
open Go.RowKit Go.PlainAid

theorem cls_s (c x : Int) (w : World) (h0 : 0 ≤ c) (h1 : c ≤ 255) (hx : clsI c = x) :
    Calls Try.prog 50 #[.int .u8 c] w fun e w' => e = .returned (.int .i64 x) ∧ w = w' := by
  by_cases a1 : 97 ≤ c <;> by_cases a2 : c ≤ 122 <;> by_cases a3 : 65 ≤ c <;> by_cases a4 : c ≤ 90 <;> by_cases a5 : 48 ≤ c <;> by_cases a6 : c ≤ 57 <;> try omega
  all_goals
    have HE := Lib.hid hx
    clear hx
    go_enter Try.func50, Try.ntmps50
    go_wp2
    go_ret
    exact ⟨by rw [← HE.out]; unfold clsI; (repeat' split) <;> first | rfl | omega, rfl⟩
/-- which classes have occurred among the first n bytes -/
def clL (s : ByteArray) (n : Nat) : List Value := (List.range 4).map fun (k : Nat) => .bool (hasK s (k : Int) n)
def clO (s : ByteArray) (n : Nat) : Obj := .cells (clL s n).toArray 78
theorem clL_len (s : ByteArray) (n : Nat) : (clL s n).length = 4 := by simp [clL]
theorem clL_at (s : ByteArray) (n k : Nat) (hk : k < 4) : (clL s n).toArray[k]? = some (.bool (hasK s (k : Int) n)) := by
  unfold clL; simp [hk]
theorem clL_get (s : ByteArray) (n j : Nat) (h : j < (clL s n).length) : (clL s n)[j] = .bool (hasK s (j : Int) n) := by simp [clL]
theorem clL_set (s : ByteArray) (n k : Nat) (hk : k < 4) (e : clsI (bt s n) = (k : Int)) : (clL s n).toArray.setIfInBounds k (.bool true) = (clL s (n + 1)).toArray := by
  rw [List.setIfInBounds_toArray]
  congr 1
  apply List.ext_getElem
  · rw [List.length_set, clL_len, clL_len]
  · intro j h1 h2
    rw [List.getElem_set, clL_get, clL_get, hasK_succ, e]
    by_cases q : k = j
    · subst q; simp
    · rw [if_neg q]
      have : decide ((k : Int) = (j : Int)) = false := decide_eq_false (by omega)
      rw [this, Bool.or_false]
theorem clL_zero (s : ByteArray) : (clL s 0).toArray = #[.bool false, .bool false, .bool false, .bool false] := by
  unfold clL hasK
  simp [List.range, List.range.loop]
set_option maxHeartbeats 8000000 in
theorem count_k (s : ByteArray) (x : Nat) (w : World) (hs : s.size ≤ 1000000) (hx : cntK s = x) :
    Calls Try.prog 37 #[.string s] w fun e w' => e = .returned (.int .i64 x) ∧ Below w.heap.size w w' := by
  have hb := get_bt s
  have HK0 := Lib.hid (show KbC (w.alloc (.cells #[.bool false, .bool false, .bool false, .bool false] 78)) w.heap.size (clO s 0) by
    unfold clO; rw [clL_zero]; exact kbc_new _ _)
  have HB0 := Lib.hid (box_below w (.cells #[.bool false, .bool false, .bool false, .bool false] 78))
  have HX := Lib.hid hx
  clear hx
  go_enter Try.func37, Try.ntmps37
  go_wp2_with fail
  go_loopw [9] (fun iv wr => ∃ i : Nat, i ≤ s.size ∧ iv = .int .i64 i ∧ Hid (KbC wr w.heap.size (clO s i)) ∧ Hid (Below w.heap.size w wr)) (fun iv _ => s.size - (intOf iv).toNat)
  case atStart => exact ⟨0, Nat.zero_le _, rfl, HK0, HB0⟩
  case round =>
    obtain ⟨i, hi, rfl, HK, HB⟩ := hrel
    by_cases hlt : i < s.size
    · have d1 : (i : Int) < (s.size : Int) := by omega
      obtain ⟨c, hc⟩ : ∃ c, clsI (bt s i) = c := ⟨_, rfl⟩
      have hbd := clsI_bd (bt s i)
      rw [hc] at hbd
      obtain ⟨k, rfl⟩ : ∃ k : Nat, c = (k : Int) := ⟨c.toNat, by omega⟩
      have hk4 : k < 4 := by omega
      have g0 : wr.cell? ⟨w.heap.size, k, none⟩ = some (.bool (hasK s (k : Int) i)) := HK.out.cell (clL_at s i k hk4)
      have hfr : wr.frozen? ⟨w.heap.size, k, none⟩ = false := HK.out.frz
      have HKN := Lib.hid (show KbC (wr.setCell ⟨w.heap.size, k, none⟩ (.bool true)) w.heap.size (clO s (i + 1)) by
        have := HK.out.set (i := k) (.bool true)
        rw [clL_set s i k hk4 hc] at this
        exact this)
      have HBN := Lib.hid (HB.out.setCell (p := ⟨w.heap.size, k, none⟩) (Nat.le_refl _) (.bool true))
      have HC := Lib.hid hc
      clear hc hbd
      go_wp2_with fail
      refine (cls_s (bt s i) (k : Int) _ (bt_nonneg _ _) (bt_le _ _) HC.out).mono ?_
      rintro e w' ⟨rfl, rfl⟩
      have k0 : (0 : Int) ≤ (k : Int) := by omega
      have k4 : (k : Int) < 4 := by omega
      go_wp2_with fail
      go_roundw
      case rel => exact ⟨i + 1, by omega, by go_num, HKN, HBN⟩
      case measure => simp [intOf]; omega
    · obtain rfl : i = s.size := by omega
      clear HK0 HB0
      go_wp2_with fail
      go_loopw [5, 18] (fun cv iv wq => ∃ j : Nat, j ≤ 4 ∧ iv = .int .i64 j ∧ cv = .int .i64 (cntU s j) ∧ wq = wr) (fun _ iv _ => 4 - (intOf iv).toNat)
      case atStart => exact ⟨0, Nat.zero_le _, rfl, rfl, rfl⟩
      case round =>
        obtain ⟨j, hj, rfl, rfl, rfl⟩ := hrel
        by_cases hl2 : j < 4
        · have g0 := HK.out.cell (clL_at s s.size j hl2)
          obtain ⟨q, hq⟩ : ∃ q, hasK s (j : Int) s.size = q := ⟨_, rfl⟩
          rw [hq] at g0
          have hle := cntU_le s j
          have d4 : (j : Int) < 4 := by omega
          have d0 : (0 : Int) ≤ (j : Int) := by omega
          cases q
          · have HN := Lib.hid (cntU_no hq)
            clear hq
            go_wp2_with fail
            go_roundw
            case rel => exact ⟨j + 1, by omega, by go_num, by rw [HN.out], trivial⟩
            case measure => simp [intOf]; omega
          · have HN := Lib.hid (cntU_yes hq)
            clear hq
            go_wp2_with fail
            go_roundw
            case rel => exact ⟨j + 1, by omega, by go_num, by rw [HN.out]; go_num, trivial⟩
            case measure => simp [intOf]; omega
        · obtain rfl : j = 4 := by omega
          go_wp2_with fail
          go_ret
          exact ⟨by rw [← HX.out]; rfl, HB.out⟩

end Go.Proofs.Ytclecajbcmmddaa
