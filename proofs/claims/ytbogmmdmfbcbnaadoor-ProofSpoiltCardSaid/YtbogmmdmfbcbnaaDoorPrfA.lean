/-
  Contracts of verifierByte, Valid, plainWord of the program and of letter, Valid, Plain of the specification. Condition: at most 1000000000 bytes; the library's MaxLen is there.
-/
import Derived.Test.YtbogmmdmfbcbnaaDoorPrfL
import Derived.Test.YtbogmmdmfbcbnaaDoorCodecHigh
import Derived.Test.YtbogmmdmfbcbnaaDoorDigRRead
import Derived.Test.YtbogmmdmfbcbnaaDoorKbC
set_option maxRecDepth 100000
set_option linter.unusedVariables false
set_option linter.unusedSimpArgs false
set_option linter.unnecessarySimpa false
namespace Go.Proofs.YtbogmmdmfbcbnaaDoor
open Go.RowKit Go.PlainAid

theorem vb_ix : ∀ n : Nat, n < 256 → decide (0 ≤ Lib.indexByte [45, 46, 95, 126] (n.toUInt8)) = ((n : Int) == 45 || (n : Int) == 46 || (n : Int) == 95 || (n : Int) == 126) := by decide +kernel
theorem vb_zone (c : Int) : ltrI c = (decide (65 ≤ c) && decide (c ≤ 90) || decide (97 ≤ c) && decide (c ≤ 122)) ∧ dgtI c = (decide (48 ≤ c) && decide (c ≤ 57)) := ⟨rfl, rfl⟩
set_option maxHeartbeats 4000000 in
theorem vbyte_k (c : Int) (x : Bool) (w : World) (h0 : 0 ≤ c) (h1 : c ≤ 255) (hx : vbI c = x) :
    Calls Tryd.prog 31 #[.int .u8 c] w fun e w' => e = .returned (.bool x) ∧ w = w' := by
  by_cases hl : (65 ≤ c ∧ c ≤ 90) ∨ (97 ≤ c ∧ c ≤ 122) ∨ (48 ≤ c ∧ c ≤ 57)
  · have hx2 : x = true := by
      rw [← hx]; unfold vbI
      have : (ltrI c || dgtI c) = true := by
        rw [(vb_zone c).1, (vb_zone c).2]
        simp only [Bool.or_eq_true, Bool.and_eq_true, decide_eq_true_eq]; omega
      simp [this]
    subst hx2
    clear hx
    by_cases a1 : 65 ≤ c <;> by_cases a2 : c ≤ 90 <;> by_cases a3 : 97 ≤ c <;> by_cases a4 : c ≤ 122 <;> by_cases a5 : 48 ≤ c <;> by_cases a6 : c ≤ 57
    all_goals first
      | (exfalso; omega)
      | (clear hl h0 h1
         go_enter Tryd.func31, Tryd.ntmps31
         go_wp2_with fail
         go_ret
         exact ⟨rfl, rfl⟩)
  · obtain ⟨n, rfl⟩ := Int.eq_ofNat_of_zero_le h0
    have hi := vb_ix n (by omega)
    obtain ⟨z, hz⟩ : ∃ z, Lib.indexByte [45, 46, 95, 126] (n.toUInt8) = z := ⟨_, rfl⟩
    rw [hz] at hi
    have hx2 : x = decide (0 ≤ z) := by
      rw [← hx, hi]; unfold vbI
      have h2 : ltrI (n : Int) = false := by
        rw [(vb_zone n).1]
        simp only [Bool.or_eq_false_iff, Bool.and_eq_false_iff, decide_eq_false_iff_not]; omega
      have h3 : dgtI (n : Int) = false := by
        rw [(vb_zone n).2]
        simp only [Bool.and_eq_false_iff, decide_eq_false_iff_not]; omega
      rw [h2, h3]; rfl
    have HX := Lib.hid hx2
    have HI : Hid (Lib.indexByte (⟨#[45, 46, 95, 126]⟩ : ByteArray).data.toList (n : Int).toNat.toUInt8 = z) := Lib.hid hz
    clear hx hi hz hx2
    by_cases a1 : 65 ≤ (n : Int) <;> by_cases a2 : (n : Int) ≤ 90 <;> by_cases a3 : 97 ≤ (n : Int) <;> by_cases a4 : (n : Int) ≤ 122 <;> by_cases a5 : 48 ≤ (n : Int) <;> by_cases a6 : (n : Int) ≤ 57
    all_goals first
      | (exfalso; omega)
      | (clear hl h0 h1
         go_enter Tryd.func31, Tryd.ntmps31
         go_wp2_with fail
         refine (Tryd.strings_IndexByte _ _ _).mono ?_
         rintro e w' ⟨rfl, hw⟩
         obtain rfl := hw.symm
         rw [HI.out]
         go_wp2_with fail
         go_ret
         exact ⟨by rw [HX.out]; rfl, rfl⟩)
set_option maxHeartbeats 2000000 in
theorem valid_k (s : ByteArray) (x : Bool) (w : World) (hs : s.size ≤ 1000000000) (hx : valB s = x) :
    Calls Tryd.prog 13 #[.string s] w fun e w' => e = .returned (.bool x) ∧ w = w' := by
  have HX := Lib.hid hx
  clear hx
  have hb := get_bt s
  by_cases h1 : s.size < 43
  · have HE := Lib.hid (HX.out.symm.trans (valB_short h1))
    have d1 : (s.size : Int) < 43 := by omega
    go_enter Tryd.func13, Tryd.ntmps13
    go_wp2_with fail
    go_ret
    exact ⟨by rw [HE.out]; rfl, rfl⟩
  · have d1 : ¬ (s.size : Int) < 43 := by omega
    by_cases h2 : 128 < s.size
    · have HE := Lib.hid (HX.out.symm.trans (valB_long h2))
      have d2 : (128 : Int) < (s.size : Int) := by omega
      go_enter Tryd.func13, Tryd.ntmps13
      go_wp2_with fail
      go_ret
      exact ⟨by rw [HE.out]; rfl, rfl⟩
    · have d2 : ¬ (128 : Int) < (s.size : Int) := by omega
      go_enter Tryd.func13, Tryd.ntmps13
      go_wp2_with fail
      go_loopw [14] (fun iv wr => ∃ k : Nat, k ≤ s.size ∧ iv = .int .i64 k ∧ Hid (∀ j, j < k → vbI (bt s j) = true) ∧ wr = w) (fun iv _ => s.size - (intOf iv).toNat)
      case atStart => exact ⟨0, Nat.zero_le _, rfl, Lib.hid fun j hj => absurd hj (Nat.not_lt_zero _), rfl⟩
      case round =>
        obtain ⟨k, hk, rfl, HA, rfl⟩ := hrel
        by_cases hlt : k < s.size
        · have dk : (k : Int) < (s.size : Int) := by omega
          cases c1 : vbI (bt s k)
          · have HE := Lib.hid (HX.out.symm.trans (valB_bad hlt c1))
            have HC := Lib.hid c1
            clear c1
            go_wp2_with fail
            refine (vbyte_k _ false _ (bt_nonneg _ _) (bt_le _ _) HC.out).mono ?_
            rintro e w' ⟨rfl, rfl⟩
            go_wp2_with fail
            go_ret
            exact ⟨by rw [HE.out]; rfl, rfl⟩
          · have HN := Lib.hid (all_next HA.out c1)
            have HC := Lib.hid c1
            clear c1
            go_wp2_with fail
            refine (vbyte_k _ true _ (bt_nonneg _ _) (bt_le _ _) HC.out).mono ?_
            rintro e w' ⟨rfl, rfl⟩
            go_wp2_with fail
            go_roundw
            case rel => exact ⟨k + 1, by omega, by go_num, HN, (by first | trivial | rfl)⟩
            case measure => simp [intOf]; omega
        · have HE := Lib.hid (HX.out.symm.trans (valB_good (s := s) (by omega) (by omega) fun j hj => HA.out j (by omega)))
          have dk : ¬ (k : Int) < (s.size : Int) := by omega
          go_wp2_with fail
          go_ret
          exact ⟨by rw [HE.out]; rfl, rfl⟩
/-! ### the specification's -/
set_option maxHeartbeats 4000000 in
theorem letter_k (c : Int) (x : Bool) (w : World) (h0 : 0 ≤ c) (h1 : c ≤ 255) (hx : (ltrI c || dgtI c) = x) :
    Calls Tryd.prog 32 #[.int .u8 c] w fun e w' => e = .returned (.bool x) ∧ w = w' := by
  rw [(vb_zone c).1, (vb_zone c).2] at hx
  by_cases a1 : 65 ≤ c <;> by_cases a2 : c ≤ 90 <;> by_cases a3 : 97 ≤ c <;> by_cases a4 : c ≤ 122 <;> by_cases a5 : 48 ≤ c <;> by_cases a6 : c ≤ 57
  all_goals first
    | (exfalso; omega)
    | (simp only [a1, a2, a3, a4, a5, a6, decide_true, decide_false, Bool.and_true, Bool.and_false, Bool.true_and, Bool.false_and, Bool.or_true, Bool.or_false, Bool.true_or, Bool.false_or] at hx
       subst hx
       clear h0 h1
       go_enter Tryd.func32, Tryd.ntmps32
       go_wp2_with fail
       go_ret
       exact ⟨rfl, rfl⟩)
/-- a byte that is one of some, or none -/
theorem rvb_cases (c : Int) : (vbI c = false ∧ (ltrI c || dgtI c) = false ∧ (c != 45) = true ∧ (c != 46) = true ∧ (c != 95) = true ∧ (c != 126) = true) ∨
    (vbI c = true ∧ ((ltrI c || dgtI c) = true ∨ ((ltrI c || dgtI c) = false ∧ (c != 45) = false) ∨ ((ltrI c || dgtI c) = false ∧ (c != 45) = true ∧ (c != 46) = false) ∨ ((ltrI c || dgtI c) = false ∧ (c != 45) = true ∧ (c != 46) = true ∧ (c != 95) = false) ∨
      ((ltrI c || dgtI c) = false ∧ (c != 45) = true ∧ (c != 46) = true ∧ (c != 95) = true ∧ (c != 126) = false))) := by
  unfold vbI bne
  cases ltrI c <;> cases dgtI c <;> cases (c == 45) <;> cases (c == 46) <;> cases (c == 95) <;> cases (c == 126) <;> simp
theorem rpl_cases (c : Int) : (plP c = false ∧ (ltrI c || dgtI c) = false ∧ (c != 45) = true ∧ (c != 95) = true ∧ (c != 58) = true) ∨
    (plP c = true ∧ ((ltrI c || dgtI c) = true ∨ ((ltrI c || dgtI c) = false ∧ (c != 45) = false) ∨ ((ltrI c || dgtI c) = false ∧ (c != 45) = true ∧ (c != 95) = false) ∨ ((ltrI c || dgtI c) = false ∧ (c != 45) = true ∧ (c != 95) = true ∧ (c != 58) = false))) := by
  unfold plP bne
  cases ltrI c <;> cases dgtI c <;> cases (c == 45) <;> cases (c == 95) <;> cases (c == 58) <;> simp
set_option maxHeartbeats 4000000 in
theorem rvalid_k (s : ByteArray) (x : Bool) (w : World) (hs : s.size ≤ 1000000000) (hx : valB s = x) :
    Calls Tryd.prog 14 #[.string s] w fun e w' => e = .returned (.bool x) ∧ w = w' := by
  have HX := Lib.hid hx
  clear hx
  have hb := get_bt s
  go_enter Tryd.func14, Tryd.ntmps14
  go_wp2_with fail
  go_loopw [3] (fun iv wr => ∃ k : Nat, k ≤ s.size ∧ iv = .int .i64 k ∧ Hid (∀ j, j < k → vbI (bt s j) = true) ∧ wr = w) (fun iv _ => s.size - (intOf iv).toNat)
  case atStart => exact ⟨0, Nat.zero_le _, rfl, Lib.hid fun j hj => absurd hj (Nat.not_lt_zero _), rfl⟩
  case round =>
    obtain ⟨k, hk, rfl, HA, rfl⟩ := hrel
    by_cases hlt : k < s.size
    · have dk : (k : Int) < (s.size : Int) := by omega
      rcases rvb_cases (bt s k) with ⟨c0, c1, c2, c3, c4, c5⟩ | ⟨c0, hex⟩
      · have HE := Lib.hid (HX.out.symm.trans (valB_bad hlt c0))
        have HC := Lib.hid c1
        clear c0 c1
        go_wp2_with fail
        refine (letter_k _ false _ (bt_nonneg _ _) (bt_le _ _) HC.out).mono ?_
        rintro e w' ⟨rfl, rfl⟩
        go_wp2_with fail
        go_ret
        exact ⟨by rw [HE.out]; rfl, rfl⟩
      · have HN := Lib.hid (all_next HA.out c0)
        clear c0
        rcases hex with c1 | ⟨c1, c2⟩ | ⟨c1, c2, c3⟩ | ⟨c1, c2, c3, c4⟩ | ⟨c1, c2, c3, c4, c5⟩
        all_goals
          have HC := Lib.hid c1
          clear c1
          go_wp2_with fail
          refine (letter_k _ _ _ (bt_nonneg _ _) (bt_le _ _) HC.out).mono ?_
          rintro e w' ⟨rfl, rfl⟩
          go_wp2_with fail
          go_roundw
          case rel => exact ⟨k + 1, by omega, by go_num, HN, (by first | trivial | rfl)⟩
          case measure => simp [intOf]; omega
    · have HB := Lib.hid (HX.out.symm.trans (valB_end (s := s) fun j hj => HA.out j (by omega)))
      have dk : ¬ (k : Int) < (s.size : Int) := by omega
      by_cases h1 : 43 ≤ s.size <;> by_cases h2 : s.size ≤ 128
      · have d1 : decide ((43 : Int) ≤ (s.size : Int)) = true := decide_eq_true (by omega)
        have d2 : decide ((s.size : Int) ≤ 128) = true := decide_eq_true (by omega)
        have HE := Lib.hid (HB.out.trans (by rw [decide_eq_true h1, decide_eq_true h2] : _ = (true && true)))
        go_wp2_with fail
        go_ret
        exact ⟨by rw [HE.out]; rfl, rfl⟩
      · have d1 : decide ((43 : Int) ≤ (s.size : Int)) = true := decide_eq_true (by omega)
        have d2 : decide ((s.size : Int) ≤ 128) = false := decide_eq_false (by omega)
        have HE := Lib.hid (HB.out.trans (by rw [decide_eq_true h1, decide_eq_false h2] : _ = (true && false)))
        go_wp2_with fail
        go_ret
        exact ⟨by rw [HE.out]; rfl, rfl⟩
      · have d1 : decide ((43 : Int) ≤ (s.size : Int)) = false := decide_eq_false (by omega)
        have HE := Lib.hid (HB.out.trans (by rw [decide_eq_false h1] : _ = (false && decide (s.size ≤ 128))))
        go_wp2_with fail
        go_ret
        exact ⟨by rw [HE.out]; rfl, rfl⟩
      · have d1 : decide ((43 : Int) ≤ (s.size : Int)) = false := decide_eq_false (by omega)
        have HE := Lib.hid (HB.out.trans (by rw [decide_eq_false h1] : _ = (false && decide (s.size ≤ 128))))
        go_wp2_with fail
        go_ret
        exact ⟨by rw [HE.out]; rfl, rfl⟩
set_option maxHeartbeats 4000000 in
theorem rplain_k (s : ByteArray) (x : Bool) (w : World) (hs : s.size ≤ 1000000000) (hx : plB s = x) :
    Calls Tryd.prog 44 #[.string s] w fun e w' => e = .returned (.bool x) ∧ w = w' := by
  have HX := Lib.hid hx
  clear hx
  have hb := get_bt s
  go_enter Tryd.func44, Tryd.ntmps44
  go_wp2_with fail
  go_loopw [3] (fun iv wr => ∃ k : Nat, k ≤ s.size ∧ iv = .int .i64 k ∧ Hid (∀ j, j < k → plP (bt s j) = true) ∧ wr = w) (fun iv _ => s.size - (intOf iv).toNat)
  case atStart => exact ⟨0, Nat.zero_le _, rfl, Lib.hid fun j hj => absurd hj (Nat.not_lt_zero _), rfl⟩
  case round =>
    obtain ⟨k, hk, rfl, HA, rfl⟩ := hrel
    by_cases hlt : k < s.size
    · have dk : (k : Int) < (s.size : Int) := by omega
      rcases rpl_cases (bt s k) with ⟨c0, c1, c2, c3, c4⟩ | ⟨c0, hex⟩
      · have HE := Lib.hid (HX.out.symm.trans (plB_bad hlt c0))
        have HC := Lib.hid c1
        clear c0 c1
        go_wp2_with fail
        refine (letter_k _ false _ (bt_nonneg _ _) (bt_le _ _) HC.out).mono ?_
        rintro e w' ⟨rfl, rfl⟩
        go_wp2_with fail
        go_ret
        exact ⟨by rw [HE.out]; rfl, rfl⟩
      · have HN := Lib.hid (all_next HA.out c0)
        clear c0
        rcases hex with c1 | ⟨c1, c2⟩ | ⟨c1, c2, c3⟩ | ⟨c1, c2, c3, c4⟩
        all_goals
          have HC := Lib.hid c1
          clear c1
          go_wp2_with fail
          refine (letter_k _ _ _ (bt_nonneg _ _) (bt_le _ _) HC.out).mono ?_
          rintro e w' ⟨rfl, rfl⟩
          go_wp2_with fail
          go_roundw
          case rel => exact ⟨k + 1, by omega, by go_num, HN, (by first | trivial | rfl)⟩
          case measure => simp [intOf]; omega
    · have HB := Lib.hid (HX.out.symm.trans (plB_end (s := s) fun j hj => HA.out j (by omega)))
      have dk : ¬ (k : Int) < (s.size : Int) := by omega
      by_cases h1 : 1 ≤ s.size <;> by_cases h2 : s.size ≤ 64
      · have d1 : decide ((1 : Int) ≤ (s.size : Int)) = true := decide_eq_true (by omega)
        have d2 : decide ((s.size : Int) ≤ 64) = true := decide_eq_true (by omega)
        have HE := Lib.hid (HB.out.trans (by rw [decide_eq_true h1, decide_eq_true h2] : _ = (true && true)))
        go_wp2_with fail
        go_ret
        exact ⟨by rw [HE.out]; rfl, rfl⟩
      · have d1 : decide ((1 : Int) ≤ (s.size : Int)) = true := decide_eq_true (by omega)
        have d2 : decide ((s.size : Int) ≤ 64) = false := decide_eq_false (by omega)
        have HE := Lib.hid (HB.out.trans (by rw [decide_eq_true h1, decide_eq_false h2] : _ = (true && false)))
        go_wp2_with fail
        go_ret
        exact ⟨by rw [HE.out]; rfl, rfl⟩
      · have d1 : decide ((1 : Int) ≤ (s.size : Int)) = false := decide_eq_false (by omega)
        have HE := Lib.hid (HB.out.trans (by rw [decide_eq_false h1] : _ = (false && decide (s.size ≤ 64))))
        go_wp2_with fail
        go_ret
        exact ⟨by rw [HE.out]; rfl, rfl⟩
      · have d1 : decide ((1 : Int) ≤ (s.size : Int)) = false := decide_eq_false (by omega)
        have HE := Lib.hid (HB.out.trans (by rw [decide_eq_false h1] : _ = (false && decide (s.size ≤ 64))))
        go_wp2_with fail
        go_ret
        exact ⟨by rw [HE.out]; rfl, rfl⟩
/-! ### plain words of the program -/
theorem word_k (s : ByteArray) (x : Bool) (w : World) (hs : s.size ≤ 1000000000) (hx : wordB s = x) :
    Calls Tryd.prog 21 #[.string s] w fun e w' => e = .returned (.bool x) ∧ w = w' := hx ▸ word_s s w hs
theorem con_k (s : ByteArray) (x : Bool) (w : World) (hs : s.size ≤ 1000000000) (ho : MaxOk w) (hx : Lib.contains s.data.toList [46] = x) :
    Calls Tryd.prog 61 #[.string s, .string ⟨#[46]⟩] w fun e w' => e = .returned (.bool x) ∧ w = w' := by
  obtain ⟨m, hm⟩ := ho
  subst hx
  exact (Tryd.strings_Contains s ⟨#[46]⟩ m w (by omega) hm).mono fun e w' h => ⟨h.1, h.2.symm⟩
theorem plain_k (s : ByteArray) (x : Bool) (w : World) (hs : s.size ≤ 1000000000) (ho : MaxOk w) (hx : plB s = x) :
    Calls Tryd.prog 41 #[.string s] w fun e w' => e = .returned (.bool x) ∧ w = w' := by
  rw [plB_is] at hx
  have HO := Lib.hid ho
  cases hw : wordB s with
  | false =>
    rw [hw] at hx
    have HW := Lib.hid hw
    have HX := Lib.hid (show x = false by rw [← hx]; rfl)
    clear hx hw ho
    go_enter Tryd.func41, Tryd.ntmps41
    go_wp2_with fail
    refine (word_k s false _ hs HW.out).mono ?_
    rintro e w' ⟨rfl, rfl⟩
    go_wp2_with fail
    go_ret
    exact ⟨by rw [HX.out]; rfl, rfl⟩
  | true =>
    rw [hw] at hx
    have HW := Lib.hid hw
    obtain ⟨y, hy⟩ : ∃ y, Lib.contains s.data.toList [46] = y := ⟨_, rfl⟩
    rw [hy] at hx
    have HY := Lib.hid hy
    have HX := Lib.hid (show x = !y by rw [← hx]; rfl)
    clear hx hw ho hy
    go_enter Tryd.func41, Tryd.ntmps41
    go_wp2_with fail
    refine (word_k s true _ hs HW.out).mono ?_
    rintro e w' ⟨rfl, rfl⟩
    go_wp2_with fail
    refine (con_k s y _ hs HO.out HY.out).mono ?_
    rintro e w' ⟨rfl, rfl⟩
    go_wp2_with fail
    go_ret
    exact ⟨by rw [HX.out]; rfl, rfl⟩
end Go.Proofs.YtbogmmdmfbcbnaaDoor
