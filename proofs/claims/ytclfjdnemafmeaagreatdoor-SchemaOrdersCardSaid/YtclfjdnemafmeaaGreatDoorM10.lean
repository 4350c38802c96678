/-
  Texts of the schema layer and of those beneath it, joined: CodecRInt, CodecRInt2, NamL, NamP. Conditions stand at each contract.
-/
import Derived.Lib.ItoaLen
import Derived.Test.YtclfjdnemafmeaaGreatDoorM01
import Derived.Test.YtclfjdnemafmeaaGreatDoorM02
import Derived.Test.YtclfjdnemafmeaaGreatDoorM08
import Derived.Test.YtclfjdnemafmeaaGreatDoorM09

section
/-
  Contracts of the specification's decimal, ReadInt and Int. Condition: at most 1000000000 bytes; an int.
-/
set_option maxRecDepth 100000
set_option linter.unusedVariables false
set_option linter.unusedSimpArgs false
set_option linter.unnecessarySimpa false
namespace Go.Proofs.YtclfjdnemafmeaaGreatDoor
open Go.RowKit Go.PlainAid

theorem all_get {t : ByteArray} (h : t.data.toList.all digB = true) (j : Nat) (hj : j < t.size) : 48 ≤ bt t j ∧ bt t j ≤ 57 := by
  have hm : chr t j ∈ t.data.toList := by
    unfold chr
    rw [List.getD_eq_getElem?_getD, List.getElem?_eq_getElem (by simpa using hj)]
    exact List.getElem_mem _
  have := digB_bounds (List.all_eq_true.1 h _ hm)
  rw [bt_chr]; omega
theorem get_all {t : ByteArray} (h : ∀ j, j < t.size → digB (chr t j) = true) : t.data.toList.all digB = true := by
  rw [List.all_eq_true]
  intro c hc
  obtain ⟨j, hj, rfl⟩ := List.getElem_of_mem hc
  have := h j (by simpa using hj)
  unfold chr at this
  rw [List.getD_eq_getElem?_getD, List.getElem?_eq_getElem hj] at this
  exact this
theorem all_bad {t : ByteArray} (j : Nat) (h : j < t.size) (hd : digB (chr t j) = false) : t.data.toList.all digB = false := by
  rw [List.all_eq_false]
  refine ⟨chr t j, ?_, by rw [hd]; simp⟩
  unfold chr
  rw [List.getD_eq_getElem?_getD, List.getElem?_eq_getElem (by simpa using h)]
  exact List.getElem_mem _
theorem digs_other {t : ByteArray} (h0 : t.size ≠ 0) (h1 : chr t 0 ≠ 48) : digsB t.data.toList = t.data.toList.all digB := by
  unfold chr at h1
  cases e : t.data.toList with
  | nil => exact absurd (show t.size = 0 by rw [Lib.size_eq, e]; rfl) h0
  | cons c r =>
    rw [e] at h1
    unfold digsB
    have : (c == 48) = false := by simpa using h1
    dsimp only
    rw [this]; rfl

set_option maxRecDepth 100000 in
set_option maxHeartbeats 4000000 in
theorem rdecimal_s (t : ByteArray) (z r : Bool) (w : World) (hs : t.size ≤ 1000000000) (hr : (digsB t.data.toList || (z && decide (t.data.toList = [48]))) = r) :
    Calls Tryz.prog 137 #[.string t, .bool z] w fun e w' => e = .returned (.bool r) ∧ w = w' := by
  have HR := Lib.hid hr; clear hr
  have hb := get_bt t
  by_cases h0 : t.size = 0
  · have HF := Lib.hid (show r = false by
      rw [← HR.out, List.length_eq_zero_iff.1 (show t.data.toList.length = 0 by rw [← Lib.size_eq]; exact h0)]; cases z <;> rfl)
    have e0 : ((t.size : Int) == 0) = true := beq_iff_eq.2 (by omega)
    go_enter Tryz.func137, Tryz.ntmps137
    go_wp2
    go_ret
    exact ⟨by rw [HF.out]; rfl, rfl⟩
  · have hpos : 0 < t.size := by omega
    have e0 : ((t.size : Int) == 0) = false := beq_false_of_ne (by omega)
    have h00 := bt_nonneg t 0
    have hone : t.data.toList = [48] ↔ chr t 0 = 48 ∧ t.size = 1 := by
      rw [Lib.size_eq]; unfold chr
      cases e : t.data.toList with
      | nil => simp
      | cons c l => cases l <;> simp
    by_cases hg : chr t 0 = 48 ∧ (1 < t.size ∨ z = false)
    · have h3 : (bt t 0 == 48) = true := by rw [bt_chr, hg.1]; rfl
      have HF := Lib.hid (show r = false by
        rw [← HR.out, digs_zero hg.1, Bool.false_or]
        rcases hg.2 with k | k
        · rw [decide_eq_false (fun e => by have := (hone.1 e).2; omega), Bool.and_false]
        · rw [k]; rfl)
      rcases hg.2 with k | rfl
      · have g1 : (1 : Int) < (t.size : Int) := by omega
        clear hg hone
        go_enter Tryz.func137, Tryz.ntmps137
        go_wp2
        go_ret
        exact ⟨by rw [HF.out]; rfl, rfl⟩
      · clear hg hone
        by_cases k : 1 < t.size
        · have g1 : (1 : Int) < (t.size : Int) := by omega
          go_enter Tryz.func137, Tryz.ntmps137
          go_wp2
          go_ret
          exact ⟨by rw [HF.out]; rfl, rfl⟩
        · have g1 : ¬ (1 : Int) < (t.size : Int) := by omega
          go_enter Tryz.func137, Tryz.ntmps137
          go_wp2
          go_ret
          exact ⟨by rw [HF.out]; rfl, rfl⟩
    · have HE : Hid (r = t.data.toList.all digB) := Lib.hid (by
        rw [← HR.out]
        by_cases k : chr t 0 = 48
        · have k1 : t.size = 1 := by
            rcases Nat.lt_or_ge 1 t.size with x | x
            · exact absurd ⟨k, .inl x⟩ hg
            · omega
          have k2 : z = true := by
            cases z
            · exact absurd ⟨k, .inr rfl⟩ hg
            · rfl
          rw [k2, hone.2 ⟨k, k1⟩]; decide
        · rw [digs_other (by omega) k, decide_eq_false (fun e => k (hone.1 e).1), Bool.and_false, Bool.or_false])
      rcases (show (bt t 0 == 48) = false ∨ ((bt t 0 == 48) = true ∧ ¬ (1 : Int) < (t.size : Int) ∧ z = true) by
        by_cases k : chr t 0 = 48
        · refine .inr ⟨by rw [bt_chr, k]; rfl, ?_, ?_⟩
          · intro x; exact hg ⟨k, .inl (by omega)⟩
          · cases z
            · exact absurd ⟨k, .inr rfl⟩ hg
            · rfl
        · refine .inl (beq_false_of_ne fun e => k ?_)
          rw [bt_chr] at e
          have h4 : (48 : UInt8).toNat = 48 := rfl
          exact UInt8.toNat_inj.1 (by omega)) with h3 | ⟨h3, g1, rfl⟩
      all_goals
        clear hg hone
        go_enter Tryz.func137, Tryz.ntmps137
        go_wp2
        go_loop [5] (fun i => ∃ k : Nat, k ≤ t.size ∧ i = .int .i64 k ∧ Hid (∀ j, j < k → digB (chr t j) = true)) (fun i => t.size - (intOf i).toNat)
        case atStart => exact ⟨0, Nat.zero_le _, rfl, Lib.hid fun j hj => absurd hj (Nat.not_lt_zero _)⟩
        case round =>
          obtain ⟨k, hk, rfl, HA⟩ := hrel
          by_cases hlt : k < t.size
          · have hk0 := bt_nonneg t k
            by_cases d1 : 48 ≤ bt t k
            · by_cases d2 : bt t k ≤ 57
              · have HD := Lib.hid (show digB (chr t k) = true by
                  have := bt_chr t k
                  unfold digB; simp; omega)
                go_wp2
                go_round
                case rel => exact ⟨k + 1, by omega, by go_num, Lib.hid fun j hj => if e : j = k then by rw [e]; exact HD.out else HA.out j (by omega)⟩
                case measure => simp [intOf]; omega
              · have HF := Lib.hid (show r = false by
                  rw [HE.out]; refine all_bad k hlt ?_
                  have := bt_chr t k
                  unfold digB; simp; omega)
                have d3 : 57 < bt t k := by omega
                go_wp2
                go_ret
                exact ⟨by rw [HF.out]; rfl, rfl⟩
            · have HF := Lib.hid (show r = false by
                rw [HE.out]; refine all_bad k hlt ?_
                have := bt_chr t k
                unfold digB; simp; omega)
              have d3 : bt t k < 48 := by omega
              go_wp2
              go_ret
              exact ⟨by rw [HF.out]; rfl, rfl⟩
          · have HF := Lib.hid (show r = true by
              rw [HE.out]; exact get_all fun j hj => HA.out j (by omega))
            go_wp2
            go_ret
            exact ⟨by rw [HF.out]; rfl, rfl⟩

/-- the digits read so far -/
theorem val_step (t : ByteArray) (k : Nat) (h : k < t.size) : valD (t.data.toList.take (k + 1)) = 10 * valD (t.data.toList.take k) + ((chr t k).toNat - 48) := by
  have e : t.data.toList.take (k + 1) = t.data.toList.take k ++ [chr t k] := by
    unfold chr
    rw [List.take_add_one, List.getD_eq_getElem?_getD, List.getElem?_eq_getElem (by simpa using h)]; rfl
  rw [e, valD_snoc]
theorem quo_fact (d : Int) (h0 : 0 ≤ d) (h1 : d ≤ 9) : (-9223372036854775808 + d).tdiv 10 = -((9223372036854775808 - d) / 10) := by
  rw [show (-9223372036854775808 + d) = -(9223372036854775808 - d) by omega, Int.neg_tdiv, Int.tdiv_eq_ediv_of_nonneg (by omega)]

set_option maxRecDepth 100000 in
set_option maxHeartbeats 8000000 in
theorem rreadInt_s (s : ByteArray) (w : World) (hs : s.size ≤ 1000000000) :
    Calls Tryz.prog 100 #[.string s] w fun e w' => e = .returned (.tuple #[.int .i64 (readI s.data.toList).1, .int .i64 (readI s.data.toList).2]) ∧ w = w' := by
  have hbs := get_bt s
  by_cases h0 : s.size = 0
  · have HE := Lib.hid (show readI s.data.toList = (0, 4) by
      rw [List.length_eq_zero_iff.1 (show s.data.toList.length = 0 by rw [← Lib.size_eq]; exact h0)]; decide)
    have hn : s.data.toList = [] := List.length_eq_zero_iff.1 (show s.data.toList.length = 0 by rw [← Lib.size_eq]; exact h0)
    have e0 : ¬ (0 : Int) < (s.size : Int) := by omega
    have HN := Lib.hid hn; clear hn
    go_enter Tryz.func100, Tryz.ntmps100
    go_wp2_with fail
    refine (rdecimal_s s true false _ hs (by rw [HN.out]; rfl)).mono ?_
    rintro e w' ⟨rfl, rfl⟩
    go_wp2
    go_ret2
    exact ⟨by rw [HE.out]; rfl, rfl⟩
  · have hpos : 0 < s.size := by omega
    have e0 : (0 : Int) < (s.size : Int) := by omega
    have h00 := bt_nonneg s 0
    by_cases h2 : chr s 0 = 45
    · have h3 : (bt s 0 == 45) = true := by rw [bt_chr, h2]; rfl
      obtain ⟨t, ht⟩ : ∃ t, t = s.extract 1 s.size := ⟨_, rfl⟩
      have hdt : s.data.toList = 45 :: t.data.toList := by
        have := drop_chr s 0 hpos
        rw [List.drop_zero, h2] at this
        rw [this, ht, Lib.extract_from]
      have hts : t.size + 1 = s.size := by rw [Lib.size_eq s, hdt, List.length_cons, ← Lib.size_eq]
      have HD := Lib.hid hdt; clear hdt h2
      cases hd : digsB t.data.toList
      · have HE := Lib.hid (show readI s.data.toList = (0, 4) by rw [HD.out]; exact readI_bad (by rw [dec_minus, hd]))
        go_enter Tryz.func100, Tryz.ntmps100
        go_wp2_with fail
        rw [← ht]
        refine (rdecimal_s t false false _ (by omega) (by rw [hd]; rfl)).mono ?_
        rintro e w' ⟨rfl, rfl⟩
        go_wp2
        go_ret2
        exact ⟨by rw [HE.out]; rfl, rfl⟩
      · have HE := Lib.hid (show readI s.data.toList = if valD t.data.toList ≤ 9223372036854775808 then (-(valD t.data.toList : Int), 0) else (0, 27) by rw [HD.out]; exact readI_minus hd)
        have HA := Lib.hid (digs_parts hd).2
        have HDT := Lib.hid hd
        have hb := get_bt t
        go_enter Tryz.func100, Tryz.ntmps100
        go_wp2_with fail
        rw [← ht]
        refine (rdecimal_s t false true _ (by omega) (by rw [HDT.out]; rfl)).mono ?_
        rintro e w' ⟨rfl, rfl⟩
        clear ht hd
        go_wp2_with fail
        go_loop [7, 8] (fun n i => ∃ k m : Nat, k ≤ t.size ∧ i = .int .i64 k ∧ n = .int .i64 (-(m : Int)) ∧ m ≤ 9223372036854775808 ∧ Hid (valD (t.data.toList.take k) = m)) (fun _ i => t.size - (intOf i).toNat)
        case atStart => exact ⟨0, 0, Nat.zero_le _, rfl, rfl, by omega, Lib.hid rfl⟩
        case round =>
          obtain ⟨k, m, hk, rfl, rfl, hm, HV⟩ := hrel
          by_cases hlt : k < t.size
          · obtain ⟨d1, d2⟩ := all_get HA.out k hlt
            have HC := Lib.hid (bt_chr t k)
            have HS := Lib.hid (val_step t k hlt)
            have hq := quo_fact (bt t k - 48) (by omega) (by omega)
            by_cases hr : 10 * (m : Int) + (bt t k - 48) ≤ 9223372036854775808
            · have hn : ¬ (-(m : Int)) < -((9223372036854775808 - (bt t k - 48)) / 10) := by omega
              go_wp2
              go_round
              case rel => exact ⟨k + 1, 10 * m + ((chr t k).toNat - 48), by omega, by go_num, by congr 1; have := HC.out; omega, by have := HC.out; omega, Lib.hid (by rw [HS.out, HV.out])⟩
              case measure => simp [intOf]; omega
            · have hn : (-(m : Int)) < -((9223372036854775808 - (bt t k - 48)) / 10) := by omega
              have HF := Lib.hid (show readI s.data.toList = (0, 27) by
                have h1 := valD_take_le t.data.toList (k + 1)
                rw [HS.out, HV.out] at h1
                rw [HE.out, if_neg]
                have := HC.out; omega)
              go_wp2
              go_ret2
              exact ⟨by rw [HF.out]; rfl, rfl⟩
          · have HF := Lib.hid (show readI s.data.toList = (-(m : Int), 0) by
              have hT : t.data.toList.take k = t.data.toList := List.take_of_length_le (by rw [← Lib.size_eq]; omega)
              have h1 := HV.out
              rw [hT] at h1
              rw [HE.out, h1, if_pos hm])
            go_wp2
            go_ret2
            exact ⟨by rw [HF.out]; rfl, rfl⟩
    · have h3 : (bt s 0 == 45) = false := by
        refine beq_false_of_ne fun e => h2 ?_
        rw [bt_chr] at e
        have h4 : (45 : UInt8).toNat = 45 := rfl
        exact UInt8.toNat_inj.1 (by omega)
      have hdec : decB s.data.toList = (digsB s.data.toList || (true && decide (s.data.toList = [48]))) := by
        have hst : stripL s.data.toList = s.data.toList := by
          have := drop_chr s 0 hpos
          rw [List.drop_zero] at this
          rw [this]
          exact strip_plain _ _ h2
        unfold decB
        rw [hst, Bool.true_and, Bool.or_comm]
      clear h2
      have HDE := Lib.hid hdec
      cases hd : decB s.data.toList
      · have HE := Lib.hid (show readI s.data.toList = (0, 4) from readI_bad hd)
        have HK := Lib.hid (hdec.symm.trans hd)
        clear hd hdec
        go_enter Tryz.func100, Tryz.ntmps100
        go_wp2_with fail
        refine (rdecimal_s s true false _ hs HK.out).mono ?_
        rintro e w' ⟨rfl, rfl⟩
        go_wp2
        go_ret2
        exact ⟨by rw [HE.out]; rfl, rfl⟩
      · have hd2 : digsB s.data.toList = true ∨ s.data.toList = [48] := by
          rw [hd] at hdec
          have := hdec.symm
          rw [Bool.or_eq_true, Bool.true_and, decide_eq_true_iff] at this
          exact this
        have HE := Lib.hid (show readI s.data.toList = if valD s.data.toList < 9223372036854775808 then ((valD s.data.toList : Int), 0) else (0, 27) by
          rcases hd2 with k | k
          · exact readI_plain k
          · rw [k]; decide)
        have HA := Lib.hid (show s.data.toList.all digB = true by
          rcases hd2 with k | k
          · exact (digs_parts k).2
          · rw [k]; decide)
        have HK := Lib.hid (hdec.symm.trans hd)
        clear hd hdec hd2
        go_enter Tryz.func100, Tryz.ntmps100
        go_wp2_with fail
        refine (rdecimal_s s true true _ hs HK.out).mono ?_
        rintro e w' ⟨rfl, rfl⟩
        go_wp2_with fail
        go_loop [7, 8] (fun n i => ∃ k m : Nat, k ≤ s.size ∧ i = .int .i64 k ∧ n = .int .i64 (-(m : Int)) ∧ m ≤ 9223372036854775808 ∧ Hid (valD (s.data.toList.take k) = m)) (fun _ i => s.size - (intOf i).toNat)
        case atStart => exact ⟨0, 0, Nat.zero_le _, rfl, rfl, by omega, Lib.hid rfl⟩
        case round =>
          obtain ⟨k, m, hk, rfl, rfl, hm, HV⟩ := hrel
          by_cases hlt : k < s.size
          · obtain ⟨d1, d2⟩ := all_get HA.out k hlt
            have HC := Lib.hid (bt_chr s k)
            have HS := Lib.hid (val_step s k hlt)
            have hq := quo_fact (bt s k - 48) (by omega) (by omega)
            by_cases hr : 10 * (m : Int) + (bt s k - 48) ≤ 9223372036854775808
            · have hn : ¬ (-(m : Int)) < -((9223372036854775808 - (bt s k - 48)) / 10) := by omega
              go_wp2
              go_round
              case rel => exact ⟨k + 1, 10 * m + ((chr s k).toNat - 48), by omega, by go_num, by congr 1; have := HC.out; omega, by have := HC.out; omega, Lib.hid (by rw [HS.out, HV.out])⟩
              case measure => simp [intOf]; omega
            · have hn : (-(m : Int)) < -((9223372036854775808 - (bt s k - 48)) / 10) := by omega
              have HF := Lib.hid (show readI s.data.toList = (0, 27) by
                have h1 := valD_take_le s.data.toList (k + 1)
                rw [HS.out, HV.out] at h1
                rw [HE.out, if_neg]
                have := HC.out; omega)
              go_wp2
              go_ret2
              exact ⟨by rw [HF.out]; rfl, rfl⟩
          · have hT : s.data.toList.take k = s.data.toList := List.take_of_length_le (by rw [← Lib.size_eq]; omega)
            have h1 := HV.out
            rw [hT] at h1
            have H1 := Lib.hid h1
            clear h1 hT
            by_cases hm2 : m = 9223372036854775808
            · have HF := Lib.hid (show readI s.data.toList = (0, 27) by rw [HE.out, H1.out, if_neg (by omega)])
              have hl : ((-(m : Int)) == -9223372036854775808) = true := beq_iff_eq.2 (by omega)
              go_wp2
              go_ret2
              exact ⟨by rw [HF.out]; rfl, rfl⟩
            · have HF := Lib.hid (show readI s.data.toList = ((m : Int), 0) by rw [HE.out, H1.out, if_pos (by omega)])
              have hl : ((-(m : Int)) == -9223372036854775808) = false := beq_false_of_ne (by omega)
              go_wp2
              go_ret2
              exact ⟨by rw [HF.out]; rfl, rfl⟩

end Go.Proofs.YtclfjdnemafmeaaGreatDoor
end

section
/-
  Contract of the specification's Int. Condition: an int.
-/
set_option maxRecDepth 100000
set_option linter.unusedVariables false
set_option linter.unusedSimpArgs false
set_option linter.unnecessarySimpa false
namespace Go.Proofs.YtclfjdnemafmeaaGreatDoor
open Go.RowKit Go.PlainAid

/-- u digits left in front of what is written -/
def IntAt (u0 u : Nat) (o : List UInt8) : Prop := (u = 0 ∧ o = Lib.decDigits u0) ∨ (1 ≤ u ∧ Lib.decDigits u ++ o = Lib.decDigits u0)
theorem intAt_start (u0 : Nat) (h : 1 ≤ u0) : IntAt u0 u0 [] := .inr ⟨h, by simp⟩
theorem intAt_step {u0 u : Nat} {o : List UInt8} (h : IntAt u0 u o) (h1 : 1 ≤ u) : IntAt u0 (u / 10) (UInt8.ofNat (48 + u % 10) :: o) := by
  rcases h with ⟨h2, _⟩ | ⟨_, h2⟩
  · omega
  · by_cases h3 : u < 10
    · rw [Lib.decDigits, dif_pos h3] at h2
      refine .inl ⟨by omega, ?_⟩
      rw [show u % 10 = u by omega]; exact h2
    · rw [Lib.decDigits, dif_neg h3] at h2
      refine .inr ⟨by omega, ?_⟩
      rw [← h2, List.append_assoc]; rfl
theorem intAt_end {u0 : Nat} {o : List UInt8} (h : IntAt u0 0 o) : o = Lib.decDigits u0 := by
  rcases h with ⟨_, h⟩ | ⟨h, _⟩
  · exact h
  · omega
theorem intAt_len {u0 u : Nat} {o : List UInt8} (h : IntAt u0 u o) (hu : u0 < 18446744073709551616) : o.length ≤ 20 := by
  have h2 := Lib.nDigits_le20 u0 hu
  rw [← Lib.decDigits_length] at h2
  rcases h with ⟨_, h⟩ | ⟨_, h⟩
  · rw [h]; exact h2
  · have := congrArg List.length h
    rw [List.length_append] at this
    omega
theorem one_back (wr : World) (b : UInt8) (c : Int) (hc : c = (b.toNat : Int)) :
    (convert 95 9 (.slice (some ⟨wr.heap.size, 0, none⟩) 1 1)).run Tryz.prog (wr.alloc (.cells #[.int .u8 c] 5)) = .ok (.string ⟨#[b]⟩) (wr.alloc (.cells #[.int .u8 c] 5)) := by
  subst hc
  exact run_convert_bytes_back (wr.alloc (.cells #[.int .u8 (b.toNat : Int)] 5)) _ _ _ ⟨wr.heap.size, 0, none⟩ 1 [b] Tryz.underlying95 Tryz.underlying5 Tryz.underlying9
    (fun j hj => by
      have hj0 : j = 0 := by simp at hj; omega
      subst hj0
      exact cell_one_new wr _ _ 0 _ rfl)
theorem neg_rem (u : Nat) : (-(u : Int)).tmod 10 = -((u % 10 : Nat) : Int) := by rw [Int.neg_tmod, Int.tmod_eq_emod_of_nonneg (by omega)]; omega
theorem neg_quo (u : Nat) : (-(u : Int)).tdiv 10 = -((u / 10 : Nat) : Int) := by rw [Int.neg_tdiv, Int.tdiv_eq_ediv_of_nonneg (by omega)]; omega

set_option maxRecDepth 100000 in
set_option maxHeartbeats 4000000 in
theorem rint_s (n : Int) (w : World) (h0 : -9223372036854775808 ≤ n) (h1 : n ≤ 9223372036854775807) :
    Calls Tryz.prog 92 #[.int .i64 n] w fun e w' => e = .returned (.string (ofL (Lib.itoa n))) ∧ Below w.heap.size w w' := by
  by_cases hz : n = 0
  · subst hz
    have HE := Lib.hid (show Lib.itoa 0 = [48] by rw [show (0 : Int) = ((0 : Nat) : Int) from rfl, Lib.itoa_nonneg, Lib.decDigits, dif_pos (by omega)]; rfl)
    go_enter Tryz.func92, Tryz.ntmps92
    go_wp2
    go_ret
    exact ⟨by rw [HE.out]; rfl, Below.refl _ _⟩
  · by_cases hn : n < 0
    · obtain ⟨u0, rfl⟩ : ∃ u : Nat, n = -(u : Int) := ⟨n.natAbs, by omega⟩
      have HE := Lib.hid (Lib.itoa_neg u0 (by omega))
      have hne : ((-(u0 : Int)) == 0) = false := beq_false_of_ne hz
      have hu0 : u0 < 18446744073709551616 := by omega
      have hu1 : u0 ≤ 9223372036854775808 := by omega
      go_enter Tryz.func92, Tryz.ntmps92
      go_wp2_with fail
      go_loopw [3, 4] (fun o m wr => ∃ (u : Nat) (l : List UInt8), u ≤ u0 ∧ m = .int .i64 (-(u : Int)) ∧ o = .string (ofL l) ∧ Hid (IntAt u0 u l) ∧ (ofL l).size ≤ 20 ∧ Below w.heap.size w wr) (fun _ m _ => (intOf m).natAbs)
      case atStart => exact ⟨u0, [], Nat.le_refl _, rfl, rfl, Lib.hid (intAt_start u0 (by omega)), Nat.zero_le _, Below.refl _ _⟩
      case round =>
        obtain ⟨u, l, hu, rfl, rfl, HI, hl, hbel⟩ := hrel
        by_cases hu2 : u = 0
        · subst hu2
          have HF := Lib.hid (intAt_end HI.out)
          have hm : ((-((0 : Nat) : Int)) != 0) = false := rfl
          go_wp2
          go_ret
          exact ⟨by rw [HE.out, HF.out]; rfl, hbel⟩
        · have hm : ((-(u : Int)) != 0) = true := by simp; omega
          have HS := Lib.hid (intAt_step HI.out (by omega))
          have HL := Lib.hid (intAt_len HS.out hu0)
          obtain ⟨d, hd⟩ : ∃ d, d = u % 10 := ⟨_, rfl⟩
          obtain ⟨q, hq⟩ : ∃ q, q = u / 10 := ⟨_, rfl⟩
          have r1 := neg_rem u
          have r2 := neg_quo u
          rw [← hd] at r1
          rw [← hq] at r2
          have hd9 : d ≤ 9 := by omega
          have hqu : q < u := by omega
          have HD := Lib.hid (show (⟨#[UInt8.ofNat (48 + d)]⟩ : ByteArray) ++ ofL l = ofL (UInt8.ofNat (48 + u % 10) :: l) by
            rw [← hd]; apply ByteArray.ext; rw [ByteArray.data_append]; simp [ofL])
          have HQ := Lib.hid hq
          clear hq
          by_cases hd0 : d = 0
          · have hneg : ¬ (-(d : Int)) < 0 := by omega
            have hdz : (d : Int) = 0 := by omega
            rw [hdz] at r1
            have hbk := one_back wr 48 48 rfl
            have HD0 := Lib.hid (show (⟨#[48]⟩ : ByteArray) ++ ofL l = ofL (UInt8.ofNat (48 + u % 10) :: l) by rw [← HD.out, hd0]; rfl)
            clear hd hd0 hdz hneg
            go_wp2
            go_roundw
            case rel => exact ⟨q, UInt8.ofNat (48 + u % 10) :: l, by omega, rfl, by rw [HD0.out], Lib.hid (by rw [HQ.out]; exact HS.out), HL.out, hbel.alloc hbel.size _⟩
            case measure => simp [intOf]; omega
          · have hneg : (-(d : Int)) < 0 := by omega
            have hw : IntKind.u8.wrap (48 + (d : Int)) = 48 + (d : Int) := IntWalk.u8_in _ (by omega)
            obtain ⟨c, hc⟩ : ∃ c, c = UInt8.ofNat (48 + d) := ⟨_, rfl⟩
            rw [← hc] at HD
            have hbk := one_back wr c (48 + (d : Int)) (by rw [hc, UInt8.toNat_ofNat']; omega)
            clear hd hd0 hc
            go_wp2
            go_roundw
            case rel => exact ⟨q, UInt8.ofNat (48 + u % 10) :: l, by omega, rfl, by rw [HD.out], Lib.hid (by rw [HQ.out]; exact HS.out), HL.out, hbel.alloc hbel.size _⟩
            case measure => simp [intOf]; omega
    · obtain ⟨u0, rfl⟩ : ∃ u : Nat, n = (u : Int) := ⟨n.toNat, by omega⟩
      have HE := Lib.hid (Lib.itoa_nonneg u0)
      have hne : ((u0 : Int) == 0) = false := beq_false_of_ne hz
      have hu0 : u0 < 18446744073709551616 := by omega
      have hu1 : u0 ≤ 9223372036854775807 := by omega
      go_enter Tryz.func92, Tryz.ntmps92
      go_wp2_with fail
      go_loopw [3, 4] (fun o m wr => ∃ (u : Nat) (l : List UInt8), u ≤ u0 ∧ m = .int .i64 (u : Int) ∧ o = .string (ofL l) ∧ Hid (IntAt u0 u l) ∧ (ofL l).size ≤ 20 ∧ Below w.heap.size w wr) (fun _ m _ => (intOf m).natAbs)
      case atStart => exact ⟨u0, [], Nat.le_refl _, rfl, rfl, Lib.hid (intAt_start u0 (by omega)), Nat.zero_le _, Below.refl _ _⟩
      case round =>
        obtain ⟨u, l, hu, rfl, rfl, HI, hl, hbel⟩ := hrel
        by_cases hu2 : u = 0
        · subst hu2
          have HF := Lib.hid (intAt_end HI.out)
          have hm : ((((0 : Nat) : Int)) != 0) = false := rfl
          go_wp2
          go_ret
          exact ⟨by rw [HE.out, HF.out]; rfl, hbel⟩
        · have hm : ((u : Int) != 0) = true := by simp; omega
          have HS := Lib.hid (intAt_step HI.out (by omega))
          have HL := Lib.hid (intAt_len HS.out hu0)
          obtain ⟨d, hd⟩ : ∃ d, d = u % 10 := ⟨_, rfl⟩
          obtain ⟨q, hq⟩ : ∃ q, q = u / 10 := ⟨_, rfl⟩
          have r1 : (u : Int).tmod 10 = (d : Int) := by rw [Int.tmod_eq_emod_of_nonneg (by omega)]; omega
          have r2 : (u : Int).tdiv 10 = (q : Int) := by rw [Int.tdiv_eq_ediv_of_nonneg (by omega)]; omega
          have hd9 : d ≤ 9 := by omega
          have hqu : q < u := by omega
          have HD := Lib.hid (show (⟨#[UInt8.ofNat (48 + d)]⟩ : ByteArray) ++ ofL l = ofL (UInt8.ofNat (48 + u % 10) :: l) by
            rw [← hd]; apply ByteArray.ext; rw [ByteArray.data_append]; simp [ofL])
          have HQ := Lib.hid hq
          clear hq
          have hneg : ¬ (d : Int) < 0 := by omega
          have hw : IntKind.u8.wrap (48 + (d : Int)) = 48 + (d : Int) := IntWalk.u8_in _ (by omega)
          obtain ⟨c, hc⟩ : ∃ c, c = UInt8.ofNat (48 + d) := ⟨_, rfl⟩
          rw [← hc] at HD
          have hbk := one_back wr c (48 + (d : Int)) (by rw [hc, UInt8.toNat_ofNat']; omega)
          clear hd hc
          go_wp2
          go_roundw
          case rel => exact ⟨q, UInt8.ofNat (48 + u % 10) :: l, by omega, rfl, by rw [HD.out], Lib.hid (by rw [HQ.out]; exact HS.out), HL.out, hbel.alloc hbel.size _⟩
          case measure => simp [intOf]; omega

end Go.Proofs.YtclfjdnemafmeaaGreatDoor
end

section
/-
  Plain functions for distinguished names on lists of bytes: where a separator stands that is not escaped, the pieces of a text, the value that is written, the text of a component. No condition.
-/
set_option maxRecDepth 100000
set_option linter.unusedVariables false
set_option linter.unusedSimpArgs false
set_option linter.unnecessarySimpa false
namespace Go.Proofs.YtclfjdnemafmeaaGreatDoor
namespace Nam
open Go.PlainAid

def spec4 (c : UInt8) : Bool := c == 44 || c == 61 || c == 43 || c == 92
/-- where the first c that is not escaped stands, or the length -/
def nextP (c : UInt8) : List UInt8 → Nat
  | [] => 0
  | x :: r => if x = c then 0 else if x = 92 then (match r with
      | [] => 1
      | _ :: r' => nextP c r' + 2) else nextP c r + 1
/-- the value that is written as a piece, unless it is in no right form -/
def valP : List UInt8 → Option (List UInt8)
  | [] => some []
  | x :: r => if x = 92 then (match r with
      | [] => none
      | y :: r' => if spec4 y then (valP r').map (y :: ·) else none) else if x = 61 ∨ x = 43 then none else (valP r).map (x :: ·)
/-- the same, where a comma that is not escaped is refused, too -/
def valQ : List UInt8 → Option (List UInt8)
  | [] => some []
  | x :: r => if x = 92 then (match r with
      | [] => none
      | y :: r' => if spec4 y then (valQ r').map (y :: ·) else none) else if spec4 x then none else (valQ r).map (x :: ·)
def escB (c : UInt8) : List UInt8 := if spec4 c then [92, c] else [c]
def escV (l : List UInt8) : List UInt8 := l.flatMap escB
/-- no c that is not escaped, and no escape at the end -/
def clos (c : UInt8) : List UInt8 → Bool
  | [] => true
  | x :: r => if x = c then false else if x = 92 then (match r with
      | [] => false
      | _ :: r' => clos c r') else clos c r
/-- no c that is not escaped -/
def nocut (c : UInt8) (l : List UInt8) : Prop := nextP c l = l.length

theorem nextP_le (c : UInt8) : ∀ l, nextP c l ≤ l.length
  | [] => Nat.le_refl _
  | [x] => by
    unfold nextP
    by_cases h : x = c
    · rw [if_pos h]; exact Nat.zero_le _
    · rw [if_neg h]
      by_cases h2 : x = 92
      · rw [if_pos h2]; exact Nat.le_refl _
      · rw [if_neg h2]; simp [nextP]
  | x :: y :: r => by
    unfold nextP
    by_cases h : x = c
    · rw [if_pos h]; exact Nat.zero_le _
    · rw [if_neg h]
      by_cases h2 : x = 92
      · rw [if_pos h2]; have := nextP_le c r; simp; exact this
      · rw [if_neg h2]; have := nextP_le c (y :: r); simp at this ⊢; exact this
theorem nextP_clos (c : UInt8) (b : List UInt8) : ∀ a, clos c a = true → nextP c (a ++ b) = a.length + nextP c b
  | [], _ => by simp
  | [x], h => by
    unfold clos at h
    by_cases h1 : x = c
    · rw [if_pos h1] at h; cases h
    · rw [if_neg h1] at h
      by_cases h2 : x = 92
      · rw [if_pos h2] at h; cases h
      · show nextP c (x :: b) = _
        rw [show nextP c (x :: b) = nextP c b + 1 by conv => lhs; unfold nextP; rw [if_neg h1, if_neg h2]]
        simp; omega
  | x :: y :: r, h => by
    unfold clos at h
    by_cases h1 : x = c
    · rw [if_pos h1] at h; cases h
    · rw [if_neg h1] at h
      by_cases h2 : x = 92
      · rw [if_pos h2] at h
        have := nextP_clos c b r h
        show nextP c (x :: y :: (r ++ b)) = _
        rw [show nextP c (x :: y :: (r ++ b)) = nextP c (r ++ b) + 2 by conv => lhs; unfold nextP; rw [if_neg h1, if_pos h2], this]
        simp; omega
      · rw [if_neg h2] at h
        have := nextP_clos c b (y :: r) h
        show nextP c (x :: (y :: r ++ b)) = _
        rw [show nextP c (x :: (y :: r ++ b)) = nextP c (y :: r ++ b) + 1 by conv => lhs; unfold nextP; rw [if_neg h1, if_neg h2], this]
        simp; omega
theorem clos_app (c : UInt8) (b : List UInt8) (hb : clos c b = true) : ∀ a, clos c a = true → clos c (a ++ b) = true
  | [], _ => hb
  | [x], h => by
    unfold clos at h
    by_cases h1 : x = c
    · rw [if_pos h1] at h; cases h
    · rw [if_neg h1] at h
      by_cases h2 : x = 92
      · rw [if_pos h2] at h; cases h
      · show clos c (x :: b) = true
        unfold clos; rw [if_neg h1, if_neg h2]; exact hb
  | x :: y :: r, h => by
    unfold clos at h
    by_cases h1 : x = c
    · rw [if_pos h1] at h; cases h
    · rw [if_neg h1] at h
      by_cases h2 : x = 92
      · rw [if_pos h2] at h
        show clos c (x :: y :: (r ++ b)) = true
        unfold clos; rw [if_neg h1, if_pos h2]; exact clos_app c b hb r h
      · rw [if_neg h2] at h
        show clos c (x :: (y :: r ++ b)) = true
        unfold clos; rw [if_neg h1, if_neg h2]; exact clos_app c b hb (y :: r) h
theorem nocut_of_clos (c : UInt8) (l : List UInt8) (h : clos c l = true) : nocut c l := by
  have := nextP_clos c [] l h
  rw [List.append_nil] at this
  unfold nocut; rw [this]; rfl
theorem clos_plain (c : UInt8) : ∀ l : List UInt8, (∀ x ∈ l, x ≠ c ∧ x ≠ 92) → clos c l = true
  | [], _ => rfl
  | x :: r, h => by
    have h0 := h x (by simp)
    unfold clos; rw [if_neg h0.1, if_neg h0.2]; exact clos_plain c r (fun y hy => h y (by simp [hy]))
theorem spec4_iff (c : UInt8) : spec4 c = true ↔ c = 44 ∨ c = 61 ∨ c = 43 ∨ c = 92 := by
  unfold spec4; simp [or_assoc]
theorem clos_escV (c : UInt8) (hc : spec4 c = true) (h92 : c ≠ 92) : ∀ l, clos c (escV l) = true
  | [] => rfl
  | x :: r => by
    have ih := clos_escV c hc h92 r
    show clos c (escB x ++ escV r) = true
    unfold escB
    by_cases h : spec4 x = true
    · rw [if_pos h]
      show clos c (92 :: x :: escV r) = true
      unfold clos; rw [if_neg (Ne.symm h92), if_pos rfl]; exact ih
    · rw [if_neg h]
      have h1 : x ≠ c := fun e => h (by rw [e]; exact hc)
      have h2 : x ≠ 92 := fun e => h (by rw [e]; rfl)
      show clos c (x :: escV r) = true
      unfold clos; rw [if_neg h1, if_neg h2]; exact ih
theorem valP_escV : ∀ l, valP (escV l) = some l
  | [] => rfl
  | x :: r => by
    have ih := valP_escV r
    show valP (escB x ++ escV r) = _
    unfold escB
    by_cases h : spec4 x = true
    · rw [if_pos h]
      show valP (92 :: x :: escV r) = _
      unfold valP; rw [if_pos rfl]
      show (if spec4 x = true then (valP (escV r)).map (x :: ·) else none) = _
      rw [if_pos h, ih]; rfl
    · rw [if_neg h]
      have h2 : x ≠ 92 := fun e => h (by rw [e]; rfl)
      have h3 : ¬ (x = 61 ∨ x = 43) := fun e => h (by rcases e with e | e <;> (rw [e]; rfl))
      show valP (x :: escV r) = _
      unfold valP; rw [if_neg h2, if_neg h3, ih]; rfl
/-- where no comma stands that is not escaped, both ways of reading a value are one -/
theorem valQ_valP : ∀ l, nocut 44 l → valQ l = valP l
  | [], _ => rfl
  | [x], h => by
    unfold nocut nextP at h
    by_cases h1 : x = 44
    · rw [if_pos h1] at h; simp at h
    · unfold valQ valP
      by_cases h2 : x = 92
      · rw [if_pos h2, if_pos h2]
      · rw [if_neg h2, if_neg h2]
        by_cases h3 : x = 61 ∨ x = 43
        · rw [if_pos h3, if_pos (by rw [spec4_iff]; rcases h3 with h3 | h3 <;> simp [h3])]
        · rw [if_neg h3, if_neg (by rw [spec4_iff]; simp at h3; simp [h1, h2, h3])]; rfl
  | x :: y :: r, h => by
    unfold nocut nextP at h
    by_cases h1 : x = 44
    · rw [if_pos h1] at h; simp at h
    · rw [if_neg h1] at h
      unfold valQ valP
      by_cases h2 : x = 92
      · rw [if_pos h2] at h
        rw [if_pos h2, if_pos h2]
        show (if spec4 y = true then (valQ r).map (y :: ·) else none) = (if spec4 y = true then (valP r).map (y :: ·) else none)
        rw [valQ_valP r (by unfold nocut; simp at h; exact h)]
      · rw [if_neg h2] at h
        rw [if_neg h2, if_neg h2, valQ_valP (y :: r) (by unfold nocut; simp at h ⊢; exact h)]
        by_cases h3 : x = 61 ∨ x = 43
        · rw [if_pos h3, if_pos (by rw [spec4_iff]; rcases h3 with h3 | h3 <;> simp [h3])]
        · rw [if_neg h3, if_neg (by rw [spec4_iff]; simp at h3; simp [h1, h2, h3])]
/-- what stands before the first c holds none -/
theorem nocut_take (c : UInt8) (hc : c ≠ 92) : ∀ l : List UInt8, nocut c (l.take (nextP c l))
  | [] => by unfold nocut; simp [nextP]
  | [x] => by
    unfold nocut
    conv => lhs; arg 2; arg 1; unfold nextP
    conv => rhs; arg 1; arg 1; unfold nextP
    by_cases h1 : x = c
    · rw [if_pos h1]; simp [nextP]
    · rw [if_neg h1]
      by_cases h2 : x = 92
      · rw [if_pos h2]; simp [nextP, h1, h2]; exact fun e => absurd e.symm hc
      · rw [if_neg h2]; simp [nextP, h1, h2]
  | x :: y :: r => by
    unfold nocut
    conv => lhs; arg 2; arg 1; unfold nextP
    conv => rhs; arg 1; arg 1; unfold nextP
    by_cases h1 : x = c
    · rw [if_pos h1]; simp [nextP]
    · rw [if_neg h1]
      by_cases h2 : x = 92
      · have ih := nocut_take c hc r
        unfold nocut at ih
        rw [if_pos h2]
        show nextP c (x :: y :: r.take (nextP c r)) = (x :: y :: r.take (nextP c r)).length
        rw [show nextP c (x :: y :: r.take (nextP c r)) = nextP c (r.take (nextP c r)) + 2 by conv => lhs; unfold nextP; rw [if_neg h1, if_pos h2], ih]
        simp
      · have ih := nocut_take c hc (y :: r)
        unfold nocut at ih
        rw [if_neg h2]
        show nextP c (x :: (y :: r).take (nextP c (y :: r))) = (x :: (y :: r).take (nextP c (y :: r))).length
        rw [show nextP c (x :: (y :: r).take (nextP c (y :: r))) = nextP c ((y :: r).take (nextP c (y :: r))) + 1 by conv => lhs; unfold nextP; rw [if_neg h1, if_neg h2], ih]
        simp
/-- and so does what stands behind another separator -/
theorem nocut_drop (c d : UInt8) (hd : d ≠ 92) (hcd : c ≠ d) : ∀ l : List UInt8, nocut c l → nextP d l < l.length → nocut c (l.drop (nextP d l + 1))
  | [], _, h => by simp [nextP] at h
  | [x], h, h0 => by
    have : nextP d [x] = 0 := by simp at h0; exact h0
    rw [this]; unfold nocut; simp [nextP]
  | x :: y :: r, h, h0 => by
    have e0 : nextP d (x :: y :: r) = if x = d then 0 else if x = 92 then nextP d r + 2 else nextP d (y :: r) + 1 := by conv => lhs; unfold nextP
    have e1 : nextP c (x :: y :: r) = if x = c then 0 else if x = 92 then nextP c r + 2 else nextP c (y :: r) + 1 := by conv => lhs; unfold nextP
    unfold nocut at h
    rw [e1] at h
    have hxc : x ≠ c := fun e => by rw [if_pos e] at h; simp at h
    rw [if_neg hxc] at h
    rw [e0] at h0 ⊢
    by_cases h1 : x = d
    · rw [if_pos h1]
      have h2 : x ≠ 92 := fun e => hd (h1.symm.trans e)
      rw [if_neg h2] at h
      unfold nocut; simp at h ⊢; exact h
    · rw [if_neg h1] at h0 ⊢
      by_cases h2 : x = 92
      · rw [if_pos h2] at h h0 ⊢
        have := nocut_drop c d hd hcd r (by unfold nocut; simp at h; exact h) (by simp at h0; exact h0)
        simpa using this
      · rw [if_neg h2] at h h0 ⊢
        have := nocut_drop c d hd hcd (y :: r) (by unfold nocut; simp at h ⊢; exact h) (by simp at h0 ⊢; exact h0)
        simpa using this

theorem nocut_pre (c : UInt8) : ∀ a b : List UInt8, nocut c (a ++ b) → nocut c a
  | [], _, _ => by unfold nocut; simp [nextP]
  | [x], b, h => by
    unfold nocut at *
    have e1 : nextP c ([x] ++ b) = nextP c (x :: b) := rfl
    by_cases h1 : x = c
    · rw [e1] at h
      unfold nextP at h
      rw [if_pos h1] at h; simp at h
    · have e : nextP c [x] = if x = c then 0 else if x = 92 then 1 else nextP c [] + 1 := by conv => lhs; unfold nextP
      rw [e, if_neg h1]
      split <;> simp [nextP]
  | x :: y :: r, b, h => by
    have e0 : ∀ m, nextP c (x :: y :: m) = if x = c then 0 else if x = 92 then nextP c m + 2 else nextP c (y :: m) + 1 := fun m => by conv => lhs; unfold nextP
    unfold nocut at h ⊢
    rw [List.cons_append, List.cons_append, e0] at h
    rw [e0]
    by_cases h1 : x = c
    · rw [if_pos h1] at h; simp at h
    · rw [if_neg h1] at h ⊢
      by_cases h2 : x = 92
      · rw [if_pos h2] at h ⊢
        have := nocut_pre c r b (by unfold nocut; simp at h ⊢; omega)
        unfold nocut at this; rw [this]; rfl
      · rw [if_neg h2] at h ⊢
        have := nocut_pre c (y :: r) b (by unfold nocut; simp at h ⊢; omega)
        unfold nocut at this; rw [this]; rfl
theorem nocut_32 (c : UInt8) (hc : c ≠ 32) (l : List UInt8) (h : nocut c (32 :: l)) : nocut c l := by
  unfold nocut at *
  have e : nextP c (32 :: l) = nextP c l + 1 := by conv => lhs; unfold nextP; rw [if_neg (fun e => hc e.symm), if_neg (by decide)]
  rw [e] at h
  simpa using h
theorem nocut_left (c : UInt8) (hc : c ≠ 32) : ∀ l : List UInt8, nocut c l → nocut c (Lib.trimLeftB l 32)
  | [], h => h
  | x :: l, h => by
    unfold Lib.trimLeftB
    rw [List.dropWhile_cons]
    by_cases hx : (x == 32) = true
    · rw [if_pos hx]
      have e : x = 32 := by simpa using hx
      rw [e] at h
      exact nocut_left c hc l (nocut_32 c hc l h)
    · rw [if_neg hx]; exact h
theorem nocut_right (c : UInt8) (l : List UInt8) (h : nocut c l) : nocut c (Lib.trimRightB l 32) := by
  refine nocut_pre c _ (l.reverse.takeWhile (· == 32)).reverse ?_
  have e : Lib.trimRightB l 32 ++ (l.reverse.takeWhile (· == 32)).reverse = l := by
    unfold Lib.trimRightB
    rw [← List.reverse_append, List.takeWhile_append_dropWhile, List.reverse_reverse]
  rw [e]; exact h
theorem nocut_trim (c : UInt8) (hc : c ≠ 32) (l : List UInt8) (h : nocut c l) : nocut c (trimR l) := by
  unfold trimR; exact nocut_right c _ (nocut_left c hc l h)

/-- the pieces between the c that are not escaped -/
def headOn (a : List UInt8) : List (List UInt8) → List (List UInt8)
  | [] => [a]
  | p :: ps => (a ++ p) :: ps
def pieces (c : UInt8) : List UInt8 → List (List UInt8)
  | [] => [[]]
  | x :: r => if x = c then [] :: pieces c r else if x = 92 then (match r with
      | [] => [[x]]
      | y :: r' => headOn [x, y] (pieces c r')) else headOn [x] (pieces c r)
theorem pieces_cut (c : UInt8) : ∀ l, pieces c l = l.take (nextP c l) :: (if nextP c l < l.length then pieces c (l.drop (nextP c l + 1)) else [])
  | [] => by simp [pieces, nextP]
  | [x] => by
    unfold pieces
    conv => rhs; unfold nextP
    by_cases h1 : x = c
    · rw [if_pos h1, if_pos h1]; simp [pieces]
    · rw [if_neg h1, if_neg h1]
      by_cases h2 : x = 92
      · rw [if_pos h2, if_pos h2]; simp
      · rw [if_neg h2, if_neg h2]; simp [pieces, nextP, headOn]
  | x :: y :: r => by
    have e1 : nextP c (x :: y :: r) = if x = c then 0 else if x = 92 then nextP c r + 2 else nextP c (y :: r) + 1 := by conv => lhs; unfold nextP
    have e2 : pieces c (x :: y :: r) = if x = c then [] :: pieces c (y :: r) else if x = 92 then headOn [x, y] (pieces c r) else headOn [x] (pieces c (y :: r)) := by conv => lhs; unfold pieces
    rw [e1, e2]
    by_cases h1 : x = c
    · rw [if_pos h1, if_pos h1]; simp
    · rw [if_neg h1, if_neg h1]
      by_cases h2 : x = 92
      · rw [if_pos h2, if_pos h2, pieces_cut c r]; simp [headOn]
      · rw [if_neg h2, if_neg h2, pieces_cut c (y :: r)]; simp [headOn]

end Nam
end Go.Proofs.YtclfjdnemafmeaaGreatDoor
end

section
/-
  Plain functions for distinguished names: what Parse, Format, Clean and the pieces of them return; that a normal form is read back; that upper and lower case does not matter. No condition.
-/
set_option maxRecDepth 100000
set_option linter.unusedVariables false
set_option linter.unusedSimpArgs false
set_option linter.unnecessarySimpa false
namespace Go.Proofs.YtclfjdnemafmeaaGreatDoor
namespace Nam
open Go.PlainAid

abbrev Pr := ByteArray × ByteArray
def ofB (l : List UInt8) : ByteArray := ⟨l.toArray⟩
theorem ofB_data (l : List UInt8) : (ofB l).data.toList = l := rfl
theorem data_ofB (s : ByteArray) : ofB s.data.toList = s := Lib.mk_data s
theorem ofB_size (l : List UInt8) : (ofB l).size = l.length := by rw [Lib.size_eq]; rfl

/-! ### a component -/
def rawK (p : ByteArray) : ByteArray := trimS (tk p (nextP 61 p.data.toList))
def rawV (p : ByteArray) : ByteArray := trimS (dr p (nextP 61 p.data.toList + 1))
def prE (p : Pr) : Int := if nameB p.1 = false then 5 else if cleanB p.2 = false then 8 else 0
def compE (p : ByteArray) : Int := if nextP 61 p.data.toList < p.size then (match valP (rawV p).data.toList with
  | some v => prE (rawK p, ofB v)
  | none => 4) else 4
def compV (p : ByteArray) : Pr := (rawK p, ofB ((valP (rawV p).data.toList).getD []))
def nilPr : Pr := (ByteArray.empty, ByteArray.empty)
/-- what 'component' returns -/
def compR (p : ByteArray) : Pr := if compE p = 0 then compV p else nilPr
theorem compE_ok {p : ByteArray} (h : compE p = 0) : nextP 61 p.data.toList < p.size ∧ valP (rawV p).data.toList = some (compV p).2.data.toList ∧ prE (compV p) = 0 := by
  unfold compE at h
  by_cases h1 : nextP 61 p.data.toList < p.size
  · rw [if_pos h1] at h
    cases e : valP (rawV p).data.toList with
    | none => rw [e] at h; simp at h
    | some v =>
      rw [e] at h
      unfold compV
      rw [e]
      exact ⟨h1, rfl, h⟩
  · rw [if_neg h1] at h; simp at h

/-! ### Parse -/
def firstE : List ByteArray → Int
  | [] => 0
  | p :: r => if compE p = 0 then firstE r else compE p
def piecesS (s : ByteArray) : List ByteArray := if s.size = 0 then [] else (pieces 44 s.data.toList).map ofB
def parseE (s : ByteArray) : Int := if firstE (piecesS s) = 0 then (if 8 < (piecesS s).length then 3 else 0) else firstE (piecesS s)
def parseV (s : ByteArray) : List Pr := if parseE s = 0 then (piecesS s).map compV else []
theorem firstE_app (a b : List ByteArray) (h : firstE a = 0) : firstE (a ++ b) = firstE b := by
  induction a with
  | nil => rfl
  | cons p r ih =>
    unfold firstE at h
    by_cases hp : compE p = 0
    · rw [if_pos hp] at h
      show (if compE p = 0 then firstE (r ++ b) else compE p) = _
      rw [if_pos hp, ih h]
    · rw [if_neg hp] at h; exact absurd h hp
theorem firstE_all {l : List ByteArray} (h : firstE l = 0) : ∀ p ∈ l, compE p = 0 := by
  induction l with
  | nil => intro p hp; cases hp
  | cons q r ih =>
    unfold firstE at h
    by_cases hq : compE q = 0
    · rw [if_pos hq] at h
      intro p hp
      rcases List.mem_cons.1 hp with rfl | hp
      · exact hq
      · exact ih h p hp
    · rw [if_neg hq] at h; exact absurd h hq
theorem firstE_zero {l : List ByteArray} (h : ∀ p ∈ l, compE p = 0) : firstE l = 0 := by
  induction l with
  | nil => rfl
  | cons q r ih => unfold firstE; rw [if_pos (h q (by simp)), ih (fun p hp => h p (by simp [hp]))]
theorem piecesS_cut (s : ByteArray) (h : s.size ≠ 0) :
    piecesS s = tk s (nextP 44 s.data.toList) :: (if nextP 44 s.data.toList < s.size then (pieces 44 (dr s (nextP 44 s.data.toList + 1)).data.toList).map ofB else []) := by
  unfold piecesS
  rw [if_neg h, pieces_cut, List.map_cons, ← Lib.size_eq]
  congr 1
  split <;> rfl

/-! ### Format -/
def fmtC (p : Pr) : List UInt8 := (lowS p.1).data.toList ++ 61 :: escV (foldS p.2).data.toList
def barC : List (List UInt8) → List UInt8
  | [] => []
  | [p] => p
  | p :: q :: r => p ++ 44 :: barC (q :: r)
def fmtFirst : List Pr → Int
  | [] => 0
  | p :: r => if prE p = 0 then fmtFirst r else prE p
def fmtE (l : List Pr) : Int := if fmtFirst l = 0 then (if 8 < l.length then 3 else 0) else fmtFirst l
def fmtV (l : List Pr) : ByteArray := if fmtE l = 0 then ofB (barC (l.map fmtC)) else ByteArray.empty
theorem barC_snoc (p : List UInt8) : ∀ l : List (List UInt8), l ≠ [] → barC (l ++ [p]) = barC l ++ 44 :: p
  | [], h => absurd rfl h
  | [q], _ => rfl
  | q :: r :: t, _ => by
    have ih := barC_snoc p (r :: t) (by simp)
    show q ++ 44 :: barC (r :: t ++ [p]) = (q ++ 44 :: barC (r :: t)) ++ 44 :: p
    rw [ih]; simp
theorem fmtFirst_all {l : List Pr} (h : fmtFirst l = 0) : ∀ p ∈ l, prE p = 0 := by
  induction l with
  | nil => intro p hp; cases hp
  | cons q r ih =>
    unfold fmtFirst at h
    by_cases hq : prE q = 0
    · rw [if_pos hq] at h
      intro p hp
      rcases List.mem_cons.1 hp with rfl | hp
      · exact hq
      · exact ih h p hp
    · rw [if_neg hq] at h; exact absurd h hq
theorem fmtFirst_zero {l : List Pr} (h : ∀ p ∈ l, prE p = 0) : fmtFirst l = 0 := by
  induction l with
  | nil => rfl
  | cons q r ih => unfold fmtFirst; rw [if_pos (h q (by simp)), ih (fun p hp => h p (by simp [hp]))]
theorem fmtE_ok {l : List Pr} (h : fmtE l = 0) : (∀ p ∈ l, prE p = 0) ∧ l.length ≤ 8 := by
  unfold fmtE at h
  by_cases h1 : fmtFirst l = 0
  · rw [if_pos h1] at h
    by_cases h2 : 8 < l.length
    · rw [if_pos h2] at h; cases h
    · exact ⟨fmtFirst_all h1, by omega⟩
  · rw [if_neg h1] at h; exact absurd h h1
theorem fmtE_zero {l : List Pr} (h1 : ∀ p ∈ l, prE p = 0) (h2 : l.length ≤ 8) : fmtE l = 0 := by
  unfold fmtE; rw [if_pos (fmtFirst_zero h1), if_neg (by omega)]
theorem parseE_ok {s : ByteArray} (h : parseE s = 0) : (∀ p ∈ piecesS s, compE p = 0) ∧ (piecesS s).length ≤ 8 := by
  unfold parseE at h
  by_cases h1 : firstE (piecesS s) = 0
  · rw [if_pos h1] at h
    by_cases h2 : 8 < (piecesS s).length
    · rw [if_pos h2] at h; cases h
    · exact ⟨firstE_all h1, by omega⟩
  · rw [if_neg h1] at h; exact absurd h h1
theorem parseV_ok {s : ByteArray} (h : parseE s = 0) : (∀ p ∈ parseV s, prE p = 0) ∧ (parseV s).length ≤ 8 := by
  obtain ⟨h1, h2⟩ := parseE_ok h
  unfold parseV
  rw [if_pos h]
  refine ⟨fun p hp => ?_, by simpa using h2⟩
  obtain ⟨q, hq, rfl⟩ := List.mem_map.1 hp
  exact (compE_ok (h1 q hq)).2.2
theorem fmt_parse_ok {s : ByteArray} (h : parseE s = 0) : fmtE (parseV s) = 0 := fmtE_zero (parseV_ok h).1 (parseV_ok h).2

/-! ### Clean, Valid, the components of a normal form -/
def cleanE (s : ByteArray) : Int := if parseE s = 0 then fmtE (parseV s) else parseE s
def cleanV (s : ByteArray) : ByteArray := if parseE s = 0 then fmtV (parseV s) else ByteArray.empty
def normB (s : ByteArray) : Bool := decide (parseE s = 0) && decide (fmtV (parseV s) = s)
def compsV (s : ByteArray) : List Pr := if normB s then parseV s else []
/-- the pair in normal form -/
def canP (p : Pr) : Pr := (lowS p.1, foldS p.2)

theorem prE_zero (p : Pr) : prE p = 0 ↔ nameB p.1 = true ∧ cleanB p.2 = true := by
  unfold prE
  cases h1 : nameB p.1 <;> cases h2 : cleanB p.2 <;> simp
theorem mem_bt {s : ByteArray} {c : UInt8} (h : c ∈ s.data.toList) : ∃ j, j < s.size ∧ bt s j = (c.toNat : Int) := by
  obtain ⟨j, hj, rfl⟩ := List.getElem_of_mem h
  exact ⟨j, by rw [Lib.size_eq]; exact hj, bt_list s j _ (List.getElem?_eq_getElem hj)⟩
theorem bt_mem {s : ByteArray} {j : Nat} (h : j < s.size) : ∃ c, c ∈ s.data.toList ∧ bt s j = (c.toNat : Int) := by
  have hj : j < s.data.toList.length := by rw [← Lib.size_eq]; exact h
  exact ⟨_, List.getElem_mem hj, bt_list s j _ (List.getElem?_eq_getElem hj)⟩
theorem allB_list (p : Int → Bool) (s : ByteArray) : allB p s = s.data.toList.all fun c => p (c.toNat : Int) := by
  rw [Bool.eq_iff_iff, allB_iff, List.all_eq_true]
  constructor
  · intro h c hc
    obtain ⟨j, hj, e⟩ := mem_bt hc
    rw [← e]; exact h j hj
  · intro h j hj
    obtain ⟨c, hc, e⟩ := bt_mem hj
    rw [e]; exact h c hc
theorem bt_low (s : ByteArray) (j : Nat) : bt (lowS s) j = (if 65 ≤ bt s j ∧ bt s j ≤ 90 then bt s j + 32 else bt s j) := by
  by_cases h : j < s.size
  · obtain ⟨c, hc⟩ : ∃ c, s.data.toList[j]? = some c := ⟨_, List.getElem?_eq_getElem (by rw [← Lib.size_eq]; exact h)⟩
    have h2 : (lowS s).data.toList[j]? = some (lowB c) := by unfold lowS lowL; simp [hc]
    rw [bt_list _ _ _ h2, bt_list _ _ _ hc]
    by_cases hA : 65 ≤ (c.toNat : Int) ∧ (c.toNat : Int) ≤ 90
    · rw [if_pos hA, lowB_hit _ hA.1 hA.2]
    · rw [if_neg hA, lowB_miss _ hA]
  · rw [bt_end s (by omega), bt_end (lowS s) (by rw [lowS_size]; omega)]; rfl
theorem ltrI_low (x : Int) : ltrI (if 65 ≤ x ∧ x ≤ 90 then x + 32 else x) = ltrI x := by
  rw [Bool.eq_iff_iff]; unfold ltrI; simp only [Bool.or_eq_true, Bool.and_eq_true, decide_eq_true_eq]
  split <;> omega
theorem nameP_low (x : Int) : nameP (if 65 ≤ x ∧ x ≤ 90 then x + 32 else x) = nameP x := by
  unfold nameP
  rw [ltrI_low]
  by_cases h : 65 ≤ x ∧ x ≤ 90
  · rw [if_pos h]
    have : ltrI x = true := by unfold ltrI; simp; omega
    rw [this]; rfl
  · rw [if_neg h]
theorem cleanP_low (x : Int) : cleanP (if 65 ≤ x ∧ x ≤ 90 then x + 32 else x) = cleanP x := by
  rw [Bool.eq_iff_iff]; unfold cleanP; simp only [Bool.and_eq_true, decide_eq_true_eq]
  split <;> omega
theorem is32_low (x : Int) : ((if 65 ≤ x ∧ x ≤ 90 then x + 32 else x) == 32) = (x == 32) := by
  rw [Bool.eq_iff_iff]; simp only [beq_iff_eq]
  split <;> omega
theorem nameB_low (s : ByteArray) : nameB (lowS s) = nameB s := by
  unfold nameB
  rw [lowS_size, bt_low, ltrI_low]
  congr 1
  rw [Bool.eq_iff_iff, allB_iff, allB_iff, lowS_size]
  constructor <;> (intro h j hj; have := h j hj; rw [bt_low, nameP_low] at *; exact this)
theorem cleanB_low (s : ByteArray) : cleanB (lowS s) = cleanB s := by
  unfold cleanB
  rw [lowS_size, bt_low, is32_low, bt_low, is32_low]
  congr 1
  rw [Bool.eq_iff_iff, allB_iff, allB_iff, lowS_size]
  constructor <;> (intro h j hj; have := h j hj; rw [bt_low, cleanP_low] at *; exact this)
theorem prE_can {p : Pr} (h : prE p = 0) : prE (canP p) = 0 := by
  rw [prE_zero] at h ⊢
  exact ⟨by unfold canP; rw [nameB_low]; exact h.1, clean_fold _ h.2⟩
theorem canP_can (p : Pr) : canP (canP p) = canP p := by
  unfold canP; rw [lowS_low, foldS_fold]
theorem fmtC_can (p : Pr) : fmtC (canP p) = fmtC p := by
  unfold fmtC canP; rw [lowS_low, foldS_fold]
/-- a name's bytes -/
theorem name_bytes {s : ByteArray} (h : nameB s = true) : ∀ c ∈ s.data.toList, c ≠ 44 ∧ c ≠ 61 ∧ c ≠ 92 ∧ c ≠ 32 := by
  intro c hc
  unfold nameB at h
  simp only [Bool.and_eq_true] at h
  obtain ⟨j, hj, e⟩ := mem_bt hc
  have := allB_iff.1 h.2 j hj
  rw [e] at this
  refine ⟨?_, ?_, ?_, ?_⟩ <;> (intro e2; subst e2; exact absurd this (by decide))
theorem name_noSp {s : ByteArray} (h : nameB s = true) : noSp s.data.toList :=
  ⟨fun c hc => (name_bytes h c (List.mem_of_mem_head? hc)).2.2.2, fun c hc => (name_bytes h c (List.mem_of_mem_getLast? hc)).2.2.2⟩
theorem escV_ne {l : List UInt8} (h : l ≠ []) : escV l ≠ [] := by
  cases l with
  | nil => exact absurd rfl h
  | cons c r => show escB c ++ _ ≠ []; unfold escB; split <;> simp
theorem escV_last : ∀ (l : List UInt8) (c : UInt8), (escV l).getLast? = some c → l.getLast? = some c
  | [], c, h => by cases h
  | [x], c, h => by
    have e : escV [x] = escB x := by unfold escV; simp
    rw [e] at h
    unfold escB at h
    split at h <;> simpa using h
  | x :: y :: r, c, h => by
    have e : escV (x :: y :: r) = escB x ++ escV (y :: r) := rfl
    rw [e] at h
    have ih := escV_last (y :: r) c
    have hne := escV_ne (l := y :: r) (by simp)
    rw [List.getLast?_append] at h
    cases e2 : (escV (y :: r)).getLast? with
    | none => exact absurd (List.getLast?_eq_none_iff.1 e2) hne
    | some d =>
      rw [e2] at h ih
      rw [List.getLast?_cons_cons]
      exact ih (by simpa using h)
theorem escV_noSp {l : List UInt8} (h : noSp l) : noSp (escV l) := by
  refine ⟨fun c hc => ?_, fun c hc => h.2 c (escV_last l c hc)⟩
  cases l with
  | nil => cases hc
  | cons x r =>
    have e : escV (x :: r) = escB x ++ escV r := rfl
    rw [e] at hc
    unfold escB at hc
    split at hc
    · simp at hc; subst hc; decide
    · simp at hc; subst hc; exact h.1 x rfl
theorem clos_fmtC {p : Pr} (h : prE p = 0) : clos 44 (fmtC p) = true := by
  have hn := name_bytes (by rw [nameB_low]; exact ((prE_zero p).1 h).1 : nameB (lowS p.1) = true)
  unfold fmtC
  refine clos_app 44 _ ?_ _ (clos_plain 44 _ fun x hx => ⟨(hn x hx).1, (hn x hx).2.2.1⟩)
  show clos 44 (61 :: escV (foldS p.2).data.toList) = true
  unfold clos; rw [if_neg (by decide), if_neg (by decide)]
  exact clos_escV 44 (by decide) (by decide) _
theorem next_fmtC {p : Pr} (h : prE p = 0) : nextP 61 (fmtC p) = (lowS p.1).data.toList.length := by
  have hn := name_bytes (by rw [nameB_low]; exact ((prE_zero p).1 h).1 : nameB (lowS p.1) = true)
  unfold fmtC
  rw [nextP_clos 61 _ _ (clos_plain 61 _ fun x hx => ⟨(hn x hx).2.1, (hn x hx).2.2.1⟩)]
  show _ + nextP 61 (61 :: escV (foldS p.2).data.toList) = _
  unfold nextP; rw [if_pos rfl]; rfl
/-- a component in normal form is read back -/
theorem comp_fmt {p : Pr} (h : prE p = 0) : compE (ofB (fmtC p)) = 0 ∧ compV (ofB (fmtC p)) = canP p := by
  have h0 := (prE_zero p).1 h
  have hk : rawK (ofB (fmtC p)) = lowS p.1 := by
    unfold rawK
    rw [ofB_data, next_fmtC h]
    unfold trimS tk
    rw [ofB_data, data_mk]
    unfold fmtC
    rw [List.take_left, trimR_id (name_noSp (by rw [nameB_low]; exact h0.1)), Lib.mk_data]
  have hv : (rawV (ofB (fmtC p))).data.toList = escV (foldS p.2).data.toList := by
    unfold rawV
    rw [ofB_data, next_fmtC h]
    unfold trimS dr
    rw [ofB_data, data_mk, data_mk]
    unfold fmtC
    rw [← List.drop_drop, List.drop_left]
    show trimR (escV (foldS p.2).data.toList) = _
    rw [foldS_data]
    exact trimR_id (escV_noSp (foldL_noSp _))
  have hc : compV (ofB (fmtC p)) = canP p := by
    unfold compV canP
    rw [hk, hv, valP_escV, Option.getD_some, data_ofB]
  refine ⟨?_, hc⟩
  unfold compE
  rw [if_pos (by rw [ofB_data, next_fmtC h, ofB_size]; unfold fmtC; simp), hv, valP_escV]
  show prE (rawK (ofB (fmtC p)), ofB (foldS p.2).data.toList) = 0
  rw [hk, data_ofB]
  exact prE_can h
theorem barC_pieces : ∀ l : List (List UInt8), l ≠ [] → (∀ p ∈ l, clos 44 p = true) → pieces 44 (barC l) = l
  | [], h, _ => absurd rfl h
  | [p], _, h => by
    have hn := nocut_of_clos 44 p (h p (by simp))
    show pieces 44 p = [p]
    rw [pieces_cut, hn, List.take_length, if_neg (Nat.lt_irrefl _)]
  | p :: q :: r, _, h => by
    have ih := barC_pieces (q :: r) (by simp) (fun x hx => h x (by simp at hx ⊢; exact .inr hx))
    have hp := h p (by simp)
    show pieces 44 (p ++ 44 :: barC (q :: r)) = _
    have hk : nextP 44 (p ++ 44 :: barC (q :: r)) = p.length := by
      rw [nextP_clos 44 _ p hp]
      show _ + nextP 44 (44 :: barC (q :: r)) = _
      unfold nextP; rw [if_pos rfl]; rfl
    rw [pieces_cut, hk, List.take_left, if_pos (by simp), ← List.drop_drop, List.drop_left]
    show p :: pieces 44 (barC (q :: r)) = _
    rw [ih]
theorem fmtC_ne (p : Pr) : fmtC p ≠ [] := by unfold fmtC; simp
theorem barC_ne : ∀ l : List (List UInt8), l ≠ [] → (∀ p ∈ l, p ≠ []) → barC l ≠ []
  | [], h, _ => absurd rfl h
  | [p], _, h => h p (by simp)
  | p :: q :: r, _, h => by show p ++ 44 :: _ ≠ []; simp
theorem pieces_fmt {l : List Pr} (h : ∀ p ∈ l, prE p = 0) : piecesS (ofB (barC (l.map fmtC))) = l.map fun p => ofB (fmtC p) := by
  unfold piecesS
  by_cases hl : l = []
  · subst hl; rfl
  · have h1 : l.map fmtC ≠ [] := by simpa using hl
    have h2 := barC_ne _ h1 (fun p hp => by obtain ⟨q, _, rfl⟩ := List.mem_map.1 hp; exact fmtC_ne q)
    rw [if_neg (by rw [ofB_size]; intro e; exact h2 (List.length_eq_zero_iff.1 e)), ofB_data, barC_pieces _ h1 (fun p hp => by
      obtain ⟨q, hq, rfl⟩ := List.mem_map.1 hp; exact clos_fmtC (h q hq)), List.map_map]
    rfl
/-- the normal form of components is read back -/
theorem parse_fmt {l : List Pr} (h : fmtE l = 0) : parseE (fmtV l) = 0 ∧ parseV (fmtV l) = l.map canP := by
  obtain ⟨h1, h2⟩ := fmtE_ok h
  have hp := pieces_fmt h1
  have hv : fmtV l = ofB (barC (l.map fmtC)) := by unfold fmtV; rw [if_pos h]
  have hE : parseE (fmtV l) = 0 := by
    unfold parseE
    rw [hv, hp, firstE_zero (fun p hq => by obtain ⟨q, hq2, rfl⟩ := List.mem_map.1 hq; exact (comp_fmt (h1 q hq2)).1), if_pos rfl, if_neg (by rw [List.length_map]; omega)]
  refine ⟨hE, ?_⟩
  unfold parseV
  rw [if_pos hE, hv, hp, List.map_map]
  apply List.map_congr_left
  intro q hq
  exact (comp_fmt (h1 q hq)).2
theorem fmt_can {l : List Pr} (h : fmtE l = 0) : fmtE (l.map canP) = 0 ∧ fmtV (l.map canP) = fmtV l := by
  obtain ⟨h1, h2⟩ := fmtE_ok h
  have hE : fmtE (l.map canP) = 0 := fmtE_zero (fun p hp => by obtain ⟨q, hq, rfl⟩ := List.mem_map.1 hp; exact prE_can (h1 q hq)) (by rw [List.length_map]; exact h2)
  refine ⟨hE, ?_⟩
  unfold fmtV
  rw [if_pos hE, if_pos h, List.map_map]
  congr 2
  apply List.map_congr_left
  intro q hq
  exact fmtC_can q
theorem norm_fmt {l : List Pr} (h : fmtE l = 0) : normB (fmtV l) = true := by
  unfold normB
  rw [(parse_fmt h).1, (parse_fmt h).2, (fmt_can h).2]
  simp
theorem norm_iff (s : ByteArray) : normB s = true ↔ parseE s = 0 ∧ fmtV (parseV s) = s := by
  unfold normB; simp
theorem comps_fmt {l : List Pr} (h : fmtE l = 0) : compsV (fmtV l) = l.map canP := by
  unfold compsV; rw [norm_fmt h, if_pos rfl, (parse_fmt h).2]
theorem cleanE_eq (s : ByteArray) : cleanE s = parseE s := by
  unfold cleanE
  by_cases h : parseE s = 0
  · rw [if_pos h, fmt_parse_ok h, h]
  · rw [if_neg h]
/-- the components of a normal form -/
structure Comps (l : List Pr) : Prop where
  fine : ∀ p ∈ l, prE p = 0
  few : l.length ≤ 8
  can : l.map canP = l
theorem Comps.fmt {l : List Pr} (h : Comps l) : fmtE l = 0 := fmtE_zero h.fine h.few
theorem comps_norm {s : ByteArray} (h : normB s = true) : Comps (compsV s) ∧ fmtV (compsV s) = s := by
  obtain ⟨h1, h2⟩ := (norm_iff s).1 h
  have h3 := parse_fmt (fmt_parse_ok h1)
  rw [h2] at h3
  unfold compsV
  rw [h, if_pos rfl]
  exact ⟨⟨(parseV_ok h1).1, (parseV_ok h1).2, h3.2.symm⟩, h2⟩
theorem Comps.back {l : List Pr} (h : Comps l) : normB (fmtV l) = true ∧ compsV (fmtV l) = l := ⟨norm_fmt h.fmt, by rw [comps_fmt h.fmt, h.can]⟩
theorem comps_none {s : ByteArray} (h : normB s = false) : compsV s = [] := by unfold compsV; rw [h]; rfl
theorem Comps.drop {l : List Pr} (h : Comps l) (k : Nat) : Comps (l.drop k) :=
  ⟨fun p hp => h.fine p (List.mem_of_mem_drop hp), by rw [List.length_drop]; have := h.few; omega, by rw [List.map_drop, h.can]⟩
theorem Comps.take {l : List Pr} (h : Comps l) (k : Nat) : Comps (l.take k) :=
  ⟨fun p hp => h.fine p (List.mem_of_mem_take hp), by rw [List.length_take]; have := h.few; omega, by rw [List.map_take, h.can]⟩
theorem Comps.app {l m : List Pr} (h : Comps l) (h2 : Comps m) (hn : l.length + m.length ≤ 8) : Comps (l ++ m) :=
  ⟨fun p hp => by rcases List.mem_append.1 hp with hp | hp; exact h.fine p hp; exact h2.fine p hp, by rw [List.length_append]; exact hn, by rw [List.map_append, h.can, h2.can]⟩
theorem fmt_inj {l m : List Pr} (h : Comps l) (h2 : Comps m) (e : fmtV l = fmtV m) : l = m := by
  rw [← h.back.2, ← h2.back.2, e]
theorem compsV_few (s : ByteArray) : (compsV s).length ≤ 8 := by
  cases h : normB s
  · rw [comps_none h]; simp
  · exact (comps_norm h).1.few

end Nam
end Go.Proofs.YtclfjdnemafmeaaGreatDoor
end
