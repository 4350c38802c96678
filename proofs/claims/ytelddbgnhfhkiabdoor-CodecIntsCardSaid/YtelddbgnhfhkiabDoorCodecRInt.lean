/-
  Contracts of the specification's decimal, ReadInt and Int. Condition: at most 1000000000 bytes; an int.
-/
import Derived.Test.YtelddbgnhfhkiabDoorCodecIntP
import Derived.Test.YtelddbgnhfhkiabDoorCodecREsc
set_option linter.unusedVariables false
set_option linter.unusedSimpArgs false
set_option linter.unnecessarySimpa false
namespace Go.Proofs.YtelddbgnhfhkiabDoor
open Go.RowKit Go.PlainAid

theorem all_get {t : ByteArray} (h : t.data.toList.all digB = true) (j : Nat) (hj : j < t.size) : 48 ≤ bt t j ∧ bt t j ≤ 57 := by
  have hm : chr t j ∈ t.data.toList := by
    unfold chr
    rw [List.getD_eq_getElem?_getD, List.getElem?_eq_getElem (by simpa using hj)]
    exact List.getElem_mem _
  have := digB_bounds (List.all_eq_true.1 h _ hm)
  rw [bt_chr]; omega
theorem get_all {t : ByteArray} (h : ∀ j, j < t.size → digB (chr t j) = true) : t.data.toList.all digB = true := by
  rw [List.all_eq_true]
  intro c hc
  obtain ⟨j, hj, rfl⟩ := List.getElem_of_mem hc
  have := h j (by simpa using hj)
  unfold chr at this
  rw [List.getD_eq_getElem?_getD, List.getElem?_eq_getElem hj] at this
  exact this
theorem all_bad {t : ByteArray} (j : Nat) (h : j < t.size) (hd : digB (chr t j) = false) : t.data.toList.all digB = false := by
  rw [List.all_eq_false]
  refine ⟨chr t j, ?_, by rw [hd]; simp⟩
  unfold chr
  rw [List.getD_eq_getElem?_getD, List.getElem?_eq_getElem (by simpa using h)]
  exact List.getElem_mem _
theorem digs_other {t : ByteArray} (h0 : t.size ≠ 0) (h1 : chr t 0 ≠ 48) : digsB t.data.toList = t.data.toList.all digB := by
  unfold chr at h1
  cases e : t.data.toList with
  | nil => exact absurd (show t.size = 0 by rw [Lib.size_eq, e]; rfl) h0
  | cons c r =>
    rw [e] at h1
    unfold digsB
    have : (c == 48) = false := by simpa using h1
    dsimp only
    rw [this]; rfl

set_option maxRecDepth 100000 in
set_option maxHeartbeats 4000000 in
theorem rdecimal_s (t : ByteArray) (z r : Bool) (w : World) (hs : t.size ≤ 1000000000) (hr : (digsB t.data.toList || (z && decide (t.data.toList = [48]))) = r) :
    Calls Tryd.prog 37 #[.string t, .bool z] w fun e w' => e = .returned (.bool r) ∧ w = w' := by
  have HR := Lib.hid hr; clear hr
  have hb := get_bt t
  by_cases h0 : t.size = 0
  · have HF := Lib.hid (show r = false by
      rw [← HR.out, List.length_eq_zero_iff.1 (show t.data.toList.length = 0 by rw [← Lib.size_eq]; exact h0)]; cases z <;> rfl)
    have e0 : ((t.size : Int) == 0) = true := beq_iff_eq.2 (by omega)
    go_enter Tryd.func37, Tryd.ntmps37
    go_wp2
    go_ret
    exact ⟨by rw [HF.out]; rfl, rfl⟩
  · have hpos : 0 < t.size := by omega
    have e0 : ((t.size : Int) == 0) = false := beq_false_of_ne (by omega)
    have h00 := bt_nonneg t 0
    have hone : t.data.toList = [48] ↔ chr t 0 = 48 ∧ t.size = 1 := by
      rw [Lib.size_eq]; unfold chr
      cases e : t.data.toList with
      | nil => simp
      | cons c l => cases l <;> simp
    by_cases hg : chr t 0 = 48 ∧ (1 < t.size ∨ z = false)
    · have h3 : (bt t 0 == 48) = true := by rw [bt_chr, hg.1]; rfl
      have HF := Lib.hid (show r = false by
        rw [← HR.out, digs_zero hg.1, Bool.false_or]
        rcases hg.2 with k | k
        · rw [decide_eq_false (fun e => by have := (hone.1 e).2; omega), Bool.and_false]
        · rw [k]; rfl)
      rcases hg.2 with k | rfl
      · have g1 : (1 : Int) < (t.size : Int) := by omega
        clear hg hone
        go_enter Tryd.func37, Tryd.ntmps37
        go_wp2
        go_ret
        exact ⟨by rw [HF.out]; rfl, rfl⟩
      · clear hg hone
        by_cases k : 1 < t.size
        · have g1 : (1 : Int) < (t.size : Int) := by omega
          go_enter Tryd.func37, Tryd.ntmps37
          go_wp2
          go_ret
          exact ⟨by rw [HF.out]; rfl, rfl⟩
        · have g1 : ¬ (1 : Int) < (t.size : Int) := by omega
          go_enter Tryd.func37, Tryd.ntmps37
          go_wp2
          go_ret
          exact ⟨by rw [HF.out]; rfl, rfl⟩
    · have HE : Hid (r = t.data.toList.all digB) := Lib.hid (by
        rw [← HR.out]
        by_cases k : chr t 0 = 48
        · have k1 : t.size = 1 := by
            rcases Nat.lt_or_ge 1 t.size with x | x
            · exact absurd ⟨k, .inl x⟩ hg
            · omega
          have k2 : z = true := by
            cases z
            · exact absurd ⟨k, .inr rfl⟩ hg
            · rfl
          rw [k2, hone.2 ⟨k, k1⟩]; decide
        · rw [digs_other (by omega) k, decide_eq_false (fun e => k (hone.1 e).1), Bool.and_false, Bool.or_false])
      rcases (show (bt t 0 == 48) = false ∨ ((bt t 0 == 48) = true ∧ ¬ (1 : Int) < (t.size : Int) ∧ z = true) by
        by_cases k : chr t 0 = 48
        · refine .inr ⟨by rw [bt_chr, k]; rfl, ?_, ?_⟩
          · intro x; exact hg ⟨k, .inl (by omega)⟩
          · cases z
            · exact absurd ⟨k, .inr rfl⟩ hg
            · rfl
        · refine .inl (beq_false_of_ne fun e => k ?_)
          rw [bt_chr] at e
          have h4 : (48 : UInt8).toNat = 48 := rfl
          exact UInt8.toNat_inj.1 (by omega)) with h3 | ⟨h3, g1, rfl⟩
      all_goals
        clear hg hone
        go_enter Tryd.func37, Tryd.ntmps37
        go_wp2
        go_loop [5] (fun i => ∃ k : Nat, k ≤ t.size ∧ i = .int .i64 k ∧ Hid (∀ j, j < k → digB (chr t j) = true)) (fun i => t.size - (intOf i).toNat)
        case atStart => exact ⟨0, Nat.zero_le _, rfl, Lib.hid fun j hj => absurd hj (Nat.not_lt_zero _)⟩
        case round =>
          obtain ⟨k, hk, rfl, HA⟩ := hrel
          by_cases hlt : k < t.size
          · have hk0 := bt_nonneg t k
            by_cases d1 : 48 ≤ bt t k
            · by_cases d2 : bt t k ≤ 57
              · have HD := Lib.hid (show digB (chr t k) = true by
                  have := bt_chr t k
                  unfold digB; simp; omega)
                go_wp2
                go_round
                case rel => exact ⟨k + 1, by omega, by go_num, Lib.hid fun j hj => if e : j = k then by rw [e]; exact HD.out else HA.out j (by omega)⟩
                case measure => simp [intOf]; omega
              · have HF := Lib.hid (show r = false by
                  rw [HE.out]; refine all_bad k hlt ?_
                  have := bt_chr t k
                  unfold digB; simp; omega)
                have d3 : 57 < bt t k := by omega
                go_wp2
                go_ret
                exact ⟨by rw [HF.out]; rfl, rfl⟩
            · have HF := Lib.hid (show r = false by
                rw [HE.out]; refine all_bad k hlt ?_
                have := bt_chr t k
                unfold digB; simp; omega)
              have d3 : bt t k < 48 := by omega
              go_wp2
              go_ret
              exact ⟨by rw [HF.out]; rfl, rfl⟩
          · have HF := Lib.hid (show r = true by
              rw [HE.out]; exact get_all fun j hj => HA.out j (by omega))
            go_wp2
            go_ret
            exact ⟨by rw [HF.out]; rfl, rfl⟩

/-- the digits read so far -/
theorem val_step (t : ByteArray) (k : Nat) (h : k < t.size) : valD (t.data.toList.take (k + 1)) = 10 * valD (t.data.toList.take k) + ((chr t k).toNat - 48) := by
  have e : t.data.toList.take (k + 1) = t.data.toList.take k ++ [chr t k] := by
    unfold chr
    rw [List.take_add_one, List.getD_eq_getElem?_getD, List.getElem?_eq_getElem (by simpa using h)]; rfl
  rw [e, valD_snoc]
theorem quo_fact (d : Int) (h0 : 0 ≤ d) (h1 : d ≤ 9) : (-9223372036854775808 + d).tdiv 10 = -((9223372036854775808 - d) / 10) := by
  rw [show (-9223372036854775808 + d) = -(9223372036854775808 - d) by omega, Int.neg_tdiv, Int.tdiv_eq_ediv_of_nonneg (by omega)]

set_option maxRecDepth 100000 in
set_option maxHeartbeats 8000000 in
theorem rreadInt_s (s : ByteArray) (w : World) (hs : s.size ≤ 1000000000) :
    Calls Tryd.prog 14 #[.string s] w fun e w' => e = .returned (.tuple #[.int .i64 (readI s.data.toList).1, .int .i64 (readI s.data.toList).2]) ∧ w = w' := by
  have hbs := get_bt s
  by_cases h0 : s.size = 0
  · have HE := Lib.hid (show readI s.data.toList = (0, 4) by
      rw [List.length_eq_zero_iff.1 (show s.data.toList.length = 0 by rw [← Lib.size_eq]; exact h0)]; decide)
    have hn : s.data.toList = [] := List.length_eq_zero_iff.1 (show s.data.toList.length = 0 by rw [← Lib.size_eq]; exact h0)
    have e0 : ¬ (0 : Int) < (s.size : Int) := by omega
    have HN := Lib.hid hn; clear hn
    go_enter Tryd.func14, Tryd.ntmps14
    go_wp2_with fail
    refine (rdecimal_s s true false _ hs (by rw [HN.out]; rfl)).mono ?_
    rintro e w' ⟨rfl, rfl⟩
    go_wp2
    go_ret2
    exact ⟨by rw [HE.out]; rfl, rfl⟩
  · have hpos : 0 < s.size := by omega
    have e0 : (0 : Int) < (s.size : Int) := by omega
    have h00 := bt_nonneg s 0
    by_cases h2 : chr s 0 = 45
    · have h3 : (bt s 0 == 45) = true := by rw [bt_chr, h2]; rfl
      obtain ⟨t, ht⟩ : ∃ t, t = s.extract 1 s.size := ⟨_, rfl⟩
      have hdt : s.data.toList = 45 :: t.data.toList := by
        have := drop_chr s 0 hpos
        rw [List.drop_zero, h2] at this
        rw [this, ht, Lib.extract_from]
      have hts : t.size + 1 = s.size := by rw [Lib.size_eq s, hdt, List.length_cons, ← Lib.size_eq]
      have HD := Lib.hid hdt; clear hdt h2
      cases hd : digsB t.data.toList
      · have HE := Lib.hid (show readI s.data.toList = (0, 4) by rw [HD.out]; exact readI_bad (by rw [dec_minus, hd]))
        go_enter Tryd.func14, Tryd.ntmps14
        go_wp2_with fail
        rw [← ht]
        refine (rdecimal_s t false false _ (by omega) (by rw [hd]; rfl)).mono ?_
        rintro e w' ⟨rfl, rfl⟩
        go_wp2
        go_ret2
        exact ⟨by rw [HE.out]; rfl, rfl⟩
      · have HE := Lib.hid (show readI s.data.toList = if valD t.data.toList ≤ 9223372036854775808 then (-(valD t.data.toList : Int), 0) else (0, 27) by rw [HD.out]; exact readI_minus hd)
        have HA := Lib.hid (digs_parts hd).2
        have HDT := Lib.hid hd
        have hb := get_bt t
        go_enter Tryd.func14, Tryd.ntmps14
        go_wp2_with fail
        rw [← ht]
        refine (rdecimal_s t false true _ (by omega) (by rw [HDT.out]; rfl)).mono ?_
        rintro e w' ⟨rfl, rfl⟩
        clear ht hd
        go_wp2_with fail
        go_loop [7, 8] (fun n i => ∃ k m : Nat, k ≤ t.size ∧ i = .int .i64 k ∧ n = .int .i64 (-(m : Int)) ∧ m ≤ 9223372036854775808 ∧ Hid (valD (t.data.toList.take k) = m)) (fun _ i => t.size - (intOf i).toNat)
        case atStart => exact ⟨0, 0, Nat.zero_le _, rfl, rfl, by omega, Lib.hid rfl⟩
        case round =>
          obtain ⟨k, m, hk, rfl, rfl, hm, HV⟩ := hrel
          by_cases hlt : k < t.size
          · obtain ⟨d1, d2⟩ := all_get HA.out k hlt
            have HC := Lib.hid (bt_chr t k)
            have HS := Lib.hid (val_step t k hlt)
            have hq := quo_fact (bt t k - 48) (by omega) (by omega)
            by_cases hr : 10 * (m : Int) + (bt t k - 48) ≤ 9223372036854775808
            · have hn : ¬ (-(m : Int)) < -((9223372036854775808 - (bt t k - 48)) / 10) := by omega
              go_wp2
              go_round
              case rel => exact ⟨k + 1, 10 * m + ((chr t k).toNat - 48), by omega, by go_num, by congr 1; have := HC.out; omega, by have := HC.out; omega, Lib.hid (by rw [HS.out, HV.out])⟩
              case measure => simp [intOf]; omega
            · have hn : (-(m : Int)) < -((9223372036854775808 - (bt t k - 48)) / 10) := by omega
              have HF := Lib.hid (show readI s.data.toList = (0, 27) by
                have h1 := valD_take_le t.data.toList (k + 1)
                rw [HS.out, HV.out] at h1
                rw [HE.out, if_neg]
                have := HC.out; omega)
              go_wp2
              go_ret2
              exact ⟨by rw [HF.out]; rfl, rfl⟩
          · have HF := Lib.hid (show readI s.data.toList = (-(m : Int), 0) by
              have hT : t.data.toList.take k = t.data.toList := List.take_of_length_le (by rw [← Lib.size_eq]; omega)
              have h1 := HV.out
              rw [hT] at h1
              rw [HE.out, h1, if_pos hm])
            go_wp2
            go_ret2
            exact ⟨by rw [HF.out]; rfl, rfl⟩
    · have h3 : (bt s 0 == 45) = false := by
        refine beq_false_of_ne fun e => h2 ?_
        rw [bt_chr] at e
        have h4 : (45 : UInt8).toNat = 45 := rfl
        exact UInt8.toNat_inj.1 (by omega)
      have hdec : decB s.data.toList = (digsB s.data.toList || (true && decide (s.data.toList = [48]))) := by
        have hst : stripL s.data.toList = s.data.toList := by
          have := drop_chr s 0 hpos
          rw [List.drop_zero] at this
          rw [this]
          exact strip_plain _ _ h2
        unfold decB
        rw [hst, Bool.true_and, Bool.or_comm]
      clear h2
      have HDE := Lib.hid hdec
      cases hd : decB s.data.toList
      · have HE := Lib.hid (show readI s.data.toList = (0, 4) from readI_bad hd)
        have HK := Lib.hid (hdec.symm.trans hd)
        clear hd hdec
        go_enter Tryd.func14, Tryd.ntmps14
        go_wp2_with fail
        refine (rdecimal_s s true false _ hs HK.out).mono ?_
        rintro e w' ⟨rfl, rfl⟩
        go_wp2
        go_ret2
        exact ⟨by rw [HE.out]; rfl, rfl⟩
      · have hd2 : digsB s.data.toList = true ∨ s.data.toList = [48] := by
          rw [hd] at hdec
          have := hdec.symm
          rw [Bool.or_eq_true, Bool.true_and, decide_eq_true_iff] at this
          exact this
        have HE := Lib.hid (show readI s.data.toList = if valD s.data.toList < 9223372036854775808 then ((valD s.data.toList : Int), 0) else (0, 27) by
          rcases hd2 with k | k
          · exact readI_plain k
          · rw [k]; decide)
        have HA := Lib.hid (show s.data.toList.all digB = true by
          rcases hd2 with k | k
          · exact (digs_parts k).2
          · rw [k]; decide)
        have HK := Lib.hid (hdec.symm.trans hd)
        clear hd hdec hd2
        go_enter Tryd.func14, Tryd.ntmps14
        go_wp2_with fail
        refine (rdecimal_s s true true _ hs HK.out).mono ?_
        rintro e w' ⟨rfl, rfl⟩
        go_wp2_with fail
        go_loop [7, 8] (fun n i => ∃ k m : Nat, k ≤ s.size ∧ i = .int .i64 k ∧ n = .int .i64 (-(m : Int)) ∧ m ≤ 9223372036854775808 ∧ Hid (valD (s.data.toList.take k) = m)) (fun _ i => s.size - (intOf i).toNat)
        case atStart => exact ⟨0, 0, Nat.zero_le _, rfl, rfl, by omega, Lib.hid rfl⟩
        case round =>
          obtain ⟨k, m, hk, rfl, rfl, hm, HV⟩ := hrel
          by_cases hlt : k < s.size
          · obtain ⟨d1, d2⟩ := all_get HA.out k hlt
            have HC := Lib.hid (bt_chr s k)
            have HS := Lib.hid (val_step s k hlt)
            have hq := quo_fact (bt s k - 48) (by omega) (by omega)
            by_cases hr : 10 * (m : Int) + (bt s k - 48) ≤ 9223372036854775808
            · have hn : ¬ (-(m : Int)) < -((9223372036854775808 - (bt s k - 48)) / 10) := by omega
              go_wp2
              go_round
              case rel => exact ⟨k + 1, 10 * m + ((chr s k).toNat - 48), by omega, by go_num, by congr 1; have := HC.out; omega, by have := HC.out; omega, Lib.hid (by rw [HS.out, HV.out])⟩
              case measure => simp [intOf]; omega
            · have hn : (-(m : Int)) < -((9223372036854775808 - (bt s k - 48)) / 10) := by omega
              have HF := Lib.hid (show readI s.data.toList = (0, 27) by
                have h1 := valD_take_le s.data.toList (k + 1)
                rw [HS.out, HV.out] at h1
                rw [HE.out, if_neg]
                have := HC.out; omega)
              go_wp2
              go_ret2
              exact ⟨by rw [HF.out]; rfl, rfl⟩
          · have hT : s.data.toList.take k = s.data.toList := List.take_of_length_le (by rw [← Lib.size_eq]; omega)
            have h1 := HV.out
            rw [hT] at h1
            have H1 := Lib.hid h1
            clear h1 hT
            by_cases hm2 : m = 9223372036854775808
            · have HF := Lib.hid (show readI s.data.toList = (0, 27) by rw [HE.out, H1.out, if_neg (by omega)])
              have hl : ((-(m : Int)) == -9223372036854775808) = true := beq_iff_eq.2 (by omega)
              go_wp2
              go_ret2
              exact ⟨by rw [HF.out]; rfl, rfl⟩
            · have HF := Lib.hid (show readI s.data.toList = ((m : Int), 0) by rw [HE.out, H1.out, if_pos (by omega)])
              have hl : ((-(m : Int)) == -9223372036854775808) = false := beq_false_of_ne (by omega)
              go_wp2
              go_ret2
              exact ⟨by rw [HF.out]; rfl, rfl⟩

end Go.Proofs.YtelddbgnhfhkiabDoor
