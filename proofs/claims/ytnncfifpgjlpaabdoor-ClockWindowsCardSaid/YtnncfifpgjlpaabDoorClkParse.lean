/-
  The contract of clock.Parse. Condition: the program's table of the lengths of months lies as its text lays it.
-/
import Derived.Test.YtnncfifpgjlpaabDoorClkParts
set_option linter.unusedVariables false
set_option linter.unusedSimpArgs false
set_option linter.unnecessarySimpa false
namespace Go.Proofs.YtnncfifpgjlpaabDoor
open Go.RowKit Go.PlainAid

theorem fit20 (l : List UInt8) (h : l.length = 20) : fitB l = allOk frmS l := by
  unfold fitB
  rw [allOk_short l h, decide_eq_true h, decide_eq_false (show ¬ l.length = 21 by omega)]
  simp
theorem fit21 (l : List UInt8) (h : l.length = 21) (hz : (l.getD 0 0).toNat ≠ 48) : fitB l = allOk frmN l := by
  unfold fitB
  rw [allOk_long l h, decide_eq_true h, decide_eq_false (show ¬ l.length = 20 by omega), decide_eq_false hz]
  simp
/-- what parts answers -/
theorem parts_bad (t : ByteArray) (w : World) (h : fitB t.data.toList = false) :
    Calls Tryd.prog 36 #[.string t] w fun e w' => e = .returned (.tuple #[.agg #[.int .i64 0, .int .i64 0, .int .i64 0, .int .i64 0, .int .i64 0, .int .i64 0], .bool false]) ∧ Below w.heap.size w w' := by
  have hs := Lib.size_eq t
  have hb : bt t 0 = (((t.data.toList.getD 0 0).toNat : Nat) : Int) := bt_chr t 0
  by_cases h0 : t.size = 20
  · rw [fit20 _ (by omega)] at h
    have k := parts_short t w h0
    unfold out_short at k
    rw [h] at k
    exact k
  · by_cases h1 : t.size = 21 ∧ (t.data.toList.getD 0 0).toNat ≠ 48
    · rw [fit21 _ (by omega) h1.2] at h
      have k := parts_long t w h1.1 (by have := h1.2; omega)
      unfold out_long at k
      rw [h] at k
      exact k
    · exact parts_no t w h0 (by
        by_cases h2 : t.size = 21
        · exact .inr (by
            have : (t.data.toList.getD 0 0).toNat = 48 := Decidable.byContradiction fun e => h1 ⟨h2, e⟩
            omega)
        · exact .inl h2)
theorem parts_good (t : ByteArray) (w : World) (y m d h i s : Nat) (hf : fitB t.data.toList = true) (hv : prsV t.data.toList = [y, m, d, h, i, s]) :
    Calls Tryd.prog 36 #[.string t] w fun e w' => e = .returned (.tuple #[.agg #[.int .i64 y, .int .i64 m, .int .i64 d, .int .i64 h, .int .i64 i, .int .i64 s], .bool true]) ∧ Below w.heap.size w w' := by
  have hs := Lib.size_eq t
  have hb : bt t 0 = (((t.data.toList.getD 0 0).toNat : Nat) : Int) := bt_chr t 0
  by_cases h0 : t.size = 20
  · rw [fit20 _ (by omega)] at hf
    have k := parts_short t w h0
    unfold out_short at k
    have e : pv frmS t.data.toList 20 = [y, m, d, h, i, s] := by
      rw [pv_short _ (by omega), ← hv]; unfold prsV; rw [show t.data.toList.length - 16 = 4 by omega]
    rw [hf, if_pos rfl, e] at k
    exact k
  · by_cases h1 : t.size = 21 ∧ (t.data.toList.getD 0 0).toNat ≠ 48
    · rw [fit21 _ (by omega) h1.2] at hf
      have k := parts_long t w h1.1 (by have := h1.2; omega)
      unfold out_long at k
      have e : pv frmN t.data.toList 21 = [y, m, d, h, i, s] := by
        rw [pv_long _ (by omega), ← hv]; unfold prsV; rw [show t.data.toList.length - 16 = 5 by omega]
      rw [hf, if_pos rfl, e] at k
      exact k
    · rw [fit_no _ (by omega) (by
        by_cases h2 : t.size = 21
        · exact .inr (Decidable.byContradiction fun e => h1 ⟨h2, e⟩)
        · exact .inl (by omega))] at hf
      cases hf

theorem valid_k (t : Int) (r : Bool) (w : World) (h : validB t = r) :
    Calls Tryd.prog 10 #[.int .i64 t] w fun e w' => e = .returned (.bool r) ∧ w = w' := by subst h; exact valid_s t w
theorem date_no {y m d h i s : Nat} (hn : ¬ okT y m d h i s) : dateR [y, m, d, h, i, s] = (0, 27) := by
  unfold dateR
  exact if_neg hn
theorem date_yes {y m d h i s : Nat} (hn : okT y m d h i s) : dateR [y, m, d, h, i, s] = (secs y m d h i s, 0) := by
  unfold dateR
  exact if_pos hn

set_option maxRecDepth 100000 in
set_option maxHeartbeats 4000000 in
theorem parse_bad (t : ByteArray) (w : World) (h : fitB t.data.toList = false) :
    Calls Tryd.prog 26 #[.string t] w fun e w' => e = .returned (.tuple #[.int .i64 0, .int .i64 4]) ∧ Below w.heap.size w w' := by
  have H := Lib.hid h
  clear h
  go_enter Tryd.func26, Tryd.ntmps26
  go_wp2_with fail
  refine (parts_bad t _ H.out).mono ?_
  rintro e w1 ⟨rfl, hb⟩
  go_wp2_with fail
  go_ret2
  exact ⟨rfl, hb.alloc hb.size _⟩

set_option maxRecDepth 100000 in
set_option maxHeartbeats 8000000 in
theorem parse_good (t : ByteArray) (w : World) (y m d h i s : Nat) (hf : fitB t.data.toList = true) (hv : prsV t.data.toList = [y, m, d, h, i, s]) (hy : y ≤ 99999) (hm : m ≤ 99) (hd : d ≤ 99) (hh : h ≤ 99) (hi : i ≤ 99) (hs : s ≤ 99) (ho : MonOk w) :
    Calls Tryd.prog 26 #[.string t] w fun e w' => e = .returned (.tuple #[.int .i64 (dateR [y, m, d, h, i, s]).1, .int .i64 (dateR [y, m, d, h, i, s]).2]) ∧ Below w.heap.size w w' := by
  have HP := Lib.hid (fun W => parts_good t W y m d h i s hf hv)
  clear hf hv
  have HO := Lib.hid ho
  clear ho
  have q1 : (0 : Int) ≤ (y : Int) := by omega
  go_enter Tryd.func26, Tryd.ntmps26
  go_wp2_with fail
  refine (HP.out _).mono ?_
  rintro e w1 ⟨rfl, hb⟩
  go_wp2_with fail
  go_quiet (fail)
  go_wp2_with fail
  go_quiet (fail)
  generalize hW1 : World.drewN (World.drewN _ _) _ = W1
  have HB : Hid (Below w.heap.size w W1) := Lib.hid (by rw [← hW1]; exact (hb.alloc hb.size _).trans ⟨rfl, rfl, rfl, Nat.le_refl _, fun _ _ => rfl⟩)
  clear hW1
  by_cases c1 : 1 ≤ m ∧ m ≤ 12 ∧ 1 ≤ d
  · obtain ⟨c1, c2, c3⟩ := c1
    have k1 : ¬ (m : Int) < 1 := by omega
    have k2 : ¬ 12 < (m : Int) := by omega
    have k3 : ¬ (d : Int) < 1 := by omega
    obtain ⟨L, hL⟩ : ∃ L, mlen y m = L := ⟨_, rfl⟩
    have HD := Lib.hid (fun W (h : MonOk W) => show Calls Tryd.prog 37 #[.int .i64 y, .int .i64 m] W fun e w' => e = .returned (.int .i64 (L : Nat)) ∧ W = w' by rw [← hL]; exact daysOfMonth_s y m W c1 c2 h)
    by_cases c4 : d ≤ L
    · have k4 : ¬ (L : Int) < (d : Int) := by omega
      by_cases c5 : h ≤ 23 ∧ i ≤ 59 ∧ s ≤ 59
      · obtain ⟨c5, c6, c7⟩ := c5
        have k5 : ¬ 23 < (h : Int) := by omega
        have k6 : ¬ 59 < (i : Int) := by omega
        have k7 : ¬ 59 < (s : Int) := by omega
        obtain ⟨D, hD⟩ : ∃ D : Int, ((dby y : Nat) : Int) - 719528 + (cumM y (m - 1) : Nat) + d - 1 = D := ⟨_, rfl⟩
        have hDb : -719529 ≤ D ∧ D ≤ 40000000 := by
          have h1 : dby y ≤ 36600000 := by unfold dby; omega
          have h2 := cum_bd y (m - 1) (by omega)
          omega
        obtain ⟨hD1, hD2⟩ := hDb
        have HT := Lib.hid (fun W (h : MonOk W) => show Calls Tryd.prog 38 #[.int .i64 y, .int .i64 m, .int .i64 d] W fun e w' => e = .returned (.int .i64 D) ∧ W = w' by rw [← hD]; exact toDays_s y m d W (by omega) c1 c2 (by omega) h)
        have HS := Lib.hid (show secs y m d h i s = D * 86400 + h * 3600 + i * 60 + s by unfold secs; rw [← hD]; omega)
        obtain ⟨x, hx⟩ : ∃ x : Int, D * 86400 + h * 3600 + i * 60 + s = x := ⟨_, rfl⟩
        rw [hx] at HS
        cases hv : validB x with
        | true =>
          have HF := Lib.hid (show dateR [y, m, d, h, i, s] = (x, 0) by
            unfold validB at hv
            rw [Bool.and_eq_true, decide_eq_true_iff, decide_eq_true_iff] at hv
            rw [date_yes, HS.out]
            refine ⟨?_, c1, c2, c3, by omega, c5, c6, c7, by rw [HS.out]; exact hv.2⟩
            rcases Nat.lt_or_ge y 1970 with hy2 | hy2
            · have h1 := dby_mono (show y + 1 ≤ 1970 by omega)
              have h2 := dby_succ y
              have h3 := dby_1970
              have h4 := num_in (y := y) (m := m) (d := d) ⟨c1, c2, c3, by omega⟩
              unfold numD at h4
              omega
            · exact hy2)
          clear c1 c2 c3 c4 c5 c6 c7 hL hD
          go_wp2_with (first
            | (go_at_call 37; refine (HD.out _ (HO.out.below HB.out)).mono ?_; rintro e w2 ⟨rfl, rfl⟩)
            | (go_at_call 38; refine (HT.out _ (HO.out.below HB.out)).mono ?_; rintro e w2 ⟨rfl, rfl⟩)
            | (go_at_call 10; refine (valid_k _ true _ (by first | exact hv | (rw [hx]; exact hv))).mono ?_; rintro e w2 ⟨rfl, rfl⟩))
          go_ret2
          exact ⟨by rw [HF.out]; first | rfl | rw [hx], HB.out⟩
        | false =>
          have HF := Lib.hid (show dateR [y, m, d, h, i, s] = (0, 27) by
            refine date_no fun hok => ?_
            have h1 := hok.2.2.2.2.2.2.2.2
            rw [HS.out] at h1
            have h0 : 0 ≤ x := by
              have h1 := dby_mono hok.1
              have h3 := dby_1970
              omega
            unfold validB at hv
            rw [decide_eq_true h0, decide_eq_true h1] at hv
            cases hv)
          clear c1 c2 c3 c4 c5 c6 c7 hL hD
          go_wp2_with (first
            | (go_at_call 37; refine (HD.out _ (HO.out.below HB.out)).mono ?_; rintro e w2 ⟨rfl, rfl⟩)
            | (go_at_call 38; refine (HT.out _ (HO.out.below HB.out)).mono ?_; rintro e w2 ⟨rfl, rfl⟩)
            | (go_at_call 10; refine (valid_k _ false _ (by first | exact hv | (rw [hx]; exact hv))).mono ?_; rintro e w2 ⟨rfl, rfl⟩))
          go_ret2
          exact ⟨by rw [HF.out]; rfl, HB.out⟩
      · have HF := Lib.hid (show dateR [y, m, d, h, i, s] = (0, 27) by
          refine date_no fun hok => c5 ⟨hok.2.2.2.2.2.1, hok.2.2.2.2.2.2.1, hok.2.2.2.2.2.2.2.1⟩)
        clear hL c1 c2 c3 c4
        by_cases j1 : h ≤ 23
        · have k5 : ¬ 23 < (h : Int) := by omega
          by_cases j2 : i ≤ 59
          · have k6 : ¬ 59 < (i : Int) := by omega
            have k7 : 59 < (s : Int) := by omega
            clear c5 j1 j2
            go_wp2_with (go_at_call 37; refine (HD.out _ (HO.out.below HB.out)).mono ?_; rintro e w2 ⟨rfl, rfl⟩)
            go_ret2
            exact ⟨by rw [HF.out]; rfl, HB.out⟩
          · have k6 : 59 < (i : Int) := by omega
            clear c5 j1 j2
            go_wp2_with (go_at_call 37; refine (HD.out _ (HO.out.below HB.out)).mono ?_; rintro e w2 ⟨rfl, rfl⟩)
            go_ret2
            exact ⟨by rw [HF.out]; rfl, HB.out⟩
        · have k5 : 23 < (h : Int) := by omega
          clear c5 j1
          go_wp2_with (go_at_call 37; refine (HD.out _ (HO.out.below HB.out)).mono ?_; rintro e w2 ⟨rfl, rfl⟩)
          go_ret2
          exact ⟨by rw [HF.out]; rfl, HB.out⟩
    · have HF := Lib.hid (show dateR [y, m, d, h, i, s] = (0, 27) by
        refine date_no fun hok => c4 (by have := hok.2.2.2.2.1; omega))
      have k4 : (L : Int) < (d : Int) := by omega
      clear hL c1 c2 c3 c4
      go_wp2_with (go_at_call 37; refine (HD.out _ (HO.out.below HB.out)).mono ?_; rintro e w2 ⟨rfl, rfl⟩)
      go_ret2
      exact ⟨by rw [HF.out]; rfl, HB.out⟩
  · have HF := Lib.hid (show dateR [y, m, d, h, i, s] = (0, 27) by
      refine date_no fun hok => c1 ⟨hok.2.1, hok.2.2.1, hok.2.2.2.1⟩)
    by_cases j1 : 1 ≤ m
    · have k1 : ¬ (m : Int) < 1 := by omega
      by_cases j2 : m ≤ 12
      · have k2 : ¬ 12 < (m : Int) := by omega
        have k3 : (d : Int) < 1 := by omega
        clear c1 j1 j2
        go_wp2_with fail
        go_ret2
        exact ⟨by rw [HF.out]; rfl, HB.out⟩
      · have k2 : 12 < (m : Int) := by omega
        clear c1 j1 j2
        go_wp2_with fail
        go_ret2
        exact ⟨by rw [HF.out]; rfl, HB.out⟩
    · have k1 : (m : Int) < 1 := by omega
      clear c1 j1
      go_wp2_with fail
      go_ret2
      exact ⟨by rw [HF.out]; rfl, HB.out⟩

/-- clock.Parse at every string -/
theorem parse_s (t : ByteArray) (w : World) (ho : MonOk w) :
    Calls Tryd.prog 26 #[.string t] w fun e w' => e = .returned (.tuple #[.int .i64 (parseR t.data.toList).1, .int .i64 (parseR t.data.toList).2]) ∧ Below w.heap.size w w' := by
  unfold parseR
  cases hf : fitB t.data.toList with
  | false => exact parse_bad t w hf
  | true =>
    obtain ⟨y, m, d, h, i, s, hv, h1, h2, h3, h4, h5, h6, _⟩ := cal_prs _ hf
    rw [if_pos rfl, hv]
    exact parse_good t w y m d h i s hf hv h1 h2 h3 h4 h5 h6 ho

end Go.Proofs.YtnncfifpgjlpaabDoor
