/-
  Contracts of valid, Valid and Implies of both sides. Condition: strings of at most 1000000 bytes.
-/
import Derived.Test.YtminodinhbcgnaaDoorScoM
import Derived.Test.YtminodinhbcgnaaDoorShelfA
set_option maxRecDepth 100000
set_option linter.unusedVariables false
set_option linter.unusedSimpArgs false
set_option linter.unnecessarySimpa false
namespace Go.Proofs.YtminodinhbcgnaaDoor
open Go.RowKit Go.PlainAid

theorem word_k (s : ByteArray) (x : Bool) (w : World) (hs : s.size ≤ 1000000) (hx : wordB s = x) :
    Calls Tryd.prog 47 #[.string s] w fun e w' => e = .returned (.bool x) ∧ w = w' := hx ▸ word_s s w (by omega)
theorem rword_k (s : ByteArray) (x : Bool) (w : World) (hs : s.size ≤ 1000000) (hx : wordB s = x) :
    Calls Tryd.prog 51 #[.string s] w fun e w' => e = .returned (.bool x) ∧ w = w' := hx ▸ rWord_s s w (by omega)
theorem pref_k (s p : ByteArray) (x : Bool) (w : World) (hx : Lib.hasPrefix s.data.toList p.data.toList = x) :
    Calls Tryd.prog 39 #[.string s, .string p] w fun e w' => e = .returned (.bool x) ∧ w = w' := by
  subst hx; exact (Tryd.strings_HasPrefix s p w).mono fun e w' h => ⟨h.1, h.2.symm⟩
theorem suff_k (s p : ByteArray) (x : Bool) (w : World) (hs : s.size ≤ 1000000) (hx : Lib.hasSuffix s.data.toList p.data.toList = x) :
    Calls Tryd.prog 48 #[.string s, .string p] w fun e w' => e = .returned (.bool x) ∧ w = w' := by
  subst hx; exact (Tryd.strings_HasSuffix s p w (by omega)).mono fun e w' h => ⟨h.1, h.2.symm⟩
theorem con_k (s p : ByteArray) (x : Bool) (w : World) (hs : s.size ≤ 1000000) (ho : MaxOk w) (hx : Lib.contains s.data.toList p.data.toList = x) :
    Calls Tryd.prog 49 #[.string s, .string p] w fun e w' => e = .returned (.bool x) ∧ w = w' := by
  obtain ⟨m, hm⟩ := ho
  subst hx
  exact (Tryd.strings_Contains s p m w (by omega) hm).mono fun e w' h => ⟨h.1, h.2.symm⟩
theorem vd_parts (s : ByteArray) : vdB s = (wordB s && !Lib.hasPrefix s.data.toList [46] && !Lib.hasSuffix s.data.toList [46] && !Lib.contains s.data.toList [46, 46]) := by
  unfold vdB
  cases hw : wordB s with
  | false => simp
  | true =>
    rw [dot_pre hw, dot_suf hw, dd_con]
set_option maxHeartbeats 2000000 in
theorem valid_k (s : ByteArray) (x : Bool) (w : World) (hs : s.size ≤ 1000000) (ho : MaxOk w) (hx : vdB s = x) :
    Calls Tryd.prog 32 #[.string s] w fun e w' => e = .returned (.bool x) ∧ w = w' := by
  rw [vd_parts] at hx
  obtain ⟨b0, h0⟩ : ∃ b, wordB s = b := ⟨_, rfl⟩
  obtain ⟨b1, h1⟩ : ∃ b, Lib.hasPrefix s.data.toList [46] = b := ⟨_, rfl⟩
  obtain ⟨b2, h2⟩ : ∃ b, Lib.hasSuffix s.data.toList [46] = b := ⟨_, rfl⟩
  obtain ⟨b3, h3⟩ : ∃ b, Lib.contains s.data.toList [46, 46] = b := ⟨_, rfl⟩
  rw [h0, h1, h2, h3] at hx
  have H0 := Lib.hid (fun W => word_k s b0 W hs h0)
  have H1 := Lib.hid (fun W => pref_k s ⟨#[46]⟩ b1 W h1)
  have H2 := Lib.hid (fun W => suff_k s ⟨#[46]⟩ b2 W hs h2)
  have H3 := Lib.hid (con_k s ⟨#[46, 46]⟩ b3 w hs ho h3)
  have HX := Lib.hid hx.symm
  clear h0 h1 h2 h3 hx ho
  go_enter Tryd.func32, Tryd.ntmps32
  go_wp2_with fail
  refine (H0.out _).mono ?_
  rintro e w' ⟨rfl, rfl⟩
  cases b0 with
  | false =>
    go_wp2_with fail
    go_ret
    exact ⟨by rw [HX.out]; rfl, rfl⟩
  | true =>
    go_wp2_with fail
    refine (H1.out _).mono ?_
    rintro e w' ⟨rfl, rfl⟩
    cases b1 with
    | true =>
      go_wp2_with fail
      go_ret
      exact ⟨by rw [HX.out]; rfl, rfl⟩
    | false =>
      go_wp2_with fail
      refine (H2.out _).mono ?_
      rintro e w' ⟨rfl, rfl⟩
      cases b2 with
      | true =>
        go_wp2_with fail
        go_ret
        exact ⟨by rw [HX.out]; rfl, rfl⟩
      | false =>
        go_wp2_with fail
        refine H3.out.mono ?_
        rintro e w' ⟨rfl, rfl⟩
        go_wp2_with fail
        go_ret
        exact ⟨by rw [HX.out]; rfl, rfl⟩
set_option maxHeartbeats 2000000 in
theorem rvalid_k (s : ByteArray) (x : Bool) (w : World) (hs : s.size ≤ 1000000) (hx : vdB s = x) :
    Calls Tryd.prog 34 #[.string s] w fun e w' => e = .returned (.bool x) ∧ w = w' := by
  have hb := get_bt s
  cases hw : wordB s with
  | false =>
    have HW := Lib.hid (fun W => rword_k s false W hs hw)
    have HX := Lib.hid (show x = false by rw [← hx]; unfold vdB; rw [hw]; rfl)
    clear hx hw
    go_enter Tryd.func34, Tryd.ntmps34
    go_wp2_with fail
    refine (HW.out _).mono ?_
    rintro e w' ⟨rfl, rfl⟩
    go_wp2_with fail
    go_ret
    exact ⟨by rw [HX.out]; rfl, rfl⟩
  | true =>
    have HW := Lib.hid (fun W => rword_k s true W hs hw)
    have hz := (word_size hw).1
    have hsub : IntKind.i64.wrap ((s.size : Int) - 1) = ((s.size - 1 : Nat) : Int) := by rw [IntWalk.i64_in _ ⟨by omega, by omega⟩]; omega
    cases c0 : (bt s 0 == 46) with
    | true =>
      have HX := Lib.hid (show x = false by rw [← hx]; unfold vdB; rw [show dotP s 0 = true from c0]; simp)
      clear hx hw
      go_enter Tryd.func34, Tryd.ntmps34
      go_wp2_with fail
      refine (HW.out _).mono ?_
      rintro e w' ⟨rfl, rfl⟩
      go_wp2_with fail
      go_ret
      exact ⟨by rw [HX.out]; rfl, rfl⟩
    | false =>
      cases c1 : (bt s (s.size - 1) == 46) with
      | true =>
        have HX := Lib.hid (show x = false by rw [← hx]; unfold vdB; rw [show dotP s (s.size - 1) = true from c1]; simp)
        clear hx hw
        go_enter Tryd.func34, Tryd.ntmps34
        go_wp2_with fail
        refine (HW.out _).mono ?_
        rintro e w' ⟨rfl, rfl⟩
        go_wp2_with fail
        go_ret
        exact ⟨by rw [HX.out]; rfl, rfl⟩
      | false =>
        have HV := Lib.hid (show x = !ddB s by rw [← hx]; unfold vdB; rw [hw, show dotP s 0 = false from c0, show dotP s (s.size - 1) = false from c1]; simp)
        clear hx hw
        go_enter Tryd.func34, Tryd.ntmps34
        go_wp2_with fail
        refine (HW.out _).mono ?_
        rintro e w' ⟨rfl, rfl⟩
        go_wp2_with fail
        go_loop [3] (fun i => ∃ k : Nat, k + 1 ≤ s.size ∧ i = .int .i64 ((k + 1 : Nat) : Int) ∧ Hid (∀ j, j < k → (dotP s j && dotP s (j + 1)) = false)) (fun i => s.size - (intOf i).toNat)
        case atStart => exact ⟨0, by omega, rfl, Lib.hid fun j hj => absurd hj (Nat.not_lt_zero _)⟩
        case round =>
          obtain ⟨k, hk, rfl, HA⟩ := hrel
          by_cases hlt : k + 1 < s.size
          · have d1 : ((k + 1 : Nat) : Int) < (s.size : Int) := by omega
            have hs1 : IntKind.i64.wrap (((k + 1 : Nat) : Int) - 1) = (k : Int) := by rw [IntWalk.i64_in _ ⟨by omega, by omega⟩]; omega
            have hs2 : IntKind.i64.wrap ((k : Int) + 1 - 1) = (k : Int) := by rw [IntWalk.i64_in _ ⟨by omega, by omega⟩]; omega
            cases e1 : (bt s (k + 1) == 46) with
            | false =>
              have HN := Lib.hid (show (dotP s k && dotP s (k + 1)) = false by rw [show dotP s (k + 1) = false from e1, Bool.and_false])
              go_wp2_with fail
              go_round
              case rel =>
                refine ⟨k + 1, by omega, by go_num, Lib.hid fun j hj => ?_⟩
                by_cases e : j = k
                · rw [e]; exact HN.out
                · exact HA.out j (by omega)
              case measure => simp [intOf]; omega
            | true =>
              cases e2 : (bt s k == 46) with
              | false =>
                have HN := Lib.hid (show (dotP s k && dotP s (k + 1)) = false by rw [show dotP s k = false from e2, Bool.false_and])
                go_wp2_with fail
                go_round
                case rel =>
                  refine ⟨k + 1, by omega, by go_num, Lib.hid fun j hj => ?_⟩
                  by_cases e : j = k
                  · rw [e]; exact HN.out
                  · exact HA.out j (by omega)
                case measure => simp [intOf]; omega
              | true =>
                have HX := Lib.hid (show x = false by rw [HV.out, ddB_iff.2 ⟨k, hlt, e2, e1⟩]; rfl)
                go_wp2_with fail
                go_ret
                exact ⟨by rw [HX.out]; rfl, rfl⟩
          · have hke : k + 1 = s.size := by omega
            have HX := Lib.hid (show x = true by
              rw [HV.out]
              cases hd : ddB s with
              | false => rfl
              | true =>
                obtain ⟨j, h1, h2, h3⟩ := ddB_iff.1 hd
                have := HA.out j (by omega)
                rw [h2, h3] at this
                cases this)
            go_wp2_with fail
            go_ret
            exact ⟨by rw [HX.out]; rfl, rfl⟩

/-! ### Implies -/
theorem ba_app (a b : ByteArray) : (a ++ b).data.toList = a.data.toList ++ b.data.toList := by
  rw [ByteArray.data_append, Array.toList_append]
theorem imp_prog (a b : ByteArray) : impL a.data.toList b.data.toList = (decide (a = b) || Lib.hasPrefix b.data.toList (a ++ ⟨#[46]⟩).data.toList) := by
  unfold impL Lib.hasPrefix
  rw [ba_app]
  rw [decide_eq_decide.2 (ba_inj (a := a) (b := b))]
theorem imp_spec (a b : ByteArray) (h : a ≠ b) : impL a.data.toList b.data.toList = (decide (a.size < b.size) && decide (b.extract 0 (a.size + 1) = a ++ ⟨#[46]⟩)) := by
  unfold impL
  rw [decide_eq_false (fun e => h (ba_ext e)), Bool.false_or, Bool.eq_iff_iff, List.isPrefixOf_iff_prefix, Bool.and_eq_true, decide_eq_true_eq, decide_eq_true_eq]
  have e1 : (b.extract 0 (a.size + 1)).data.toList = b.data.toList.take (a.size + 1) := by
    rw [← Lib.toList_data, Lib.extract_toList]; simp
  have hl : (a.data.toList ++ [46]).length = a.size + 1 := by rw [List.length_append, ← Lib.size_eq]; rfl
  constructor
  · intro hp
    have h1 := hp.length_le
    rw [hl, ← Lib.size_eq] at h1
    refine ⟨by omega, ba_ext ?_⟩
    rw [e1, ba_app]
    rw [List.prefix_iff_eq_take, hl] at hp
    exact hp.symm
  · rintro ⟨h1, h2⟩
    have h3 : (b.extract 0 (a.size + 1)).data.toList = (a ++ ⟨#[46]⟩).data.toList := by rw [h2]
    rw [e1, ba_app] at h3
    rw [List.prefix_iff_eq_take, hl]
    exact h3.symm
set_option maxHeartbeats 2000000 in
theorem implies_k (a b : ByteArray) (x : Bool) (w : World) (hs : a.size ≤ 1000000) (ht : b.size ≤ 1000000) (ho : MaxOk w) (hx : imp a b = x) :
    Calls Tryd.prog 21 #[.string a, .string b] w fun e w' => e = .returned (.bool x) ∧ w = w' := by
  unfold imp at hx
  obtain ⟨b0, h0⟩ : ∃ b, vdB a = b := ⟨_, rfl⟩
  obtain ⟨b1, h1⟩ : ∃ y, vdB b = y := ⟨_, rfl⟩
  obtain ⟨b2, h2⟩ : ∃ y, impL a.data.toList b.data.toList = y := ⟨_, rfl⟩
  rw [h0, h1, h2] at hx
  have HX := Lib.hid hx.symm
  have H0 := Lib.hid (valid_k a b0 w hs ho h0)
  have H1 := Lib.hid (valid_k b b1 w ht ho h1)
  have hcat : ¬ 9223372036854775807 < a.size + 1 := by omega
  have hq := str_eq a b
  clear h0 h1 hx ho
  cases b0 with
  | false =>
    clear h2 hq hcat
    go_enter Tryd.func21, Tryd.ntmps21
    go_wp2_with fail
    refine H0.out.mono ?_
    rintro e w' ⟨rfl, rfl⟩
    go_wp2_with fail
    go_ret
    exact ⟨by rw [HX.out]; rfl, rfl⟩
  | true =>
    cases b1 with
    | false =>
      clear h2 hq hcat
      go_enter Tryd.func21, Tryd.ntmps21
      go_wp2_with fail
      refine H0.out.mono ?_
      rintro e w' ⟨rfl, rfl⟩
      go_wp2_with fail
      refine H1.out.mono ?_
      rintro e w' ⟨rfl, rfl⟩
      go_wp2_with fail
      go_ret
      exact ⟨by rw [HX.out]; rfl, rfl⟩
    | true =>
      by_cases hab : a = b
      · rw [decide_eq_true hab] at hq
        have HY := Lib.hid (show x = true by rw [HX.out, ← h2, hab, impL_refl]; rfl)
        clear h2 hab HX
        go_enter Tryd.func21, Tryd.ntmps21
        go_wp2_with fail
        refine H0.out.mono ?_
        rintro e w' ⟨rfl, rfl⟩
        go_wp2_with fail
        refine H1.out.mono ?_
        rintro e w' ⟨rfl, rfl⟩
        go_wp2_with fail
        go_ret
        exact ⟨by rw [HY.out]; rfl, rfl⟩
      · rw [decide_eq_false hab] at hq
        rw [imp_prog a b, decide_eq_false hab, Bool.false_or] at h2
        have H2 := Lib.hid (pref_k b (a ++ ⟨#[46]⟩) b2 w h2)
        have HY := Lib.hid (show x = b2 by rw [HX.out]; rfl)
        clear h2 hab HX
        go_enter Tryd.func21, Tryd.ntmps21
        go_wp2_with fail
        refine H0.out.mono ?_
        rintro e w' ⟨rfl, rfl⟩
        go_wp2_with fail
        refine H1.out.mono ?_
        rintro e w' ⟨rfl, rfl⟩
        go_wp2_with fail
        refine H2.out.mono ?_
        rintro e w' ⟨rfl, rfl⟩
        go_wp2_with fail
        go_ret
        exact ⟨by rw [HY.out]; rfl, rfl⟩
set_option maxHeartbeats 2000000 in
theorem rimplies_k (a b : ByteArray) (x : Bool) (w : World) (hs : a.size ≤ 1000000) (ht : b.size ≤ 1000000) (hx : imp a b = x) :
    Calls Tryd.prog 22 #[.string a, .string b] w fun e w' => e = .returned (.bool x) ∧ w = w' := by
  unfold imp at hx
  obtain ⟨b0, h0⟩ : ∃ b, vdB a = b := ⟨_, rfl⟩
  obtain ⟨b1, h1⟩ : ∃ y, vdB b = y := ⟨_, rfl⟩
  obtain ⟨b2, h2⟩ : ∃ y, impL a.data.toList b.data.toList = y := ⟨_, rfl⟩
  rw [h0, h1, h2] at hx
  have HX := Lib.hid hx.symm
  have H0 := Lib.hid (rvalid_k a b0 w hs h0)
  have H1 := Lib.hid (rvalid_k b b1 w ht h1)
  have hcat : ¬ 9223372036854775807 < a.size + 1 := by omega
  have hq := str_eq a b
  clear h0 h1 hx
  cases b0 with
  | false =>
    clear h2 hq hcat
    go_enter Tryd.func22, Tryd.ntmps22
    go_wp2_with fail
    refine H0.out.mono ?_
    rintro e w' ⟨rfl, rfl⟩
    go_wp2_with fail
    go_ret
    exact ⟨by rw [HX.out]; rfl, rfl⟩
  | true =>
    cases b1 with
    | false =>
      clear h2 hq hcat
      go_enter Tryd.func22, Tryd.ntmps22
      go_wp2_with fail
      refine H0.out.mono ?_
      rintro e w' ⟨rfl, rfl⟩
      go_wp2_with fail
      refine H1.out.mono ?_
      rintro e w' ⟨rfl, rfl⟩
      go_wp2_with fail
      go_ret
      exact ⟨by rw [HX.out]; rfl, rfl⟩
    | true =>
      by_cases hab : a = b
      · rw [decide_eq_true hab] at hq
        have HY := Lib.hid (show x = true by rw [HX.out, ← h2, hab, impL_refl]; rfl)
        clear h2 hab HX
        go_enter Tryd.func22, Tryd.ntmps22
        go_wp2_with fail
        refine H0.out.mono ?_
        rintro e w' ⟨rfl, rfl⟩
        go_wp2_with fail
        refine H1.out.mono ?_
        rintro e w' ⟨rfl, rfl⟩
        go_wp2_with fail
        go_ret
        exact ⟨by rw [HY.out]; rfl, rfl⟩
      · rw [decide_eq_false hab] at hq
        rw [imp_spec a b hab] at h2
        by_cases hlt : a.size < b.size
        · have d1 : (a.size : Int) < (b.size : Int) := by omega
          have hadd : IntKind.i64.wrap ((a.size : Int) + 1) = ((a.size + 1 : Nat) : Int) := by rw [IntWalk.i64_in _ ⟨by omega, by omega⟩]; omega
          have hq2 := str_eq (b.extract 0 (a.size + 1)) (a ++ ⟨#[46]⟩)
          rw [decide_eq_true hlt, Bool.true_and] at h2
          rw [h2] at hq2
          have HY := Lib.hid (show x = b2 by rw [HX.out]; rfl)
          clear h2 hab HX
          go_enter Tryd.func22, Tryd.ntmps22
          go_wp2_with fail
          refine H0.out.mono ?_
          rintro e w' ⟨rfl, rfl⟩
          go_wp2_with fail
          refine H1.out.mono ?_
          rintro e w' ⟨rfl, rfl⟩
          go_wp2_with fail
          go_ret
          exact ⟨by rw [HY.out]; rfl, rfl⟩
        · have d1 : decide ((a.size : Int) < (b.size : Int)) = false := decide_eq_false (by omega)
          rw [decide_eq_false hlt, Bool.false_and] at h2
          have HY := Lib.hid (show x = false by rw [HX.out, ← h2]; rfl)
          clear h2 hab HX
          go_enter Tryd.func22, Tryd.ntmps22
          go_wp2_with fail
          refine H0.out.mono ?_
          rintro e w' ⟨rfl, rfl⟩
          go_wp2_with fail
          refine H1.out.mono ?_
          rintro e w' ⟨rfl, rfl⟩
          go_wp2_with fail
          go_ret
          exact ⟨by rw [HY.out]; rfl, rfl⟩
end Go.Proofs.YtminodinhbcgnaaDoor
