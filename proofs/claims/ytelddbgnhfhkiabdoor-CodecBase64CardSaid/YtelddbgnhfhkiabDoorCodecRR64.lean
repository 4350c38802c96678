/-
  Contracts of the specification's First on the characters of base64, and of its ReadBase64. Condition: at most 1000000 bytes.
-/
import Derived.Test.YtelddbgnhfhkiabDoorCodecRB64
import Derived.Test.YtelddbgnhfhkiabDoorCodecRRP
import Derived.Test.YtelddbgnhfhkiabDoorCodecSplit
set_option linter.unusedVariables false
set_option linter.unusedSimpArgs false
set_option linter.unnecessarySimpa false
namespace Go.Proofs.YtelddbgnhfhkiabDoor
open Go.RowKit Go.PlainAid

theorem six_find : ∀ n : Nat, n < 256 → (sixV (UInt8.ofNat n) < 0 ∧ ∀ j : Nat, j < 64 → chr sixS j ≠ UInt8.ofNat n) ∨ ((sixV (UInt8.ofNat n)).toNat < 64 ∧ 0 ≤ sixV (UInt8.ofNat n) ∧ chr sixS (sixV (UInt8.ofNat n)).toNat = UInt8.ofNat n ∧ ∀ j : Nat, j < (sixV (UInt8.ofNat n)).toNat → chr sixS j ≠ UInt8.ofNat n) := by decide +kernel
theorem first_six (c : UInt8) : firstS sixS c = sixV c := by
  have h := six_find c.toNat c.toNat_lt
  rw [UInt8.ofNat_toNat] at h
  rcases h with ⟨h1, h2⟩ | ⟨h1, h2, h3, h4⟩
  · rw [first_miss sixS c h2]
    have := (sixV_le c).1
    omega
  · rw [first_hit sixS c _ h1 h3 h4]; omega
theorem firstB_s (c : UInt8) (x : Int) (w : World) (hx : x = (c.toNat : Int)) :
    Calls Tryd.prog 29 #[.string (⟨#[65, 66, 67, 68, 69, 70, 71, 72, 73, 74, 75, 76, 77, 78, 79, 80, 81, 82, 83, 84, 85, 86, 87, 88, 89, 90, 97, 98, 99, 100, 101, 102, 103, 104, 105, 106, 107, 108, 109, 110, 111, 112, 113, 114, 115, 116, 117, 118, 119, 120, 121, 122, 48, 49, 50, 51, 52, 53, 54, 55, 56, 57, 45, 95]⟩ : ByteArray), .int .u8 x] w fun e w' => e = .returned (.int .i64 (sixV c)) ∧ w = w' := by
  rw [← first_six c]
  exact first_s sixS c x w (by decide) hx
theorem rbase64_k (s r : ByteArray) (w : World) (hs : s.size ≤ 1000000000) (h : b64S s = r) :
    Calls Tryd.prog 19 #[.string s] w fun e w' => e = .returned (.string r) ∧ Below w.heap.size w w' := by
  subst h; exact rbase64_s s w hs

set_option maxRecDepth 100000 in
set_option maxHeartbeats 16000000 in
theorem rreadBase64_s (s : ByteArray) (w : World) (hs : s.size ≤ 1000000) :
    Calls Tryd.prog 18 #[.string s] w fun e w' => e = .returned (.tuple #[.string (r64S s), .int .i64 (r64E s)]) ∧ Below w.heap.size w w' := by
  have hb := get_bt s
  go_enter Tryd.func18, Tryd.ntmps18
  go_wp2
  go_loopw [4, 5] (fun bv iv wr => ∃ (i : Nat) (out : List UInt8), i ≤ s.size + 3 ∧ iv = .int .i64 i ∧ out.length ≤ i ∧ Hid (rawR s.data.toList = (rawR (s.data.toList.drop i)).map (out ++ ·)) ∧
      wr.ownsRow w.heap.size 5 1 bv out.length (bcells out) ∧ Below w.heap.size w wr)
    (fun _ iv _ => s.size - (intOf iv).toNat)
  case atStart => exact ⟨0, [], Nat.zero_le _, rfl, by simp, Lib.hid (by simp), World.ownsRow_nil _ _ _ _, Below.refl _ _⟩
  case round =>
    obtain ⟨i, out, hi, rfl, hol, HU, hown, hbel⟩ := hrel
    have z0 := bt_nonneg s i
    have y0 := bt_le s i
    by_cases hlt : i < s.size
    · skip
      have H0 := Lib.hid (bt_chr s i)
      have r0 := sixV_le (chr s i)
      obtain ⟨v0, hv0⟩ : ∃ v, v = sixV (chr s i) := ⟨_, rfl⟩
      rw [← hv0] at r0
      have HV0 := Lib.hid hv0
      clear hv0
      by_cases g0 : v0 < 0
      · skip
        have HF := Lib.hid (show read64 s.data.toList = none by
          rw [read_raw, HU.out, raw_bad s i 0 (by omega) (by omega) (show sixV (chr s i) < 0 by rw [← HV0.out]; exact g0)]; rfl)
        go_wp2_with fail
        refine wp_loop_rounds 5 ?_
        rw [rounds_succ]
        go_wp2_with fail
        (with_reducible refine (firstB_s (chr s i) _ _ H0.out).mono ?_)
        rintro e w' ⟨rfl, rfl⟩
        rw [← HV0.out]
        go_wp2_with fail
        go_ret2
        exact ⟨by unfold r64S r64E; rw [HF.out]; rfl, hbel⟩

      · skip
        obtain ⟨m0, hm0⟩ : ∃ m : Nat, v0 = (m : Int) := ⟨v0.toNat, by omega⟩
        subst hm0

        by_cases h1 : i + 1 < s.size
        · have z1 := bt_nonneg s (i + 1)
          have y1 := bt_le s (i + 1)
          have H1 := Lib.hid (bt_chr s (i + 1))
          have r1 := sixV_le (chr s (i + 1))
          obtain ⟨v1, hv1⟩ : ∃ v, v = sixV (chr s (i + 1)) := ⟨_, rfl⟩
          rw [← hv1] at r1
          have HV1 := Lib.hid hv1
          clear hv1
          by_cases g1 : v1 < 0
          · skip
            have HF := Lib.hid (show read64 s.data.toList = none by
              rw [read_raw, HU.out, raw_bad s i 1 (by omega) (by omega) (show sixV (chr s (i + 1)) < 0 by rw [← HV1.out]; exact g1)]; rfl)
            go_wp2_with fail
            refine wp_loop_rounds 5 ?_
            rw [rounds_succ]
            go_wp2_with fail
            (with_reducible refine (firstB_s (chr s i) _ _ H0.out).mono ?_)
            rintro e w' ⟨rfl, rfl⟩
            rw [← HV0.out]
            go_wp2_with fail
            rw [rounds_succ]
            go_wp2_with fail
            (with_reducible refine (firstB_s (chr s (i + 1)) _ _ H1.out).mono ?_)
            rintro e w' ⟨rfl, rfl⟩
            rw [← HV1.out]
            go_wp2_with fail
            go_ret2
            exact ⟨by unfold r64S r64E; rw [HF.out]; rfl, hbel⟩

          · skip
            obtain ⟨m1, hm1⟩ : ∃ m : Nat, v1 = (m : Int) := ⟨v1.toNat, by omega⟩
            subst hm1

            by_cases h2 : i + 2 < s.size
            · have z2 := bt_nonneg s (i + 2)
              have y2 := bt_le s (i + 2)
              have H2 := Lib.hid (bt_chr s (i + 2))
              have r2 := sixV_le (chr s (i + 2))
              obtain ⟨v2, hv2⟩ : ∃ v, v = sixV (chr s (i + 2)) := ⟨_, rfl⟩
              rw [← hv2] at r2
              have HV2 := Lib.hid hv2
              clear hv2
              by_cases g2 : v2 < 0
              · skip
                have HF := Lib.hid (show read64 s.data.toList = none by
                  rw [read_raw, HU.out, raw_bad s i 2 (by omega) (by omega) (show sixV (chr s (i + 2)) < 0 by rw [← HV2.out]; exact g2)]; rfl)
                go_wp2_with fail
                refine wp_loop_rounds 5 ?_
                rw [rounds_succ]
                go_wp2_with fail
                (with_reducible refine (firstB_s (chr s i) _ _ H0.out).mono ?_)
                rintro e w' ⟨rfl, rfl⟩
                rw [← HV0.out]
                go_wp2_with fail
                rw [rounds_succ]
                go_wp2_with fail
                (with_reducible refine (firstB_s (chr s (i + 1)) _ _ H1.out).mono ?_)
                rintro e w' ⟨rfl, rfl⟩
                rw [← HV1.out]
                go_wp2_with fail
                rw [rounds_succ]
                go_wp2_with fail
                (with_reducible refine (firstB_s (chr s (i + 2)) _ _ H2.out).mono ?_)
                rintro e w' ⟨rfl, rfl⟩
                rw [← HV2.out]
                go_wp2_with fail
                go_ret2
                exact ⟨by unfold r64S r64E; rw [HF.out]; rfl, hbel⟩

              · skip
                obtain ⟨m2, hm2⟩ : ∃ m : Nat, v2 = (m : Int) := ⟨v2.toNat, by omega⟩
                subst hm2

                by_cases h3 : i + 3 < s.size
                · have z3 := bt_nonneg s (i + 3)
                  have y3 := bt_le s (i + 3)
                  have H3 := Lib.hid (bt_chr s (i + 3))
                  have r3 := sixV_le (chr s (i + 3))
                  obtain ⟨v3, hv3⟩ : ∃ v, v = sixV (chr s (i + 3)) := ⟨_, rfl⟩
                  rw [← hv3] at r3
                  have HV3 := Lib.hid hv3
                  clear hv3
                  by_cases g3 : v3 < 0
                  · skip
                    have HF := Lib.hid (show read64 s.data.toList = none by
                      rw [read_raw, HU.out, raw_bad s i 3 (by omega) (by omega) (show sixV (chr s (i + 3)) < 0 by rw [← HV3.out]; exact g3)]; rfl)
                    go_wp2_with fail
                    refine wp_loop_rounds 5 ?_
                    rw [rounds_succ]
                    go_wp2_with fail
                    (with_reducible refine (firstB_s (chr s i) _ _ H0.out).mono ?_)
                    rintro e w' ⟨rfl, rfl⟩
                    rw [← HV0.out]
                    go_wp2_with fail
                    rw [rounds_succ]
                    go_wp2_with fail
                    (with_reducible refine (firstB_s (chr s (i + 1)) _ _ H1.out).mono ?_)
                    rintro e w' ⟨rfl, rfl⟩
                    rw [← HV1.out]
                    go_wp2_with fail
                    rw [rounds_succ]
                    go_wp2_with fail
                    (with_reducible refine (firstB_s (chr s (i + 2)) _ _ H2.out).mono ?_)
                    rintro e w' ⟨rfl, rfl⟩
                    rw [← HV2.out]
                    go_wp2_with fail
                    rw [rounds_succ]
                    go_wp2_with fail
                    (with_reducible refine (firstB_s (chr s (i + 3)) _ _ H3.out).mono ?_)
                    rintro e w' ⟨rfl, rfl⟩
                    rw [← HV3.out]
                    go_wp2_with fail
                    go_ret2
                    exact ⟨by unfold r64S r64E; rw [HF.out]; rfl, hbel⟩

                  · skip
                    obtain ⟨m3, hm3⟩ : ∃ m : Nat, v3 = (m : Int) := ⟨v3.toNat, by omega⟩
                    subst hm3

                    obtain ⟨N, hN⟩ : ∃ N : Nat, N = (((m0) * 64 + m1) * 64 + m2) * 64 + m3 := ⟨_, rfl⟩
                    have hNi : ((((m0 : Int)) * 64 + (m1 : Int)) * 64 + (m2 : Int)) * 64 + (m3 : Int) = (N : Int) := by omega
                    have hNl : N < 16777216 := by omega
                    have hs0 : sv (chr s (i + 0)) = m0 := by show (sixV (chr s i)).toNat = m0; rw [← HV0.out]; rfl
                    have hs1 : sv (chr s (i + 1)) = m1 := by show (sixV (chr s (i + 1))).toNat = m1; rw [← HV1.out]; rfl
                    have hs2 : sv (chr s (i + 2)) = m2 := by show (sixV (chr s (i + 2))).toNat = m2; rw [← HV2.out]; rfl
                    have hs3 : sv (chr s (i + 3)) = m3 := by show (sixV (chr s (i + 3))).toNat = m3; rw [← HV3.out]; rfl
                    have hnv : nv s i 4 = N := by
                      rw [nv_in (show i + 3 < s.size by omega), nv_in (show i + 2 < s.size by omega), nv_in (show i + 1 < s.size by omega), nv_in (show i + 0 < s.size by omega), hs0, hs1, hs2, hs3, hN]
                      simp [nv]
                    have HS := Lib.hid (show rawR (s.data.toList.drop i) = (rawR (s.data.toList.drop (i + 4))).map ([UInt8.ofNat (N / 65536), UInt8.ofNat (N / 256 % 256), UInt8.ofNat (N % 256)] ++ ·) by
                      rw [raw_round s i 4 (by omega) (by omega) (fun j hj hx => by
                        rcases (show j = 0 ∨ j = 1 ∨ j = 2 ∨ j = 3 by omega) with rfl | rfl | rfl | rfl
                        · rw [show sixV (chr s (i + 0)) = _ from HV0.out.symm]; omega
                        · rw [show sixV (chr s (i + 1)) = _ from HV1.out.symm]; omega
                        · rw [show sixV (chr s (i + 2)) = _ from HV2.out.symm]; omega
                        · rw [show sixV (chr s (i + 3)) = _ from HV3.out.symm]; omega), hnv]
                      simp [outR])
                    obtain ⟨x0, hx0⟩ : ∃ x, x = N / 65536 := ⟨_, rfl⟩
                    rw [← hx0] at HS
                    have l0 : x0 < 256 := by omega
                    have a0 : (N : Int).tdiv 65536 = (x0 : Int) := by rw [Int.tdiv_eq_ediv_of_nonneg (by omega)]; omega
                    have f0 : (N : Int) / 65536 = (x0 : Int) := by omega
                    have w0 : IntKind.u8.wrap (x0 : Int) = (x0 : Int) := IntWalk.u8_in _ (by omega)
                    have U0 := Lib.hid (show ((UInt8.ofNat x0).toNat : Int) = (x0 : Int) by rw [UInt8.toNat_ofNat']; omega)
                    obtain ⟨x1, hx1⟩ : ∃ x, x = N / 256 % 256 := ⟨_, rfl⟩
                    rw [← hx1] at HS
                    have l1 : x1 < 256 := by omega
                    have a1 : (N : Int).tdiv 256 = (N : Int) / 256 := by rw [Int.tdiv_eq_ediv_of_nonneg (by omega)]
                    have b1 : ((N : Int) / 256).tmod 256 = (x1 : Int) := by rw [Int.tmod_eq_emod_of_nonneg (by omega)]; omega
                    have f1 : ((N : Int) / 256) % 256 = (x1 : Int) := by omega
                    have w1 : IntKind.u8.wrap (x1 : Int) = (x1 : Int) := IntWalk.u8_in _ (by omega)
                    have U1 := Lib.hid (show ((UInt8.ofNat x1).toNat : Int) = (x1 : Int) by rw [UInt8.toNat_ofNat']; omega)
                    obtain ⟨x2, hx2⟩ : ∃ x, x = N % 256 := ⟨_, rfl⟩
                    rw [← hx2] at HS
                    have l2 : x2 < 256 := by omega
                    have b2 : (N : Int).tmod 256 = (x2 : Int) := by rw [Int.tmod_eq_emod_of_nonneg (by omega)]; omega
                    have f2 : (N : Int) % 256 = (x2 : Int) := by omega
                    have w2 : IntKind.u8.wrap (x2 : Int) = (x2 : Int) := IntWalk.u8_in _ (by omega)
                    have U2 := Lib.hid (show ((UInt8.ofNat x2).toNat : Int) = (x2 : Int) by rw [UInt8.toNat_ofNat']; omega)
                    clear hN hnv hs0 hs1 hs2 hs3 hx0 hx1 hx2
                    go_wp2_with fail
                    refine wp_loop_rounds 5 ?_
                    rw [rounds_succ]
                    go_wp2_with fail
                    (with_reducible refine (firstB_s (chr s i) _ _ H0.out).mono ?_)
                    rintro e w' ⟨rfl, rfl⟩
                    rw [← HV0.out]
                    go_wp2_with fail
                    rw [rounds_succ]
                    go_wp2_with fail
                    (with_reducible refine (firstB_s (chr s (i + 1)) _ _ H1.out).mono ?_)
                    rintro e w' ⟨rfl, rfl⟩
                    rw [← HV1.out]
                    go_wp2_with fail
                    rw [rounds_succ]
                    go_wp2_with fail
                    (with_reducible refine (firstB_s (chr s (i + 2)) _ _ H2.out).mono ?_)
                    rintro e w' ⟨rfl, rfl⟩
                    rw [← HV2.out]
                    go_wp2_with fail
                    rw [rounds_succ]
                    go_wp2_with fail
                    (with_reducible refine (firstB_s (chr s (i + 3)) _ _ H3.out).mono ?_)
                    rintro e w' ⟨rfl, rfl⟩
                    rw [← HV3.out]
                    go_wp2_with fail
                    rw [rounds_succ]
                    go_wp2_with (first
                      | (at_builtin; refine push_byte _ hown (.tmp 43) (.tmp 47) _ ?_ ?_ ?_ ?_ ?_ ?_ ?_; exact rfl; exact rfl; exact rfl; exact rfl; omega; exact (hbel).size; intro v1 w1 gown1 hb1; have hbel1 := (hbel).trans hb1)
                      | (at_builtin; refine push_byte _ gown1 (.tmp 51) (.tmp 56) _ ?_ ?_ ?_ ?_ ?_ ?_ ?_; exact rfl; exact rfl; exact rfl; exact rfl; omega; exact (hbel1).size; intro v2 w2 gown2 hb2; have hbel2 := (hbel1).trans hb2)
                      | (at_builtin; refine push_byte _ gown2 (.tmp 60) (.tmp 64) _ ?_ ?_ ?_ ?_ ?_ ?_ ?_; exact rfl; exact rfl; exact rfl; exact rfl; omega; exact (hbel2).size; intro v3 w3 gown3 hb3; have hbel3 := (hbel2).trans hb3))
                    have hownF : w3.ownsRow w.heap.size 5 1 v3 (out ++ [UInt8.ofNat x0] ++ [UInt8.ofNat x1] ++ [UInt8.ofNat x2]).length (bcells (out ++ [UInt8.ofNat x0] ++ [UInt8.ofNat x1] ++ [UInt8.ofNat x2])) := by
                      rw [List.length_append, List.length_append, List.length_append, bcells_append, bcells_append, bcells_append]
                      rw [← U0.out, ← U1.out, ← U2.out] at gown3
                      exact gown3
                    go_roundw
                    case rel => exact ⟨i + 4, (out ++ [UInt8.ofNat x0] ++ [UInt8.ofNat x1] ++ [UInt8.ofNat x2]), by omega, by go_num, by simp; omega, Lib.hid (by rw [HU.out, HS.out, Option.map_map]; congr 1; funext l; simp), hownF, hbel3⟩
                    case measure => simp [intOf]; omega


                · skip
                  obtain ⟨N, hN⟩ : ∃ N : Nat, N = (((m0) * 64 + m1) * 64 + m2) * 64 := ⟨_, rfl⟩
                  have hNi : ((((m0 : Int)) * 64 + (m1 : Int)) * 64 + (m2 : Int)) * 64 = (N : Int) := by omega
                  have hNl : N < 16777216 := by omega
                  have hs0 : sv (chr s (i + 0)) = m0 := by show (sixV (chr s i)).toNat = m0; rw [← HV0.out]; rfl
                  have hs1 : sv (chr s (i + 1)) = m1 := by show (sixV (chr s (i + 1))).toNat = m1; rw [← HV1.out]; rfl
                  have hs2 : sv (chr s (i + 2)) = m2 := by show (sixV (chr s (i + 2))).toNat = m2; rw [← HV2.out]; rfl
                  have hnv : nv s i 4 = N := by
                    rw [nv_out (show ¬ i + 3 < s.size by omega), nv_in (show i + 2 < s.size by omega), nv_in (show i + 1 < s.size by omega), nv_in (show i + 0 < s.size by omega), hs0, hs1, hs2, hN]
                    simp [nv]
                  have HS := Lib.hid (show rawR (s.data.toList.drop i) = (rawR (s.data.toList.drop (i + 4))).map ([UInt8.ofNat (N / 65536), UInt8.ofNat (N / 256 % 256)] ++ ·) by
                    rw [raw_round s i 3 (by omega) (by omega) (fun j hj hx => by
                      rcases (show j = 0 ∨ j = 1 ∨ j = 2 by omega) with rfl | rfl | rfl
                      · rw [show sixV (chr s (i + 0)) = _ from HV0.out.symm]; omega
                      · rw [show sixV (chr s (i + 1)) = _ from HV1.out.symm]; omega
                      · rw [show sixV (chr s (i + 2)) = _ from HV2.out.symm]; omega), hnv]
                    simp [outR])
                  obtain ⟨x0, hx0⟩ : ∃ x, x = N / 65536 := ⟨_, rfl⟩
                  rw [← hx0] at HS
                  have l0 : x0 < 256 := by omega
                  have a0 : (N : Int).tdiv 65536 = (x0 : Int) := by rw [Int.tdiv_eq_ediv_of_nonneg (by omega)]; omega
                  have f0 : (N : Int) / 65536 = (x0 : Int) := by omega
                  have w0 : IntKind.u8.wrap (x0 : Int) = (x0 : Int) := IntWalk.u8_in _ (by omega)
                  have U0 := Lib.hid (show ((UInt8.ofNat x0).toNat : Int) = (x0 : Int) by rw [UInt8.toNat_ofNat']; omega)
                  obtain ⟨x1, hx1⟩ : ∃ x, x = N / 256 % 256 := ⟨_, rfl⟩
                  rw [← hx1] at HS
                  have l1 : x1 < 256 := by omega
                  have a1 : (N : Int).tdiv 256 = (N : Int) / 256 := by rw [Int.tdiv_eq_ediv_of_nonneg (by omega)]
                  have b1 : ((N : Int) / 256).tmod 256 = (x1 : Int) := by rw [Int.tmod_eq_emod_of_nonneg (by omega)]; omega
                  have f1 : ((N : Int) / 256) % 256 = (x1 : Int) := by omega
                  have w1 : IntKind.u8.wrap (x1 : Int) = (x1 : Int) := IntWalk.u8_in _ (by omega)
                  have U1 := Lib.hid (show ((UInt8.ofNat x1).toNat : Int) = (x1 : Int) by rw [UInt8.toNat_ofNat']; omega)
                  clear hN hnv hs0 hs1 hs2 hx0 hx1
                  go_wp2_with fail
                  refine wp_loop_rounds 5 ?_
                  rw [rounds_succ]
                  go_wp2_with fail
                  (with_reducible refine (firstB_s (chr s i) _ _ H0.out).mono ?_)
                  rintro e w' ⟨rfl, rfl⟩
                  rw [← HV0.out]
                  go_wp2_with fail
                  rw [rounds_succ]
                  go_wp2_with fail
                  (with_reducible refine (firstB_s (chr s (i + 1)) _ _ H1.out).mono ?_)
                  rintro e w' ⟨rfl, rfl⟩
                  rw [← HV1.out]
                  go_wp2_with fail
                  rw [rounds_succ]
                  go_wp2_with fail
                  (with_reducible refine (firstB_s (chr s (i + 2)) _ _ H2.out).mono ?_)
                  rintro e w' ⟨rfl, rfl⟩
                  rw [← HV2.out]
                  go_wp2_with fail
                  rw [rounds_succ]
                  go_wp2_with fail
                  rw [rounds_succ]
                  go_wp2_with (first
                    | (at_builtin; refine push_byte _ hown (.tmp 43) (.tmp 47) _ ?_ ?_ ?_ ?_ ?_ ?_ ?_; exact rfl; exact rfl; exact rfl; exact rfl; omega; exact (hbel).size; intro v1 w1 gown1 hb1; have hbel1 := (hbel).trans hb1)
                    | (at_builtin; refine push_byte _ gown1 (.tmp 51) (.tmp 56) _ ?_ ?_ ?_ ?_ ?_ ?_ ?_; exact rfl; exact rfl; exact rfl; exact rfl; omega; exact (hbel1).size; intro v2 w2 gown2 hb2; have hbel2 := (hbel1).trans hb2))
                  have hownF : w2.ownsRow w.heap.size 5 1 v2 (out ++ [UInt8.ofNat x0] ++ [UInt8.ofNat x1]).length (bcells (out ++ [UInt8.ofNat x0] ++ [UInt8.ofNat x1])) := by
                    rw [List.length_append, List.length_append, bcells_append, bcells_append]
                    rw [← U0.out, ← U1.out] at gown2
                    exact gown2
                  go_roundw
                  case rel => exact ⟨i + 4, (out ++ [UInt8.ofNat x0] ++ [UInt8.ofNat x1]), by omega, by go_num, by simp; omega, Lib.hid (by rw [HU.out, HS.out, Option.map_map]; congr 1; funext l; simp), hownF, hbel2⟩
                  case measure => simp [intOf]; omega


            · skip
              obtain ⟨N, hN⟩ : ∃ N : Nat, N = (((m0) * 64 + m1) * 64) * 64 := ⟨_, rfl⟩
              have hNi : ((((m0 : Int)) * 64 + (m1 : Int)) * 64) * 64 = (N : Int) := by omega
              have hNl : N < 16777216 := by omega
              have hs0 : sv (chr s (i + 0)) = m0 := by show (sixV (chr s i)).toNat = m0; rw [← HV0.out]; rfl
              have hs1 : sv (chr s (i + 1)) = m1 := by show (sixV (chr s (i + 1))).toNat = m1; rw [← HV1.out]; rfl
              have hnv : nv s i 4 = N := by
                rw [nv_out (show ¬ i + 3 < s.size by omega), nv_out (show ¬ i + 2 < s.size by omega), nv_in (show i + 1 < s.size by omega), nv_in (show i + 0 < s.size by omega), hs0, hs1, hN]
                simp [nv]
              have HS := Lib.hid (show rawR (s.data.toList.drop i) = (rawR (s.data.toList.drop (i + 4))).map ([UInt8.ofNat (N / 65536)] ++ ·) by
                rw [raw_round s i 2 (by omega) (by omega) (fun j hj hx => by
                  rcases (show j = 0 ∨ j = 1 by omega) with rfl | rfl
                  · rw [show sixV (chr s (i + 0)) = _ from HV0.out.symm]; omega
                  · rw [show sixV (chr s (i + 1)) = _ from HV1.out.symm]; omega), hnv]
                simp [outR])
              obtain ⟨x0, hx0⟩ : ∃ x, x = N / 65536 := ⟨_, rfl⟩
              rw [← hx0] at HS
              have l0 : x0 < 256 := by omega
              have a0 : (N : Int).tdiv 65536 = (x0 : Int) := by rw [Int.tdiv_eq_ediv_of_nonneg (by omega)]; omega
              have f0 : (N : Int) / 65536 = (x0 : Int) := by omega
              have w0 : IntKind.u8.wrap (x0 : Int) = (x0 : Int) := IntWalk.u8_in _ (by omega)
              have U0 := Lib.hid (show ((UInt8.ofNat x0).toNat : Int) = (x0 : Int) by rw [UInt8.toNat_ofNat']; omega)
              clear hN hnv hs0 hs1 hx0
              go_wp2_with fail
              refine wp_loop_rounds 5 ?_
              rw [rounds_succ]
              go_wp2_with fail
              (with_reducible refine (firstB_s (chr s i) _ _ H0.out).mono ?_)
              rintro e w' ⟨rfl, rfl⟩
              rw [← HV0.out]
              go_wp2_with fail
              rw [rounds_succ]
              go_wp2_with fail
              (with_reducible refine (firstB_s (chr s (i + 1)) _ _ H1.out).mono ?_)
              rintro e w' ⟨rfl, rfl⟩
              rw [← HV1.out]
              go_wp2_with fail
              rw [rounds_succ]
              go_wp2_with fail
              rw [rounds_succ]
              go_wp2_with fail
              rw [rounds_succ]
              go_wp2_with (first
                | (at_builtin; refine push_byte _ hown (.tmp 43) (.tmp 47) _ ?_ ?_ ?_ ?_ ?_ ?_ ?_; exact rfl; exact rfl; exact rfl; exact rfl; omega; exact (hbel).size; intro v1 w1 gown1 hb1; have hbel1 := (hbel).trans hb1))
              have hownF : w1.ownsRow w.heap.size 5 1 v1 (out ++ [UInt8.ofNat x0]).length (bcells (out ++ [UInt8.ofNat x0])) := by
                rw [List.length_append, bcells_append]
                rw [← U0.out] at gown1
                exact gown1
              go_roundw
              case rel => exact ⟨i + 4, (out ++ [UInt8.ofNat x0]), by omega, by go_num, by simp; omega, Lib.hid (by rw [HU.out, HS.out, Option.map_map]; congr 1; funext l; simp), hownF, hbel1⟩
              case measure => simp [intOf]; omega


        · skip
          have HF := Lib.hid (show read64 s.data.toList = none by
            rw [read_raw, HU.out, raw_one s i (by omega)]; rfl)
          go_wp2_with fail
          refine wp_loop_rounds 5 ?_
          rw [rounds_succ]
          go_wp2_with fail
          (with_reducible refine (firstB_s (chr s i) _ _ H0.out).mono ?_)
          rintro e w' ⟨rfl, rfl⟩
          rw [← HV0.out]
          go_wp2_with fail
          rw [rounds_succ]
          go_wp2_with fail
          rw [rounds_succ]
          go_wp2_with fail
          rw [rounds_succ]
          go_wp2_with fail
          rw [rounds_succ]
          go_wp2
          go_ret2
          exact ⟨by unfold r64S r64E; rw [HF.out]; rfl, hbel⟩


    · have HT := Lib.hid (show s.data.toList.drop i = [] by rw [List.drop_eq_nil_iff]; simp; omega)
      have HL := Lib.hid (show rawR s.data.toList = some out by rw [HU.out, HT.out]; simp [rawR])
      have hbk := back hown
      have hol2 : (ofL out).size ≤ 1000000000 := by show out.length ≤ _; omega
      obtain ⟨b, hbb⟩ : ∃ b, b = b64S (ofL out) := ⟨_, rfl⟩
      have HB := Lib.hid hbb.symm
      by_cases he : encR 0 0 out = s.data.toList
      · have HF := Lib.hid (show read64 s.data.toList = some out by rw [read_raw, HL.out]; exact if_pos he)
        have hbs : b = s := by
          rw [hbb]; unfold b64S
          have e : (ofL out).data.toList = out := rfl
          rw [e, he]; exact Lib.mk_data s
        subst hbs
        clear he hbb
        go_wp2_with (go_at_call 19; refine (rbase64_k (ofL out) b _ hol2 HB.out).mono ?_; rintro e w1 ⟨rfl, hb1⟩; have hbk1 := back (own_below hown hb1))
        go_ret2
        exact ⟨by unfold r64S r64E; rw [HF.out]; rfl, hbel.trans (hb1.mono hbel.size)⟩
      · have HF := Lib.hid (show read64 s.data.toList = none by rw [read_raw, HL.out]; exact if_neg he)
        have hq : (b.toList == s.toList) = false := by
          rw [Lib.toList_data, Lib.toList_data]
          refine beq_false_of_ne fun e => he ?_
          rw [← e, hbb]; rfl
        clear he hbb
        go_wp2_with (go_at_call 19; refine (rbase64_k (ofL out) b _ hol2 HB.out).mono ?_; rintro e w1 ⟨rfl, hb1⟩)
        go_ret2
        exact ⟨by unfold r64S r64E; rw [HF.out]; rfl, hbel.trans (hb1.mono hbel.size)⟩

end Go.Proofs.YtelddbgnhfhkiabDoor
