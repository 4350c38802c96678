/-
  Contract of the specification's Base64. Condition: at most 1000000000 bytes.
-/
import Derived.Test.YtbogmmdmfbcbnaaDoorCodecB64P
import Derived.Test.YtbogmmdmfbcbnaaDoorCodecREsc
set_option maxRecDepth 100000
set_option linter.unusedVariables false
set_option linter.unusedSimpArgs false
set_option linter.unnecessarySimpa false
namespace Go.Proofs.YtbogmmdmfbcbnaaDoor
open Go.RowKit Go.PlainAid

set_option maxRecDepth 100000 in
set_option maxHeartbeats 8000000 in
theorem rbase64_s (s : ByteArray) (w : World) (hs : s.size ≤ 1000000000) :
    Calls Tryd.prog 29 #[.string s] w fun e w' => e = .returned (.string (b64S s)) ∧ Below w.heap.size w w' := by
  have hb := get_bt s
  have hx := get_bt (⟨#[65, 66, 67, 68, 69, 70, 71, 72, 73, 74, 75, 76, 77, 78, 79, 80, 81, 82, 83, 84, 85, 86, 87, 88, 89, 90, 97, 98, 99, 100, 101, 102, 103, 104, 105, 106, 107, 108, 109, 110, 111, 112, 113, 114, 115, 116, 117, 118, 119, 120, 121, 122, 48, 49, 50, 51, 52, 53, 54, 55, 56, 57, 45, 95]⟩ : ByteArray)
  go_enter Tryd.func29, Tryd.ntmps29
  go_wp2
  go_loopw [3, 4] (fun bv iv wr => ∃ (i : Nat) (out : List UInt8), i ≤ s.size + 2 ∧ iv = .int .i64 i ∧ out.length ≤ 2 * i ∧ Hid (encR 0 0 s.data.toList = out ++ encR 0 0 (s.data.toList.drop i)) ∧
      wr.ownsRow w.heap.size 5 1 bv out.length (bcells out) ∧ Below w.heap.size w wr)
    (fun _ iv _ => s.size - (intOf iv).toNat)
  case atStart => exact ⟨0, [], Nat.zero_le _, rfl, by simp, Lib.hid (by simp), World.ownsRow_nil _ _ _ _, Below.refl _ _⟩
  case round =>
    obtain ⟨i, out, hi, rfl, hol, HU, hown, hbel⟩ := hrel
    have h0 := bt_nonneg s i
    have h255 := bt_le s i
    by_cases hlt : i < s.size
    · by_cases h2 : i + 1 < s.size
      · have h10 := bt_nonneg s (i + 1)
        have h1255 := bt_le s (i + 1)
        by_cases h3 : i + 2 < s.size
        · have h20 := bt_nonneg s (i + 2)
          have h2255 := bt_le s (i + 2)
          obtain ⟨N, hN⟩ : ∃ N : Nat, N = (chr s i).toNat * 65536 + (chr s (i + 1)).toNat * 256 + (chr s (i + 2)).toNat := ⟨_, rfl⟩
          have hc0 := (chr s i).toNat_lt
          have hc1 := (chr s (i + 1)).toNat_lt
          have hc2 := (chr s (i + 2)).toNat_lt
          have hNi : bt s i * 65536 + bt s (i + 1) * 256 + bt s (i + 2) = (N : Int) := by rw [hN, bt_chr s i, bt_chr s (i + 1), bt_chr s (i + 2)]; omega
          have hNl : N < 16777216 := by omega
          obtain ⟨q0, hq0⟩ : ∃ q, q = N / 262144 % 64 := ⟨_, rfl⟩
          obtain ⟨q1, hq1⟩ : ∃ q, q = N / 4096 % 64 := ⟨_, rfl⟩
          obtain ⟨q2, hq2⟩ : ∃ q, q = N / 64 % 64 := ⟨_, rfl⟩
          obtain ⟨q3, hq3⟩ : ∃ q, q = N % 64 := ⟨_, rfl⟩
          have HS := Lib.hid (show encR 0 0 (s.data.toList.drop i) = six q0 :: six q1 :: six q2 :: six q3 :: encR 0 0 (s.data.toList.drop (i + 3)) by
            rw [drop_chr s i hlt, drop_chr s (i + 1) (by omega), drop_chr s (i + 1 + 1) (by omega), enc3]
            rw [show q0 = (chr s i).toNat / 4 by omega, show q1 = ((chr s i).toNat % 4 * 256 + (chr s (i + 1)).toNat) / 16 by omega, show q2 = (((chr s i).toNat % 4 * 256 + (chr s (i + 1)).toNat) % 16 * 256 + (chr s (i + 2)).toNat) / 64 by omega, show q3 = (((chr s i).toNat % 4 * 256 + (chr s (i + 1)).toNat) % 16 * 256 + (chr s (i + 2)).toNat) % 64 by omega])
          have a0 : (N : Int).tdiv 262144 = ((N / 262144 : Nat) : Int) := by rw [Int.tdiv_eq_ediv_of_nonneg (by omega)]; omega
          have b0 : ((N / 262144 : Nat) : Int).tmod 64 = (q0 : Int) := by rw [Int.tmod_eq_emod_of_nonneg (by omega)]; omega
          have e0 : (((N : Int) / 262144)).tmod 64 = (q0 : Int) := by rw [Int.tmod_eq_emod_of_nonneg (by omega)]; omega
          have f0 : ((N : Int) / 262144) % 64 = (q0 : Int) := by omega
          have l0 : q0 < 64 := by omega
          have a1 : (N : Int).tdiv 4096 = ((N / 4096 : Nat) : Int) := by rw [Int.tdiv_eq_ediv_of_nonneg (by omega)]; omega
          have b1 : ((N / 4096 : Nat) : Int).tmod 64 = (q1 : Int) := by rw [Int.tmod_eq_emod_of_nonneg (by omega)]; omega
          have e1 : (((N : Int) / 4096)).tmod 64 = (q1 : Int) := by rw [Int.tmod_eq_emod_of_nonneg (by omega)]; omega
          have f1 : ((N : Int) / 4096) % 64 = (q1 : Int) := by omega
          have l1 : q1 < 64 := by omega
          have a2 : (N : Int).tdiv 64 = ((N / 64 : Nat) : Int) := by rw [Int.tdiv_eq_ediv_of_nonneg (by omega)]; omega
          have b2 : ((N / 64 : Nat) : Int).tmod 64 = (q2 : Int) := by rw [Int.tmod_eq_emod_of_nonneg (by omega)]; omega
          have e2 : (((N : Int) / 64)).tmod 64 = (q2 : Int) := by rw [Int.tmod_eq_emod_of_nonneg (by omega)]; omega
          have f2 : ((N : Int) / 64) % 64 = (q2 : Int) := by omega
          have l2 : q2 < 64 := by omega
          have b3 : (N : Int).tmod 64 = (q3 : Int) := by rw [Int.tmod_eq_emod_of_nonneg (by omega)]; omega
          have f3 : (N : Int) % 64 = (q3 : Int) := by omega
          have l3 : q3 < 64 := by omega
          clear hN hq0 hq1 hq2 hq3
          go_wp2_with fail
          refine wp_loop_rounds 5 ?_
          rw [rounds_succ]
          go_wp2_with (at_builtin; go_must (refine push_byte _ hown (.tmp 50) (.tmp 56) _ ?_ ?_ ?_ ?_ ?_ ?_ ?_; exact rfl; exact rfl; exact rfl; exact rfl; (first | omega | (simp only [List.length_append, List.length_cons, List.length_nil]; omega)); exact (hbel).size; intro v1 w1 gown1 hb1))
          have hown1 : w1.ownsRow w.heap.size 5 1 v1 (out ++ [six q0]).length (bcells (out ++ [six q0])) := by rw [List.length_append, bcells_append]; rw [six_at] at gown1; exact gown1
          have hbel1 := (hbel).trans hb1
          clear gown1 hb1
          rw [rounds_succ]
          go_wp2_with (at_builtin; go_must (refine push_byte _ hown1 (.tmp 50) (.tmp 56) _ ?_ ?_ ?_ ?_ ?_ ?_ ?_; exact rfl; exact rfl; exact rfl; exact rfl; (first | omega | (simp only [List.length_append, List.length_cons, List.length_nil]; omega)); exact (hbel1).size; intro v2 w2 gown2 hb2))
          have hown2 : w2.ownsRow w.heap.size 5 1 v2 ((out ++ [six q0]) ++ [six q1]).length (bcells ((out ++ [six q0]) ++ [six q1])) := by rw [List.length_append, bcells_append]; rw [six_at] at gown2; exact gown2
          have hbel2 := (hbel1).trans hb2
          clear gown2 hb2
          rw [rounds_succ]
          go_wp2_with (at_builtin; go_must (refine push_byte _ hown2 (.tmp 50) (.tmp 56) _ ?_ ?_ ?_ ?_ ?_ ?_ ?_; exact rfl; exact rfl; exact rfl; exact rfl; (first | omega | (simp only [List.length_append, List.length_cons, List.length_nil]; omega)); exact (hbel2).size; intro v3 w3 gown3 hb3))
          have hown3 : w3.ownsRow w.heap.size 5 1 v3 (((out ++ [six q0]) ++ [six q1]) ++ [six q2]).length (bcells (((out ++ [six q0]) ++ [six q1]) ++ [six q2])) := by rw [List.length_append, bcells_append]; rw [six_at] at gown3; exact gown3
          have hbel3 := (hbel2).trans hb3
          clear gown3 hb3
          rw [rounds_succ]
          go_wp2_with (at_builtin; go_must (refine push_byte _ hown3 (.tmp 50) (.tmp 56) _ ?_ ?_ ?_ ?_ ?_ ?_ ?_; exact rfl; exact rfl; exact rfl; exact rfl; (first | omega | (simp only [List.length_append, List.length_cons, List.length_nil]; omega)); exact (hbel3).size; intro v4 w4 gown4 hb4))
          have hown4 : w4.ownsRow w.heap.size 5 1 v4 ((((out ++ [six q0]) ++ [six q1]) ++ [six q2]) ++ [six q3]).length (bcells ((((out ++ [six q0]) ++ [six q1]) ++ [six q2]) ++ [six q3])) := by rw [List.length_append, bcells_append]; rw [six_at] at gown4; exact gown4
          have hbel4 := (hbel3).trans hb4
          clear gown4 hb4
          rw [rounds_succ]
          go_wp2_with fail
          go_roundw
          case rel => exact ⟨i + 3, ((((out ++ [six q0]) ++ [six q1]) ++ [six q2]) ++ [six q3]), by omega, by go_num, by simp; omega, Lib.hid (by rw [HU.out, HS.out]; simp), hown4, hbel4⟩
          case measure => simp [intOf]; omega

        · skip
          obtain ⟨N, hN⟩ : ∃ N : Nat, N = (chr s i).toNat * 65536 + (chr s (i + 1)).toNat * 256 := ⟨_, rfl⟩
          have hc0 := (chr s i).toNat_lt
          have hc1 := (chr s (i + 1)).toNat_lt
          have hNi : bt s i * 65536 + bt s (i + 1) * 256 = (N : Int) := by rw [hN, bt_chr s i, bt_chr s (i + 1)]; omega
          have hNl : N < 16777216 := by omega
          obtain ⟨q0, hq0⟩ : ∃ q, q = N / 262144 % 64 := ⟨_, rfl⟩
          obtain ⟨q1, hq1⟩ : ∃ q, q = N / 4096 % 64 := ⟨_, rfl⟩
          obtain ⟨q2, hq2⟩ : ∃ q, q = N / 64 % 64 := ⟨_, rfl⟩
          have HS := Lib.hid (show encR 0 0 (s.data.toList.drop i) = six q0 :: six q1 :: six q2 :: encR 0 0 (s.data.toList.drop (i + 3)) by
            rw [show s.data.toList.drop (i + 3) = [] by rw [List.drop_eq_nil_iff]; simp; omega, drop_chr s i hlt, drop_chr s (i + 1) (by omega), show s.data.toList.drop (i + 1 + 1) = [] by rw [List.drop_eq_nil_iff]; simp; omega, enc2]
            rw [show q0 = (chr s i).toNat / 4 by omega, show q1 = ((chr s i).toNat % 4 * 256 + (chr s (i + 1)).toNat) / 16 by omega, show q2 = ((chr s i).toNat % 4 * 256 + (chr s (i + 1)).toNat) % 16 * 4 by omega]; rfl)
          have a0 : (N : Int).tdiv 262144 = ((N / 262144 : Nat) : Int) := by rw [Int.tdiv_eq_ediv_of_nonneg (by omega)]; omega
          have b0 : ((N / 262144 : Nat) : Int).tmod 64 = (q0 : Int) := by rw [Int.tmod_eq_emod_of_nonneg (by omega)]; omega
          have e0 : (((N : Int) / 262144)).tmod 64 = (q0 : Int) := by rw [Int.tmod_eq_emod_of_nonneg (by omega)]; omega
          have f0 : ((N : Int) / 262144) % 64 = (q0 : Int) := by omega
          have l0 : q0 < 64 := by omega
          have a1 : (N : Int).tdiv 4096 = ((N / 4096 : Nat) : Int) := by rw [Int.tdiv_eq_ediv_of_nonneg (by omega)]; omega
          have b1 : ((N / 4096 : Nat) : Int).tmod 64 = (q1 : Int) := by rw [Int.tmod_eq_emod_of_nonneg (by omega)]; omega
          have e1 : (((N : Int) / 4096)).tmod 64 = (q1 : Int) := by rw [Int.tmod_eq_emod_of_nonneg (by omega)]; omega
          have f1 : ((N : Int) / 4096) % 64 = (q1 : Int) := by omega
          have l1 : q1 < 64 := by omega
          have a2 : (N : Int).tdiv 64 = ((N / 64 : Nat) : Int) := by rw [Int.tdiv_eq_ediv_of_nonneg (by omega)]; omega
          have b2 : ((N / 64 : Nat) : Int).tmod 64 = (q2 : Int) := by rw [Int.tmod_eq_emod_of_nonneg (by omega)]; omega
          have e2 : (((N : Int) / 64)).tmod 64 = (q2 : Int) := by rw [Int.tmod_eq_emod_of_nonneg (by omega)]; omega
          have f2 : ((N : Int) / 64) % 64 = (q2 : Int) := by omega
          have l2 : q2 < 64 := by omega
          clear hN hq0 hq1 hq2
          go_wp2_with fail
          refine wp_loop_rounds 4 ?_
          rw [rounds_succ]
          go_wp2_with (at_builtin; go_must (refine push_byte _ hown (.tmp 50) (.tmp 56) _ ?_ ?_ ?_ ?_ ?_ ?_ ?_; exact rfl; exact rfl; exact rfl; exact rfl; (first | omega | (simp only [List.length_append, List.length_cons, List.length_nil]; omega)); exact (hbel).size; intro v1 w1 gown1 hb1))
          have hown1 : w1.ownsRow w.heap.size 5 1 v1 (out ++ [six q0]).length (bcells (out ++ [six q0])) := by rw [List.length_append, bcells_append]; rw [six_at] at gown1; exact gown1
          have hbel1 := (hbel).trans hb1
          clear gown1 hb1
          rw [rounds_succ]
          go_wp2_with (at_builtin; go_must (refine push_byte _ hown1 (.tmp 50) (.tmp 56) _ ?_ ?_ ?_ ?_ ?_ ?_ ?_; exact rfl; exact rfl; exact rfl; exact rfl; (first | omega | (simp only [List.length_append, List.length_cons, List.length_nil]; omega)); exact (hbel1).size; intro v2 w2 gown2 hb2))
          have hown2 : w2.ownsRow w.heap.size 5 1 v2 ((out ++ [six q0]) ++ [six q1]).length (bcells ((out ++ [six q0]) ++ [six q1])) := by rw [List.length_append, bcells_append]; rw [six_at] at gown2; exact gown2
          have hbel2 := (hbel1).trans hb2
          clear gown2 hb2
          rw [rounds_succ]
          go_wp2_with (at_builtin; go_must (refine push_byte _ hown2 (.tmp 50) (.tmp 56) _ ?_ ?_ ?_ ?_ ?_ ?_ ?_; exact rfl; exact rfl; exact rfl; exact rfl; (first | omega | (simp only [List.length_append, List.length_cons, List.length_nil]; omega)); exact (hbel2).size; intro v3 w3 gown3 hb3))
          have hown3 : w3.ownsRow w.heap.size 5 1 v3 (((out ++ [six q0]) ++ [six q1]) ++ [six q2]).length (bcells (((out ++ [six q0]) ++ [six q1]) ++ [six q2])) := by rw [List.length_append, bcells_append]; rw [six_at] at gown3; exact gown3
          have hbel3 := (hbel2).trans hb3
          clear gown3 hb3
          rw [rounds_succ]
          go_wp2_with fail
          go_roundw
          case rel => exact ⟨i + 3, (((out ++ [six q0]) ++ [six q1]) ++ [six q2]), by omega, by go_num, by simp; omega, Lib.hid (by rw [HU.out, HS.out]; simp), hown3, hbel3⟩
          case measure => simp [intOf]; omega

      · skip
        obtain ⟨N, hN⟩ : ∃ N : Nat, N = (chr s i).toNat * 65536 := ⟨_, rfl⟩
        have hc0 := (chr s i).toNat_lt
        have hNi : bt s i * 65536 = (N : Int) := by rw [hN, bt_chr s i]; omega
        have hNl : N < 16777216 := by omega
        obtain ⟨q0, hq0⟩ : ∃ q, q = N / 262144 % 64 := ⟨_, rfl⟩
        obtain ⟨q1, hq1⟩ : ∃ q, q = N / 4096 % 64 := ⟨_, rfl⟩
        have HS := Lib.hid (show encR 0 0 (s.data.toList.drop i) = six q0 :: six q1 :: encR 0 0 (s.data.toList.drop (i + 3)) by
          rw [show s.data.toList.drop (i + 3) = [] by rw [List.drop_eq_nil_iff]; simp; omega, drop_chr s i hlt, show s.data.toList.drop (i + 1) = [] by rw [List.drop_eq_nil_iff]; simp; omega, enc1]
          rw [show q0 = (chr s i).toNat / 4 by omega, show q1 = (chr s i).toNat % 4 * 16 by omega]; rfl)
        have a0 : (N : Int).tdiv 262144 = ((N / 262144 : Nat) : Int) := by rw [Int.tdiv_eq_ediv_of_nonneg (by omega)]; omega
        have b0 : ((N / 262144 : Nat) : Int).tmod 64 = (q0 : Int) := by rw [Int.tmod_eq_emod_of_nonneg (by omega)]; omega
        have e0 : (((N : Int) / 262144)).tmod 64 = (q0 : Int) := by rw [Int.tmod_eq_emod_of_nonneg (by omega)]; omega
        have f0 : ((N : Int) / 262144) % 64 = (q0 : Int) := by omega
        have l0 : q0 < 64 := by omega
        have a1 : (N : Int).tdiv 4096 = ((N / 4096 : Nat) : Int) := by rw [Int.tdiv_eq_ediv_of_nonneg (by omega)]; omega
        have b1 : ((N / 4096 : Nat) : Int).tmod 64 = (q1 : Int) := by rw [Int.tmod_eq_emod_of_nonneg (by omega)]; omega
        have e1 : (((N : Int) / 4096)).tmod 64 = (q1 : Int) := by rw [Int.tmod_eq_emod_of_nonneg (by omega)]; omega
        have f1 : ((N : Int) / 4096) % 64 = (q1 : Int) := by omega
        have l1 : q1 < 64 := by omega
        clear hN hq0 hq1
        go_wp2_with fail
        refine wp_loop_rounds 3 ?_
        rw [rounds_succ]
        go_wp2_with (at_builtin; go_must (refine push_byte _ hown (.tmp 50) (.tmp 56) _ ?_ ?_ ?_ ?_ ?_ ?_ ?_; exact rfl; exact rfl; exact rfl; exact rfl; (first | omega | (simp only [List.length_append, List.length_cons, List.length_nil]; omega)); exact (hbel).size; intro v1 w1 gown1 hb1))
        have hown1 : w1.ownsRow w.heap.size 5 1 v1 (out ++ [six q0]).length (bcells (out ++ [six q0])) := by rw [List.length_append, bcells_append]; rw [six_at] at gown1; exact gown1
        have hbel1 := (hbel).trans hb1
        clear gown1 hb1
        rw [rounds_succ]
        go_wp2_with (at_builtin; go_must (refine push_byte _ hown1 (.tmp 50) (.tmp 56) _ ?_ ?_ ?_ ?_ ?_ ?_ ?_; exact rfl; exact rfl; exact rfl; exact rfl; (first | omega | (simp only [List.length_append, List.length_cons, List.length_nil]; omega)); exact (hbel1).size; intro v2 w2 gown2 hb2))
        have hown2 : w2.ownsRow w.heap.size 5 1 v2 ((out ++ [six q0]) ++ [six q1]).length (bcells ((out ++ [six q0]) ++ [six q1])) := by rw [List.length_append, bcells_append]; rw [six_at] at gown2; exact gown2
        have hbel2 := (hbel1).trans hb2
        clear gown2 hb2
        rw [rounds_succ]
        go_wp2_with fail
        go_roundw
        case rel => exact ⟨i + 3, ((out ++ [six q0]) ++ [six q1]), by omega, by go_num, by simp; omega, Lib.hid (by rw [HU.out, HS.out]; simp), hown2, hbel2⟩
        case measure => simp [intOf]; omega

    · have HT := Lib.hid (show s.data.toList.drop i = [] by rw [List.drop_eq_nil_iff]; simp; omega)
      have HF := Lib.hid (show b64S s = ofL out by unfold b64S; rw [HU.out, HT.out]; simp [encR])
      have hbk := back hown
      go_wp2
      go_ret
      exact ⟨by rw [HF.out]; rfl, hbel⟩

end Go.Proofs.YtbogmmdmfbcbnaaDoor
