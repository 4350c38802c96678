/-
  Contracts of Verify and VerifyAt on both sides. Condition: strings of at most 1000000 bytes.
-/
import Derived.Test.YtmkcojgdhdmnnaaDoorOtpC
set_option maxRecDepth 100000
set_option linter.unusedVariables false
set_option linter.unusedSimpArgs false
set_option linter.unnecessarySimpa false
namespace Go.Proofs.YtmkcojgdhdmnnaaDoor
open Go.RowKit Go.PlainAid

theorem fndR_min (s code : ByteArray) (a b : Int) : fndR s code a (min b 36650387592) = fndR s code a b := by
  unfold fndR mostC
  rw [show min (min b 36650387592) (36650387592 : Int) = min b 36650387592 by omega]
theorem lstB_cases {n : Int} (h : lstB n = true) : -1 ≤ n ∧ n ≤ 36650387592 := by
  unfold lstB mostC at h
  simp only [Bool.and_eq_true, decide_eq_true_eq] at h
  exact h
theorem lstB_low {n : Int} (h : n < -1) : lstB n = false := by unfold lstB; rw [decide_eq_false (p := -1 ≤ n) (by omega)]; rfl
theorem lstB_high {n : Int} (h : 36650387592 < n) : lstB n = false := by unfold lstB mostC; rw [decide_eq_false (p := n ≤ 36650387592) (by omega), Bool.and_false]
theorem lstB_yes {n : Int} (h0 : -1 ≤ n) (h1 : n ≤ 36650387592) : lstB n = true := by unfold lstB mostC; rw [decide_eq_true h0, decide_eq_true h1]; rfl
set_option maxHeartbeats 4000000 in
theorem verify_k (s : ByteArray) (last look : Int) (code : ByteArray) (r z : Int) (w : World) (hs : s.size ≤ 1000000) (hcs : code.size ≤ 1000000) (l0 : -9223372036854775808 ≤ last) (l1 : last ≤ 9223372036854775807) (k0 : -9223372036854775808 ≤ look) (k1 : look ≤ 9223372036854775807) (ho : PowOk w) (hx : verR s last look code = (r, z)) :
    Calls Tryd.prog 16 #[.string s, .int .i64 last, .int .i64 look, .string code] w fun e w' => e = .returned (.tuple #[.int .i64 r, .int .i64 z]) ∧ Below w.heap.size w w' := by
  have HO := Lib.hid ho
  clear ho
  cases hc : cleanB s
  · have HC := Lib.hid hc
    have hq := hx
    unfold verR at hq
    rw [hc, Bool.false_and, if_neg (by decide)] at hq
    obtain ⟨rfl, rfl⟩ := Prod.mk.inj hq
    clear hq hx
    clear hc
    go_enter Tryd.func16, Tryd.ntmps16
    go_wp2_with fail
    refine (clean_k s false _ (by omega) HC.out).mono ?_
    rintro e w' ⟨rfl, rfl⟩
    go_wp2_with fail
    go_ret2
    exact ⟨rfl, Below.refl _ _⟩
  · have HC := Lib.hid hc
    cases hi : isC code
    · have HI := Lib.hid hi
      have hq := hx
      unfold verR at hq
      rw [hc, hi, Bool.and_false, if_neg (by decide)] at hq
      obtain ⟨rfl, rfl⟩ := Prod.mk.inj hq
      clear hq hx
      clear hc hi
      go_enter Tryd.func16, Tryd.ntmps16
      go_wp2_with fail
      refine (clean_k s true _ (by omega) HC.out).mono ?_
      rintro e w' ⟨rfl, rfl⟩
      go_wp2_with fail
      refine (isCode_k code false _ (by omega) HI.out).mono ?_
      rintro e w1 ⟨rfl, hb⟩
      have HB := Lib.hid hb
      clear hb
      go_wp2_with fail
      go_ret2
      exact ⟨rfl, HB.out⟩
    · have HI := Lib.hid hi
      by_cases g0 : last < -1
      · have hl := lstB_low g0
        have HL := Lib.hid hl
        have hq := hx
        unfold verR at hq
        rw [hc, hi, Bool.and_true, if_pos rfl, hl, if_neg (by rintro ⟨k, _⟩; cases k)] at hq
        obtain ⟨rfl, rfl⟩ := Prod.mk.inj hq
        clear hq hx
        clear hc hi hl
        go_enter Tryd.func16, Tryd.ntmps16
        go_wp2_with fail
        refine (clean_k s true _ (by omega) HC.out).mono ?_
        rintro e w' ⟨rfl, rfl⟩
        go_wp2_with fail
        refine (isCode_k code true _ (by omega) HI.out).mono ?_
        rintro e w1 ⟨rfl, hb⟩
        have HB := Lib.hid hb
        clear hb
        go_wp2_with fail
        refine (isLast_k last false _ HL.out).mono ?_
        rintro e w' ⟨rfl, rfl⟩
        go_wp2_with fail
        go_ret2
        exact ⟨rfl, HB.out⟩
      · by_cases g1 : 36650387592 < last
        · have hl := lstB_high g1
          have HL := Lib.hid hl
          have hq := hx
          unfold verR at hq
          rw [hc, hi, Bool.and_true, if_pos rfl, hl, if_neg (by rintro ⟨k, _⟩; cases k)] at hq
          obtain ⟨rfl, rfl⟩ := Prod.mk.inj hq
          clear hq hx
          clear hc hi hl
          go_enter Tryd.func16, Tryd.ntmps16
          go_wp2_with fail
          refine (clean_k s true _ (by omega) HC.out).mono ?_
          rintro e w' ⟨rfl, rfl⟩
          go_wp2_with fail
          refine (isCode_k code true _ (by omega) HI.out).mono ?_
          rintro e w1 ⟨rfl, hb⟩
          have HB := Lib.hid hb
          clear hb
          go_wp2_with fail
          refine (isLast_k last false _ HL.out).mono ?_
          rintro e w' ⟨rfl, rfl⟩
          go_wp2_with fail
          go_ret2
          exact ⟨rfl, HB.out⟩
        · have hl := lstB_yes (n := last) (by omega) (by omega)
          have HL := Lib.hid hl
          by_cases g2 : look < 0
          · have hq := hx
            unfold verR at hq
            rw [hc, hi, Bool.and_true, if_pos rfl, if_neg (by rintro ⟨_, k, _⟩; omega)] at hq
            obtain ⟨rfl, rfl⟩ := Prod.mk.inj hq
            clear hq hx
            clear hc hi hl
            go_enter Tryd.func16, Tryd.ntmps16
            go_wp2_with fail
            refine (clean_k s true _ (by omega) HC.out).mono ?_
            rintro e w' ⟨rfl, rfl⟩
            go_wp2_with fail
            refine (isCode_k code true _ (by omega) HI.out).mono ?_
            rintro e w1 ⟨rfl, hb⟩
            have HB := Lib.hid hb
            clear hb
            go_wp2_with fail
            refine (isLast_k last true _ HL.out).mono ?_
            rintro e w' ⟨rfl, rfl⟩
            go_wp2_with fail
            go_ret2
            exact ⟨rfl, HB.out⟩
          · by_cases g3 : 16 < look
            · have hq := hx
              unfold verR at hq
              rw [hc, hi, Bool.and_true, if_pos rfl, if_neg (by rintro ⟨_, _, k⟩; omega)] at hq
              obtain ⟨rfl, rfl⟩ := Prod.mk.inj hq
              clear hq hx
              clear hc hi hl
              have d3 : decide (16 < look) = true := decide_eq_true g3
              go_enter Tryd.func16, Tryd.ntmps16
              go_wp2_with fail
              refine (clean_k s true _ (by omega) HC.out).mono ?_
              rintro e w' ⟨rfl, rfl⟩
              go_wp2_with fail
              refine (isCode_k code true _ (by omega) HI.out).mono ?_
              rintro e w1 ⟨rfl, hb⟩
              have HB := Lib.hid hb
              clear hb
              go_wp2_with fail
              refine (isLast_k last true _ HL.out).mono ?_
              rintro e w' ⟨rfl, rfl⟩
              go_wp2_with fail
              go_ret2
              exact ⟨rfl, HB.out⟩
            · have hq := hx
              unfold verR at hq
              rw [hc, hi, Bool.and_true, if_pos rfl, if_pos ⟨hl, by omega, by omega⟩] at hq
              have HQ := Lib.hid hq
              clear hq hx hc hi hl
              have d3 : decide (16 < look) = false := decide_eq_false g3
              go_enter Tryd.func16, Tryd.ntmps16
              go_wp2_with fail
              refine (clean_k s true _ (by omega) HC.out).mono ?_
              rintro e w' ⟨rfl, rfl⟩
              go_wp2_with fail
              refine (isCode_k code true _ (by omega) HI.out).mono ?_
              rintro e w1 ⟨rfl, hb⟩
              have HB := Lib.hid hb
              clear hb
              go_wp2_with fail
              refine (isLast_k last true _ HL.out).mono ?_
              rintro e w' ⟨rfl, rfl⟩
              go_wp2_with fail
              refine (find_k s code (last + 1) (last + look) r z _ hs (by omega) (by omega) (by omega) (by omega) (HO.out.below HB.out) HQ.out).mono ?_
              rintro e w2 ⟨rfl, hb⟩
              have HB := Lib.hid (HB.out.trans (hb.mono HB.out.size))
              clear hb
              go_wp2_with fail
              go_ret2
              exact ⟨rfl, HB.out⟩
set_option maxHeartbeats 4000000 in
theorem rverify_k (s : ByteArray) (last look : Int) (code : ByteArray) (r z : Int) (w : World) (hs : s.size ≤ 1000000) (hcs : code.size ≤ 1000000) (l0 : -9223372036854775808 ≤ last) (l1 : last ≤ 9223372036854775807) (k0 : -9223372036854775808 ≤ look) (k1 : look ≤ 9223372036854775807) (hx : verR s last look code = (r, z)) :
    Calls Tryd.prog 17 #[.string s, .int .i64 last, .int .i64 look, .string code] w fun e w' => e = .returned (.tuple #[.int .i64 r, .int .i64 z]) ∧ Below w.heap.size w w' := by
  cases hc : cleanB s
  · have HC := Lib.hid hc
    have hq := hx
    unfold verR at hq
    rw [hc, Bool.false_and, if_neg (by decide)] at hq
    obtain ⟨rfl, rfl⟩ := Prod.mk.inj hq
    clear hq hx
    clear hc
    go_enter Tryd.func17, Tryd.ntmps17
    go_wp2_with fail
    refine (rclean_k s false _ (by omega) HC.out).mono ?_
    rintro e w' ⟨rfl, rfl⟩
    go_wp2_with fail
    go_ret2
    exact ⟨rfl, Below.refl _ _⟩
  · have HC := Lib.hid hc
    cases hi : isC code
    · have HI := Lib.hid hi
      have hq := hx
      unfold verR at hq
      rw [hc, hi, Bool.and_false, if_neg (by decide)] at hq
      obtain ⟨rfl, rfl⟩ := Prod.mk.inj hq
      clear hq hx
      clear hc hi
      go_enter Tryd.func17, Tryd.ntmps17
      go_wp2_with fail
      refine (rclean_k s true _ (by omega) HC.out).mono ?_
      rintro e w' ⟨rfl, rfl⟩
      go_wp2_with fail
      refine (possible_k code false _ (by omega) HI.out).mono ?_
      rintro e w' ⟨rfl, rfl⟩
      have HB := Lib.hid (Below.refl w.heap.size w)
      go_wp2_with fail
      go_ret2
      exact ⟨rfl, HB.out⟩
    · have HI := Lib.hid hi
      by_cases g0 : last < -1
      · have hl := lstB_low g0
        have HL := Lib.hid hl
        have hq := hx
        unfold verR at hq
        rw [hc, hi, Bool.and_true, if_pos rfl, hl, if_neg (by rintro ⟨k, _⟩; cases k)] at hq
        obtain ⟨rfl, rfl⟩ := Prod.mk.inj hq
        clear hq hx
        clear hc hi hl
        go_enter Tryd.func17, Tryd.ntmps17
        go_wp2_with fail
        refine (rclean_k s true _ (by omega) HC.out).mono ?_
        rintro e w' ⟨rfl, rfl⟩
        go_wp2_with fail
        refine (possible_k code true _ (by omega) HI.out).mono ?_
        rintro e w' ⟨rfl, rfl⟩
        have HB := Lib.hid (Below.refl w.heap.size w)
        go_wp2_with fail
        go_ret2
        exact ⟨rfl, HB.out⟩
      · by_cases g1 : 36650387592 < last
        · have hl := lstB_high g1
          have HL := Lib.hid hl
          have hq := hx
          unfold verR at hq
          rw [hc, hi, Bool.and_true, if_pos rfl, hl, if_neg (by rintro ⟨k, _⟩; cases k)] at hq
          obtain ⟨rfl, rfl⟩ := Prod.mk.inj hq
          clear hq hx
          clear hc hi hl
          go_enter Tryd.func17, Tryd.ntmps17
          go_wp2_with fail
          refine (rclean_k s true _ (by omega) HC.out).mono ?_
          rintro e w' ⟨rfl, rfl⟩
          go_wp2_with fail
          refine (possible_k code true _ (by omega) HI.out).mono ?_
          rintro e w' ⟨rfl, rfl⟩
          have HB := Lib.hid (Below.refl w.heap.size w)
          go_wp2_with fail
          go_ret2
          exact ⟨rfl, HB.out⟩
        · have hl := lstB_yes (n := last) (by omega) (by omega)
          have HL := Lib.hid hl
          by_cases g2 : look < 0
          · have hq := hx
            unfold verR at hq
            rw [hc, hi, Bool.and_true, if_pos rfl, if_neg (by rintro ⟨_, k, _⟩; omega)] at hq
            obtain ⟨rfl, rfl⟩ := Prod.mk.inj hq
            clear hq hx
            clear hc hi hl
            go_enter Tryd.func17, Tryd.ntmps17
            go_wp2_with fail
            refine (rclean_k s true _ (by omega) HC.out).mono ?_
            rintro e w' ⟨rfl, rfl⟩
            go_wp2_with fail
            refine (possible_k code true _ (by omega) HI.out).mono ?_
            rintro e w' ⟨rfl, rfl⟩
            have HB := Lib.hid (Below.refl w.heap.size w)
            go_wp2_with fail
            go_ret2
            exact ⟨rfl, HB.out⟩
          · by_cases g3 : 16 < look
            · have hq := hx
              unfold verR at hq
              rw [hc, hi, Bool.and_true, if_pos rfl, if_neg (by rintro ⟨_, _, k⟩; omega)] at hq
              obtain ⟨rfl, rfl⟩ := Prod.mk.inj hq
              clear hq hx
              clear hc hi hl
              have d3 : decide (16 < look) = true := decide_eq_true g3
              go_enter Tryd.func17, Tryd.ntmps17
              go_wp2_with fail
              refine (rclean_k s true _ (by omega) HC.out).mono ?_
              rintro e w' ⟨rfl, rfl⟩
              go_wp2_with fail
              refine (possible_k code true _ (by omega) HI.out).mono ?_
              rintro e w' ⟨rfl, rfl⟩
              have HB := Lib.hid (Below.refl w.heap.size w)
              go_wp2_with fail
              go_ret2
              exact ⟨rfl, HB.out⟩
            · have hq := hx
              unfold verR at hq
              rw [hc, hi, Bool.and_true, if_pos rfl, if_pos ⟨hl, by omega, by omega⟩] at hq
              have HQ := Lib.hid hq
              clear hq hx hc hi hl
              have d3 : decide (16 < look) = false := decide_eq_false g3
              obtain ⟨m, hm⟩ : ∃ m, min (last + look) 36650387592 = m := ⟨_, rfl⟩
              have HQ2 := Lib.hid (show fndR s code (last + 1) m = (r, z) by rw [← hm, fndR_min]; exact HQ.out)
              go_enter Tryd.func17, Tryd.ntmps17
              go_wp2_with fail
              refine (rclean_k s true _ (by omega) HC.out).mono ?_
              rintro e w' ⟨rfl, rfl⟩
              go_wp2_with fail
              refine (possible_k code true _ (by omega) HI.out).mono ?_
              rintro e w' ⟨rfl, rfl⟩
              have HB := Lib.hid (Below.refl w.heap.size w)
              go_wp2_with fail
              refine (first_k s code (last + 1) m r z _ hs HC.out (by omega) (by omega) (by omega) (by omega) HQ2.out).mono ?_
              rintro e w2 ⟨rfl, hb⟩
              have HB := Lib.hid (HB.out.trans (hb.mono HB.out.size))
              clear hb
              go_wp2_with fail
              go_ret2
              exact ⟨rfl, HB.out⟩
set_option maxHeartbeats 4000000 in
theorem verifyAt_k (s : ByteArray) (last now look : Int) (code : ByteArray) (r z : Int) (w : World) (hs : s.size ≤ 1000000) (hcs : code.size ≤ 1000000) (l0 : -9223372036854775808 ≤ last) (l1 : last ≤ 9223372036854775807) (k0 : -9223372036854775808 ≤ look) (k1 : look ≤ 9223372036854775807) (ho : PowOk w) (hx : vatR s last now look code = (r, z)) :
    Calls Tryd.prog 18 #[.string s, .int .i64 last, .int .i64 now, .int .i64 look, .string code] w fun e w' => e = .returned (.tuple #[.int .i64 r, .int .i64 z]) ∧ Below w.heap.size w w' := by
  have HO := Lib.hid ho
  clear ho
  cases hc : cleanB s
  · have HC := Lib.hid hc
    have hq := hx
    unfold vatR at hq
    rw [hc, Bool.false_and, if_neg (by decide)] at hq
    obtain ⟨rfl, rfl⟩ := Prod.mk.inj hq
    clear hq hx
    clear hc
    go_enter Tryd.func18, Tryd.ntmps18
    go_wp2_with fail
    refine (clean_k s false _ (by omega) HC.out).mono ?_
    rintro e w' ⟨rfl, rfl⟩
    go_wp2_with fail
    go_ret2
    exact ⟨rfl, Below.refl _ _⟩
  · have HC := Lib.hid hc
    cases hi : isC code
    · have HI := Lib.hid hi
      have hq := hx
      unfold vatR at hq
      rw [hc, hi, Bool.and_false, if_neg (by decide)] at hq
      obtain ⟨rfl, rfl⟩ := Prod.mk.inj hq
      clear hq hx
      clear hc hi
      go_enter Tryd.func18, Tryd.ntmps18
      go_wp2_with fail
      refine (clean_k s true _ (by omega) HC.out).mono ?_
      rintro e w' ⟨rfl, rfl⟩
      go_wp2_with fail
      refine (isCode_k code false _ (by omega) HI.out).mono ?_
      rintro e w1 ⟨rfl, hb⟩
      have HB := Lib.hid hb
      clear hb
      go_wp2_with fail
      go_ret2
      exact ⟨rfl, HB.out⟩
    · have HI := Lib.hid hi
      by_cases g0 : last < -1
      · have hl := lstB_low g0
        have HL := Lib.hid hl
        have hq := hx
        unfold vatR at hq
        rw [hc, hi, Bool.and_true, if_pos rfl, hl, if_neg (by decide)] at hq
        obtain ⟨rfl, rfl⟩ := Prod.mk.inj hq
        clear hq hx
        clear hc hi hl
        go_enter Tryd.func18, Tryd.ntmps18
        go_wp2_with fail
        refine (clean_k s true _ (by omega) HC.out).mono ?_
        rintro e w' ⟨rfl, rfl⟩
        go_wp2_with fail
        refine (isCode_k code true _ (by omega) HI.out).mono ?_
        rintro e w1 ⟨rfl, hb⟩
        have HB := Lib.hid hb
        clear hb
        go_wp2_with fail
        refine (isLast_k last false _ HL.out).mono ?_
        rintro e w' ⟨rfl, rfl⟩
        go_wp2_with fail
        go_ret2
        exact ⟨rfl, HB.out⟩
      · by_cases g1 : 36650387592 < last
        · have hl := lstB_high g1
          have HL := Lib.hid hl
          have hq := hx
          unfold vatR at hq
          rw [hc, hi, Bool.and_true, if_pos rfl, hl, if_neg (by decide)] at hq
          obtain ⟨rfl, rfl⟩ := Prod.mk.inj hq
          clear hq hx
          clear hc hi hl
          go_enter Tryd.func18, Tryd.ntmps18
          go_wp2_with fail
          refine (clean_k s true _ (by omega) HC.out).mono ?_
          rintro e w' ⟨rfl, rfl⟩
          go_wp2_with fail
          refine (isCode_k code true _ (by omega) HI.out).mono ?_
          rintro e w1 ⟨rfl, hb⟩
          have HB := Lib.hid hb
          clear hb
          go_wp2_with fail
          refine (isLast_k last false _ HL.out).mono ?_
          rintro e w' ⟨rfl, rfl⟩
          go_wp2_with fail
          go_ret2
          exact ⟨rfl, HB.out⟩
        · have hl := lstB_yes (n := last) (by omega) (by omega)
          have HL := Lib.hid hl
          have hq := hx
          unfold vatR at hq
          rw [hc, hi, Bool.and_true, if_pos rfl, if_pos hl] at hq
          have HQ := Lib.hid hq
          clear hq hx hc hi hl
          have cb := ctrI_bd now
          obtain ⟨c, hcn⟩ : ∃ c, ctrI now = c := ⟨_, rfl⟩
          rw [hcn] at HQ cb
          unfold mostC at cb
          obtain ⟨cb0, cb1⟩ := cb
          have HCn := Lib.hid hcn
          clear hcn
          obtain ⟨u, hu⟩ : ∃ u, max look 0 = u := ⟨_, rfl⟩
          obtain ⟨v, hv⟩ : ∃ v, min u 600 = v := ⟨_, rfl⟩
          have e1 : skewI look = v := by unfold skewI; omega
          have v0 : 0 ≤ v := by omega
          have v1 : v ≤ 600 := by omega
          rw [e1] at HQ
          clear e1
          obtain ⟨q, hq⟩ : ∃ q, v / 30 = q := ⟨_, rfl⟩
          have q0 : 0 ≤ q := by omega
          have q1 : q ≤ 20 := by omega
          have hq2 : v.tdiv 30 = q := by rw [Int.tdiv_eq_ediv_of_nonneg v0]; exact hq
          rw [hq] at HQ
          obtain ⟨a, ha⟩ : ∃ a, max (last + 1) (c - q) = a := ⟨_, rfl⟩
          rw [ha] at HQ
          go_enter Tryd.func18, Tryd.ntmps18
          go_wp2_with fail
          refine (clean_k s true _ (by omega) HC.out).mono ?_
          rintro e w' ⟨rfl, rfl⟩
          go_wp2_with fail
          refine (isCode_k code true _ (by omega) HI.out).mono ?_
          rintro e w1 ⟨rfl, hb⟩
          have HB := Lib.hid hb
          clear hb
          go_wp2_with fail
          refine (isLast_k last true _ HL.out).mono ?_
          rintro e w' ⟨rfl, rfl⟩
          go_wp2_with fail
          refine (counter_k now c _ HCn.out).mono ?_
          rintro e w' ⟨rfl, rfl⟩
          go_wp2_with fail
          refine (counter_k now c _ HCn.out).mono ?_
          rintro e w' ⟨rfl, rfl⟩
          go_wp2_with fail
          refine (find_k s code a (c + q) r z _ hs (by omega) (by omega) (by omega) (by omega) (HO.out.below HB.out) HQ.out).mono ?_
          rintro e w2 ⟨rfl, hb⟩
          have HB := Lib.hid (HB.out.trans (hb.mono HB.out.size))
          clear hb
          go_wp2_with fail
          go_ret2
          exact ⟨rfl, HB.out⟩
set_option maxHeartbeats 4000000 in
theorem rverifyAt_k (s : ByteArray) (last now look : Int) (code : ByteArray) (r z : Int) (w : World) (hs : s.size ≤ 1000000) (hcs : code.size ≤ 1000000) (l0 : -9223372036854775808 ≤ last) (l1 : last ≤ 9223372036854775807) (k0 : -9223372036854775808 ≤ look) (k1 : look ≤ 9223372036854775807) (hx : vatR s last now look code = (r, z)) :
    Calls Tryd.prog 19 #[.string s, .int .i64 last, .int .i64 now, .int .i64 look, .string code] w fun e w' => e = .returned (.tuple #[.int .i64 r, .int .i64 z]) ∧ Below w.heap.size w w' := by
  cases hc : cleanB s
  · have HC := Lib.hid hc
    have hq := hx
    unfold vatR at hq
    rw [hc, Bool.false_and, if_neg (by decide)] at hq
    obtain ⟨rfl, rfl⟩ := Prod.mk.inj hq
    clear hq hx
    clear hc
    go_enter Tryd.func19, Tryd.ntmps19
    go_wp2_with fail
    refine (rclean_k s false _ (by omega) HC.out).mono ?_
    rintro e w' ⟨rfl, rfl⟩
    go_wp2_with fail
    go_ret2
    exact ⟨rfl, Below.refl _ _⟩
  · have HC := Lib.hid hc
    cases hi : isC code
    · have HI := Lib.hid hi
      have hq := hx
      unfold vatR at hq
      rw [hc, hi, Bool.and_false, if_neg (by decide)] at hq
      obtain ⟨rfl, rfl⟩ := Prod.mk.inj hq
      clear hq hx
      clear hc hi
      go_enter Tryd.func19, Tryd.ntmps19
      go_wp2_with fail
      refine (rclean_k s true _ (by omega) HC.out).mono ?_
      rintro e w' ⟨rfl, rfl⟩
      go_wp2_with fail
      refine (possible_k code false _ (by omega) HI.out).mono ?_
      rintro e w' ⟨rfl, rfl⟩
      have HB := Lib.hid (Below.refl w.heap.size w)
      go_wp2_with fail
      go_ret2
      exact ⟨rfl, HB.out⟩
    · have HI := Lib.hid hi
      by_cases g0 : last < -1
      · have hl := lstB_low g0
        have HL := Lib.hid hl
        have hq := hx
        unfold vatR at hq
        rw [hc, hi, Bool.and_true, if_pos rfl, hl, if_neg (by decide)] at hq
        obtain ⟨rfl, rfl⟩ := Prod.mk.inj hq
        clear hq hx
        clear hc hi hl
        go_enter Tryd.func19, Tryd.ntmps19
        go_wp2_with fail
        refine (rclean_k s true _ (by omega) HC.out).mono ?_
        rintro e w' ⟨rfl, rfl⟩
        go_wp2_with fail
        refine (possible_k code true _ (by omega) HI.out).mono ?_
        rintro e w' ⟨rfl, rfl⟩
        have HB := Lib.hid (Below.refl w.heap.size w)
        go_wp2_with fail
        go_ret2
        exact ⟨rfl, HB.out⟩
      · by_cases g1 : 36650387592 < last
        · have hl := lstB_high g1
          have HL := Lib.hid hl
          have hq := hx
          unfold vatR at hq
          rw [hc, hi, Bool.and_true, if_pos rfl, hl, if_neg (by decide)] at hq
          obtain ⟨rfl, rfl⟩ := Prod.mk.inj hq
          clear hq hx
          clear hc hi hl
          have d1 : decide (36650387592 < last) = true := decide_eq_true g1
          go_enter Tryd.func19, Tryd.ntmps19
          go_wp2_with fail
          refine (rclean_k s true _ (by omega) HC.out).mono ?_
          rintro e w' ⟨rfl, rfl⟩
          go_wp2_with fail
          refine (possible_k code true _ (by omega) HI.out).mono ?_
          rintro e w' ⟨rfl, rfl⟩
          have HB := Lib.hid (Below.refl w.heap.size w)
          go_wp2_with fail
          go_ret2
          exact ⟨rfl, HB.out⟩
        · have hl := lstB_yes (n := last) (by omega) (by omega)
          have HL := Lib.hid hl
          have hq := hx
          unfold vatR at hq
          rw [hc, hi, Bool.and_true, if_pos rfl, if_pos hl] at hq
          have HQ := Lib.hid hq
          clear hq hx hc hi hl
          have cb := ctrI_bd now
          obtain ⟨c, hcn⟩ : ∃ c, ctrI now = c := ⟨_, rfl⟩
          rw [hcn] at HQ cb
          unfold mostC at cb
          obtain ⟨cb0, cb1⟩ := cb
          have HCn := Lib.hid hcn
          clear hcn
          obtain ⟨u, hu⟩ : ∃ u, min look 600 = u := ⟨_, rfl⟩
          obtain ⟨v, hv⟩ : ∃ v, max 0 u = v := ⟨_, rfl⟩
          have e1 : skewI look = v := by unfold skewI; omega
          have v0 : 0 ≤ v := by omega
          have v1 : v ≤ 600 := by omega
          rw [e1] at HQ
          clear e1
          obtain ⟨q, hq⟩ : ∃ q, v / 30 = q := ⟨_, rfl⟩
          have q0 : 0 ≤ q := by omega
          have q1 : q ≤ 20 := by omega
          have hq2 : v.tdiv 30 = q := by rw [Int.tdiv_eq_ediv_of_nonneg v0]; exact hq
          rw [hq] at HQ
          obtain ⟨a, ha⟩ : ∃ a, max (last + 1) (c - q) = a := ⟨_, rfl⟩
          rw [ha] at HQ
          obtain ⟨m, hm⟩ : ∃ m, min (c + q) 36650387592 = m := ⟨_, rfl⟩
          have HQ2 := Lib.hid (show fndR s code a m = (r, z) by rw [← hm, fndR_min]; exact HQ.out)
          go_enter Tryd.func19, Tryd.ntmps19
          go_wp2_with fail
          refine (rclean_k s true _ (by omega) HC.out).mono ?_
          rintro e w' ⟨rfl, rfl⟩
          go_wp2_with fail
          refine (possible_k code true _ (by omega) HI.out).mono ?_
          rintro e w' ⟨rfl, rfl⟩
          have HB := Lib.hid (Below.refl w.heap.size w)
          go_wp2_with fail
          refine (rcounter_k now c _ HCn.out).mono ?_
          rintro e w' ⟨rfl, rfl⟩
          go_wp2_with fail
          refine (rcounter_k now c _ HCn.out).mono ?_
          rintro e w' ⟨rfl, rfl⟩
          go_wp2_with fail
          refine (first_k s code a m r z _ hs HC.out (by omega) (by omega) (by omega) (by omega) HQ2.out).mono ?_
          rintro e w2 ⟨rfl, hb⟩
          have HB := Lib.hid (HB.out.trans (hb.mono HB.out.size))
          clear hb
          go_wp2_with fail
          go_ret2
          exact ⟨rfl, HB.out⟩
end Go.Proofs.YtmkcojgdhdmnnaaDoor
