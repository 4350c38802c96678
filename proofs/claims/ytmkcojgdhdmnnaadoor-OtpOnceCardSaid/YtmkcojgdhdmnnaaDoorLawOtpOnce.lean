/-
  Proved: identitylaw23.OtpOnce returns true for all arguments (the tied card). No condition beyond the row's own.
-/
import Derived.Test.YtmkcojgdhdmnnaaDoorOtpLaws
import Derived.Deep.RegionHeld3
set_option linter.unusedVariables false
set_option linter.unusedSimpArgs false
set_option linter.unnecessarySimpa false
namespace Go.Proofs.YtmkcojgdhdmnnaaDoor
open Go.ChangeShapes Go.WideShapes Go.ChangeAt Go.RowKit Go.PlainAid
open Go.ChangeMaps (open_string shut_string)

theorem verR_ok {s : ByteArray} {last look : Int} {code : ByteArray} {a : Int} (h : verR s last look code = (a, 0)) :
    cleanB s = true ∧ isC code = true ∧ last < a ∧ a ≤ last + look ∧ 0 ≤ a ∧ a ≤ mostC ∧ codeS s a = code ∧ 0 ≤ look ∧ look ≤ 16 ∧ lstB last = true ∧ ∀ d, last < d → d < a → codeS s d ≠ code := by
  unfold verR at h
  split at h
  · next hc =>
    rw [Bool.and_eq_true] at hc
    split at h
    · next hl =>
      obtain ⟨c, e, h1, h2, h3, h4, h5⟩ := fndR_some (s := s) (code := code) (a := last + 1) (b := last + look) (by rw [h])
      rw [h] at e
      obtain ⟨rfl, _⟩ := Prod.mk.inj e
      have := lstB_cases hl.1
      exact ⟨hc.1, hc.2, by omega, h2, by omega, h3, h4, hl.2.1, hl.2.2, hl.1, fun d k1 k2 => h5 d (by omega) k2⟩
    · exact absurd (Prod.mk.inj h).2 (by decide)
  · exact absurd (Prod.mk.inj h).2 (by decide)
theorem vatR_ok {s : ByteArray} {last now look : Int} {code : ByteArray} {a : Int} (h : vatR s last now look code = (a, 0)) :
    cleanB s = true ∧ isC code = true ∧ last < a ∧ ctrI now - skewI look / 30 ≤ a ∧ a ≤ ctrI now + skewI look / 30 ∧ 0 ≤ a ∧ a ≤ mostC ∧ codeS s a = code ∧ lstB last = true := by
  unfold vatR at h
  split at h
  · next hc =>
    rw [Bool.and_eq_true] at hc
    split at h
    · next hl =>
      obtain ⟨c, e, h1, h2, h3, h4, h5⟩ := fndR_some (s := s) (code := code) (a := max (last + 1) (ctrI now - skewI look / 30)) (b := ctrI now + skewI look / 30) (by rw [h])
      rw [h] at e
      obtain ⟨rfl, _⟩ := Prod.mk.inj e
      have := lstB_cases hl
      exact ⟨hc.1, hc.2, by omega, by omega, h2, by omega, h3, h4, hl⟩
    · exact absurd (Prod.mk.inj h).2 (by decide)
  · exact absurd (Prod.mk.inj h).2 (by decide)
theorem skew_bd (s : Int) : 0 ≤ skewI s / 30 ∧ skewI s / 30 ≤ 20 := by unfold skewI; omega
theorem codR_of {s : ByteArray} {a : Int} {c : ByteArray} (h0 : cleanB s = true) (h1 : 0 ≤ a) (h2 : a ≤ mostC) (h3 : codeS s a = c) : codR s a = (c, 0) := by
  unfold codR; rw [h0, if_pos rfl, if_pos ⟨h1, h2⟩, h3]
set_option maxRecDepth 100000 in
set_option maxHeartbeats 16000000 in
theorem otonce_s (x : Tr) (w : World) (hx : InT x) (ho : PowOk w) :
    Calls Tryd.prog 6 #[tV x] w fun e w' => e = .returned (.bool true) ∧ Below w.heap.size w w' := by
  have HO := Lib.hid ho
  clear ho
  have HT := Lib.hid (trI_new w x)
  obtain ⟨sec, code, last, look, now, k, near⟩ := x
  obtain ⟨i0, i1, ⟨l0, l1⟩, ⟨k0, k1⟩, ⟨n0, n1⟩, _⟩ := hx
  dsimp only at i0 i1 l0 l1 k0 k1 n0 n1
  clear i0 i1
  unfold tB tcells at HT
  unfold tV tcells
  cases hf : fitB ⟨sec, code, last, look, now, k, near⟩
  · have HF := Lib.hid hf
    clear hf
    go_enter Tryd.func6, Tryd.ntmps6
    go_wp2_with fail
    refine (fits_l ⟨sec, code, last, look, now, k, near⟩ false _ HF.out).mono ?_
    rintro e wc1 ⟨rfl, hb⟩
    have HT := Lib.hid (HT.out.step hb)
    clear hb
    obtain ⟨c0, c1, c2, c3, c4, c5, c6⟩ := HT.out.cells
    dsimp only at c0 c1 c2 c3 c4 c5 c6
    go_wp2_with fail
    try clear c0 c1 c2 c3 c4 c5 c6
    refine (alive_s _ (HO.out.below HT.out.low)).mono ?_
    rintro e wc2 ⟨rfl, hb⟩
    have HT := Lib.hid (HT.out.step hb)
    clear hb
    obtain ⟨c0, c1, c2, c3, c4, c5, c6⟩ := HT.out.cells
    dsimp only at c0 c1 c2 c3 c4 c5 c6
    go_wp2_with fail
    try clear c0 c1 c2 c3 c4 c5 c6
    go_ret
    exact ⟨rfl, HT.out.low⟩
  · obtain ⟨t, ht⟩ : ∃ t, typS ⟨sec, code, last, look, now, k, near⟩ = t := ⟨_, rfl⟩
    have hts : t.size ≤ 300 := by rw [← ht]; exact typS_size hf
    have hss : sec.size ≤ 300 := (fit_yes hf).1
    obtain ⟨⟨a, z⟩, hv⟩ : ∃ p, verR sec last look t = p := ⟨_, rfl⟩
    obtain ⟨⟨m, y⟩, hu⟩ : ∃ p, vatR sec last now look t = p := ⟨_, rfl⟩
    obtain ⟨c, hcn⟩ : ∃ c, ctrI now = c := ⟨_, rfl⟩
    have HF := Lib.hid hf
    have HY := Lib.hid ht
    have HV := Lib.hid hv
    have HU := Lib.hid hu
    have HN := Lib.hid hcn
    clear hf ht
    have e1 : (t.toList != t.toList) = false := bne_self_eq_false _
    by_cases hz : z = 0
    · subst hz
      obtain ⟨v1, v2, v3, v4, v5, v6, v7, v8, v9, v10, v11⟩ := verR_ok hv
      unfold mostC at v6
      have HC1 := Lib.hid (codR_of v1 v5 (by unfold mostC; exact v6) v7)
      obtain ⟨⟨b, g⟩, hg⟩ : ∃ p, verR sec a look t = p := ⟨_, rfl⟩
      have HV2 := Lib.hid hg
      have q1 : decide (a ≤ last) = false := decide_eq_false (by omega)
      have q2 : decide (last + look < a) = false := decide_eq_false (by omega)
      have q1' : ¬ a ≤ last := by omega
      have q2' : ¬ last + look < a := by omega
      by_cases g0 : g = 0
      · subst g0
        have w0 := (verR_ok hg).2.2.1
        have q0' : ¬ b ≤ a := by omega
        have q0 : decide (b ≤ a) = false := decide_eq_false q0'
        by_cases hy : y = 0
        · subst hy
          obtain ⟨u1, u2, u3, u4, u5, u6, u7, u8, u9⟩ := vatR_ok hu
          have sk := skew_bd look
          rw [hcn] at u4 u5
          unfold mostC at u7
          have HC2 := Lib.hid (codR_of u1 u6 (by unfold mostC; exact u7) u8)
          obtain ⟨⟨n, h⟩, hh⟩ : ∃ p, vatR sec m now look t = p := ⟨_, rfl⟩
          have HU2 := Lib.hid hh
          have cb := ctrI_bd now
          rw [hcn] at cb
          unfold mostC at cb
          obtain ⟨cb0, cb1⟩ := cb
          have q3' : ¬ m ≤ last := by omega
          have q4' : ¬ 20 < m - c := by omega
          have q5' : ¬ m - c < -20 := by omega
          have q3 : decide (m ≤ last) = false := decide_eq_false q3'
          have q4 : decide (20 < m - c) = false := decide_eq_false q4'
          have q5 : decide (m - c < -20) = false := decide_eq_false q5'
          have m0 : 0 ≤ m := by omega
          by_cases h0 : h = 0
          · subst h0
            have w1 := (vatR_ok hh).2.2.1
            have q6' : ¬ n ≤ m := by omega
            have q6 : decide (n ≤ m) = false := decide_eq_false q6'
            clear hv hu hcn
            try clear v1 v2 v7 v10 v11 hg
            try clear u1 u2 u4 u5 u8 u9 hh sk
            go_enter Tryd.func6, Tryd.ntmps6
            go_wp2_with fail
            refine (fits_l ⟨sec, code, last, look, now, k, near⟩ true _ HF.out).mono ?_
            rintro e wc3 ⟨rfl, hb⟩
            have HT := Lib.hid (HT.out.step hb)
            clear hb
            obtain ⟨c0, c1, c2, c3, c4, c5, c6⟩ := HT.out.cells
            dsimp only at c0 c1 c2 c3 c4 c5 c6
            go_wp2_with fail
            try clear c0 c1 c2 c3 c4 c5 c6
            refine (typed_l ⟨sec, code, last, look, now, k, near⟩ t _ hss HY.out).mono ?_
            rintro e wc4 ⟨rfl, hb⟩
            have HT := Lib.hid (HT.out.step hb)
            clear hb
            obtain ⟨c0, c1, c2, c3, c4, c5, c6⟩ := HT.out.cells
            dsimp only at c0 c1 c2 c3 c4 c5 c6
            go_wp2_with fail
            try clear c0 c1 c2 c3 c4 c5 c6
            refine (verify_k sec last look t a 0 _ (by omega) (by omega) l0 l1 k0 k1 (HO.out.below HT.out.low) HV.out).mono ?_
            rintro e wc5 ⟨rfl, hb⟩
            have HT := Lib.hid (HT.out.step hb)
            clear hb
            obtain ⟨c0, c1, c2, c3, c4, c5, c6⟩ := HT.out.cells
            dsimp only at c0 c1 c2 c3 c4 c5 c6
            go_wp2_with fail
            try clear c0 c1 c2 c3 c4 c5 c6
            refine (code_k sec a t 0 _ (by omega) (HO.out.below HT.out.low) HC1.out).mono ?_
            rintro e wc6 ⟨rfl, hb⟩
            have HT := Lib.hid (HT.out.step hb)
            clear hb
            obtain ⟨c0, c1, c2, c3, c4, c5, c6⟩ := HT.out.cells
            dsimp only at c0 c1 c2 c3 c4 c5 c6
            go_wp2_with fail
            try clear c0 c1 c2 c3 c4 c5 c6
            refine (verify_k sec a look t b 0 _ (by omega) (by omega) (by omega) (by omega) k0 k1 (HO.out.below HT.out.low) HV2.out).mono ?_
            rintro e wc7 ⟨rfl, hb⟩
            have HT := Lib.hid (HT.out.step hb)
            clear hb
            obtain ⟨c0, c1, c2, c3, c4, c5, c6⟩ := HT.out.cells
            dsimp only at c0 c1 c2 c3 c4 c5 c6
            go_wp2_with fail
            try clear c0 c1 c2 c3 c4 c5 c6
            refine (verifyAt_k sec last now look t m 0 _ (by omega) (by omega) l0 l1 k0 k1 (HO.out.below HT.out.low) HU.out).mono ?_
            rintro e wc8 ⟨rfl, hb⟩
            have HT := Lib.hid (HT.out.step hb)
            clear hb
            obtain ⟨c0, c1, c2, c3, c4, c5, c6⟩ := HT.out.cells
            dsimp only at c0 c1 c2 c3 c4 c5 c6
            go_wp2_with fail
            try clear c0 c1 c2 c3 c4 c5 c6
            refine (code_k sec m t 0 _ (by omega) (HO.out.below HT.out.low) HC2.out).mono ?_
            rintro e wc9 ⟨rfl, hb⟩
            have HT := Lib.hid (HT.out.step hb)
            clear hb
            obtain ⟨c0, c1, c2, c3, c4, c5, c6⟩ := HT.out.cells
            dsimp only at c0 c1 c2 c3 c4 c5 c6
            go_wp2_with fail
            try clear c0 c1 c2 c3 c4 c5 c6
            refine (verifyAt_k sec m now look t n 0 _ (by omega) (by omega) (by omega) (by omega) k0 k1 (HO.out.below HT.out.low) HU2.out).mono ?_
            rintro e wc10 ⟨rfl, hb⟩
            have HT := Lib.hid (HT.out.step hb)
            clear hb
            obtain ⟨c0, c1, c2, c3, c4, c5, c6⟩ := HT.out.cells
            dsimp only at c0 c1 c2 c3 c4 c5 c6
            go_wp2_with fail
            try clear c0 c1 c2 c3 c4 c5 c6
            obtain ⟨c0, c1, c2, c3, c4, c5, c6⟩ := HT.out.cells
            dsimp only at c0 c1 c2 c3 c4 c5 c6
            refine (counter_k now c _ HN.out).mono ?_
            rintro e w' ⟨rfl, rfl⟩
            go_wp2_with fail
            try clear c0 c1 c2 c3 c4 c5 c6
            refine (alive_s _ (HO.out.below HT.out.low)).mono ?_
            rintro e wc11 ⟨rfl, hb⟩
            have HT := Lib.hid (HT.out.step hb)
            clear hb
            obtain ⟨c0, c1, c2, c3, c4, c5, c6⟩ := HT.out.cells
            dsimp only at c0 c1 c2 c3 c4 c5 c6
            go_wp2_with fail
            try clear c0 c1 c2 c3 c4 c5 c6
            go_ret
            exact ⟨rfl, HT.out.low⟩
          · have d3 : (h == 0) = false := beq_false_of_ne h0
            clear hv hu hcn
            try clear v1 v2 v7 v10 v11 hg
            try clear u1 u2 u4 u5 u8 u9 hh sk
            go_enter Tryd.func6, Tryd.ntmps6
            go_wp2_with fail
            refine (fits_l ⟨sec, code, last, look, now, k, near⟩ true _ HF.out).mono ?_
            rintro e wc12 ⟨rfl, hb⟩
            have HT := Lib.hid (HT.out.step hb)
            clear hb
            obtain ⟨c0, c1, c2, c3, c4, c5, c6⟩ := HT.out.cells
            dsimp only at c0 c1 c2 c3 c4 c5 c6
            go_wp2_with fail
            try clear c0 c1 c2 c3 c4 c5 c6
            refine (typed_l ⟨sec, code, last, look, now, k, near⟩ t _ hss HY.out).mono ?_
            rintro e wc13 ⟨rfl, hb⟩
            have HT := Lib.hid (HT.out.step hb)
            clear hb
            obtain ⟨c0, c1, c2, c3, c4, c5, c6⟩ := HT.out.cells
            dsimp only at c0 c1 c2 c3 c4 c5 c6
            go_wp2_with fail
            try clear c0 c1 c2 c3 c4 c5 c6
            refine (verify_k sec last look t a 0 _ (by omega) (by omega) l0 l1 k0 k1 (HO.out.below HT.out.low) HV.out).mono ?_
            rintro e wc14 ⟨rfl, hb⟩
            have HT := Lib.hid (HT.out.step hb)
            clear hb
            obtain ⟨c0, c1, c2, c3, c4, c5, c6⟩ := HT.out.cells
            dsimp only at c0 c1 c2 c3 c4 c5 c6
            go_wp2_with fail
            try clear c0 c1 c2 c3 c4 c5 c6
            refine (code_k sec a t 0 _ (by omega) (HO.out.below HT.out.low) HC1.out).mono ?_
            rintro e wc15 ⟨rfl, hb⟩
            have HT := Lib.hid (HT.out.step hb)
            clear hb
            obtain ⟨c0, c1, c2, c3, c4, c5, c6⟩ := HT.out.cells
            dsimp only at c0 c1 c2 c3 c4 c5 c6
            go_wp2_with fail
            try clear c0 c1 c2 c3 c4 c5 c6
            refine (verify_k sec a look t b 0 _ (by omega) (by omega) (by omega) (by omega) k0 k1 (HO.out.below HT.out.low) HV2.out).mono ?_
            rintro e wc16 ⟨rfl, hb⟩
            have HT := Lib.hid (HT.out.step hb)
            clear hb
            obtain ⟨c0, c1, c2, c3, c4, c5, c6⟩ := HT.out.cells
            dsimp only at c0 c1 c2 c3 c4 c5 c6
            go_wp2_with fail
            try clear c0 c1 c2 c3 c4 c5 c6
            refine (verifyAt_k sec last now look t m 0 _ (by omega) (by omega) l0 l1 k0 k1 (HO.out.below HT.out.low) HU.out).mono ?_
            rintro e wc17 ⟨rfl, hb⟩
            have HT := Lib.hid (HT.out.step hb)
            clear hb
            obtain ⟨c0, c1, c2, c3, c4, c5, c6⟩ := HT.out.cells
            dsimp only at c0 c1 c2 c3 c4 c5 c6
            go_wp2_with fail
            try clear c0 c1 c2 c3 c4 c5 c6
            refine (code_k sec m t 0 _ (by omega) (HO.out.below HT.out.low) HC2.out).mono ?_
            rintro e wc18 ⟨rfl, hb⟩
            have HT := Lib.hid (HT.out.step hb)
            clear hb
            obtain ⟨c0, c1, c2, c3, c4, c5, c6⟩ := HT.out.cells
            dsimp only at c0 c1 c2 c3 c4 c5 c6
            go_wp2_with fail
            try clear c0 c1 c2 c3 c4 c5 c6
            refine (verifyAt_k sec m now look t n h _ (by omega) (by omega) (by omega) (by omega) k0 k1 (HO.out.below HT.out.low) HU2.out).mono ?_
            rintro e wc19 ⟨rfl, hb⟩
            have HT := Lib.hid (HT.out.step hb)
            clear hb
            obtain ⟨c0, c1, c2, c3, c4, c5, c6⟩ := HT.out.cells
            dsimp only at c0 c1 c2 c3 c4 c5 c6
            go_wp2_with fail
            try clear c0 c1 c2 c3 c4 c5 c6
            obtain ⟨c0, c1, c2, c3, c4, c5, c6⟩ := HT.out.cells
            dsimp only at c0 c1 c2 c3 c4 c5 c6
            refine (counter_k now c _ HN.out).mono ?_
            rintro e w' ⟨rfl, rfl⟩
            go_wp2_with fail
            try clear c0 c1 c2 c3 c4 c5 c6
            refine (alive_s _ (HO.out.below HT.out.low)).mono ?_
            rintro e wc20 ⟨rfl, hb⟩
            have HT := Lib.hid (HT.out.step hb)
            clear hb
            obtain ⟨c0, c1, c2, c3, c4, c5, c6⟩ := HT.out.cells
            dsimp only at c0 c1 c2 c3 c4 c5 c6
            go_wp2_with fail
            try clear c0 c1 c2 c3 c4 c5 c6
            go_ret
            exact ⟨rfl, HT.out.low⟩
        · have d2 : (y == 0) = false := beq_false_of_ne hy
          have d2n : ¬ y = 0 := hy
          clear hv hu hcn
          try clear v1 v2 v7 v10 v11 hg
          try clear u1 u2 u4 u5 u8 u9 hh sk
          go_enter Tryd.func6, Tryd.ntmps6
          go_wp2_with fail
          refine (fits_l ⟨sec, code, last, look, now, k, near⟩ true _ HF.out).mono ?_
          rintro e wc21 ⟨rfl, hb⟩
          have HT := Lib.hid (HT.out.step hb)
          clear hb
          obtain ⟨c0, c1, c2, c3, c4, c5, c6⟩ := HT.out.cells
          dsimp only at c0 c1 c2 c3 c4 c5 c6
          go_wp2_with fail
          try clear c0 c1 c2 c3 c4 c5 c6
          refine (typed_l ⟨sec, code, last, look, now, k, near⟩ t _ hss HY.out).mono ?_
          rintro e wc22 ⟨rfl, hb⟩
          have HT := Lib.hid (HT.out.step hb)
          clear hb
          obtain ⟨c0, c1, c2, c3, c4, c5, c6⟩ := HT.out.cells
          dsimp only at c0 c1 c2 c3 c4 c5 c6
          go_wp2_with fail
          try clear c0 c1 c2 c3 c4 c5 c6
          refine (verify_k sec last look t a 0 _ (by omega) (by omega) l0 l1 k0 k1 (HO.out.below HT.out.low) HV.out).mono ?_
          rintro e wc23 ⟨rfl, hb⟩
          have HT := Lib.hid (HT.out.step hb)
          clear hb
          obtain ⟨c0, c1, c2, c3, c4, c5, c6⟩ := HT.out.cells
          dsimp only at c0 c1 c2 c3 c4 c5 c6
          go_wp2_with fail
          try clear c0 c1 c2 c3 c4 c5 c6
          refine (code_k sec a t 0 _ (by omega) (HO.out.below HT.out.low) HC1.out).mono ?_
          rintro e wc24 ⟨rfl, hb⟩
          have HT := Lib.hid (HT.out.step hb)
          clear hb
          obtain ⟨c0, c1, c2, c3, c4, c5, c6⟩ := HT.out.cells
          dsimp only at c0 c1 c2 c3 c4 c5 c6
          go_wp2_with fail
          try clear c0 c1 c2 c3 c4 c5 c6
          refine (verify_k sec a look t b 0 _ (by omega) (by omega) (by omega) (by omega) k0 k1 (HO.out.below HT.out.low) HV2.out).mono ?_
          rintro e wc25 ⟨rfl, hb⟩
          have HT := Lib.hid (HT.out.step hb)
          clear hb
          obtain ⟨c0, c1, c2, c3, c4, c5, c6⟩ := HT.out.cells
          dsimp only at c0 c1 c2 c3 c4 c5 c6
          go_wp2_with fail
          try clear c0 c1 c2 c3 c4 c5 c6
          refine (verifyAt_k sec last now look t m y _ (by omega) (by omega) l0 l1 k0 k1 (HO.out.below HT.out.low) HU.out).mono ?_
          rintro e wc26 ⟨rfl, hb⟩
          have HT := Lib.hid (HT.out.step hb)
          clear hb
          obtain ⟨c0, c1, c2, c3, c4, c5, c6⟩ := HT.out.cells
          dsimp only at c0 c1 c2 c3 c4 c5 c6
          go_wp2_with fail
          try clear c0 c1 c2 c3 c4 c5 c6
          refine (alive_s _ (HO.out.below HT.out.low)).mono ?_
          rintro e wc27 ⟨rfl, hb⟩
          have HT := Lib.hid (HT.out.step hb)
          clear hb
          obtain ⟨c0, c1, c2, c3, c4, c5, c6⟩ := HT.out.cells
          dsimp only at c0 c1 c2 c3 c4 c5 c6
          go_wp2_with fail
          try clear c0 c1 c2 c3 c4 c5 c6
          go_ret
          exact ⟨rfl, HT.out.low⟩
      · have d4 : (g == 0) = false := beq_false_of_ne g0
        by_cases hy : y = 0
        · subst hy
          obtain ⟨u1, u2, u3, u4, u5, u6, u7, u8, u9⟩ := vatR_ok hu
          have sk := skew_bd look
          rw [hcn] at u4 u5
          unfold mostC at u7
          have HC2 := Lib.hid (codR_of u1 u6 (by unfold mostC; exact u7) u8)
          obtain ⟨⟨n, h⟩, hh⟩ : ∃ p, vatR sec m now look t = p := ⟨_, rfl⟩
          have HU2 := Lib.hid hh
          have cb := ctrI_bd now
          rw [hcn] at cb
          unfold mostC at cb
          obtain ⟨cb0, cb1⟩ := cb
          have q3' : ¬ m ≤ last := by omega
          have q4' : ¬ 20 < m - c := by omega
          have q5' : ¬ m - c < -20 := by omega
          have q3 : decide (m ≤ last) = false := decide_eq_false q3'
          have q4 : decide (20 < m - c) = false := decide_eq_false q4'
          have q5 : decide (m - c < -20) = false := decide_eq_false q5'
          have m0 : 0 ≤ m := by omega
          by_cases h0 : h = 0
          · subst h0
            have w1 := (vatR_ok hh).2.2.1
            have q6' : ¬ n ≤ m := by omega
            have q6 : decide (n ≤ m) = false := decide_eq_false q6'
            clear hv hu hcn
            try clear v1 v2 v7 v10 v11 hg
            try clear u1 u2 u4 u5 u8 u9 hh sk
            go_enter Tryd.func6, Tryd.ntmps6
            go_wp2_with fail
            refine (fits_l ⟨sec, code, last, look, now, k, near⟩ true _ HF.out).mono ?_
            rintro e wc28 ⟨rfl, hb⟩
            have HT := Lib.hid (HT.out.step hb)
            clear hb
            obtain ⟨c0, c1, c2, c3, c4, c5, c6⟩ := HT.out.cells
            dsimp only at c0 c1 c2 c3 c4 c5 c6
            go_wp2_with fail
            try clear c0 c1 c2 c3 c4 c5 c6
            refine (typed_l ⟨sec, code, last, look, now, k, near⟩ t _ hss HY.out).mono ?_
            rintro e wc29 ⟨rfl, hb⟩
            have HT := Lib.hid (HT.out.step hb)
            clear hb
            obtain ⟨c0, c1, c2, c3, c4, c5, c6⟩ := HT.out.cells
            dsimp only at c0 c1 c2 c3 c4 c5 c6
            go_wp2_with fail
            try clear c0 c1 c2 c3 c4 c5 c6
            refine (verify_k sec last look t a 0 _ (by omega) (by omega) l0 l1 k0 k1 (HO.out.below HT.out.low) HV.out).mono ?_
            rintro e wc30 ⟨rfl, hb⟩
            have HT := Lib.hid (HT.out.step hb)
            clear hb
            obtain ⟨c0, c1, c2, c3, c4, c5, c6⟩ := HT.out.cells
            dsimp only at c0 c1 c2 c3 c4 c5 c6
            go_wp2_with fail
            try clear c0 c1 c2 c3 c4 c5 c6
            refine (code_k sec a t 0 _ (by omega) (HO.out.below HT.out.low) HC1.out).mono ?_
            rintro e wc31 ⟨rfl, hb⟩
            have HT := Lib.hid (HT.out.step hb)
            clear hb
            obtain ⟨c0, c1, c2, c3, c4, c5, c6⟩ := HT.out.cells
            dsimp only at c0 c1 c2 c3 c4 c5 c6
            go_wp2_with fail
            try clear c0 c1 c2 c3 c4 c5 c6
            refine (verify_k sec a look t b g _ (by omega) (by omega) (by omega) (by omega) k0 k1 (HO.out.below HT.out.low) HV2.out).mono ?_
            rintro e wc32 ⟨rfl, hb⟩
            have HT := Lib.hid (HT.out.step hb)
            clear hb
            obtain ⟨c0, c1, c2, c3, c4, c5, c6⟩ := HT.out.cells
            dsimp only at c0 c1 c2 c3 c4 c5 c6
            go_wp2_with fail
            try clear c0 c1 c2 c3 c4 c5 c6
            refine (verifyAt_k sec last now look t m 0 _ (by omega) (by omega) l0 l1 k0 k1 (HO.out.below HT.out.low) HU.out).mono ?_
            rintro e wc33 ⟨rfl, hb⟩
            have HT := Lib.hid (HT.out.step hb)
            clear hb
            obtain ⟨c0, c1, c2, c3, c4, c5, c6⟩ := HT.out.cells
            dsimp only at c0 c1 c2 c3 c4 c5 c6
            go_wp2_with fail
            try clear c0 c1 c2 c3 c4 c5 c6
            refine (code_k sec m t 0 _ (by omega) (HO.out.below HT.out.low) HC2.out).mono ?_
            rintro e wc34 ⟨rfl, hb⟩
            have HT := Lib.hid (HT.out.step hb)
            clear hb
            obtain ⟨c0, c1, c2, c3, c4, c5, c6⟩ := HT.out.cells
            dsimp only at c0 c1 c2 c3 c4 c5 c6
            go_wp2_with fail
            try clear c0 c1 c2 c3 c4 c5 c6
            refine (verifyAt_k sec m now look t n 0 _ (by omega) (by omega) (by omega) (by omega) k0 k1 (HO.out.below HT.out.low) HU2.out).mono ?_
            rintro e wc35 ⟨rfl, hb⟩
            have HT := Lib.hid (HT.out.step hb)
            clear hb
            obtain ⟨c0, c1, c2, c3, c4, c5, c6⟩ := HT.out.cells
            dsimp only at c0 c1 c2 c3 c4 c5 c6
            go_wp2_with fail
            try clear c0 c1 c2 c3 c4 c5 c6
            obtain ⟨c0, c1, c2, c3, c4, c5, c6⟩ := HT.out.cells
            dsimp only at c0 c1 c2 c3 c4 c5 c6
            refine (counter_k now c _ HN.out).mono ?_
            rintro e w' ⟨rfl, rfl⟩
            go_wp2_with fail
            try clear c0 c1 c2 c3 c4 c5 c6
            refine (alive_s _ (HO.out.below HT.out.low)).mono ?_
            rintro e wc36 ⟨rfl, hb⟩
            have HT := Lib.hid (HT.out.step hb)
            clear hb
            obtain ⟨c0, c1, c2, c3, c4, c5, c6⟩ := HT.out.cells
            dsimp only at c0 c1 c2 c3 c4 c5 c6
            go_wp2_with fail
            try clear c0 c1 c2 c3 c4 c5 c6
            go_ret
            exact ⟨rfl, HT.out.low⟩
          · have d3 : (h == 0) = false := beq_false_of_ne h0
            clear hv hu hcn
            try clear v1 v2 v7 v10 v11 hg
            try clear u1 u2 u4 u5 u8 u9 hh sk
            go_enter Tryd.func6, Tryd.ntmps6
            go_wp2_with fail
            refine (fits_l ⟨sec, code, last, look, now, k, near⟩ true _ HF.out).mono ?_
            rintro e wc37 ⟨rfl, hb⟩
            have HT := Lib.hid (HT.out.step hb)
            clear hb
            obtain ⟨c0, c1, c2, c3, c4, c5, c6⟩ := HT.out.cells
            dsimp only at c0 c1 c2 c3 c4 c5 c6
            go_wp2_with fail
            try clear c0 c1 c2 c3 c4 c5 c6
            refine (typed_l ⟨sec, code, last, look, now, k, near⟩ t _ hss HY.out).mono ?_
            rintro e wc38 ⟨rfl, hb⟩
            have HT := Lib.hid (HT.out.step hb)
            clear hb
            obtain ⟨c0, c1, c2, c3, c4, c5, c6⟩ := HT.out.cells
            dsimp only at c0 c1 c2 c3 c4 c5 c6
            go_wp2_with fail
            try clear c0 c1 c2 c3 c4 c5 c6
            refine (verify_k sec last look t a 0 _ (by omega) (by omega) l0 l1 k0 k1 (HO.out.below HT.out.low) HV.out).mono ?_
            rintro e wc39 ⟨rfl, hb⟩
            have HT := Lib.hid (HT.out.step hb)
            clear hb
            obtain ⟨c0, c1, c2, c3, c4, c5, c6⟩ := HT.out.cells
            dsimp only at c0 c1 c2 c3 c4 c5 c6
            go_wp2_with fail
            try clear c0 c1 c2 c3 c4 c5 c6
            refine (code_k sec a t 0 _ (by omega) (HO.out.below HT.out.low) HC1.out).mono ?_
            rintro e wc40 ⟨rfl, hb⟩
            have HT := Lib.hid (HT.out.step hb)
            clear hb
            obtain ⟨c0, c1, c2, c3, c4, c5, c6⟩ := HT.out.cells
            dsimp only at c0 c1 c2 c3 c4 c5 c6
            go_wp2_with fail
            try clear c0 c1 c2 c3 c4 c5 c6
            refine (verify_k sec a look t b g _ (by omega) (by omega) (by omega) (by omega) k0 k1 (HO.out.below HT.out.low) HV2.out).mono ?_
            rintro e wc41 ⟨rfl, hb⟩
            have HT := Lib.hid (HT.out.step hb)
            clear hb
            obtain ⟨c0, c1, c2, c3, c4, c5, c6⟩ := HT.out.cells
            dsimp only at c0 c1 c2 c3 c4 c5 c6
            go_wp2_with fail
            try clear c0 c1 c2 c3 c4 c5 c6
            refine (verifyAt_k sec last now look t m 0 _ (by omega) (by omega) l0 l1 k0 k1 (HO.out.below HT.out.low) HU.out).mono ?_
            rintro e wc42 ⟨rfl, hb⟩
            have HT := Lib.hid (HT.out.step hb)
            clear hb
            obtain ⟨c0, c1, c2, c3, c4, c5, c6⟩ := HT.out.cells
            dsimp only at c0 c1 c2 c3 c4 c5 c6
            go_wp2_with fail
            try clear c0 c1 c2 c3 c4 c5 c6
            refine (code_k sec m t 0 _ (by omega) (HO.out.below HT.out.low) HC2.out).mono ?_
            rintro e wc43 ⟨rfl, hb⟩
            have HT := Lib.hid (HT.out.step hb)
            clear hb
            obtain ⟨c0, c1, c2, c3, c4, c5, c6⟩ := HT.out.cells
            dsimp only at c0 c1 c2 c3 c4 c5 c6
            go_wp2_with fail
            try clear c0 c1 c2 c3 c4 c5 c6
            refine (verifyAt_k sec m now look t n h _ (by omega) (by omega) (by omega) (by omega) k0 k1 (HO.out.below HT.out.low) HU2.out).mono ?_
            rintro e wc44 ⟨rfl, hb⟩
            have HT := Lib.hid (HT.out.step hb)
            clear hb
            obtain ⟨c0, c1, c2, c3, c4, c5, c6⟩ := HT.out.cells
            dsimp only at c0 c1 c2 c3 c4 c5 c6
            go_wp2_with fail
            try clear c0 c1 c2 c3 c4 c5 c6
            obtain ⟨c0, c1, c2, c3, c4, c5, c6⟩ := HT.out.cells
            dsimp only at c0 c1 c2 c3 c4 c5 c6
            refine (counter_k now c _ HN.out).mono ?_
            rintro e w' ⟨rfl, rfl⟩
            go_wp2_with fail
            try clear c0 c1 c2 c3 c4 c5 c6
            refine (alive_s _ (HO.out.below HT.out.low)).mono ?_
            rintro e wc45 ⟨rfl, hb⟩
            have HT := Lib.hid (HT.out.step hb)
            clear hb
            obtain ⟨c0, c1, c2, c3, c4, c5, c6⟩ := HT.out.cells
            dsimp only at c0 c1 c2 c3 c4 c5 c6
            go_wp2_with fail
            try clear c0 c1 c2 c3 c4 c5 c6
            go_ret
            exact ⟨rfl, HT.out.low⟩
        · have d2 : (y == 0) = false := beq_false_of_ne hy
          have d2n : ¬ y = 0 := hy
          clear hv hu hcn
          try clear v1 v2 v7 v10 v11 hg
          try clear u1 u2 u4 u5 u8 u9 hh sk
          go_enter Tryd.func6, Tryd.ntmps6
          go_wp2_with fail
          refine (fits_l ⟨sec, code, last, look, now, k, near⟩ true _ HF.out).mono ?_
          rintro e wc46 ⟨rfl, hb⟩
          have HT := Lib.hid (HT.out.step hb)
          clear hb
          obtain ⟨c0, c1, c2, c3, c4, c5, c6⟩ := HT.out.cells
          dsimp only at c0 c1 c2 c3 c4 c5 c6
          go_wp2_with fail
          try clear c0 c1 c2 c3 c4 c5 c6
          refine (typed_l ⟨sec, code, last, look, now, k, near⟩ t _ hss HY.out).mono ?_
          rintro e wc47 ⟨rfl, hb⟩
          have HT := Lib.hid (HT.out.step hb)
          clear hb
          obtain ⟨c0, c1, c2, c3, c4, c5, c6⟩ := HT.out.cells
          dsimp only at c0 c1 c2 c3 c4 c5 c6
          go_wp2_with fail
          try clear c0 c1 c2 c3 c4 c5 c6
          refine (verify_k sec last look t a 0 _ (by omega) (by omega) l0 l1 k0 k1 (HO.out.below HT.out.low) HV.out).mono ?_
          rintro e wc48 ⟨rfl, hb⟩
          have HT := Lib.hid (HT.out.step hb)
          clear hb
          obtain ⟨c0, c1, c2, c3, c4, c5, c6⟩ := HT.out.cells
          dsimp only at c0 c1 c2 c3 c4 c5 c6
          go_wp2_with fail
          try clear c0 c1 c2 c3 c4 c5 c6
          refine (code_k sec a t 0 _ (by omega) (HO.out.below HT.out.low) HC1.out).mono ?_
          rintro e wc49 ⟨rfl, hb⟩
          have HT := Lib.hid (HT.out.step hb)
          clear hb
          obtain ⟨c0, c1, c2, c3, c4, c5, c6⟩ := HT.out.cells
          dsimp only at c0 c1 c2 c3 c4 c5 c6
          go_wp2_with fail
          try clear c0 c1 c2 c3 c4 c5 c6
          refine (verify_k sec a look t b g _ (by omega) (by omega) (by omega) (by omega) k0 k1 (HO.out.below HT.out.low) HV2.out).mono ?_
          rintro e wc50 ⟨rfl, hb⟩
          have HT := Lib.hid (HT.out.step hb)
          clear hb
          obtain ⟨c0, c1, c2, c3, c4, c5, c6⟩ := HT.out.cells
          dsimp only at c0 c1 c2 c3 c4 c5 c6
          go_wp2_with fail
          try clear c0 c1 c2 c3 c4 c5 c6
          refine (verifyAt_k sec last now look t m y _ (by omega) (by omega) l0 l1 k0 k1 (HO.out.below HT.out.low) HU.out).mono ?_
          rintro e wc51 ⟨rfl, hb⟩
          have HT := Lib.hid (HT.out.step hb)
          clear hb
          obtain ⟨c0, c1, c2, c3, c4, c5, c6⟩ := HT.out.cells
          dsimp only at c0 c1 c2 c3 c4 c5 c6
          go_wp2_with fail
          try clear c0 c1 c2 c3 c4 c5 c6
          refine (alive_s _ (HO.out.below HT.out.low)).mono ?_
          rintro e wc52 ⟨rfl, hb⟩
          have HT := Lib.hid (HT.out.step hb)
          clear hb
          obtain ⟨c0, c1, c2, c3, c4, c5, c6⟩ := HT.out.cells
          dsimp only at c0 c1 c2 c3 c4 c5 c6
          go_wp2_with fail
          try clear c0 c1 c2 c3 c4 c5 c6
          go_ret
          exact ⟨rfl, HT.out.low⟩
    · have d1 : (z == 0) = false := beq_false_of_ne hz
      have d1n : ¬ z = 0 := hz
      by_cases hy : y = 0
      · subst hy
        obtain ⟨u1, u2, u3, u4, u5, u6, u7, u8, u9⟩ := vatR_ok hu
        have sk := skew_bd look
        rw [hcn] at u4 u5
        unfold mostC at u7
        have HC2 := Lib.hid (codR_of u1 u6 (by unfold mostC; exact u7) u8)
        obtain ⟨⟨n, h⟩, hh⟩ : ∃ p, vatR sec m now look t = p := ⟨_, rfl⟩
        have HU2 := Lib.hid hh
        have cb := ctrI_bd now
        rw [hcn] at cb
        unfold mostC at cb
        obtain ⟨cb0, cb1⟩ := cb
        have q3' : ¬ m ≤ last := by omega
        have q4' : ¬ 20 < m - c := by omega
        have q5' : ¬ m - c < -20 := by omega
        have q3 : decide (m ≤ last) = false := decide_eq_false q3'
        have q4 : decide (20 < m - c) = false := decide_eq_false q4'
        have q5 : decide (m - c < -20) = false := decide_eq_false q5'
        have m0 : 0 ≤ m := by omega
        by_cases h0 : h = 0
        · subst h0
          have w1 := (vatR_ok hh).2.2.1
          have q6' : ¬ n ≤ m := by omega
          have q6 : decide (n ≤ m) = false := decide_eq_false q6'
          clear hv hu hcn
          try clear v1 v2 v7 v10 v11 hg
          try clear u1 u2 u4 u5 u8 u9 hh sk
          go_enter Tryd.func6, Tryd.ntmps6
          go_wp2_with fail
          refine (fits_l ⟨sec, code, last, look, now, k, near⟩ true _ HF.out).mono ?_
          rintro e wc53 ⟨rfl, hb⟩
          have HT := Lib.hid (HT.out.step hb)
          clear hb
          obtain ⟨c0, c1, c2, c3, c4, c5, c6⟩ := HT.out.cells
          dsimp only at c0 c1 c2 c3 c4 c5 c6
          go_wp2_with fail
          try clear c0 c1 c2 c3 c4 c5 c6
          refine (typed_l ⟨sec, code, last, look, now, k, near⟩ t _ hss HY.out).mono ?_
          rintro e wc54 ⟨rfl, hb⟩
          have HT := Lib.hid (HT.out.step hb)
          clear hb
          obtain ⟨c0, c1, c2, c3, c4, c5, c6⟩ := HT.out.cells
          dsimp only at c0 c1 c2 c3 c4 c5 c6
          go_wp2_with fail
          try clear c0 c1 c2 c3 c4 c5 c6
          refine (verify_k sec last look t a z _ (by omega) (by omega) l0 l1 k0 k1 (HO.out.below HT.out.low) HV.out).mono ?_
          rintro e wc55 ⟨rfl, hb⟩
          have HT := Lib.hid (HT.out.step hb)
          clear hb
          obtain ⟨c0, c1, c2, c3, c4, c5, c6⟩ := HT.out.cells
          dsimp only at c0 c1 c2 c3 c4 c5 c6
          go_wp2_with fail
          try clear c0 c1 c2 c3 c4 c5 c6
          refine (verifyAt_k sec last now look t m 0 _ (by omega) (by omega) l0 l1 k0 k1 (HO.out.below HT.out.low) HU.out).mono ?_
          rintro e wc56 ⟨rfl, hb⟩
          have HT := Lib.hid (HT.out.step hb)
          clear hb
          obtain ⟨c0, c1, c2, c3, c4, c5, c6⟩ := HT.out.cells
          dsimp only at c0 c1 c2 c3 c4 c5 c6
          go_wp2_with fail
          try clear c0 c1 c2 c3 c4 c5 c6
          refine (code_k sec m t 0 _ (by omega) (HO.out.below HT.out.low) HC2.out).mono ?_
          rintro e wc57 ⟨rfl, hb⟩
          have HT := Lib.hid (HT.out.step hb)
          clear hb
          obtain ⟨c0, c1, c2, c3, c4, c5, c6⟩ := HT.out.cells
          dsimp only at c0 c1 c2 c3 c4 c5 c6
          go_wp2_with fail
          try clear c0 c1 c2 c3 c4 c5 c6
          refine (verifyAt_k sec m now look t n 0 _ (by omega) (by omega) (by omega) (by omega) k0 k1 (HO.out.below HT.out.low) HU2.out).mono ?_
          rintro e wc58 ⟨rfl, hb⟩
          have HT := Lib.hid (HT.out.step hb)
          clear hb
          obtain ⟨c0, c1, c2, c3, c4, c5, c6⟩ := HT.out.cells
          dsimp only at c0 c1 c2 c3 c4 c5 c6
          go_wp2_with fail
          try clear c0 c1 c2 c3 c4 c5 c6
          obtain ⟨c0, c1, c2, c3, c4, c5, c6⟩ := HT.out.cells
          dsimp only at c0 c1 c2 c3 c4 c5 c6
          refine (counter_k now c _ HN.out).mono ?_
          rintro e w' ⟨rfl, rfl⟩
          go_wp2_with fail
          try clear c0 c1 c2 c3 c4 c5 c6
          refine (alive_s _ (HO.out.below HT.out.low)).mono ?_
          rintro e wc59 ⟨rfl, hb⟩
          have HT := Lib.hid (HT.out.step hb)
          clear hb
          obtain ⟨c0, c1, c2, c3, c4, c5, c6⟩ := HT.out.cells
          dsimp only at c0 c1 c2 c3 c4 c5 c6
          go_wp2_with fail
          try clear c0 c1 c2 c3 c4 c5 c6
          go_ret
          exact ⟨rfl, HT.out.low⟩
        · have d3 : (h == 0) = false := beq_false_of_ne h0
          clear hv hu hcn
          try clear v1 v2 v7 v10 v11 hg
          try clear u1 u2 u4 u5 u8 u9 hh sk
          go_enter Tryd.func6, Tryd.ntmps6
          go_wp2_with fail
          refine (fits_l ⟨sec, code, last, look, now, k, near⟩ true _ HF.out).mono ?_
          rintro e wc60 ⟨rfl, hb⟩
          have HT := Lib.hid (HT.out.step hb)
          clear hb
          obtain ⟨c0, c1, c2, c3, c4, c5, c6⟩ := HT.out.cells
          dsimp only at c0 c1 c2 c3 c4 c5 c6
          go_wp2_with fail
          try clear c0 c1 c2 c3 c4 c5 c6
          refine (typed_l ⟨sec, code, last, look, now, k, near⟩ t _ hss HY.out).mono ?_
          rintro e wc61 ⟨rfl, hb⟩
          have HT := Lib.hid (HT.out.step hb)
          clear hb
          obtain ⟨c0, c1, c2, c3, c4, c5, c6⟩ := HT.out.cells
          dsimp only at c0 c1 c2 c3 c4 c5 c6
          go_wp2_with fail
          try clear c0 c1 c2 c3 c4 c5 c6
          refine (verify_k sec last look t a z _ (by omega) (by omega) l0 l1 k0 k1 (HO.out.below HT.out.low) HV.out).mono ?_
          rintro e wc62 ⟨rfl, hb⟩
          have HT := Lib.hid (HT.out.step hb)
          clear hb
          obtain ⟨c0, c1, c2, c3, c4, c5, c6⟩ := HT.out.cells
          dsimp only at c0 c1 c2 c3 c4 c5 c6
          go_wp2_with fail
          try clear c0 c1 c2 c3 c4 c5 c6
          refine (verifyAt_k sec last now look t m 0 _ (by omega) (by omega) l0 l1 k0 k1 (HO.out.below HT.out.low) HU.out).mono ?_
          rintro e wc63 ⟨rfl, hb⟩
          have HT := Lib.hid (HT.out.step hb)
          clear hb
          obtain ⟨c0, c1, c2, c3, c4, c5, c6⟩ := HT.out.cells
          dsimp only at c0 c1 c2 c3 c4 c5 c6
          go_wp2_with fail
          try clear c0 c1 c2 c3 c4 c5 c6
          refine (code_k sec m t 0 _ (by omega) (HO.out.below HT.out.low) HC2.out).mono ?_
          rintro e wc64 ⟨rfl, hb⟩
          have HT := Lib.hid (HT.out.step hb)
          clear hb
          obtain ⟨c0, c1, c2, c3, c4, c5, c6⟩ := HT.out.cells
          dsimp only at c0 c1 c2 c3 c4 c5 c6
          go_wp2_with fail
          try clear c0 c1 c2 c3 c4 c5 c6
          refine (verifyAt_k sec m now look t n h _ (by omega) (by omega) (by omega) (by omega) k0 k1 (HO.out.below HT.out.low) HU2.out).mono ?_
          rintro e wc65 ⟨rfl, hb⟩
          have HT := Lib.hid (HT.out.step hb)
          clear hb
          obtain ⟨c0, c1, c2, c3, c4, c5, c6⟩ := HT.out.cells
          dsimp only at c0 c1 c2 c3 c4 c5 c6
          go_wp2_with fail
          try clear c0 c1 c2 c3 c4 c5 c6
          obtain ⟨c0, c1, c2, c3, c4, c5, c6⟩ := HT.out.cells
          dsimp only at c0 c1 c2 c3 c4 c5 c6
          refine (counter_k now c _ HN.out).mono ?_
          rintro e w' ⟨rfl, rfl⟩
          go_wp2_with fail
          try clear c0 c1 c2 c3 c4 c5 c6
          refine (alive_s _ (HO.out.below HT.out.low)).mono ?_
          rintro e wc66 ⟨rfl, hb⟩
          have HT := Lib.hid (HT.out.step hb)
          clear hb
          obtain ⟨c0, c1, c2, c3, c4, c5, c6⟩ := HT.out.cells
          dsimp only at c0 c1 c2 c3 c4 c5 c6
          go_wp2_with fail
          try clear c0 c1 c2 c3 c4 c5 c6
          go_ret
          exact ⟨rfl, HT.out.low⟩
      · have d2 : (y == 0) = false := beq_false_of_ne hy
        have d2n : ¬ y = 0 := hy
        clear hv hu hcn
        try clear v1 v2 v7 v10 v11 hg
        try clear u1 u2 u4 u5 u8 u9 hh sk
        go_enter Tryd.func6, Tryd.ntmps6
        go_wp2_with fail
        refine (fits_l ⟨sec, code, last, look, now, k, near⟩ true _ HF.out).mono ?_
        rintro e wc67 ⟨rfl, hb⟩
        have HT := Lib.hid (HT.out.step hb)
        clear hb
        obtain ⟨c0, c1, c2, c3, c4, c5, c6⟩ := HT.out.cells
        dsimp only at c0 c1 c2 c3 c4 c5 c6
        go_wp2_with fail
        try clear c0 c1 c2 c3 c4 c5 c6
        refine (typed_l ⟨sec, code, last, look, now, k, near⟩ t _ hss HY.out).mono ?_
        rintro e wc68 ⟨rfl, hb⟩
        have HT := Lib.hid (HT.out.step hb)
        clear hb
        obtain ⟨c0, c1, c2, c3, c4, c5, c6⟩ := HT.out.cells
        dsimp only at c0 c1 c2 c3 c4 c5 c6
        go_wp2_with fail
        try clear c0 c1 c2 c3 c4 c5 c6
        refine (verify_k sec last look t a z _ (by omega) (by omega) l0 l1 k0 k1 (HO.out.below HT.out.low) HV.out).mono ?_
        rintro e wc69 ⟨rfl, hb⟩
        have HT := Lib.hid (HT.out.step hb)
        clear hb
        obtain ⟨c0, c1, c2, c3, c4, c5, c6⟩ := HT.out.cells
        dsimp only at c0 c1 c2 c3 c4 c5 c6
        go_wp2_with fail
        try clear c0 c1 c2 c3 c4 c5 c6
        refine (verifyAt_k sec last now look t m y _ (by omega) (by omega) l0 l1 k0 k1 (HO.out.below HT.out.low) HU.out).mono ?_
        rintro e wc70 ⟨rfl, hb⟩
        have HT := Lib.hid (HT.out.step hb)
        clear hb
        obtain ⟨c0, c1, c2, c3, c4, c5, c6⟩ := HT.out.cells
        dsimp only at c0 c1 c2 c3 c4 c5 c6
        go_wp2_with fail
        try clear c0 c1 c2 c3 c4 c5 c6
        refine (alive_s _ (HO.out.below HT.out.low)).mono ?_
        rintro e wc71 ⟨rfl, hb⟩
        have HT := Lib.hid (HT.out.step hb)
        clear hb
        obtain ⟨c0, c1, c2, c3, c4, c5, c6⟩ := HT.out.cells
        dsimp only at c0 c1 c2 c3 c4 c5 c6
        go_wp2_with fail
        try clear c0 c1 c2 c3 c4 c5 c6
        go_ret
        exact ⟨rfl, HT.out.low⟩

theorem otonce_types : ∀ t ∈ [29], Tryd.prog.readableRec t = true ∧ t < Tryd.prog.types.size := by
  have h : ([29].all fun t => Tryd.prog.readableRec t && decide (t < Tryd.prog.types.size)) = true := by kernel_rfl
  intro t ht
  have := List.all_eq_true.1 h t ht
  simpa using this

set_option maxRecDepth 100000 in
theorem otonce_contract (H : Type) (enc : TypeId × Value → H) (W : World) (base : Nat) (args : Array Value) (ds gs : List (DataW H)) (before : List MemPlace)
    (hval : ∀ (j : Nat) t v, Tryd.f6.params[j]? = some t → args[j]? = some v → Value.okWide Tryd.prog W .any base t v)
    (hW : DataW.Whole enc Tryd.prog Tryd.f6.params.toList Rows.otpOnceSpec.vars false W args.toList ds gs before) (hL : laidMetH Tryd.prog Rows.otpOnceRow.laid W) (hsh : W.ShapedOpen Tryd.prog) :
    Calls Tryd.prog 6 args W fun e W' => ∃ v, e = .returned v ∧ Rows.otpOnceSpec.post enc Tryd.prog Tryd.f6 false true false false W args v W' := by
  have hW' := hW
  obtain ⟨p, q, hA0, hV, rfl, hfz, hnd⟩ := hW
  have hA : DataW.TrodAll enc Tryd.prog W 0 (fun _ => true) true Tryd.f6.params.toList args.toList ds p := hA0
  obtain ⟨rfl, rfl⟩ := trodVars_none hV
  simp only [List.append_nil] at hW'
  have hlt : ∀ x ∈ p, x.block < W.heap.size := fun x hx => by simpa using hW'.lt x hx
  have fin : ∀ W', Below W.heap.size W W' → DataW.TrodAll enc Tryd.prog W' 0 (fun b => decide (b < W.heap.size)) true [29] args.toList ds p := fun W' hb => by
    rw [Tryd.params6] at hA
    exact trodAll_below hb _ _ _ _ otonce_types hA hlt
  clear hA0
  rw [Tryd.params6] at hA hval
  obtain ⟨v0, vs0, d0, ds0, p0, q0, hargs, rfl, hp0, h0, r0⟩ := trodAll_cons hA
  obtain ⟨rfl, rfl, rfl⟩ := trodAll_nil r0
  obtain rfl : args = #[v0] := by cases args; simp_all
  obtain ⟨x, rfl, hs0⟩ := open_t (hval 0 29 v0 rfl rfl) h0
  refine (otonce_s x W hs0 (pok hL)).mono fun e W' ⟨he, hb⟩ => ?_
  subst he
  exact ⟨_, rfl, _, _, _, [], p, [], hW', trodAll_mk1 (shut_bool Tryd.underlying4 _), fin W' hb, rfl, hb.frame _, fun h => by cases h⟩

set_option maxRecDepth 100000 in
theorem otonce_lifted (os : Os) (started : os.Started) (H : Type) (enc : TypeId × Value → H) (F : Stop.Interp) :
    ReturnsInHanded {} Tryd.checked os 6 .any ((OpenSpec.ofChange Rows.otpOnceSpec).preRow enc Tryd.prog Tryd.f6 Rows.otpOnceRow.domain false Rows.otpOnceRow.laid) (((OpenSpec.ofChange Rows.otpOnceSpec).at F).post enc Tryd.prog Tryd.f6 false true false false) := by
  refine returnsInHanded_of_row (C := Tryd.checked) (s := OpenSpec.ofChange Rows.otpOnceSpec) own started (by kernel_rfl) Tryd.func6
    (witness_row (enc := enc) (C := Tryd.checked) false (World.laidAll Tryd.prog os Rows.otpOnceRow.laid) #[.agg #[.string ⟨#[]⟩, .string ⟨#[]⟩, .int .i64 0, .int .i64 0, .int .i64 0, .int .i64 0, .bool false]] (World.laidAll_os _ _ _)
      (World.shaped_of_ZipB (by kernel_rfl) (by kernel_rfl)) (by kernel_rfl)
      (OpenSpec.preRow_of_cond 8 (x := ([.agg [.lit (.string []), .lit (.string []), .lit (.int .i64 0), .lit (.int .i64 0), .lit (.int .i64 0), .lit (.int .i64 0), .lit (.bool false)]], [], [])) (by kernel_rfl) (by kernel_rfl) (fun k hk => by cases hk) (by kernel_rfl)
        (by rw [MakeChecks.laidMetH_plain _ _ _ (by kernel_rfl)]; exact laidMet_laidAll _ (by kernel_rfl) (by kernel_rfl)))) ?_
  intro W base args ds gs before hval hW _ _ _ hL hsh _
  exact otonce_contract H enc W base args ds gs before hval hW hL hsh

set_option maxRecDepth 100000 in
theorem otonce_said : Rows.OtpOnceSaid :=
  OpenClaim.holds_of_cond 6 Tryd.f6 rfl rfl rfl rfl rfl rfl rfl ⟨rfl, rfl, rfl, rfl, rfl⟩ rfl rfl rfl rfl rfl (by kernel_rfl) Tryd.func6 (by kernel_rfl)
    (of_decide_eq_true (by kernel_rfl)) (by unfold Func.isWrapper; first | (rw [if_pos (by decide +kernel)]; kernel_rfl) | (rw [if_neg (by decide +kernel)]; exact ⟨rfl, rfl⟩))
    (fun os started H enc _ F => by rw [OpenClaim.pre_eq_preRow]; exact otonce_lifted os started H enc F)

set_option maxRecDepth 100000 in
theorem otonce_plain (f : FuncId) (fn : Func) (hf : Tryd.pinned.checked.prog.funcNamed "identity/identitylaw23.OtpOnce" = some f) (hfn : Tryd.pinned.checked.prog.funcs[f]? = some fn) :
    false = Tryd.pinned.checked.prog.looks [] ∧ ∀ (j : Nat) t, fn.params[j]? = some t → Tryd.pinned.checked.prog.wantsStandIn t = false := by
  obtain rfl : f = 6 := Option.some.inj ((show Tryd.prog.funcNamed "identity/identitylaw23.OtpOnce" = some 6 by kernel_rfl).symm.trans hf) |>.symm
  obtain rfl : fn = Tryd.f6 := (Option.some.inj (Tryd.func6.symm.trans hfn)).symm
  refine ⟨by kernel_rfl, fun j t ht => ?_⟩
  rw [Tryd.params6] at ht
  have hm : t ∈ [29] := by simpa using Array.mem_of_getElem? ht
  have hall : ([29].all fun u => !Tryd.prog.wantsStandIn u) = true := by kernel_rfl
  exact (show Tryd.prog.wantsStandIn t = false by simpa using List.all_eq_true.1 hall t hm)

/-- THE CARD -/
theorem otonce_card : Rows.OtpOnceCardSaid :=
  Claim7.holds_tied_plain_at .later [] _ _ _ _ otonce_said (fun _ h => by cases h) (by kernel_rfl) (fun _ h => by cases h) otpOnce_row_tie rfl ⟨rfl, rfl⟩ (by kernel_rfl) rfl otonce_plain (by kernel_rfl)
end Go.Proofs.YtmkcojgdhdmnnaaDoor
