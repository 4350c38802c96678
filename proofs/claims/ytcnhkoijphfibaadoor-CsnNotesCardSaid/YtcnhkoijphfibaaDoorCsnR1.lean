/-
  Contract of the specification's Check. Condition: none beyond the list's own.
-/
import Derived.Test.YtcnhkoijphfibaaDoorCsnC1
set_option maxRecDepth 100000
set_option linter.unusedVariables false
set_option linter.unusedSimpArgs false
set_option linter.unnecessarySimpa false
namespace Go.Proofs.YtcnhkoijphfibaaDoor
open Go.RowKit Go.PlainAid

set_option maxHeartbeats 8000000 in
theorem rcheck_s (ao : Option Addr) (n cap : Nat) (l : List Cn) (w : World) (h : CnsAt w ao n cap l) :
    Calls Tryd.prog 26 #[.slice ao n cap] w fun e w' => e = .returned (.int .i64 (chkC l)) ∧ Below w.heap.size w w' := by
  obtain ⟨h1, h2, h3, h4, h5⟩ := h
  subst h1
  unfold maxLen at h3
  have H4 := Lib.hid h4; clear h4 h5
  have HB0 := Lib.hid (Below.refl w.heap.size w)
  go_enter Tryd.func26, Tryd.ntmps26
  go_wp2_with fail
  go_loopw [3] (fun iv wr => ∃ i : Nat, i ≤ l.length ∧ iv = .int .i64 i ∧ Hid (∀ j, j < i → errC l j = 0) ∧ Hid (Below w.heap.size w wr)) (fun iv _ => l.length - (intOf iv).toNat)
  case atStart => exact ⟨0, Nat.zero_le _, rfl, Lib.hid (fun j hj => absurd hj (Nat.not_lt_zero _)), HB0⟩
  case round =>
    obtain ⟨i, hi, rfl, HE, HB⟩ := hrel
    by_cases hlt : i < l.length
    · have d1 : (i : Int) < (l.length : Int) := by omega
      have i0 : (0 : Int) ≤ (i : Int) := by omega
      obtain ⟨b, off, rfl, hs⟩ := H4.out (by omega)
      have HS := Lib.hid hs
      obtain ⟨c0, c1, c2⟩ := (hs.below HB.out hs.1).2 i hlt
      clear hs
      obtain ⟨⟨t, s, r⟩, hc⟩ : ∃ c, cnA l i = c := ⟨_, rfl⟩
      rw [hc] at c0 c1 c2
      dsimp only at c0 c1 c2
      have HC := Lib.hid hc
      clear hc
      have hv1 := rvld_k (t, s, r)
      dsimp only at hv1
      cases hv : vldC (t, s, r)
      · have HF := Lib.hid (chk_hit HE.out hlt (show errC l i = 2 by unfold errC; rw [HC.out, if_pos (fun k => by rw [(vldC_iff _).2 k] at hv; cases hv)]) (by decide))
        have HB2 := Lib.hid (below_allocs [cnB (t, s, r)] _ _ _ HB.out HB.out.size)
        go_wp2_with fail
        refine (hv1 _ _ hv).mono ?_
        rintro e w' ⟨rfl, rfl⟩
        go_wp2_with fail
        go_ret
        exact ⟨by rw [HF.out]; rfl, HB2.out⟩
      · have HV := Lib.hid ((vldC_iff _).1 hv)
        have HX := Lib.hid (below_allocs [cnB (t, s, r)] _ _ _ HB.out HB.out.size)
        unfold cnB at HX
        dsimp only [List.foldl] at HX
        go_wp2_with fail
        refine (hv1 _ _ hv).mono ?_
        rintro e w' ⟨rfl, rfl⟩
        generalize wr.alloc (.cells #[.int .i64 t, .int .i64 s, .int .i64 r] 23) = W1 at HX ⊢
        clear c0 c1 c2 hv hv1
        go_wp2_with fail
        go_loopw [4] (fun kv W => ∃ k : Nat, k ≤ i ∧ kv = .int .i64 k ∧ Hid (∀ j, j < k → ¬ (cnA l j).2.2 = r) ∧ Hid (Below w.heap.size w W)) (fun kv _ => i - (intOf kv).toNat)
        case atStart => exact ⟨0, Nat.zero_le _, rfl, Lib.hid (fun j hj => absurd hj (Nat.not_lt_zero _)), HX⟩
        case round =>
          obtain ⟨k, hk, rfl, HK, HW⟩ := hrel
          have c2 := ((HS.out.below HW.out HS.out.1).2 i hlt).2.2
          rw [HC.out] at c2
          dsimp only at c2
          by_cases hki : k < i
          · have e1 : (k : Int) < (i : Int) := by omega
            have e2 : (k : Int) < (l.length : Int) := by omega
            have e0 : (0 : Int) ≤ (k : Int) := by omega
            have p2 := ((HS.out.below HW.out HS.out.1).2 k (by omega)).2.2
            obtain ⟨r', hr'⟩ : ∃ q, (cnA l k).2.2 = q := ⟨_, rfl⟩
            rw [hr'] at p2
            have HR := Lib.hid hr'
            clear hr'
            have HBQ := Lib.hid (fun q => show Below w.heap.size w (wr.drewN q) from HW.out.trans ⟨rfl, rfl, rfl, Nat.le_refl _, fun _ _ => rfl⟩)
            by_cases q : r' = r
            · have HF := Lib.hid (chk_hit HE.out hlt (show errC l i = 7 by
                unfold errC; rw [HC.out, if_neg (fun q => q HV.out), if_pos (seenC_iff.2 ⟨k, hki, by omega, by rw [HR.out, q]⟩)]) (by decide))
              have qe : (r' == r) = true := beq_iff_eq.2 q
              clear q
              go_wp2_with fail
              go_quiet (fail)
              go_wp2_with fail
              go_ret
              exact ⟨by rw [HF.out]; rfl, HBQ.out _⟩
            · have HN := Lib.hid (fun j (hj : j < k + 1) => show ¬ (cnA l j).2.2 = r from if e : j = k then by rw [e, HR.out]; exact q else HK.out j (by omega))
              have qe : (r' == r) = false := beq_eq_false_iff_ne.2 q
              clear q
              go_wp2_with fail
              go_quiet (fail)
              go_wp2_with fail
              go_roundw
              case rel => exact ⟨k + 1, by omega, by go_num, HN, Lib.hid (HBQ.out _)⟩
              case measure => simp [intOf]; omega
          · obtain rfl : k = i := by omega
            have HNs := Lib.hid (show ¬ seenC l k r = true from fun h => by
              obtain ⟨j, h1, h2, h3⟩ := seenC_iff.1 h
              exact HK.out j h1 h3)
            have HBQ := Lib.hid (fun q => show Below w.heap.size w (wr.drewN q) from HW.out.trans ⟨rfl, rfl, rfl, Nat.le_refl _, fun _ _ => rfl⟩)
            rcases Nat.eq_zero_or_pos k with hi0 | hi0
            · have HN := Lib.hid (fst_step HE.out (show errC l k = 0 by
                unfold errC; rw [HC.out, if_neg (fun q => q HV.out), if_neg HNs.out, if_neg (fun q => by omega)]))
              subst hi0
              go_wp2_with fail
              go_quiet (fail)
              go_wp2_with fail
              go_roundw
              case rel => exact ⟨1, by omega, rfl, HN, Lib.hid (HBQ.out _)⟩
              case measure => simp [intOf]; omega
            · obtain ⟨j, rfl⟩ : ∃ j, k = j + 1 := ⟨k - 1, by omega⟩
              have p2 := ((HS.out.below HW.out HS.out.1).2 j (by omega)).2.2
              obtain ⟨r', hr'⟩ : ∃ q, (cnA l j).2.2 = q := ⟨_, rfl⟩
              rw [hr'] at p2
              have j0 : (0 : Int) ≤ (j : Int) := by omega
              have j1 : (j : Int) < (l.length : Int) := by omega
              have j2 : (0 : Int) < (j : Int) + 1 := by omega
              by_cases hlr : r < r'
              · have d2 : decide (r < r') = true := decide_eq_true hlr
                have HF := Lib.hid (chk_hit HE.out hlt (show errC l (j + 1) = 4 by
                  unfold errC; rw [HC.out, if_neg (fun q => q HV.out), if_neg HNs.out, if_pos ⟨by omega, by rw [Nat.add_sub_cancel, hr']; exact hlr⟩]) (by decide))
                clear hr'
                go_wp2_with fail
                go_quiet (fail)
                go_wp2_with fail
                go_ret
                exact ⟨by rw [HF.out]; rfl, HBQ.out _⟩
              · have d2 : decide (r < r') = false := decide_eq_false hlr
                have HN := Lib.hid (fst_step HE.out (show errC l (j + 1) = 0 by
                  unfold errC; rw [HC.out, if_neg (fun q => q HV.out), if_neg HNs.out, if_neg (fun q => hlr (by have := q.2; rw [Nat.add_sub_cancel, hr'] at this; exact this))]))
                clear hr'
                go_wp2_with fail
                go_quiet (fail)
                go_wp2_with fail
                go_roundw
                case rel => exact ⟨j + 1 + 1, by omega, by go_num, HN, Lib.hid (HBQ.out _)⟩
                case measure => simp [intOf]; omega
    · have d1 : ¬ (i : Int) < (l.length : Int) := by omega
      have HF := Lib.hid (show chkC l = 0 from fstC_zero fun j hj => HE.out j (by omega))
      go_wp2_with fail
      go_ret
      exact ⟨by rw [HF.out]; rfl, HB.out⟩

end Go.Proofs.YtcnhkoijphfibaaDoor
