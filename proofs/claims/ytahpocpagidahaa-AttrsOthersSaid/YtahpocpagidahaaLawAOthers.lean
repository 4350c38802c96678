/-
  other attributes do not change, and a replaced one has exactly the new values, for all arguments. No condition.
-/
import Derived.Test.YtahpocpagidahaaAttG6
set_option linter.unusedVariables false
set_option linter.unusedSimpArgs false
set_option linter.unnecessarySimpa false
namespace Go.Proofs.Ytahpocpagidahaa
open Go.ChangeShapes Go.WideShapes Go.ChangeAt Go.RowKit Go.PlainAid
open Go.ChangeMaps (open_string shut_string)

set_option maxRecDepth 100000 in
set_option maxHeartbeats 64000000 in
theorem lothers_s (l : Option Addr) (ln lc : Nat) (ll : List At) (nam : ByteArray) (oth : ByteArray) (vs : Option Addr) (vsn vsc : Nat) (vsl : List ByteArray) (W : World) (Hl : AttrsAt W l ln lc ll) (Rl : RA ll) (Mnam : nam.size ≤ maxLen) (Moth : oth.size ≤ maxLen) (Hvs : StrsAt W vs vsn vsc vsl) (Rvs : RS vsl) :
    Calls Try.prog 9 #[.slice l ln lc, .string nam, .string oth, .slice vs vsn vsc] W fun e w' => e = .returned (.bool true) ∧ Below W.heap.size W w' := by
  go_enter Try.func9, Try.ntmps9
  have HB0 := Lib.hid (Below.refl W.heap.size W)
  go_wp2_with fail
  refine (short_s _ _ _ _ W Hl Rl).mono ?_
  rintro e wg ⟨⟨b, rfl, hgl, hw⟩⟩
  obtain rfl : W = wg := hw.symm
  clear hw
  cases b with
  | false =>
    go_wp2_with fail
    refine (awake_s _).mono ?_
    rintro e w1 ⟨rfl, hb⟩
    have HB1 := Lib.hid (HB0.out.trans (hb.mono HB0.out.size))
    clear hb
    go_wp2_with fail
    go_ret
    exact ⟨rfl, HB1.out⟩
  | true =>
    have Gl := Lib.hid (hgl rfl)
    clear hgl
    go_wp2_with fail
    refine (few_s _ _ _ _ W Hvs Rvs).mono ?_
    rintro e wg ⟨⟨b, rfl, hgvs, hw⟩⟩
    obtain rfl : W = wg := hw.symm
    clear hw
    cases b with
    | false =>
      go_wp2_with fail
      refine (awake_s _).mono ?_
      rintro e w1 ⟨rfl, hb⟩
      have HB1 := Lib.hid (HB0.out.trans (hb.mono HB0.out.size))
      clear hb
      go_wp2_with fail
      go_ret
      exact ⟨rfl, HB1.out⟩
    | true =>
      have Gvs := Lib.hid (hgvs rfl)
      clear hgvs
      by_cases Lnam : 300 < nam.size
      · have Dnam : decide ((300 : Int) < (nam.size : Int)) = true := decide_eq_true (by omega)
        go_wp2_with fail
        refine (awake_s _).mono ?_
        rintro e w1 ⟨rfl, hb⟩
        have HB1 := Lib.hid (HB0.out.trans (hb.mono HB0.out.size))
        clear hb
        go_wp2_with fail
        go_ret
        exact ⟨rfl, HB1.out⟩
      · have Dnam : decide ((300 : Int) < (nam.size : Int)) = false := decide_eq_false (by omega)
        have Nnam : nam.size ≤ 1000000 := by omega
        by_cases Loth : 300 < oth.size
        · have Doth : decide ((300 : Int) < (oth.size : Int)) = true := decide_eq_true (by omega)
          go_wp2_with fail
          refine (awake_s _).mono ?_
          rintro e w1 ⟨rfl, hb⟩
          have HB1 := Lib.hid (HB0.out.trans (hb.mono HB0.out.size))
          clear hb
          go_wp2_with fail
          go_ret
          exact ⟨rfl, HB1.out⟩
        · have Doth : decide ((300 : Int) < (oth.size : Int)) = false := decide_eq_false (by omega)
          have Noth : oth.size ≤ 1000000 := by omega
          go_wp2_with fail
          refine (rLower_s nam _ (by omega)).mono ?_
          rintro e w1 ⟨rfl, hb⟩
          have HB1 := Lib.hid (HB0.out.trans (hb.mono HB0.out.size))
          clear hb
          go_wp2_with fail
          refine (rLower_s oth _ (by omega)).mono ?_
          rintro e w2 ⟨rfl, hb⟩
          have HB2 := Lib.hid (HB1.out.trans (hb.mono HB1.out.size))
          clear hb
          by_cases hs : lowS nam = lowS oth
          · have ds : ((lowS nam).toList == (lowS oth).toList) = true := by rw [str_eq]; exact decide_eq_true hs
            clear hs
            obtain ⟨e0, he0⟩ : ∃ x, (addR ll nam vsl).2 = x := ⟨_, rfl⟩
            have HE0 := Lib.hid he0
            clear he0
            go_wp2_with fail
            refine (add_s l vs ln lc vsn vsc ll nam vsl _ (Hl.below HB2.out) (Hvs.below HB2.out) (Gl.out.edit Gvs.out) Nnam).mono ?_
            rintro e w3 ⟨va0, rfl, ⟨xo0, xn0, xc0, rfl, hx0⟩, hb⟩
            have HB3 := Lib.hid (HB2.out.trans (hb.mono HB2.out.size))
            rw [HE0.out]
            have HX0 := Lib.hid hx0
            clear hx0
            clear hb
            obtain ⟨e1, he1⟩ : ∃ x, (remR ll nam vsl).2 = x := ⟨_, rfl⟩
            have HE1 := Lib.hid he1
            clear he1
            go_wp2_with fail
            refine (rem_s l vs ln lc vsn vsc ll nam vsl _ (Hl.below HB3.out) (Hvs.below HB3.out) (Gl.out.edit Gvs.out) Nnam).mono ?_
            rintro e w4 ⟨va1, rfl, ⟨xo1, xn1, xc1, rfl, hx1⟩, hb⟩
            have HB4 := Lib.hid (HB3.out.trans (hb.mono HB3.out.size))
            have HX0 := Lib.hid (HX0.out.below hb)
            rw [HE1.out]
            have HX1 := Lib.hid hx1
            clear hx1
            clear hb
            obtain ⟨e2, he2⟩ : ∃ x, (repR ll nam vsl).2 = x := ⟨_, rfl⟩
            have HE2 := Lib.hid he2
            clear he2
            go_wp2_with fail
            refine (rep_s l vs ln lc vsn vsc ll nam vsl _ (Hl.below HB4.out) (Hvs.below HB4.out) (Gl.out.edit Gvs.out) Nnam).mono ?_
            rintro e w5 ⟨va2, rfl, ⟨xo2, xn2, xc2, rfl, hx2⟩, hb⟩
            have HB5 := Lib.hid (HB4.out.trans (hb.mono HB4.out.size))
            have HX0 := Lib.hid (HX0.out.below hb)
            have HX1 := Lib.hid (HX1.out.below hb)
            rw [HE2.out]
            have HX2 := Lib.hid hx2
            clear hx2
            clear hb
            go_wp2_with fail
            refine (get_s l ln lc ll oth _ (Hl.below HB5.out) Gl.out.few Noth).mono ?_
            rintro e w6 ⟨vo, rfl, ⟨oo, on, oc, rfl, ho⟩, hb⟩
            have HB6 := Lib.hid (HB5.out.trans (hb.mono HB5.out.size))
            have HX0 := Lib.hid (HX0.out.below hb)
            have HX1 := Lib.hid (HX1.out.below hb)
            have HX2 := Lib.hid (HX2.out.below hb)
            have HO := Lib.hid ho
            clear ho
            clear hb
            by_cases z2 : e2 = 0
            · subst z2
              have HD := Lib.hid (edit_rep Gl.out Gvs.out Nnam HE2.out)
              have HM := Lib.hid (fun v (hv : v ∈ vsl) => rep_has HE2.out hv)
              have HQ := Lib.hid (rep_len HE2.out)
              obtain ⟨C, hC⟩ : ∃ x, (repR ll nam vsl).1 = x := ⟨_, rfl⟩
              rw [hC] at HX2 HD HM HQ
              clear hC
              have hvl : vsn = vsl.length := Hvs.1.symm
              have hvm : vsn ≤ 20 := by have := Gvs.out.len; omega
              have HVL := Lib.hid hvl
              clear hvl
              go_wp2_with fail
              go_loopw [17] (fun iv wr => ∃ k : Nat, k ≤ vsn ∧ iv = .int .i64 k ∧ Hid (Below w6.heap.size w6 wr)) (fun iv _ => vsn - (intOf iv).toNat)
              case atStart => exact ⟨0, Nat.zero_le _, rfl, Lib.hid (Below.refl _ _)⟩
              case round =>
                obtain ⟨k, hk, rfl, HR⟩ := hrel
                have HBr := Lib.hid (HB6.out.trans (HR.out.mono HB6.out.size))
                have HXr := Lib.hid (HX2.out.below HR.out)
                by_cases hlt : k < vsn
                · have d1 : decide ((k : Int) < (vsn : Int)) = true := decide_eq_true (by omega)
                  have d3 : (k : Int) < (vsn : Int) := by omega
                  have hlv : k < vsl.length := by rw [← HVL.out]; exact hlt
                  obtain ⟨b, off, rfl, hs⟩ := (Hvs.below HBr.out).2.2.2 (by omega)
                  have hcell := hs.2 k hlv
                  clear hs
                  have HMp := Lib.hid (HM.out _ (part_mem vsl k hlv))
                  clear hlv
                  obtain ⟨p, hp⟩ : ∃ x, partAt vsl k = x := ⟨_, rfl⟩
                  rw [hp] at hcell HMp
                  clear hp
                  go_wp2_with fail
                  refine (hasv_s xo2 xn2 xc2 C nam p _ HXr.out HD.out.few Nnam).mono ?_
                  rintro e wq ⟨rfl, hb⟩
                  rw [HMp.out]
                  have HR2 := Lib.hid (HR.out.trans (hb.mono HR.out.size))
                  clear hb hcell
                  go_wp2_with fail
                  go_roundw
                  case rel => exact ⟨k + 1, by omega, by go_num, HR2⟩
                  case measure => simp [intOf]; omega
                · obtain rfl : k = vsn := by omega
                  have d1 : decide ((k : Int) < (k : Int)) = false := decide_eq_false (by omega)
                  have HB30 := HBr
                  go_wp2_with fail
                  refine (get_s xo2 xn2 xc2 C nam _ HXr.out HD.out.few Nnam).mono ?_
                  rintro e w31 ⟨vg, rfl, ⟨jo, jn, jc, rfl, hg⟩, hb⟩
                  have HB31 := Lib.hid (HB30.out.trans (hb.mono HB30.out.size))
                  have hgl : jn = k := by rw [← hg.1, HQ.out, ← HVL.out]
                  clear hg
                  subst hgl
                  clear hb
                  go_wp2_with fail
                  refine (awake_s _).mono ?_
                  rintro e w32 ⟨rfl, hb⟩
                  have HB32 := Lib.hid (HB31.out.trans (hb.mono HB31.out.size))
                  clear hb
                  go_wp2_with fail
                  go_ret
                  exact ⟨rfl, HB32.out⟩
            · have dz2 : decide (e2 = (0 : Int)) = false := decide_eq_false z2
              go_wp2_with fail
              refine (awake_s _).mono ?_
              rintro e w7 ⟨rfl, hb⟩
              have HB7 := Lib.hid (HB6.out.trans (hb.mono HB6.out.size))
              have HX0 := Lib.hid (HX0.out.below hb)
              have HX1 := Lib.hid (HX1.out.below hb)
              have HX2 := Lib.hid (HX2.out.below hb)
              have HO := Lib.hid (HO.out.below hb)
              clear hb
              go_wp2_with fail
              go_ret
              exact ⟨rfl, HB7.out⟩
          · have ds : ((lowS nam).toList == (lowS oth).toList) = false := by rw [str_eq]; exact decide_eq_false hs
            have HS := Lib.hid (show lowS oth ≠ lowS nam from fun e => hs e.symm)
            clear hs
            obtain ⟨e0, he0⟩ : ∃ x, (addR ll nam vsl).2 = x := ⟨_, rfl⟩
            have HE0 := Lib.hid he0
            clear he0
            go_wp2_with fail
            refine (add_s l vs ln lc vsn vsc ll nam vsl _ (Hl.below HB2.out) (Hvs.below HB2.out) (Gl.out.edit Gvs.out) Nnam).mono ?_
            rintro e w3 ⟨va0, rfl, ⟨xo0, xn0, xc0, rfl, hx0⟩, hb⟩
            have HB3 := Lib.hid (HB2.out.trans (hb.mono HB2.out.size))
            rw [HE0.out]
            have HX0 := Lib.hid hx0
            clear hx0
            clear hb
            obtain ⟨e1, he1⟩ : ∃ x, (remR ll nam vsl).2 = x := ⟨_, rfl⟩
            have HE1 := Lib.hid he1
            clear he1
            go_wp2_with fail
            refine (rem_s l vs ln lc vsn vsc ll nam vsl _ (Hl.below HB3.out) (Hvs.below HB3.out) (Gl.out.edit Gvs.out) Nnam).mono ?_
            rintro e w4 ⟨va1, rfl, ⟨xo1, xn1, xc1, rfl, hx1⟩, hb⟩
            have HB4 := Lib.hid (HB3.out.trans (hb.mono HB3.out.size))
            have HX0 := Lib.hid (HX0.out.below hb)
            rw [HE1.out]
            have HX1 := Lib.hid hx1
            clear hx1
            clear hb
            obtain ⟨e2, he2⟩ : ∃ x, (repR ll nam vsl).2 = x := ⟨_, rfl⟩
            have HE2 := Lib.hid he2
            clear he2
            go_wp2_with fail
            refine (rep_s l vs ln lc vsn vsc ll nam vsl _ (Hl.below HB4.out) (Hvs.below HB4.out) (Gl.out.edit Gvs.out) Nnam).mono ?_
            rintro e w5 ⟨va2, rfl, ⟨xo2, xn2, xc2, rfl, hx2⟩, hb⟩
            have HB5 := Lib.hid (HB4.out.trans (hb.mono HB4.out.size))
            have HX0 := Lib.hid (HX0.out.below hb)
            have HX1 := Lib.hid (HX1.out.below hb)
            rw [HE2.out]
            have HX2 := Lib.hid hx2
            clear hx2
            clear hb
            go_wp2_with fail
            refine (get_s l ln lc ll oth _ (Hl.below HB5.out) Gl.out.few Noth).mono ?_
            rintro e w6 ⟨vo, rfl, ⟨oo, on, oc, rfl, ho⟩, hb⟩
            have HB6 := Lib.hid (HB5.out.trans (hb.mono HB5.out.size))
            have HX0 := Lib.hid (HX0.out.below hb)
            have HX1 := Lib.hid (HX1.out.below hb)
            have HX2 := Lib.hid (HX2.out.below hb)
            have HO := Lib.hid ho
            clear ho
            clear hb
            by_cases z0 : e0 = 0
            · subst z0
              have HD0 := Lib.hid (edit_add Gl.out Gvs.out Nnam HE0.out)
              go_wp2_with fail
              refine (get_s xo0 xn0 xc0 _ oth _ HX0.out HD0.out.few Noth).mono ?_
              rintro e w7 ⟨vg0, rfl, ⟨go0, gn0, gc0, rfl, hg0⟩, hb⟩
              have HB7 := Lib.hid (HB6.out.trans (hb.mono HB6.out.size))
              have HX0 := Lib.hid (HX0.out.below hb)
              have HX1 := Lib.hid (HX1.out.below hb)
              have HX2 := Lib.hid (HX2.out.below hb)
              have HO := Lib.hid (HO.out.below hb)
              rw [add_other HE0.out HS.out] at hg0
              clear hb
              go_wp2_with fail
              refine (same_s go0 oo gn0 on gc0 oc _ _ _ hg0 HO.out).mono ?_
              rintro e w8 ⟨rfl, hb⟩
              have HB8 := Lib.hid (HB7.out.trans (hb.mono HB7.out.size))
              have HX0 := Lib.hid (HX0.out.below hb)
              have HX1 := Lib.hid (HX1.out.below hb)
              have HX2 := Lib.hid (HX2.out.below hb)
              have HO := Lib.hid (HO.out.below hb)
              rw [decide_eq_true rfl]
              clear hg0
              clear hb
              by_cases z1 : e1 = 0
              · subst z1
                have HD1 := Lib.hid (edit_rem Gl.out Gvs.out Nnam HE1.out)
                go_wp2_with fail
                refine (get_s xo1 xn1 xc1 _ oth _ HX1.out HD1.out.few Noth).mono ?_
                rintro e w9 ⟨vg1, rfl, ⟨go1, gn1, gc1, rfl, hg1⟩, hb⟩
                have HB9 := Lib.hid (HB8.out.trans (hb.mono HB8.out.size))
                have HX0 := Lib.hid (HX0.out.below hb)
                have HX1 := Lib.hid (HX1.out.below hb)
                have HX2 := Lib.hid (HX2.out.below hb)
                have HO := Lib.hid (HO.out.below hb)
                rw [rem_other HE1.out HS.out] at hg1
                clear hb
                go_wp2_with fail
                refine (same_s go1 oo gn1 on gc1 oc _ _ _ hg1 HO.out).mono ?_
                rintro e w10 ⟨rfl, hb⟩
                have HB10 := Lib.hid (HB9.out.trans (hb.mono HB9.out.size))
                have HX0 := Lib.hid (HX0.out.below hb)
                have HX1 := Lib.hid (HX1.out.below hb)
                have HX2 := Lib.hid (HX2.out.below hb)
                have HO := Lib.hid (HO.out.below hb)
                rw [decide_eq_true rfl]
                clear hg1
                clear hb
                by_cases z2 : e2 = 0
                · subst z2
                  have HD2 := Lib.hid (edit_rep Gl.out Gvs.out Nnam HE2.out)
                  go_wp2_with fail
                  refine (get_s xo2 xn2 xc2 _ oth _ HX2.out HD2.out.few Noth).mono ?_
                  rintro e w11 ⟨vg2, rfl, ⟨go2, gn2, gc2, rfl, hg2⟩, hb⟩
                  have HB11 := Lib.hid (HB10.out.trans (hb.mono HB10.out.size))
                  have HX0 := Lib.hid (HX0.out.below hb)
                  have HX1 := Lib.hid (HX1.out.below hb)
                  have HX2 := Lib.hid (HX2.out.below hb)
                  have HO := Lib.hid (HO.out.below hb)
                  rw [rep_other HE2.out HS.out] at hg2
                  clear hb
                  go_wp2_with fail
                  refine (same_s go2 oo gn2 on gc2 oc _ _ _ hg2 HO.out).mono ?_
                  rintro e w12 ⟨rfl, hb⟩
                  have HB12 := Lib.hid (HB11.out.trans (hb.mono HB11.out.size))
                  have HX0 := Lib.hid (HX0.out.below hb)
                  have HX1 := Lib.hid (HX1.out.below hb)
                  have HX2 := Lib.hid (HX2.out.below hb)
                  have HO := Lib.hid (HO.out.below hb)
                  rw [decide_eq_true rfl]
                  clear hg2
                  clear hb
                  have HD := Lib.hid (edit_rep Gl.out Gvs.out Nnam HE2.out)
                  have HM := Lib.hid (fun v (hv : v ∈ vsl) => rep_has HE2.out hv)
                  have HQ := Lib.hid (rep_len HE2.out)
                  obtain ⟨C, hC⟩ : ∃ x, (repR ll nam vsl).1 = x := ⟨_, rfl⟩
                  rw [hC] at HX2 HD HM HQ
                  clear hC
                  have hvl : vsn = vsl.length := Hvs.1.symm
                  have hvm : vsn ≤ 20 := by have := Gvs.out.len; omega
                  have HVL := Lib.hid hvl
                  clear hvl
                  go_wp2_with fail
                  go_loopw [17] (fun iv wr => ∃ k : Nat, k ≤ vsn ∧ iv = .int .i64 k ∧ Hid (Below w12.heap.size w12 wr)) (fun iv _ => vsn - (intOf iv).toNat)
                  case atStart => exact ⟨0, Nat.zero_le _, rfl, Lib.hid (Below.refl _ _)⟩
                  case round =>
                    obtain ⟨k, hk, rfl, HR⟩ := hrel
                    have HBr := Lib.hid (HB12.out.trans (HR.out.mono HB12.out.size))
                    have HXr := Lib.hid (HX2.out.below HR.out)
                    by_cases hlt : k < vsn
                    · have d1 : decide ((k : Int) < (vsn : Int)) = true := decide_eq_true (by omega)
                      have d3 : (k : Int) < (vsn : Int) := by omega
                      have hlv : k < vsl.length := by rw [← HVL.out]; exact hlt
                      obtain ⟨b, off, rfl, hs⟩ := (Hvs.below HBr.out).2.2.2 (by omega)
                      have hcell := hs.2 k hlv
                      clear hs
                      have HMp := Lib.hid (HM.out _ (part_mem vsl k hlv))
                      clear hlv
                      obtain ⟨p, hp⟩ : ∃ x, partAt vsl k = x := ⟨_, rfl⟩
                      rw [hp] at hcell HMp
                      clear hp
                      go_wp2_with fail
                      refine (hasv_s xo2 xn2 xc2 C nam p _ HXr.out HD.out.few Nnam).mono ?_
                      rintro e wq ⟨rfl, hb⟩
                      rw [HMp.out]
                      have HR2 := Lib.hid (HR.out.trans (hb.mono HR.out.size))
                      clear hb hcell
                      go_wp2_with fail
                      go_roundw
                      case rel => exact ⟨k + 1, by omega, by go_num, HR2⟩
                      case measure => simp [intOf]; omega
                    · obtain rfl : k = vsn := by omega
                      have d1 : decide ((k : Int) < (k : Int)) = false := decide_eq_false (by omega)
                      have HB30 := HBr
                      go_wp2_with fail
                      refine (get_s xo2 xn2 xc2 C nam _ HXr.out HD.out.few Nnam).mono ?_
                      rintro e w31 ⟨vg, rfl, ⟨jo, jn, jc, rfl, hg⟩, hb⟩
                      have HB31 := Lib.hid (HB30.out.trans (hb.mono HB30.out.size))
                      have hgl : jn = k := by rw [← hg.1, HQ.out, ← HVL.out]
                      clear hg
                      subst hgl
                      clear hb
                      go_wp2_with fail
                      refine (awake_s _).mono ?_
                      rintro e w32 ⟨rfl, hb⟩
                      have HB32 := Lib.hid (HB31.out.trans (hb.mono HB31.out.size))
                      clear hb
                      go_wp2_with fail
                      go_ret
                      exact ⟨rfl, HB32.out⟩
                · have dz2 : decide (e2 = (0 : Int)) = false := decide_eq_false z2
                  go_wp2_with fail
                  refine (awake_s _).mono ?_
                  rintro e w11 ⟨rfl, hb⟩
                  have HB11 := Lib.hid (HB10.out.trans (hb.mono HB10.out.size))
                  have HX0 := Lib.hid (HX0.out.below hb)
                  have HX1 := Lib.hid (HX1.out.below hb)
                  have HX2 := Lib.hid (HX2.out.below hb)
                  have HO := Lib.hid (HO.out.below hb)
                  clear hb
                  go_wp2_with fail
                  go_ret
                  exact ⟨rfl, HB11.out⟩
              · have dz1 : decide (e1 = (0 : Int)) = false := decide_eq_false z1
                by_cases z2 : e2 = 0
                · subst z2
                  have HD2 := Lib.hid (edit_rep Gl.out Gvs.out Nnam HE2.out)
                  go_wp2_with fail
                  refine (get_s xo2 xn2 xc2 _ oth _ HX2.out HD2.out.few Noth).mono ?_
                  rintro e w9 ⟨vg2, rfl, ⟨go2, gn2, gc2, rfl, hg2⟩, hb⟩
                  have HB9 := Lib.hid (HB8.out.trans (hb.mono HB8.out.size))
                  have HX0 := Lib.hid (HX0.out.below hb)
                  have HX1 := Lib.hid (HX1.out.below hb)
                  have HX2 := Lib.hid (HX2.out.below hb)
                  have HO := Lib.hid (HO.out.below hb)
                  rw [rep_other HE2.out HS.out] at hg2
                  clear hb
                  go_wp2_with fail
                  refine (same_s go2 oo gn2 on gc2 oc _ _ _ hg2 HO.out).mono ?_
                  rintro e w10 ⟨rfl, hb⟩
                  have HB10 := Lib.hid (HB9.out.trans (hb.mono HB9.out.size))
                  have HX0 := Lib.hid (HX0.out.below hb)
                  have HX1 := Lib.hid (HX1.out.below hb)
                  have HX2 := Lib.hid (HX2.out.below hb)
                  have HO := Lib.hid (HO.out.below hb)
                  rw [decide_eq_true rfl]
                  clear hg2
                  clear hb
                  have HD := Lib.hid (edit_rep Gl.out Gvs.out Nnam HE2.out)
                  have HM := Lib.hid (fun v (hv : v ∈ vsl) => rep_has HE2.out hv)
                  have HQ := Lib.hid (rep_len HE2.out)
                  obtain ⟨C, hC⟩ : ∃ x, (repR ll nam vsl).1 = x := ⟨_, rfl⟩
                  rw [hC] at HX2 HD HM HQ
                  clear hC
                  have hvl : vsn = vsl.length := Hvs.1.symm
                  have hvm : vsn ≤ 20 := by have := Gvs.out.len; omega
                  have HVL := Lib.hid hvl
                  clear hvl
                  go_wp2_with fail
                  go_loopw [17] (fun iv wr => ∃ k : Nat, k ≤ vsn ∧ iv = .int .i64 k ∧ Hid (Below w10.heap.size w10 wr)) (fun iv _ => vsn - (intOf iv).toNat)
                  case atStart => exact ⟨0, Nat.zero_le _, rfl, Lib.hid (Below.refl _ _)⟩
                  case round =>
                    obtain ⟨k, hk, rfl, HR⟩ := hrel
                    have HBr := Lib.hid (HB10.out.trans (HR.out.mono HB10.out.size))
                    have HXr := Lib.hid (HX2.out.below HR.out)
                    by_cases hlt : k < vsn
                    · have d1 : decide ((k : Int) < (vsn : Int)) = true := decide_eq_true (by omega)
                      have d3 : (k : Int) < (vsn : Int) := by omega
                      have hlv : k < vsl.length := by rw [← HVL.out]; exact hlt
                      obtain ⟨b, off, rfl, hs⟩ := (Hvs.below HBr.out).2.2.2 (by omega)
                      have hcell := hs.2 k hlv
                      clear hs
                      have HMp := Lib.hid (HM.out _ (part_mem vsl k hlv))
                      clear hlv
                      obtain ⟨p, hp⟩ : ∃ x, partAt vsl k = x := ⟨_, rfl⟩
                      rw [hp] at hcell HMp
                      clear hp
                      go_wp2_with fail
                      refine (hasv_s xo2 xn2 xc2 C nam p _ HXr.out HD.out.few Nnam).mono ?_
                      rintro e wq ⟨rfl, hb⟩
                      rw [HMp.out]
                      have HR2 := Lib.hid (HR.out.trans (hb.mono HR.out.size))
                      clear hb hcell
                      go_wp2_with fail
                      go_roundw
                      case rel => exact ⟨k + 1, by omega, by go_num, HR2⟩
                      case measure => simp [intOf]; omega
                    · obtain rfl : k = vsn := by omega
                      have d1 : decide ((k : Int) < (k : Int)) = false := decide_eq_false (by omega)
                      have HB30 := HBr
                      go_wp2_with fail
                      refine (get_s xo2 xn2 xc2 C nam _ HXr.out HD.out.few Nnam).mono ?_
                      rintro e w31 ⟨vg, rfl, ⟨jo, jn, jc, rfl, hg⟩, hb⟩
                      have HB31 := Lib.hid (HB30.out.trans (hb.mono HB30.out.size))
                      have hgl : jn = k := by rw [← hg.1, HQ.out, ← HVL.out]
                      clear hg
                      subst hgl
                      clear hb
                      go_wp2_with fail
                      refine (awake_s _).mono ?_
                      rintro e w32 ⟨rfl, hb⟩
                      have HB32 := Lib.hid (HB31.out.trans (hb.mono HB31.out.size))
                      clear hb
                      go_wp2_with fail
                      go_ret
                      exact ⟨rfl, HB32.out⟩
                · have dz2 : decide (e2 = (0 : Int)) = false := decide_eq_false z2
                  go_wp2_with fail
                  refine (awake_s _).mono ?_
                  rintro e w9 ⟨rfl, hb⟩
                  have HB9 := Lib.hid (HB8.out.trans (hb.mono HB8.out.size))
                  have HX0 := Lib.hid (HX0.out.below hb)
                  have HX1 := Lib.hid (HX1.out.below hb)
                  have HX2 := Lib.hid (HX2.out.below hb)
                  have HO := Lib.hid (HO.out.below hb)
                  clear hb
                  go_wp2_with fail
                  go_ret
                  exact ⟨rfl, HB9.out⟩
            · have dz0 : decide (e0 = (0 : Int)) = false := decide_eq_false z0
              by_cases z1 : e1 = 0
              · subst z1
                have HD1 := Lib.hid (edit_rem Gl.out Gvs.out Nnam HE1.out)
                go_wp2_with fail
                refine (get_s xo1 xn1 xc1 _ oth _ HX1.out HD1.out.few Noth).mono ?_
                rintro e w7 ⟨vg1, rfl, ⟨go1, gn1, gc1, rfl, hg1⟩, hb⟩
                have HB7 := Lib.hid (HB6.out.trans (hb.mono HB6.out.size))
                have HX0 := Lib.hid (HX0.out.below hb)
                have HX1 := Lib.hid (HX1.out.below hb)
                have HX2 := Lib.hid (HX2.out.below hb)
                have HO := Lib.hid (HO.out.below hb)
                rw [rem_other HE1.out HS.out] at hg1
                clear hb
                go_wp2_with fail
                refine (same_s go1 oo gn1 on gc1 oc _ _ _ hg1 HO.out).mono ?_
                rintro e w8 ⟨rfl, hb⟩
                have HB8 := Lib.hid (HB7.out.trans (hb.mono HB7.out.size))
                have HX0 := Lib.hid (HX0.out.below hb)
                have HX1 := Lib.hid (HX1.out.below hb)
                have HX2 := Lib.hid (HX2.out.below hb)
                have HO := Lib.hid (HO.out.below hb)
                rw [decide_eq_true rfl]
                clear hg1
                clear hb
                by_cases z2 : e2 = 0
                · subst z2
                  have HD2 := Lib.hid (edit_rep Gl.out Gvs.out Nnam HE2.out)
                  go_wp2_with fail
                  refine (get_s xo2 xn2 xc2 _ oth _ HX2.out HD2.out.few Noth).mono ?_
                  rintro e w9 ⟨vg2, rfl, ⟨go2, gn2, gc2, rfl, hg2⟩, hb⟩
                  have HB9 := Lib.hid (HB8.out.trans (hb.mono HB8.out.size))
                  have HX0 := Lib.hid (HX0.out.below hb)
                  have HX1 := Lib.hid (HX1.out.below hb)
                  have HX2 := Lib.hid (HX2.out.below hb)
                  have HO := Lib.hid (HO.out.below hb)
                  rw [rep_other HE2.out HS.out] at hg2
                  clear hb
                  go_wp2_with fail
                  refine (same_s go2 oo gn2 on gc2 oc _ _ _ hg2 HO.out).mono ?_
                  rintro e w10 ⟨rfl, hb⟩
                  have HB10 := Lib.hid (HB9.out.trans (hb.mono HB9.out.size))
                  have HX0 := Lib.hid (HX0.out.below hb)
                  have HX1 := Lib.hid (HX1.out.below hb)
                  have HX2 := Lib.hid (HX2.out.below hb)
                  have HO := Lib.hid (HO.out.below hb)
                  rw [decide_eq_true rfl]
                  clear hg2
                  clear hb
                  have HD := Lib.hid (edit_rep Gl.out Gvs.out Nnam HE2.out)
                  have HM := Lib.hid (fun v (hv : v ∈ vsl) => rep_has HE2.out hv)
                  have HQ := Lib.hid (rep_len HE2.out)
                  obtain ⟨C, hC⟩ : ∃ x, (repR ll nam vsl).1 = x := ⟨_, rfl⟩
                  rw [hC] at HX2 HD HM HQ
                  clear hC
                  have hvl : vsn = vsl.length := Hvs.1.symm
                  have hvm : vsn ≤ 20 := by have := Gvs.out.len; omega
                  have HVL := Lib.hid hvl
                  clear hvl
                  go_wp2_with fail
                  go_loopw [17] (fun iv wr => ∃ k : Nat, k ≤ vsn ∧ iv = .int .i64 k ∧ Hid (Below w10.heap.size w10 wr)) (fun iv _ => vsn - (intOf iv).toNat)
                  case atStart => exact ⟨0, Nat.zero_le _, rfl, Lib.hid (Below.refl _ _)⟩
                  case round =>
                    obtain ⟨k, hk, rfl, HR⟩ := hrel
                    have HBr := Lib.hid (HB10.out.trans (HR.out.mono HB10.out.size))
                    have HXr := Lib.hid (HX2.out.below HR.out)
                    by_cases hlt : k < vsn
                    · have d1 : decide ((k : Int) < (vsn : Int)) = true := decide_eq_true (by omega)
                      have d3 : (k : Int) < (vsn : Int) := by omega
                      have hlv : k < vsl.length := by rw [← HVL.out]; exact hlt
                      obtain ⟨b, off, rfl, hs⟩ := (Hvs.below HBr.out).2.2.2 (by omega)
                      have hcell := hs.2 k hlv
                      clear hs
                      have HMp := Lib.hid (HM.out _ (part_mem vsl k hlv))
                      clear hlv
                      obtain ⟨p, hp⟩ : ∃ x, partAt vsl k = x := ⟨_, rfl⟩
                      rw [hp] at hcell HMp
                      clear hp
                      go_wp2_with fail
                      refine (hasv_s xo2 xn2 xc2 C nam p _ HXr.out HD.out.few Nnam).mono ?_
                      rintro e wq ⟨rfl, hb⟩
                      rw [HMp.out]
                      have HR2 := Lib.hid (HR.out.trans (hb.mono HR.out.size))
                      clear hb hcell
                      go_wp2_with fail
                      go_roundw
                      case rel => exact ⟨k + 1, by omega, by go_num, HR2⟩
                      case measure => simp [intOf]; omega
                    · obtain rfl : k = vsn := by omega
                      have d1 : decide ((k : Int) < (k : Int)) = false := decide_eq_false (by omega)
                      have HB30 := HBr
                      go_wp2_with fail
                      refine (get_s xo2 xn2 xc2 C nam _ HXr.out HD.out.few Nnam).mono ?_
                      rintro e w31 ⟨vg, rfl, ⟨jo, jn, jc, rfl, hg⟩, hb⟩
                      have HB31 := Lib.hid (HB30.out.trans (hb.mono HB30.out.size))
                      have hgl : jn = k := by rw [← hg.1, HQ.out, ← HVL.out]
                      clear hg
                      subst hgl
                      clear hb
                      go_wp2_with fail
                      refine (awake_s _).mono ?_
                      rintro e w32 ⟨rfl, hb⟩
                      have HB32 := Lib.hid (HB31.out.trans (hb.mono HB31.out.size))
                      clear hb
                      go_wp2_with fail
                      go_ret
                      exact ⟨rfl, HB32.out⟩
                · have dz2 : decide (e2 = (0 : Int)) = false := decide_eq_false z2
                  go_wp2_with fail
                  refine (awake_s _).mono ?_
                  rintro e w9 ⟨rfl, hb⟩
                  have HB9 := Lib.hid (HB8.out.trans (hb.mono HB8.out.size))
                  have HX0 := Lib.hid (HX0.out.below hb)
                  have HX1 := Lib.hid (HX1.out.below hb)
                  have HX2 := Lib.hid (HX2.out.below hb)
                  have HO := Lib.hid (HO.out.below hb)
                  clear hb
                  go_wp2_with fail
                  go_ret
                  exact ⟨rfl, HB9.out⟩
              · have dz1 : decide (e1 = (0 : Int)) = false := decide_eq_false z1
                by_cases z2 : e2 = 0
                · subst z2
                  have HD2 := Lib.hid (edit_rep Gl.out Gvs.out Nnam HE2.out)
                  go_wp2_with fail
                  refine (get_s xo2 xn2 xc2 _ oth _ HX2.out HD2.out.few Noth).mono ?_
                  rintro e w7 ⟨vg2, rfl, ⟨go2, gn2, gc2, rfl, hg2⟩, hb⟩
                  have HB7 := Lib.hid (HB6.out.trans (hb.mono HB6.out.size))
                  have HX0 := Lib.hid (HX0.out.below hb)
                  have HX1 := Lib.hid (HX1.out.below hb)
                  have HX2 := Lib.hid (HX2.out.below hb)
                  have HO := Lib.hid (HO.out.below hb)
                  rw [rep_other HE2.out HS.out] at hg2
                  clear hb
                  go_wp2_with fail
                  refine (same_s go2 oo gn2 on gc2 oc _ _ _ hg2 HO.out).mono ?_
                  rintro e w8 ⟨rfl, hb⟩
                  have HB8 := Lib.hid (HB7.out.trans (hb.mono HB7.out.size))
                  have HX0 := Lib.hid (HX0.out.below hb)
                  have HX1 := Lib.hid (HX1.out.below hb)
                  have HX2 := Lib.hid (HX2.out.below hb)
                  have HO := Lib.hid (HO.out.below hb)
                  rw [decide_eq_true rfl]
                  clear hg2
                  clear hb
                  have HD := Lib.hid (edit_rep Gl.out Gvs.out Nnam HE2.out)
                  have HM := Lib.hid (fun v (hv : v ∈ vsl) => rep_has HE2.out hv)
                  have HQ := Lib.hid (rep_len HE2.out)
                  obtain ⟨C, hC⟩ : ∃ x, (repR ll nam vsl).1 = x := ⟨_, rfl⟩
                  rw [hC] at HX2 HD HM HQ
                  clear hC
                  have hvl : vsn = vsl.length := Hvs.1.symm
                  have hvm : vsn ≤ 20 := by have := Gvs.out.len; omega
                  have HVL := Lib.hid hvl
                  clear hvl
                  go_wp2_with fail
                  go_loopw [17] (fun iv wr => ∃ k : Nat, k ≤ vsn ∧ iv = .int .i64 k ∧ Hid (Below w8.heap.size w8 wr)) (fun iv _ => vsn - (intOf iv).toNat)
                  case atStart => exact ⟨0, Nat.zero_le _, rfl, Lib.hid (Below.refl _ _)⟩
                  case round =>
                    obtain ⟨k, hk, rfl, HR⟩ := hrel
                    have HBr := Lib.hid (HB8.out.trans (HR.out.mono HB8.out.size))
                    have HXr := Lib.hid (HX2.out.below HR.out)
                    by_cases hlt : k < vsn
                    · have d1 : decide ((k : Int) < (vsn : Int)) = true := decide_eq_true (by omega)
                      have d3 : (k : Int) < (vsn : Int) := by omega
                      have hlv : k < vsl.length := by rw [← HVL.out]; exact hlt
                      obtain ⟨b, off, rfl, hs⟩ := (Hvs.below HBr.out).2.2.2 (by omega)
                      have hcell := hs.2 k hlv
                      clear hs
                      have HMp := Lib.hid (HM.out _ (part_mem vsl k hlv))
                      clear hlv
                      obtain ⟨p, hp⟩ : ∃ x, partAt vsl k = x := ⟨_, rfl⟩
                      rw [hp] at hcell HMp
                      clear hp
                      go_wp2_with fail
                      refine (hasv_s xo2 xn2 xc2 C nam p _ HXr.out HD.out.few Nnam).mono ?_
                      rintro e wq ⟨rfl, hb⟩
                      rw [HMp.out]
                      have HR2 := Lib.hid (HR.out.trans (hb.mono HR.out.size))
                      clear hb hcell
                      go_wp2_with fail
                      go_roundw
                      case rel => exact ⟨k + 1, by omega, by go_num, HR2⟩
                      case measure => simp [intOf]; omega
                    · obtain rfl : k = vsn := by omega
                      have d1 : decide ((k : Int) < (k : Int)) = false := decide_eq_false (by omega)
                      have HB30 := HBr
                      go_wp2_with fail
                      refine (get_s xo2 xn2 xc2 C nam _ HXr.out HD.out.few Nnam).mono ?_
                      rintro e w31 ⟨vg, rfl, ⟨jo, jn, jc, rfl, hg⟩, hb⟩
                      have HB31 := Lib.hid (HB30.out.trans (hb.mono HB30.out.size))
                      have hgl : jn = k := by rw [← hg.1, HQ.out, ← HVL.out]
                      clear hg
                      subst hgl
                      clear hb
                      go_wp2_with fail
                      refine (awake_s _).mono ?_
                      rintro e w32 ⟨rfl, hb⟩
                      have HB32 := Lib.hid (HB31.out.trans (hb.mono HB31.out.size))
                      clear hb
                      go_wp2_with fail
                      go_ret
                      exact ⟨rfl, HB32.out⟩
                · have dz2 : decide (e2 = (0 : Int)) = false := decide_eq_false z2
                  go_wp2_with fail
                  refine (awake_s _).mono ?_
                  rintro e w7 ⟨rfl, hb⟩
                  have HB7 := Lib.hid (HB6.out.trans (hb.mono HB6.out.size))
                  have HX0 := Lib.hid (HX0.out.below hb)
                  have HX1 := Lib.hid (HX1.out.below hb)
                  have HX2 := Lib.hid (HX2.out.below hb)
                  have HO := Lib.hid (HO.out.below hb)
                  clear hb
                  go_wp2_with fail
                  go_ret
                  exact ⟨rfl, HB7.out⟩

theorem lothers_types : ∀ t ∈ [22, 9, 9, 29], Try.prog.readableRec t = true ∧ t < Try.prog.types.size := by
  have h : ([22, 9, 9, 29].all fun t => Try.prog.readableRec t && decide (t < Try.prog.types.size)) = true := by kernel_rfl
  intro t ht
  have := List.all_eq_true.1 h t ht
  simpa using this

set_option maxRecDepth 100000 in
theorem lothers_contract (H : Type) (enc : TypeId × Value → H) (W : World) (base : Nat) (args : Array Value) (ds gs : List (DataW H)) (before : List MemPlace)
    (hval : ∀ (j : Nat) t v, Try.f9.params[j]? = some t → args[j]? = some v → Value.okWide Try.prog W .any base t v)
    (hW : DataW.Whole enc Try.prog Try.f9.params.toList Rows.attrsOthersSpec.vars false W args.toList ds gs before)
    (hsz0 : (DataW.weightsEach Try.prog (Try.f9.params.toList ++ Rows.attrsOthersSpec.plain.varTypes Try.prog) (ds ++ gs)).all (· ≤ reachBytes) = true) :
    Calls Try.prog 9 args W fun e W' => ∃ v, e = .returned v ∧ Rows.attrsOthersSpec.post enc Try.prog Try.f9 false true false false W args v W' := by
  have hW' := hW
  obtain ⟨p, q, hA0, hV, rfl, hfz, hnd⟩ := hW
  have hA : DataW.TrodAll enc Try.prog W 0 (fun _ => true) true Try.f9.params.toList args.toList ds p := hA0
  obtain ⟨rfl, rfl⟩ := trodVars_none hV
  simp only [List.append_nil] at hW'
  have hlt : ∀ x ∈ p, x.block < W.heap.size := fun x hx => by simpa using hW'.lt x hx
  have fin : ∀ W', Below W.heap.size W W' → DataW.TrodAll enc Try.prog W' 0 (fun b => decide (b < W.heap.size)) true [22, 9, 9, 29] args.toList ds p := fun W' hb => by
    rw [Try.params9] at hA
    exact trodAll_below hb _ _ _ _ lothers_types hA hlt
  clear hA0
  rw [Try.params9] at hA hval hsz0
  rw [show Rows.attrsOthersSpec.plain.varTypes Try.prog = [] from rfl, List.append_nil, List.append_nil] at hsz0
  obtain ⟨v0, vs0, d0, ds0, p0, q0, hargs, rfl, hp0, h0, r0⟩ := trodAll_cons hA
  obtain ⟨v1, vs1, d1, ds1, p1, q1, rfl, rfl, hp1, h1, r1⟩ := trodAll_cons r0
  obtain ⟨v2, vs2, d2, ds2, p2, q2, rfl, rfl, hp2, h2, r2⟩ := trodAll_cons r1
  obtain ⟨v3, vs3, d3, ds3, p3, q3, rfl, rfl, hp3, h3, r3⟩ := trodAll_cons r2
  obtain ⟨rfl, rfl, rfl⟩ := trodAll_nil r3
  obtain rfl : args = #[v0, v1, v2, v3] := by cases args; simp_all
  have hsz : (DataW.weightsEach Try.prog [22, 9, 9, 29] [d0, d1, d2, d3]).all (fun x => decide (x ≤ reachBytes)) = true := by simpa using hsz0
  clear hsz0
  obtain ⟨l, ln, lc, ll, rfl, hs0, hr0⟩ := open_attrsR (hval 0 22 v0 rfl rfl) h0 (fun n hn => by have := List.all_eq_true.1 hsz n (DataW.weights_mem_each (j := 0) (t := 22) rfl rfl n hn); exact of_decide_eq_true this)
  obtain ⟨nam, rfl, rfl, rfl, hs1⟩ := open_string Try.underlying9 (hval 1 9 v1 rfl rfl) h1
  obtain ⟨oth, rfl, rfl, rfl, hs2⟩ := open_string Try.underlying9 (hval 2 9 v2 rfl rfl) h2
  obtain ⟨vs, vsn, vsc, vsl, rfl, hs3, hr3⟩ := open_strsR (hval 3 29 v3 rfl rfl) h3 (fun n hn => by have := List.all_eq_true.1 hsz n (DataW.weights_mem_each (j := 3) (t := 29) rfl rfl n hn); exact of_decide_eq_true this)
  refine (lothers_s l ln lc ll nam oth vs vsn vsc vsl W hs0 hr0 hs1 hs2 hs3 hr3).mono fun e W' ⟨he, hb⟩ => ?_
  subst he
  exact ⟨_, rfl, _, _, _, [], p, [], hW', trodAll_mk1 (shut_bool Try.underlying4 _), fin W' hb, rfl, hb.frame _, fun h => by cases h⟩

set_option maxRecDepth 100000 in
theorem lothers_lifted (os : Os) (started : os.Started) (H : Type) (enc : TypeId × Value → H) :
    ReturnsInHanded {} Try.checked os 9 .any (Rows.attrsOthersSpec.pre6 enc Try.prog Try.f9 Rows.attrsOthersRow.domain false) (Rows.attrsOthersSpec.post enc Try.prog Try.f9 false true false false) := by
  refine returnsInHanded_of_change_sized (C := Try.checked) own started (by kernel_rfl) Try.func9
    (ChangeSpec.witness6 (enc := enc) (C := Try.checked) false ⟨#[], #[.slice none 0 0, .string ⟨#[]⟩, .string ⟨#[]⟩, .slice none 0 0], []⟩ 8 (by kernel_rfl) (by kernel_rfl) (by kernel_rfl) (by kernel_rfl)) ?_
  intro W base args ds gs before hval hW _ hsz _
  exact lothers_contract H enc W base args ds gs before hval hW hsz

set_option maxRecDepth 100000 in
/-- THE STATEMENT -/
theorem lothers_said : Rows.AttrsOthersSaid :=
  OpenClaim.holds_of_wide 9 Try.f9 rfl rfl rfl rfl rfl rfl rfl ⟨rfl, rfl, rfl, rfl, rfl⟩ rfl rfl rfl rfl rfl (by kernel_rfl) Try.func9 (by kernel_rfl)
    (of_decide_eq_true (by kernel_rfl)) (by unfold Func.isWrapper; first | (rw [if_pos (by decide +kernel)]; kernel_rfl) | (rw [if_neg (by decide +kernel)]; exact ⟨rfl, rfl⟩))
    (fun os started H enc _ => lothers_lifted os started H enc)
end Go.Proofs.Ytahpocpagidahaa
