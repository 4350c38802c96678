/-
  normal forms stay as they are, and edited lists stay ones that Check lets through, for all arguments. No condition.
-/
import Derived.Test.YtahpocpagidahaaAttG7
set_option linter.unusedVariables false
set_option linter.unusedSimpArgs false
set_option linter.unnecessarySimpa false
namespace Go.Proofs.Ytahpocpagidahaa
open Go.ChangeShapes Go.WideShapes Go.ChangeAt Go.RowKit Go.PlainAid
open Go.ChangeMaps (open_string shut_string)

set_option maxRecDepth 100000 in
set_option maxHeartbeats 16000000 in
theorem lnormal_s (l : Option Addr) (ln lc : Nat) (ll : List At) (nam : ByteArray) (vs : Option Addr) (vsn vsc : Nat) (vsl : List ByteArray) (W : World) (Hl : AttrsAt W l ln lc ll) (Rl : RA ll) (Mnam : nam.size ≤ maxLen) (Hvs : StrsAt W vs vsn vsc vsl) (Rvs : RS vsl) :
    Calls Try.prog 7 #[.slice l ln lc, .string nam, .slice vs vsn vsc] W fun e w' => e = .returned (.bool true) ∧ Below W.heap.size W w' := by
  go_enter Try.func7, Try.ntmps7
  have HB0 := Lib.hid (Below.refl W.heap.size W)
  go_wp2_with fail
  refine (short_s _ _ _ _ W Hl Rl).mono ?_
  rintro e wg ⟨⟨b, rfl, hgl, hw⟩⟩
  obtain rfl : W = wg := hw.symm
  clear hw
  cases b with
  | false =>
    go_wp2_with fail
    refine (awake_s _).mono ?_
    rintro e w1 ⟨rfl, hb⟩
    have HB1 := Lib.hid (HB0.out.trans (hb.mono HB0.out.size))
    clear hb
    go_wp2_with fail
    go_ret
    exact ⟨rfl, HB1.out⟩
  | true =>
    have Gl := Lib.hid (hgl rfl)
    clear hgl
    go_wp2_with fail
    refine (few_s _ _ _ _ W Hvs Rvs).mono ?_
    rintro e wg ⟨⟨b, rfl, hgvs, hw⟩⟩
    obtain rfl : W = wg := hw.symm
    clear hw
    cases b with
    | false =>
      go_wp2_with fail
      refine (awake_s _).mono ?_
      rintro e w1 ⟨rfl, hb⟩
      have HB1 := Lib.hid (HB0.out.trans (hb.mono HB0.out.size))
      clear hb
      go_wp2_with fail
      go_ret
      exact ⟨rfl, HB1.out⟩
    | true =>
      have Gvs := Lib.hid (hgvs rfl)
      clear hgvs
      by_cases Lnam : 300 < nam.size
      · have Dnam : decide ((300 : Int) < (nam.size : Int)) = true := decide_eq_true (by omega)
        go_wp2_with fail
        refine (awake_s _).mono ?_
        rintro e w1 ⟨rfl, hb⟩
        have HB1 := Lib.hid (HB0.out.trans (hb.mono HB0.out.size))
        clear hb
        go_wp2_with fail
        go_ret
        exact ⟨rfl, HB1.out⟩
      · have Dnam : decide ((300 : Int) < (nam.size : Int)) = false := decide_eq_false (by omega)
        have Nnam : nam.size ≤ 1000000 := by omega
        have HF := Lib.hid (few_nf Gl.out.few)
        go_wp2_with fail
        refine (sortR_s l ln lc ll _ (Hl.below HB0.out) Gl.out.few).mono ?_
        rintro e w1 ⟨v1, rfl, ⟨xo, xn, xc, rfl, hx⟩, hb⟩
        have HB1 := Lib.hid (HB0.out.trans (hb.mono HB0.out.size))
        have HN := Lib.hid hx
        clear hx
        clear hb
        go_wp2_with fail
        refine (sortR_s xo xn xc (nf ll) _ HN.out HF.out).mono ?_
        rintro e w2 ⟨v2, rfl, ⟨yo, yn, yc, rfl, hy⟩, hb⟩
        have HB2 := Lib.hid (HB1.out.trans (hb.mono HB1.out.size))
        have HN := Lib.hid (HN.out.below hb)
        rw [nf_nf] at hy
        clear hb
        go_wp2_with fail
        refine (rsame_s yo xo yn xn yc xc _ _ _ hy HN.out).mono ?_
        rintro e w3 ⟨rfl, hb⟩
        have HB3 := Lib.hid (HB2.out.trans (hb.mono HB2.out.size))
        have HN := Lib.hid (HN.out.below hb)
        rw [decide_eq_true rfl]
        clear hy
        clear hb
        go_wp2_with fail
        refine (equal_s xo l xn ln xc lc (nf ll) ll _ HN.out (Hl.below HB3.out) HF.out Gl.out.few).mono ?_
        rintro e w4 ⟨rfl, hb⟩
        have HB4 := Lib.hid (HB3.out.trans (hb.mono HB3.out.size))
        have HN := Lib.hid (HN.out.below hb)
        rw [nf_nf, decide_eq_true rfl]
        clear hb
        obtain ⟨c, hc⟩ : ∃ x, chkA ll = x := ⟨_, rfl⟩
        have HC := Lib.hid hc
        clear hc
        go_wp2_with fail
        refine (check_s l ln lc ll _ (Hl.below HB4.out) Gl.out.small Gl.out.fewv).mono ?_
        rintro e w5 ⟨rfl, hb⟩
        have HB5 := Lib.hid (HB4.out.trans (hb.mono HB4.out.size))
        have HN := Lib.hid (HN.out.below hb)
        rw [HC.out]
        clear hb
        by_cases zc : c = 0
        · subst zc
          obtain ⟨e0, he0⟩ : ∃ x, (addR ll nam vsl).2 = x := ⟨_, rfl⟩
          have HE0 := Lib.hid he0
          clear he0
          go_wp2_with fail
          refine (add_s l vs ln lc vsn vsc ll nam vsl _ (Hl.below HB5.out) (Hvs.below HB5.out) (Gl.out.edit Gvs.out) Nnam).mono ?_
          rintro e w6 ⟨va0, rfl, ⟨xo0, xn0, xc0, rfl, hx0⟩, hb⟩
          have HB6 := Lib.hid (HB5.out.trans (hb.mono HB5.out.size))
          have HN := Lib.hid (HN.out.below hb)
          rw [HE0.out]
          have HX0 := Lib.hid hx0
          clear hx0
          clear hb
          obtain ⟨e1, he1⟩ : ∃ x, (remR ll nam vsl).2 = x := ⟨_, rfl⟩
          have HE1 := Lib.hid he1
          clear he1
          go_wp2_with fail
          refine (rem_s l vs ln lc vsn vsc ll nam vsl _ (Hl.below HB6.out) (Hvs.below HB6.out) (Gl.out.edit Gvs.out) Nnam).mono ?_
          rintro e w7 ⟨va1, rfl, ⟨xo1, xn1, xc1, rfl, hx1⟩, hb⟩
          have HB7 := Lib.hid (HB6.out.trans (hb.mono HB6.out.size))
          have HN := Lib.hid (HN.out.below hb)
          have HX0 := Lib.hid (HX0.out.below hb)
          rw [HE1.out]
          have HX1 := Lib.hid hx1
          clear hx1
          clear hb
          obtain ⟨e2, he2⟩ : ∃ x, (repR ll nam vsl).2 = x := ⟨_, rfl⟩
          have HE2 := Lib.hid he2
          clear he2
          go_wp2_with fail
          refine (rep_s l vs ln lc vsn vsc ll nam vsl _ (Hl.below HB7.out) (Hvs.below HB7.out) (Gl.out.edit Gvs.out) Nnam).mono ?_
          rintro e w8 ⟨va2, rfl, ⟨xo2, xn2, xc2, rfl, hx2⟩, hb⟩
          have HB8 := Lib.hid (HB7.out.trans (hb.mono HB7.out.size))
          have HN := Lib.hid (HN.out.below hb)
          have HX0 := Lib.hid (HX0.out.below hb)
          have HX1 := Lib.hid (HX1.out.below hb)
          rw [HE2.out]
          have HX2 := Lib.hid hx2
          clear hx2
          clear hb
          have HCN := Lib.hid (nf_chk HC.out)
          go_wp2_with fail
          refine (check_s xo xn xc (nf ll) _ HN.out HF.out.small HF.out.fewv).mono ?_
          rintro e w9 ⟨rfl, hb⟩
          have HB9 := Lib.hid (HB8.out.trans (hb.mono HB8.out.size))
          have HN := Lib.hid (HN.out.below hb)
          have HX0 := Lib.hid (HX0.out.below hb)
          have HX1 := Lib.hid (HX1.out.below hb)
          have HX2 := Lib.hid (HX2.out.below hb)
          rw [HCN.out]
          clear hb
          by_cases z0 : e0 = 0
          · subst z0
            have HD0 := Lib.hid (edit_add Gl.out Gvs.out Nnam HE0.out)
            have HC0 := Lib.hid (add_chk HC.out HE0.out)
            go_wp2_with fail
            refine (check_s xo0 xn0 xc0 _ _ HX0.out HD0.out.small HD0.out.few.fewv).mono ?_
            rintro e w10 ⟨rfl, hb⟩
            have HB10 := Lib.hid (HB9.out.trans (hb.mono HB9.out.size))
            have HN := Lib.hid (HN.out.below hb)
            have HX0 := Lib.hid (HX0.out.below hb)
            have HX1 := Lib.hid (HX1.out.below hb)
            have HX2 := Lib.hid (HX2.out.below hb)
            rw [HC0.out]
            clear hb
            by_cases z1 : e1 = 0
            · subst z1
              have HD1 := Lib.hid (edit_rem Gl.out Gvs.out Nnam HE1.out)
              have HC1 := Lib.hid (rem_chk HC.out HE1.out)
              go_wp2_with fail
              refine (check_s xo1 xn1 xc1 _ _ HX1.out HD1.out.small HD1.out.few.fewv).mono ?_
              rintro e w11 ⟨rfl, hb⟩
              have HB11 := Lib.hid (HB10.out.trans (hb.mono HB10.out.size))
              have HN := Lib.hid (HN.out.below hb)
              have HX0 := Lib.hid (HX0.out.below hb)
              have HX1 := Lib.hid (HX1.out.below hb)
              have HX2 := Lib.hid (HX2.out.below hb)
              rw [HC1.out]
              clear hb
              by_cases z2 : e2 = 0
              · subst z2
                have HD2 := Lib.hid (edit_rep Gl.out Gvs.out Nnam HE2.out)
                have HC2 := Lib.hid (rep_chk HC.out HE2.out)
                go_wp2_with fail
                refine (check_s xo2 xn2 xc2 _ _ HX2.out HD2.out.small HD2.out.few.fewv).mono ?_
                rintro e w12 ⟨rfl, hb⟩
                have HB12 := Lib.hid (HB11.out.trans (hb.mono HB11.out.size))
                have HN := Lib.hid (HN.out.below hb)
                have HX0 := Lib.hid (HX0.out.below hb)
                have HX1 := Lib.hid (HX1.out.below hb)
                have HX2 := Lib.hid (HX2.out.below hb)
                rw [HC2.out]
                clear hb
                go_wp2_with fail
                refine (awake_s _).mono ?_
                rintro e w13 ⟨rfl, hb⟩
                have HB13 := Lib.hid (HB12.out.trans (hb.mono HB12.out.size))
                have HN := Lib.hid (HN.out.below hb)
                have HX0 := Lib.hid (HX0.out.below hb)
                have HX1 := Lib.hid (HX1.out.below hb)
                have HX2 := Lib.hid (HX2.out.below hb)
                clear hb
                go_wp2_with fail
                go_ret
                exact ⟨rfl, HB13.out⟩
              · have dz2 : decide (e2 = (0 : Int)) = false := decide_eq_false z2
                go_wp2_with fail
                refine (awake_s _).mono ?_
                rintro e w12 ⟨rfl, hb⟩
                have HB12 := Lib.hid (HB11.out.trans (hb.mono HB11.out.size))
                have HN := Lib.hid (HN.out.below hb)
                have HX0 := Lib.hid (HX0.out.below hb)
                have HX1 := Lib.hid (HX1.out.below hb)
                have HX2 := Lib.hid (HX2.out.below hb)
                clear hb
                go_wp2_with fail
                go_ret
                exact ⟨rfl, HB12.out⟩
            · have dz1 : decide (e1 = (0 : Int)) = false := decide_eq_false z1
              by_cases z2 : e2 = 0
              · subst z2
                have HD2 := Lib.hid (edit_rep Gl.out Gvs.out Nnam HE2.out)
                have HC2 := Lib.hid (rep_chk HC.out HE2.out)
                go_wp2_with fail
                refine (check_s xo2 xn2 xc2 _ _ HX2.out HD2.out.small HD2.out.few.fewv).mono ?_
                rintro e w11 ⟨rfl, hb⟩
                have HB11 := Lib.hid (HB10.out.trans (hb.mono HB10.out.size))
                have HN := Lib.hid (HN.out.below hb)
                have HX0 := Lib.hid (HX0.out.below hb)
                have HX1 := Lib.hid (HX1.out.below hb)
                have HX2 := Lib.hid (HX2.out.below hb)
                rw [HC2.out]
                clear hb
                go_wp2_with fail
                refine (awake_s _).mono ?_
                rintro e w12 ⟨rfl, hb⟩
                have HB12 := Lib.hid (HB11.out.trans (hb.mono HB11.out.size))
                have HN := Lib.hid (HN.out.below hb)
                have HX0 := Lib.hid (HX0.out.below hb)
                have HX1 := Lib.hid (HX1.out.below hb)
                have HX2 := Lib.hid (HX2.out.below hb)
                clear hb
                go_wp2_with fail
                go_ret
                exact ⟨rfl, HB12.out⟩
              · have dz2 : decide (e2 = (0 : Int)) = false := decide_eq_false z2
                go_wp2_with fail
                refine (awake_s _).mono ?_
                rintro e w11 ⟨rfl, hb⟩
                have HB11 := Lib.hid (HB10.out.trans (hb.mono HB10.out.size))
                have HN := Lib.hid (HN.out.below hb)
                have HX0 := Lib.hid (HX0.out.below hb)
                have HX1 := Lib.hid (HX1.out.below hb)
                have HX2 := Lib.hid (HX2.out.below hb)
                clear hb
                go_wp2_with fail
                go_ret
                exact ⟨rfl, HB11.out⟩
          · have dz0 : decide (e0 = (0 : Int)) = false := decide_eq_false z0
            by_cases z1 : e1 = 0
            · subst z1
              have HD1 := Lib.hid (edit_rem Gl.out Gvs.out Nnam HE1.out)
              have HC1 := Lib.hid (rem_chk HC.out HE1.out)
              go_wp2_with fail
              refine (check_s xo1 xn1 xc1 _ _ HX1.out HD1.out.small HD1.out.few.fewv).mono ?_
              rintro e w10 ⟨rfl, hb⟩
              have HB10 := Lib.hid (HB9.out.trans (hb.mono HB9.out.size))
              have HN := Lib.hid (HN.out.below hb)
              have HX0 := Lib.hid (HX0.out.below hb)
              have HX1 := Lib.hid (HX1.out.below hb)
              have HX2 := Lib.hid (HX2.out.below hb)
              rw [HC1.out]
              clear hb
              by_cases z2 : e2 = 0
              · subst z2
                have HD2 := Lib.hid (edit_rep Gl.out Gvs.out Nnam HE2.out)
                have HC2 := Lib.hid (rep_chk HC.out HE2.out)
                go_wp2_with fail
                refine (check_s xo2 xn2 xc2 _ _ HX2.out HD2.out.small HD2.out.few.fewv).mono ?_
                rintro e w11 ⟨rfl, hb⟩
                have HB11 := Lib.hid (HB10.out.trans (hb.mono HB10.out.size))
                have HN := Lib.hid (HN.out.below hb)
                have HX0 := Lib.hid (HX0.out.below hb)
                have HX1 := Lib.hid (HX1.out.below hb)
                have HX2 := Lib.hid (HX2.out.below hb)
                rw [HC2.out]
                clear hb
                go_wp2_with fail
                refine (awake_s _).mono ?_
                rintro e w12 ⟨rfl, hb⟩
                have HB12 := Lib.hid (HB11.out.trans (hb.mono HB11.out.size))
                have HN := Lib.hid (HN.out.below hb)
                have HX0 := Lib.hid (HX0.out.below hb)
                have HX1 := Lib.hid (HX1.out.below hb)
                have HX2 := Lib.hid (HX2.out.below hb)
                clear hb
                go_wp2_with fail
                go_ret
                exact ⟨rfl, HB12.out⟩
              · have dz2 : decide (e2 = (0 : Int)) = false := decide_eq_false z2
                go_wp2_with fail
                refine (awake_s _).mono ?_
                rintro e w11 ⟨rfl, hb⟩
                have HB11 := Lib.hid (HB10.out.trans (hb.mono HB10.out.size))
                have HN := Lib.hid (HN.out.below hb)
                have HX0 := Lib.hid (HX0.out.below hb)
                have HX1 := Lib.hid (HX1.out.below hb)
                have HX2 := Lib.hid (HX2.out.below hb)
                clear hb
                go_wp2_with fail
                go_ret
                exact ⟨rfl, HB11.out⟩
            · have dz1 : decide (e1 = (0 : Int)) = false := decide_eq_false z1
              by_cases z2 : e2 = 0
              · subst z2
                have HD2 := Lib.hid (edit_rep Gl.out Gvs.out Nnam HE2.out)
                have HC2 := Lib.hid (rep_chk HC.out HE2.out)
                go_wp2_with fail
                refine (check_s xo2 xn2 xc2 _ _ HX2.out HD2.out.small HD2.out.few.fewv).mono ?_
                rintro e w10 ⟨rfl, hb⟩
                have HB10 := Lib.hid (HB9.out.trans (hb.mono HB9.out.size))
                have HN := Lib.hid (HN.out.below hb)
                have HX0 := Lib.hid (HX0.out.below hb)
                have HX1 := Lib.hid (HX1.out.below hb)
                have HX2 := Lib.hid (HX2.out.below hb)
                rw [HC2.out]
                clear hb
                go_wp2_with fail
                refine (awake_s _).mono ?_
                rintro e w11 ⟨rfl, hb⟩
                have HB11 := Lib.hid (HB10.out.trans (hb.mono HB10.out.size))
                have HN := Lib.hid (HN.out.below hb)
                have HX0 := Lib.hid (HX0.out.below hb)
                have HX1 := Lib.hid (HX1.out.below hb)
                have HX2 := Lib.hid (HX2.out.below hb)
                clear hb
                go_wp2_with fail
                go_ret
                exact ⟨rfl, HB11.out⟩
              · have dz2 : decide (e2 = (0 : Int)) = false := decide_eq_false z2
                go_wp2_with fail
                refine (awake_s _).mono ?_
                rintro e w10 ⟨rfl, hb⟩
                have HB10 := Lib.hid (HB9.out.trans (hb.mono HB9.out.size))
                have HN := Lib.hid (HN.out.below hb)
                have HX0 := Lib.hid (HX0.out.below hb)
                have HX1 := Lib.hid (HX1.out.below hb)
                have HX2 := Lib.hid (HX2.out.below hb)
                clear hb
                go_wp2_with fail
                go_ret
                exact ⟨rfl, HB10.out⟩
        · have dzc : decide (c = (0 : Int)) = false := decide_eq_false zc
          go_wp2_with fail
          refine (awake_s _).mono ?_
          rintro e w6 ⟨rfl, hb⟩
          have HB6 := Lib.hid (HB5.out.trans (hb.mono HB5.out.size))
          have HN := Lib.hid (HN.out.below hb)
          clear hb
          go_wp2_with fail
          go_ret
          exact ⟨rfl, HB6.out⟩

theorem lnormal_types : ∀ t ∈ [22, 9, 29], Try.prog.readableRec t = true ∧ t < Try.prog.types.size := by
  have h : ([22, 9, 29].all fun t => Try.prog.readableRec t && decide (t < Try.prog.types.size)) = true := by kernel_rfl
  intro t ht
  have := List.all_eq_true.1 h t ht
  simpa using this

set_option maxRecDepth 100000 in
theorem lnormal_contract (H : Type) (enc : TypeId × Value → H) (W : World) (base : Nat) (args : Array Value) (ds gs : List (DataW H)) (before : List MemPlace)
    (hval : ∀ (j : Nat) t v, Try.f7.params[j]? = some t → args[j]? = some v → Value.okWide Try.prog W .any base t v)
    (hW : DataW.Whole enc Try.prog Try.f7.params.toList Rows.attrsNormalSpec.vars false W args.toList ds gs before)
    (hsz0 : (DataW.weightsEach Try.prog (Try.f7.params.toList ++ Rows.attrsNormalSpec.plain.varTypes Try.prog) (ds ++ gs)).all (· ≤ reachBytes) = true) :
    Calls Try.prog 7 args W fun e W' => ∃ v, e = .returned v ∧ Rows.attrsNormalSpec.post enc Try.prog Try.f7 false true false false W args v W' := by
  have hW' := hW
  obtain ⟨p, q, hA0, hV, rfl, hfz, hnd⟩ := hW
  have hA : DataW.TrodAll enc Try.prog W 0 (fun _ => true) true Try.f7.params.toList args.toList ds p := hA0
  obtain ⟨rfl, rfl⟩ := trodVars_none hV
  simp only [List.append_nil] at hW'
  have hlt : ∀ x ∈ p, x.block < W.heap.size := fun x hx => by simpa using hW'.lt x hx
  have fin : ∀ W', Below W.heap.size W W' → DataW.TrodAll enc Try.prog W' 0 (fun b => decide (b < W.heap.size)) true [22, 9, 29] args.toList ds p := fun W' hb => by
    rw [Try.params7] at hA
    exact trodAll_below hb _ _ _ _ lnormal_types hA hlt
  clear hA0
  rw [Try.params7] at hA hval hsz0
  rw [show Rows.attrsNormalSpec.plain.varTypes Try.prog = [] from rfl, List.append_nil, List.append_nil] at hsz0
  obtain ⟨v0, vs0, d0, ds0, p0, q0, hargs, rfl, hp0, h0, r0⟩ := trodAll_cons hA
  obtain ⟨v1, vs1, d1, ds1, p1, q1, rfl, rfl, hp1, h1, r1⟩ := trodAll_cons r0
  obtain ⟨v2, vs2, d2, ds2, p2, q2, rfl, rfl, hp2, h2, r2⟩ := trodAll_cons r1
  obtain ⟨rfl, rfl, rfl⟩ := trodAll_nil r2
  obtain rfl : args = #[v0, v1, v2] := by cases args; simp_all
  have hsz : (DataW.weightsEach Try.prog [22, 9, 29] [d0, d1, d2]).all (fun x => decide (x ≤ reachBytes)) = true := by simpa using hsz0
  clear hsz0
  obtain ⟨l, ln, lc, ll, rfl, hs0, hr0⟩ := open_attrsR (hval 0 22 v0 rfl rfl) h0 (fun n hn => by have := List.all_eq_true.1 hsz n (DataW.weights_mem_each (j := 0) (t := 22) rfl rfl n hn); exact of_decide_eq_true this)
  obtain ⟨nam, rfl, rfl, rfl, hs1⟩ := open_string Try.underlying9 (hval 1 9 v1 rfl rfl) h1
  obtain ⟨vs, vsn, vsc, vsl, rfl, hs2, hr2⟩ := open_strsR (hval 2 29 v2 rfl rfl) h2 (fun n hn => by have := List.all_eq_true.1 hsz n (DataW.weights_mem_each (j := 2) (t := 29) rfl rfl n hn); exact of_decide_eq_true this)
  refine (lnormal_s l ln lc ll nam vs vsn vsc vsl W hs0 hr0 hs1 hs2 hr2).mono fun e W' ⟨he, hb⟩ => ?_
  subst he
  exact ⟨_, rfl, _, _, _, [], p, [], hW', trodAll_mk1 (shut_bool Try.underlying4 _), fin W' hb, rfl, hb.frame _, fun h => by cases h⟩

set_option maxRecDepth 100000 in
theorem lnormal_lifted (os : Os) (started : os.Started) (H : Type) (enc : TypeId × Value → H) :
    ReturnsInHanded {} Try.checked os 7 .any (Rows.attrsNormalSpec.pre6 enc Try.prog Try.f7 Rows.attrsNormalRow.domain false) (Rows.attrsNormalSpec.post enc Try.prog Try.f7 false true false false) := by
  refine returnsInHanded_of_change_sized (C := Try.checked) own started (by kernel_rfl) Try.func7
    (ChangeSpec.witness6 (enc := enc) (C := Try.checked) false ⟨#[], #[.slice none 0 0, .string ⟨#[]⟩, .slice none 0 0], []⟩ 8 (by kernel_rfl) (by kernel_rfl) (by kernel_rfl) (by kernel_rfl)) ?_
  intro W base args ds gs before hval hW _ hsz _
  exact lnormal_contract H enc W base args ds gs before hval hW hsz

set_option maxRecDepth 100000 in
/-- THE STATEMENT -/
theorem lnormal_said : Rows.AttrsNormalSaid :=
  OpenClaim.holds_of_wide 7 Try.f7 rfl rfl rfl rfl rfl rfl rfl ⟨rfl, rfl, rfl, rfl, rfl⟩ rfl rfl rfl rfl rfl (by kernel_rfl) Try.func7 (by kernel_rfl)
    (of_decide_eq_true (by kernel_rfl)) (by unfold Func.isWrapper; first | (rw [if_pos (by decide +kernel)]; kernel_rfl) | (rw [if_neg (by decide +kernel)]; exact ⟨rfl, rfl⟩))
    (fun os started H enc _ => lnormal_lifted os started H enc)
end Go.Proofs.Ytahpocpagidahaa
