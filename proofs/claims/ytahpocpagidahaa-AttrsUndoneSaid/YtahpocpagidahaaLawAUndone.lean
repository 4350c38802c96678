/-
  what attrs.Add added can be removed again, for all arguments. No condition.
-/
import Derived.Test.YtahpocpagidahaaAttG6
set_option linter.unusedVariables false
set_option linter.unusedSimpArgs false
set_option linter.unnecessarySimpa false
namespace Go.Proofs.Ytahpocpagidahaa
open Go.ChangeShapes Go.WideShapes Go.ChangeAt Go.RowKit Go.PlainAid
open Go.ChangeMaps (open_string shut_string)

set_option maxRecDepth 100000 in
set_option maxHeartbeats 16000000 in
theorem lundone_s (l : Option Addr) (ln lc : Nat) (ll : List At) (nam : ByteArray) (vs : Option Addr) (vsn vsc : Nat) (vsl : List ByteArray) (W : World) (Hl : AttrsAt W l ln lc ll) (Rl : RA ll) (Mnam : nam.size ≤ maxLen) (Hvs : StrsAt W vs vsn vsc vsl) (Rvs : RS vsl) :
    Calls Try.prog 8 #[.slice l ln lc, .string nam, .slice vs vsn vsc] W fun e w' => e = .returned (.bool true) ∧ Below W.heap.size W w' := by
  go_enter Try.func8, Try.ntmps8
  have HB0 := Lib.hid (Below.refl W.heap.size W)
  go_wp2_with fail
  refine (short_s _ _ _ _ W Hl Rl).mono ?_
  rintro e wg ⟨⟨b, rfl, hgl, hw⟩⟩
  obtain rfl : W = wg := hw.symm
  clear hw
  cases b with
  | false =>
    go_wp2_with fail
    refine (awake_s _).mono ?_
    rintro e w1 ⟨rfl, hb⟩
    have HB1 := Lib.hid (HB0.out.trans (hb.mono HB0.out.size))
    clear hb
    go_wp2_with fail
    go_ret
    exact ⟨rfl, HB1.out⟩
  | true =>
    have Gl := Lib.hid (hgl rfl)
    clear hgl
    go_wp2_with fail
    refine (few_s _ _ _ _ W Hvs Rvs).mono ?_
    rintro e wg ⟨⟨b, rfl, hgvs, hw⟩⟩
    obtain rfl : W = wg := hw.symm
    clear hw
    cases b with
    | false =>
      go_wp2_with fail
      refine (awake_s _).mono ?_
      rintro e w1 ⟨rfl, hb⟩
      have HB1 := Lib.hid (HB0.out.trans (hb.mono HB0.out.size))
      clear hb
      go_wp2_with fail
      go_ret
      exact ⟨rfl, HB1.out⟩
    | true =>
      have Gvs := Lib.hid (hgvs rfl)
      clear hgvs
      by_cases Lnam : 300 < nam.size
      · have Dnam : decide ((300 : Int) < (nam.size : Int)) = true := decide_eq_true (by omega)
        go_wp2_with fail
        refine (awake_s _).mono ?_
        rintro e w1 ⟨rfl, hb⟩
        have HB1 := Lib.hid (HB0.out.trans (hb.mono HB0.out.size))
        clear hb
        go_wp2_with fail
        go_ret
        exact ⟨rfl, HB1.out⟩
      · have Dnam : decide ((300 : Int) < (nam.size : Int)) = false := decide_eq_false (by omega)
        have Nnam : nam.size ≤ 1000000 := by omega
        obtain ⟨e0, he0⟩ : ∃ x, (addR ll nam vsl).2 = x := ⟨_, rfl⟩
        have HE0 := Lib.hid he0
        clear he0
        go_wp2_with fail
        refine (add_s l vs ln lc vsn vsc ll nam vsl _ (Hl.below HB0.out) (Hvs.below HB0.out) (Gl.out.edit Gvs.out) Nnam).mono ?_
        rintro e w1 ⟨va, rfl, ⟨xo, xn, xc, rfl, hx⟩, hb⟩
        have HB1 := Lib.hid (HB0.out.trans (hb.mono HB0.out.size))
        rw [HE0.out]
        have HX := Lib.hid hx
        clear hx
        clear hb
        by_cases z0 : e0 = 0
        · subst z0
          have HD := Lib.hid (edit_add Gl.out Gvs.out Nnam HE0.out)
          have HM := Lib.hid (fun v (hv : v ∈ vsl) => add_has HE0.out hv)
          have HQ := Lib.hid (add_rem (add_ok HE0.out))
          obtain ⟨A, hA⟩ : ∃ x, (addR ll nam vsl).1 = x := ⟨_, rfl⟩
          rw [hA] at HX HD HM HQ
          clear hA HE0
          have hvl : vsn = vsl.length := Hvs.1.symm
          have hvm : vsn ≤ 20 := by have := Gvs.out.len; omega
          have HVL := Lib.hid hvl
          clear hvl
          go_wp2_with fail
          go_loopw [9] (fun iv wr => ∃ k : Nat, k ≤ vsn ∧ iv = .int .i64 k ∧ Hid (Below w1.heap.size w1 wr)) (fun iv _ => vsn - (intOf iv).toNat)
          case atStart => exact ⟨0, Nat.zero_le _, rfl, Lib.hid (Below.refl _ _)⟩
          case round =>
            obtain ⟨k, hk, rfl, HR⟩ := hrel
            have HBr := Lib.hid (HB1.out.trans (HR.out.mono HB1.out.size))
            have HXr := Lib.hid (HX.out.below HR.out)
            by_cases hlt : k < vsn
            · have d1 : decide ((k : Int) < (vsn : Int)) = true := decide_eq_true (by omega)
              have d3 : (k : Int) < (vsn : Int) := by omega
              have hlv : k < vsl.length := by rw [← HVL.out]; exact hlt
              obtain ⟨b, off, rfl, hs⟩ := (Hvs.below HBr.out).2.2.2 (by omega)
              have hcell := hs.2 k hlv
              clear hs
              have HMp := Lib.hid (HM.out _ (part_mem vsl k hlv))
              clear hlv
              obtain ⟨p, hp⟩ : ∃ x, partAt vsl k = x := ⟨_, rfl⟩
              rw [hp] at hcell HMp
              clear hp
              go_wp2_with fail
              refine (hasv_s xo xn xc A nam p _ HXr.out HD.out.few Nnam).mono ?_
              rintro e w2 ⟨rfl, hb⟩
              rw [HMp.out]
              have HR2 := Lib.hid (HR.out.trans (hb.mono HR.out.size))
              clear hb hcell
              go_wp2_with fail
              go_roundw
              case rel => exact ⟨k + 1, by omega, by go_num, HR2⟩
              case measure => simp [intOf]; omega
            · obtain rfl : k = vsn := by omega
              have d1 : decide ((k : Int) < (k : Int)) = false := decide_eq_false (by omega)
              have HR1 := Lib.hid (congrArg Prod.snd HQ.out)
              have HR3 := Lib.hid (congrArg Prod.fst HQ.out)
              have HB7 := HBr
              go_wp2_with fail
              refine (rem_s xo vs xn xc k vsc A nam vsl _ HXr.out (Hvs.below HB7.out) HD.out Nnam).mono ?_
              rintro e w8 ⟨vb, rfl, ⟨yo, yn, yc, rfl, hy⟩, hb⟩
              have HB8 := Lib.hid (HB7.out.trans (hb.mono HB7.out.size))
              rw [HR1.out]
              rw [HR3.out] at hy
              have HY := Lib.hid hy
              clear hy
              clear hb
              go_wp2_with fail
              refine (sortR_s l ln lc ll _ (Hl.below HB8.out) Gl.out.few).mono ?_
              rintro e w9 ⟨vz, rfl, ⟨zo, zn, zc, rfl, hz⟩, hb⟩
              have HB9 := Lib.hid (HB8.out.trans (hb.mono HB8.out.size))
              have HY := Lib.hid (HY.out.below hb)
              clear hb
              go_wp2_with fail
              refine (rsame_s yo zo yn zn yc zc _ _ _ HY.out hz).mono ?_
              rintro e w10 ⟨rfl, hb⟩
              have HB10 := Lib.hid (HB9.out.trans (hb.mono HB9.out.size))
              have HY := Lib.hid (HY.out.below hb)
              rw [decide_eq_true rfl]
              clear hz
              clear hb
              go_wp2_with fail
              refine (awake_s _).mono ?_
              rintro e w11 ⟨rfl, hb⟩
              have HB11 := Lib.hid (HB10.out.trans (hb.mono HB10.out.size))
              have HY := Lib.hid (HY.out.below hb)
              clear hb
              go_wp2_with fail
              go_ret
              exact ⟨rfl, HB11.out⟩
        · have dz : decide (e0 = (0 : Int)) = false := decide_eq_false z0
          have HN := Lib.hid (add_no (l := ll) (name := nam) (vs := vsl) (by rw [HE0.out]; exact z0))
          rw [HN.out] at HX
          obtain rfl : xn = 0 := HX.out.1.symm
          go_wp2_with fail
          refine (awake_s _).mono ?_
          rintro e w2 ⟨rfl, hb⟩
          have HB2 := Lib.hid (HB1.out.trans (hb.mono HB1.out.size))
          clear hb
          go_wp2_with fail
          go_ret
          exact ⟨rfl, HB2.out⟩

theorem lundone_types : ∀ t ∈ [22, 9, 29], Try.prog.readableRec t = true ∧ t < Try.prog.types.size := by
  have h : ([22, 9, 29].all fun t => Try.prog.readableRec t && decide (t < Try.prog.types.size)) = true := by kernel_rfl
  intro t ht
  have := List.all_eq_true.1 h t ht
  simpa using this

set_option maxRecDepth 100000 in
theorem lundone_contract (H : Type) (enc : TypeId × Value → H) (W : World) (base : Nat) (args : Array Value) (ds gs : List (DataW H)) (before : List MemPlace)
    (hval : ∀ (j : Nat) t v, Try.f8.params[j]? = some t → args[j]? = some v → Value.okWide Try.prog W .any base t v)
    (hW : DataW.Whole enc Try.prog Try.f8.params.toList Rows.attrsUndoneSpec.vars false W args.toList ds gs before)
    (hsz0 : (DataW.weightsEach Try.prog (Try.f8.params.toList ++ Rows.attrsUndoneSpec.plain.varTypes Try.prog) (ds ++ gs)).all (· ≤ reachBytes) = true) :
    Calls Try.prog 8 args W fun e W' => ∃ v, e = .returned v ∧ Rows.attrsUndoneSpec.post enc Try.prog Try.f8 false true false false W args v W' := by
  have hW' := hW
  obtain ⟨p, q, hA0, hV, rfl, hfz, hnd⟩ := hW
  have hA : DataW.TrodAll enc Try.prog W 0 (fun _ => true) true Try.f8.params.toList args.toList ds p := hA0
  obtain ⟨rfl, rfl⟩ := trodVars_none hV
  simp only [List.append_nil] at hW'
  have hlt : ∀ x ∈ p, x.block < W.heap.size := fun x hx => by simpa using hW'.lt x hx
  have fin : ∀ W', Below W.heap.size W W' → DataW.TrodAll enc Try.prog W' 0 (fun b => decide (b < W.heap.size)) true [22, 9, 29] args.toList ds p := fun W' hb => by
    rw [Try.params8] at hA
    exact trodAll_below hb _ _ _ _ lundone_types hA hlt
  clear hA0
  rw [Try.params8] at hA hval hsz0
  rw [show Rows.attrsUndoneSpec.plain.varTypes Try.prog = [] from rfl, List.append_nil, List.append_nil] at hsz0
  obtain ⟨v0, vs0, d0, ds0, p0, q0, hargs, rfl, hp0, h0, r0⟩ := trodAll_cons hA
  obtain ⟨v1, vs1, d1, ds1, p1, q1, rfl, rfl, hp1, h1, r1⟩ := trodAll_cons r0
  obtain ⟨v2, vs2, d2, ds2, p2, q2, rfl, rfl, hp2, h2, r2⟩ := trodAll_cons r1
  obtain ⟨rfl, rfl, rfl⟩ := trodAll_nil r2
  obtain rfl : args = #[v0, v1, v2] := by cases args; simp_all
  have hsz : (DataW.weightsEach Try.prog [22, 9, 29] [d0, d1, d2]).all (fun x => decide (x ≤ reachBytes)) = true := by simpa using hsz0
  clear hsz0
  obtain ⟨l, ln, lc, ll, rfl, hs0, hr0⟩ := open_attrsR (hval 0 22 v0 rfl rfl) h0 (fun n hn => by have := List.all_eq_true.1 hsz n (DataW.weights_mem_each (j := 0) (t := 22) rfl rfl n hn); exact of_decide_eq_true this)
  obtain ⟨nam, rfl, rfl, rfl, hs1⟩ := open_string Try.underlying9 (hval 1 9 v1 rfl rfl) h1
  obtain ⟨vs, vsn, vsc, vsl, rfl, hs2, hr2⟩ := open_strsR (hval 2 29 v2 rfl rfl) h2 (fun n hn => by have := List.all_eq_true.1 hsz n (DataW.weights_mem_each (j := 2) (t := 29) rfl rfl n hn); exact of_decide_eq_true this)
  refine (lundone_s l ln lc ll nam vs vsn vsc vsl W hs0 hr0 hs1 hs2 hr2).mono fun e W' ⟨he, hb⟩ => ?_
  subst he
  exact ⟨_, rfl, _, _, _, [], p, [], hW', trodAll_mk1 (shut_bool Try.underlying4 _), fin W' hb, rfl, hb.frame _, fun h => by cases h⟩

set_option maxRecDepth 100000 in
theorem lundone_lifted (os : Os) (started : os.Started) (H : Type) (enc : TypeId × Value → H) :
    ReturnsInHanded {} Try.checked os 8 .any (Rows.attrsUndoneSpec.pre6 enc Try.prog Try.f8 Rows.attrsUndoneRow.domain false) (Rows.attrsUndoneSpec.post enc Try.prog Try.f8 false true false false) := by
  refine returnsInHanded_of_change_sized (C := Try.checked) own started (by kernel_rfl) Try.func8
    (ChangeSpec.witness6 (enc := enc) (C := Try.checked) false ⟨#[], #[.slice none 0 0, .string ⟨#[]⟩, .slice none 0 0], []⟩ 8 (by kernel_rfl) (by kernel_rfl) (by kernel_rfl) (by kernel_rfl)) ?_
  intro W base args ds gs before hval hW _ hsz _
  exact lundone_contract H enc W base args ds gs before hval hW hsz

set_option maxRecDepth 100000 in
/-- THE STATEMENT -/
theorem lundone_said : Rows.AttrsUndoneSaid :=
  OpenClaim.holds_of_wide 8 Try.f8 rfl rfl rfl rfl rfl rfl rfl ⟨rfl, rfl, rfl, rfl, rfl⟩ rfl rfl rfl rfl rfl (by kernel_rfl) Try.func8 (by kernel_rfl)
    (of_decide_eq_true (by kernel_rfl)) (by unfold Func.isWrapper; first | (rw [if_pos (by decide +kernel)]; kernel_rfl) | (rw [if_neg (by decide +kernel)]; exact ⟨rfl, rfl⟩))
    (fun os started H enc _ => lundone_lifted os started H enc)
end Go.Proofs.Ytahpocpagidahaa
