/-
  attrs.Get, Has, Names and Pick return the specified results, for all arguments. No condition.
-/
import Derived.Test.YtahpocpagidahaaAttG4
set_option linter.unusedVariables false
set_option linter.unusedSimpArgs false
set_option linter.unnecessarySimpa false
namespace Go.Proofs.Ytahpocpagidahaa
open Go.ChangeShapes Go.WideShapes Go.ChangeAt Go.RowKit Go.PlainAid
open Go.ChangeMaps (open_string shut_string)

set_option maxRecDepth 100000 in
set_option maxHeartbeats 16000000 in
theorem lpicks_s (l : Option Addr) (ln lc : Nat) (ll : List At) (nam : ByteArray) (val : ByteArray) (ns : Option Addr) (nsn nsc : Nat) (nsl : List ByteArray) (W : World) (Hl : AttrsAt W l ln lc ll) (Rl : RA ll) (Mnam : nam.size ≤ maxLen) (Mval : val.size ≤ maxLen) (Hns : StrsAt W ns nsn nsc nsl) (Rns : RS nsl) :
    Calls Try.prog 5 #[.slice l ln lc, .string nam, .string val, .slice ns nsn nsc] W fun e w' => e = .returned (.bool true) ∧ Below W.heap.size W w' := by
  go_enter Try.func5, Try.ntmps5
  have HB0 := Lib.hid (Below.refl W.heap.size W)
  go_wp2_with fail
  refine (short_s _ _ _ _ W Hl Rl).mono ?_
  rintro e wg ⟨⟨b, rfl, hgl, hw⟩⟩
  obtain rfl : W = wg := hw.symm
  clear hw
  cases b with
  | false =>
    go_wp2_with fail
    refine (awake_s _).mono ?_
    rintro e w1 ⟨rfl, hb⟩
    have HB1 := Lib.hid (HB0.out.trans (hb.mono HB0.out.size))
    clear hb
    go_wp2_with fail
    go_ret
    exact ⟨rfl, HB1.out⟩
  | true =>
    have Gl := Lib.hid (hgl rfl)
    clear hgl
    go_wp2_with fail
    refine (few_s _ _ _ _ W Hns Rns).mono ?_
    rintro e wg ⟨⟨b, rfl, hgns, hw⟩⟩
    obtain rfl : W = wg := hw.symm
    clear hw
    cases b with
    | false =>
      go_wp2_with fail
      refine (awake_s _).mono ?_
      rintro e w1 ⟨rfl, hb⟩
      have HB1 := Lib.hid (HB0.out.trans (hb.mono HB0.out.size))
      clear hb
      go_wp2_with fail
      go_ret
      exact ⟨rfl, HB1.out⟩
    | true =>
      have Gns := Lib.hid (hgns rfl)
      clear hgns
      by_cases Lnam : 300 < nam.size
      · have Dnam : decide ((300 : Int) < (nam.size : Int)) = true := decide_eq_true (by omega)
        go_wp2_with fail
        refine (awake_s _).mono ?_
        rintro e w1 ⟨rfl, hb⟩
        have HB1 := Lib.hid (HB0.out.trans (hb.mono HB0.out.size))
        clear hb
        go_wp2_with fail
        go_ret
        exact ⟨rfl, HB1.out⟩
      · have Dnam : decide ((300 : Int) < (nam.size : Int)) = false := decide_eq_false (by omega)
        have Nnam : nam.size ≤ 1000000 := by omega
        by_cases Lval : 300 < val.size
        · have Dval : decide ((300 : Int) < (val.size : Int)) = true := decide_eq_true (by omega)
          go_wp2_with fail
          refine (awake_s _).mono ?_
          rintro e w1 ⟨rfl, hb⟩
          have HB1 := Lib.hid (HB0.out.trans (hb.mono HB0.out.size))
          clear hb
          go_wp2_with fail
          go_ret
          exact ⟨rfl, HB1.out⟩
        · have Dval : decide ((300 : Int) < (val.size : Int)) = false := decide_eq_false (by omega)
          have Nval : val.size ≤ 1000000 := by omega
          go_wp2_with fail
          refine (get_s l ln lc ll nam W (Hl.below HB0.out) Gl.out.few Nnam).mono ?_
          rintro e w1 ⟨v1, rfl, ⟨xo, xn, xc, rfl, hx⟩, hb⟩
          have HB1 := Lib.hid (HB0.out.trans (hb.mono HB0.out.size))
          clear hb
          go_wp2_with fail
          refine (rget_s l ln lc ll nam _ (Hl.below HB1.out) Gl.out.few Nnam).mono ?_
          rintro e w2 ⟨v2, rfl, ⟨yo, yn, yc, rfl, hy⟩, hb⟩
          have HB2 := Lib.hid (HB1.out.trans (hb.mono HB1.out.size))
          have hx := hx.below hb
          clear hb
          go_wp2_with fail
          refine (same_s xo yo xn yn xc yc _ _ _ hx hy).mono ?_
          rintro e w3 ⟨rfl, hb⟩
          have HB3 := Lib.hid (HB2.out.trans (hb.mono HB2.out.size))
          rw [decide_eq_true rfl]
          clear hx hy
          obtain ⟨z, hz⟩ : ∃ x, memB (vals ll (lowS nam)) val = x := ⟨_, rfl⟩
          have HZ := Lib.hid hz
          clear hz
          clear hb
          go_wp2_with fail
          refine (hasv_s l ln lc ll nam val _ (Hl.below HB3.out) Gl.out.few Nnam).mono ?_
          rintro e w4 ⟨rfl, hb⟩
          have HB4 := Lib.hid (HB3.out.trans (hb.mono HB3.out.size))
          rw [HZ.out]
          clear hb
          go_wp2_with fail
          refine (rhas_s l ln lc ll nam val _ (Hl.below HB4.out) Gl.out.few Nnam).mono ?_
          rintro e w5 ⟨rfl, hb⟩
          have HB5 := Lib.hid (HB4.out.trans (hb.mono HB4.out.size))
          rw [HZ.out]
          clear hb
          go_wp2_with fail
          refine (names_s l ln lc ll _ (Hl.below HB5.out) Gl.out.few).mono ?_
          rintro e w6 ⟨v3, rfl, ⟨zo, zn, zc, rfl, hx⟩, hb⟩
          have HB6 := Lib.hid (HB5.out.trans (hb.mono HB5.out.size))
          clear hb
          go_wp2_with fail
          refine (rnames_s l ln lc ll _ (Hl.below HB6.out) Gl.out.few).mono ?_
          rintro e w7 ⟨v4, rfl, ⟨uo, un, uc, rfl, hy⟩, hb⟩
          have HB7 := Lib.hid (HB6.out.trans (hb.mono HB6.out.size))
          have hx := hx.below hb
          clear hb
          go_wp2_with fail
          refine (same_s zo uo zn un zc uc _ _ _ hx hy).mono ?_
          rintro e w8 ⟨rfl, hb⟩
          have HB8 := Lib.hid (HB7.out.trans (hb.mono HB7.out.size))
          rw [decide_eq_true rfl]
          clear hx hy
          clear hb
          go_wp2_with fail
          refine (pick_s l ns ln lc nsn nsc ll nsl _ (Hl.below HB8.out) (Hns.below HB8.out) Gl.out.few Gns.out.small (by have h5 := Gns.out.len; have h6 := Hns.1; omega)).mono ?_
          rintro e w9 ⟨v5, rfl, ⟨po, pn, pc, rfl, hx⟩, hb⟩
          have HB9 := Lib.hid (HB8.out.trans (hb.mono HB8.out.size))
          clear hb
          go_wp2_with fail
          refine (rpick_s l ns ln lc nsn nsc ll nsl _ (Hl.below HB9.out) (Hns.below HB9.out) Gl.out.few Gns.out.small).mono ?_
          rintro e w10 ⟨v6, rfl, ⟨qo, qn, qc, rfl, hy⟩, hb⟩
          have HB10 := Lib.hid (HB9.out.trans (hb.mono HB9.out.size))
          have hx := hx.below hb
          clear hb
          go_wp2_with fail
          refine (rsame_s po qo pn qn pc qc _ _ _ hx hy).mono ?_
          rintro e w11 ⟨rfl, hb⟩
          have HB11 := Lib.hid (HB10.out.trans (hb.mono HB10.out.size))
          rw [decide_eq_true rfl]
          clear hx hy
          clear hb
          go_wp2_with fail
          refine (awake_s _).mono ?_
          rintro e w12 ⟨rfl, hb⟩
          have HB12 := Lib.hid (HB11.out.trans (hb.mono HB11.out.size))
          clear hb
          go_wp2_with fail
          go_ret
          exact ⟨rfl, HB12.out⟩

theorem lpicks_types : ∀ t ∈ [22, 9, 9, 29], Try.prog.readableRec t = true ∧ t < Try.prog.types.size := by
  have h : ([22, 9, 9, 29].all fun t => Try.prog.readableRec t && decide (t < Try.prog.types.size)) = true := by kernel_rfl
  intro t ht
  have := List.all_eq_true.1 h t ht
  simpa using this

set_option maxRecDepth 100000 in
theorem lpicks_contract (H : Type) (enc : TypeId × Value → H) (W : World) (base : Nat) (args : Array Value) (ds gs : List (DataW H)) (before : List MemPlace)
    (hval : ∀ (j : Nat) t v, Try.f5.params[j]? = some t → args[j]? = some v → Value.okWide Try.prog W .any base t v)
    (hW : DataW.Whole enc Try.prog Try.f5.params.toList Rows.attrsPicksSpec.vars false W args.toList ds gs before)
    (hsz0 : (DataW.weightsEach Try.prog (Try.f5.params.toList ++ Rows.attrsPicksSpec.plain.varTypes Try.prog) (ds ++ gs)).all (· ≤ reachBytes) = true) :
    Calls Try.prog 5 args W fun e W' => ∃ v, e = .returned v ∧ Rows.attrsPicksSpec.post enc Try.prog Try.f5 false true false false W args v W' := by
  have hW' := hW
  obtain ⟨p, q, hA0, hV, rfl, hfz, hnd⟩ := hW
  have hA : DataW.TrodAll enc Try.prog W 0 (fun _ => true) true Try.f5.params.toList args.toList ds p := hA0
  obtain ⟨rfl, rfl⟩ := trodVars_none hV
  simp only [List.append_nil] at hW'
  have hlt : ∀ x ∈ p, x.block < W.heap.size := fun x hx => by simpa using hW'.lt x hx
  have fin : ∀ W', Below W.heap.size W W' → DataW.TrodAll enc Try.prog W' 0 (fun b => decide (b < W.heap.size)) true [22, 9, 9, 29] args.toList ds p := fun W' hb => by
    rw [Try.params5] at hA
    exact trodAll_below hb _ _ _ _ lpicks_types hA hlt
  clear hA0
  rw [Try.params5] at hA hval hsz0
  rw [show Rows.attrsPicksSpec.plain.varTypes Try.prog = [] from rfl, List.append_nil, List.append_nil] at hsz0
  obtain ⟨v0, vs0, d0, ds0, p0, q0, hargs, rfl, hp0, h0, r0⟩ := trodAll_cons hA
  obtain ⟨v1, vs1, d1, ds1, p1, q1, rfl, rfl, hp1, h1, r1⟩ := trodAll_cons r0
  obtain ⟨v2, vs2, d2, ds2, p2, q2, rfl, rfl, hp2, h2, r2⟩ := trodAll_cons r1
  obtain ⟨v3, vs3, d3, ds3, p3, q3, rfl, rfl, hp3, h3, r3⟩ := trodAll_cons r2
  obtain ⟨rfl, rfl, rfl⟩ := trodAll_nil r3
  obtain rfl : args = #[v0, v1, v2, v3] := by cases args; simp_all
  have hsz : (DataW.weightsEach Try.prog [22, 9, 9, 29] [d0, d1, d2, d3]).all (fun x => decide (x ≤ reachBytes)) = true := by simpa using hsz0
  clear hsz0
  obtain ⟨l, ln, lc, ll, rfl, hs0, hr0⟩ := open_attrsR (hval 0 22 v0 rfl rfl) h0 (fun n hn => by have := List.all_eq_true.1 hsz n (DataW.weights_mem_each (j := 0) (t := 22) rfl rfl n hn); exact of_decide_eq_true this)
  obtain ⟨nam, rfl, rfl, rfl, hs1⟩ := open_string Try.underlying9 (hval 1 9 v1 rfl rfl) h1
  obtain ⟨val, rfl, rfl, rfl, hs2⟩ := open_string Try.underlying9 (hval 2 9 v2 rfl rfl) h2
  obtain ⟨ns, nsn, nsc, nsl, rfl, hs3, hr3⟩ := open_strsR (hval 3 29 v3 rfl rfl) h3 (fun n hn => by have := List.all_eq_true.1 hsz n (DataW.weights_mem_each (j := 3) (t := 29) rfl rfl n hn); exact of_decide_eq_true this)
  refine (lpicks_s l ln lc ll nam val ns nsn nsc nsl W hs0 hr0 hs1 hs2 hs3 hr3).mono fun e W' ⟨he, hb⟩ => ?_
  subst he
  exact ⟨_, rfl, _, _, _, [], p, [], hW', trodAll_mk1 (shut_bool Try.underlying4 _), fin W' hb, rfl, hb.frame _, fun h => by cases h⟩

set_option maxRecDepth 100000 in
theorem lpicks_lifted (os : Os) (started : os.Started) (H : Type) (enc : TypeId × Value → H) :
    ReturnsInHanded {} Try.checked os 5 .any (Rows.attrsPicksSpec.pre6 enc Try.prog Try.f5 Rows.attrsPicksRow.domain false) (Rows.attrsPicksSpec.post enc Try.prog Try.f5 false true false false) := by
  refine returnsInHanded_of_change_sized (C := Try.checked) own started (by kernel_rfl) Try.func5
    (ChangeSpec.witness6 (enc := enc) (C := Try.checked) false ⟨#[], #[.slice none 0 0, .string ⟨#[]⟩, .string ⟨#[]⟩, .slice none 0 0], []⟩ 8 (by kernel_rfl) (by kernel_rfl) (by kernel_rfl) (by kernel_rfl)) ?_
  intro W base args ds gs before hval hW _ hsz _
  exact lpicks_contract H enc W base args ds gs before hval hW hsz

set_option maxRecDepth 100000 in
/-- THE STATEMENT -/
theorem lpicks_said : Rows.AttrsPicksSaid :=
  OpenClaim.holds_of_wide 5 Try.f5 rfl rfl rfl rfl rfl rfl rfl ⟨rfl, rfl, rfl, rfl, rfl⟩ rfl rfl rfl rfl rfl (by kernel_rfl) Try.func5 (by kernel_rfl)
    (of_decide_eq_true (by kernel_rfl)) (by unfold Func.isWrapper; first | (rw [if_pos (by decide +kernel)]; kernel_rfl) | (rw [if_neg (by decide +kernel)]; exact ⟨rfl, rfl⟩))
    (fun os started H enc _ => lpicks_lifted os started H enc)
end Go.Proofs.Ytahpocpagidahaa
