/-
  attrs.Sorted and Equal return the specified results, for every two lists of attributes. No condition.
-/
import Derived.Test.YtahpocpagidahaaAttG4
set_option linter.unusedVariables false
set_option linter.unusedSimpArgs false
set_option linter.unnecessarySimpa false
namespace Go.Proofs.Ytahpocpagidahaa
open Go.ChangeShapes Go.WideShapes Go.ChangeAt Go.RowKit Go.PlainAid
open Go.ChangeMaps (open_string shut_string)

set_option maxRecDepth 100000 in
set_option maxHeartbeats 16000000 in
theorem lsorts_s (a : Option Addr) (an ac : Nat) (al : List At) (b : Option Addr) (bn bc : Nat) (bl : List At) (W : World) (Ha : AttrsAt W a an ac al) (Ra : RA al) (Hb : AttrsAt W b bn bc bl) (Rb : RA bl) :
    Calls Try.prog 4 #[.slice a an ac, .slice b bn bc] W fun e w' => e = .returned (.bool true) ∧ Below W.heap.size W w' := by
  go_enter Try.func4, Try.ntmps4
  have HB0 := Lib.hid (Below.refl W.heap.size W)
  go_wp2_with fail
  refine (short_s _ _ _ _ W Ha Ra).mono ?_
  rintro e wg ⟨⟨b, rfl, hga, hw⟩⟩
  obtain rfl : W = wg := hw.symm
  clear hw
  cases b with
  | false =>
    go_wp2_with fail
    refine (awake_s _).mono ?_
    rintro e w1 ⟨rfl, hb⟩
    have HB1 := Lib.hid (HB0.out.trans (hb.mono HB0.out.size))
    clear hb
    go_wp2_with fail
    go_ret
    exact ⟨rfl, HB1.out⟩
  | true =>
    have Ga := Lib.hid (hga rfl)
    clear hga
    go_wp2_with fail
    refine (short_s _ _ _ _ W Hb Rb).mono ?_
    rintro e wg ⟨⟨b, rfl, hgb, hw⟩⟩
    obtain rfl : W = wg := hw.symm
    clear hw
    cases b with
    | false =>
      go_wp2_with fail
      refine (awake_s _).mono ?_
      rintro e w1 ⟨rfl, hb⟩
      have HB1 := Lib.hid (HB0.out.trans (hb.mono HB0.out.size))
      clear hb
      go_wp2_with fail
      go_ret
      exact ⟨rfl, HB1.out⟩
    | true =>
      have Gb := Lib.hid (hgb rfl)
      clear hgb
      go_wp2_with fail
      refine (sortR_s a an ac al W (Ha.below HB0.out) Ga.out.few).mono ?_
      rintro e w1 ⟨v1, rfl, ⟨xo, xn, xc, rfl, hx⟩, hb⟩
      have HB1 := Lib.hid (HB0.out.trans (hb.mono HB0.out.size))
      clear hb
      go_wp2_with fail
      refine (rsortR_s a an ac al _ (Ha.below HB1.out) Ga.out.few).mono ?_
      rintro e w2 ⟨v2, rfl, ⟨yo, yn, yc, rfl, hy⟩, hb⟩
      have HB2 := Lib.hid (HB1.out.trans (hb.mono HB1.out.size))
      have hx := hx.below hb
      clear hb
      go_wp2_with fail
      refine (rsame_s xo yo xn yn xc yc _ _ _ hx hy).mono ?_
      rintro e w3 ⟨rfl, hb⟩
      have HB3 := Lib.hid (HB2.out.trans (hb.mono HB2.out.size))
      rw [decide_eq_true rfl]
      clear hx hy
      obtain ⟨z, hz⟩ : ∃ x, decide (nf al = nf bl) = x := ⟨_, rfl⟩
      have HZ := Lib.hid hz
      clear hz
      clear hb
      go_wp2_with fail
      refine (equal_s a b an bn ac bc al bl _ (Ha.below HB3.out) (Hb.below HB3.out) Ga.out.few Gb.out.few).mono ?_
      rintro e w4 ⟨rfl, hb⟩
      have HB4 := Lib.hid (HB3.out.trans (hb.mono HB3.out.size))
      rw [HZ.out]
      clear hb
      go_wp2_with fail
      refine (requal_s a b an bn ac bc al bl _ (Ha.below HB4.out) (Hb.below HB4.out) Ga.out.few Gb.out.few).mono ?_
      rintro e w5 ⟨rfl, hb⟩
      have HB5 := Lib.hid (HB4.out.trans (hb.mono HB4.out.size))
      rw [HZ.out]
      clear hb
      go_wp2_with fail
      refine (awake_s _).mono ?_
      rintro e w6 ⟨rfl, hb⟩
      have HB6 := Lib.hid (HB5.out.trans (hb.mono HB5.out.size))
      clear hb
      go_wp2_with fail
      go_ret
      exact ⟨rfl, HB6.out⟩

theorem lsorts_types : ∀ t ∈ [22, 22], Try.prog.readableRec t = true ∧ t < Try.prog.types.size := by
  have h : ([22, 22].all fun t => Try.prog.readableRec t && decide (t < Try.prog.types.size)) = true := by kernel_rfl
  intro t ht
  have := List.all_eq_true.1 h t ht
  simpa using this

set_option maxRecDepth 100000 in
theorem lsorts_contract (H : Type) (enc : TypeId × Value → H) (W : World) (base : Nat) (args : Array Value) (ds gs : List (DataW H)) (before : List MemPlace)
    (hval : ∀ (j : Nat) t v, Try.f4.params[j]? = some t → args[j]? = some v → Value.okWide Try.prog W .any base t v)
    (hW : DataW.Whole enc Try.prog Try.f4.params.toList Rows.attrsSortsSpec.vars false W args.toList ds gs before)
    (hsz0 : (DataW.weightsEach Try.prog (Try.f4.params.toList ++ Rows.attrsSortsSpec.plain.varTypes Try.prog) (ds ++ gs)).all (· ≤ reachBytes) = true) :
    Calls Try.prog 4 args W fun e W' => ∃ v, e = .returned v ∧ Rows.attrsSortsSpec.post enc Try.prog Try.f4 false true false false W args v W' := by
  have hW' := hW
  obtain ⟨p, q, hA0, hV, rfl, hfz, hnd⟩ := hW
  have hA : DataW.TrodAll enc Try.prog W 0 (fun _ => true) true Try.f4.params.toList args.toList ds p := hA0
  obtain ⟨rfl, rfl⟩ := trodVars_none hV
  simp only [List.append_nil] at hW'
  have hlt : ∀ x ∈ p, x.block < W.heap.size := fun x hx => by simpa using hW'.lt x hx
  have fin : ∀ W', Below W.heap.size W W' → DataW.TrodAll enc Try.prog W' 0 (fun b => decide (b < W.heap.size)) true [22, 22] args.toList ds p := fun W' hb => by
    rw [Try.params4] at hA
    exact trodAll_below hb _ _ _ _ lsorts_types hA hlt
  clear hA0
  rw [Try.params4] at hA hval hsz0
  rw [show Rows.attrsSortsSpec.plain.varTypes Try.prog = [] from rfl, List.append_nil, List.append_nil] at hsz0
  obtain ⟨v0, vs0, d0, ds0, p0, q0, hargs, rfl, hp0, h0, r0⟩ := trodAll_cons hA
  obtain ⟨v1, vs1, d1, ds1, p1, q1, rfl, rfl, hp1, h1, r1⟩ := trodAll_cons r0
  obtain ⟨rfl, rfl, rfl⟩ := trodAll_nil r1
  obtain rfl : args = #[v0, v1] := by cases args; simp_all
  have hsz : (DataW.weightsEach Try.prog [22, 22] [d0, d1]).all (fun x => decide (x ≤ reachBytes)) = true := by simpa using hsz0
  clear hsz0
  obtain ⟨a, an, ac, al, rfl, hs0, hr0⟩ := open_attrsR (hval 0 22 v0 rfl rfl) h0 (fun n hn => by have := List.all_eq_true.1 hsz n (DataW.weights_mem_each (j := 0) (t := 22) rfl rfl n hn); exact of_decide_eq_true this)
  obtain ⟨b, bn, bc, bl, rfl, hs1, hr1⟩ := open_attrsR (hval 1 22 v1 rfl rfl) h1 (fun n hn => by have := List.all_eq_true.1 hsz n (DataW.weights_mem_each (j := 1) (t := 22) rfl rfl n hn); exact of_decide_eq_true this)
  refine (lsorts_s a an ac al b bn bc bl W hs0 hr0 hs1 hr1).mono fun e W' ⟨he, hb⟩ => ?_
  subst he
  exact ⟨_, rfl, _, _, _, [], p, [], hW', trodAll_mk1 (shut_bool Try.underlying4 _), fin W' hb, rfl, hb.frame _, fun h => by cases h⟩

set_option maxRecDepth 100000 in
theorem lsorts_lifted (os : Os) (started : os.Started) (H : Type) (enc : TypeId × Value → H) :
    ReturnsInHanded {} Try.checked os 4 .any (Rows.attrsSortsSpec.pre6 enc Try.prog Try.f4 Rows.attrsSortsRow.domain false) (Rows.attrsSortsSpec.post enc Try.prog Try.f4 false true false false) := by
  refine returnsInHanded_of_change_sized (C := Try.checked) own started (by kernel_rfl) Try.func4
    (ChangeSpec.witness6 (enc := enc) (C := Try.checked) false ⟨#[], #[.slice none 0 0, .slice none 0 0], []⟩ 8 (by kernel_rfl) (by kernel_rfl) (by kernel_rfl) (by kernel_rfl)) ?_
  intro W base args ds gs before hval hW _ hsz _
  exact lsorts_contract H enc W base args ds gs before hval hW hsz

set_option maxRecDepth 100000 in
/-- THE STATEMENT -/
theorem lsorts_said : Rows.AttrsSortsSaid :=
  OpenClaim.holds_of_wide 4 Try.f4 rfl rfl rfl rfl rfl rfl rfl ⟨rfl, rfl, rfl, rfl, rfl⟩ rfl rfl rfl rfl rfl (by kernel_rfl) Try.func4 (by kernel_rfl)
    (of_decide_eq_true (by kernel_rfl)) (by unfold Func.isWrapper; first | (rw [if_pos (by decide +kernel)]; kernel_rfl) | (rw [if_neg (by decide +kernel)]; exact ⟨rfl, rfl⟩))
    (fun os started H enc _ => lsorts_lifted os started H enc)
end Go.Proofs.Ytahpocpagidahaa
