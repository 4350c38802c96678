/-
  Proved: identitylaw23.OtpRecovers returns true for all arguments (the tied card). No condition beyond the row's own.
-/
import Derived.Test.YtmkcojgdhdmnnaaDoorOtpLaws
import Derived.Deep.RegionHeld3
set_option linter.unusedVariables false
set_option linter.unusedSimpArgs false
set_option linter.unnecessarySimpa false
namespace Go.Proofs.YtmkcojgdhdmnnaaDoor
open Go.ChangeShapes Go.WideShapes Go.ChangeAt Go.RowKit Go.PlainAid
open Go.ChangeMaps (open_string shut_string)

theorem redR_len2 (l : List ByteArray) (c : ByteArray) : (redR l c).1.length ≤ l.length := by
  rcases ix_cases l c with ⟨_, _, h⟩ | ⟨k, hk, _, h⟩
  · rw [h]; exact Nat.zero_le _
  · rw [h]; show (l.take k ++ l.drop (k + 1)).length ≤ _; rw [List.length_append, List.length_take, List.length_drop]; omega
set_option maxRecDepth 100000 in
set_option maxHeartbeats 16000000 in
theorem otrecovers_s (sec : ByteArray) (nn : Int) (cs : Option Addr) (csn csc : Nat) (csl : List ByteArray) (w : World) (hnn : (Lit.int .i64 nn).wf = true) (hcs : StrsAt w cs csn csc csl) (ho : PowOk w) :
    Calls Tryd.prog 5 #[.string sec, .int .i64 nn, .slice cs csn csc] w fun e w' => e = .returned (.bool true) ∧ Below w.heap.size w w' := by
  have HO := Lib.hid ho
  clear ho
  obtain ⟨b0, b1⟩ := int_range hnn
  clear hnn
  have hl := hcs.1
  have hlc := hcs.2.1
  have hcm := hcs.2.2.1
  unfold maxLen at hcm
  have hln := hl
  clear hl
  have HC := Lib.hid hcs
  clear hcs
  by_cases h1 : 300 < sec.size
  · have d1 : (300 : Int) < (sec.size : Int) := by omega
    go_enter Tryd.func5, Tryd.ntmps5
    go_wp2_with fail
    refine (alive_s _ HO.out).mono ?_
    rintro e w1 ⟨rfl, hb⟩
    go_wp2_with fail
    go_ret
    exact ⟨rfl, hb⟩
  · have d1 : ¬ (300 : Int) < (sec.size : Int) := by omega
    cases hs : shB csl
    · have HS := Lib.hid hs
      clear hs
      go_enter Tryd.func5, Tryd.ntmps5
      go_wp2_with fail
      refine (short_k cs _ csc csl false _ HC.out HS.out).mono ?_
      rintro e w' ⟨rfl, rfl⟩
      go_wp2_with fail
      refine (alive_s _ HO.out).mono ?_
      rintro e w1 ⟨rfl, hb⟩
      go_wp2_with fail
      go_ret
      exact ⟨rfl, hb⟩
    · have HS := Lib.hid hs
      have hl20 := (shB_len hs).1
      have hn20 : csn ≤ 20 := by omega
      clear hs
      obtain ⟨⟨L, z⟩, hr⟩ : ∃ p, recR sec nn = p := ⟨_, rfl⟩
      have HR := Lib.hid hr
      clear hr
      have e1 := beq_i z
      have HB := Lib.hid (Below.refl w.heap.size w)
      by_cases h0 : 0 < csn
      · obtain ⟨m, rfl⟩ : ∃ m, csn = m + 1 := ⟨csn - 1, by omega⟩
        have d2 : (0 : Int) < (m : Int) + 1 := by omega
        obtain ⟨c, hc⟩ : ∃ c, partAt csl m = c := ⟨_, rfl⟩
        obtain ⟨⟨D, y⟩, hd⟩ : ∃ p, redR csl c = p := ⟨_, rfl⟩
        have hDl : D.length ≤ 20 := by have := redR_len2 csl c; rw [hd] at this; dsimp only at this; omega
        have HD := Lib.hid hd
        have HP := Lib.hid hc
        have e2 := beq_i y
        have HM := Lib.hid hln
        clear hd hc hln
        go_enter Tryd.func5, Tryd.ntmps5
        go_wp2_with fail
        refine (short_k cs _ csc csl true _ HC.out HS.out).mono ?_
        rintro e w' ⟨rfl, rfl⟩
        go_wp2_with fail
        refine (recovery_k sec nn L z _ (by omega) b0 b1 (HO.out.below HB.out) HR.out).mono ?_
        rintro e wc1 ⟨ao, ac, rfl, hat, hb⟩
        have HA := Lib.hid hat
        have HB := Lib.hid (HB.out.trans (hb.mono HB.out.size))
        clear hb
        go_wp2_with fail
        refine (rrecovery_k sec nn L z _ (by omega) b0 b1 HR.out).mono ?_
        rintro e wc2 ⟨bo, bc, rfl, hat, hb⟩
        have HA := Lib.hid (HA.out.below hb)
        have HA2 := Lib.hid hat
        have HB := Lib.hid (HB.out.trans (hb.mono HB.out.size))
        clear hb
        go_wp2_with fail
        obtain ⟨b, off, rfl, _, hcell⟩ := HC.out.at h0
        have cm := hcell _ HB.out m (by omega)
        have kI : (m : Int) < (m : Int) + 1 := by omega
        rw [HP.out] at cm
        clear hcell
        go_wp2_with fail
        go_simp
        go_wp2_with fail
        clear cm
        refine (redeem_k _ _ csc csl c D y _ (HC.out.below HB.out) (by omega) HD.out).mono ?_
        rintro e wc3 ⟨co, cc, rfl, hat, hb⟩
        have HA := Lib.hid (HA.out.below hb)
        have HA2 := Lib.hid (HA2.out.below hb)
        have HA3 := Lib.hid hat
        have HB := Lib.hid (HB.out.trans (hb.mono HB.out.size))
        clear hb
        go_wp2_with fail
        refine (rredeem_k _ _ csc csl c D y _ (HC.out.below HB.out) (by omega) HD.out).mono ?_
        rintro e wc4 ⟨eo, dc, rfl, hat, hb⟩
        have HA := Lib.hid (HA.out.below hb)
        have HA2 := Lib.hid (HA2.out.below hb)
        have HA3 := Lib.hid (HA3.out.below hb)
        have HA4 := Lib.hid hat
        have HB := Lib.hid (HB.out.trans (hb.mono HB.out.size))
        clear hb
        go_wp2_with fail
        refine (lists_k ao bo _ _ ac bc L L true _ HA.out HA2.out (decide_eq_true rfl)).mono ?_
        rintro e wc5 ⟨rfl, hb⟩
        have HA3 := Lib.hid (HA3.out.below hb)
        have HA4 := Lib.hid (HA4.out.below hb)
        have HB := Lib.hid (HB.out.trans (hb.mono HB.out.size))
        clear hb
        go_wp2_with fail
        refine (lists_k co eo _ _ cc dc D D true _ HA3.out HA4.out (decide_eq_true rfl)).mono ?_
        rintro e wc6 ⟨rfl, hb⟩
        have HB := Lib.hid (HB.out.trans (hb.mono HB.out.size))
        clear hb
        go_wp2_with fail
        refine (alive_s _ (HO.out.below HB.out)).mono ?_
        rintro e wc7 ⟨rfl, hb⟩
        have HB := Lib.hid (HB.out.trans (hb.mono HB.out.size))
        clear hb
        go_wp2_with fail
        go_ret
        exact ⟨rfl, HB.out⟩
      · have d2 : ¬ (0 : Int) < (csn : Int) := by omega
        have HM := Lib.hid hln
        clear hln
        obtain ⟨⟨D, y⟩, hd⟩ : ∃ p, redR csl ⟨#[]⟩ = p := ⟨_, rfl⟩
        have HD := Lib.hid hd
        have e2 := beq_i y
        clear hd
        go_enter Tryd.func5, Tryd.ntmps5
        go_wp2_with fail
        refine (short_k cs _ csc csl true _ HC.out HS.out).mono ?_
        rintro e w' ⟨rfl, rfl⟩
        go_wp2_with fail
        refine (recovery_k sec nn L z _ (by omega) b0 b1 (HO.out.below HB.out) HR.out).mono ?_
        rintro e wc8 ⟨ao, ac, rfl, hat, hb⟩
        have HA := Lib.hid hat
        have HB := Lib.hid (HB.out.trans (hb.mono HB.out.size))
        clear hb
        go_wp2_with fail
        refine (rrecovery_k sec nn L z _ (by omega) b0 b1 HR.out).mono ?_
        rintro e wc9 ⟨bo, bc, rfl, hat, hb⟩
        have HA := Lib.hid (HA.out.below hb)
        have HA2 := Lib.hid hat
        have HB := Lib.hid (HB.out.trans (hb.mono HB.out.size))
        clear hb
        go_wp2_with fail
        refine (redeem_k _ _ csc csl ⟨#[]⟩ D y _ (HC.out.below HB.out) (by omega) HD.out).mono ?_
        rintro e wc10 ⟨co, cc, rfl, hat, hb⟩
        have HA := Lib.hid (HA.out.below hb)
        have HA2 := Lib.hid (HA2.out.below hb)
        have HA3 := Lib.hid hat
        have HB := Lib.hid (HB.out.trans (hb.mono HB.out.size))
        clear hb
        go_wp2_with fail
        refine (rredeem_k _ _ csc csl ⟨#[]⟩ D y _ (HC.out.below HB.out) (by omega) HD.out).mono ?_
        rintro e wc11 ⟨eo, dc, rfl, hat, hb⟩
        have HA := Lib.hid (HA.out.below hb)
        have HA2 := Lib.hid (HA2.out.below hb)
        have HA3 := Lib.hid (HA3.out.below hb)
        have HA4 := Lib.hid hat
        have HB := Lib.hid (HB.out.trans (hb.mono HB.out.size))
        clear hb
        go_wp2_with fail
        refine (lists_k ao bo _ _ ac bc L L true _ HA.out HA2.out (decide_eq_true rfl)).mono ?_
        rintro e wc12 ⟨rfl, hb⟩
        have HA3 := Lib.hid (HA3.out.below hb)
        have HA4 := Lib.hid (HA4.out.below hb)
        have HB := Lib.hid (HB.out.trans (hb.mono HB.out.size))
        clear hb
        go_wp2_with fail
        refine (lists_k co eo _ _ cc dc D D true _ HA3.out HA4.out (decide_eq_true rfl)).mono ?_
        rintro e wc13 ⟨rfl, hb⟩
        have HB := Lib.hid (HB.out.trans (hb.mono HB.out.size))
        clear hb
        go_wp2_with fail
        refine (alive_s _ (HO.out.below HB.out)).mono ?_
        rintro e wc14 ⟨rfl, hb⟩
        have HB := Lib.hid (HB.out.trans (hb.mono HB.out.size))
        clear hb
        go_wp2_with fail
        go_ret
        exact ⟨rfl, HB.out⟩

theorem otrecovers_types : ∀ t ∈ [9, 3, 35], Tryd.prog.readableRec t = true ∧ t < Tryd.prog.types.size := by
  have h : ([9, 3, 35].all fun t => Tryd.prog.readableRec t && decide (t < Tryd.prog.types.size)) = true := by kernel_rfl
  intro t ht
  have := List.all_eq_true.1 h t ht
  simpa using this

set_option maxRecDepth 100000 in
theorem otrecovers_contract (H : Type) (enc : TypeId × Value → H) (W : World) (base : Nat) (args : Array Value) (ds gs : List (DataW H)) (before : List MemPlace)
    (hval : ∀ (j : Nat) t v, Tryd.f5.params[j]? = some t → args[j]? = some v → Value.okWide Tryd.prog W .any base t v)
    (hW : DataW.Whole enc Tryd.prog Tryd.f5.params.toList Rows.otpRecoversSpec.vars false W args.toList ds gs before) (hL : laidMetH Tryd.prog Rows.otpRecoversRow.laid W) (hsh : W.ShapedOpen Tryd.prog) :
    Calls Tryd.prog 5 args W fun e W' => ∃ v, e = .returned v ∧ Rows.otpRecoversSpec.post enc Tryd.prog Tryd.f5 false true false false W args v W' := by
  have hW' := hW
  obtain ⟨p, q, hA0, hV, rfl, hfz, hnd⟩ := hW
  have hA : DataW.TrodAll enc Tryd.prog W 0 (fun _ => true) true Tryd.f5.params.toList args.toList ds p := hA0
  obtain ⟨rfl, rfl⟩ := trodVars_none hV
  simp only [List.append_nil] at hW'
  have hlt : ∀ x ∈ p, x.block < W.heap.size := fun x hx => by simpa using hW'.lt x hx
  have fin : ∀ W', Below W.heap.size W W' → DataW.TrodAll enc Tryd.prog W' 0 (fun b => decide (b < W.heap.size)) true [9, 3, 35] args.toList ds p := fun W' hb => by
    rw [Tryd.params5] at hA
    exact trodAll_below hb _ _ _ _ otrecovers_types hA hlt
  clear hA0
  rw [Tryd.params5] at hA hval
  obtain ⟨v0, vs0, d0, ds0, p0, q0, hargs, rfl, hp0, h0, r0⟩ := trodAll_cons hA
  obtain ⟨v1, vs1, d1, ds1, p1, q1, rfl, rfl, hp1, h1, r1⟩ := trodAll_cons r0
  obtain ⟨v2, vs2, d2, ds2, p2, q2, rfl, rfl, hp2, h2, r2⟩ := trodAll_cons r1
  obtain ⟨rfl, rfl, rfl⟩ := trodAll_nil r2
  obtain rfl : args = #[v0, v1, v2] := by cases args; simp_all
  obtain ⟨sec, rfl, rfl, rfl, hs0⟩ := open_string Tryd.underlying9 (hval 0 9 v0 rfl rfl) h0
  obtain ⟨nn, rfl, rfl, rfl, hs1⟩ := open_int Tryd.underlying3 (hval 1 3 v1 rfl rfl) h1
  obtain ⟨cs, csn, csc, csl, rfl, hs2⟩ := open_strs (hval 2 35 v2 rfl rfl) h2
  refine (otrecovers_s sec nn cs csn csc csl W hs1 hs2 (pok hL)).mono fun e W' ⟨he, hb⟩ => ?_
  subst he
  exact ⟨_, rfl, _, _, _, [], p, [], hW', trodAll_mk1 (shut_bool Tryd.underlying4 _), fin W' hb, rfl, hb.frame _, fun h => by cases h⟩

set_option maxRecDepth 100000 in
theorem otrecovers_lifted (os : Os) (started : os.Started) (H : Type) (enc : TypeId × Value → H) (F : Stop.Interp) :
    ReturnsInHanded {} Tryd.checked os 5 .any ((OpenSpec.ofChange Rows.otpRecoversSpec).preRow enc Tryd.prog Tryd.f5 Rows.otpRecoversRow.domain false Rows.otpRecoversRow.laid) (((OpenSpec.ofChange Rows.otpRecoversSpec).at F).post enc Tryd.prog Tryd.f5 false true false false) := by
  refine returnsInHanded_of_row (C := Tryd.checked) (s := OpenSpec.ofChange Rows.otpRecoversSpec) own started (by kernel_rfl) Tryd.func5
    (witness_row (enc := enc) (C := Tryd.checked) false (World.laidAll Tryd.prog os Rows.otpRecoversRow.laid) #[.string ⟨#[]⟩, .int .i64 0, .slice none 0 0] (World.laidAll_os _ _ _)
      (World.shaped_of_ZipB (by kernel_rfl) (by kernel_rfl)) (by kernel_rfl)
      (OpenSpec.preRow_of_cond 8 (x := ([.lit (.string []), .lit (.int .i64 0), .nil], [], [])) (by kernel_rfl) (by kernel_rfl) (fun k hk => by cases hk) (by kernel_rfl)
        (by rw [MakeChecks.laidMetH_plain _ _ _ (by kernel_rfl)]; exact laidMet_laidAll _ (by kernel_rfl) (by kernel_rfl)))) ?_
  intro W base args ds gs before hval hW _ _ _ hL hsh _
  exact otrecovers_contract H enc W base args ds gs before hval hW hL hsh

set_option maxRecDepth 100000 in
theorem otrecovers_said : Rows.OtpRecoversSaid :=
  OpenClaim.holds_of_cond 5 Tryd.f5 rfl rfl rfl rfl rfl rfl rfl ⟨rfl, rfl, rfl, rfl, rfl⟩ rfl rfl rfl rfl rfl (by kernel_rfl) Tryd.func5 (by kernel_rfl)
    (of_decide_eq_true (by kernel_rfl)) (by unfold Func.isWrapper; first | (rw [if_pos (by decide +kernel)]; kernel_rfl) | (rw [if_neg (by decide +kernel)]; exact ⟨rfl, rfl⟩))
    (fun os started H enc _ F => by rw [OpenClaim.pre_eq_preRow]; exact otrecovers_lifted os started H enc F)

set_option maxRecDepth 100000 in
theorem otrecovers_plain (f : FuncId) (fn : Func) (hf : Tryd.pinned.checked.prog.funcNamed "identity/identitylaw23.OtpRecovers" = some f) (hfn : Tryd.pinned.checked.prog.funcs[f]? = some fn) :
    false = Tryd.pinned.checked.prog.looks [] ∧ ∀ (j : Nat) t, fn.params[j]? = some t → Tryd.pinned.checked.prog.wantsStandIn t = false := by
  obtain rfl : f = 5 := Option.some.inj ((show Tryd.prog.funcNamed "identity/identitylaw23.OtpRecovers" = some 5 by kernel_rfl).symm.trans hf) |>.symm
  obtain rfl : fn = Tryd.f5 := (Option.some.inj (Tryd.func5.symm.trans hfn)).symm
  refine ⟨by kernel_rfl, fun j t ht => ?_⟩
  rw [Tryd.params5] at ht
  have hm : t ∈ [9, 3, 35] := by simpa using Array.mem_of_getElem? ht
  have hall : ([9, 3, 35].all fun u => !Tryd.prog.wantsStandIn u) = true := by kernel_rfl
  exact (show Tryd.prog.wantsStandIn t = false by simpa using List.all_eq_true.1 hall t hm)

/-- THE CARD -/
theorem otrecovers_card : Rows.OtpRecoversCardSaid :=
  Claim7.holds_tied_plain_at .later [] _ _ _ _ otrecovers_said (fun _ h => by cases h) (by kernel_rfl) (fun _ h => by cases h) otpRecovers_row_tie rfl ⟨rfl, rfl⟩ (by kernel_rfl) rfl otrecovers_plain (by kernel_rfl)
end Go.Proofs.YtmkcojgdhdmnnaaDoor
