/-
  Proved: identitylaw05.NameGroups returns true for every four strings (the tied card). No condition beyond the row's own.
-/
import Derived.Test.YtdjhhofmlefaaaaDoorNamLaws
set_option linter.unusedVariables false
set_option linter.unusedSimpArgs false
set_option linter.unnecessarySimpa false
namespace Go.Proofs.YtdjhhofmlefaaaaDoor
open Go.ChangeShapes Go.WideShapes Go.ChangeAt Go.RowKit Go.PlainAid
open Go.ChangeMaps (open_string shut_string)

set_option maxRecDepth 100000 in
set_option maxHeartbeats 4000000 in
theorem groups_s (a b c d : ByteArray) (w : World) :
    Calls Tryd.prog 10 #[.string a, .string b, .string c, .string d] w fun e w' => e = .returned (.bool true) ∧ Below w.heap.size w w' := by
  have B0 := Below.refl w.heap.size w
  by_cases h1 : 300 < a.size
  · skip
    go_enter Tryd.func10, Tryd.ntmps10
    go_wp2_with fail
    refine (long_yes a _ h1).mono ?_
    rintro e w' ⟨rfl, rfl⟩
    go_wp2_with fail
    refine (live_s _).mono ?_
    rintro e w1 ⟨rfl, hb⟩
    have B1 := below_next B0 hb
    clear hb
    go_wp2_with fail
    go_ret
    exact ⟨rfl, B1⟩
  by_cases h2 : 300 < b.size
  · skip
    go_enter Tryd.func10, Tryd.ntmps10
    go_wp2_with fail
    refine (long_no a _ h1).mono ?_
    rintro e w' ⟨rfl, rfl⟩
    go_wp2_with fail
    refine (long_yes b _ h2).mono ?_
    rintro e w' ⟨rfl, rfl⟩
    go_wp2_with fail
    refine (live_s _).mono ?_
    rintro e w1 ⟨rfl, hb⟩
    have B1 := below_next B0 hb
    clear hb
    go_wp2_with fail
    go_ret
    exact ⟨rfl, B1⟩
  by_cases h3 : 300 < c.size
  · skip
    go_enter Tryd.func10, Tryd.ntmps10
    go_wp2_with fail
    refine (long_no a _ h1).mono ?_
    rintro e w' ⟨rfl, rfl⟩
    go_wp2_with fail
    refine (long_no b _ h2).mono ?_
    rintro e w' ⟨rfl, rfl⟩
    go_wp2_with fail
    refine (long_yes c _ h3).mono ?_
    rintro e w' ⟨rfl, rfl⟩
    go_wp2_with fail
    refine (live_s _).mono ?_
    rintro e w1 ⟨rfl, hb⟩
    have B1 := below_next B0 hb
    clear hb
    go_wp2_with fail
    go_ret
    exact ⟨rfl, B1⟩
  by_cases h4 : 300 < d.size
  · skip
    go_enter Tryd.func10, Tryd.ntmps10
    go_wp2_with fail
    refine (long_no a _ h1).mono ?_
    rintro e w' ⟨rfl, rfl⟩
    go_wp2_with fail
    refine (long_no b _ h2).mono ?_
    rintro e w' ⟨rfl, rfl⟩
    go_wp2_with fail
    refine (long_no c _ h3).mono ?_
    rintro e w' ⟨rfl, rfl⟩
    go_wp2_with fail
    refine (long_yes d _ h4).mono ?_
    rintro e w' ⟨rfl, rfl⟩
    go_wp2_with fail
    refine (live_s _).mono ?_
    rintro e w1 ⟨rfl, hb⟩
    have B1 := below_next B0 hb
    clear hb
    go_wp2_with fail
    go_ret
    exact ⟨rfl, B1⟩
  obtain ⟨x, hx⟩ : ∃ z, cmpN a b = z := ⟨_, rfl⟩
  obtain ⟨y, hy⟩ : ∃ z, cmpN b c = z := ⟨_, rfl⟩
  have HX := Lib.hid hx
  have HY := Lib.hid hy
  clear hx hy
  cases k1 : underB a d
  · have H1 := Lib.hid k1
    clear k1
    go_enter Tryd.func10, Tryd.ntmps10
    go_wp2_with fail
    refine (long_no a _ h1).mono ?_
    rintro e w' ⟨rfl, rfl⟩
    go_wp2_with fail
    refine (long_no b _ h2).mono ?_
    rintro e w' ⟨rfl, rfl⟩
    go_wp2_with fail
    refine (long_no c _ h3).mono ?_
    rintro e w' ⟨rfl, rfl⟩
    go_wp2_with fail
    refine (long_no d _ h4).mono ?_
    rintro e w' ⟨rfl, rfl⟩
    go_wp2_with fail
    refine (under_k a d false _ (by omega) (by omega) H1.out).mono ?_
    rintro e w1 ⟨rfl, hb⟩
    have B1 := below_next B0 hb
    clear hb
    go_wp2_with fail
    refine (live_s _).mono ?_
    rintro e w2 ⟨rfl, hb⟩
    have B2 := below_next B1 hb
    clear hb
    go_wp2_with fail
    go_ret
    exact ⟨rfl, B2⟩
  have H1 := Lib.hid k1
  clear k1
  cases k2 : underB c d
  · have H2 := Lib.hid k2
    clear k2
    go_enter Tryd.func10, Tryd.ntmps10
    go_wp2_with fail
    refine (long_no a _ h1).mono ?_
    rintro e w' ⟨rfl, rfl⟩
    go_wp2_with fail
    refine (long_no b _ h2).mono ?_
    rintro e w' ⟨rfl, rfl⟩
    go_wp2_with fail
    refine (long_no c _ h3).mono ?_
    rintro e w' ⟨rfl, rfl⟩
    go_wp2_with fail
    refine (long_no d _ h4).mono ?_
    rintro e w' ⟨rfl, rfl⟩
    go_wp2_with fail
    refine (under_k a d true _ (by omega) (by omega) H1.out).mono ?_
    rintro e w1 ⟨rfl, hb⟩
    have B1 := below_next B0 hb
    clear hb
    go_wp2_with fail
    refine (under_k c d false _ (by omega) (by omega) H2.out).mono ?_
    rintro e w2 ⟨rfl, hb⟩
    have B2 := below_next B1 hb
    clear hb
    go_wp2_with fail
    refine (live_s _).mono ?_
    rintro e w3 ⟨rfl, hb⟩
    have B3 := below_next B2 hb
    clear hb
    go_wp2_with fail
    go_ret
    exact ⟨rfl, B3⟩
  have H2 := Lib.hid k2
  clear k2
  cases k3 : normB b
  · have H3 := Lib.hid k3
    clear k3
    go_enter Tryd.func10, Tryd.ntmps10
    go_wp2_with fail
    refine (long_no a _ h1).mono ?_
    rintro e w' ⟨rfl, rfl⟩
    go_wp2_with fail
    refine (long_no b _ h2).mono ?_
    rintro e w' ⟨rfl, rfl⟩
    go_wp2_with fail
    refine (long_no c _ h3).mono ?_
    rintro e w' ⟨rfl, rfl⟩
    go_wp2_with fail
    refine (long_no d _ h4).mono ?_
    rintro e w' ⟨rfl, rfl⟩
    go_wp2_with fail
    refine (under_k a d true _ (by omega) (by omega) H1.out).mono ?_
    rintro e w1 ⟨rfl, hb⟩
    have B1 := below_next B0 hb
    clear hb
    go_wp2_with fail
    refine (under_k c d true _ (by omega) (by omega) H2.out).mono ?_
    rintro e w2 ⟨rfl, hb⟩
    have B2 := below_next B1 hb
    clear hb
    go_wp2_with fail
    refine (valid_k b false _ (by omega) H3.out).mono ?_
    rintro e w3 ⟨rfl, hb⟩
    have B3 := below_next B2 hb
    clear hb
    go_wp2_with fail
    refine (live_s _).mono ?_
    rintro e w4 ⟨rfl, hb⟩
    have B4 := below_next B3 hb
    clear hb
    go_wp2_with fail
    go_ret
    exact ⟨rfl, B4⟩
  have H3 := Lib.hid k3
  clear k3
  by_cases k4 : 0 < x
  · have q : decide (0 < x) = true := decide_eq_true k4
    go_enter Tryd.func10, Tryd.ntmps10
    go_wp2_with fail
    refine (long_no a _ h1).mono ?_
    rintro e w' ⟨rfl, rfl⟩
    go_wp2_with fail
    refine (long_no b _ h2).mono ?_
    rintro e w' ⟨rfl, rfl⟩
    go_wp2_with fail
    refine (long_no c _ h3).mono ?_
    rintro e w' ⟨rfl, rfl⟩
    go_wp2_with fail
    refine (long_no d _ h4).mono ?_
    rintro e w' ⟨rfl, rfl⟩
    go_wp2_with fail
    refine (under_k a d true _ (by omega) (by omega) H1.out).mono ?_
    rintro e w1 ⟨rfl, hb⟩
    have B1 := below_next B0 hb
    clear hb
    go_wp2_with fail
    refine (under_k c d true _ (by omega) (by omega) H2.out).mono ?_
    rintro e w2 ⟨rfl, hb⟩
    have B2 := below_next B1 hb
    clear hb
    go_wp2_with fail
    refine (valid_k b true _ (by omega) H3.out).mono ?_
    rintro e w3 ⟨rfl, hb⟩
    have B3 := below_next B2 hb
    clear hb
    go_wp2_with fail
    refine (compare_k a b x _ (by omega) (by omega) HX.out).mono ?_
    rintro e w4 ⟨rfl, hb⟩
    have B4 := below_next B3 hb
    clear hb
    go_wp2_with fail
    refine (live_s _).mono ?_
    rintro e w5 ⟨rfl, hb⟩
    have B5 := below_next B4 hb
    clear hb
    go_wp2_with fail
    go_ret
    exact ⟨rfl, B5⟩
  by_cases k5 : 0 < y
  · have q : decide (0 < x) = false := decide_eq_false k4
    have q2 : decide (0 < y) = true := decide_eq_true k5
    go_enter Tryd.func10, Tryd.ntmps10
    go_wp2_with fail
    refine (long_no a _ h1).mono ?_
    rintro e w' ⟨rfl, rfl⟩
    go_wp2_with fail
    refine (long_no b _ h2).mono ?_
    rintro e w' ⟨rfl, rfl⟩
    go_wp2_with fail
    refine (long_no c _ h3).mono ?_
    rintro e w' ⟨rfl, rfl⟩
    go_wp2_with fail
    refine (long_no d _ h4).mono ?_
    rintro e w' ⟨rfl, rfl⟩
    go_wp2_with fail
    refine (under_k a d true _ (by omega) (by omega) H1.out).mono ?_
    rintro e w1 ⟨rfl, hb⟩
    have B1 := below_next B0 hb
    clear hb
    go_wp2_with fail
    refine (under_k c d true _ (by omega) (by omega) H2.out).mono ?_
    rintro e w2 ⟨rfl, hb⟩
    have B2 := below_next B1 hb
    clear hb
    go_wp2_with fail
    refine (valid_k b true _ (by omega) H3.out).mono ?_
    rintro e w3 ⟨rfl, hb⟩
    have B3 := below_next B2 hb
    clear hb
    go_wp2_with fail
    refine (compare_k a b x _ (by omega) (by omega) HX.out).mono ?_
    rintro e w4 ⟨rfl, hb⟩
    have B4 := below_next B3 hb
    clear hb
    go_wp2_with fail
    refine (compare_k b c y _ (by omega) (by omega) HY.out).mono ?_
    rintro e w5 ⟨rfl, hb⟩
    have B5 := below_next B4 hb
    clear hb
    go_wp2_with fail
    refine (live_s _).mono ?_
    rintro e w6 ⟨rfl, hb⟩
    have B6 := below_next B5 hb
    clear hb
    go_wp2_with fail
    go_ret
    exact ⟨rfl, B6⟩
  have HB := Lib.hid (cmpN_between H1.out H2.out H3.out (by rw [HX.out]; omega) (by rw [HY.out]; omega))
  have q : decide (0 < x) = false := decide_eq_false k4
  have q2 : decide (0 < y) = false := decide_eq_false k5
  go_enter Tryd.func10, Tryd.ntmps10
  go_wp2_with fail
  refine (long_no a _ h1).mono ?_
  rintro e w' ⟨rfl, rfl⟩
  go_wp2_with fail
  refine (long_no b _ h2).mono ?_
  rintro e w' ⟨rfl, rfl⟩
  go_wp2_with fail
  refine (long_no c _ h3).mono ?_
  rintro e w' ⟨rfl, rfl⟩
  go_wp2_with fail
  refine (long_no d _ h4).mono ?_
  rintro e w' ⟨rfl, rfl⟩
  go_wp2_with fail
  refine (under_k a d true _ (by omega) (by omega) H1.out).mono ?_
  rintro e w1 ⟨rfl, hb⟩
  have B1 := below_next B0 hb
  clear hb
  go_wp2_with fail
  refine (under_k c d true _ (by omega) (by omega) H2.out).mono ?_
  rintro e w2 ⟨rfl, hb⟩
  have B2 := below_next B1 hb
  clear hb
  go_wp2_with fail
  refine (valid_k b true _ (by omega) H3.out).mono ?_
  rintro e w3 ⟨rfl, hb⟩
  have B3 := below_next B2 hb
  clear hb
  go_wp2_with fail
  refine (compare_k a b x _ (by omega) (by omega) HX.out).mono ?_
  rintro e w4 ⟨rfl, hb⟩
  have B4 := below_next B3 hb
  clear hb
  go_wp2_with fail
  refine (compare_k b c y _ (by omega) (by omega) HY.out).mono ?_
  rintro e w5 ⟨rfl, hb⟩
  have B5 := below_next B4 hb
  clear hb
  go_wp2_with fail
  refine (under_k b d true _ (by omega) (by omega) HB.out).mono ?_
  rintro e w6 ⟨rfl, hb⟩
  have B6 := below_next B5 hb
  clear hb
  go_wp2_with fail
  refine (live_s _).mono ?_
  rintro e w7 ⟨rfl, hb⟩
  have B7 := below_next B6 hb
  clear hb
  go_wp2_with fail
  go_ret
  exact ⟨rfl, B7⟩

theorem groups_types : ∀ t ∈ [9, 9, 9, 9], Tryd.prog.readableRec t = true ∧ t < Tryd.prog.types.size := by
  have h : ([9, 9, 9, 9].all fun t => Tryd.prog.readableRec t && decide (t < Tryd.prog.types.size)) = true := by kernel_rfl
  intro t ht
  have := List.all_eq_true.1 h t ht
  simpa using this

set_option maxRecDepth 100000 in
theorem groups_contract (H : Type) (enc : TypeId × Value → H) (W : World) (base : Nat) (args : Array Value) (ds gs : List (DataW H)) (before : List MemPlace)
    (hval : ∀ (j : Nat) t v, Tryd.f10.params[j]? = some t → args[j]? = some v → Value.okWide Tryd.prog W .any base t v)
    (hW : DataW.Whole enc Tryd.prog Tryd.f10.params.toList Rows.nameGroupsSpec.vars false W args.toList ds gs before) (hL : laidMetH Tryd.prog Rows.nameGroupsRow.laid W) (hsh : W.ShapedOpen Tryd.prog) :
    Calls Tryd.prog 10 args W fun e W' => ∃ v, e = .returned v ∧ Rows.nameGroupsSpec.post enc Tryd.prog Tryd.f10 false true false false W args v W' := by
  have hW' := hW
  obtain ⟨p, q, hA0, hV, rfl, hfz, hnd⟩ := hW
  have hA : DataW.TrodAll enc Tryd.prog W 0 (fun _ => true) true Tryd.f10.params.toList args.toList ds p := hA0
  obtain ⟨rfl, rfl⟩ := trodVars_none hV
  simp only [List.append_nil] at hW'
  have hlt : ∀ x ∈ p, x.block < W.heap.size := fun x hx => by simpa using hW'.lt x hx
  have fin : ∀ W', Below W.heap.size W W' → DataW.TrodAll enc Tryd.prog W' 0 (fun b => decide (b < W.heap.size)) true [9, 9, 9, 9] args.toList ds p := fun W' hb => by
    rw [Tryd.params10] at hA
    exact trodAll_below hb _ _ _ _ groups_types hA hlt
  clear hA0
  rw [Tryd.params10] at hA hval
  obtain ⟨v0, vs0, d0, ds0, p0, q0, hargs, rfl, hp0, h0, r0⟩ := trodAll_cons hA
  obtain ⟨v1, vs1, d1, ds1, p1, q1, rfl, rfl, hp1, h1, r1⟩ := trodAll_cons r0
  obtain ⟨v2, vs2, d2, ds2, p2, q2, rfl, rfl, hp2, h2, r2⟩ := trodAll_cons r1
  obtain ⟨v3, vs3, d3, ds3, p3, q3, rfl, rfl, hp3, h3, r3⟩ := trodAll_cons r2
  obtain ⟨rfl, rfl, rfl⟩ := trodAll_nil r3
  obtain rfl : args = #[v0, v1, v2, v3] := by cases args; simp_all
  obtain ⟨a, rfl, rfl, rfl, hs0⟩ := open_string Tryd.underlying9 (hval 0 9 v0 rfl rfl) h0
  obtain ⟨b, rfl, rfl, rfl, hs1⟩ := open_string Tryd.underlying9 (hval 1 9 v1 rfl rfl) h1
  obtain ⟨c, rfl, rfl, rfl, hs2⟩ := open_string Tryd.underlying9 (hval 2 9 v2 rfl rfl) h2
  obtain ⟨d, rfl, rfl, rfl, hs3⟩ := open_string Tryd.underlying9 (hval 3 9 v3 rfl rfl) h3
  refine (groups_s a b c d W  ).mono fun e W' ⟨he, hb⟩ => ?_
  subst he
  exact ⟨_, rfl, _, _, _, [], p, [], hW', trodAll_mk1 (shut_bool Tryd.underlying4 _), fin W' hb, rfl, hb.frame _, fun h => by cases h⟩

set_option maxRecDepth 100000 in
theorem groups_lifted (os : Os) (started : os.Started) (H : Type) (enc : TypeId × Value → H) (F : Stop.Interp) :
    ReturnsInHanded {} Tryd.checked os 10 .any ((OpenSpec.ofChange Rows.nameGroupsSpec).preRow enc Tryd.prog Tryd.f10 Rows.nameGroupsRow.domain false Rows.nameGroupsRow.laid) (((OpenSpec.ofChange Rows.nameGroupsSpec).at F).post enc Tryd.prog Tryd.f10 false true false false) := by
  refine returnsInHanded_of_row (C := Tryd.checked) (s := OpenSpec.ofChange Rows.nameGroupsSpec) own started (by kernel_rfl) Tryd.func10
    (witness_row (enc := enc) (C := Tryd.checked) false (World.laidAll Tryd.prog os Rows.nameGroupsRow.laid) #[.string ⟨#[]⟩, .string ⟨#[]⟩, .string ⟨#[]⟩, .string ⟨#[]⟩] (World.laidAll_os _ _ _)
      (World.shaped_of_ZipB (by kernel_rfl) (by kernel_rfl)) (by kernel_rfl)
      (OpenSpec.preRow_of_cond 8 (x := ([.lit (.string []), .lit (.string []), .lit (.string []), .lit (.string [])], [], [])) (by kernel_rfl) (by kernel_rfl) (fun k hk => by cases hk) (by kernel_rfl)
        (by rw [MakeChecks.laidMetH_plain _ _ _ (by kernel_rfl)]; exact laidMet_laidAll _ (by kernel_rfl) (by kernel_rfl)))) ?_
  intro W base args ds gs before hval hW _ _ _ hL hsh _
  exact groups_contract H enc W base args ds gs before hval hW hL hsh

set_option maxRecDepth 100000 in
theorem groups_said : Rows.NameGroupsSaid :=
  OpenClaim.holds_of_cond 10 Tryd.f10 rfl rfl rfl rfl rfl rfl rfl ⟨rfl, rfl, rfl, rfl, rfl⟩ rfl rfl rfl rfl rfl (by kernel_rfl) Tryd.func10 (by kernel_rfl)
    (of_decide_eq_true (by kernel_rfl)) (by unfold Func.isWrapper; first | (rw [if_pos (by decide +kernel)]; kernel_rfl) | (rw [if_neg (by decide +kernel)]; exact ⟨rfl, rfl⟩))
    (fun os started H enc _ F => by rw [OpenClaim.pre_eq_preRow]; exact groups_lifted os started H enc F)

set_option maxRecDepth 100000 in
theorem groups_plain (f : FuncId) (fn : Func) (hf : Tryd.pinned.checked.prog.funcNamed "identity/identitylaw05.NameGroups" = some f) (hfn : Tryd.pinned.checked.prog.funcs[f]? = some fn) :
    false = Tryd.pinned.checked.prog.looks [] ∧ ∀ (j : Nat) t, fn.params[j]? = some t → Tryd.pinned.checked.prog.wantsStandIn t = false := by
  obtain rfl : f = 10 := Option.some.inj ((show Tryd.prog.funcNamed "identity/identitylaw05.NameGroups" = some 10 by kernel_rfl).symm.trans hf) |>.symm
  obtain rfl : fn = Tryd.f10 := (Option.some.inj (Tryd.func10.symm.trans hfn)).symm
  refine ⟨by kernel_rfl, fun j t ht => ?_⟩
  rw [Tryd.params10] at ht
  have hm : t ∈ [9, 9, 9, 9] := by simpa using Array.mem_of_getElem? ht
  have hall : ([9, 9, 9, 9].all fun u => !Tryd.prog.wantsStandIn u) = true := by kernel_rfl
  exact (show Tryd.prog.wantsStandIn t = false by simpa using List.all_eq_true.1 hall t hm)

/-- THE CARD -/
theorem groups_card : Rows.NameGroupsCardSaid :=
  Claim7.holds_tied_plain_at .later [] _ _ _ _ groups_said (fun _ h => by cases h) (by kernel_rfl) (fun _ h => by cases h) nameGroups_row_tie rfl ⟨rfl, rfl⟩ (by kernel_rfl) rfl groups_plain (by kernel_rfl)
end Go.Proofs.YtdjhhofmlefaaaaDoor
