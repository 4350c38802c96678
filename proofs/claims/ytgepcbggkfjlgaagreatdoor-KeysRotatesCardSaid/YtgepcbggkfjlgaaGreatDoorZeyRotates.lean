/-
  Proved: identitylaw24.KeysRotates returns true for all arguments (the tied card). No condition beyond the row's own.
-/
import Derived.Deep.RegionHeld3
import Derived.Test.YtgepcbggkfjlgaaGreatDoorM16

section
/-
  Proved: identitylaw24.KeysRotates returns true for all arguments (the tied card). No condition beyond the row's own.
-/
set_option linter.unusedVariables false
set_option linter.unusedSimpArgs false
set_option linter.unnecessarySimpa false
namespace Go.Proofs.YtgepcbggkfjlgaaGreatDoor
open Go.ChangeShapes Go.WideShapes Go.ChangeAt Go.RowKit Go.PlainAid
open Go.ChangeMaps (open_string shut_string)

set_option maxRecDepth 100000 in
set_option maxHeartbeats 16000000 in
theorem krotates_s (l : Option Addr) (ln lc : Nat) (ll : List Ky) (id : ByteArray) (sec : ByteArray) (now : Int) (life : Int) (grace : Int) (w : World) (hl : KsAt w l ln lc ll) (il : ∀ g ∈ ll, InK g) (hnow : (Lit.int .i64 now).wf = true) (hlife : (Lit.int .i64 life).wf = true) (hgrace : (Lit.int .i64 grace).wf = true) (ho : WK w) :
    Calls Tryz.prog 5 #[.slice l ln lc, .string id, .string sec, .int .i64 now, .int .i64 life, .int .i64 grace] w fun e w' => e = .returned (.bool true) ∧ Below w.heap.size w w' := by
  have HO := Lib.hid ho
  have HK := Lib.hid hl
  have HB := Lib.hid (Below.refl w.heap.size w)
  have hlc := hl.2.1
  have hlm := hl.2.2.1
  unfold maxLen at hlm
  have HLn := Lib.hid hl.1
  clear ho
  cases hg : greatB ll 20
  · by_cases h1 : 300 < id.size
    · have HG := Lib.hid hg
      have d1 : (300 : Int) < (id.size : Int) := by omega
      clear hg hl h1
      go_enter Tryz.func5, Tryz.ntmps5
      go_wp2_with fail
      refine (great_k l ln lc ll 20 false _ HK.out HG.out).mono ?_
      rintro e w' ⟨rfl, rfl⟩
      go_wp2_with fail
      refine (live_s _ (HO.out.below HB.out)).mono ?_
      rintro e wc1 ⟨rfl, hb⟩
      have HB := Lib.hid (HB.out.trans (hb.mono HB.out.size))
      have HK := Lib.hid (HK.out.below hb)
      clear hb
      go_wp2_with fail
      go_ret
      exact ⟨rfl, HB.out⟩
    · have d1 : ¬ (300 : Int) < (id.size : Int) := by omega
      have d1' : decide ((300 : Int) < (id.size : Int)) = false := decide_eq_false d1
      by_cases h2 : 300 < sec.size
      · have HG := Lib.hid hg
        have d2 : (300 : Int) < (sec.size : Int) := by omega
        clear hg hl h1 h2
        go_enter Tryz.func5, Tryz.ntmps5
        go_wp2_with fail
        refine (great_k l ln lc ll 20 false _ HK.out HG.out).mono ?_
        rintro e w' ⟨rfl, rfl⟩
        go_wp2_with fail
        refine (live_s _ (HO.out.below HB.out)).mono ?_
        rintro e wc2 ⟨rfl, hb⟩
        have HB := Lib.hid (HB.out.trans (hb.mono HB.out.size))
        have HK := Lib.hid (HK.out.below hb)
        clear hb
        go_wp2_with fail
        go_ret
        exact ⟨rfl, HB.out⟩
      · have d2 : ¬ (300 : Int) < (sec.size : Int) := by omega
        have d2' : decide ((300 : Int) < (sec.size : Int)) = false := decide_eq_false d2
        have HS := Lib.hid (sm_of hg)
        obtain ⟨⟨m, z⟩, hz⟩ : ∃ p, rotK ll id sec now life grace = p := ⟨_, rfl⟩
        have HZ := Lib.hid hz
        have HG := Lib.hid hg
        have e1 := beq_i z
        have hi : id.size ≤ 1000000000 := by omega
        have hc : sec.size ≤ 1000000000 := by omega
        clear hz hg hl h1 h2
        go_enter Tryz.func5, Tryz.ntmps5
        go_wp2_with fail
        refine (great_k l ln lc ll 20 false _ HK.out HG.out).mono ?_
        rintro e w' ⟨rfl, rfl⟩
        go_wp2_with fail
        refine (rotate_k l ln lc ll m id sec now life grace z _ HK.out HS.out hi hc HZ.out).mono ?_
        rintro e wc3 ⟨mo, mc, rfl, hm, hb⟩
        have HB := Lib.hid (HB.out.trans (hb.mono HB.out.size))
        have HK := Lib.hid (HK.out.below hb)
        have HM := Lib.hid hm
        have hm1 := hm.2.1
        have hm2 := hm.2.2.1
        unfold maxLen at hm2
        clear hm
        clear hb
        go_wp2_with fail
        refine (rrotate_k l ln lc ll m id sec now life grace z _ HK.out HS.out hi hc HZ.out).mono ?_
        rintro e wc4 ⟨no, nc, rfl, hm, hb⟩
        have HB := Lib.hid (HB.out.trans (hb.mono HB.out.size))
        have HK := Lib.hid (HK.out.below hb)
        have HM := Lib.hid (HM.out.below hb)
        have HN := Lib.hid hm
        have hn1 := hm.2.1
        have hn2 := hm.2.2.1
        unfold maxLen at hn2
        clear hm
        clear hb
        go_wp2_with fail
        refine (same_k mo _ mc m no _ nc m true _ HM.out HN.out (decide_eq_true rfl)).mono ?_
        rintro e wc5 ⟨rfl, hb⟩
        have HB := Lib.hid (HB.out.trans (hb.mono HB.out.size))
        have HK := Lib.hid (HK.out.below hb)
        have HM := Lib.hid (HM.out.below hb)
        clear hb
        go_wp2_with fail
        refine (live_s _ (HO.out.below HB.out)).mono ?_
        rintro e wc6 ⟨rfl, hb⟩
        have HB := Lib.hid (HB.out.trans (hb.mono HB.out.size))
        have HK := Lib.hid (HK.out.below hb)
        have HM := Lib.hid (HM.out.below hb)
        clear hb
        go_wp2_with fail
        go_ret
        exact ⟨rfl, HB.out⟩
  · have HG := Lib.hid hg
    clear hg hl
    go_enter Tryz.func5, Tryz.ntmps5
    go_wp2_with fail
    refine (great_k l ln lc ll 20 true _ HK.out HG.out).mono ?_
    rintro e w' ⟨rfl, rfl⟩
    go_wp2_with fail
    refine (live_s _ (HO.out.below HB.out)).mono ?_
    rintro e wc7 ⟨rfl, hb⟩
    have HB := Lib.hid (HB.out.trans (hb.mono HB.out.size))
    have HK := Lib.hid (HK.out.below hb)
    clear hb
    go_wp2_with fail
    go_ret
    exact ⟨rfl, HB.out⟩

theorem krotates_types : ∀ t ∈ [22, 9, 9, 3, 3, 3], Tryz.prog.readableRec t = true ∧ t < Tryz.prog.types.size := by
  have h : ([22, 9, 9, 3, 3, 3].all fun t => Tryz.prog.readableRec t && decide (t < Tryz.prog.types.size)) = true := by kernel_rfl
  intro t ht
  have := List.all_eq_true.1 h t ht
  simpa using this

set_option maxRecDepth 100000 in
theorem krotates_contract (H : Type) (enc : TypeId × Value → H) (W : World) (base : Nat) (args : Array Value) (ds gs : List (DataW H)) (before : List MemPlace)
    (hval : ∀ (j : Nat) t v, Tryz.f5.params[j]? = some t → args[j]? = some v → Value.okWide Tryz.prog W .any base t v)
    (hW : DataW.Whole enc Tryz.prog Tryz.f5.params.toList Rows.keysRotatesSpec.vars false W args.toList ds gs before) (hL : laidMetH Tryz.prog Rows.keysRotatesRow.laid W) (hsh : W.ShapedOpen Tryz.prog) :
    Calls Tryz.prog 5 args W fun e W' => ∃ v, e = .returned v ∧ Rows.keysRotatesSpec.post enc Tryz.prog Tryz.f5 false true false false W args v W' := by
  have hW' := hW
  obtain ⟨p, q, hA0, hV, rfl, hfz, hnd⟩ := hW
  have hA : DataW.TrodAll enc Tryz.prog W 0 (fun _ => true) true Tryz.f5.params.toList args.toList ds p := hA0
  obtain ⟨rfl, rfl⟩ := trodVars_none hV
  simp only [List.append_nil] at hW'
  have hlt : ∀ x ∈ p, x.block < W.heap.size := fun x hx => by simpa using hW'.lt x hx
  have fin : ∀ W', Below W.heap.size W W' → DataW.TrodAll enc Tryz.prog W' 0 (fun b => decide (b < W.heap.size)) true [22, 9, 9, 3, 3, 3] args.toList ds p := fun W' hb => by
    rw [Tryz.params5] at hA
    exact trodAll_below hb _ _ _ _ krotates_types hA hlt
  clear hA0
  rw [Tryz.params5] at hA hval
  obtain ⟨v0, vs0, d0, ds0, p0, q0, hargs, rfl, hp0, h0, r0⟩ := trodAll_cons hA
  obtain ⟨v1, vs1, d1, ds1, p1, q1, rfl, rfl, hp1, h1, r1⟩ := trodAll_cons r0
  obtain ⟨v2, vs2, d2, ds2, p2, q2, rfl, rfl, hp2, h2, r2⟩ := trodAll_cons r1
  obtain ⟨v3, vs3, d3, ds3, p3, q3, rfl, rfl, hp3, h3, r3⟩ := trodAll_cons r2
  obtain ⟨v4, vs4, d4, ds4, p4, q4, rfl, rfl, hp4, h4, r4⟩ := trodAll_cons r3
  obtain ⟨v5, vs5, d5, ds5, p5, q5, rfl, rfl, hp5, h5, r5⟩ := trodAll_cons r4
  obtain ⟨rfl, rfl, rfl⟩ := trodAll_nil r5
  obtain rfl : args = #[v0, v1, v2, v3, v4, v5] := by cases args; simp_all
  obtain ⟨l, ln, lc, ll, rfl, hs0, hi0⟩ := open_ks (hval 0 22 v0 rfl rfl) h0
  obtain ⟨id, rfl, rfl, rfl, hs1⟩ := open_string Tryz.underlying9 (hval 1 9 v1 rfl rfl) h1
  obtain ⟨sec, rfl, rfl, rfl, hs2⟩ := open_string Tryz.underlying9 (hval 2 9 v2 rfl rfl) h2
  obtain ⟨now, rfl, rfl, rfl, hs3⟩ := open_int Tryz.underlying3 (hval 3 3 v3 rfl rfl) h3
  obtain ⟨life, rfl, rfl, rfl, hs4⟩ := open_int Tryz.underlying3 (hval 4 3 v4 rfl rfl) h4
  obtain ⟨grace, rfl, rfl, rfl, hs5⟩ := open_int Tryz.underlying3 (hval 5 3 v5 rfl rfl) h5
  refine (krotates_s l ln lc ll id sec now life grace W hs0 hi0 hs3 hs4 hs5 (wk_of hL hsh)).mono fun e W' ⟨he, hb⟩ => ?_
  subst he
  exact ⟨_, rfl, _, _, _, [], p, [], hW', trodAll_mk1 (shut_bool Tryz.underlying4 _), fin W' hb, rfl, hb.frame _, fun h => by cases h⟩

set_option maxRecDepth 100000 in
theorem krotates_lifted (os : Os) (started : os.Started) (H : Type) (enc : TypeId × Value → H) (F : Stop.Interp) :
    ReturnsInHanded {} Tryz.checked os 5 .any ((OpenSpec.ofChange Rows.keysRotatesSpec).preRow enc Tryz.prog Tryz.f5 Rows.keysRotatesRow.domain false Rows.keysRotatesRow.laid) (((OpenSpec.ofChange Rows.keysRotatesSpec).at F).post enc Tryz.prog Tryz.f5 false true false false) := by
  refine returnsInHanded_of_row (C := Tryz.checked) (s := OpenSpec.ofChange Rows.keysRotatesSpec) own started (by kernel_rfl) Tryz.func5
    (witness_row (enc := enc) (C := Tryz.checked) false (World.laidAll Tryz.prog os Rows.keysRotatesRow.laid) #[.slice none 0 0, .string ⟨#[]⟩, .string ⟨#[]⟩, .int .i64 0, .int .i64 0, .int .i64 0] (World.laidAll_os _ _ _)
      (World.shaped_of_ZipB (by kernel_rfl) (by kernel_rfl)) (by kernel_rfl)
      (OpenSpec.preRow_of_cond 8 (x := ([.nil, .lit (.string []), .lit (.string []), .lit (.int .i64 0), .lit (.int .i64 0), .lit (.int .i64 0)], [], [])) (by kernel_rfl) (by kernel_rfl) (fun k hk => by cases hk) (by kernel_rfl)
        (by rw [MakeChecks.laidMetH_plain _ _ _ (by kernel_rfl)]; exact laidMet_laidAll _ (by kernel_rfl) (by kernel_rfl)))) ?_
  intro W base args ds gs before hval hW _ _ _ hL hsh _
  exact krotates_contract H enc W base args ds gs before hval hW hL hsh

set_option maxRecDepth 100000 in
theorem krotates_said : Rows.KeysRotatesSaid :=
  OpenClaim.holds_of_cond 5 Tryz.f5 rfl rfl rfl rfl rfl rfl rfl ⟨rfl, rfl, rfl, rfl, rfl⟩ rfl rfl rfl rfl rfl (by kernel_rfl) Tryz.func5 (by kernel_rfl)
    (of_decide_eq_true (by kernel_rfl)) (by unfold Func.isWrapper; first | (rw [if_pos (by decide +kernel)]; kernel_rfl) | (rw [if_neg (by decide +kernel)]; exact ⟨rfl, rfl⟩))
    (fun os started H enc _ F => by rw [OpenClaim.pre_eq_preRow]; exact krotates_lifted os started H enc F)

set_option maxRecDepth 100000 in
theorem krotates_plain (f : FuncId) (fn : Func) (hf : Tryz.pinned.checked.prog.funcNamed "identity/identitylaw24.KeysRotates" = some f) (hfn : Tryz.pinned.checked.prog.funcs[f]? = some fn) :
    true = Tryz.pinned.checked.prog.looks [] ∧ ∀ (j : Nat) t, fn.params[j]? = some t → Tryz.pinned.checked.prog.wantsStandIn t = false := by
  obtain rfl : f = 5 := Option.some.inj ((show Tryz.prog.funcNamed "identity/identitylaw24.KeysRotates" = some 5 by kernel_rfl).symm.trans hf) |>.symm
  obtain rfl : fn = Tryz.f5 := (Option.some.inj (Tryz.func5.symm.trans hfn)).symm
  refine ⟨by kernel_rfl, fun j t ht => ?_⟩
  rw [Tryz.params5] at ht
  have hm : t ∈ [22, 9, 9, 3, 3, 3] := by simpa using Array.mem_of_getElem? ht
  have hall : ([22, 9, 9, 3, 3, 3].all fun u => !Tryz.prog.wantsStandIn u) = true := by kernel_rfl
  exact (show Tryz.prog.wantsStandIn t = false by simpa using List.all_eq_true.1 hall t hm)

/-- THE CARD -/
theorem krotates_card : Rows.KeysRotatesCardSaid :=
  Claim7.holds_tied_plain_at .later [] _ _ _ _ krotates_said (fun _ h => by cases h) (by kernel_rfl) (fun _ h => by cases h) keysRotates_row_tie rfl ⟨rfl, rfl⟩ (by kernel_rfl) rfl krotates_plain (by kernel_rfl)
end Go.Proofs.YtgepcbggkfjlgaaGreatDoor
end
