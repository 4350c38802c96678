/-
  Proved: identitylaw16.ChangeVectors returns true for every input (the tied card). No condition beyond the row's own.
-/
import Derived.Test.YtbkignlbcneddaaGreatDoorM26
import Derived.Test.YtbkignlbcneddaaGreatDoorM28
import Derived.Test.YtbkignlbcneddaaGreatDoorM29
set_option linter.unusedVariables false
set_option linter.unusedSimpArgs false
set_option linter.unnecessarySimpa false

section
/-
  Proved: identitylaw16.ChangeVectors returns true for every input (the tied card). No condition beyond the row's own.
-/
set_option linter.unusedVariables false
set_option linter.unusedSimpArgs false
set_option linter.unnecessarySimpa false
namespace Go.Proofs.YtbkignlbcneddaaGreatDoor
open Go.ChangeShapes Go.WideShapes Go.ChangeAt Go.RowKit Go.PlainAid
open Go.ChangeMaps (open_string shut_string)
open Csn (Cn cnV cnB CnsAt KbC kbc_new box_below box_lt TzOk own witness_row trodAll_below max_ok laidOut open_cns open_cn)

theorem rsince_k (ao : Option Addr) (n cap : Nat) (l : List Chg) (vo : Option Addr) (vn vc : Nat) (cs : List Cn) (r : List Chg) (q : Nat) (w : World) (h : ChsAt w ao n cap l) (hv : CnsAt w vo vn vc cs) (hn : n ≤ 1000000) (hr : sinceG l cs = r) (hq : r.length = q) :
    Calls Tryz.prog 27 #[.slice ao n cap, .slice vo vn vc] w fun e w' => ∃ xo xc, e = .returned (.slice xo q xc) ∧ ChsAt w' xo q xc r ∧ Below w.heap.size w w' := by
  subst hr hq
  exact (rsince_s ao n cap l vo vn vc cs w h hv hn).mono fun e w' ⟨v, he, hv, hb⟩ => by
    obtain ⟨xo, xc, rfl, hx⟩ := chs_of_owns hv
    exact ⟨xo, xc, he, hx, hb⟩
theorem rvec_k (ao : Option Addr) (n cap : Nat) (l : List Chg) (c : List Cn) (q : Nat) (w : World) (h : ChsAt w ao n cap l) (hn : n ≤ 1000000) (hc : vecG l = c) (hq : c.length = q) :
    Calls Tryz.prog 30 #[.slice ao n cap] w fun e w' => ∃ vo vc, e = .returned (.slice vo q vc) ∧ CnsAt w' vo q vc c ∧ Below w.heap.size w w' := by
  subst hc hq
  exact (rvector_s ao n cap l w h hn).mono fun e w' ⟨vo, m, vc, he, hv, hb⟩ => by
    have := hv.1
    subst this
    exact ⟨vo, vc, he, hv, hb⟩
theorem samev_k (ao bo : Option Addr) (n m cap dap : Nat) (ps qs : List Cn) (r : Bool) (w : World) (h : CnsAt w ao n cap ps) (k : CnsAt w bo m dap qs) (hr : decide (ps = qs) = r) :
    Calls Tryz.prog 28 #[.slice ao n cap, .slice bo m dap] w fun e w' => e = .returned (.bool r) ∧ Below w.heap.size w w' := by subst hr; exact rsamev_s ao bo n m cap dap ps qs w h k
set_option maxRecDepth 100000 in
set_option maxHeartbeats 16000000 in
theorem chvectors_s (l : Option Addr) (ln lc : Nat) (ll : List Chg) (v : Option Addr) (vn vc : Nat) (vl : List Cn) (w : World) (hl : ChsAt w l ln lc ll) (il : ∀ g ∈ ll, InG g) (hv : CnsAt w v vn vc vl) (ho : COk w) :
    Calls Tryz.prog 6 #[.slice l ln lc, .slice v vn vc] w fun e w' => e = .returned (.bool true) ∧ Below w.heap.size w w' := by
  have HW := Lib.hid (Below.refl w.heap.size w)
  have HO := Lib.hid ho
  have HL := Lib.hid hl
  have NL := Lib.hid hl.1
  have IL := Lib.hid il
  have HV := Lib.hid hv
  have NV := Lib.hid hv.1
  clear ho hl hv il
  go_enter Tryz.func6, Tryz.ntmps6
  go_wp2_with fail
  refine (light_s l ln lc ll _ HL.out).mono ?_
  rintro e w' ⟨⟨r, rfl, hl⟩, rfl⟩
  cases r
  · clear hl
    go_wp2_with fail
    refine (awake_s _ HO.out).mono ?_
    rintro e w1 ⟨rfl, hb⟩
    have HW := Lib.hid (HW.out.trans (hb.mono HW.out.size))
    have HO := Lib.hid (HO.out.step hb)
    have HL := Lib.hid (HL.out.below hb)
    have HV := Lib.hid (HV.out.below hb)
    clear hb
    go_wp2_with fail
    go_ret
    exact ⟨rfl, HW.out⟩
  · have LL := Lib.hid (hl rfl)
    clear hl
    by_cases h20 : vn ≤ 20
    · have d1 : ¬ (vn : Int) > 20 := by omega
      have d2 : decide ((20 : Int) < (vn : Int)) = false := decide_eq_false (by omega)
      go_wp2_with fail
      obtain ⟨r, hr⟩ : ∃ r, sinceG ll vl = r := ⟨_, rfl⟩
      obtain ⟨c, hc⟩ : ∃ r, vecG ll = r := ⟨_, rfl⟩
      have HR := Lib.hid hr
      have HC := Lib.hid hc
      have HN := Lib.hid (show ln ≤ 1000000 by have := LL.out.1; have := NL.out; omega)
      clear hr hc
      refine (since_k l ln lc ll v vn vc vl r r.length _ HL.out HV.out HN.out HR.out rfl).mono ?_
      rintro e w1 ⟨xo, xc, rfl, hx, hb⟩
      have HW := Lib.hid (HW.out.trans (hb.mono HW.out.size))
      have HO := Lib.hid (HO.out.step hb)
      have HL := Lib.hid (HL.out.below hb)
      have HV := Lib.hid (HV.out.below hb)
      clear hb
      have HX := Lib.hid hx
      clear hx
      go_wp2_with fail
      refine (rsince_k l ln lc ll v vn vc vl r r.length _ HL.out HV.out HN.out HR.out rfl).mono ?_
      rintro e w2 ⟨yo, yc, rfl, hy, hb⟩
      have HW := Lib.hid (HW.out.trans (hb.mono HW.out.size))
      have HO := Lib.hid (HO.out.step hb)
      have HL := Lib.hid (HL.out.below hb)
      have HV := Lib.hid (HV.out.below hb)
      have HX := Lib.hid (HX.out.below hb)
      clear hb
      have HY := Lib.hid hy
      clear hy
      go_wp2_with fail
      refine (same_k xo yo r.length r.length xc yc r r true _ HX.out HY.out (decide_eq_true rfl)).mono ?_
      rintro e w3 ⟨rfl, hb⟩
      have HW := Lib.hid (HW.out.trans (hb.mono HW.out.size))
      have HO := Lib.hid (HO.out.step hb)
      have HL := Lib.hid (HL.out.below hb)
      have HV := Lib.hid (HV.out.below hb)
      have HX := Lib.hid (HX.out.below hb)
      have HY := Lib.hid (HY.out.below hb)
      clear hb
      go_wp2_with fail
      refine (vec_k l ln lc ll c c.length _ HL.out HN.out HC.out rfl).mono ?_
      rintro e w4 ⟨zo, zc, rfl, hz, hb⟩
      have HW := Lib.hid (HW.out.trans (hb.mono HW.out.size))
      have HO := Lib.hid (HO.out.step hb)
      have HL := Lib.hid (HL.out.below hb)
      have HV := Lib.hid (HV.out.below hb)
      have HX := Lib.hid (HX.out.below hb)
      have HY := Lib.hid (HY.out.below hb)
      clear hb
      have HZ := Lib.hid hz
      clear hz
      go_wp2_with fail
      refine (rvec_k l ln lc ll c c.length _ HL.out HN.out HC.out rfl).mono ?_
      rintro e w5 ⟨uo, uc, rfl, hu, hb⟩
      have HW := Lib.hid (HW.out.trans (hb.mono HW.out.size))
      have HO := Lib.hid (HO.out.step hb)
      have HL := Lib.hid (HL.out.below hb)
      have HV := Lib.hid (HV.out.below hb)
      have HX := Lib.hid (HX.out.below hb)
      have HY := Lib.hid (HY.out.below hb)
      have HZ := Lib.hid (HZ.out.below hb)
      clear hb
      have HU := Lib.hid hu
      clear hu
      go_wp2_with fail
      refine (samev_k zo uo c.length c.length zc uc c c true _ HZ.out HU.out (decide_eq_true rfl)).mono ?_
      rintro e w6 ⟨rfl, hb⟩
      have HW := Lib.hid (HW.out.trans (hb.mono HW.out.size))
      have HO := Lib.hid (HO.out.step hb)
      have HL := Lib.hid (HL.out.below hb)
      have HV := Lib.hid (HV.out.below hb)
      have HX := Lib.hid (HX.out.below hb)
      have HY := Lib.hid (HY.out.below hb)
      have HZ := Lib.hid (HZ.out.below hb)
      have HU := Lib.hid (HU.out.below hb)
      clear hb
      go_wp2_with fail
      refine (awake_s _ HO.out).mono ?_
      rintro e w7 ⟨rfl, hb⟩
      have HW := Lib.hid (HW.out.trans (hb.mono HW.out.size))
      have HO := Lib.hid (HO.out.step hb)
      have HL := Lib.hid (HL.out.below hb)
      have HV := Lib.hid (HV.out.below hb)
      have HX := Lib.hid (HX.out.below hb)
      have HY := Lib.hid (HY.out.below hb)
      have HZ := Lib.hid (HZ.out.below hb)
      have HU := Lib.hid (HU.out.below hb)
      clear hb
      go_wp2_with fail
      go_ret
      exact ⟨rfl, HW.out⟩
    · have d1 : (vn : Int) > 20 := by omega
      have d2 : decide ((20 : Int) < (vn : Int)) = true := decide_eq_true (by omega)
      go_wp2_with fail
      refine (awake_s _ HO.out).mono ?_
      rintro e w1 ⟨rfl, hb⟩
      have HW := Lib.hid (HW.out.trans (hb.mono HW.out.size))
      have HO := Lib.hid (HO.out.step hb)
      have HL := Lib.hid (HL.out.below hb)
      have HV := Lib.hid (HV.out.below hb)
      clear hb
      go_wp2_with fail
      go_ret
      exact ⟨rfl, HW.out⟩

theorem chvectors_types : ∀ t ∈ [28, 43], Tryz.prog.readableRec t = true ∧ t < Tryz.prog.types.size := by
  have h : ([28, 43].all fun t => Tryz.prog.readableRec t && decide (t < Tryz.prog.types.size)) = true := by kernel_rfl
  intro t ht
  have := List.all_eq_true.1 h t ht
  simpa using this

set_option maxRecDepth 100000 in
theorem chvectors_contract (H : Type) (enc : TypeId × Value → H) (W : World) (base : Nat) (args : Array Value) (ds gs : List (DataW H)) (before : List MemPlace)
    (hval : ∀ (j : Nat) t v, Tryz.f6.params[j]? = some t → args[j]? = some v → Value.okWide Tryz.prog W .any base t v)
    (hW : DataW.Whole enc Tryz.prog Tryz.f6.params.toList Rows.changeVectorsSpec.vars false W args.toList ds gs before) (hL : laidMetH Tryz.prog Rows.changeVectorsRow.laid W) (hsh : W.ShapedOpen Tryz.prog) :
    Calls Tryz.prog 6 args W fun e W' => ∃ v, e = .returned v ∧ Rows.changeVectorsSpec.post enc Tryz.prog Tryz.f6 false true false false W args v W' := by
  have hW' := hW
  obtain ⟨p, q, hA0, hV, rfl, hfz, hnd⟩ := hW
  have hA : DataW.TrodAll enc Tryz.prog W 0 (fun _ => true) true Tryz.f6.params.toList args.toList ds p := hA0
  obtain ⟨rfl, rfl⟩ := trodVars_none hV
  simp only [List.append_nil] at hW'
  have hlt : ∀ x ∈ p, x.block < W.heap.size := fun x hx => by simpa using hW'.lt x hx
  have fin : ∀ W', Below W.heap.size W W' → DataW.TrodAll enc Tryz.prog W' 0 (fun b => decide (b < W.heap.size)) true [28, 43] args.toList ds p := fun W' hb => by
    rw [Tryz.params6] at hA
    exact trodAll_below hb _ _ _ _ chvectors_types hA hlt
  clear hA0
  rw [Tryz.params6] at hA hval
  obtain ⟨v0, vs0, d0, ds0, p0, q0, hargs, rfl, hp0, h0, r0⟩ := trodAll_cons hA
  obtain ⟨v1, vs1, d1, ds1, p1, q1, rfl, rfl, hp1, h1, r1⟩ := trodAll_cons r0
  obtain ⟨rfl, rfl, rfl⟩ := trodAll_nil r1
  obtain rfl : args = #[v0, v1] := by cases args; simp_all
  obtain ⟨l, ln, lc, ll, rfl, hs0, hi0⟩ := open_chs (hval 0 28 v0 rfl rfl) h0
  obtain ⟨v, vn, vc, vl, rfl, hs1⟩ := open_cns (hval 1 43 v1 rfl rfl) h1
  refine (chvectors_s l ln lc ll v vn vc vl W hs0 hi0 hs1 (cok_of hL hsh)).mono fun e W' ⟨he, hb⟩ => ?_
  subst he
  exact ⟨_, rfl, _, _, _, [], p, [], hW', trodAll_mk1 (shut_bool Tryz.underlying4 _), fin W' hb, rfl, hb.frame _, fun h => by cases h⟩

set_option maxRecDepth 100000 in
theorem chvectors_lifted (os : Os) (started : os.Started) (H : Type) (enc : TypeId × Value → H) (F : Stop.Interp) :
    ReturnsInHanded {} Tryz.checked os 6 .any ((OpenSpec.ofChange Rows.changeVectorsSpec).preRow enc Tryz.prog Tryz.f6 Rows.changeVectorsRow.domain false Rows.changeVectorsRow.laid) (((OpenSpec.ofChange Rows.changeVectorsSpec).at F).post enc Tryz.prog Tryz.f6 false true false false) := by
  refine returnsInHanded_of_row (C := Tryz.checked) (s := OpenSpec.ofChange Rows.changeVectorsSpec) own started (by kernel_rfl) Tryz.func6
    (witness_row (enc := enc) (C := Tryz.checked) false (World.laidAll Tryz.prog os Rows.changeVectorsRow.laid) #[.slice none 0 0, .slice none 0 0] (World.laidAll_os _ _ _)
      (World.shaped_of_ZipB (by kernel_rfl) (by kernel_rfl)) (by kernel_rfl)
      (OpenSpec.preRow_of_cond 8 (x := ([.nil, .nil], [], [])) (by kernel_rfl) (by kernel_rfl) (fun k hk => by cases hk) (by kernel_rfl)
        (by rw [MakeChecks.laidMetH_plain _ _ _ (by kernel_rfl)]; exact laidMet_laidAll _ (by kernel_rfl) (by kernel_rfl)))) ?_
  intro W base args ds gs before hval hW _ _ _ hL hsh _
  exact chvectors_contract H enc W base args ds gs before hval hW hL hsh

set_option maxRecDepth 100000 in
theorem chvectors_said : Rows.ChangeVectorsSaid :=
  OpenClaim.holds_of_cond 6 Tryz.f6 rfl rfl rfl rfl rfl rfl rfl ⟨rfl, rfl, rfl, rfl, rfl⟩ rfl rfl rfl rfl rfl (by kernel_rfl) Tryz.func6 (by kernel_rfl)
    (of_decide_eq_true (by kernel_rfl)) (by unfold Func.isWrapper; first | (rw [if_pos (by decide +kernel)]; kernel_rfl) | (rw [if_neg (by decide +kernel)]; exact ⟨rfl, rfl⟩))
    (fun os started H enc _ F => by rw [OpenClaim.pre_eq_preRow]; exact chvectors_lifted os started H enc F)

set_option maxRecDepth 100000 in
theorem chvectors_plain (f : FuncId) (fn : Func) (hf : Tryz.pinned.checked.prog.funcNamed "identity/identitylaw16.ChangeVectors" = some f) (hfn : Tryz.pinned.checked.prog.funcs[f]? = some fn) :
    false = Tryz.pinned.checked.prog.looks [] ∧ ∀ (j : Nat) t, fn.params[j]? = some t → Tryz.pinned.checked.prog.wantsStandIn t = false := by
  obtain rfl : f = 6 := Option.some.inj ((show Tryz.prog.funcNamed "identity/identitylaw16.ChangeVectors" = some 6 by kernel_rfl).symm.trans hf) |>.symm
  obtain rfl : fn = Tryz.f6 := (Option.some.inj (Tryz.func6.symm.trans hfn)).symm
  refine ⟨by kernel_rfl, fun j t ht => ?_⟩
  rw [Tryz.params6] at ht
  have hm : t ∈ [28, 43] := by simpa using Array.mem_of_getElem? ht
  have hall : ([28, 43].all fun u => !Tryz.prog.wantsStandIn u) = true := by kernel_rfl
  exact (show Tryz.prog.wantsStandIn t = false by simpa using List.all_eq_true.1 hall t hm)

/-- THE CARD -/
theorem chvectors_card : Rows.ChangeVectorsCardSaid :=
  Claim7.holds_tied_plain_at .later [] _ _ _ _ chvectors_said (fun _ h => by cases h) (by kernel_rfl) (fun _ h => by cases h) changeVectors_row_tie rfl ⟨rfl, rfl⟩ (by kernel_rfl) rfl chvectors_plain (by kernel_rfl)
end Go.Proofs.YtbkignlbcneddaaGreatDoor
end
