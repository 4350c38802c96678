/-
  Proved: identitylaw16.ChangeMerges returns true for every input (the tied card). No condition beyond the row's own.
-/
import Derived.Test.YtbkignlbcneddaaGreatDoorM28
set_option linter.unusedVariables false
set_option linter.unusedSimpArgs false
set_option linter.unnecessarySimpa false

section
/-
  Proved: identitylaw16.ChangeMerges returns true for every input (the tied card). No condition beyond the row's own.
-/
set_option linter.unusedVariables false
set_option linter.unusedSimpArgs false
set_option linter.unnecessarySimpa false
namespace Go.Proofs.YtbkignlbcneddaaGreatDoor
open Go.ChangeShapes Go.WideShapes Go.ChangeAt Go.RowKit Go.PlainAid
open Go.ChangeMaps (open_string shut_string)
open Csn (Cn cnV cnB CnsAt KbC kbc_new box_below box_lt TzOk own witness_row trodAll_below max_ok laidOut open_cns open_cn)

theorem rmerge_k (ao bo : Option Addr) (n m cap dap : Nat) (a b r : List Chg) (q : Nat) (w : World) (h : ChsAt w ao n cap a) (k : ChsAt w bo m dap b) (ha : ∀ d ∈ a, SmG d) (hb : ∀ d ∈ b, SmG d) (hn : n ≤ 10000) (hm : m ≤ 10000) (ho : MaxOk w) (hr : mergeG a b = r) (hq : r.length = q) :
    Calls Tryz.prog 25 #[.slice ao n cap, .slice bo m dap] w fun e w' => ∃ xo xc, e = .returned (.slice xo q xc) ∧ ChsAt w' xo q xc r ∧ Below w.heap.size w w' := by
  subst hr hq
  exact (rmerge_s ao bo n m cap dap a b w h k ha hb hn hm ho).mono fun e w' ⟨xo, q', xc, he, hx, hb⟩ => by
    have := hx.1
    subst this
    exact ⟨xo, xc, he, hx, hb⟩
set_option maxRecDepth 100000 in
set_option maxHeartbeats 16000000 in
theorem chmerges_s (a : Option Addr) (an ac : Nat) (al : List Chg) (b : Option Addr) (bn bc : Nat) (bl : List Chg) (w : World) (ha : ChsAt w a an ac al) (ia : ∀ g ∈ al, InG g) (hb : ChsAt w b bn bc bl) (ib : ∀ g ∈ bl, InG g) (ho : COk w) :
    Calls Tryz.prog 5 #[.slice a an ac, .slice b bn bc] w fun e w' => e = .returned (.bool true) ∧ Below w.heap.size w w' := by
  have HW := Lib.hid (Below.refl w.heap.size w)
  have HO := Lib.hid ho
  have HA := Lib.hid ha
  have NA := Lib.hid ha.1
  have IA := Lib.hid ia
  have HB := Lib.hid hb
  have NB := Lib.hid hb.1
  have IB := Lib.hid ib
  clear ho ha hb ia ib
  go_enter Tryz.func5, Tryz.ntmps5
  go_wp2_with fail
  refine (light_s a an ac al _ HA.out).mono ?_
  rintro e w' ⟨⟨r, rfl, hl⟩, rfl⟩
  cases r
  · clear hl
    go_wp2_with fail
    refine (awake_s _ HO.out).mono ?_
    rintro e w1 ⟨rfl, hb⟩
    have HW := Lib.hid (HW.out.trans (hb.mono HW.out.size))
    have HO := Lib.hid (HO.out.step hb)
    have HA := Lib.hid (HA.out.below hb)
    have HB := Lib.hid (HB.out.below hb)
    clear hb
    go_wp2_with fail
    go_ret
    exact ⟨rfl, HW.out⟩
  · have LA := Lib.hid (hl rfl)
    clear hl
    go_wp2_with fail
    refine (light_s b bn bc bl _ HB.out).mono ?_
    rintro e w' ⟨⟨r, rfl, hl⟩, rfl⟩
    cases r
    · clear hl
      go_wp2_with fail
      refine (awake_s _ HO.out).mono ?_
      rintro e w1 ⟨rfl, hb⟩
      have HW := Lib.hid (HW.out.trans (hb.mono HW.out.size))
      have HO := Lib.hid (HO.out.step hb)
      have HA := Lib.hid (HA.out.below hb)
      have HB := Lib.hid (HB.out.below hb)
      clear hb
      go_wp2_with fail
      go_ret
      exact ⟨rfl, HW.out⟩
    · have LB := Lib.hid (hl rfl)
      clear hl
      go_wp2_with fail
      obtain ⟨r, hr⟩ : ∃ r, mergeG al bl = r := ⟨_, rfl⟩
      have HR := Lib.hid hr
      clear hr
      refine (merge_k a b an bn ac bc al bl r r.length _ HA.out HB.out (LA.out.dom LB.out IA.out IB.out) (by have := LA.out.1; have := NA.out; omega) (by have := LB.out.1; have := NB.out; omega) HO.out HR.out rfl).mono ?_
      rintro e w1 ⟨xo, xc, rfl, hx, hb⟩
      have HW := Lib.hid (HW.out.trans (hb.mono HW.out.size))
      have HO := Lib.hid (HO.out.step hb)
      have HA := Lib.hid (HA.out.below hb)
      have HB := Lib.hid (HB.out.below hb)
      clear hb
      have HX := Lib.hid hx
      clear hx
      go_wp2_with fail
      refine (rmerge_k a b an bn ac bc al bl r r.length _ HA.out HB.out LA.out.small LB.out.small (by have := LA.out.1; have := NA.out; omega) (by have := LB.out.1; have := NB.out; omega) HO.out.mx HR.out rfl).mono ?_
      rintro e w2 ⟨yo, yc, rfl, hy, hb⟩
      have HW := Lib.hid (HW.out.trans (hb.mono HW.out.size))
      have HO := Lib.hid (HO.out.step hb)
      have HA := Lib.hid (HA.out.below hb)
      have HB := Lib.hid (HB.out.below hb)
      have HX := Lib.hid (HX.out.below hb)
      clear hb
      have HY := Lib.hid hy
      clear hy
      go_wp2_with fail
      refine (same_k xo yo r.length r.length xc yc r r true _ HX.out HY.out (decide_eq_true rfl)).mono ?_
      rintro e w3 ⟨rfl, hb⟩
      have HW := Lib.hid (HW.out.trans (hb.mono HW.out.size))
      have HO := Lib.hid (HO.out.step hb)
      have HA := Lib.hid (HA.out.below hb)
      have HB := Lib.hid (HB.out.below hb)
      have HX := Lib.hid (HX.out.below hb)
      have HY := Lib.hid (HY.out.below hb)
      clear hb
      go_wp2_with fail
      refine (awake_s _ HO.out).mono ?_
      rintro e w4 ⟨rfl, hb⟩
      have HW := Lib.hid (HW.out.trans (hb.mono HW.out.size))
      have HO := Lib.hid (HO.out.step hb)
      have HA := Lib.hid (HA.out.below hb)
      have HB := Lib.hid (HB.out.below hb)
      have HX := Lib.hid (HX.out.below hb)
      have HY := Lib.hid (HY.out.below hb)
      clear hb
      go_wp2_with fail
      go_ret
      exact ⟨rfl, HW.out⟩

theorem chmerges_types : ∀ t ∈ [28, 28], Tryz.prog.readableRec t = true ∧ t < Tryz.prog.types.size := by
  have h : ([28, 28].all fun t => Tryz.prog.readableRec t && decide (t < Tryz.prog.types.size)) = true := by kernel_rfl
  intro t ht
  have := List.all_eq_true.1 h t ht
  simpa using this

set_option maxRecDepth 100000 in
theorem chmerges_contract (H : Type) (enc : TypeId × Value → H) (W : World) (base : Nat) (args : Array Value) (ds gs : List (DataW H)) (before : List MemPlace)
    (hval : ∀ (j : Nat) t v, Tryz.f5.params[j]? = some t → args[j]? = some v → Value.okWide Tryz.prog W .any base t v)
    (hW : DataW.Whole enc Tryz.prog Tryz.f5.params.toList Rows.changeMergesSpec.vars false W args.toList ds gs before) (hL : laidMetH Tryz.prog Rows.changeMergesRow.laid W) (hsh : W.ShapedOpen Tryz.prog) :
    Calls Tryz.prog 5 args W fun e W' => ∃ v, e = .returned v ∧ Rows.changeMergesSpec.post enc Tryz.prog Tryz.f5 false true false false W args v W' := by
  have hW' := hW
  obtain ⟨p, q, hA0, hV, rfl, hfz, hnd⟩ := hW
  have hA : DataW.TrodAll enc Tryz.prog W 0 (fun _ => true) true Tryz.f5.params.toList args.toList ds p := hA0
  obtain ⟨rfl, rfl⟩ := trodVars_none hV
  simp only [List.append_nil] at hW'
  have hlt : ∀ x ∈ p, x.block < W.heap.size := fun x hx => by simpa using hW'.lt x hx
  have fin : ∀ W', Below W.heap.size W W' → DataW.TrodAll enc Tryz.prog W' 0 (fun b => decide (b < W.heap.size)) true [28, 28] args.toList ds p := fun W' hb => by
    rw [Tryz.params5] at hA
    exact trodAll_below hb _ _ _ _ chmerges_types hA hlt
  clear hA0
  rw [Tryz.params5] at hA hval
  obtain ⟨v0, vs0, d0, ds0, p0, q0, hargs, rfl, hp0, h0, r0⟩ := trodAll_cons hA
  obtain ⟨v1, vs1, d1, ds1, p1, q1, rfl, rfl, hp1, h1, r1⟩ := trodAll_cons r0
  obtain ⟨rfl, rfl, rfl⟩ := trodAll_nil r1
  obtain rfl : args = #[v0, v1] := by cases args; simp_all
  obtain ⟨a, an, ac, al, rfl, hs0, hi0⟩ := open_chs (hval 0 28 v0 rfl rfl) h0
  obtain ⟨b, bn, bc, bl, rfl, hs1, hi1⟩ := open_chs (hval 1 28 v1 rfl rfl) h1
  refine (chmerges_s a an ac al b bn bc bl W hs0 hi0 hs1 hi1 (cok_of hL hsh)).mono fun e W' ⟨he, hb⟩ => ?_
  subst he
  exact ⟨_, rfl, _, _, _, [], p, [], hW', trodAll_mk1 (shut_bool Tryz.underlying4 _), fin W' hb, rfl, hb.frame _, fun h => by cases h⟩

set_option maxRecDepth 100000 in
theorem chmerges_lifted (os : Os) (started : os.Started) (H : Type) (enc : TypeId × Value → H) (F : Stop.Interp) :
    ReturnsInHanded {} Tryz.checked os 5 .any ((OpenSpec.ofChange Rows.changeMergesSpec).preRow enc Tryz.prog Tryz.f5 Rows.changeMergesRow.domain false Rows.changeMergesRow.laid) (((OpenSpec.ofChange Rows.changeMergesSpec).at F).post enc Tryz.prog Tryz.f5 false true false false) := by
  refine returnsInHanded_of_row (C := Tryz.checked) (s := OpenSpec.ofChange Rows.changeMergesSpec) own started (by kernel_rfl) Tryz.func5
    (witness_row (enc := enc) (C := Tryz.checked) false (World.laidAll Tryz.prog os Rows.changeMergesRow.laid) #[.slice none 0 0, .slice none 0 0] (World.laidAll_os _ _ _)
      (World.shaped_of_ZipB (by kernel_rfl) (by kernel_rfl)) (by kernel_rfl)
      (OpenSpec.preRow_of_cond 8 (x := ([.nil, .nil], [], [])) (by kernel_rfl) (by kernel_rfl) (fun k hk => by cases hk) (by kernel_rfl)
        (by rw [MakeChecks.laidMetH_plain _ _ _ (by kernel_rfl)]; exact laidMet_laidAll _ (by kernel_rfl) (by kernel_rfl)))) ?_
  intro W base args ds gs before hval hW _ _ _ hL hsh _
  exact chmerges_contract H enc W base args ds gs before hval hW hL hsh

set_option maxRecDepth 100000 in
theorem chmerges_said : Rows.ChangeMergesSaid :=
  OpenClaim.holds_of_cond 5 Tryz.f5 rfl rfl rfl rfl rfl rfl rfl ⟨rfl, rfl, rfl, rfl, rfl⟩ rfl rfl rfl rfl rfl (by kernel_rfl) Tryz.func5 (by kernel_rfl)
    (of_decide_eq_true (by kernel_rfl)) (by unfold Func.isWrapper; first | (rw [if_pos (by decide +kernel)]; kernel_rfl) | (rw [if_neg (by decide +kernel)]; exact ⟨rfl, rfl⟩))
    (fun os started H enc _ F => by rw [OpenClaim.pre_eq_preRow]; exact chmerges_lifted os started H enc F)

set_option maxRecDepth 100000 in
theorem chmerges_plain (f : FuncId) (fn : Func) (hf : Tryz.pinned.checked.prog.funcNamed "identity/identitylaw16.ChangeMerges" = some f) (hfn : Tryz.pinned.checked.prog.funcs[f]? = some fn) :
    false = Tryz.pinned.checked.prog.looks [] ∧ ∀ (j : Nat) t, fn.params[j]? = some t → Tryz.pinned.checked.prog.wantsStandIn t = false := by
  obtain rfl : f = 5 := Option.some.inj ((show Tryz.prog.funcNamed "identity/identitylaw16.ChangeMerges" = some 5 by kernel_rfl).symm.trans hf) |>.symm
  obtain rfl : fn = Tryz.f5 := (Option.some.inj (Tryz.func5.symm.trans hfn)).symm
  refine ⟨by kernel_rfl, fun j t ht => ?_⟩
  rw [Tryz.params5] at ht
  have hm : t ∈ [28, 28] := by simpa using Array.mem_of_getElem? ht
  have hall : ([28, 28].all fun u => !Tryz.prog.wantsStandIn u) = true := by kernel_rfl
  exact (show Tryz.prog.wantsStandIn t = false by simpa using List.all_eq_true.1 hall t hm)

/-- THE CARD -/
theorem chmerges_card : Rows.ChangeMergesCardSaid :=
  Claim7.holds_tied_plain_at .later [] _ _ _ _ chmerges_said (fun _ h => by cases h) (by kernel_rfl) (fun _ h => by cases h) changeMerges_row_tie rfl ⟨rfl, rfl⟩ (by kernel_rfl) rfl chmerges_plain (by kernel_rfl)
end Go.Proofs.YtbkignlbcneddaaGreatDoor
end
