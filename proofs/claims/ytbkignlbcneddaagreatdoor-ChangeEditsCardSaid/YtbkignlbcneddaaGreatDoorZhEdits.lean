/-
  Proved: identitylaw16.ChangeEdits returns true for every input (the tied card). No condition beyond the row's own.
-/
import Derived.Test.YtbkignlbcneddaaGreatDoorE21
import Derived.Test.YtbkignlbcneddaaGreatDoorE22
set_option linter.unusedVariables false
set_option linter.unusedSimpArgs false
set_option linter.unnecessarySimpa false

section
/-
  Proved: identitylaw16.ChangeEdits returns true for every input (the tied card). No condition beyond the row's own.
-/
set_option linter.unusedVariables false
set_option linter.unusedSimpArgs false
set_option linter.unnecessarySimpa false
namespace Go.Proofs.YtbkignlbcneddaaGreatDoor
open Go.ChangeShapes Go.WideShapes Go.ChangeAt Go.RowKit Go.PlainAid
open Go.ChangeMaps (open_string shut_string)
open Csn (Cn cnV cnB CnsAt KbC kbc_new box_below box_lt TzOk own witness_row trodAll_below max_ok laidOut open_cns open_cn)

theorem sumv_le : ∀ {l : List At}, (∀ a ∈ l, a.2.length ≤ 8) → sumV l ≤ 8 * l.length
  | [], _ => by decide
  | a :: l, h => by
    rw [sumV_cons]
    have h1 := h a (List.mem_cons_self ..)
    have h2 := sumv_le (l := l) (fun x hx => h x (List.mem_cons_of_mem _ hx))
    simp only [List.length_cons]
    omega
theorem LtA.sum {l : List At} (h : LtA l) : sumV l ≤ 100000 := by
  have h1 := sumv_le (fun a ha => (h.2 a ha).2.1)
  have := h.1
  omega
theorem LtA.few {l : List At} (h : LtA l) : Few l :=
  ⟨fun a ha => ⟨by have := (h.2 a ha).1; omega, fun v hv => by have := (h.2 a ha).2.2 v hv; omega⟩, by have := h.sum; omega, by have := h.1; omega⟩
theorem redits_k (id : ByteArray) (ao bo : Option Addr) (n m cap dap : Nat) (l k : List At) (r : List Chg) (q : Nat) (w : World) (h : AttrsAt w ao n cap l) (hk : AttrsAt w bo m dap k) (hF : Few l) (hG : Few k) (hr : editsG id l k = r) (hq : r.length = q) :
    Calls Tryz.prog 33 #[.string id, .slice ao n cap, .slice bo m dap] w fun e w' => ∃ xo xc, e = .returned (.slice xo q xc) ∧ ChsAt w' xo q xc r ∧ Below w.heap.size w w' := by
  subst hr hq
  exact (redits_s id ao bo n m cap dap l k w h hk hF hG).mono fun e w' ⟨v, he, hv, hb⟩ => by
    obtain ⟨xo, xc, rfl, hx⟩ := chs_of_owns hv
    exact ⟨xo, xc, he, hx, hb⟩
set_option maxRecDepth 100000 in
set_option maxHeartbeats 16000000 in
theorem chedit_s (id : ByteArray) (a : Option Addr) (an ac : Nat) (al : List At) (b : Option Addr) (bn bc : Nat) (bl : List At) (w : World) (ha : AttrsAt w a an ac al) (hb : AttrsAt w b bn bc bl) (ho : COk w) :
    Calls Tryz.prog 7 #[.string id, .slice a an ac, .slice b bn bc] w fun e w' => e = .returned (.bool true) ∧ Below w.heap.size w w' := by
  have HW := Lib.hid (Below.refl w.heap.size w)
  have HO := Lib.hid ho
  have HA := Lib.hid ha
  have NA := Lib.hid ha.1
  have HB := Lib.hid hb
  have NB := Lib.hid hb.1
  clear ho ha hb
  go_enter Tryz.func7, Tryz.ntmps7
  go_wp2_with fail
  refine (lightAttrs_s a an ac al _ HA.out).mono ?_
  rintro e w' ⟨⟨r, rfl, hl⟩, rfl⟩
  cases r
  · clear hl
    go_wp2_with fail
    refine (awake_s _ HO.out).mono ?_
    rintro e w1 ⟨rfl, hb⟩
    have HW := Lib.hid (HW.out.trans (hb.mono HW.out.size))
    have HO := Lib.hid (HO.out.step hb)
    have HA := Lib.hid (HA.out.below hb)
    have HB := Lib.hid (HB.out.below hb)
    clear hb
    go_wp2_with fail
    go_ret
    exact ⟨rfl, HW.out⟩
  · have LA := Lib.hid (hl rfl)
    clear hl
    go_wp2_with fail
    refine (lightAttrs_s b bn bc bl _ HB.out).mono ?_
    rintro e w' ⟨⟨r, rfl, hl⟩, rfl⟩
    cases r
    · clear hl
      go_wp2_with fail
      refine (awake_s _ HO.out).mono ?_
      rintro e w1 ⟨rfl, hb⟩
      have HW := Lib.hid (HW.out.trans (hb.mono HW.out.size))
      have HO := Lib.hid (HO.out.step hb)
      have HA := Lib.hid (HA.out.below hb)
      have HB := Lib.hid (HB.out.below hb)
      clear hb
      go_wp2_with fail
      go_ret
      exact ⟨rfl, HW.out⟩
    · have LB := Lib.hid (hl rfl)
      clear hl
      by_cases h4 : id.size ≤ 400
      · have d1 : ¬ (id.size : Int) > 400 := by omega
        have d2 : decide ((400 : Int) < (id.size : Int)) = false := decide_eq_false (by omega)
        go_wp2_with fail
        obtain ⟨r, hr⟩ : ∃ r, editsG id al bl = r := ⟨_, rfl⟩
        have HR := Lib.hid hr
        clear hr
        refine (edits_k id a b an bn ac bc al bl r r.length _ HA.out HB.out LA.out.few LB.out.few LA.out.sum LB.out.sum HR.out rfl).mono ?_
        rintro e w1 ⟨xo, xc, rfl, hx, hb⟩
        have HW := Lib.hid (HW.out.trans (hb.mono HW.out.size))
        have HO := Lib.hid (HO.out.step hb)
        have HA := Lib.hid (HA.out.below hb)
        have HB := Lib.hid (HB.out.below hb)
        clear hb
        have HX := Lib.hid hx
        clear hx
        go_wp2_with fail
        refine (redits_k id a b an bn ac bc al bl r r.length _ HA.out HB.out LA.out.few LB.out.few HR.out rfl).mono ?_
        rintro e w2 ⟨yo, yc, rfl, hy, hb⟩
        have HW := Lib.hid (HW.out.trans (hb.mono HW.out.size))
        have HO := Lib.hid (HO.out.step hb)
        have HA := Lib.hid (HA.out.below hb)
        have HB := Lib.hid (HB.out.below hb)
        have HX := Lib.hid (HX.out.below hb)
        clear hb
        have HY := Lib.hid hy
        clear hy
        go_wp2_with fail
        refine (same_k xo yo r.length r.length xc yc r r true _ HX.out HY.out (decide_eq_true rfl)).mono ?_
        rintro e w3 ⟨rfl, hb⟩
        have HW := Lib.hid (HW.out.trans (hb.mono HW.out.size))
        have HO := Lib.hid (HO.out.step hb)
        have HA := Lib.hid (HA.out.below hb)
        have HB := Lib.hid (HB.out.below hb)
        have HX := Lib.hid (HX.out.below hb)
        have HY := Lib.hid (HY.out.below hb)
        clear hb
        go_wp2_with fail
        refine (awake_s _ HO.out).mono ?_
        rintro e w4 ⟨rfl, hb⟩
        have HW := Lib.hid (HW.out.trans (hb.mono HW.out.size))
        have HO := Lib.hid (HO.out.step hb)
        have HA := Lib.hid (HA.out.below hb)
        have HB := Lib.hid (HB.out.below hb)
        have HX := Lib.hid (HX.out.below hb)
        have HY := Lib.hid (HY.out.below hb)
        clear hb
        go_wp2_with fail
        go_ret
        exact ⟨rfl, HW.out⟩
      · have d1 : (id.size : Int) > 400 := by omega
        have d2 : decide ((400 : Int) < (id.size : Int)) = true := decide_eq_true (by omega)
        go_wp2_with fail
        refine (awake_s _ HO.out).mono ?_
        rintro e w1 ⟨rfl, hb⟩
        have HW := Lib.hid (HW.out.trans (hb.mono HW.out.size))
        have HO := Lib.hid (HO.out.step hb)
        have HA := Lib.hid (HA.out.below hb)
        have HB := Lib.hid (HB.out.below hb)
        clear hb
        go_wp2_with fail
        go_ret
        exact ⟨rfl, HW.out⟩

theorem chedit_types : ∀ t ∈ [9, 48, 48], Tryz.prog.readableRec t = true ∧ t < Tryz.prog.types.size := by
  have h : ([9, 48, 48].all fun t => Tryz.prog.readableRec t && decide (t < Tryz.prog.types.size)) = true := by kernel_rfl
  intro t ht
  have := List.all_eq_true.1 h t ht
  simpa using this

set_option maxRecDepth 100000 in
theorem chedit_contract (H : Type) (enc : TypeId × Value → H) (W : World) (base : Nat) (args : Array Value) (ds gs : List (DataW H)) (before : List MemPlace)
    (hval : ∀ (j : Nat) t v, Tryz.f7.params[j]? = some t → args[j]? = some v → Value.okWide Tryz.prog W .any base t v)
    (hW : DataW.Whole enc Tryz.prog Tryz.f7.params.toList Rows.changeEditsSpec.vars false W args.toList ds gs before) (hL : laidMetH Tryz.prog Rows.changeEditsRow.laid W) (hsh : W.ShapedOpen Tryz.prog) :
    Calls Tryz.prog 7 args W fun e W' => ∃ v, e = .returned v ∧ Rows.changeEditsSpec.post enc Tryz.prog Tryz.f7 false true false false W args v W' := by
  have hW' := hW
  obtain ⟨p, q, hA0, hV, rfl, hfz, hnd⟩ := hW
  have hA : DataW.TrodAll enc Tryz.prog W 0 (fun _ => true) true Tryz.f7.params.toList args.toList ds p := hA0
  obtain ⟨rfl, rfl⟩ := trodVars_none hV
  simp only [List.append_nil] at hW'
  have hlt : ∀ x ∈ p, x.block < W.heap.size := fun x hx => by simpa using hW'.lt x hx
  have fin : ∀ W', Below W.heap.size W W' → DataW.TrodAll enc Tryz.prog W' 0 (fun b => decide (b < W.heap.size)) true [9, 48, 48] args.toList ds p := fun W' hb => by
    rw [Tryz.params7] at hA
    exact trodAll_below hb _ _ _ _ chedit_types hA hlt
  clear hA0
  rw [Tryz.params7] at hA hval
  obtain ⟨v0, vs0, d0, ds0, p0, q0, hargs, rfl, hp0, h0, r0⟩ := trodAll_cons hA
  obtain ⟨v1, vs1, d1, ds1, p1, q1, rfl, rfl, hp1, h1, r1⟩ := trodAll_cons r0
  obtain ⟨v2, vs2, d2, ds2, p2, q2, rfl, rfl, hp2, h2, r2⟩ := trodAll_cons r1
  obtain ⟨rfl, rfl, rfl⟩ := trodAll_nil r2
  obtain rfl : args = #[v0, v1, v2] := by cases args; simp_all
  obtain ⟨id, rfl, rfl, rfl, hs0⟩ := open_string Tryz.underlying9 (hval 0 9 v0 rfl rfl) h0
  obtain ⟨a, an, ac, al, rfl, hs1⟩ := open_attrs (hval 1 48 v1 rfl rfl) h1
  obtain ⟨b, bn, bc, bl, rfl, hs2⟩ := open_attrs (hval 2 48 v2 rfl rfl) h2
  refine (chedit_s id a an ac al b bn bc bl W hs1 hs2 (cok_of hL hsh)).mono fun e W' ⟨he, hb⟩ => ?_
  subst he
  exact ⟨_, rfl, _, _, _, [], p, [], hW', trodAll_mk1 (shut_bool Tryz.underlying4 _), fin W' hb, rfl, hb.frame _, fun h => by cases h⟩

set_option maxRecDepth 100000 in
theorem chedit_lifted (os : Os) (started : os.Started) (H : Type) (enc : TypeId × Value → H) (F : Stop.Interp) :
    ReturnsInHanded {} Tryz.checked os 7 .any ((OpenSpec.ofChange Rows.changeEditsSpec).preRow enc Tryz.prog Tryz.f7 Rows.changeEditsRow.domain false Rows.changeEditsRow.laid) (((OpenSpec.ofChange Rows.changeEditsSpec).at F).post enc Tryz.prog Tryz.f7 false true false false) := by
  refine returnsInHanded_of_row (C := Tryz.checked) (s := OpenSpec.ofChange Rows.changeEditsSpec) own started (by kernel_rfl) Tryz.func7
    (witness_row (enc := enc) (C := Tryz.checked) false (World.laidAll Tryz.prog os Rows.changeEditsRow.laid) #[.string ⟨#[]⟩, .slice none 0 0, .slice none 0 0] (World.laidAll_os _ _ _)
      (World.shaped_of_ZipB (by kernel_rfl) (by kernel_rfl)) (by kernel_rfl)
      (OpenSpec.preRow_of_cond 8 (x := ([.lit (.string []), .nil, .nil], [], [])) (by kernel_rfl) (by kernel_rfl) (fun k hk => by cases hk) (by kernel_rfl)
        (by rw [MakeChecks.laidMetH_plain _ _ _ (by kernel_rfl)]; exact laidMet_laidAll _ (by kernel_rfl) (by kernel_rfl)))) ?_
  intro W base args ds gs before hval hW _ _ _ hL hsh _
  exact chedit_contract H enc W base args ds gs before hval hW hL hsh

set_option maxRecDepth 100000 in
theorem chedit_said : Rows.ChangeEditsSaid :=
  OpenClaim.holds_of_cond 7 Tryz.f7 rfl rfl rfl rfl rfl rfl rfl ⟨rfl, rfl, rfl, rfl, rfl⟩ rfl rfl rfl rfl rfl (by kernel_rfl) Tryz.func7 (by kernel_rfl)
    (of_decide_eq_true (by kernel_rfl)) (by unfold Func.isWrapper; first | (rw [if_pos (by decide +kernel)]; kernel_rfl) | (rw [if_neg (by decide +kernel)]; exact ⟨rfl, rfl⟩))
    (fun os started H enc _ F => by rw [OpenClaim.pre_eq_preRow]; exact chedit_lifted os started H enc F)

set_option maxRecDepth 100000 in
theorem chedit_plain (f : FuncId) (fn : Func) (hf : Tryz.pinned.checked.prog.funcNamed "identity/identitylaw16.ChangeEdits" = some f) (hfn : Tryz.pinned.checked.prog.funcs[f]? = some fn) :
    false = Tryz.pinned.checked.prog.looks [] ∧ ∀ (j : Nat) t, fn.params[j]? = some t → Tryz.pinned.checked.prog.wantsStandIn t = false := by
  obtain rfl : f = 7 := Option.some.inj ((show Tryz.prog.funcNamed "identity/identitylaw16.ChangeEdits" = some 7 by kernel_rfl).symm.trans hf) |>.symm
  obtain rfl : fn = Tryz.f7 := (Option.some.inj (Tryz.func7.symm.trans hfn)).symm
  refine ⟨by kernel_rfl, fun j t ht => ?_⟩
  rw [Tryz.params7] at ht
  have hm : t ∈ [9, 48, 48] := by simpa using Array.mem_of_getElem? ht
  have hall : ([9, 48, 48].all fun u => !Tryz.prog.wantsStandIn u) = true := by kernel_rfl
  exact (show Tryz.prog.wantsStandIn t = false by simpa using List.all_eq_true.1 hall t hm)

/-- THE CARD -/
theorem chedit_card : Rows.ChangeEditsCardSaid :=
  Claim7.holds_tied_plain_at .later [] _ _ _ _ chedit_said (fun _ h => by cases h) (by kernel_rfl) (fun _ h => by cases h) changeEdits_row_tie rfl ⟨rfl, rfl⟩ (by kernel_rfl) rfl chedit_plain (by kernel_rfl)
end Go.Proofs.YtbkignlbcneddaaGreatDoor
end
