/-
  Proved: identitylaw15.CsnChecks returns true for every list of numbers (the tied card). No condition beyond the row's own.
-/
import Derived.Test.YtcnhkoijphfibaaDoorCsnLaws
import Derived.Test.YtcnhkoijphfibaaDoorCsnR1
set_option linter.unusedVariables false
set_option linter.unusedSimpArgs false
set_option linter.unnecessarySimpa false
namespace Go.Proofs.YtcnhkoijphfibaaDoor
open Go.ChangeShapes Go.WideShapes Go.ChangeAt Go.RowKit Go.PlainAid
open Go.ChangeMaps (open_string shut_string)

theorem few_k (ao : Option Addr) (n cap : Nat) (r : Bool) (w : World) (h : decide (n ≤ 12) = r) :
    Calls Tryd.prog 24 #[.slice ao n cap] w fun e w' => e = .returned (.bool r) ∧ w = w' := by subst h; exact few_s ao n cap w
theorem rcheck_k (ao : Option Addr) (n cap : Nat) (l : List Cn) (x : Int) (w : World) (h : CnsAt w ao n cap l) (hx : chkC l = x) :
    Calls Tryd.prog 26 #[.slice ao n cap] w fun e w' => e = .returned (.int .i64 x) ∧ Below w.heap.size w w' := by
  subst hx; exact rcheck_s ao n cap l w h
set_option maxRecDepth 100000 in
set_option maxHeartbeats 16000000 in
theorem checks_s (a : Option Addr) (an ac : Nat) (al : List Cn) (w : World) (ha : CnsAt w a an ac al) (ho : WOk w) :
    Calls Tryd.prog 7 #[.slice a an ac] w fun e w' => e = .returned (.bool true) ∧ Below w.heap.size w w' := by
  have HW := Lib.hid (Below.refl w.heap.size w)
  have HO := Lib.hid ho
  have HA := Lib.hid ha
  clear ha ho
  obtain ⟨x, hx⟩ : ∃ x, chkC al = x := ⟨_, rfl⟩
  have HX := Lib.hid hx
  clear hx
  have qx : (x == x) = true := beq_self_eq_true _
  by_cases fa : an ≤ 12
  · go_enter Tryd.func7, Tryd.ntmps7
    go_wp2_with fail
    refine (few_k a an ac true _ (decide_eq_true (by omega))).mono ?_
    rintro e w' ⟨rfl, rfl⟩
    go_wp2_with fail
    refine (check_k a an ac al x _ HA.out HX.out).mono ?_
    rintro e w1 ⟨rfl, hb⟩
    have HW := Lib.hid (HW.out.trans (hb.mono HW.out.size))
    have HO := Lib.hid (HO.out.below hb)
    have HA := Lib.hid (HA.out.below hb)
    clear hb
    go_wp2_with fail
    refine (rcheck_k a an ac al x _ HA.out HX.out).mono ?_
    rintro e w2 ⟨rfl, hb⟩
    have HW := Lib.hid (HW.out.trans (hb.mono HW.out.size))
    have HO := Lib.hid (HO.out.below hb)
    have HA := Lib.hid (HA.out.below hb)
    clear hb
    go_wp2_with fail
    refine (live_s _ HO.out).mono ?_
    rintro e w3 ⟨rfl, hb⟩
    have HW := Lib.hid (HW.out.trans (hb.mono HW.out.size))
    have HO := Lib.hid (HO.out.below hb)
    have HA := Lib.hid (HA.out.below hb)
    clear hb
    go_wp2_with fail
    go_ret
    exact ⟨rfl, HW.out⟩
  · go_enter Tryd.func7, Tryd.ntmps7
    go_wp2_with fail
    refine (few_k a an ac false _ (decide_eq_false (by omega))).mono ?_
    rintro e w' ⟨rfl, rfl⟩
    go_wp2_with fail
    refine (live_s _ HO.out).mono ?_
    rintro e w1 ⟨rfl, hb⟩
    have HW := Lib.hid (HW.out.trans (hb.mono HW.out.size))
    have HO := Lib.hid (HO.out.below hb)
    have HA := Lib.hid (HA.out.below hb)
    clear hb
    go_wp2_with fail
    go_ret
    exact ⟨rfl, HW.out⟩

theorem checks_types : ∀ t ∈ [39], Tryd.prog.readableRec t = true ∧ t < Tryd.prog.types.size := by
  have h : ([39].all fun t => Tryd.prog.readableRec t && decide (t < Tryd.prog.types.size)) = true := by kernel_rfl
  intro t ht
  have := List.all_eq_true.1 h t ht
  simpa using this

set_option maxRecDepth 100000 in
theorem checks_contract (H : Type) (enc : TypeId × Value → H) (W : World) (base : Nat) (args : Array Value) (ds gs : List (DataW H)) (before : List MemPlace)
    (hval : ∀ (j : Nat) t v, Tryd.f7.params[j]? = some t → args[j]? = some v → Value.okWide Tryd.prog W .any base t v)
    (hW : DataW.Whole enc Tryd.prog Tryd.f7.params.toList Rows.csnChecksSpec.vars false W args.toList ds gs before) (hL : laidMetH Tryd.prog Rows.csnChecksRow.laid W) (hsh : W.ShapedOpen Tryd.prog) :
    Calls Tryd.prog 7 args W fun e W' => ∃ v, e = .returned v ∧ Rows.csnChecksSpec.post enc Tryd.prog Tryd.f7 false true false false W args v W' := by
  have hW' := hW
  obtain ⟨p, q, hA0, hV, rfl, hfz, hnd⟩ := hW
  have hA : DataW.TrodAll enc Tryd.prog W 0 (fun _ => true) true Tryd.f7.params.toList args.toList ds p := hA0
  obtain ⟨rfl, rfl⟩ := trodVars_none hV
  simp only [List.append_nil] at hW'
  have hlt : ∀ x ∈ p, x.block < W.heap.size := fun x hx => by simpa using hW'.lt x hx
  have fin : ∀ W', Below W.heap.size W W' → DataW.TrodAll enc Tryd.prog W' 0 (fun b => decide (b < W.heap.size)) true [39] args.toList ds p := fun W' hb => by
    rw [Tryd.params7] at hA
    exact trodAll_below hb _ _ _ _ checks_types hA hlt
  clear hA0
  rw [Tryd.params7] at hA hval
  obtain ⟨v0, vs0, d0, ds0, p0, q0, hargs, rfl, hp0, h0, r0⟩ := trodAll_cons hA
  obtain ⟨rfl, rfl, rfl⟩ := trodAll_nil r0
  obtain rfl : args = #[v0] := by cases args; simp_all
  obtain ⟨a, an, ac, al, rfl, hs0⟩ := open_cns (hval 0 39 v0 rfl rfl) h0
  refine (checks_s a an ac al W hs0 (wok_of hL hsh)).mono fun e W' ⟨he, hb⟩ => ?_
  subst he
  exact ⟨_, rfl, _, _, _, [], p, [], hW', trodAll_mk1 (shut_bool Tryd.underlying4 _), fin W' hb, rfl, hb.frame _, fun h => by cases h⟩

set_option maxRecDepth 100000 in
theorem checks_lifted (os : Os) (started : os.Started) (H : Type) (enc : TypeId × Value → H) (F : Stop.Interp) :
    ReturnsInHanded {} Tryd.checked os 7 .any ((OpenSpec.ofChange Rows.csnChecksSpec).preRow enc Tryd.prog Tryd.f7 Rows.csnChecksRow.domain false Rows.csnChecksRow.laid) (((OpenSpec.ofChange Rows.csnChecksSpec).at F).post enc Tryd.prog Tryd.f7 false true false false) := by
  refine returnsInHanded_of_row (C := Tryd.checked) (s := OpenSpec.ofChange Rows.csnChecksSpec) own started (by kernel_rfl) Tryd.func7
    (witness_row (enc := enc) (C := Tryd.checked) false (World.laidAll Tryd.prog os Rows.csnChecksRow.laid) #[.slice none 0 0] (World.laidAll_os _ _ _)
      (World.shaped_of_ZipB (by kernel_rfl) (by kernel_rfl)) (by kernel_rfl)
      (OpenSpec.preRow_of_cond 8 (x := ([.nil], [], [])) (by kernel_rfl) (by kernel_rfl) (fun k hk => by cases hk) (by kernel_rfl)
        (by rw [MakeChecks.laidMetH_plain _ _ _ (by kernel_rfl)]; exact laidMet_laidAll _ (by kernel_rfl) (by kernel_rfl)))) ?_
  intro W base args ds gs before hval hW _ _ _ hL hsh _
  exact checks_contract H enc W base args ds gs before hval hW hL hsh

set_option maxRecDepth 100000 in
theorem checks_said : Rows.CsnChecksSaid :=
  OpenClaim.holds_of_cond 7 Tryd.f7 rfl rfl rfl rfl rfl rfl rfl ⟨rfl, rfl, rfl, rfl, rfl⟩ rfl rfl rfl rfl rfl (by kernel_rfl) Tryd.func7 (by kernel_rfl)
    (of_decide_eq_true (by kernel_rfl)) (by unfold Func.isWrapper; first | (rw [if_pos (by decide +kernel)]; kernel_rfl) | (rw [if_neg (by decide +kernel)]; exact ⟨rfl, rfl⟩))
    (fun os started H enc _ F => by rw [OpenClaim.pre_eq_preRow]; exact checks_lifted os started H enc F)

set_option maxRecDepth 100000 in
theorem checks_plain (f : FuncId) (fn : Func) (hf : Tryd.pinned.checked.prog.funcNamed "identity/identitylaw15.CsnChecks" = some f) (hfn : Tryd.pinned.checked.prog.funcs[f]? = some fn) :
    false = Tryd.pinned.checked.prog.looks [] ∧ ∀ (j : Nat) t, fn.params[j]? = some t → Tryd.pinned.checked.prog.wantsStandIn t = false := by
  obtain rfl : f = 7 := Option.some.inj ((show Tryd.prog.funcNamed "identity/identitylaw15.CsnChecks" = some 7 by kernel_rfl).symm.trans hf) |>.symm
  obtain rfl : fn = Tryd.f7 := (Option.some.inj (Tryd.func7.symm.trans hfn)).symm
  refine ⟨by kernel_rfl, fun j t ht => ?_⟩
  rw [Tryd.params7] at ht
  have hm : t ∈ [39] := by simpa using Array.mem_of_getElem? ht
  have hall : ([39].all fun u => !Tryd.prog.wantsStandIn u) = true := by kernel_rfl
  exact (show Tryd.prog.wantsStandIn t = false by simpa using List.all_eq_true.1 hall t hm)

/-- THE CARD -/
theorem checks_card : Rows.CsnChecksCardSaid :=
  Claim7.holds_tied_plain_at .later [] _ _ _ _ checks_said (fun _ h => by cases h) (by kernel_rfl) (fun _ h => by cases h) csnChecks_row_tie rfl ⟨rfl, rfl⟩ (by kernel_rfl) rfl checks_plain (by kernel_rfl)
end Go.Proofs.YtcnhkoijphfibaaDoor
