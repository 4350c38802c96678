/-
  Proved: identitylaw24.KeysChecks returns true for all arguments (the tied card). No condition beyond the row's own.
-/
import Derived.Deep.RegionHeld3
import Derived.Test.YtgepcbggkfjlgaaGreatDoorM16

section
/-
  Proved: identitylaw24.KeysChecks returns true for all arguments (the tied card). No condition beyond the row's own.
-/
set_option linter.unusedVariables false
set_option linter.unusedSimpArgs false
set_option linter.unnecessarySimpa false
namespace Go.Proofs.YtgepcbggkfjlgaaGreatDoor
open Go.ChangeShapes Go.WideShapes Go.ChangeAt Go.RowKit Go.PlainAid
open Go.ChangeMaps (open_string shut_string)

set_option maxRecDepth 100000 in
set_option maxHeartbeats 16000000 in
theorem kchecks_s (l : Option Addr) (ln lc : Nat) (ll : List Ky) (w : World) (hl : KsAt w l ln lc ll) (il : ∀ g ∈ ll, InK g) (ho : WK w) :
    Calls Tryz.prog 3 #[.slice l ln lc] w fun e w' => e = .returned (.bool true) ∧ Below w.heap.size w w' := by
  have HO := Lib.hid ho
  have HK := Lib.hid hl
  have HB := Lib.hid (Below.refl w.heap.size w)
  have hlc := hl.2.1
  have hlm := hl.2.2.1
  unfold maxLen at hlm
  have HLn := Lib.hid hl.1
  clear ho
  cases hg : greatB ll 20
  · have HS := Lib.hid (sm_of hg)
    obtain ⟨z, hz⟩ : ∃ z, chkK ll = z := ⟨_, rfl⟩
    have HZ := Lib.hid hz
    have HG := Lib.hid hg
    have e1 := beq_i z
    clear hz hg hl
    go_enter Tryz.func3, Tryz.ntmps3
    go_wp2_with fail
    refine (great_k l ln lc ll 20 false _ HK.out HG.out).mono ?_
    rintro e w' ⟨rfl, rfl⟩
    go_wp2_with fail
    refine (check_k l ln lc ll z _ HK.out HS.out HZ.out).mono ?_
    rintro e wc1 ⟨rfl, hb⟩
    have HB := Lib.hid (HB.out.trans (hb.mono HB.out.size))
    have HK := Lib.hid (HK.out.below hb)
    clear hb
    go_wp2_with fail
    refine (rcheck_k l ln lc ll z _ HK.out HS.out HZ.out).mono ?_
    rintro e wc2 ⟨rfl, hb⟩
    have HB := Lib.hid (HB.out.trans (hb.mono HB.out.size))
    have HK := Lib.hid (HK.out.below hb)
    clear hb
    go_wp2_with fail
    refine (live_s _ (HO.out.below HB.out)).mono ?_
    rintro e wc3 ⟨rfl, hb⟩
    have HB := Lib.hid (HB.out.trans (hb.mono HB.out.size))
    have HK := Lib.hid (HK.out.below hb)
    clear hb
    go_wp2_with fail
    go_ret
    exact ⟨rfl, HB.out⟩
  · have HG := Lib.hid hg
    clear hg hl
    go_enter Tryz.func3, Tryz.ntmps3
    go_wp2_with fail
    refine (great_k l ln lc ll 20 true _ HK.out HG.out).mono ?_
    rintro e w' ⟨rfl, rfl⟩
    go_wp2_with fail
    refine (live_s _ (HO.out.below HB.out)).mono ?_
    rintro e wc4 ⟨rfl, hb⟩
    have HB := Lib.hid (HB.out.trans (hb.mono HB.out.size))
    have HK := Lib.hid (HK.out.below hb)
    clear hb
    go_wp2_with fail
    go_ret
    exact ⟨rfl, HB.out⟩

theorem kchecks_types : ∀ t ∈ [22], Tryz.prog.readableRec t = true ∧ t < Tryz.prog.types.size := by
  have h : ([22].all fun t => Tryz.prog.readableRec t && decide (t < Tryz.prog.types.size)) = true := by kernel_rfl
  intro t ht
  have := List.all_eq_true.1 h t ht
  simpa using this

set_option maxRecDepth 100000 in
theorem kchecks_contract (H : Type) (enc : TypeId × Value → H) (W : World) (base : Nat) (args : Array Value) (ds gs : List (DataW H)) (before : List MemPlace)
    (hval : ∀ (j : Nat) t v, Tryz.f3.params[j]? = some t → args[j]? = some v → Value.okWide Tryz.prog W .any base t v)
    (hW : DataW.Whole enc Tryz.prog Tryz.f3.params.toList Rows.keysChecksSpec.vars false W args.toList ds gs before) (hL : laidMetH Tryz.prog Rows.keysChecksRow.laid W) (hsh : W.ShapedOpen Tryz.prog) :
    Calls Tryz.prog 3 args W fun e W' => ∃ v, e = .returned v ∧ Rows.keysChecksSpec.post enc Tryz.prog Tryz.f3 false true false false W args v W' := by
  have hW' := hW
  obtain ⟨p, q, hA0, hV, rfl, hfz, hnd⟩ := hW
  have hA : DataW.TrodAll enc Tryz.prog W 0 (fun _ => true) true Tryz.f3.params.toList args.toList ds p := hA0
  obtain ⟨rfl, rfl⟩ := trodVars_none hV
  simp only [List.append_nil] at hW'
  have hlt : ∀ x ∈ p, x.block < W.heap.size := fun x hx => by simpa using hW'.lt x hx
  have fin : ∀ W', Below W.heap.size W W' → DataW.TrodAll enc Tryz.prog W' 0 (fun b => decide (b < W.heap.size)) true [22] args.toList ds p := fun W' hb => by
    rw [Tryz.params3] at hA
    exact trodAll_below hb _ _ _ _ kchecks_types hA hlt
  clear hA0
  rw [Tryz.params3] at hA hval
  obtain ⟨v0, vs0, d0, ds0, p0, q0, hargs, rfl, hp0, h0, r0⟩ := trodAll_cons hA
  obtain ⟨rfl, rfl, rfl⟩ := trodAll_nil r0
  obtain rfl : args = #[v0] := by cases args; simp_all
  obtain ⟨l, ln, lc, ll, rfl, hs0, hi0⟩ := open_ks (hval 0 22 v0 rfl rfl) h0
  refine (kchecks_s l ln lc ll W hs0 hi0 (wk_of hL hsh)).mono fun e W' ⟨he, hb⟩ => ?_
  subst he
  exact ⟨_, rfl, _, _, _, [], p, [], hW', trodAll_mk1 (shut_bool Tryz.underlying4 _), fin W' hb, rfl, hb.frame _, fun h => by cases h⟩

set_option maxRecDepth 100000 in
theorem kchecks_lifted (os : Os) (started : os.Started) (H : Type) (enc : TypeId × Value → H) (F : Stop.Interp) :
    ReturnsInHanded {} Tryz.checked os 3 .any ((OpenSpec.ofChange Rows.keysChecksSpec).preRow enc Tryz.prog Tryz.f3 Rows.keysChecksRow.domain false Rows.keysChecksRow.laid) (((OpenSpec.ofChange Rows.keysChecksSpec).at F).post enc Tryz.prog Tryz.f3 false true false false) := by
  refine returnsInHanded_of_row (C := Tryz.checked) (s := OpenSpec.ofChange Rows.keysChecksSpec) own started (by kernel_rfl) Tryz.func3
    (witness_row (enc := enc) (C := Tryz.checked) false (World.laidAll Tryz.prog os Rows.keysChecksRow.laid) #[.slice none 0 0] (World.laidAll_os _ _ _)
      (World.shaped_of_ZipB (by kernel_rfl) (by kernel_rfl)) (by kernel_rfl)
      (OpenSpec.preRow_of_cond 8 (x := ([.nil], [], [])) (by kernel_rfl) (by kernel_rfl) (fun k hk => by cases hk) (by kernel_rfl)
        (by rw [MakeChecks.laidMetH_plain _ _ _ (by kernel_rfl)]; exact laidMet_laidAll _ (by kernel_rfl) (by kernel_rfl)))) ?_
  intro W base args ds gs before hval hW _ _ _ hL hsh _
  exact kchecks_contract H enc W base args ds gs before hval hW hL hsh

set_option maxRecDepth 100000 in
theorem kchecks_said : Rows.KeysChecksSaid :=
  OpenClaim.holds_of_cond 3 Tryz.f3 rfl rfl rfl rfl rfl rfl rfl ⟨rfl, rfl, rfl, rfl, rfl⟩ rfl rfl rfl rfl rfl (by kernel_rfl) Tryz.func3 (by kernel_rfl)
    (of_decide_eq_true (by kernel_rfl)) (by unfold Func.isWrapper; first | (rw [if_pos (by decide +kernel)]; kernel_rfl) | (rw [if_neg (by decide +kernel)]; exact ⟨rfl, rfl⟩))
    (fun os started H enc _ F => by rw [OpenClaim.pre_eq_preRow]; exact kchecks_lifted os started H enc F)

set_option maxRecDepth 100000 in
theorem kchecks_plain (f : FuncId) (fn : Func) (hf : Tryz.pinned.checked.prog.funcNamed "identity/identitylaw24.KeysChecks" = some f) (hfn : Tryz.pinned.checked.prog.funcs[f]? = some fn) :
    true = Tryz.pinned.checked.prog.looks [] ∧ ∀ (j : Nat) t, fn.params[j]? = some t → Tryz.pinned.checked.prog.wantsStandIn t = false := by
  obtain rfl : f = 3 := Option.some.inj ((show Tryz.prog.funcNamed "identity/identitylaw24.KeysChecks" = some 3 by kernel_rfl).symm.trans hf) |>.symm
  obtain rfl : fn = Tryz.f3 := (Option.some.inj (Tryz.func3.symm.trans hfn)).symm
  refine ⟨by kernel_rfl, fun j t ht => ?_⟩
  rw [Tryz.params3] at ht
  have hm : t ∈ [22] := by simpa using Array.mem_of_getElem? ht
  have hall : ([22].all fun u => !Tryz.prog.wantsStandIn u) = true := by kernel_rfl
  exact (show Tryz.prog.wantsStandIn t = false by simpa using List.all_eq_true.1 hall t hm)

/-- THE CARD -/
theorem kchecks_card : Rows.KeysChecksCardSaid :=
  Claim7.holds_tied_plain_at .later [] _ _ _ _ kchecks_said (fun _ h => by cases h) (by kernel_rfl) (fun _ h => by cases h) keysChecks_row_tie rfl ⟨rfl, rfl⟩ (by kernel_rfl) rfl kchecks_plain (by kernel_rfl)
end Go.Proofs.YtgepcbggkfjlgaaGreatDoor
end
