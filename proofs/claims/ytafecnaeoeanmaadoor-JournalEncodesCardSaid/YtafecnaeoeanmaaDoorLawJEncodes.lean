/-
  Proved: identitylaw19.JournalEncodes returns true for every string (the tied card). No condition beyond the row's own.
-/
import Derived.Test.YtafecnaeoeanmaaDoorJouW
set_option linter.unusedVariables false
set_option linter.unusedSimpArgs false
set_option linter.unnecessarySimpa false
namespace Go.Proofs.YtafecnaeoeanmaaDoor
open Go.ChangeShapes Go.WideShapes Go.ChangeAt Go.RowKit Go.PlainAid
open Go.ChangeMaps (open_string shut_string)

set_option maxRecDepth 100000 in
set_option maxHeartbeats 16000000 in
theorem encodes_s (s : ByteArray) (w : World) (ho : WJ w) :
    Calls Tryd.prog 3 #[.string s] w fun e w' => e = .returned (.bool true) ∧ Below w.heap.size w w' := by
  have HW := Lib.hid (Below.refl w.heap.size w)
  have HO := Lib.hid ho
  clear ho
  by_cases h1 : 3000 < s.size
  · go_enter Tryd.func3, Tryd.ntmps3
    go_wp2_with fail
    refine (live_s _ (HO.out.at HW.out)).mono ?_
    rintro e w1 ⟨rfl, hb⟩
    have HW := Lib.hid (HW.out.trans (hb.mono HW.out.size))
    clear hb
    go_wp2_with fail
    go_ret
    exact ⟨rfl, HW.out⟩
  · obtain ⟨ds, hds⟩ : ∃ x, decS s = x := ⟨_, rfl⟩
    obtain ⟨dn, hdn⟩ : ∃ x, szS ds = x := ⟨_, rfl⟩
    obtain ⟨q, hq⟩ : ∃ x, encS s = x := ⟨_, rfl⟩
    have HD := Lib.hid hds
    have HN := Lib.hid hdn
    have HQ := Lib.hid hq
    clear hds hdn hq
    have q1 : (q.toList == q.toList) = true := by simp
    have q2 : ((dn : Int) == (dn : Int)) = true := by simp
    go_enter Tryd.func3, Tryd.ntmps3
    go_wp2_with fail
    refine (decode_k s ds dn _ (by omega) (HO.out.at HW.out) HD.out HN.out).mono ?_
    rintro e w1 ⟨u, rfl, hu, hb⟩
    obtain ⟨uo, uc, hu'⟩ := row_slice hu
    subst hu'
    have HU := Lib.hid (strs_of hu rfl)
    clear hu
    have HW := Lib.hid (HW.out.trans (hb.mono HW.out.size))
    clear hb
    go_wp2_with fail
    refine (rdecode_k s ds dn _ (by omega) (HO.out.at HW.out) HD.out HN.out).mono ?_
    rintro e w2 ⟨u, rfl, hu, hb⟩
    obtain ⟨vo, vc, hu'⟩ := row_slice hu
    subst hu'
    have HV := Lib.hid (strs_of hu rfl)
    clear hu
    have HW := Lib.hid (HW.out.trans (hb.mono HW.out.size))
    have HU := Lib.hid (HU.out.below hb)
    clear hb
    go_wp2_with fail
    refine (encode_k s q _ (by omega) (HO.out.at HW.out) HQ.out).mono ?_
    rintro e w3 ⟨rfl, hb⟩
    have HW := Lib.hid (HW.out.trans (hb.mono HW.out.size))
    have HU := Lib.hid (HU.out.below hb)
    have HV := Lib.hid (HV.out.below hb)
    clear hb
    go_wp2_with fail
    refine (rencode_k s q _ (by omega) HQ.out).mono ?_
    rintro e w4 ⟨rfl, hb⟩
    have HW := Lib.hid (HW.out.trans (hb.mono HW.out.size))
    have HU := Lib.hid (HU.out.below hb)
    have HV := Lib.hid (HV.out.below hb)
    clear hb
    go_wp2_with fail
    refine (same_k uo vo _ _ uc vc ds ds true _ HU.out HV.out (decide_eq_true rfl)).mono ?_
    rintro e w5 ⟨rfl, hb⟩
    have HW := Lib.hid (HW.out.trans (hb.mono HW.out.size))
    have HU := Lib.hid (HU.out.below hb)
    have HV := Lib.hid (HV.out.below hb)
    clear hb
    go_wp2_with fail
    refine (live_s _ (HO.out.at HW.out)).mono ?_
    rintro e w6 ⟨rfl, hb⟩
    have HW := Lib.hid (HW.out.trans (hb.mono HW.out.size))
    have HU := Lib.hid (HU.out.below hb)
    have HV := Lib.hid (HV.out.below hb)
    clear hb
    go_wp2_with fail
    go_ret
    exact ⟨rfl, HW.out⟩

theorem encodes_types : ∀ t ∈ [9], Tryd.prog.readableRec t = true ∧ t < Tryd.prog.types.size := by
  have h : ([9].all fun t => Tryd.prog.readableRec t && decide (t < Tryd.prog.types.size)) = true := by kernel_rfl
  intro t ht
  have := List.all_eq_true.1 h t ht
  simpa using this

set_option maxRecDepth 100000 in
theorem encodes_contract (H : Type) (enc : TypeId × Value → H) (W : World) (base : Nat) (args : Array Value) (ds gs : List (DataW H)) (before : List MemPlace)
    (hval : ∀ (j : Nat) t v, Tryd.f3.params[j]? = some t → args[j]? = some v → Value.okWide Tryd.prog W .any base t v)
    (hW : DataW.Whole enc Tryd.prog Tryd.f3.params.toList Rows.journalEncodesSpec.vars false W args.toList ds gs before) (hL : laidMetH Tryd.prog Rows.journalEncodesRow.laid W) (hsh : W.ShapedOpen Tryd.prog) :
    Calls Tryd.prog 3 args W fun e W' => ∃ v, e = .returned v ∧ Rows.journalEncodesSpec.post enc Tryd.prog Tryd.f3 false true false false W args v W' := by
  have hW' := hW
  obtain ⟨p, q, hA0, hV, rfl, hfz, hnd⟩ := hW
  have hA : DataW.TrodAll enc Tryd.prog W 0 (fun _ => true) true Tryd.f3.params.toList args.toList ds p := hA0
  obtain ⟨rfl, rfl⟩ := trodVars_none hV
  simp only [List.append_nil] at hW'
  have hlt : ∀ x ∈ p, x.block < W.heap.size := fun x hx => by simpa using hW'.lt x hx
  have fin : ∀ W', Below W.heap.size W W' → DataW.TrodAll enc Tryd.prog W' 0 (fun b => decide (b < W.heap.size)) true [9] args.toList ds p := fun W' hb => by
    rw [Tryd.params3] at hA
    exact trodAll_below hb _ _ _ _ encodes_types hA hlt
  clear hA0
  rw [Tryd.params3] at hA hval
  obtain ⟨v0, vs0, d0, ds0, p0, q0, hargs, rfl, hp0, h0, r0⟩ := trodAll_cons hA
  obtain ⟨rfl, rfl, rfl⟩ := trodAll_nil r0
  obtain rfl : args = #[v0] := by cases args; simp_all
  obtain ⟨s, rfl, rfl, rfl, hs0⟩ := open_string Tryd.underlying9 (hval 0 9 v0 rfl rfl) h0
  refine (encodes_s s W (wj_of hL hsh)).mono fun e W' ⟨he, hb⟩ => ?_
  subst he
  exact ⟨_, rfl, _, _, _, [], p, [], hW', trodAll_mk1 (shut_bool Tryd.underlying4 _), fin W' hb, rfl, hb.frame _, fun h => by cases h⟩

set_option maxRecDepth 100000 in
theorem encodes_lifted (os : Os) (started : os.Started) (H : Type) (enc : TypeId × Value → H) (F : Stop.Interp) :
    ReturnsInHanded {} Tryd.checked os 3 .any ((OpenSpec.ofChange Rows.journalEncodesSpec).preRow enc Tryd.prog Tryd.f3 Rows.journalEncodesRow.domain false Rows.journalEncodesRow.laid) (((OpenSpec.ofChange Rows.journalEncodesSpec).at F).post enc Tryd.prog Tryd.f3 false true false false) := by
  refine returnsInHanded_of_row (C := Tryd.checked) (s := OpenSpec.ofChange Rows.journalEncodesSpec) own started (by kernel_rfl) Tryd.func3
    (witness_row (enc := enc) (C := Tryd.checked) false (World.laidAll Tryd.prog os Rows.journalEncodesRow.laid) #[.string ⟨#[]⟩] (World.laidAll_os _ _ _)
      (World.shaped_of_ZipB (by kernel_rfl) (by kernel_rfl)) (by kernel_rfl)
      (OpenSpec.preRow_of_cond 8 (x := ([.lit (.string [])], [], [])) (by kernel_rfl) (by kernel_rfl) (fun k hk => by cases hk) (by kernel_rfl)
        (by rw [MakeChecks.laidMetH_plain _ _ _ (by kernel_rfl)]; exact laidMet_laidAll _ (by kernel_rfl) (by kernel_rfl)))) ?_
  intro W base args ds gs before hval hW _ _ _ hL hsh _
  exact encodes_contract H enc W base args ds gs before hval hW hL hsh

set_option maxRecDepth 100000 in
theorem encodes_said : Rows.JournalEncodesSaid :=
  OpenClaim.holds_of_cond 3 Tryd.f3 rfl rfl rfl rfl rfl rfl rfl ⟨rfl, rfl, rfl, rfl, rfl⟩ rfl rfl rfl rfl rfl (by kernel_rfl) Tryd.func3 (by kernel_rfl)
    (of_decide_eq_true (by kernel_rfl)) (by unfold Func.isWrapper; first | (rw [if_pos (by decide +kernel)]; kernel_rfl) | (rw [if_neg (by decide +kernel)]; exact ⟨rfl, rfl⟩))
    (fun os started H enc _ F => by rw [OpenClaim.pre_eq_preRow]; exact encodes_lifted os started H enc F)

set_option maxRecDepth 100000 in
theorem encodes_plain (f : FuncId) (fn : Func) (hf : Tryd.pinned.checked.prog.funcNamed "identity/identitylaw19.JournalEncodes" = some f) (hfn : Tryd.pinned.checked.prog.funcs[f]? = some fn) :
    true = Tryd.pinned.checked.prog.looks [] ∧ ∀ (j : Nat) t, fn.params[j]? = some t → Tryd.pinned.checked.prog.wantsStandIn t = false := by
  obtain rfl : f = 3 := Option.some.inj ((show Tryd.prog.funcNamed "identity/identitylaw19.JournalEncodes" = some 3 by kernel_rfl).symm.trans hf) |>.symm
  obtain rfl : fn = Tryd.f3 := (Option.some.inj (Tryd.func3.symm.trans hfn)).symm
  refine ⟨by kernel_rfl, fun j t ht => ?_⟩
  rw [Tryd.params3] at ht
  have hm : t ∈ [9] := by simpa using Array.mem_of_getElem? ht
  have hall : ([9].all fun u => !Tryd.prog.wantsStandIn u) = true := by kernel_rfl
  exact (show Tryd.prog.wantsStandIn t = false by simpa using List.all_eq_true.1 hall t hm)

/-- THE CARD -/
theorem encodes_card : Rows.JournalEncodesCardSaid :=
  Claim7.holds_tied_plain_at .later [] _ _ _ _ encodes_said (fun _ h => by cases h) (by kernel_rfl) (fun _ h => by cases h) journalEncodes_row_tie rfl ⟨rfl, rfl⟩ (by kernel_rfl) rfl encodes_plain (by kernel_rfl)
end Go.Proofs.YtafecnaeoeanmaaDoor
