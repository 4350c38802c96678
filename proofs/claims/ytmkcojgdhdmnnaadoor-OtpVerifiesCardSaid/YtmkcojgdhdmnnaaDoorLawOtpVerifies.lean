/-
  Proved: identitylaw23.OtpVerifies returns true for all arguments (the tied card). No condition beyond the row's own.
-/
import Derived.Test.YtmkcojgdhdmnnaaDoorOtpLaws
import Derived.Deep.RegionHeld3
set_option linter.unusedVariables false
set_option linter.unusedSimpArgs false
set_option linter.unnecessarySimpa false
namespace Go.Proofs.YtmkcojgdhdmnnaaDoor
open Go.ChangeShapes Go.WideShapes Go.ChangeAt Go.RowKit Go.PlainAid
open Go.ChangeMaps (open_string shut_string)

set_option maxRecDepth 100000 in
set_option maxHeartbeats 16000000 in
theorem otverifies_s (x : Tr) (w : World) (hx : InT x) (ho : PowOk w) :
    Calls Tryd.prog 4 #[tV x] w fun e w' => e = .returned (.bool true) ∧ Below w.heap.size w w' := by
  have HO := Lib.hid ho
  clear ho
  have HT := Lib.hid (trI_new w x)
  obtain ⟨sec, code, last, look, now, k, near⟩ := x
  obtain ⟨i0, i1, ⟨l0, l1⟩, ⟨k0, k1⟩, _, _⟩ := hx
  dsimp only at i0 i1 l0 l1 k0 k1
  clear i0 i1
  unfold tB tcells at HT
  unfold tV tcells
  cases hf : fitB ⟨sec, code, last, look, now, k, near⟩
  · have HF := Lib.hid hf
    clear hf
    go_enter Tryd.func4, Tryd.ntmps4
    go_wp2_with fail
    refine (fits_l ⟨sec, code, last, look, now, k, near⟩ false _ HF.out).mono ?_
    rintro e wc1 ⟨rfl, hb⟩
    have HT := Lib.hid (HT.out.step hb)
    clear hb
    obtain ⟨c0, c1, c2, c3, c4, c5, c6⟩ := HT.out.cells
    dsimp only at c0 c1 c2 c3 c4 c5 c6
    go_wp2_with fail
    try clear c0 c1 c2 c3 c4 c5 c6
    refine (alive_s _ (HO.out.below HT.out.low)).mono ?_
    rintro e wc2 ⟨rfl, hb⟩
    have HT := Lib.hid (HT.out.step hb)
    clear hb
    obtain ⟨c0, c1, c2, c3, c4, c5, c6⟩ := HT.out.cells
    dsimp only at c0 c1 c2 c3 c4 c5 c6
    go_wp2_with fail
    try clear c0 c1 c2 c3 c4 c5 c6
    go_ret
    exact ⟨rfl, HT.out.low⟩
  · obtain ⟨t, ht⟩ : ∃ t, typS ⟨sec, code, last, look, now, k, near⟩ = t := ⟨_, rfl⟩
    have hts : t.size ≤ 300 := by rw [← ht]; exact typS_size hf
    have hss : sec.size ≤ 300 := (fit_yes hf).1
    obtain ⟨⟨a, z⟩, hv⟩ : ∃ p, verR sec last look t = p := ⟨_, rfl⟩
    obtain ⟨⟨m, y⟩, hu⟩ : ∃ p, vatR sec last now look t = p := ⟨_, rfl⟩
    have HF := Lib.hid hf
    have HY := Lib.hid ht
    have HV := Lib.hid hv
    have HU := Lib.hid hu
    clear hf ht hv hu
    have e1 := beq_i a
    have e2 := beq_i z
    have e3 := beq_i m
    have e4 := beq_i y
    go_enter Tryd.func4, Tryd.ntmps4
    go_wp2_with fail
    refine (fits_l ⟨sec, code, last, look, now, k, near⟩ true _ HF.out).mono ?_
    rintro e wc3 ⟨rfl, hb⟩
    have HT := Lib.hid (HT.out.step hb)
    clear hb
    obtain ⟨c0, c1, c2, c3, c4, c5, c6⟩ := HT.out.cells
    dsimp only at c0 c1 c2 c3 c4 c5 c6
    go_wp2_with fail
    try clear c0 c1 c2 c3 c4 c5 c6
    refine (typed_l ⟨sec, code, last, look, now, k, near⟩ t _ hss HY.out).mono ?_
    rintro e wc4 ⟨rfl, hb⟩
    have HT := Lib.hid (HT.out.step hb)
    clear hb
    obtain ⟨c0, c1, c2, c3, c4, c5, c6⟩ := HT.out.cells
    dsimp only at c0 c1 c2 c3 c4 c5 c6
    go_wp2_with fail
    try clear c0 c1 c2 c3 c4 c5 c6
    refine (verify_k sec last look t a z _ (by omega) (by omega) l0 l1 k0 k1 (HO.out.below HT.out.low) HV.out).mono ?_
    rintro e wc5 ⟨rfl, hb⟩
    have HT := Lib.hid (HT.out.step hb)
    clear hb
    obtain ⟨c0, c1, c2, c3, c4, c5, c6⟩ := HT.out.cells
    dsimp only at c0 c1 c2 c3 c4 c5 c6
    go_wp2_with fail
    try clear c0 c1 c2 c3 c4 c5 c6
    refine (rverify_k sec last look t a z _ (by omega) (by omega) l0 l1 k0 k1 HV.out).mono ?_
    rintro e wc6 ⟨rfl, hb⟩
    have HT := Lib.hid (HT.out.step hb)
    clear hb
    obtain ⟨c0, c1, c2, c3, c4, c5, c6⟩ := HT.out.cells
    dsimp only at c0 c1 c2 c3 c4 c5 c6
    go_wp2_with fail
    try clear c0 c1 c2 c3 c4 c5 c6
    refine (verifyAt_k sec last now look t m y _ (by omega) (by omega) l0 l1 k0 k1 (HO.out.below HT.out.low) HU.out).mono ?_
    rintro e wc7 ⟨rfl, hb⟩
    have HT := Lib.hid (HT.out.step hb)
    clear hb
    obtain ⟨c0, c1, c2, c3, c4, c5, c6⟩ := HT.out.cells
    dsimp only at c0 c1 c2 c3 c4 c5 c6
    go_wp2_with fail
    try clear c0 c1 c2 c3 c4 c5 c6
    refine (rverifyAt_k sec last now look t m y _ (by omega) (by omega) l0 l1 k0 k1 HU.out).mono ?_
    rintro e wc8 ⟨rfl, hb⟩
    have HT := Lib.hid (HT.out.step hb)
    clear hb
    obtain ⟨c0, c1, c2, c3, c4, c5, c6⟩ := HT.out.cells
    dsimp only at c0 c1 c2 c3 c4 c5 c6
    go_wp2_with fail
    try clear c0 c1 c2 c3 c4 c5 c6
    refine (alive_s _ (HO.out.below HT.out.low)).mono ?_
    rintro e wc9 ⟨rfl, hb⟩
    have HT := Lib.hid (HT.out.step hb)
    clear hb
    obtain ⟨c0, c1, c2, c3, c4, c5, c6⟩ := HT.out.cells
    dsimp only at c0 c1 c2 c3 c4 c5 c6
    go_wp2_with fail
    try clear c0 c1 c2 c3 c4 c5 c6
    go_ret
    exact ⟨rfl, HT.out.low⟩

theorem otverifies_types : ∀ t ∈ [29], Tryd.prog.readableRec t = true ∧ t < Tryd.prog.types.size := by
  have h : ([29].all fun t => Tryd.prog.readableRec t && decide (t < Tryd.prog.types.size)) = true := by kernel_rfl
  intro t ht
  have := List.all_eq_true.1 h t ht
  simpa using this

set_option maxRecDepth 100000 in
theorem otverifies_contract (H : Type) (enc : TypeId × Value → H) (W : World) (base : Nat) (args : Array Value) (ds gs : List (DataW H)) (before : List MemPlace)
    (hval : ∀ (j : Nat) t v, Tryd.f4.params[j]? = some t → args[j]? = some v → Value.okWide Tryd.prog W .any base t v)
    (hW : DataW.Whole enc Tryd.prog Tryd.f4.params.toList Rows.otpVerifiesSpec.vars false W args.toList ds gs before) (hL : laidMetH Tryd.prog Rows.otpVerifiesRow.laid W) (hsh : W.ShapedOpen Tryd.prog) :
    Calls Tryd.prog 4 args W fun e W' => ∃ v, e = .returned v ∧ Rows.otpVerifiesSpec.post enc Tryd.prog Tryd.f4 false true false false W args v W' := by
  have hW' := hW
  obtain ⟨p, q, hA0, hV, rfl, hfz, hnd⟩ := hW
  have hA : DataW.TrodAll enc Tryd.prog W 0 (fun _ => true) true Tryd.f4.params.toList args.toList ds p := hA0
  obtain ⟨rfl, rfl⟩ := trodVars_none hV
  simp only [List.append_nil] at hW'
  have hlt : ∀ x ∈ p, x.block < W.heap.size := fun x hx => by simpa using hW'.lt x hx
  have fin : ∀ W', Below W.heap.size W W' → DataW.TrodAll enc Tryd.prog W' 0 (fun b => decide (b < W.heap.size)) true [29] args.toList ds p := fun W' hb => by
    rw [Tryd.params4] at hA
    exact trodAll_below hb _ _ _ _ otverifies_types hA hlt
  clear hA0
  rw [Tryd.params4] at hA hval
  obtain ⟨v0, vs0, d0, ds0, p0, q0, hargs, rfl, hp0, h0, r0⟩ := trodAll_cons hA
  obtain ⟨rfl, rfl, rfl⟩ := trodAll_nil r0
  obtain rfl : args = #[v0] := by cases args; simp_all
  obtain ⟨x, rfl, hs0⟩ := open_t (hval 0 29 v0 rfl rfl) h0
  refine (otverifies_s x W hs0 (pok hL)).mono fun e W' ⟨he, hb⟩ => ?_
  subst he
  exact ⟨_, rfl, _, _, _, [], p, [], hW', trodAll_mk1 (shut_bool Tryd.underlying4 _), fin W' hb, rfl, hb.frame _, fun h => by cases h⟩

set_option maxRecDepth 100000 in
theorem otverifies_lifted (os : Os) (started : os.Started) (H : Type) (enc : TypeId × Value → H) (F : Stop.Interp) :
    ReturnsInHanded {} Tryd.checked os 4 .any ((OpenSpec.ofChange Rows.otpVerifiesSpec).preRow enc Tryd.prog Tryd.f4 Rows.otpVerifiesRow.domain false Rows.otpVerifiesRow.laid) (((OpenSpec.ofChange Rows.otpVerifiesSpec).at F).post enc Tryd.prog Tryd.f4 false true false false) := by
  refine returnsInHanded_of_row (C := Tryd.checked) (s := OpenSpec.ofChange Rows.otpVerifiesSpec) own started (by kernel_rfl) Tryd.func4
    (witness_row (enc := enc) (C := Tryd.checked) false (World.laidAll Tryd.prog os Rows.otpVerifiesRow.laid) #[.agg #[.string ⟨#[]⟩, .string ⟨#[]⟩, .int .i64 0, .int .i64 0, .int .i64 0, .int .i64 0, .bool false]] (World.laidAll_os _ _ _)
      (World.shaped_of_ZipB (by kernel_rfl) (by kernel_rfl)) (by kernel_rfl)
      (OpenSpec.preRow_of_cond 8 (x := ([.agg [.lit (.string []), .lit (.string []), .lit (.int .i64 0), .lit (.int .i64 0), .lit (.int .i64 0), .lit (.int .i64 0), .lit (.bool false)]], [], [])) (by kernel_rfl) (by kernel_rfl) (fun k hk => by cases hk) (by kernel_rfl)
        (by rw [MakeChecks.laidMetH_plain _ _ _ (by kernel_rfl)]; exact laidMet_laidAll _ (by kernel_rfl) (by kernel_rfl)))) ?_
  intro W base args ds gs before hval hW _ _ _ hL hsh _
  exact otverifies_contract H enc W base args ds gs before hval hW hL hsh

set_option maxRecDepth 100000 in
theorem otverifies_said : Rows.OtpVerifiesSaid :=
  OpenClaim.holds_of_cond 4 Tryd.f4 rfl rfl rfl rfl rfl rfl rfl ⟨rfl, rfl, rfl, rfl, rfl⟩ rfl rfl rfl rfl rfl (by kernel_rfl) Tryd.func4 (by kernel_rfl)
    (of_decide_eq_true (by kernel_rfl)) (by unfold Func.isWrapper; first | (rw [if_pos (by decide +kernel)]; kernel_rfl) | (rw [if_neg (by decide +kernel)]; exact ⟨rfl, rfl⟩))
    (fun os started H enc _ F => by rw [OpenClaim.pre_eq_preRow]; exact otverifies_lifted os started H enc F)

set_option maxRecDepth 100000 in
theorem otverifies_plain (f : FuncId) (fn : Func) (hf : Tryd.pinned.checked.prog.funcNamed "identity/identitylaw23.OtpVerifies" = some f) (hfn : Tryd.pinned.checked.prog.funcs[f]? = some fn) :
    false = Tryd.pinned.checked.prog.looks [] ∧ ∀ (j : Nat) t, fn.params[j]? = some t → Tryd.pinned.checked.prog.wantsStandIn t = false := by
  obtain rfl : f = 4 := Option.some.inj ((show Tryd.prog.funcNamed "identity/identitylaw23.OtpVerifies" = some 4 by kernel_rfl).symm.trans hf) |>.symm
  obtain rfl : fn = Tryd.f4 := (Option.some.inj (Tryd.func4.symm.trans hfn)).symm
  refine ⟨by kernel_rfl, fun j t ht => ?_⟩
  rw [Tryd.params4] at ht
  have hm : t ∈ [29] := by simpa using Array.mem_of_getElem? ht
  have hall : ([29].all fun u => !Tryd.prog.wantsStandIn u) = true := by kernel_rfl
  exact (show Tryd.prog.wantsStandIn t = false by simpa using List.all_eq_true.1 hall t hm)

/-- THE CARD -/
theorem otverifies_card : Rows.OtpVerifiesCardSaid :=
  Claim7.holds_tied_plain_at .later [] _ _ _ _ otverifies_said (fun _ h => by cases h) (by kernel_rfl) (fun _ h => by cases h) otpVerifies_row_tie rfl ⟨rfl, rfl⟩ (by kernel_rfl) rfl otverifies_plain (by kernel_rfl)
end Go.Proofs.YtmkcojgdhdmnnaaDoor
