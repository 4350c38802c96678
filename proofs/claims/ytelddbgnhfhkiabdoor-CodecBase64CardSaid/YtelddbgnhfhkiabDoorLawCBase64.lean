/-
  Proved: identitylaw02.CodecBase64 returns true for every two strings (the tied card). No condition beyond the row's own.
-/
import Derived.Test.YtelddbgnhfhkiabDoorLawFrameB
import Derived.Test.YtelddbgnhfhkiabDoorCodecHigh
import Derived.Test.YtelddbgnhfhkiabDoorCodecRR64
set_option linter.unusedVariables false
set_option linter.unusedSimpArgs false
set_option linter.unnecessarySimpa false
namespace Go.Proofs.YtelddbgnhfhkiabDoor
open Go.ChangeShapes Go.WideShapes Go.ChangeAt Go.RowKit Go.PlainAid
open Go.ChangeMaps (open_string shut_string)

theorem readBase64_h (s r : ByteArray) (e0 : Int) (w : World) (hs : s.size ≤ 1000000000) (h : r64S s = r ∧ r64E s = e0) :
    Calls Tryd.prog 17 #[.string s] w fun e w' => e = .returned (.tuple #[.string r, .int .i64 e0]) ∧ Below w.heap.size w w' := by
  obtain ⟨rfl, rfl⟩ := h; exact readBase64_s s w hs (.inr high_idx)
theorem rreadBase64_k (s r : ByteArray) (e0 : Int) (w : World) (hs : s.size ≤ 1000000) (h : r64S s = r ∧ r64E s = e0) :
    Calls Tryd.prog 18 #[.string s] w fun e w' => e = .returned (.tuple #[.string r, .int .i64 e0]) ∧ Below w.heap.size w w' := by
  obtain ⟨rfl, rfl⟩ := h; exact rreadBase64_s s w hs
theorem r64_some {s : ByteArray} {o : List UInt8} (h : read64 s.data.toList = some o) : r64S s = ofL o ∧ r64E s = 0 := by
  unfold r64S r64E; rw [h]; exact ⟨rfl, rfl⟩
theorem r64_none {s : ByteArray} (h : read64 s.data.toList = none) : r64S s = ⟨#[]⟩ ∧ r64E s = 4 := by
  unfold r64S r64E; rw [h]; exact ⟨rfl, rfl⟩

set_option maxRecDepth 100000 in
set_option maxHeartbeats 4000000 in
theorem base64l_s (s t : ByteArray) (w : World) (ho : COk w) :
    Calls Tryd.prog 5 #[.string s, .string t] w fun e w' => e = .returned (.bool true) ∧ Below w.heap.size w w' := by
  have B0 := Below.refl w.heap.size w
  have O0 := ho
  by_cases h1 : 300 < s.size
  · skip
    go_enter Tryd.func5, Tryd.ntmps5
    go_wp2_with fail
    refine (live_s _ O0).mono ?_
    rintro e w1 ⟨rfl, hb⟩
    have B1 := B0.trans (hb.mono B0.size)
    have O1 := O0.below hb
    clear hb
    go_wp2_with fail
    go_ret
    exact ⟨rfl, B1⟩
  by_cases h2 : 300 < t.size
  · skip
    go_enter Tryd.func5, Tryd.ntmps5
    go_wp2_with fail
    refine (live_s _ O0).mono ?_
    rintro e w1 ⟨rfl, hb⟩
    have B1 := B0.trans (hb.mono B0.size)
    have O1 := O0.below hb
    clear hb
    go_wp2_with fail
    go_ret
    exact ⟨rfl, B1⟩
  · obtain ⟨b, hb⟩ : ∃ b, b = b64S s := ⟨_, rfl⟩
    have hbl : b.size = (4 * s.size + 2) / 3 := by
      rw [hb, Lib.size_eq s, ← enc_length]; rfl
    have hbz : b.size ≤ 1000 := by omega
    have hq1 : (4 * (s.size : Int) + 2).tdiv 3 = (b.size : Int) := by rw [Int.tdiv_eq_ediv_of_nonneg (by omega)]; omega
    have hq2 : (4 * (s.size : Int) + 2) / 3 = (b.size : Int) := by omega
    have HB := Lib.hid hb.symm
    have HR := Lib.hid (show r64S b = s ∧ r64E b = 0 by
      have h := r64_some (show read64 b.data.toList = some s.data.toList by rw [hb]; exact read_enc _)
      rw [h.1, h.2]; exact ⟨Lib.mk_data s, rfl⟩)
    clear hb hbl
    cases hu : read64 t.data.toList with
    | none =>
      have HT := Lib.hid (r64_none hu)
      clear hu
      go_enter Tryd.func5, Tryd.ntmps5
      go_wp2_with fail
      refine (base64_k s b _ (by omega) HB.out).mono ?_
      rintro e w1 ⟨rfl, hb⟩
      have B1 := B0.trans (hb.mono B0.size)
      have O1 := O0.below hb
      clear hb
      go_wp2_with fail
      refine (readBase64_h b s 0 _ (by omega) HR.out).mono ?_
      rintro e w2 ⟨rfl, hb⟩
      have B2 := B1.trans (hb.mono B1.size)
      have O2 := O1.below hb
      clear hb
      go_wp2_with fail
      refine (readBase64_h t ⟨#[]⟩ 4 _ (by omega) HT.out).mono ?_
      rintro e w3 ⟨rfl, hb⟩
      have B3 := B2.trans (hb.mono B2.size)
      have O3 := O2.below hb
      clear hb
      go_wp2_with fail
      refine (rreadBase64_k t ⟨#[]⟩ 4 _ (by omega) HT.out).mono ?_
      rintro e w4 ⟨rfl, hb⟩
      have B4 := B3.trans (hb.mono B3.size)
      have O4 := O3.below hb
      clear hb
      go_wp2_with fail
      refine (rbase64_k s b _ (by omega) HB.out).mono ?_
      rintro e w5 ⟨rfl, hb⟩
      have B5 := B4.trans (hb.mono B4.size)
      have O5 := O4.below hb
      clear hb
      go_wp2_with fail
      refine (live_s _ O5).mono ?_
      rintro e w6 ⟨rfl, hb⟩
      have B6 := B5.trans (hb.mono B5.size)
      have O6 := O5.below hb
      clear hb
      go_wp2_with fail
      go_ret
      exact ⟨rfl, B6⟩
    | some o =>
      obtain ⟨v, hv⟩ : ∃ v, v = ofL o := ⟨_, rfl⟩
      have HT := Lib.hid (show r64S t = v ∧ r64E t = 0 by rw [hv]; exact r64_some hu)
      have HV := Lib.hid (show b64S v = t by
        rw [hv]; unfold b64S
        have e : (ofL o).data.toList = o := rfl
        rw [e, enc_read hu]; exact Lib.mk_data t)
      have hvz : v.size ≤ 1000000000 := by
        have h3 := congrArg List.length (enc_read hu)
        rw [enc_length, ← Lib.size_eq] at h3
        rw [hv]; show o.length ≤ _; omega
      clear hu hv
      go_enter Tryd.func5, Tryd.ntmps5
      go_wp2_with fail
      refine (base64_k s b _ (by omega) HB.out).mono ?_
      rintro e w1 ⟨rfl, hb⟩
      have B1 := B0.trans (hb.mono B0.size)
      have O1 := O0.below hb
      clear hb
      go_wp2_with fail
      refine (readBase64_h b s 0 _ (by omega) HR.out).mono ?_
      rintro e w2 ⟨rfl, hb⟩
      have B2 := B1.trans (hb.mono B1.size)
      have O2 := O1.below hb
      clear hb
      go_wp2_with fail
      refine (readBase64_h t v 0 _ (by omega) HT.out).mono ?_
      rintro e w3 ⟨rfl, hb⟩
      have B3 := B2.trans (hb.mono B2.size)
      have O3 := O2.below hb
      clear hb
      go_wp2_with fail
      refine (rreadBase64_k t v 0 _ (by omega) HT.out).mono ?_
      rintro e w4 ⟨rfl, hb⟩
      have B4 := B3.trans (hb.mono B3.size)
      have O4 := O3.below hb
      clear hb
      go_wp2_with fail
      refine (rbase64_k s b _ (by omega) HB.out).mono ?_
      rintro e w5 ⟨rfl, hb⟩
      have B5 := B4.trans (hb.mono B4.size)
      have O5 := O4.below hb
      clear hb
      go_wp2_with fail
      refine (base64_k v t _ hvz HV.out).mono ?_
      rintro e w6 ⟨rfl, hb⟩
      have B6 := B5.trans (hb.mono B5.size)
      have O6 := O5.below hb
      clear hb
      go_wp2_with fail
      refine (live_s _ O6).mono ?_
      rintro e w7 ⟨rfl, hb⟩
      have B7 := B6.trans (hb.mono B6.size)
      have O7 := O6.below hb
      clear hb
      go_wp2_with fail
      go_ret
      exact ⟨rfl, B7⟩

theorem base64l_types : ∀ t ∈ [9, 9], Tryd.prog.readableRec t = true ∧ t < Tryd.prog.types.size := by
  have h : ([9, 9].all fun t => Tryd.prog.readableRec t && decide (t < Tryd.prog.types.size)) = true := by kernel_rfl
  intro t ht
  have := List.all_eq_true.1 h t ht
  simpa using this

set_option maxRecDepth 100000 in
theorem base64l_contract (H : Type) (enc : TypeId × Value → H) (W : World) (base : Nat) (args : Array Value) (ds gs : List (DataW H)) (before : List MemPlace)
    (hval : ∀ (j : Nat) t v, Tryd.f5.params[j]? = some t → args[j]? = some v → Value.okWide Tryd.prog W .any base t v)
    (hW : DataW.Whole enc Tryd.prog Tryd.f5.params.toList Rows.codecBase64Spec.vars false W args.toList ds gs before) (hL : laidMetH Tryd.prog Rows.codecBase64Row.laid W) (hsh : W.ShapedOpen Tryd.prog) :
    Calls Tryd.prog 5 args W fun e W' => ∃ v, e = .returned v ∧ Rows.codecBase64Spec.post enc Tryd.prog Tryd.f5 false true false false W args v W' := by
  have hW' := hW
  obtain ⟨p, q, hA0, hV, rfl, hfz, hnd⟩ := hW
  have hA : DataW.TrodAll enc Tryd.prog W 0 (fun _ => true) true Tryd.f5.params.toList args.toList ds p := hA0
  obtain ⟨rfl, rfl⟩ := trodVars_none hV
  simp only [List.append_nil] at hW'
  have hlt : ∀ x ∈ p, x.block < W.heap.size := fun x hx => by simpa using hW'.lt x hx
  have fin : ∀ W', Below W.heap.size W W' → DataW.TrodAll enc Tryd.prog W' 0 (fun b => decide (b < W.heap.size)) true [9, 9] args.toList ds p := fun W' hb => by
    rw [Tryd.params5] at hA
    exact trodAll_below hb _ _ _ _ base64l_types hA hlt
  clear hA0
  rw [Tryd.params5] at hA hval
  obtain ⟨v0, vs0, d0, ds0, p0, q0, hargs, rfl, hp0, h0, r0⟩ := trodAll_cons hA
  obtain ⟨v1, vs1, d1, ds1, p1, q1, rfl, rfl, hp1, h1, r1⟩ := trodAll_cons r0
  obtain ⟨rfl, rfl, rfl⟩ := trodAll_nil r1
  obtain rfl : args = #[v0, v1] := by cases args; simp_all
  obtain ⟨s, rfl, rfl, rfl, hs0⟩ := open_string Tryd.underlying9 (hval 0 9 v0 rfl rfl) h0
  obtain ⟨t, rfl, rfl, rfl, hs1⟩ := open_string Tryd.underlying9 (hval 1 9 v1 rfl rfl) h1
  refine (base64l_s s t W (cok hL hsh)).mono fun e W' ⟨he, hb⟩ => ?_
  subst he
  exact ⟨_, rfl, _, _, _, [], p, [], hW', trodAll_mk1 (shut_bool Tryd.underlying4 _), fin W' hb, rfl, hb.frame _, fun h => by cases h⟩

set_option maxRecDepth 100000 in
theorem base64l_lifted (os : Os) (started : os.Started) (H : Type) (enc : TypeId × Value → H) (F : Stop.Interp) :
    ReturnsInHanded {} Tryd.checked os 5 .any ((OpenSpec.ofChange Rows.codecBase64Spec).preRow enc Tryd.prog Tryd.f5 Rows.codecBase64Row.domain false Rows.codecBase64Row.laid) (((OpenSpec.ofChange Rows.codecBase64Spec).at F).post enc Tryd.prog Tryd.f5 false true false false) := by
  refine returnsInHanded_of_row (C := Tryd.checked) (s := OpenSpec.ofChange Rows.codecBase64Spec) own started (by kernel_rfl) Tryd.func5
    (witness_row (enc := enc) (C := Tryd.checked) false (World.laidAll Tryd.prog os Rows.codecBase64Row.laid) #[.string ⟨#[]⟩, .string ⟨#[]⟩] (World.laidAll_os _ _ _)
      (World.shaped_of_ZipB (by kernel_rfl) (by kernel_rfl)) (by kernel_rfl)
      (OpenSpec.preRow_of_cond 8 (x := ([.lit (.string []), .lit (.string [])], [], [])) (by kernel_rfl) (by kernel_rfl) (fun k hk => by cases hk) (by kernel_rfl)
        (by rw [MakeChecks.laidMetH_plain _ _ _ (by kernel_rfl)]; exact laidMet_laidAll _ (by kernel_rfl) (by kernel_rfl)))) ?_
  intro W base args ds gs before hval hW _ _ _ hL hsh _
  exact base64l_contract H enc W base args ds gs before hval hW hL hsh

set_option maxRecDepth 100000 in
theorem base64l_said : Rows.CodecBase64Said :=
  OpenClaim.holds_of_cond 5 Tryd.f5 rfl rfl rfl rfl rfl rfl rfl ⟨rfl, rfl, rfl, rfl, rfl⟩ rfl rfl rfl rfl rfl (by kernel_rfl) Tryd.func5 (by kernel_rfl)
    (of_decide_eq_true (by kernel_rfl)) (by unfold Func.isWrapper; first | (rw [if_pos (by decide +kernel)]; kernel_rfl) | (rw [if_neg (by decide +kernel)]; exact ⟨rfl, rfl⟩))
    (fun os started H enc _ F => by rw [OpenClaim.pre_eq_preRow]; exact base64l_lifted os started H enc F)

set_option maxRecDepth 100000 in
theorem base64l_plain (f : FuncId) (fn : Func) (hf : Tryd.pinned.checked.prog.funcNamed "identity/identitylaw02.CodecBase64" = some f) (hfn : Tryd.pinned.checked.prog.funcs[f]? = some fn) :
    true = Tryd.pinned.checked.prog.looks [] ∧ ∀ (j : Nat) t, fn.params[j]? = some t → Tryd.pinned.checked.prog.wantsStandIn t = false := by
  obtain rfl : f = 5 := Option.some.inj ((show Tryd.prog.funcNamed "identity/identitylaw02.CodecBase64" = some 5 by kernel_rfl).symm.trans hf) |>.symm
  obtain rfl : fn = Tryd.f5 := (Option.some.inj (Tryd.func5.symm.trans hfn)).symm
  refine ⟨by kernel_rfl, fun j t ht => ?_⟩
  rw [Tryd.params5] at ht
  have hm : t ∈ [9, 9] := by simpa using Array.mem_of_getElem? ht
  have hall : ([9, 9].all fun u => !Tryd.prog.wantsStandIn u) = true := by kernel_rfl
  exact (show Tryd.prog.wantsStandIn t = false by simpa using List.all_eq_true.1 hall t hm)

/-- THE CARD -/
theorem base64l_card : Rows.CodecBase64CardSaid :=
  Claim7.holds_tied_plain_at .later [] _ _ _ _ base64l_said (fun _ h => by cases h) (by kernel_rfl) (fun _ h => by cases h) codecBase64_row_tie rfl ⟨rfl, rfl⟩ (by kernel_rfl) rfl base64l_plain (by kernel_rfl)
end Go.Proofs.YtelddbgnhfhkiabDoor
