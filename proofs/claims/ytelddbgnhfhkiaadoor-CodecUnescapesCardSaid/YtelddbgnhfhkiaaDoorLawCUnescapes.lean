/-
  Proved: identitylaw02.CodecUnescapes returns true for every string (the tied card). No condition beyond the row's own.
-/
import Derived.Test.YtelddbgnhfhkiaaDoorLawFrameB
import Derived.Test.YtelddbgnhfhkiaaDoorCodecRUn
set_option linter.unusedVariables false
set_option linter.unusedSimpArgs false
set_option linter.unnecessarySimpa false
namespace Go.Proofs.YtelddbgnhfhkiaaDoor
open Go.ChangeShapes Go.WideShapes Go.ChangeAt Go.RowKit Go.PlainAid
open Go.ChangeMaps (open_string shut_string)

theorem runescape_no (s : ByteArray) (w : World) (hs : s.size ≤ 1000000000) (h : unesc s.data.toList = none) :
    Calls Tryd.prog 37 #[.string s] w fun e w' => e = .returned (.tuple #[.string ⟨#[]⟩, .int .i64 4]) ∧ Below w.heap.size w w' :=
  (runescape_s s w hs).mono fun e w' k => ⟨by rw [k.1, (unS_none h).1, (unS_none h).2], k.2⟩
theorem runescape_ok (s : ByteArray) (x : List UInt8) (w : World) (hs : s.size ≤ 1000000000) (h : unesc s.data.toList = some x) :
    Calls Tryd.prog 37 #[.string s] w fun e w' => e = .returned (.tuple #[.string (ofL x), .int .i64 0]) ∧ Below w.heap.size w w' :=
  (runescape_s s w hs).mono fun e w' k => ⟨by rw [k.1, (unS_some h).1, (unS_some h).2], k.2⟩
theorem esc_back (s : ByteArray) (m : List UInt8) (h : unesc s.data.toList = some m) : (⟨(escL (ofL m).data.toList).toArray⟩ : ByteArray) = s := by
  have e : (ofL m).data.toList = m := rfl
  rw [e, esc_unesc _ _ h]

set_option maxRecDepth 100000 in
set_option maxHeartbeats 4000000 in
theorem unescapes_s (s : ByteArray) (w : World) (ho : COk w) :
    Calls Tryd.prog 11 #[.string s] w fun e w' => e = .returned (.bool true) ∧ Below w.heap.size w w' := by
  have B0 := Below.refl w.heap.size w
  have O0 := ho
  by_cases h1 : 600 < s.size
  · skip
    go_enter Tryd.func11, Tryd.ntmps11
    go_wp2_with fail
    refine (live_s _ O0).mono ?_
    rintro e w1 ⟨rfl, hb⟩
    have B1 := B0.trans (hb.mono B0.size)
    have O1 := O0.below hb
    clear hb
    go_wp2_with fail
    go_ret
    exact ⟨rfl, B1⟩
  · cases hu : unesc s.data.toList with
    | none =>
      go_enter Tryd.func11, Tryd.ntmps11
      go_wp2_with fail
      refine (unescape_no s _ (by omega) hu).mono ?_
      rintro e w1 ⟨rfl, hb⟩
      have B1 := B0.trans (hb.mono B0.size)
      have O1 := O0.below hb
      clear hb
      go_wp2_with fail
      refine (runescape_no s _ (by omega) hu).mono ?_
      rintro e w2 ⟨rfl, hb⟩
      have B2 := B1.trans (hb.mono B1.size)
      have O2 := O1.below hb
      clear hb
      go_wp2_with fail
      refine (live_s _ O2).mono ?_
      rintro e w3 ⟨rfl, hb⟩
      have B3 := B2.trans (hb.mono B2.size)
      have O3 := O2.below hb
      clear hb
      go_wp2_with fail
      go_ret
      exact ⟨rfl, B3⟩
    | some m =>
      have hmz : (ofL m).size ≤ 1000000000 := by
        have := unesc_le _ _ hu
        rw [← Lib.size_eq] at this
        show m.length ≤ _; omega
      go_enter Tryd.func11, Tryd.ntmps11
      go_wp2_with fail
      refine (unescape_ok s m _ (by omega) hu).mono ?_
      rintro e w1 ⟨rfl, hb⟩
      have B1 := B0.trans (hb.mono B0.size)
      have O1 := O0.below hb
      clear hb
      go_wp2_with fail
      refine (runescape_ok s m _ (by omega) hu).mono ?_
      rintro e w2 ⟨rfl, hb⟩
      have B2 := B1.trans (hb.mono B1.size)
      have O2 := O1.below hb
      clear hb
      go_wp2_with fail
      refine (escape_k (ofL m) s _ hmz (esc_back s m hu)).mono ?_
      rintro e w3 ⟨rfl, hb⟩
      have B3 := B2.trans (hb.mono B2.size)
      have O3 := O2.below hb
      clear hb
      go_wp2_with fail
      refine (live_s _ O3).mono ?_
      rintro e w4 ⟨rfl, hb⟩
      have B4 := B3.trans (hb.mono B3.size)
      have O4 := O3.below hb
      clear hb
      go_wp2_with fail
      go_ret
      exact ⟨rfl, B4⟩

theorem unescapes_types : ∀ t ∈ [9], Tryd.prog.readableRec t = true ∧ t < Tryd.prog.types.size := by
  have h : ([9].all fun t => Tryd.prog.readableRec t && decide (t < Tryd.prog.types.size)) = true := by kernel_rfl
  intro t ht
  have := List.all_eq_true.1 h t ht
  simpa using this

set_option maxRecDepth 100000 in
theorem unescapes_contract (H : Type) (enc : TypeId × Value → H) (W : World) (base : Nat) (args : Array Value) (ds gs : List (DataW H)) (before : List MemPlace)
    (hval : ∀ (j : Nat) t v, Tryd.f11.params[j]? = some t → args[j]? = some v → Value.okWide Tryd.prog W .any base t v)
    (hW : DataW.Whole enc Tryd.prog Tryd.f11.params.toList Rows.codecUnescapesSpec.vars false W args.toList ds gs before) (hL : laidMetH Tryd.prog Rows.codecUnescapesRow.laid W) (hsh : W.ShapedOpen Tryd.prog) :
    Calls Tryd.prog 11 args W fun e W' => ∃ v, e = .returned v ∧ Rows.codecUnescapesSpec.post enc Tryd.prog Tryd.f11 false true false false W args v W' := by
  have hW' := hW
  obtain ⟨p, q, hA0, hV, rfl, hfz, hnd⟩ := hW
  have hA : DataW.TrodAll enc Tryd.prog W 0 (fun _ => true) true Tryd.f11.params.toList args.toList ds p := hA0
  obtain ⟨rfl, rfl⟩ := trodVars_none hV
  simp only [List.append_nil] at hW'
  have hlt : ∀ x ∈ p, x.block < W.heap.size := fun x hx => by simpa using hW'.lt x hx
  have fin : ∀ W', Below W.heap.size W W' → DataW.TrodAll enc Tryd.prog W' 0 (fun b => decide (b < W.heap.size)) true [9] args.toList ds p := fun W' hb => by
    rw [Tryd.params11] at hA
    exact trodAll_below hb _ _ _ _ unescapes_types hA hlt
  clear hA0
  rw [Tryd.params11] at hA hval
  obtain ⟨v0, vs0, d0, ds0, p0, q0, hargs, rfl, hp0, h0, r0⟩ := trodAll_cons hA
  obtain ⟨rfl, rfl, rfl⟩ := trodAll_nil r0
  obtain rfl : args = #[v0] := by cases args; simp_all
  obtain ⟨s, rfl, rfl, rfl, hs0⟩ := open_string Tryd.underlying9 (hval 0 9 v0 rfl rfl) h0
  refine (unescapes_s s W (cok hL hsh)).mono fun e W' ⟨he, hb⟩ => ?_
  subst he
  exact ⟨_, rfl, _, _, _, [], p, [], hW', trodAll_mk1 (shut_bool Tryd.underlying4 _), fin W' hb, rfl, hb.frame _, fun h => by cases h⟩

set_option maxRecDepth 100000 in
theorem unescapes_lifted (os : Os) (started : os.Started) (H : Type) (enc : TypeId × Value → H) (F : Stop.Interp) :
    ReturnsInHanded {} Tryd.checked os 11 .any ((OpenSpec.ofChange Rows.codecUnescapesSpec).preRow enc Tryd.prog Tryd.f11 Rows.codecUnescapesRow.domain false Rows.codecUnescapesRow.laid) (((OpenSpec.ofChange Rows.codecUnescapesSpec).at F).post enc Tryd.prog Tryd.f11 false true false false) := by
  refine returnsInHanded_of_row (C := Tryd.checked) (s := OpenSpec.ofChange Rows.codecUnescapesSpec) own started (by kernel_rfl) Tryd.func11
    (witness_row (enc := enc) (C := Tryd.checked) false (World.laidAll Tryd.prog os Rows.codecUnescapesRow.laid) #[.string ⟨#[]⟩] (World.laidAll_os _ _ _)
      (World.shaped_of_ZipB (by kernel_rfl) (by kernel_rfl)) (by kernel_rfl)
      (OpenSpec.preRow_of_cond 8 (x := ([.lit (.string [])], [], [])) (by kernel_rfl) (by kernel_rfl) (fun k hk => by cases hk) (by kernel_rfl)
        (by rw [MakeChecks.laidMetH_plain _ _ _ (by kernel_rfl)]; exact laidMet_laidAll _ (by kernel_rfl) (by kernel_rfl)))) ?_
  intro W base args ds gs before hval hW _ _ _ hL hsh _
  exact unescapes_contract H enc W base args ds gs before hval hW hL hsh

set_option maxRecDepth 100000 in
theorem unescapes_said : Rows.CodecUnescapesSaid :=
  OpenClaim.holds_of_cond 11 Tryd.f11 rfl rfl rfl rfl rfl rfl rfl ⟨rfl, rfl, rfl, rfl, rfl⟩ rfl rfl rfl rfl rfl (by kernel_rfl) Tryd.func11 (by kernel_rfl)
    (of_decide_eq_true (by kernel_rfl)) (by unfold Func.isWrapper; first | (rw [if_pos (by decide +kernel)]; kernel_rfl) | (rw [if_neg (by decide +kernel)]; exact ⟨rfl, rfl⟩))
    (fun os started H enc _ F => by rw [OpenClaim.pre_eq_preRow]; exact unescapes_lifted os started H enc F)

set_option maxRecDepth 100000 in
theorem unescapes_plain (f : FuncId) (fn : Func) (hf : Tryd.pinned.checked.prog.funcNamed "identity/identitylaw02.CodecUnescapes" = some f) (hfn : Tryd.pinned.checked.prog.funcs[f]? = some fn) :
    true = Tryd.pinned.checked.prog.looks [] ∧ ∀ (j : Nat) t, fn.params[j]? = some t → Tryd.pinned.checked.prog.wantsStandIn t = false := by
  obtain rfl : f = 11 := Option.some.inj ((show Tryd.prog.funcNamed "identity/identitylaw02.CodecUnescapes" = some 11 by kernel_rfl).symm.trans hf) |>.symm
  obtain rfl : fn = Tryd.f11 := (Option.some.inj (Tryd.func11.symm.trans hfn)).symm
  refine ⟨by kernel_rfl, fun j t ht => ?_⟩
  rw [Tryd.params11] at ht
  have hm : t ∈ [9] := by simpa using Array.mem_of_getElem? ht
  have hall : ([9].all fun u => !Tryd.prog.wantsStandIn u) = true := by kernel_rfl
  exact (show Tryd.prog.wantsStandIn t = false by simpa using List.all_eq_true.1 hall t hm)

/-- THE CARD -/
theorem unescapes_card : Rows.CodecUnescapesCardSaid :=
  Claim7.holds_tied_plain_at .later [] _ _ _ _ unescapes_said (fun _ h => by cases h) (by kernel_rfl) (fun _ h => by cases h) codecUnescapes_row_tie rfl ⟨rfl, rfl⟩ (by kernel_rfl) rfl unescapes_plain (by kernel_rfl)
end Go.Proofs.YtelddbgnhfhkiaaDoor
