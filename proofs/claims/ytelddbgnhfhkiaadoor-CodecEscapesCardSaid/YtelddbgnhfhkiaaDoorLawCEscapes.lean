/-
  Proved: identitylaw02.CodecEscapes returns true for every two strings (the tied card). No condition beyond the row's own.
-/
import Derived.Test.YtelddbgnhfhkiaaDoorLawFrameB
import Derived.Test.YtelddbgnhfhkiaaDoorCodecP
import Derived.Test.YtelddbgnhfhkiaaDoorCodecREsc
set_option linter.unusedVariables false
set_option linter.unusedSimpArgs false
set_option linter.unnecessarySimpa false
namespace Go.Proofs.YtelddbgnhfhkiaaDoor
open Go.ChangeShapes Go.WideShapes Go.ChangeAt Go.RowKit Go.PlainAid
open Go.ChangeMaps (open_string shut_string)

/-- the escaped form -/
def escS (s : ByteArray) : ByteArray := ⟨(escL s.data.toList).toArray⟩
theorem escS_size (s : ByteArray) : (escS s).size ≤ 3 * s.size := by
  have := escL_length s.data.toList
  rw [← Lib.size_eq] at this
  unfold escS; rw [Lib.size_eq]; exact this
theorem un_esc (s : ByteArray) : unS (escS s) = s ∧ unE (escS s) = 0 := by
  have h : unesc (escS s).data.toList = some s.data.toList := unesc_esc _
  exact ⟨by rw [(unS_some h).1, ofL_data], (unS_some h).2⟩
theorem rescape_k (s r : ByteArray) (w : World) (hs : s.size ≤ 1000000000) (h : escS s = r) :
    Calls Tryd.prog 36 #[.string s] w fun e w' => e = .returned (.string r) ∧ Below w.heap.size w w' := by
  subst h; exact rescape_any s w hs
theorem escS_cat (s t : ByteArray) : (⟨(escL (s ++ t).data.toList).toArray⟩ : ByteArray) = escS s ++ escS t := by
  rw [ByteArray.data_append, Array.toList_append, escL_append]
  apply ByteArray.ext
  rw [ByteArray.data_append]
  simp [escS]

set_option maxRecDepth 100000 in
set_option maxHeartbeats 4000000 in
theorem escapes_s (s t : ByteArray) (w : World) (ho : COk w) :
    Calls Tryd.prog 10 #[.string s, .string t] w fun e w' => e = .returned (.bool true) ∧ Below w.heap.size w w' := by
  have B0 := Below.refl w.heap.size w
  have O0 := ho
  by_cases h1 : 300 < s.size
  · skip
    go_enter Tryd.func10, Tryd.ntmps10
    go_wp2_with fail
    refine (live_s _ O0).mono ?_
    rintro e w1 ⟨rfl, hb⟩
    have B1 := B0.trans (hb.mono B0.size)
    have O1 := O0.below hb
    clear hb
    go_wp2_with fail
    go_ret
    exact ⟨rfl, B1⟩
  by_cases h2 : 300 < t.size
  · skip
    go_enter Tryd.func10, Tryd.ntmps10
    go_wp2_with fail
    refine (live_s _ O0).mono ?_
    rintro e w1 ⟨rfl, hb⟩
    have B1 := B0.trans (hb.mono B0.size)
    have O1 := O0.below hb
    clear hb
    go_wp2_with fail
    go_ret
    exact ⟨rfl, B1⟩
  · have hsz := escS_size s
    have hst := escS_size t
    have z1 : (escS s).size ≤ 1000 := by omega
    have z2 : (escS t).size ≤ 1000 := by omega
    go_enter Tryd.func10, Tryd.ntmps10
    go_wp2_with fail
    refine (escape_k s (escS s) _ (by omega) rfl).mono ?_
    rintro e w1 ⟨rfl, hb⟩
    have B1 := B0.trans (hb.mono B0.size)
    have O1 := O0.below hb
    clear hb
    go_wp2_with fail
    refine (unescape_k (escS s) s 0 _ (by omega) (un_esc s)).mono ?_
    rintro e w2 ⟨rfl, hb⟩
    have B2 := B1.trans (hb.mono B1.size)
    have O2 := O1.below hb
    clear hb
    go_wp2_with fail
    refine (escape_k s (escS s) _ (by omega) rfl).mono ?_
    rintro e w3 ⟨rfl, hb⟩
    have B3 := B2.trans (hb.mono B2.size)
    have O3 := O2.below hb
    clear hb
    go_wp2_with fail
    refine (rescape_k s (escS s) _ (by omega) rfl).mono ?_
    rintro e w4 ⟨rfl, hb⟩
    have B4 := B3.trans (hb.mono B3.size)
    have O4 := O3.below hb
    clear hb
    go_wp2_with fail
    refine (escape_k (s ++ t) (escS s ++ escS t) _ (by rw [ByteArray.size_append]; omega) (escS_cat s t)).mono ?_
    rintro e w5 ⟨rfl, hb⟩
    have B5 := B4.trans (hb.mono B4.size)
    have O5 := O4.below hb
    clear hb
    go_wp2_with fail
    refine (escape_k s (escS s) _ (by omega) rfl).mono ?_
    rintro e w6 ⟨rfl, hb⟩
    have B6 := B5.trans (hb.mono B5.size)
    have O6 := O5.below hb
    clear hb
    go_wp2_with fail
    refine (escape_k t (escS t) _ (by omega) rfl).mono ?_
    rintro e w7 ⟨rfl, hb⟩
    have B7 := B6.trans (hb.mono B6.size)
    have O7 := O6.below hb
    clear hb
    go_wp2_with fail
    refine (live_s _ O7).mono ?_
    rintro e w8 ⟨rfl, hb⟩
    have B8 := B7.trans (hb.mono B7.size)
    have O8 := O7.below hb
    clear hb
    go_wp2_with fail
    go_ret
    exact ⟨rfl, B8⟩

theorem escapes_types : ∀ t ∈ [9, 9], Tryd.prog.readableRec t = true ∧ t < Tryd.prog.types.size := by
  have h : ([9, 9].all fun t => Tryd.prog.readableRec t && decide (t < Tryd.prog.types.size)) = true := by kernel_rfl
  intro t ht
  have := List.all_eq_true.1 h t ht
  simpa using this

set_option maxRecDepth 100000 in
theorem escapes_contract (H : Type) (enc : TypeId × Value → H) (W : World) (base : Nat) (args : Array Value) (ds gs : List (DataW H)) (before : List MemPlace)
    (hval : ∀ (j : Nat) t v, Tryd.f10.params[j]? = some t → args[j]? = some v → Value.okWide Tryd.prog W .any base t v)
    (hW : DataW.Whole enc Tryd.prog Tryd.f10.params.toList Rows.codecEscapesSpec.vars false W args.toList ds gs before) (hL : laidMetH Tryd.prog Rows.codecEscapesRow.laid W) (hsh : W.ShapedOpen Tryd.prog) :
    Calls Tryd.prog 10 args W fun e W' => ∃ v, e = .returned v ∧ Rows.codecEscapesSpec.post enc Tryd.prog Tryd.f10 false true false false W args v W' := by
  have hW' := hW
  obtain ⟨p, q, hA0, hV, rfl, hfz, hnd⟩ := hW
  have hA : DataW.TrodAll enc Tryd.prog W 0 (fun _ => true) true Tryd.f10.params.toList args.toList ds p := hA0
  obtain ⟨rfl, rfl⟩ := trodVars_none hV
  simp only [List.append_nil] at hW'
  have hlt : ∀ x ∈ p, x.block < W.heap.size := fun x hx => by simpa using hW'.lt x hx
  have fin : ∀ W', Below W.heap.size W W' → DataW.TrodAll enc Tryd.prog W' 0 (fun b => decide (b < W.heap.size)) true [9, 9] args.toList ds p := fun W' hb => by
    rw [Tryd.params10] at hA
    exact trodAll_below hb _ _ _ _ escapes_types hA hlt
  clear hA0
  rw [Tryd.params10] at hA hval
  obtain ⟨v0, vs0, d0, ds0, p0, q0, hargs, rfl, hp0, h0, r0⟩ := trodAll_cons hA
  obtain ⟨v1, vs1, d1, ds1, p1, q1, rfl, rfl, hp1, h1, r1⟩ := trodAll_cons r0
  obtain ⟨rfl, rfl, rfl⟩ := trodAll_nil r1
  obtain rfl : args = #[v0, v1] := by cases args; simp_all
  obtain ⟨s, rfl, rfl, rfl, hs0⟩ := open_string Tryd.underlying9 (hval 0 9 v0 rfl rfl) h0
  obtain ⟨t, rfl, rfl, rfl, hs1⟩ := open_string Tryd.underlying9 (hval 1 9 v1 rfl rfl) h1
  refine (escapes_s s t W (cok hL hsh)).mono fun e W' ⟨he, hb⟩ => ?_
  subst he
  exact ⟨_, rfl, _, _, _, [], p, [], hW', trodAll_mk1 (shut_bool Tryd.underlying4 _), fin W' hb, rfl, hb.frame _, fun h => by cases h⟩

set_option maxRecDepth 100000 in
theorem escapes_lifted (os : Os) (started : os.Started) (H : Type) (enc : TypeId × Value → H) (F : Stop.Interp) :
    ReturnsInHanded {} Tryd.checked os 10 .any ((OpenSpec.ofChange Rows.codecEscapesSpec).preRow enc Tryd.prog Tryd.f10 Rows.codecEscapesRow.domain false Rows.codecEscapesRow.laid) (((OpenSpec.ofChange Rows.codecEscapesSpec).at F).post enc Tryd.prog Tryd.f10 false true false false) := by
  refine returnsInHanded_of_row (C := Tryd.checked) (s := OpenSpec.ofChange Rows.codecEscapesSpec) own started (by kernel_rfl) Tryd.func10
    (witness_row (enc := enc) (C := Tryd.checked) false (World.laidAll Tryd.prog os Rows.codecEscapesRow.laid) #[.string ⟨#[]⟩, .string ⟨#[]⟩] (World.laidAll_os _ _ _)
      (World.shaped_of_ZipB (by kernel_rfl) (by kernel_rfl)) (by kernel_rfl)
      (OpenSpec.preRow_of_cond 8 (x := ([.lit (.string []), .lit (.string [])], [], [])) (by kernel_rfl) (by kernel_rfl) (fun k hk => by cases hk) (by kernel_rfl)
        (by rw [MakeChecks.laidMetH_plain _ _ _ (by kernel_rfl)]; exact laidMet_laidAll _ (by kernel_rfl) (by kernel_rfl)))) ?_
  intro W base args ds gs before hval hW _ _ _ hL hsh _
  exact escapes_contract H enc W base args ds gs before hval hW hL hsh

set_option maxRecDepth 100000 in
theorem escapes_said : Rows.CodecEscapesSaid :=
  OpenClaim.holds_of_cond 10 Tryd.f10 rfl rfl rfl rfl rfl rfl rfl ⟨rfl, rfl, rfl, rfl, rfl⟩ rfl rfl rfl rfl rfl (by kernel_rfl) Tryd.func10 (by kernel_rfl)
    (of_decide_eq_true (by kernel_rfl)) (by unfold Func.isWrapper; first | (rw [if_pos (by decide +kernel)]; kernel_rfl) | (rw [if_neg (by decide +kernel)]; exact ⟨rfl, rfl⟩))
    (fun os started H enc _ F => by rw [OpenClaim.pre_eq_preRow]; exact escapes_lifted os started H enc F)

set_option maxRecDepth 100000 in
theorem escapes_plain (f : FuncId) (fn : Func) (hf : Tryd.pinned.checked.prog.funcNamed "identity/identitylaw02.CodecEscapes" = some f) (hfn : Tryd.pinned.checked.prog.funcs[f]? = some fn) :
    true = Tryd.pinned.checked.prog.looks [] ∧ ∀ (j : Nat) t, fn.params[j]? = some t → Tryd.pinned.checked.prog.wantsStandIn t = false := by
  obtain rfl : f = 10 := Option.some.inj ((show Tryd.prog.funcNamed "identity/identitylaw02.CodecEscapes" = some 10 by kernel_rfl).symm.trans hf) |>.symm
  obtain rfl : fn = Tryd.f10 := (Option.some.inj (Tryd.func10.symm.trans hfn)).symm
  refine ⟨by kernel_rfl, fun j t ht => ?_⟩
  rw [Tryd.params10] at ht
  have hm : t ∈ [9, 9] := by simpa using Array.mem_of_getElem? ht
  have hall : ([9, 9].all fun u => !Tryd.prog.wantsStandIn u) = true := by kernel_rfl
  exact (show Tryd.prog.wantsStandIn t = false by simpa using List.all_eq_true.1 hall t hm)

/-- THE CARD -/
theorem escapes_card : Rows.CodecEscapesCardSaid :=
  Claim7.holds_tied_plain_at .later [] _ _ _ _ escapes_said (fun _ h => by cases h) (by kernel_rfl) (fun _ h => by cases h) codecEscapes_row_tie rfl ⟨rfl, rfl⟩ (by kernel_rfl) rfl escapes_plain (by kernel_rfl)
end Go.Proofs.YtelddbgnhfhkiaaDoor
