/-
  Proved: identitylaw05.NameFormats returns true for every slice of pairs (the tied card). No condition beyond the row's own.
-/
import Derived.Test.YtdjhhofmlefaaaaDoorNamLaws
set_option linter.unusedVariables false
set_option linter.unusedSimpArgs false
set_option linter.unnecessarySimpa false
namespace Go.Proofs.YtdjhhofmlefaaaaDoor
open Go.ChangeShapes Go.WideShapes Go.ChangeAt Go.RowKit Go.PlainAid
open Go.ChangeMaps (open_string shut_string)

theorem fmt_size {l : List Pr} (h : fmtE l = 0) : (fmtV l).size ≤ 1000000 := by
  obtain ⟨h1, h2⟩ := fmtE_ok h
  have hb := barC_len 600 (l.map fmtC) (fun p hq => by
    obtain ⟨q, hq1, rfl⟩ := List.mem_map.1 hq
    have := prE_small (h1 q hq1)
    have := fmtC_len q
    omega)
  rw [List.length_map] at hb
  have : l.length * (600 + 1) ≤ 8 * 601 := Nat.mul_le_mul_right _ h2
  unfold fmtV
  rw [if_pos h, ofB_size]; omega
set_option maxRecDepth 100000 in
set_option maxHeartbeats 4000000 in
theorem formats_s (l : Option Addr) (ln lc : Nat) (ll : List Pr) (w : World) (hs : PairsAt w l ln lc ll) :
    Calls Tryd.prog 4 #[.slice l ln lc] w fun e w' => e = .returned (.bool true) ∧ Below w.heap.size w w' := by
  have B0 := Below.refl w.heap.size w
  have hln := hs.1
  have HL := Lib.hid hs
  clear hs
  cases hm : manyB ll
  · obtain ⟨hl12, hsm, _⟩ := manyB_small hm
    have HS := Lib.hid hsm
    have HMN := Lib.hid hm
    clear hsm hm
    obtain ⟨E, hE⟩ : ∃ x, fmtE ll = x := ⟨_, rfl⟩
    obtain ⟨V, hV⟩ : ∃ x, fmtV ll = x := ⟨_, rfl⟩
    have HF := Lib.hid (And.intro hV hE)
    have q1 : (E == E) = true := beq_self_eq_true _
    have q2 : (E != E) = false := by simp
    have q3 : (V.toList == V.toList) = true := beq_self_eq_true _
    have q4 : (V.toList != V.toList) = false := by simp
    by_cases h0 : E = 0
    · subst h0
      have hp := parse_fmt hE
      have hc := fmt_can hE
      have hn := norm_fmt hE
      have hd := comps_fmt hE
      have hvs : V.size ≤ 1000000 := by rw [← hV]; exact fmt_size hE
      rw [hV] at hp hc hn hd
      obtain ⟨M, hM⟩ : ∃ M, ll.map canP = M := ⟨_, rfl⟩
      have hMl : M.length = ll.length := by rw [← hM, List.length_map]
      rw [hM] at hp hc hd
      have hMs : Small M := by rw [← hp.2]; exact small_parse V
      have hdl : (compsV V).length = ll.length := by rw [hd]; exact hMl
      have q5 : ((M.length : Int) == (ln : Int)) = true := beq_iff_eq.2 (by omega)
      have q6 : ((ll.length : Int) == (ln : Int)) = true := beq_iff_eq.2 (by omega)
      have HP := Lib.hid hp
      have HC := Lib.hid (And.intro hc.2 hc.1)
      have HN := Lib.hid hn
      have HD := Lib.hid hdl
      have HMS := Lib.hid hMs
      clear hp hc hn hd hdl hMs hM hMl hE hV hln
      go_enter Tryd.func4, Tryd.ntmps4
      go_wp2_with fail
      refine (many_k l ln lc ll false _ HL.out HMN.out).mono ?_
      rintro e w' ⟨rfl, rfl⟩
      go_wp2_with fail
      refine (format_k l ln lc ll V 0 _ HL.out HS.out HF.out).mono ?_
      rintro e w1 ⟨rfl, hb⟩
      have B1 := below_next B0 hb
      have HL := Lib.hid (HL.out.below hb)
      clear hb
      go_wp2_with fail
      refine (rformat_k l ln lc ll V 0 _ HL.out HS.out HF.out).mono ?_
      rintro e w2 ⟨rfl, hb⟩
      have B2 := below_next B1 hb
      have HL := Lib.hid (HL.out.below hb)
      clear hb
      go_wp2_with fail
      refine (live_s _).mono ?_
      rintro e w3 ⟨rfl, hb⟩
      have B3 := below_next B2 hb
      clear hb
      go_wp2_with fail
      refine (parse_k V 0 M _ hvs HP.out).mono ?_
      rintro e w4 ⟨mo, mc, rfl, hm, hb⟩
      have B4 := below_next B3 hb
      have HM := Lib.hid hm
      clear hm
      clear hb
      go_wp2_with fail
      refine (format_k mo M.length mc M V 0 _ HM.out HMS.out HC.out).mono ?_
      rintro e w5 ⟨rfl, hb⟩
      have B5 := below_next B4 hb
      clear hb
      go_wp2_with fail
      refine (valid_k V true _ hvs HN.out).mono ?_
      rintro e w6 ⟨rfl, hb⟩
      have B6 := below_next B5 hb
      clear hb
      go_wp2_with fail
      refine (depth_k V ll.length _ hvs HD.out).mono ?_
      rintro e w7 ⟨rfl, hb⟩
      have B7 := below_next B6 hb
      clear hb
      go_wp2_with fail
      go_ret
      exact ⟨rfl, B7⟩
    · have q5 : (E != 0) = true := by simpa using h0
      clear hE hV
      go_enter Tryd.func4, Tryd.ntmps4
      go_wp2_with fail
      refine (many_k l ln lc ll false _ HL.out HMN.out).mono ?_
      rintro e w' ⟨rfl, rfl⟩
      go_wp2_with fail
      refine (format_k l ln lc ll V E _ HL.out HS.out HF.out).mono ?_
      rintro e w1 ⟨rfl, hb⟩
      have B1 := below_next B0 hb
      have HL := Lib.hid (HL.out.below hb)
      clear hb
      go_wp2_with fail
      refine (rformat_k l ln lc ll V E _ HL.out HS.out HF.out).mono ?_
      rintro e w2 ⟨rfl, hb⟩
      have B2 := below_next B1 hb
      have HL := Lib.hid (HL.out.below hb)
      clear hb
      go_wp2_with fail
      refine (live_s _).mono ?_
      rintro e w3 ⟨rfl, hb⟩
      have B3 := below_next B2 hb
      clear hb
      go_wp2_with fail
      go_ret
      exact ⟨rfl, B3⟩
  · have HMN := Lib.hid hm
    clear hm
    go_enter Tryd.func4, Tryd.ntmps4
    go_wp2_with fail
    refine (many_k l ln lc ll true _ HL.out HMN.out).mono ?_
    rintro e w' ⟨rfl, rfl⟩
    go_wp2_with fail
    refine (live_s _).mono ?_
    rintro e w1 ⟨rfl, hb⟩
    have B1 := below_next B0 hb
    clear hb
    go_wp2_with fail
    go_ret
    exact ⟨rfl, B1⟩

theorem formats_types : ∀ t ∈ [24], Tryd.prog.readableRec t = true ∧ t < Tryd.prog.types.size := by
  have h : ([24].all fun t => Tryd.prog.readableRec t && decide (t < Tryd.prog.types.size)) = true := by kernel_rfl
  intro t ht
  have := List.all_eq_true.1 h t ht
  simpa using this

set_option maxRecDepth 100000 in
theorem formats_contract (H : Type) (enc : TypeId × Value → H) (W : World) (base : Nat) (args : Array Value) (ds gs : List (DataW H)) (before : List MemPlace)
    (hval : ∀ (j : Nat) t v, Tryd.f4.params[j]? = some t → args[j]? = some v → Value.okWide Tryd.prog W .any base t v)
    (hW : DataW.Whole enc Tryd.prog Tryd.f4.params.toList Rows.nameFormatsSpec.vars false W args.toList ds gs before) (hL : laidMetH Tryd.prog Rows.nameFormatsRow.laid W) (hsh : W.ShapedOpen Tryd.prog) :
    Calls Tryd.prog 4 args W fun e W' => ∃ v, e = .returned v ∧ Rows.nameFormatsSpec.post enc Tryd.prog Tryd.f4 false true false false W args v W' := by
  have hW' := hW
  obtain ⟨p, q, hA0, hV, rfl, hfz, hnd⟩ := hW
  have hA : DataW.TrodAll enc Tryd.prog W 0 (fun _ => true) true Tryd.f4.params.toList args.toList ds p := hA0
  obtain ⟨rfl, rfl⟩ := trodVars_none hV
  simp only [List.append_nil] at hW'
  have hlt : ∀ x ∈ p, x.block < W.heap.size := fun x hx => by simpa using hW'.lt x hx
  have fin : ∀ W', Below W.heap.size W W' → DataW.TrodAll enc Tryd.prog W' 0 (fun b => decide (b < W.heap.size)) true [24] args.toList ds p := fun W' hb => by
    rw [Tryd.params4] at hA
    exact trodAll_below hb _ _ _ _ formats_types hA hlt
  clear hA0
  rw [Tryd.params4] at hA hval
  obtain ⟨v0, vs0, d0, ds0, p0, q0, hargs, rfl, hp0, h0, r0⟩ := trodAll_cons hA
  obtain ⟨rfl, rfl, rfl⟩ := trodAll_nil r0
  obtain rfl : args = #[v0] := by cases args; simp_all
  obtain ⟨l, ln, lc, ll, rfl, hs0⟩ := open_pairs (hval 0 24 v0 rfl rfl) h0
  refine (formats_s l ln lc ll W hs0  ).mono fun e W' ⟨he, hb⟩ => ?_
  subst he
  exact ⟨_, rfl, _, _, _, [], p, [], hW', trodAll_mk1 (shut_bool Tryd.underlying4 _), fin W' hb, rfl, hb.frame _, fun h => by cases h⟩

set_option maxRecDepth 100000 in
theorem formats_lifted (os : Os) (started : os.Started) (H : Type) (enc : TypeId × Value → H) (F : Stop.Interp) :
    ReturnsInHanded {} Tryd.checked os 4 .any ((OpenSpec.ofChange Rows.nameFormatsSpec).preRow enc Tryd.prog Tryd.f4 Rows.nameFormatsRow.domain false Rows.nameFormatsRow.laid) (((OpenSpec.ofChange Rows.nameFormatsSpec).at F).post enc Tryd.prog Tryd.f4 false true false false) := by
  refine returnsInHanded_of_row (C := Tryd.checked) (s := OpenSpec.ofChange Rows.nameFormatsSpec) own started (by kernel_rfl) Tryd.func4
    (witness_row (enc := enc) (C := Tryd.checked) false (World.laidAll Tryd.prog os Rows.nameFormatsRow.laid) #[.slice none 0 0] (World.laidAll_os _ _ _)
      (World.shaped_of_ZipB (by kernel_rfl) (by kernel_rfl)) (by kernel_rfl)
      (OpenSpec.preRow_of_cond 8 (x := ([.nil], [], [])) (by kernel_rfl) (by kernel_rfl) (fun k hk => by cases hk) (by kernel_rfl)
        (by rw [MakeChecks.laidMetH_plain _ _ _ (by kernel_rfl)]; exact laidMet_laidAll _ (by kernel_rfl) (by kernel_rfl)))) ?_
  intro W base args ds gs before hval hW _ _ _ hL hsh _
  exact formats_contract H enc W base args ds gs before hval hW hL hsh

set_option maxRecDepth 100000 in
theorem formats_said : Rows.NameFormatsSaid :=
  OpenClaim.holds_of_cond 4 Tryd.f4 rfl rfl rfl rfl rfl rfl rfl ⟨rfl, rfl, rfl, rfl, rfl⟩ rfl rfl rfl rfl rfl (by kernel_rfl) Tryd.func4 (by kernel_rfl)
    (of_decide_eq_true (by kernel_rfl)) (by unfold Func.isWrapper; first | (rw [if_pos (by decide +kernel)]; kernel_rfl) | (rw [if_neg (by decide +kernel)]; exact ⟨rfl, rfl⟩))
    (fun os started H enc _ F => by rw [OpenClaim.pre_eq_preRow]; exact formats_lifted os started H enc F)

set_option maxRecDepth 100000 in
theorem formats_plain (f : FuncId) (fn : Func) (hf : Tryd.pinned.checked.prog.funcNamed "identity/identitylaw05.NameFormats" = some f) (hfn : Tryd.pinned.checked.prog.funcs[f]? = some fn) :
    false = Tryd.pinned.checked.prog.looks [] ∧ ∀ (j : Nat) t, fn.params[j]? = some t → Tryd.pinned.checked.prog.wantsStandIn t = false := by
  obtain rfl : f = 4 := Option.some.inj ((show Tryd.prog.funcNamed "identity/identitylaw05.NameFormats" = some 4 by kernel_rfl).symm.trans hf) |>.symm
  obtain rfl : fn = Tryd.f4 := (Option.some.inj (Tryd.func4.symm.trans hfn)).symm
  refine ⟨by kernel_rfl, fun j t ht => ?_⟩
  rw [Tryd.params4] at ht
  have hm : t ∈ [24] := by simpa using Array.mem_of_getElem? ht
  have hall : ([24].all fun u => !Tryd.prog.wantsStandIn u) = true := by kernel_rfl
  exact (show Tryd.prog.wantsStandIn t = false by simpa using List.all_eq_true.1 hall t hm)

/-- THE CARD -/
theorem formats_card : Rows.NameFormatsCardSaid :=
  Claim7.holds_tied_plain_at .later [] _ _ _ _ formats_said (fun _ h => by cases h) (by kernel_rfl) (fun _ h => by cases h) nameFormats_row_tie rfl ⟨rfl, rfl⟩ (by kernel_rfl) rfl formats_plain (by kernel_rfl)
end Go.Proofs.YtdjhhofmlefaaaaDoor
