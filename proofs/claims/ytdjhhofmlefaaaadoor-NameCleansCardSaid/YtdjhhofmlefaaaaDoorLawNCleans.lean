/-
  Proved: identitylaw05.NameCleans returns true for every string (the tied card). No condition beyond the row's own.
-/
import Derived.Test.YtdjhhofmlefaaaaDoorNamLaws
set_option linter.unusedVariables false
set_option linter.unusedSimpArgs false
set_option linter.unnecessarySimpa false
namespace Go.Proofs.YtdjhhofmlefaaaaDoor
open Go.ChangeShapes Go.WideShapes Go.ChangeAt Go.RowKit Go.PlainAid
open Go.ChangeMaps (open_string shut_string)

theorem fmt_size {l : List Pr} (h : fmtE l = 0) : (fmtV l).size ≤ 1000000 := by
  obtain ⟨h1, h2⟩ := fmtE_ok h
  have hb := barC_len 600 (l.map fmtC) (fun p hq => by
    obtain ⟨q, hq1, rfl⟩ := List.mem_map.1 hq
    have := prE_small (h1 q hq1)
    have := fmtC_len q
    omega)
  rw [List.length_map] at hb
  have : l.length * (600 + 1) ≤ 8 * 601 := Nat.mul_le_mul_right _ h2
  unfold fmtV
  rw [if_pos h, ofB_size]; omega
theorem clean_size (s : ByteArray) : (cleanV s).size ≤ 1000000 := by
  unfold cleanV
  by_cases h : parseE s = 0
  · rw [if_pos h]; exact fmt_size (fmt_parse_ok h)
  · rw [if_neg h]; exact Nat.zero_le _
set_option maxRecDepth 100000 in
set_option maxHeartbeats 4000000 in
theorem cleans_s (s : ByteArray) (w : World) :
    Calls Tryd.prog 5 #[.string s] w fun e w' => e = .returned (.bool true) ∧ Below w.heap.size w w' := by
  have B0 := Below.refl w.heap.size w
  by_cases h1 : 300 < s.size
  · skip
    go_enter Tryd.func5, Tryd.ntmps5
    go_wp2_with fail
    refine (long_yes s _ h1).mono ?_
    rintro e w' ⟨rfl, rfl⟩
    go_wp2_with fail
    refine (live_s _).mono ?_
    rintro e w1 ⟨rfl, hb⟩
    have B1 := below_next B0 hb
    clear hb
    go_wp2_with fail
    go_ret
    exact ⟨rfl, B1⟩
  obtain ⟨E, hE⟩ : ∃ x, cleanE s = x := ⟨_, rfl⟩
  obtain ⟨T, hT⟩ : ∃ x, cleanV s = x := ⟨_, rfl⟩
  obtain ⟨N, hN⟩ : ∃ x, normB s = x := ⟨_, rfl⟩
  have HC := Lib.hid (And.intro hT hE)
  have HN := Lib.hid hN
  have HL := Lib.hid (show cleanV (lowS s) = T ∧ cleanE (lowS s) = E by rw [(clean_low s).1, (clean_low s).2]; exact ⟨hT, hE⟩)
  have hls : (lowS s).size ≤ 1000000 := by rw [lowS_size]; omega
  have q1 : (E == E) = true := beq_self_eq_true _
  have q2 : (E != E) = false := by simp
  have q3 : (T.toList == T.toList) = true := beq_self_eq_true _
  have q4 : (T.toList != T.toList) = false := by simp
  have q5 : (N != N) = false := by simp
  have hts : T.size ≤ 1000000 := by rw [← hT]; exact clean_size s
  have HA := Lib.hid (fun (h : E = 0) => show normB T = true ∧ (cleanV T = T ∧ cleanE T = 0) by
    have := clean_again (s := s) (by rw [hE]; exact h)
    rw [hT] at this
    exact ⟨this.1, this.2.1, this.2.2⟩)
  clear hE hT hN
  by_cases h0 : E = 0
  · have HX := Lib.hid (HA.out h0)
    clear HA
    subst h0
    go_enter Tryd.func5, Tryd.ntmps5
    go_wp2_with fail
    refine (long_no s _ h1).mono ?_
    rintro e w' ⟨rfl, rfl⟩
    go_wp2_with fail
    refine (clean_k s T 0 _ (by omega) HC.out).mono ?_
    rintro e w1 ⟨rfl, hb⟩
    have B1 := below_next B0 hb
    clear hb
    go_wp2_with fail
    refine (rclean_k s T 0 _ (by omega) HC.out).mono ?_
    rintro e w2 ⟨rfl, hb⟩
    have B2 := below_next B1 hb
    clear hb
    go_wp2_with fail
    refine (lower_s s _ (by omega)).mono ?_
    rintro e w3 ⟨rfl, hb⟩
    have B3 := below_next B2 hb
    clear hb
    go_wp2_with fail
    refine (clean_k (lowS s) T 0 _ hls HL.out).mono ?_
    rintro e w4 ⟨rfl, hb⟩
    have B4 := below_next B3 hb
    clear hb
    go_wp2_with fail
    refine (valid_k s N _ (by omega) HN.out).mono ?_
    rintro e w5 ⟨rfl, hb⟩
    have B5 := below_next B4 hb
    clear hb
    go_wp2_with fail
    refine (rvalid_k s N _ (by omega) HN.out).mono ?_
    rintro e w6 ⟨rfl, hb⟩
    have B6 := below_next B5 hb
    clear hb
    go_wp2_with fail
    refine (live_s _).mono ?_
    rintro e w7 ⟨rfl, hb⟩
    have B7 := below_next B6 hb
    clear hb
    go_wp2_with fail
    refine (clean_k T T 0 _ hts HX.out.2).mono ?_
    rintro e w8 ⟨rfl, hb⟩
    have B8 := below_next B7 hb
    clear hb
    go_wp2_with fail
    refine (valid_k T true _ hts HX.out.1).mono ?_
    rintro e w9 ⟨rfl, hb⟩
    have B9 := below_next B8 hb
    clear hb
    go_wp2_with fail
    go_ret
    exact ⟨rfl, B9⟩
  · have q6 : (E != 0) = true := by simpa using h0
    clear h0
    go_enter Tryd.func5, Tryd.ntmps5
    go_wp2_with fail
    refine (long_no s _ h1).mono ?_
    rintro e w' ⟨rfl, rfl⟩
    go_wp2_with fail
    refine (clean_k s T E _ (by omega) HC.out).mono ?_
    rintro e w1 ⟨rfl, hb⟩
    have B1 := below_next B0 hb
    clear hb
    go_wp2_with fail
    refine (rclean_k s T E _ (by omega) HC.out).mono ?_
    rintro e w2 ⟨rfl, hb⟩
    have B2 := below_next B1 hb
    clear hb
    go_wp2_with fail
    refine (lower_s s _ (by omega)).mono ?_
    rintro e w3 ⟨rfl, hb⟩
    have B3 := below_next B2 hb
    clear hb
    go_wp2_with fail
    refine (clean_k (lowS s) T E _ hls HL.out).mono ?_
    rintro e w4 ⟨rfl, hb⟩
    have B4 := below_next B3 hb
    clear hb
    go_wp2_with fail
    refine (valid_k s N _ (by omega) HN.out).mono ?_
    rintro e w5 ⟨rfl, hb⟩
    have B5 := below_next B4 hb
    clear hb
    go_wp2_with fail
    refine (rvalid_k s N _ (by omega) HN.out).mono ?_
    rintro e w6 ⟨rfl, hb⟩
    have B6 := below_next B5 hb
    clear hb
    go_wp2_with fail
    refine (live_s _).mono ?_
    rintro e w7 ⟨rfl, hb⟩
    have B7 := below_next B6 hb
    clear hb
    go_wp2_with fail
    go_ret
    exact ⟨rfl, B7⟩

theorem cleans_types : ∀ t ∈ [9], Tryd.prog.readableRec t = true ∧ t < Tryd.prog.types.size := by
  have h : ([9].all fun t => Tryd.prog.readableRec t && decide (t < Tryd.prog.types.size)) = true := by kernel_rfl
  intro t ht
  have := List.all_eq_true.1 h t ht
  simpa using this

set_option maxRecDepth 100000 in
theorem cleans_contract (H : Type) (enc : TypeId × Value → H) (W : World) (base : Nat) (args : Array Value) (ds gs : List (DataW H)) (before : List MemPlace)
    (hval : ∀ (j : Nat) t v, Tryd.f5.params[j]? = some t → args[j]? = some v → Value.okWide Tryd.prog W .any base t v)
    (hW : DataW.Whole enc Tryd.prog Tryd.f5.params.toList Rows.nameCleansSpec.vars false W args.toList ds gs before) (hL : laidMetH Tryd.prog Rows.nameCleansRow.laid W) (hsh : W.ShapedOpen Tryd.prog) :
    Calls Tryd.prog 5 args W fun e W' => ∃ v, e = .returned v ∧ Rows.nameCleansSpec.post enc Tryd.prog Tryd.f5 false true false false W args v W' := by
  have hW' := hW
  obtain ⟨p, q, hA0, hV, rfl, hfz, hnd⟩ := hW
  have hA : DataW.TrodAll enc Tryd.prog W 0 (fun _ => true) true Tryd.f5.params.toList args.toList ds p := hA0
  obtain ⟨rfl, rfl⟩ := trodVars_none hV
  simp only [List.append_nil] at hW'
  have hlt : ∀ x ∈ p, x.block < W.heap.size := fun x hx => by simpa using hW'.lt x hx
  have fin : ∀ W', Below W.heap.size W W' → DataW.TrodAll enc Tryd.prog W' 0 (fun b => decide (b < W.heap.size)) true [9] args.toList ds p := fun W' hb => by
    rw [Tryd.params5] at hA
    exact trodAll_below hb _ _ _ _ cleans_types hA hlt
  clear hA0
  rw [Tryd.params5] at hA hval
  obtain ⟨v0, vs0, d0, ds0, p0, q0, hargs, rfl, hp0, h0, r0⟩ := trodAll_cons hA
  obtain ⟨rfl, rfl, rfl⟩ := trodAll_nil r0
  obtain rfl : args = #[v0] := by cases args; simp_all
  obtain ⟨s, rfl, rfl, rfl, hs0⟩ := open_string Tryd.underlying9 (hval 0 9 v0 rfl rfl) h0
  refine (cleans_s s W  ).mono fun e W' ⟨he, hb⟩ => ?_
  subst he
  exact ⟨_, rfl, _, _, _, [], p, [], hW', trodAll_mk1 (shut_bool Tryd.underlying4 _), fin W' hb, rfl, hb.frame _, fun h => by cases h⟩

set_option maxRecDepth 100000 in
theorem cleans_lifted (os : Os) (started : os.Started) (H : Type) (enc : TypeId × Value → H) (F : Stop.Interp) :
    ReturnsInHanded {} Tryd.checked os 5 .any ((OpenSpec.ofChange Rows.nameCleansSpec).preRow enc Tryd.prog Tryd.f5 Rows.nameCleansRow.domain false Rows.nameCleansRow.laid) (((OpenSpec.ofChange Rows.nameCleansSpec).at F).post enc Tryd.prog Tryd.f5 false true false false) := by
  refine returnsInHanded_of_row (C := Tryd.checked) (s := OpenSpec.ofChange Rows.nameCleansSpec) own started (by kernel_rfl) Tryd.func5
    (witness_row (enc := enc) (C := Tryd.checked) false (World.laidAll Tryd.prog os Rows.nameCleansRow.laid) #[.string ⟨#[]⟩] (World.laidAll_os _ _ _)
      (World.shaped_of_ZipB (by kernel_rfl) (by kernel_rfl)) (by kernel_rfl)
      (OpenSpec.preRow_of_cond 8 (x := ([.lit (.string [])], [], [])) (by kernel_rfl) (by kernel_rfl) (fun k hk => by cases hk) (by kernel_rfl)
        (by rw [MakeChecks.laidMetH_plain _ _ _ (by kernel_rfl)]; exact laidMet_laidAll _ (by kernel_rfl) (by kernel_rfl)))) ?_
  intro W base args ds gs before hval hW _ _ _ hL hsh _
  exact cleans_contract H enc W base args ds gs before hval hW hL hsh

set_option maxRecDepth 100000 in
theorem cleans_said : Rows.NameCleansSaid :=
  OpenClaim.holds_of_cond 5 Tryd.f5 rfl rfl rfl rfl rfl rfl rfl ⟨rfl, rfl, rfl, rfl, rfl⟩ rfl rfl rfl rfl rfl (by kernel_rfl) Tryd.func5 (by kernel_rfl)
    (of_decide_eq_true (by kernel_rfl)) (by unfold Func.isWrapper; first | (rw [if_pos (by decide +kernel)]; kernel_rfl) | (rw [if_neg (by decide +kernel)]; exact ⟨rfl, rfl⟩))
    (fun os started H enc _ F => by rw [OpenClaim.pre_eq_preRow]; exact cleans_lifted os started H enc F)

set_option maxRecDepth 100000 in
theorem cleans_plain (f : FuncId) (fn : Func) (hf : Tryd.pinned.checked.prog.funcNamed "identity/identitylaw05.NameCleans" = some f) (hfn : Tryd.pinned.checked.prog.funcs[f]? = some fn) :
    false = Tryd.pinned.checked.prog.looks [] ∧ ∀ (j : Nat) t, fn.params[j]? = some t → Tryd.pinned.checked.prog.wantsStandIn t = false := by
  obtain rfl : f = 5 := Option.some.inj ((show Tryd.prog.funcNamed "identity/identitylaw05.NameCleans" = some 5 by kernel_rfl).symm.trans hf) |>.symm
  obtain rfl : fn = Tryd.f5 := (Option.some.inj (Tryd.func5.symm.trans hfn)).symm
  refine ⟨by kernel_rfl, fun j t ht => ?_⟩
  rw [Tryd.params5] at ht
  have hm : t ∈ [9] := by simpa using Array.mem_of_getElem? ht
  have hall : ([9].all fun u => !Tryd.prog.wantsStandIn u) = true := by kernel_rfl
  exact (show Tryd.prog.wantsStandIn t = false by simpa using List.all_eq_true.1 hall t hm)

/-- THE CARD -/
theorem cleans_card : Rows.NameCleansCardSaid :=
  Claim7.holds_tied_plain_at .later [] _ _ _ _ cleans_said (fun _ h => by cases h) (by kernel_rfl) (fun _ h => by cases h) nameCleans_row_tie rfl ⟨rfl, rfl⟩ (by kernel_rfl) rfl cleans_plain (by kernel_rfl)
end Go.Proofs.YtdjhhofmlefaaaaDoor
