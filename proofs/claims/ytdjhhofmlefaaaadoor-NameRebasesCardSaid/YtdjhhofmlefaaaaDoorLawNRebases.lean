/-
  Proved: identitylaw05.NameRebases returns true for every three strings (the tied card). No condition beyond the row's own.
-/
import Derived.Test.YtdjhhofmlefaaaaDoorNamLaws
set_option linter.unusedVariables false
set_option linter.unusedSimpArgs false
set_option linter.unnecessarySimpa false
namespace Go.Proofs.YtdjhhofmlefaaaaDoor
open Go.ChangeShapes Go.WideShapes Go.ChangeAt Go.RowKit Go.PlainAid
open Go.ChangeMaps (open_string shut_string)

theorem fmt_size {l : List Pr} (h : fmtE l = 0) : (fmtV l).size ≤ 1000000 := by
  obtain ⟨h1, h2⟩ := fmtE_ok h
  have hb := barC_len 600 (l.map fmtC) (fun p hq => by
    obtain ⟨q, hq1, rfl⟩ := List.mem_map.1 hq
    have := prE_small (h1 q hq1)
    have := fmtC_len q
    omega)
  rw [List.length_map] at hb
  have : l.length * (600 + 1) ≤ 8 * 601 := Nat.mul_le_mul_right _ h2
  unfold fmtV
  rw [if_pos h, ofB_size]; omega
theorem reb_size (s a b : ByteArray) : (rebV s a b).size ≤ 1000000 := by
  unfold rebV
  split
  · split
    · by_cases h : fmtE (keptV s a ++ compsV b) = 0
      · exact fmt_size h
      · unfold fmtV; rw [if_neg h]; exact Nat.zero_le _
    · exact Nat.zero_le _
  · exact Nat.zero_le _
set_option maxRecDepth 100000 in
set_option maxHeartbeats 4000000 in
theorem rebases_s (s a b : ByteArray) (w : World) :
    Calls Tryd.prog 8 #[.string s, .string a, .string b] w fun e w' => e = .returned (.bool true) ∧ Below w.heap.size w w' := by
  have B0 := Below.refl w.heap.size w
  by_cases h1 : 300 < s.size
  · skip
    go_enter Tryd.func8, Tryd.ntmps8
    go_wp2_with fail
    refine (long_yes s _ h1).mono ?_
    rintro e w' ⟨rfl, rfl⟩
    go_wp2_with fail
    refine (live_s _).mono ?_
    rintro e w1 ⟨rfl, hb⟩
    have B1 := below_next B0 hb
    clear hb
    go_wp2_with fail
    go_ret
    exact ⟨rfl, B1⟩
  by_cases h2 : 300 < a.size
  · skip
    go_enter Tryd.func8, Tryd.ntmps8
    go_wp2_with fail
    refine (long_no s _ h1).mono ?_
    rintro e w' ⟨rfl, rfl⟩
    go_wp2_with fail
    refine (long_yes a _ h2).mono ?_
    rintro e w' ⟨rfl, rfl⟩
    go_wp2_with fail
    refine (live_s _).mono ?_
    rintro e w1 ⟨rfl, hb⟩
    have B1 := below_next B0 hb
    clear hb
    go_wp2_with fail
    go_ret
    exact ⟨rfl, B1⟩
  by_cases h3 : 300 < b.size
  · skip
    go_enter Tryd.func8, Tryd.ntmps8
    go_wp2_with fail
    refine (long_no s _ h1).mono ?_
    rintro e w' ⟨rfl, rfl⟩
    go_wp2_with fail
    refine (long_no a _ h2).mono ?_
    rintro e w' ⟨rfl, rfl⟩
    go_wp2_with fail
    refine (long_yes b _ h3).mono ?_
    rintro e w' ⟨rfl, rfl⟩
    go_wp2_with fail
    refine (live_s _).mono ?_
    rintro e w1 ⟨rfl, hb⟩
    have B1 := below_next B0 hb
    clear hb
    go_wp2_with fail
    go_ret
    exact ⟨rfl, B1⟩
  obtain ⟨E, hE⟩ : ∃ x, rebE s a b = x := ⟨_, rfl⟩
  obtain ⟨T, hT⟩ : ∃ x, rebV s a b = x := ⟨_, rfl⟩
  have HR := Lib.hid (And.intro hT hE)
  have q1 : (E == E) = true := beq_self_eq_true _
  have q2 : (E != E) = false := by simp
  have q3 : (s.toList == s.toList) = true := beq_self_eq_true _
  have q4 : (T.toList != T.toList) = false := by simp
  have hts : T.size ≤ 1000000 := by rw [← hT]; exact reb_size s a b
  have HA := Lib.hid (fun (h : E = 0) => show (rebV T b a = s ∧ rebE T b a = 0) ∧ underB T b = true by
    have := reb_back (s := s) (a := a) (b := b) (by rw [hE]; exact h)
    rw [hT] at this
    exact ⟨⟨this.2.1, this.1⟩, this.2.2⟩)
  clear hE hT
  by_cases h0 : E = 0
  · have HX := Lib.hid (HA.out h0)
    clear HA
    subst h0
    go_enter Tryd.func8, Tryd.ntmps8
    go_wp2_with fail
    refine (long_no s _ h1).mono ?_
    rintro e w' ⟨rfl, rfl⟩
    go_wp2_with fail
    refine (long_no a _ h2).mono ?_
    rintro e w' ⟨rfl, rfl⟩
    go_wp2_with fail
    refine (long_no b _ h3).mono ?_
    rintro e w' ⟨rfl, rfl⟩
    go_wp2_with fail
    refine (rebase_k s a b T 0 _ (by omega) (by omega) (by omega) HR.out).mono ?_
    rintro e w1 ⟨rfl, hb⟩
    have B1 := below_next B0 hb
    clear hb
    go_wp2_with fail
    refine (rrebase_k s a b T 0 _ (by omega) (by omega) (by omega) HR.out).mono ?_
    rintro e w2 ⟨rfl, hb⟩
    have B2 := below_next B1 hb
    clear hb
    go_wp2_with fail
    refine (live_s _).mono ?_
    rintro e w3 ⟨rfl, hb⟩
    have B3 := below_next B2 hb
    clear hb
    go_wp2_with fail
    refine (rebase_k T b a s 0 _ hts (by omega) (by omega) HX.out.1).mono ?_
    rintro e w4 ⟨rfl, hb⟩
    have B4 := below_next B3 hb
    clear hb
    go_wp2_with fail
    refine (under_k T b true _ hts (by omega) HX.out.2).mono ?_
    rintro e w5 ⟨rfl, hb⟩
    have B5 := below_next B4 hb
    clear hb
    go_wp2_with fail
    go_ret
    exact ⟨rfl, B5⟩
  · have q6 : (E != 0) = true := by simpa using h0
    clear h0
    go_enter Tryd.func8, Tryd.ntmps8
    go_wp2_with fail
    refine (long_no s _ h1).mono ?_
    rintro e w' ⟨rfl, rfl⟩
    go_wp2_with fail
    refine (long_no a _ h2).mono ?_
    rintro e w' ⟨rfl, rfl⟩
    go_wp2_with fail
    refine (long_no b _ h3).mono ?_
    rintro e w' ⟨rfl, rfl⟩
    go_wp2_with fail
    refine (rebase_k s a b T E _ (by omega) (by omega) (by omega) HR.out).mono ?_
    rintro e w1 ⟨rfl, hb⟩
    have B1 := below_next B0 hb
    clear hb
    go_wp2_with fail
    refine (rrebase_k s a b T E _ (by omega) (by omega) (by omega) HR.out).mono ?_
    rintro e w2 ⟨rfl, hb⟩
    have B2 := below_next B1 hb
    clear hb
    go_wp2_with fail
    refine (live_s _).mono ?_
    rintro e w3 ⟨rfl, hb⟩
    have B3 := below_next B2 hb
    clear hb
    go_wp2_with fail
    go_ret
    exact ⟨rfl, B3⟩

theorem rebases_types : ∀ t ∈ [9, 9, 9], Tryd.prog.readableRec t = true ∧ t < Tryd.prog.types.size := by
  have h : ([9, 9, 9].all fun t => Tryd.prog.readableRec t && decide (t < Tryd.prog.types.size)) = true := by kernel_rfl
  intro t ht
  have := List.all_eq_true.1 h t ht
  simpa using this

set_option maxRecDepth 100000 in
theorem rebases_contract (H : Type) (enc : TypeId × Value → H) (W : World) (base : Nat) (args : Array Value) (ds gs : List (DataW H)) (before : List MemPlace)
    (hval : ∀ (j : Nat) t v, Tryd.f8.params[j]? = some t → args[j]? = some v → Value.okWide Tryd.prog W .any base t v)
    (hW : DataW.Whole enc Tryd.prog Tryd.f8.params.toList Rows.nameRebasesSpec.vars false W args.toList ds gs before) (hL : laidMetH Tryd.prog Rows.nameRebasesRow.laid W) (hsh : W.ShapedOpen Tryd.prog) :
    Calls Tryd.prog 8 args W fun e W' => ∃ v, e = .returned v ∧ Rows.nameRebasesSpec.post enc Tryd.prog Tryd.f8 false true false false W args v W' := by
  have hW' := hW
  obtain ⟨p, q, hA0, hV, rfl, hfz, hnd⟩ := hW
  have hA : DataW.TrodAll enc Tryd.prog W 0 (fun _ => true) true Tryd.f8.params.toList args.toList ds p := hA0
  obtain ⟨rfl, rfl⟩ := trodVars_none hV
  simp only [List.append_nil] at hW'
  have hlt : ∀ x ∈ p, x.block < W.heap.size := fun x hx => by simpa using hW'.lt x hx
  have fin : ∀ W', Below W.heap.size W W' → DataW.TrodAll enc Tryd.prog W' 0 (fun b => decide (b < W.heap.size)) true [9, 9, 9] args.toList ds p := fun W' hb => by
    rw [Tryd.params8] at hA
    exact trodAll_below hb _ _ _ _ rebases_types hA hlt
  clear hA0
  rw [Tryd.params8] at hA hval
  obtain ⟨v0, vs0, d0, ds0, p0, q0, hargs, rfl, hp0, h0, r0⟩ := trodAll_cons hA
  obtain ⟨v1, vs1, d1, ds1, p1, q1, rfl, rfl, hp1, h1, r1⟩ := trodAll_cons r0
  obtain ⟨v2, vs2, d2, ds2, p2, q2, rfl, rfl, hp2, h2, r2⟩ := trodAll_cons r1
  obtain ⟨rfl, rfl, rfl⟩ := trodAll_nil r2
  obtain rfl : args = #[v0, v1, v2] := by cases args; simp_all
  obtain ⟨s, rfl, rfl, rfl, hs0⟩ := open_string Tryd.underlying9 (hval 0 9 v0 rfl rfl) h0
  obtain ⟨a, rfl, rfl, rfl, hs1⟩ := open_string Tryd.underlying9 (hval 1 9 v1 rfl rfl) h1
  obtain ⟨b, rfl, rfl, rfl, hs2⟩ := open_string Tryd.underlying9 (hval 2 9 v2 rfl rfl) h2
  refine (rebases_s s a b W  ).mono fun e W' ⟨he, hb⟩ => ?_
  subst he
  exact ⟨_, rfl, _, _, _, [], p, [], hW', trodAll_mk1 (shut_bool Tryd.underlying4 _), fin W' hb, rfl, hb.frame _, fun h => by cases h⟩

set_option maxRecDepth 100000 in
theorem rebases_lifted (os : Os) (started : os.Started) (H : Type) (enc : TypeId × Value → H) (F : Stop.Interp) :
    ReturnsInHanded {} Tryd.checked os 8 .any ((OpenSpec.ofChange Rows.nameRebasesSpec).preRow enc Tryd.prog Tryd.f8 Rows.nameRebasesRow.domain false Rows.nameRebasesRow.laid) (((OpenSpec.ofChange Rows.nameRebasesSpec).at F).post enc Tryd.prog Tryd.f8 false true false false) := by
  refine returnsInHanded_of_row (C := Tryd.checked) (s := OpenSpec.ofChange Rows.nameRebasesSpec) own started (by kernel_rfl) Tryd.func8
    (witness_row (enc := enc) (C := Tryd.checked) false (World.laidAll Tryd.prog os Rows.nameRebasesRow.laid) #[.string ⟨#[]⟩, .string ⟨#[]⟩, .string ⟨#[]⟩] (World.laidAll_os _ _ _)
      (World.shaped_of_ZipB (by kernel_rfl) (by kernel_rfl)) (by kernel_rfl)
      (OpenSpec.preRow_of_cond 8 (x := ([.lit (.string []), .lit (.string []), .lit (.string [])], [], [])) (by kernel_rfl) (by kernel_rfl) (fun k hk => by cases hk) (by kernel_rfl)
        (by rw [MakeChecks.laidMetH_plain _ _ _ (by kernel_rfl)]; exact laidMet_laidAll _ (by kernel_rfl) (by kernel_rfl)))) ?_
  intro W base args ds gs before hval hW _ _ _ hL hsh _
  exact rebases_contract H enc W base args ds gs before hval hW hL hsh

set_option maxRecDepth 100000 in
theorem rebases_said : Rows.NameRebasesSaid :=
  OpenClaim.holds_of_cond 8 Tryd.f8 rfl rfl rfl rfl rfl rfl rfl ⟨rfl, rfl, rfl, rfl, rfl⟩ rfl rfl rfl rfl rfl (by kernel_rfl) Tryd.func8 (by kernel_rfl)
    (of_decide_eq_true (by kernel_rfl)) (by unfold Func.isWrapper; first | (rw [if_pos (by decide +kernel)]; kernel_rfl) | (rw [if_neg (by decide +kernel)]; exact ⟨rfl, rfl⟩))
    (fun os started H enc _ F => by rw [OpenClaim.pre_eq_preRow]; exact rebases_lifted os started H enc F)

set_option maxRecDepth 100000 in
theorem rebases_plain (f : FuncId) (fn : Func) (hf : Tryd.pinned.checked.prog.funcNamed "identity/identitylaw05.NameRebases" = some f) (hfn : Tryd.pinned.checked.prog.funcs[f]? = some fn) :
    false = Tryd.pinned.checked.prog.looks [] ∧ ∀ (j : Nat) t, fn.params[j]? = some t → Tryd.pinned.checked.prog.wantsStandIn t = false := by
  obtain rfl : f = 8 := Option.some.inj ((show Tryd.prog.funcNamed "identity/identitylaw05.NameRebases" = some 8 by kernel_rfl).symm.trans hf) |>.symm
  obtain rfl : fn = Tryd.f8 := (Option.some.inj (Tryd.func8.symm.trans hfn)).symm
  refine ⟨by kernel_rfl, fun j t ht => ?_⟩
  rw [Tryd.params8] at ht
  have hm : t ∈ [9, 9, 9] := by simpa using Array.mem_of_getElem? ht
  have hall : ([9, 9, 9].all fun u => !Tryd.prog.wantsStandIn u) = true := by kernel_rfl
  exact (show Tryd.prog.wantsStandIn t = false by simpa using List.all_eq_true.1 hall t hm)

/-- THE CARD -/
theorem rebases_card : Rows.NameRebasesCardSaid :=
  Claim7.holds_tied_plain_at .later [] _ _ _ _ rebases_said (fun _ h => by cases h) (by kernel_rfl) (fun _ h => by cases h) nameRebases_row_tie rfl ⟨rfl, rfl⟩ (by kernel_rfl) rfl rebases_plain (by kernel_rfl)
end Go.Proofs.YtdjhhofmlefaaaaDoor
