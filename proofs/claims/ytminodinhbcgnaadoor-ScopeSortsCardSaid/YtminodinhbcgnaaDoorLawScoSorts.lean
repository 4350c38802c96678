/-
  Proved: identitylaw29.ScopeSorts returns true for all arguments (the tied card). No condition beyond the row's own.
-/
import Derived.Test.YtminodinhbcgnaaDoorScoLaws
import Derived.Deep.RegionHeld3
set_option linter.unusedVariables false
set_option linter.unusedSimpArgs false
set_option linter.unnecessarySimpa false
namespace Go.Proofs.YtminodinhbcgnaaDoor
open Go.ChangeShapes Go.WideShapes Go.ChangeAt Go.RowKit Go.PlainAid
open Go.ChangeMaps (open_string shut_string)

set_option maxRecDepth 100000 in
set_option maxHeartbeats 16000000 in
theorem lxsorts_s (a : Option Addr) (an ac : Nat) (al : List ByteArray) (b : Option Addr) (bn bc : Nat) (bl : List ByteArray) (s : ByteArray) (t : ByteArray) (w : World) (hs0 : StrsAt w a an ac al) (hs1 : StrsAt w b bn bc bl) (ho : MaxOk w) :
    Calls Tryd.prog 4 #[.slice a an ac, .slice b bn bc, .string s, .string t] w fun e w' => e = .returned (.bool true) ∧ Below w.heap.size w w' := by
  have HO := Lib.hid ho
  have HB := Lib.hid (Below.refl w.heap.size w)
  clear ho
  have Ha := Lib.hid hs0
  have Hb := Lib.hid hs1
  obtain ⟨fa, hfa⟩ : ∃ x, fewB al = x := ⟨_, rfl⟩
  have HFa := Lib.hid (few_k a an ac al fa w Ha.out hfa)
  obtain ⟨fb, hfb⟩ : ∃ x, fewB bl = x := ⟨_, rfl⟩
  have HFb := Lib.hid (few_k b bn bc bl fb w Hb.out hfb)
  clear hs0
  clear hs1
  obtain ⟨L, hL⟩ : ∃ x, srt al = x := ⟨_, rfl⟩
  have HVL := Lib.hid hL
  clear hL
  obtain ⟨y, hy⟩ : ∃ x, imp s t = x := ⟨_, rfl⟩
  have HVy := Lib.hid hy
  clear hy
  obtain ⟨r, hr⟩ : ∃ x, wthn al bl = x := ⟨_, rfl⟩
  have HVr := Lib.hid hr
  clear hr
  have q1 := beq_b y
  have q2 := beq_b r
  cases fa with
  | false =>
    clear hfa
    go_enter Tryd.func4, Tryd.ntmps4
    go_wp2_with fail
    refine (HFa.out).mono ?_
    rintro e w' ⟨rfl, rfl⟩
    go_wp2_with fail
    refine (awake_k _ (HO.out.step HB.out)).mono ?_
    rintro e wz ⟨rfl, hb⟩
    have HB := Lib.hid (HB.out.trans (hb.mono HB.out.size))
    clear hb
    go_wp2_with fail
    go_ret
    exact ⟨rfl, HB.out⟩
  | true =>
    have hSa := few_sms hfa
    have HSa := Lib.hid hSa
    have hla := hSa.2.1
    clear hfa hSa
    cases fb with
    | false =>
      clear hfb
      go_enter Tryd.func4, Tryd.ntmps4
      go_wp2_with fail
      refine (HFa.out).mono ?_
      rintro e w' ⟨rfl, rfl⟩
      go_wp2_with fail
      refine (HFb.out).mono ?_
      rintro e w' ⟨rfl, rfl⟩
      go_wp2_with fail
      refine (awake_k _ (HO.out.step HB.out)).mono ?_
      rintro e wz ⟨rfl, hb⟩
      have HB := Lib.hid (HB.out.trans (hb.mono HB.out.size))
      clear hb
      go_wp2_with fail
      go_ret
      exact ⟨rfl, HB.out⟩
    | true =>
      have hSb := few_sms hfb
      have HSb := Lib.hid hSb
      have hlb := hSb.2.1
      clear hfb hSb
      by_cases zs : s.size ≤ 200
      · have ys : ¬ (200 : Int) < (s.size : Int) := by omega
        by_cases zt : t.size ≤ 200
        · have yt : ¬ (200 : Int) < (t.size : Int) := by omega
          go_enter Tryd.func4, Tryd.ntmps4
          go_wp2_with fail
          refine (HFa.out).mono ?_
          rintro e w' ⟨rfl, rfl⟩
          go_wp2_with fail
          refine (HFb.out).mono ?_
          rintro e w' ⟨rfl, rfl⟩
          go_wp2_with fail
          refine (sorted_k a an ac al L _ Ha.out HSa.out.1 (HO.out.step HB.out) HVL.out).mono ?_
          rintro e wc1 ⟨pv, rfl, hown, hb⟩
          obtain ⟨pa, pc, rfl, hat⟩ := strs_own hown rfl
          have Ha := Lib.hid (StrsAt.below Ha.out hb)
          have Hb := Lib.hid (StrsAt.below Hb.out hb)
          have HB := Lib.hid (HB.out.trans (hb.mono HB.out.size))
          have Hp := Lib.hid hat
          clear hb hown hat
          go_wp2_with fail
          refine (rsorted_k a an ac al L _ Ha.out HSa.out.1 HVL.out).mono ?_
          rintro e wc2 ⟨qv, rfl, hown, hb⟩
          obtain ⟨qa, qc, rfl, hat⟩ := strs_own hown rfl
          have Ha := Lib.hid (StrsAt.below Ha.out hb)
          have Hb := Lib.hid (StrsAt.below Hb.out hb)
          have Hp := Lib.hid (StrsAt.below Hp.out hb)
          have HB := Lib.hid (HB.out.trans (hb.mono HB.out.size))
          have Hq := Lib.hid hat
          clear hb hown hat
          go_wp2_with fail
          refine (same_k pa qa _ _ pc qc L L true _ Hp.out Hq.out (decide_eq_true rfl)).mono ?_
          rintro e wc3 ⟨rfl, hb⟩
          have Ha := Lib.hid (StrsAt.below Ha.out hb)
          have Hb := Lib.hid (StrsAt.below Hb.out hb)
          have Hp := Lib.hid (StrsAt.below Hp.out hb)
          have Hq := Lib.hid (StrsAt.below Hq.out hb)
          have HB := Lib.hid (HB.out.trans (hb.mono HB.out.size))
          clear hb
          go_wp2_with fail
          refine (implies_k s t y _ (by omega) (by omega) (HO.out.step HB.out) HVy.out).mono ?_
          rintro e w' ⟨rfl, rfl⟩
          go_wp2_with fail
          refine (rimplies_k s t y _ (by omega) (by omega) HVy.out).mono ?_
          rintro e w' ⟨rfl, rfl⟩
          go_wp2_with fail
          refine (within_k a b an bn ac bc al bl r _ Ha.out Hb.out HSa.out.1 HSb.out.1 (HO.out.step HB.out) HVr.out).mono ?_
          rintro e wc4 ⟨rfl, hb⟩
          have Ha := Lib.hid (StrsAt.below Ha.out hb)
          have Hb := Lib.hid (StrsAt.below Hb.out hb)
          have Hp := Lib.hid (StrsAt.below Hp.out hb)
          have Hq := Lib.hid (StrsAt.below Hq.out hb)
          have HB := Lib.hid (HB.out.trans (hb.mono HB.out.size))
          clear hb
          go_wp2_with fail
          refine (rwithin_k a b an bn ac bc al bl r _ Ha.out Hb.out HSa.out.1 HSb.out.1 HVr.out).mono ?_
          rintro e w' ⟨rfl, rfl⟩
          go_wp2_with fail
          refine (awake_k _ (HO.out.step HB.out)).mono ?_
          rintro e wz ⟨rfl, hb⟩
          have HB := Lib.hid (HB.out.trans (hb.mono HB.out.size))
          clear hb
          go_wp2_with fail
          go_ret
          exact ⟨rfl, HB.out⟩
        · have yt : (200 : Int) < (t.size : Int) := by omega
          go_enter Tryd.func4, Tryd.ntmps4
          go_wp2_with fail
          refine (HFa.out).mono ?_
          rintro e w' ⟨rfl, rfl⟩
          go_wp2_with fail
          refine (HFb.out).mono ?_
          rintro e w' ⟨rfl, rfl⟩
          go_wp2_with fail
          refine (awake_k _ (HO.out.step HB.out)).mono ?_
          rintro e wz ⟨rfl, hb⟩
          have HB := Lib.hid (HB.out.trans (hb.mono HB.out.size))
          clear hb
          go_wp2_with fail
          go_ret
          exact ⟨rfl, HB.out⟩
      · have ys : (200 : Int) < (s.size : Int) := by omega
        go_enter Tryd.func4, Tryd.ntmps4
        go_wp2_with fail
        refine (HFa.out).mono ?_
        rintro e w' ⟨rfl, rfl⟩
        go_wp2_with fail
        refine (HFb.out).mono ?_
        rintro e w' ⟨rfl, rfl⟩
        go_wp2_with fail
        refine (awake_k _ (HO.out.step HB.out)).mono ?_
        rintro e wz ⟨rfl, hb⟩
        have HB := Lib.hid (HB.out.trans (hb.mono HB.out.size))
        clear hb
        go_wp2_with fail
        go_ret
        exact ⟨rfl, HB.out⟩

theorem lxsorts_types : ∀ t ∈ [22, 22, 9, 9], Tryd.prog.readableRec t = true ∧ t < Tryd.prog.types.size := by
  have h : ([22, 22, 9, 9].all fun t => Tryd.prog.readableRec t && decide (t < Tryd.prog.types.size)) = true := by kernel_rfl
  intro t ht
  have := List.all_eq_true.1 h t ht
  simpa using this

set_option maxRecDepth 100000 in
theorem lxsorts_contract (H : Type) (enc : TypeId × Value → H) (W : World) (base : Nat) (args : Array Value) (ds gs : List (DataW H)) (before : List MemPlace)
    (hval : ∀ (j : Nat) t v, Tryd.f4.params[j]? = some t → args[j]? = some v → Value.okWide Tryd.prog W .any base t v)
    (hW : DataW.Whole enc Tryd.prog Tryd.f4.params.toList Rows.scopeSortsSpec.vars false W args.toList ds gs before) (hL : laidMetH Tryd.prog Rows.scopeSortsRow.laid W) (hsh : W.ShapedOpen Tryd.prog) :
    Calls Tryd.prog 4 args W fun e W' => ∃ v, e = .returned v ∧ Rows.scopeSortsSpec.post enc Tryd.prog Tryd.f4 false true false false W args v W' := by
  have hW' := hW
  obtain ⟨p, q, hA0, hV, rfl, hfz, hnd⟩ := hW
  have hA : DataW.TrodAll enc Tryd.prog W 0 (fun _ => true) true Tryd.f4.params.toList args.toList ds p := hA0
  obtain ⟨rfl, rfl⟩ := trodVars_none hV
  simp only [List.append_nil] at hW'
  have hlt : ∀ x ∈ p, x.block < W.heap.size := fun x hx => by simpa using hW'.lt x hx
  have fin : ∀ W', Below W.heap.size W W' → DataW.TrodAll enc Tryd.prog W' 0 (fun b => decide (b < W.heap.size)) true [22, 22, 9, 9] args.toList ds p := fun W' hb => by
    rw [Tryd.params4] at hA
    exact trodAll_below hb _ _ _ _ lxsorts_types hA hlt
  clear hA0
  rw [Tryd.params4] at hA hval
  obtain ⟨v0, vs0, d0, ds0, p0, q0, hargs, rfl, hp0, h0, r0⟩ := trodAll_cons hA
  obtain ⟨v1, vs1, d1, ds1, p1, q1, rfl, rfl, hp1, h1, r1⟩ := trodAll_cons r0
  obtain ⟨v2, vs2, d2, ds2, p2, q2, rfl, rfl, hp2, h2, r2⟩ := trodAll_cons r1
  obtain ⟨v3, vs3, d3, ds3, p3, q3, rfl, rfl, hp3, h3, r3⟩ := trodAll_cons r2
  obtain ⟨rfl, rfl, rfl⟩ := trodAll_nil r3
  obtain rfl : args = #[v0, v1, v2, v3] := by cases args; simp_all
  obtain ⟨a, an, ac, al, rfl, hs0⟩ := open_strs (hval 0 22 v0 rfl rfl) h0
  obtain ⟨b, bn, bc, bl, rfl, hs1⟩ := open_strs (hval 1 22 v1 rfl rfl) h1
  obtain ⟨s, rfl, rfl, rfl, hs2⟩ := open_string Tryd.underlying9 (hval 2 9 v2 rfl rfl) h2
  obtain ⟨t, rfl, rfl, rfl, hs3⟩ := open_string Tryd.underlying9 (hval 3 9 v3 rfl rfl) h3
  refine (lxsorts_s a an ac al b bn bc bl s t W hs0 hs1 (max_ok hsh)).mono fun e W' ⟨he, hb⟩ => ?_
  subst he
  exact ⟨_, rfl, _, _, _, [], p, [], hW', trodAll_mk1 (shut_bool Tryd.underlying4 _), fin W' hb, rfl, hb.frame _, fun h => by cases h⟩

set_option maxRecDepth 100000 in
theorem lxsorts_lifted (os : Os) (started : os.Started) (H : Type) (enc : TypeId × Value → H) (F : Stop.Interp) :
    ReturnsInHanded {} Tryd.checked os 4 .any ((OpenSpec.ofChange Rows.scopeSortsSpec).preRow enc Tryd.prog Tryd.f4 Rows.scopeSortsRow.domain false Rows.scopeSortsRow.laid) (((OpenSpec.ofChange Rows.scopeSortsSpec).at F).post enc Tryd.prog Tryd.f4 false true false false) := by
  refine returnsInHanded_of_row (C := Tryd.checked) (s := OpenSpec.ofChange Rows.scopeSortsSpec) own started (by kernel_rfl) Tryd.func4
    (witness_row (enc := enc) (C := Tryd.checked) false (World.laidAll Tryd.prog os Rows.scopeSortsRow.laid) #[.slice none 0 0, .slice none 0 0, .string ⟨#[]⟩, .string ⟨#[]⟩] (World.laidAll_os _ _ _)
      (World.shaped_of_ZipB (by kernel_rfl) (by kernel_rfl)) (by kernel_rfl)
      (OpenSpec.preRow_of_cond 8 (x := ([.nil, .nil, .lit (.string []), .lit (.string [])], [], [])) (by kernel_rfl) (by kernel_rfl) (fun k hk => by cases hk) (by kernel_rfl)
        (by rw [MakeChecks.laidMetH_plain _ _ _ (by kernel_rfl)]; exact laidMet_laidAll _ (by kernel_rfl) (by kernel_rfl)))) ?_
  intro W base args ds gs before hval hW _ _ _ hL hsh _
  exact lxsorts_contract H enc W base args ds gs before hval hW hL hsh

set_option maxRecDepth 100000 in
theorem lxsorts_said : Rows.ScopeSortsSaid :=
  OpenClaim.holds_of_cond 4 Tryd.f4 rfl rfl rfl rfl rfl rfl rfl ⟨rfl, rfl, rfl, rfl, rfl⟩ rfl rfl rfl rfl rfl (by kernel_rfl) Tryd.func4 (by kernel_rfl)
    (of_decide_eq_true (by kernel_rfl)) (by unfold Func.isWrapper; first | (rw [if_pos (by decide +kernel)]; kernel_rfl) | (rw [if_neg (by decide +kernel)]; exact ⟨rfl, rfl⟩))
    (fun os started H enc _ F => by rw [OpenClaim.pre_eq_preRow]; exact lxsorts_lifted os started H enc F)

set_option maxRecDepth 100000 in
theorem lxsorts_plain (f : FuncId) (fn : Func) (hf : Tryd.pinned.checked.prog.funcNamed "identity/identitylaw29.ScopeSorts" = some f) (hfn : Tryd.pinned.checked.prog.funcs[f]? = some fn) :
    false = Tryd.pinned.checked.prog.looks [] ∧ ∀ (j : Nat) t, fn.params[j]? = some t → Tryd.pinned.checked.prog.wantsStandIn t = false := by
  obtain rfl : f = 4 := Option.some.inj ((show Tryd.prog.funcNamed "identity/identitylaw29.ScopeSorts" = some 4 by kernel_rfl).symm.trans hf) |>.symm
  obtain rfl : fn = Tryd.f4 := (Option.some.inj (Tryd.func4.symm.trans hfn)).symm
  refine ⟨by kernel_rfl, fun j t ht => ?_⟩
  rw [Tryd.params4] at ht
  have hm : t ∈ [22, 22, 9, 9] := by simpa using Array.mem_of_getElem? ht
  have hall : ([22, 22, 9, 9].all fun u => !Tryd.prog.wantsStandIn u) = true := by kernel_rfl
  exact (show Tryd.prog.wantsStandIn t = false by simpa using List.all_eq_true.1 hall t hm)

/-- THE CARD -/
theorem lxsorts_card : Rows.ScopeSortsCardSaid :=
  Claim7.holds_tied_plain_at .later [] _ _ _ _ lxsorts_said (fun _ h => by cases h) (by kernel_rfl) (fun _ h => by cases h) scopeSorts_row_tie rfl ⟨rfl, rfl⟩ (by kernel_rfl) rfl lxsorts_plain (by kernel_rfl)
end Go.Proofs.YtminodinhbcgnaaDoor
