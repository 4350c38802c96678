/-
  Proved: identitylaw29.ScopeBack returns true for all arguments (the tied card). No condition beyond the row's own.
-/
import Derived.Test.YtminodinhbcgnaaDoorScoLaws
import Derived.Deep.RegionHeld3
set_option linter.unusedVariables false
set_option linter.unusedSimpArgs false
set_option linter.unnecessarySimpa false
namespace Go.Proofs.YtminodinhbcgnaaDoor
open Go.ChangeShapes Go.WideShapes Go.ChangeAt Go.RowKit Go.PlainAid
open Go.ChangeMaps (open_string shut_string)

set_option maxRecDepth 100000 in
set_option maxHeartbeats 16000000 in
theorem lxback_s (l : Option Addr) (ln lc : Nat) (ll : List ByteArray) (s : ByteArray) (w : World) (hs0 : StrsAt w l ln lc ll) (ho : MaxOk w) :
    Calls Tryd.prog 6 #[.slice l ln lc, .string s] w fun e w' => e = .returned (.bool true) ∧ Below w.heap.size w w' := by
  have HO := Lib.hid ho
  have HB := Lib.hid (Below.refl w.heap.size w)
  clear ho
  have Hl := Lib.hid hs0
  obtain ⟨fl, hfl⟩ : ∃ x, fewB ll = x := ⟨_, rfl⟩
  have HFl := Lib.hid (few_k l ln lc ll fl w Hl.out hfl)
  clear hs0
  obtain ⟨z, hz⟩ : ∃ x, chkS ll = x := ⟨_, rfl⟩
  have HTr := Lib.hid (fun h => text_read (l := ll) h)
  have hxz := tx_small ll
  obtain ⟨x, hx⟩ : ∃ x, txS ll = x := ⟨_, rfl⟩
  rw [hx] at HTr hxz
  rw [hz] at HTr
  have HVz := Lib.hid hz
  have HVx := Lib.hid hx
  have HRt := Lib.hid (fun h => read_text (s := s) h)
  obtain ⟨z2, hz2⟩ : ∃ x, prE s = x := ⟨_, rfl⟩
  have HSm2 := Lib.hid (fun h => sms_prL (s := s) h)
  obtain ⟨L2, hL2⟩ : ∃ x, prL s = x := ⟨_, rfl⟩
  rw [hz2, hL2] at HRt
  rw [hL2] at HSm2
  have HVz2 := Lib.hid hz2
  have HVL2 := Lib.hid hL2
  clear hx hz hz2 hL2
  have q1 := bne_i z
  have q5 := bne_s s
  cases fl with
  | false =>
    clear hfl
    go_enter Tryd.func6, Tryd.ntmps6
    go_wp2_with fail
    refine (HFl.out).mono ?_
    rintro e w' ⟨rfl, rfl⟩
    go_wp2_with fail
    refine (awake_k _ (HO.out.step HB.out)).mono ?_
    rintro e wz ⟨rfl, hb⟩
    have HB := Lib.hid (HB.out.trans (hb.mono HB.out.size))
    clear hb
    go_wp2_with fail
    go_ret
    exact ⟨rfl, HB.out⟩
  | true =>
    have hSl := few_sms hfl
    have HSl := Lib.hid hSl
    have hll := hSl.2.1
    clear hfl hSl
    by_cases zs : s.size ≤ 2000
    · have ys : ¬ (2000 : Int) < (s.size : Int) := by omega
      by_cases h1 : z = 0
      · have HZ1 := Lib.hid h1
        have q2 : (z == 0) = true := by rw [h1]; rfl
        clear h1
        by_cases h2 : z2 = 0
        · have HZ2 := Lib.hid h2
          have q3 : (z2 == 0) = true := by rw [h2]; rfl
          clear h2
          go_enter Tryd.func6, Tryd.ntmps6
          go_wp2_with fail
          refine (HFl.out).mono ?_
          rintro e w' ⟨rfl, rfl⟩
          go_wp2_with fail
          refine (text_k l ln lc ll x z _ Hl.out HSl.out.1 (HO.out.step HB.out) HVx.out HVz.out).mono ?_
          rintro e wc1 ⟨rfl, hb⟩
          have Hl := Lib.hid (StrsAt.below Hl.out hb)
          have HB := Lib.hid (HB.out.trans (hb.mono HB.out.size))
          clear hb
          go_wp2_with fail
          refine (check_k l ln lc ll z _ Hl.out HSl.out.1 (HO.out.step HB.out) HVz.out).mono ?_
          rintro e w' ⟨rfl, rfl⟩
          go_wp2_with fail
          refine (parse_k x 0 ll _ (by omega) (HO.out.step HB.out) (HTr.out HZ1.out).1 (HTr.out HZ1.out).2).mono ?_
          rintro e wc2 ⟨pa, pn, pc, rfl, hat, hb⟩
          have Hl := Lib.hid (StrsAt.below Hl.out hb)
          have HB := Lib.hid (HB.out.trans (hb.mono HB.out.size))
          have Hp := Lib.hid hat
          clear hb hat
          go_wp2_with fail
          refine (same_k pa l pn ln pc lc ll ll true _ Hp.out Hl.out (decide_eq_true rfl)).mono ?_
          rintro e wc3 ⟨rfl, hb⟩
          have Hl := Lib.hid (StrsAt.below Hl.out hb)
          have Hp := Lib.hid (StrsAt.below Hp.out hb)
          have HB := Lib.hid (HB.out.trans (hb.mono HB.out.size))
          clear hb
          go_wp2_with fail
          refine (parse_k s z2 L2 _ (by omega) (HO.out.step HB.out) HVz2.out HVL2.out).mono ?_
          rintro e wc4 ⟨ra, rn, rc, rfl, hat, hb⟩
          have Hl := Lib.hid (StrsAt.below Hl.out hb)
          have Hp := Lib.hid (StrsAt.below Hp.out hb)
          have HB := Lib.hid (HB.out.trans (hb.mono HB.out.size))
          have Hr := Lib.hid hat
          clear hb hat
          go_wp2_with fail
          refine (text_k ra rn rc L2 s 0 _ Hr.out (HSm2.out (by omega)) (HO.out.step HB.out) (HRt.out HZ2.out).2 (HRt.out HZ2.out).1).mono ?_
          rintro e wc5 ⟨rfl, hb⟩
          have Hl := Lib.hid (StrsAt.below Hl.out hb)
          have Hp := Lib.hid (StrsAt.below Hp.out hb)
          have Hr := Lib.hid (StrsAt.below Hr.out hb)
          have HB := Lib.hid (HB.out.trans (hb.mono HB.out.size))
          clear hb
          go_wp2_with fail
          refine (awake_k _ (HO.out.step HB.out)).mono ?_
          rintro e wz ⟨rfl, hb⟩
          have HB := Lib.hid (HB.out.trans (hb.mono HB.out.size))
          clear hb
          go_wp2_with fail
          go_ret
          exact ⟨rfl, HB.out⟩
        · have q3 : (z2 == 0) = false := by simpa using h2
          clear h2
          go_enter Tryd.func6, Tryd.ntmps6
          go_wp2_with fail
          refine (HFl.out).mono ?_
          rintro e w' ⟨rfl, rfl⟩
          go_wp2_with fail
          refine (text_k l ln lc ll x z _ Hl.out HSl.out.1 (HO.out.step HB.out) HVx.out HVz.out).mono ?_
          rintro e wc7 ⟨rfl, hb⟩
          have Hl := Lib.hid (StrsAt.below Hl.out hb)
          have HB := Lib.hid (HB.out.trans (hb.mono HB.out.size))
          clear hb
          go_wp2_with fail
          refine (check_k l ln lc ll z _ Hl.out HSl.out.1 (HO.out.step HB.out) HVz.out).mono ?_
          rintro e w' ⟨rfl, rfl⟩
          go_wp2_with fail
          refine (parse_k x 0 ll _ (by omega) (HO.out.step HB.out) (HTr.out HZ1.out).1 (HTr.out HZ1.out).2).mono ?_
          rintro e wc8 ⟨pa, pn, pc, rfl, hat, hb⟩
          have Hl := Lib.hid (StrsAt.below Hl.out hb)
          have HB := Lib.hid (HB.out.trans (hb.mono HB.out.size))
          have Hp := Lib.hid hat
          clear hb hat
          go_wp2_with fail
          refine (same_k pa l pn ln pc lc ll ll true _ Hp.out Hl.out (decide_eq_true rfl)).mono ?_
          rintro e wc9 ⟨rfl, hb⟩
          have Hl := Lib.hid (StrsAt.below Hl.out hb)
          have Hp := Lib.hid (StrsAt.below Hp.out hb)
          have HB := Lib.hid (HB.out.trans (hb.mono HB.out.size))
          clear hb
          go_wp2_with fail
          refine (parse_k s z2 L2 _ (by omega) (HO.out.step HB.out) HVz2.out HVL2.out).mono ?_
          rintro e wc10 ⟨ra, rn, rc, rfl, hat, hb⟩
          have Hl := Lib.hid (StrsAt.below Hl.out hb)
          have Hp := Lib.hid (StrsAt.below Hp.out hb)
          have HB := Lib.hid (HB.out.trans (hb.mono HB.out.size))
          have Hr := Lib.hid hat
          clear hb hat
          go_wp2_with fail
          refine (awake_k _ (HO.out.step HB.out)).mono ?_
          rintro e wz ⟨rfl, hb⟩
          have HB := Lib.hid (HB.out.trans (hb.mono HB.out.size))
          clear hb
          go_wp2_with fail
          go_ret
          exact ⟨rfl, HB.out⟩
      · have q2 : (z == 0) = false := by simpa using h1
        clear h1
        by_cases h2 : z2 = 0
        · have HZ2 := Lib.hid h2
          have q3 : (z2 == 0) = true := by rw [h2]; rfl
          clear h2
          go_enter Tryd.func6, Tryd.ntmps6
          go_wp2_with fail
          refine (HFl.out).mono ?_
          rintro e w' ⟨rfl, rfl⟩
          go_wp2_with fail
          refine (text_k l ln lc ll x z _ Hl.out HSl.out.1 (HO.out.step HB.out) HVx.out HVz.out).mono ?_
          rintro e wc12 ⟨rfl, hb⟩
          have Hl := Lib.hid (StrsAt.below Hl.out hb)
          have HB := Lib.hid (HB.out.trans (hb.mono HB.out.size))
          clear hb
          go_wp2_with fail
          refine (check_k l ln lc ll z _ Hl.out HSl.out.1 (HO.out.step HB.out) HVz.out).mono ?_
          rintro e w' ⟨rfl, rfl⟩
          go_wp2_with fail
          refine (parse_k s z2 L2 _ (by omega) (HO.out.step HB.out) HVz2.out HVL2.out).mono ?_
          rintro e wc13 ⟨ra, rn, rc, rfl, hat, hb⟩
          have Hl := Lib.hid (StrsAt.below Hl.out hb)
          have HB := Lib.hid (HB.out.trans (hb.mono HB.out.size))
          have Hr := Lib.hid hat
          clear hb hat
          go_wp2_with fail
          refine (text_k ra rn rc L2 s 0 _ Hr.out (HSm2.out (by omega)) (HO.out.step HB.out) (HRt.out HZ2.out).2 (HRt.out HZ2.out).1).mono ?_
          rintro e wc14 ⟨rfl, hb⟩
          have Hl := Lib.hid (StrsAt.below Hl.out hb)
          have Hr := Lib.hid (StrsAt.below Hr.out hb)
          have HB := Lib.hid (HB.out.trans (hb.mono HB.out.size))
          clear hb
          go_wp2_with fail
          refine (awake_k _ (HO.out.step HB.out)).mono ?_
          rintro e wz ⟨rfl, hb⟩
          have HB := Lib.hid (HB.out.trans (hb.mono HB.out.size))
          clear hb
          go_wp2_with fail
          go_ret
          exact ⟨rfl, HB.out⟩
        · have q3 : (z2 == 0) = false := by simpa using h2
          clear h2
          go_enter Tryd.func6, Tryd.ntmps6
          go_wp2_with fail
          refine (HFl.out).mono ?_
          rintro e w' ⟨rfl, rfl⟩
          go_wp2_with fail
          refine (text_k l ln lc ll x z _ Hl.out HSl.out.1 (HO.out.step HB.out) HVx.out HVz.out).mono ?_
          rintro e wc16 ⟨rfl, hb⟩
          have Hl := Lib.hid (StrsAt.below Hl.out hb)
          have HB := Lib.hid (HB.out.trans (hb.mono HB.out.size))
          clear hb
          go_wp2_with fail
          refine (check_k l ln lc ll z _ Hl.out HSl.out.1 (HO.out.step HB.out) HVz.out).mono ?_
          rintro e w' ⟨rfl, rfl⟩
          go_wp2_with fail
          refine (parse_k s z2 L2 _ (by omega) (HO.out.step HB.out) HVz2.out HVL2.out).mono ?_
          rintro e wc17 ⟨ra, rn, rc, rfl, hat, hb⟩
          have Hl := Lib.hid (StrsAt.below Hl.out hb)
          have HB := Lib.hid (HB.out.trans (hb.mono HB.out.size))
          have Hr := Lib.hid hat
          clear hb hat
          go_wp2_with fail
          refine (awake_k _ (HO.out.step HB.out)).mono ?_
          rintro e wz ⟨rfl, hb⟩
          have HB := Lib.hid (HB.out.trans (hb.mono HB.out.size))
          clear hb
          go_wp2_with fail
          go_ret
          exact ⟨rfl, HB.out⟩
    · have ys : (2000 : Int) < (s.size : Int) := by omega
      go_enter Tryd.func6, Tryd.ntmps6
      go_wp2_with fail
      refine (HFl.out).mono ?_
      rintro e w' ⟨rfl, rfl⟩
      go_wp2_with fail
      refine (awake_k _ (HO.out.step HB.out)).mono ?_
      rintro e wz ⟨rfl, hb⟩
      have HB := Lib.hid (HB.out.trans (hb.mono HB.out.size))
      clear hb
      go_wp2_with fail
      go_ret
      exact ⟨rfl, HB.out⟩

theorem lxback_types : ∀ t ∈ [22, 9], Tryd.prog.readableRec t = true ∧ t < Tryd.prog.types.size := by
  have h : ([22, 9].all fun t => Tryd.prog.readableRec t && decide (t < Tryd.prog.types.size)) = true := by kernel_rfl
  intro t ht
  have := List.all_eq_true.1 h t ht
  simpa using this

set_option maxRecDepth 100000 in
theorem lxback_contract (H : Type) (enc : TypeId × Value → H) (W : World) (base : Nat) (args : Array Value) (ds gs : List (DataW H)) (before : List MemPlace)
    (hval : ∀ (j : Nat) t v, Tryd.f6.params[j]? = some t → args[j]? = some v → Value.okWide Tryd.prog W .any base t v)
    (hW : DataW.Whole enc Tryd.prog Tryd.f6.params.toList Rows.scopeBackSpec.vars false W args.toList ds gs before) (hL : laidMetH Tryd.prog Rows.scopeBackRow.laid W) (hsh : W.ShapedOpen Tryd.prog) :
    Calls Tryd.prog 6 args W fun e W' => ∃ v, e = .returned v ∧ Rows.scopeBackSpec.post enc Tryd.prog Tryd.f6 false true false false W args v W' := by
  have hW' := hW
  obtain ⟨p, q, hA0, hV, rfl, hfz, hnd⟩ := hW
  have hA : DataW.TrodAll enc Tryd.prog W 0 (fun _ => true) true Tryd.f6.params.toList args.toList ds p := hA0
  obtain ⟨rfl, rfl⟩ := trodVars_none hV
  simp only [List.append_nil] at hW'
  have hlt : ∀ x ∈ p, x.block < W.heap.size := fun x hx => by simpa using hW'.lt x hx
  have fin : ∀ W', Below W.heap.size W W' → DataW.TrodAll enc Tryd.prog W' 0 (fun b => decide (b < W.heap.size)) true [22, 9] args.toList ds p := fun W' hb => by
    rw [Tryd.params6] at hA
    exact trodAll_below hb _ _ _ _ lxback_types hA hlt
  clear hA0
  rw [Tryd.params6] at hA hval
  obtain ⟨v0, vs0, d0, ds0, p0, q0, hargs, rfl, hp0, h0, r0⟩ := trodAll_cons hA
  obtain ⟨v1, vs1, d1, ds1, p1, q1, rfl, rfl, hp1, h1, r1⟩ := trodAll_cons r0
  obtain ⟨rfl, rfl, rfl⟩ := trodAll_nil r1
  obtain rfl : args = #[v0, v1] := by cases args; simp_all
  obtain ⟨l, ln, lc, ll, rfl, hs0⟩ := open_strs (hval 0 22 v0 rfl rfl) h0
  obtain ⟨s, rfl, rfl, rfl, hs1⟩ := open_string Tryd.underlying9 (hval 1 9 v1 rfl rfl) h1
  refine (lxback_s l ln lc ll s W hs0 (max_ok hsh)).mono fun e W' ⟨he, hb⟩ => ?_
  subst he
  exact ⟨_, rfl, _, _, _, [], p, [], hW', trodAll_mk1 (shut_bool Tryd.underlying4 _), fin W' hb, rfl, hb.frame _, fun h => by cases h⟩

set_option maxRecDepth 100000 in
theorem lxback_lifted (os : Os) (started : os.Started) (H : Type) (enc : TypeId × Value → H) (F : Stop.Interp) :
    ReturnsInHanded {} Tryd.checked os 6 .any ((OpenSpec.ofChange Rows.scopeBackSpec).preRow enc Tryd.prog Tryd.f6 Rows.scopeBackRow.domain false Rows.scopeBackRow.laid) (((OpenSpec.ofChange Rows.scopeBackSpec).at F).post enc Tryd.prog Tryd.f6 false true false false) := by
  refine returnsInHanded_of_row (C := Tryd.checked) (s := OpenSpec.ofChange Rows.scopeBackSpec) own started (by kernel_rfl) Tryd.func6
    (witness_row (enc := enc) (C := Tryd.checked) false (World.laidAll Tryd.prog os Rows.scopeBackRow.laid) #[.slice none 0 0, .string ⟨#[]⟩] (World.laidAll_os _ _ _)
      (World.shaped_of_ZipB (by kernel_rfl) (by kernel_rfl)) (by kernel_rfl)
      (OpenSpec.preRow_of_cond 8 (x := ([.nil, .lit (.string [])], [], [])) (by kernel_rfl) (by kernel_rfl) (fun k hk => by cases hk) (by kernel_rfl)
        (by rw [MakeChecks.laidMetH_plain _ _ _ (by kernel_rfl)]; exact laidMet_laidAll _ (by kernel_rfl) (by kernel_rfl)))) ?_
  intro W base args ds gs before hval hW _ _ _ hL hsh _
  exact lxback_contract H enc W base args ds gs before hval hW hL hsh

set_option maxRecDepth 100000 in
theorem lxback_said : Rows.ScopeBackSaid :=
  OpenClaim.holds_of_cond 6 Tryd.f6 rfl rfl rfl rfl rfl rfl rfl ⟨rfl, rfl, rfl, rfl, rfl⟩ rfl rfl rfl rfl rfl (by kernel_rfl) Tryd.func6 (by kernel_rfl)
    (of_decide_eq_true (by kernel_rfl)) (by unfold Func.isWrapper; first | (rw [if_pos (by decide +kernel)]; kernel_rfl) | (rw [if_neg (by decide +kernel)]; exact ⟨rfl, rfl⟩))
    (fun os started H enc _ F => by rw [OpenClaim.pre_eq_preRow]; exact lxback_lifted os started H enc F)

set_option maxRecDepth 100000 in
theorem lxback_plain (f : FuncId) (fn : Func) (hf : Tryd.pinned.checked.prog.funcNamed "identity/identitylaw29.ScopeBack" = some f) (hfn : Tryd.pinned.checked.prog.funcs[f]? = some fn) :
    false = Tryd.pinned.checked.prog.looks [] ∧ ∀ (j : Nat) t, fn.params[j]? = some t → Tryd.pinned.checked.prog.wantsStandIn t = false := by
  obtain rfl : f = 6 := Option.some.inj ((show Tryd.prog.funcNamed "identity/identitylaw29.ScopeBack" = some 6 by kernel_rfl).symm.trans hf) |>.symm
  obtain rfl : fn = Tryd.f6 := (Option.some.inj (Tryd.func6.symm.trans hfn)).symm
  refine ⟨by kernel_rfl, fun j t ht => ?_⟩
  rw [Tryd.params6] at ht
  have hm : t ∈ [22, 9] := by simpa using Array.mem_of_getElem? ht
  have hall : ([22, 9].all fun u => !Tryd.prog.wantsStandIn u) = true := by kernel_rfl
  exact (show Tryd.prog.wantsStandIn t = false by simpa using List.all_eq_true.1 hall t hm)

/-- THE CARD -/
theorem lxback_card : Rows.ScopeBackCardSaid :=
  Claim7.holds_tied_plain_at .later [] _ _ _ _ lxback_said (fun _ h => by cases h) (by kernel_rfl) (fun _ h => by cases h) scopeBack_row_tie rfl ⟨rfl, rfl⟩ (by kernel_rfl) rfl lxback_plain (by kernel_rfl)
end Go.Proofs.YtminodinhbcgnaaDoor
