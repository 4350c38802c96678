/-
  Proved: identitylaw28.ProofSessions returns true for all arguments (the tied card). No condition beyond the row's own.
-/
import Derived.Test.YtbogmmdmfbcbnaaDoorPrfLaws
import Derived.Deep.RegionHeld3
set_option linter.unusedVariables false
set_option linter.unusedSimpArgs false
set_option linter.unnecessarySimpa false
namespace Go.Proofs.YtbogmmdmfbcbnaaDoor
open Go.ChangeShapes Go.WideShapes Go.ChangeAt Go.RowKit Go.PlainAid
open Go.ChangeMaps (open_string shut_string)

theorem emp_no {s : ByteArray} (h : s ≠ ⟨#[]⟩) : s.toList.isEmpty = false := by
  rw [Bool.eq_false_iff]
  intro k
  have k : s.toList = [] := by simpa using k
  rw [Lib.toList_data] at k
  exact h (by rw [← Lib.mk_data s, k])
/-- what Bound answers on a state of another session -/
theorem bd_sess {sec ses req oth stg r : ByteArray} {x : Int} (h1 : plB ses = true) (h2 : plB req = true) (h : BdE stg oth (bndS sec ses req) (r, x)) :
    (x = 4) ∨ (x = 0 ∧ macS sec (ses ++ ⟨#[124]⟩ ++ req) = macS stg (oth ++ ⟨#[124]⟩ ++ req)) ∨ (x = 20 ∧ macS sec (ses ++ ⟨#[124]⟩ ++ req) ≠ macS stg (oth ++ ⟨#[124]⟩ ++ req)) := by
  rcases h with ⟨h, _⟩ | ⟨q, k1, k2, k3⟩
  · injection h with _ h; exact .inl h
  · have e := nm_one (bnd_nm h1 h2) k2
    subst e
    have hb := bnd_eq (sec := sec) (sec' := stg) h1 k1 h2
    by_cases e : bndS stg oth req = bndS sec ses req
    · rw [if_pos e] at k3
      injection k3 with _ k3
      exact .inr (.inl ⟨k3, hb.1 e.symm⟩)
    · rw [if_neg e] at k3
      injection k3 with _ k3
      exact .inr (.inr ⟨k3, fun k => e (hb.2 k).symm⟩)
theorem bar_long {a b : ByteArray} (ha : a.size ≤ 300) (hb : b.size ≤ 300) : (a ++ ⟨#[124]⟩ ++ b).size ≤ 1000000 := by
  rw [ByteArray.size_append, ByteArray.size_append]
  have : (⟨#[124]⟩ : ByteArray).size = 1 := rfl
  omega
set_option maxRecDepth 100000 in
set_option maxHeartbeats 16000000 in
theorem lpsessions_s (sec : ByteArray) (ses : ByteArray) (req : ByteArray) (oth : ByteArray) (str : ByteArray) (w : World) (ho : POk w) :
    Calls Tryd.prog 7 #[.string sec, .string ses, .string req, .string oth, .string str] w fun e w' => e = .returned (.bool true) ∧ Below w.heap.size w w' := by
  have HB := Lib.hid (box_below w (.cells #[.string sec, .string ses, .string req, .string oth, .string str] 9))
  have HO := Lib.hid (ho.below HB.out)
  clear ho
  obtain ⟨gl, hgl⟩ : ∃ gl, lgB [sec, ses, req, oth, str] = gl := ⟨_, rfl⟩
  have HLg : Hid (Calls Tryd.prog 9 #[.slice (some ⟨w.heap.size, 0, none⟩) 5 5] (w.alloc (.cells #[.string sec, .string ses, .string req, .string oth, .string str] 9)) fun e w' => e = .returned (.bool gl) ∧ w.alloc (.cells #[.string sec, .string ses, .string req, .string oth, .string str] 9) = w') := Lib.hid (long_k w.heap.size 5 [sec, ses, req, oth, str] gl _ (strs_new w [sec, ses, req, oth, str]) rfl (by decide) hgl)
  cases gl with
  | true =>
    clear hgl
    go_enter Tryd.func7, Tryd.ntmps7
    go_wp2_with fail
    refine HLg.out.mono ?_
    rintro e w' ⟨rfl, rfl⟩
    go_wp2_with fail
    refine (live_s _ HO.out).mono ?_
    rintro e wc1 ⟨rfl, hb⟩
    have HB := Lib.hid (HB.out.trans (hb.mono HB.out.size))
    clear hb
    go_wp2_with fail
    go_ret
    exact ⟨rfl, HB.out⟩
  | false =>
    have hsz := lg_out hgl
    have z0 : sec.size ≤ 300 := hsz sec (by simp)
    have z1 : ses.size ≤ 300 := hsz ses (by simp)
    have z2 : req.size ≤ 300 := hsz req (by simp)
    have z3 : oth.size ≤ 300 := hsz oth (by simp)
    have z4 : str.size ≤ 300 := hsz str (by simp)
    clear hgl hsz
    obtain ⟨s, hs⟩ : ∃ s, bndS sec ses req = s := ⟨_, rfl⟩
    have HB1 := Lib.hid (fun W hW => bind_k sec ses req s W (by omega) (by omega) (by omega) hW hs)
    by_cases he : s = ⟨#[]⟩
    · have e3 : s.toList.isEmpty = true := by rw [he, Lib.toList_data]; rfl
      clear hs he
      go_enter Tryd.func7, Tryd.ntmps7
      go_wp2_with fail
      refine HLg.out.mono ?_
      rintro e w' ⟨rfl, rfl⟩
      go_wp2_with fail
      refine (HB1.out _ HO.out).mono ?_
      rintro e wc6 ⟨rfl, hb⟩
      have HB := Lib.hid (HB.out.trans (hb.mono HB.out.size))
      have HO := Lib.hid (HO.out.below hb)
      clear hb
      go_wp2_with fail
      refine (live_s _ HO.out).mono ?_
      rintro e wc2 ⟨rfl, hb⟩
      have HB := Lib.hid (HB.out.trans (hb.mono HB.out.size))
      clear hb
      go_wp2_with fail
      go_ret
      exact ⟨rfl, HB.out⟩
    · have e3 := emp_no he
      have hp := bnd_ne (by rw [hs]; exact he)
      have zs : s.size ≤ 1000000 := by rw [← hs, bnd_size hp.1 hp.2]; omega
      obtain ⟨⟨r, x⟩, hx⟩ := bd_ex str oth s
      have HB2 := Lib.hid (fun W hW => bound_k str oth s r x W (by omega) (by omega) zs hW hx)
      have hc := bd_sess hp.1 hp.2 (by rw [hs]; exact hx)
      have HZ1 := Lib.hid (bar_long (a := ses) (b := req) z1 z2)
      have HZ2 := Lib.hid (bar_long (a := oth) (b := req) z3 z2)
      obtain ⟨m1, hm1⟩ : ∃ m, macS sec (ses ++ ⟨#[124]⟩ ++ req) = m := ⟨_, rfl⟩
      obtain ⟨m2, hm2⟩ : ∃ m, macS str (oth ++ ⟨#[124]⟩ ++ req) = m := ⟨_, rfl⟩
      rw [hm1, hm2] at hc
      have HM1 := Lib.hid (fun W (hW : POk W) => mac_k sec _ m1 W (by omega) HZ1.out hW.2 hm1)
      have HM2 := Lib.hid (fun W (hW : POk W) => mac_k str _ m2 W (by omega) HZ2.out hW.2 hm2)
      obtain ⟨p, hp2⟩ : ∃ p, (m1.toList == m2.toList) = p := ⟨_, rfl⟩
      have hpd : decide (m1 = m2) = p := by rw [← str_b]; exact hp2
      clear hs he hp hx hm1 hm2
      rcases hc with hc | ⟨hc, hmm⟩ | ⟨hc, hmm⟩
      · subst hc
        clear hpd
        go_enter Tryd.func7, Tryd.ntmps7
        go_wp2_with fail
        refine HLg.out.mono ?_
        rintro e w' ⟨rfl, rfl⟩
        go_wp2_with fail
        refine (HB1.out _ HO.out).mono ?_
        rintro e wc7 ⟨rfl, hb⟩
        have HB := Lib.hid (HB.out.trans (hb.mono HB.out.size))
        have HO := Lib.hid (HO.out.below hb)
        clear hb
        go_wp2_with fail
        refine (HB2.out _ HO.out).mono ?_
        rintro e wc8 ⟨rfl, hb⟩
        have HB := Lib.hid (HB.out.trans (hb.mono HB.out.size))
        have HO := Lib.hid (HO.out.below hb)
        clear hb
        go_wp2_with fail
        refine (HM1.out _ HO.out).mono ?_
        rintro e wc9 ⟨rfl, hb⟩
        have HB := Lib.hid (HB.out.trans (hb.mono HB.out.size))
        have HO := Lib.hid (HO.out.below hb)
        clear hb
        go_wp2_with fail
        refine (HM2.out _ HO.out).mono ?_
        rintro e wc10 ⟨rfl, hb⟩
        have HB := Lib.hid (HB.out.trans (hb.mono HB.out.size))
        have HO := Lib.hid (HO.out.below hb)
        clear hb
        go_wp2_with fail
        refine (live_s _ HO.out).mono ?_
        rintro e wc3 ⟨rfl, hb⟩
        have HB := Lib.hid (HB.out.trans (hb.mono HB.out.size))
        clear hb
        go_wp2_with fail
        go_ret
        exact ⟨rfl, HB.out⟩
      · subst hc
        have hpt : p = true := by rw [← hpd]; exact decide_eq_true hmm
        subst hpt
        clear hpd hmm
        go_enter Tryd.func7, Tryd.ntmps7
        go_wp2_with fail
        refine HLg.out.mono ?_
        rintro e w' ⟨rfl, rfl⟩
        go_wp2_with fail
        refine (HB1.out _ HO.out).mono ?_
        rintro e wc11 ⟨rfl, hb⟩
        have HB := Lib.hid (HB.out.trans (hb.mono HB.out.size))
        have HO := Lib.hid (HO.out.below hb)
        clear hb
        go_wp2_with fail
        refine (HB2.out _ HO.out).mono ?_
        rintro e wc12 ⟨rfl, hb⟩
        have HB := Lib.hid (HB.out.trans (hb.mono HB.out.size))
        have HO := Lib.hid (HO.out.below hb)
        clear hb
        go_wp2_with fail
        refine (HM1.out _ HO.out).mono ?_
        rintro e wc13 ⟨rfl, hb⟩
        have HB := Lib.hid (HB.out.trans (hb.mono HB.out.size))
        have HO := Lib.hid (HO.out.below hb)
        clear hb
        go_wp2_with fail
        refine (HM2.out _ HO.out).mono ?_
        rintro e wc14 ⟨rfl, hb⟩
        have HB := Lib.hid (HB.out.trans (hb.mono HB.out.size))
        have HO := Lib.hid (HO.out.below hb)
        clear hb
        go_wp2_with fail
        refine (live_s _ HO.out).mono ?_
        rintro e wc4 ⟨rfl, hb⟩
        have HB := Lib.hid (HB.out.trans (hb.mono HB.out.size))
        clear hb
        go_wp2_with fail
        go_ret
        exact ⟨rfl, HB.out⟩
      · subst hc
        have hpt : p = false := by rw [← hpd]; exact decide_eq_false hmm
        subst hpt
        clear hpd hmm
        go_enter Tryd.func7, Tryd.ntmps7
        go_wp2_with fail
        refine HLg.out.mono ?_
        rintro e w' ⟨rfl, rfl⟩
        go_wp2_with fail
        refine (HB1.out _ HO.out).mono ?_
        rintro e wc15 ⟨rfl, hb⟩
        have HB := Lib.hid (HB.out.trans (hb.mono HB.out.size))
        have HO := Lib.hid (HO.out.below hb)
        clear hb
        go_wp2_with fail
        refine (HB2.out _ HO.out).mono ?_
        rintro e wc16 ⟨rfl, hb⟩
        have HB := Lib.hid (HB.out.trans (hb.mono HB.out.size))
        have HO := Lib.hid (HO.out.below hb)
        clear hb
        go_wp2_with fail
        refine (HM1.out _ HO.out).mono ?_
        rintro e wc17 ⟨rfl, hb⟩
        have HB := Lib.hid (HB.out.trans (hb.mono HB.out.size))
        have HO := Lib.hid (HO.out.below hb)
        clear hb
        go_wp2_with fail
        refine (HM2.out _ HO.out).mono ?_
        rintro e wc18 ⟨rfl, hb⟩
        have HB := Lib.hid (HB.out.trans (hb.mono HB.out.size))
        have HO := Lib.hid (HO.out.below hb)
        clear hb
        go_wp2_with fail
        refine (live_s _ HO.out).mono ?_
        rintro e wc5 ⟨rfl, hb⟩
        have HB := Lib.hid (HB.out.trans (hb.mono HB.out.size))
        clear hb
        go_wp2_with fail
        go_ret
        exact ⟨rfl, HB.out⟩

theorem lpsessions_types : ∀ t ∈ [9, 9, 9, 9, 9], Tryd.prog.readableRec t = true ∧ t < Tryd.prog.types.size := by
  have h : ([9, 9, 9, 9, 9].all fun t => Tryd.prog.readableRec t && decide (t < Tryd.prog.types.size)) = true := by kernel_rfl
  intro t ht
  have := List.all_eq_true.1 h t ht
  simpa using this

set_option maxRecDepth 100000 in
theorem lpsessions_contract (H : Type) (enc : TypeId × Value → H) (W : World) (base : Nat) (args : Array Value) (ds gs : List (DataW H)) (before : List MemPlace)
    (hval : ∀ (j : Nat) t v, Tryd.f7.params[j]? = some t → args[j]? = some v → Value.okWide Tryd.prog W .any base t v)
    (hW : DataW.Whole enc Tryd.prog Tryd.f7.params.toList Rows.proofSessionsSpec.vars false W args.toList ds gs before) (hL : laidMetH Tryd.prog Rows.proofSessionsRow.laid W) (hsh : W.ShapedOpen Tryd.prog) :
    Calls Tryd.prog 7 args W fun e W' => ∃ v, e = .returned v ∧ Rows.proofSessionsSpec.post enc Tryd.prog Tryd.f7 false true false false W args v W' := by
  have hW' := hW
  obtain ⟨p, q, hA0, hV, rfl, hfz, hnd⟩ := hW
  have hA : DataW.TrodAll enc Tryd.prog W 0 (fun _ => true) true Tryd.f7.params.toList args.toList ds p := hA0
  obtain ⟨rfl, rfl⟩ := trodVars_none hV
  simp only [List.append_nil] at hW'
  have hlt : ∀ x ∈ p, x.block < W.heap.size := fun x hx => by simpa using hW'.lt x hx
  have fin : ∀ W', Below W.heap.size W W' → DataW.TrodAll enc Tryd.prog W' 0 (fun b => decide (b < W.heap.size)) true [9, 9, 9, 9, 9] args.toList ds p := fun W' hb => by
    rw [Tryd.params7] at hA
    exact trodAll_below hb _ _ _ _ lpsessions_types hA hlt
  clear hA0
  rw [Tryd.params7] at hA hval
  obtain ⟨v0, vs0, d0, ds0, p0, q0, hargs, rfl, hp0, h0, r0⟩ := trodAll_cons hA
  obtain ⟨v1, vs1, d1, ds1, p1, q1, rfl, rfl, hp1, h1, r1⟩ := trodAll_cons r0
  obtain ⟨v2, vs2, d2, ds2, p2, q2, rfl, rfl, hp2, h2, r2⟩ := trodAll_cons r1
  obtain ⟨v3, vs3, d3, ds3, p3, q3, rfl, rfl, hp3, h3, r3⟩ := trodAll_cons r2
  obtain ⟨v4, vs4, d4, ds4, p4, q4, rfl, rfl, hp4, h4, r4⟩ := trodAll_cons r3
  obtain ⟨rfl, rfl, rfl⟩ := trodAll_nil r4
  obtain rfl : args = #[v0, v1, v2, v3, v4] := by cases args; simp_all
  obtain ⟨sec, rfl, rfl, rfl, hs0⟩ := open_string Tryd.underlying9 (hval 0 9 v0 rfl rfl) h0
  obtain ⟨ses, rfl, rfl, rfl, hs1⟩ := open_string Tryd.underlying9 (hval 1 9 v1 rfl rfl) h1
  obtain ⟨req, rfl, rfl, rfl, hs2⟩ := open_string Tryd.underlying9 (hval 2 9 v2 rfl rfl) h2
  obtain ⟨oth, rfl, rfl, rfl, hs3⟩ := open_string Tryd.underlying9 (hval 3 9 v3 rfl rfl) h3
  obtain ⟨str, rfl, rfl, rfl, hs4⟩ := open_string Tryd.underlying9 (hval 4 9 v4 rfl rfl) h4
  refine (lpsessions_s sec ses req oth str W ⟨max_ok hsh, pow_of hL⟩).mono fun e W' ⟨he, hb⟩ => ?_
  subst he
  exact ⟨_, rfl, _, _, _, [], p, [], hW', trodAll_mk1 (shut_bool Tryd.underlying4 _), fin W' hb, rfl, hb.frame _, fun h => by cases h⟩

set_option maxRecDepth 100000 in
theorem lpsessions_lifted (os : Os) (started : os.Started) (H : Type) (enc : TypeId × Value → H) (F : Stop.Interp) :
    ReturnsInHanded {} Tryd.checked os 7 .any ((OpenSpec.ofChange Rows.proofSessionsSpec).preRow enc Tryd.prog Tryd.f7 Rows.proofSessionsRow.domain false Rows.proofSessionsRow.laid) (((OpenSpec.ofChange Rows.proofSessionsSpec).at F).post enc Tryd.prog Tryd.f7 false true false false) := by
  refine returnsInHanded_of_row (C := Tryd.checked) (s := OpenSpec.ofChange Rows.proofSessionsSpec) own started (by kernel_rfl) Tryd.func7
    (witness_row (enc := enc) (C := Tryd.checked) false (World.laidAll Tryd.prog os Rows.proofSessionsRow.laid) #[.string ⟨#[]⟩, .string ⟨#[]⟩, .string ⟨#[]⟩, .string ⟨#[]⟩, .string ⟨#[]⟩] (World.laidAll_os _ _ _)
      (World.shaped_of_ZipB (by kernel_rfl) (by kernel_rfl)) (by kernel_rfl)
      (OpenSpec.preRow_of_cond 8 (x := ([.lit (.string []), .lit (.string []), .lit (.string []), .lit (.string []), .lit (.string [])], [], [])) (by kernel_rfl) (by kernel_rfl) (fun k hk => by cases hk) (by kernel_rfl)
        (by rw [MakeChecks.laidMetH_plain _ _ _ (by kernel_rfl)]; exact laidMet_laidAll _ (by kernel_rfl) (by kernel_rfl)))) ?_
  intro W base args ds gs before hval hW _ _ _ hL hsh _
  exact lpsessions_contract H enc W base args ds gs before hval hW hL hsh

set_option maxRecDepth 100000 in
theorem lpsessions_said : Rows.ProofSessionsSaid :=
  OpenClaim.holds_of_cond 7 Tryd.f7 rfl rfl rfl rfl rfl rfl rfl ⟨rfl, rfl, rfl, rfl, rfl⟩ rfl rfl rfl rfl rfl (by kernel_rfl) Tryd.func7 (by kernel_rfl)
    (of_decide_eq_true (by kernel_rfl)) (by unfold Func.isWrapper; first | (rw [if_pos (by decide +kernel)]; kernel_rfl) | (rw [if_neg (by decide +kernel)]; exact ⟨rfl, rfl⟩))
    (fun os started H enc _ F => by rw [OpenClaim.pre_eq_preRow]; exact lpsessions_lifted os started H enc F)

set_option maxRecDepth 100000 in
theorem lpsessions_plain (f : FuncId) (fn : Func) (hf : Tryd.pinned.checked.prog.funcNamed "identity/identitylaw28.ProofSessions" = some f) (hfn : Tryd.pinned.checked.prog.funcs[f]? = some fn) :
    false = Tryd.pinned.checked.prog.looks [] ∧ ∀ (j : Nat) t, fn.params[j]? = some t → Tryd.pinned.checked.prog.wantsStandIn t = false := by
  obtain rfl : f = 7 := Option.some.inj ((show Tryd.prog.funcNamed "identity/identitylaw28.ProofSessions" = some 7 by kernel_rfl).symm.trans hf) |>.symm
  obtain rfl : fn = Tryd.f7 := (Option.some.inj (Tryd.func7.symm.trans hfn)).symm
  refine ⟨by kernel_rfl, fun j t ht => ?_⟩
  rw [Tryd.params7] at ht
  have hm : t ∈ [9, 9, 9, 9, 9] := by simpa using Array.mem_of_getElem? ht
  have hall : ([9, 9, 9, 9, 9].all fun u => !Tryd.prog.wantsStandIn u) = true := by kernel_rfl
  exact (show Tryd.prog.wantsStandIn t = false by simpa using List.all_eq_true.1 hall t hm)

/-- THE CARD -/
theorem lpsessions_card : Rows.ProofSessionsCardSaid :=
  Claim7.holds_tied_plain_at .later [] _ _ _ _ lpsessions_said (fun _ h => by cases h) (by kernel_rfl) (fun _ h => by cases h) proofSessions_row_tie rfl ⟨rfl, rfl⟩ (by kernel_rfl) rfl lpsessions_plain (by kernel_rfl)
end Go.Proofs.YtbogmmdmfbcbnaaDoor
