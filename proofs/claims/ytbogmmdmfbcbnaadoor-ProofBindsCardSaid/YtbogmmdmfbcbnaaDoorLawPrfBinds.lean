/-
  Proved: identitylaw28.ProofBinds returns true for all arguments (the tied card). No condition beyond the row's own.
-/
import Derived.Test.YtbogmmdmfbcbnaaDoorPrfLaws
import Derived.Deep.RegionHeld3
set_option linter.unusedVariables false
set_option linter.unusedSimpArgs false
set_option linter.unnecessarySimpa false
namespace Go.Proofs.YtbogmmdmfbcbnaaDoor
open Go.ChangeShapes Go.WideShapes Go.ChangeAt Go.RowKit Go.PlainAid
open Go.ChangeMaps (open_string shut_string)

theorem bd_zero {sec ses st r : ByteArray} (h : BdE sec ses st (r, 0)) : bndS sec ses r = st := by
  rcases h with ⟨h, _⟩ | ⟨q, h1, h2, h3⟩
  · injection h with _ h; cases h
  · by_cases e : bndS sec ses q = st
    · rw [if_pos e] at h3
      injection h3 with h3 _
      rw [h3]; exact e
    · rw [if_neg e] at h3
      injection h3 with _ h3; cases h3
theorem bd_size {sec ses st r : ByteArray} {x : Int} (h : BdE sec ses st (r, x)) : r.size ≤ 64 := by
  rcases h with ⟨h, _⟩ | ⟨q, h1, h2, h3⟩
  · injection h with h _; rw [h]; decide
  · obtain ⟨_, _, h5, _⟩ := h2
    by_cases e : bndS sec ses q = st
    · rw [if_pos e] at h3
      injection h3 with h3 _
      rw [h3]; exact (plB_size h5).2
    · rw [if_neg e] at h3
      injection h3 with h3 _
      rw [h3]; decide
theorem emp_no {s : ByteArray} (h : s ≠ ⟨#[]⟩) : s.toList.isEmpty = false := by
  rw [Bool.eq_false_iff]
  intro k
  have k : s.toList = [] := by simpa using k
  rw [Lib.toList_data] at k
  exact h (by rw [← Lib.mk_data s, k])
set_option maxRecDepth 100000 in
set_option maxHeartbeats 16000000 in
theorem lpbinds_s (sec : ByteArray) (ses : ByteArray) (req : ByteArray) (st : ByteArray) (w : World) (ho : POk w) :
    Calls Tryd.prog 6 #[.string sec, .string ses, .string req, .string st] w fun e w' => e = .returned (.bool true) ∧ Below w.heap.size w w' := by
  have HB := Lib.hid (box_below w (.cells #[.string sec, .string ses, .string req, .string st] 9))
  have HO := Lib.hid (ho.below HB.out)
  clear ho
  obtain ⟨gl, hgl⟩ : ∃ gl, lgB [sec, ses, req, st] = gl := ⟨_, rfl⟩
  have HLg : Hid (Calls Tryd.prog 9 #[.slice (some ⟨w.heap.size, 0, none⟩) 4 4] (w.alloc (.cells #[.string sec, .string ses, .string req, .string st] 9)) fun e w' => e = .returned (.bool gl) ∧ w.alloc (.cells #[.string sec, .string ses, .string req, .string st] 9) = w') := Lib.hid (long_k w.heap.size 4 [sec, ses, req, st] gl _ (strs_new w [sec, ses, req, st]) rfl (by decide) hgl)
  cases gl with
  | true =>
    clear hgl
    go_enter Tryd.func6, Tryd.ntmps6
    go_wp2_with fail
    refine HLg.out.mono ?_
    rintro e w' ⟨rfl, rfl⟩
    go_wp2_with fail
    refine (live_s _ HO.out).mono ?_
    rintro e wc1 ⟨rfl, hb⟩
    have HB := Lib.hid (HB.out.trans (hb.mono HB.out.size))
    clear hb
    go_wp2_with fail
    go_ret
    exact ⟨rfl, HB.out⟩
  | false =>
    have hsz := lg_out hgl
    have z0 : sec.size ≤ 300 := hsz sec (by simp)
    have z1 : ses.size ≤ 300 := hsz ses (by simp)
    have z2 : req.size ≤ 300 := hsz req (by simp)
    have z3 : st.size ≤ 300 := hsz st (by simp)
    clear hgl hsz
    obtain ⟨s, hs⟩ : ∃ s, bndS sec ses req = s := ⟨_, rfl⟩
    obtain ⟨⟨r, x⟩, hx⟩ := bd_ex sec ses st
    have zr := bd_size hx
    have HB1 := Lib.hid (fun W hW => bind_k sec ses req s W (by omega) (by omega) (by omega) hW hs)
    have HB2 := Lib.hid (fun W hW => bound_k sec ses st r x W (by omega) (by omega) (by omega) hW hx)
    have HB3 := Lib.hid (fun W => rbound_k sec ses st r x W (by omega) (by omega) (by omega) hx)
    have HB4 := Lib.hid (fun W => rbind_k sec ses req s W (by omega) (by omega) (by omega) hs)
    have q1 := bne_s s
    have q2 := bne_s r
    have q3 := bne_i x
    have HE : Hid (s = ⟨#[]⟩ ∨ (s.size ≤ 1000000 ∧ s ≠ ⟨#[]⟩ ∧ BdE sec ses s (req, 0))) := Lib.hid (by
      by_cases h : s = ⟨#[]⟩
      · exact .inl h
      · have hp := bnd_ne (by rw [hs]; exact h)
        refine .inr ⟨?_, h, ?_⟩
        · rw [← hs, bnd_size hp.1 hp.2]; omega
        · refine .inr ⟨req, hp.1, ?_, ?_⟩
          · rw [← hs]; exact bnd_nm hp.1 hp.2
          · rw [if_pos hs])
    by_cases hx0 : x = 0
    · subst hx0
      have HB5 := Lib.hid (fun W hW => bind_k sec ses r st W (by omega) (by omega) (by omega) hW (bd_zero hx))
      have q4 := bne_s st
      clear hs hx
      go_enter Tryd.func6, Tryd.ntmps6
      go_wp2_with fail
      refine HLg.out.mono ?_
      rintro e w' ⟨rfl, rfl⟩
      go_wp2_with fail
      refine (HB1.out _ HO.out).mono ?_
      rintro e wc2 ⟨rfl, hb⟩
      have HB := Lib.hid (HB.out.trans (hb.mono HB.out.size))
      have HO := Lib.hid (HO.out.below hb)
      clear hb
      go_wp2_with fail
      refine (HB2.out _ HO.out).mono ?_
      rintro e wc3 ⟨rfl, hb⟩
      have HB := Lib.hid (HB.out.trans (hb.mono HB.out.size))
      have HO := Lib.hid (HO.out.below hb)
      clear hb
      go_wp2_with fail
      refine (HB3.out _).mono ?_
      rintro e w' ⟨rfl, rfl⟩
      go_wp2_with fail
      refine (HB4.out _).mono ?_
      rintro e w' ⟨rfl, rfl⟩
      go_wp2_with fail
      refine (HB5.out _ HO.out).mono ?_
      rintro e wc4 ⟨rfl, hb⟩
      have HB := Lib.hid (HB.out.trans (hb.mono HB.out.size))
      have HO := Lib.hid (HO.out.below hb)
      clear hb
      go_wp2_with fail
      refine (live_s _ HO.out).mono ?_
      rintro e wl ⟨rfl, hb⟩
      have HB := Lib.hid (HB.out.trans (hb.mono HB.out.size))
      have HO := Lib.hid (HO.out.below hb)
      clear hb
      rcases HE.out with h | ⟨h1, h2, h3⟩
      · have e3 : s.toList.isEmpty = true := by rw [h, Lib.toList_data]; rfl
        clear h
        go_wp2_with fail
        go_ret
        exact ⟨rfl, HB.out⟩
      · have e3 : s.toList.isEmpty = false := emp_no h2
        have HB6 := Lib.hid (fun W hW => bound_k sec ses s req 0 W (by omega) (by omega) h1 hW h3)
        have q5 := beq_s req
        clear h1 h2 h3
        go_wp2_with fail
        refine (HB6.out _ HO.out).mono ?_
        rintro e wc5 ⟨rfl, hb⟩
        have HB := Lib.hid (HB.out.trans (hb.mono HB.out.size))
        have HO := Lib.hid (HO.out.below hb)
        clear hb
        go_wp2_with fail
        go_ret
        exact ⟨rfl, HB.out⟩
    · obtain ⟨e1, e2⟩ := beq0 hx0
      clear hs hx hx0
      go_enter Tryd.func6, Tryd.ntmps6
      go_wp2_with fail
      refine HLg.out.mono ?_
      rintro e w' ⟨rfl, rfl⟩
      go_wp2_with fail
      refine (HB1.out _ HO.out).mono ?_
      rintro e wc6 ⟨rfl, hb⟩
      have HB := Lib.hid (HB.out.trans (hb.mono HB.out.size))
      have HO := Lib.hid (HO.out.below hb)
      clear hb
      go_wp2_with fail
      refine (HB2.out _ HO.out).mono ?_
      rintro e wc7 ⟨rfl, hb⟩
      have HB := Lib.hid (HB.out.trans (hb.mono HB.out.size))
      have HO := Lib.hid (HO.out.below hb)
      clear hb
      go_wp2_with fail
      refine (HB3.out _).mono ?_
      rintro e w' ⟨rfl, rfl⟩
      go_wp2_with fail
      refine (HB4.out _).mono ?_
      rintro e w' ⟨rfl, rfl⟩
      go_wp2_with fail
      refine (live_s _ HO.out).mono ?_
      rintro e wl ⟨rfl, hb⟩
      have HB := Lib.hid (HB.out.trans (hb.mono HB.out.size))
      have HO := Lib.hid (HO.out.below hb)
      clear hb
      rcases HE.out with h | ⟨h1, h2, h3⟩
      · have e3 : s.toList.isEmpty = true := by rw [h, Lib.toList_data]; rfl
        clear h
        go_wp2_with fail
        go_ret
        exact ⟨rfl, HB.out⟩
      · have e3 : s.toList.isEmpty = false := emp_no h2
        have HB6 := Lib.hid (fun W hW => bound_k sec ses s req 0 W (by omega) (by omega) h1 hW h3)
        have q5 := beq_s req
        clear h1 h2 h3
        go_wp2_with fail
        refine (HB6.out _ HO.out).mono ?_
        rintro e wc8 ⟨rfl, hb⟩
        have HB := Lib.hid (HB.out.trans (hb.mono HB.out.size))
        have HO := Lib.hid (HO.out.below hb)
        clear hb
        go_wp2_with fail
        go_ret
        exact ⟨rfl, HB.out⟩

theorem lpbinds_types : ∀ t ∈ [9, 9, 9, 9], Tryd.prog.readableRec t = true ∧ t < Tryd.prog.types.size := by
  have h : ([9, 9, 9, 9].all fun t => Tryd.prog.readableRec t && decide (t < Tryd.prog.types.size)) = true := by kernel_rfl
  intro t ht
  have := List.all_eq_true.1 h t ht
  simpa using this

set_option maxRecDepth 100000 in
theorem lpbinds_contract (H : Type) (enc : TypeId × Value → H) (W : World) (base : Nat) (args : Array Value) (ds gs : List (DataW H)) (before : List MemPlace)
    (hval : ∀ (j : Nat) t v, Tryd.f6.params[j]? = some t → args[j]? = some v → Value.okWide Tryd.prog W .any base t v)
    (hW : DataW.Whole enc Tryd.prog Tryd.f6.params.toList Rows.proofBindsSpec.vars false W args.toList ds gs before) (hL : laidMetH Tryd.prog Rows.proofBindsRow.laid W) (hsh : W.ShapedOpen Tryd.prog) :
    Calls Tryd.prog 6 args W fun e W' => ∃ v, e = .returned v ∧ Rows.proofBindsSpec.post enc Tryd.prog Tryd.f6 false true false false W args v W' := by
  have hW' := hW
  obtain ⟨p, q, hA0, hV, rfl, hfz, hnd⟩ := hW
  have hA : DataW.TrodAll enc Tryd.prog W 0 (fun _ => true) true Tryd.f6.params.toList args.toList ds p := hA0
  obtain ⟨rfl, rfl⟩ := trodVars_none hV
  simp only [List.append_nil] at hW'
  have hlt : ∀ x ∈ p, x.block < W.heap.size := fun x hx => by simpa using hW'.lt x hx
  have fin : ∀ W', Below W.heap.size W W' → DataW.TrodAll enc Tryd.prog W' 0 (fun b => decide (b < W.heap.size)) true [9, 9, 9, 9] args.toList ds p := fun W' hb => by
    rw [Tryd.params6] at hA
    exact trodAll_below hb _ _ _ _ lpbinds_types hA hlt
  clear hA0
  rw [Tryd.params6] at hA hval
  obtain ⟨v0, vs0, d0, ds0, p0, q0, hargs, rfl, hp0, h0, r0⟩ := trodAll_cons hA
  obtain ⟨v1, vs1, d1, ds1, p1, q1, rfl, rfl, hp1, h1, r1⟩ := trodAll_cons r0
  obtain ⟨v2, vs2, d2, ds2, p2, q2, rfl, rfl, hp2, h2, r2⟩ := trodAll_cons r1
  obtain ⟨v3, vs3, d3, ds3, p3, q3, rfl, rfl, hp3, h3, r3⟩ := trodAll_cons r2
  obtain ⟨rfl, rfl, rfl⟩ := trodAll_nil r3
  obtain rfl : args = #[v0, v1, v2, v3] := by cases args; simp_all
  obtain ⟨sec, rfl, rfl, rfl, hs0⟩ := open_string Tryd.underlying9 (hval 0 9 v0 rfl rfl) h0
  obtain ⟨ses, rfl, rfl, rfl, hs1⟩ := open_string Tryd.underlying9 (hval 1 9 v1 rfl rfl) h1
  obtain ⟨req, rfl, rfl, rfl, hs2⟩ := open_string Tryd.underlying9 (hval 2 9 v2 rfl rfl) h2
  obtain ⟨st, rfl, rfl, rfl, hs3⟩ := open_string Tryd.underlying9 (hval 3 9 v3 rfl rfl) h3
  refine (lpbinds_s sec ses req st W ⟨max_ok hsh, pow_of hL⟩).mono fun e W' ⟨he, hb⟩ => ?_
  subst he
  exact ⟨_, rfl, _, _, _, [], p, [], hW', trodAll_mk1 (shut_bool Tryd.underlying4 _), fin W' hb, rfl, hb.frame _, fun h => by cases h⟩

set_option maxRecDepth 100000 in
theorem lpbinds_lifted (os : Os) (started : os.Started) (H : Type) (enc : TypeId × Value → H) (F : Stop.Interp) :
    ReturnsInHanded {} Tryd.checked os 6 .any ((OpenSpec.ofChange Rows.proofBindsSpec).preRow enc Tryd.prog Tryd.f6 Rows.proofBindsRow.domain false Rows.proofBindsRow.laid) (((OpenSpec.ofChange Rows.proofBindsSpec).at F).post enc Tryd.prog Tryd.f6 false true false false) := by
  refine returnsInHanded_of_row (C := Tryd.checked) (s := OpenSpec.ofChange Rows.proofBindsSpec) own started (by kernel_rfl) Tryd.func6
    (witness_row (enc := enc) (C := Tryd.checked) false (World.laidAll Tryd.prog os Rows.proofBindsRow.laid) #[.string ⟨#[]⟩, .string ⟨#[]⟩, .string ⟨#[]⟩, .string ⟨#[]⟩] (World.laidAll_os _ _ _)
      (World.shaped_of_ZipB (by kernel_rfl) (by kernel_rfl)) (by kernel_rfl)
      (OpenSpec.preRow_of_cond 8 (x := ([.lit (.string []), .lit (.string []), .lit (.string []), .lit (.string [])], [], [])) (by kernel_rfl) (by kernel_rfl) (fun k hk => by cases hk) (by kernel_rfl)
        (by rw [MakeChecks.laidMetH_plain _ _ _ (by kernel_rfl)]; exact laidMet_laidAll _ (by kernel_rfl) (by kernel_rfl)))) ?_
  intro W base args ds gs before hval hW _ _ _ hL hsh _
  exact lpbinds_contract H enc W base args ds gs before hval hW hL hsh

set_option maxRecDepth 100000 in
theorem lpbinds_said : Rows.ProofBindsSaid :=
  OpenClaim.holds_of_cond 6 Tryd.f6 rfl rfl rfl rfl rfl rfl rfl ⟨rfl, rfl, rfl, rfl, rfl⟩ rfl rfl rfl rfl rfl (by kernel_rfl) Tryd.func6 (by kernel_rfl)
    (of_decide_eq_true (by kernel_rfl)) (by unfold Func.isWrapper; first | (rw [if_pos (by decide +kernel)]; kernel_rfl) | (rw [if_neg (by decide +kernel)]; exact ⟨rfl, rfl⟩))
    (fun os started H enc _ F => by rw [OpenClaim.pre_eq_preRow]; exact lpbinds_lifted os started H enc F)

set_option maxRecDepth 100000 in
theorem lpbinds_plain (f : FuncId) (fn : Func) (hf : Tryd.pinned.checked.prog.funcNamed "identity/identitylaw28.ProofBinds" = some f) (hfn : Tryd.pinned.checked.prog.funcs[f]? = some fn) :
    false = Tryd.pinned.checked.prog.looks [] ∧ ∀ (j : Nat) t, fn.params[j]? = some t → Tryd.pinned.checked.prog.wantsStandIn t = false := by
  obtain rfl : f = 6 := Option.some.inj ((show Tryd.prog.funcNamed "identity/identitylaw28.ProofBinds" = some 6 by kernel_rfl).symm.trans hf) |>.symm
  obtain rfl : fn = Tryd.f6 := (Option.some.inj (Tryd.func6.symm.trans hfn)).symm
  refine ⟨by kernel_rfl, fun j t ht => ?_⟩
  rw [Tryd.params6] at ht
  have hm : t ∈ [9, 9, 9, 9] := by simpa using Array.mem_of_getElem? ht
  have hall : ([9, 9, 9, 9].all fun u => !Tryd.prog.wantsStandIn u) = true := by kernel_rfl
  exact (show Tryd.prog.wantsStandIn t = false by simpa using List.all_eq_true.1 hall t hm)

/-- THE CARD -/
theorem lpbinds_card : Rows.ProofBindsCardSaid :=
  Claim7.holds_tied_plain_at .later [] _ _ _ _ lpbinds_said (fun _ h => by cases h) (by kernel_rfl) (fun _ h => by cases h) proofBinds_row_tie rfl ⟨rfl, rfl⟩ (by kernel_rfl) rfl lpbinds_plain (by kernel_rfl)
end Go.Proofs.YtbogmmdmfbcbnaaDoor
