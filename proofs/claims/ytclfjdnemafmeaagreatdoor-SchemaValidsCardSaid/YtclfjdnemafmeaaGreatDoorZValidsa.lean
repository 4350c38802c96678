/-
  schema.Valid returns the specified error, for every schema and every entry. No condition.
-/
import Derived.Test.YtclfjdnemafmeaaGreatDoorP27
import Derived.Test.YtclfjdnemafmeaaGreatDoorP29
set_option linter.unusedVariables false
set_option linter.unusedSimpArgs false
set_option linter.unnecessarySimpa false

section
/-
  The walk of SchemaValids. No condition.
-/
set_option maxRecDepth 100000
set_option linter.unusedVariables false
set_option linter.unusedSimpArgs false
set_option linter.unnecessarySimpa false
namespace Go.Proofs.YtclfjdnemafmeaaGreatDoor
open Go.RowKit Go.PlainAid

set_option maxHeartbeats 16000000 in
theorem lvalids_s (to : Option Addr) (tn tc : Nat) (ts : List Ty) (co : Option Addr) (cn cc : Nat) (cs : List Cl) (en : ByteArray) (eo : Option Addr) (ek ec : Nat) (el : List At) (W : World) (HT : TysAt W to tn tc ts) (RT : RTy ts) (HC : ClsAt W co cn cc cs) (RC : RCl cs) (Men : en.size ≤ 140737488355328) (HE : AttrsAt W eo ek ec el) (RE : RA el) (hok : SOk W) :
    Calls Tryz.prog 6 #[.agg #[.slice to tn tc, .slice co cn cc], .agg #[.string en, .slice eo ek ec]] W fun e w' => e = .returned (.bool true) ∧ Below W.heap.size W w' := by
  have HEl := Lib.hid HE
  have HRE := Lib.hid RE
  clear HE RE
  have HO := Lib.hid hok
  clear hok
  have a0 := below_al W (.cells #[.slice to tn tc, .slice co cn cc] 25)
  have HK0 : Hid (Kb (W.alloc (.cells #[.slice to tn tc, .slice co cn cc] 25)) W.heap.size (.cells #[.slice to tn tc, .slice co cn cc] 25)) := Lib.hid (kbl_new W _)
  have b0 := below_al (W.alloc (.cells #[.slice to tn tc, .slice co cn cc] 25)) (.cells #[.string en, .slice eo ek ec] 48)
  have HK0 := Lib.hid (HK0.out.step b0)
  have HX : Hid (Kb ((W.alloc (.cells #[.slice to tn tc, .slice co cn cc] 25)).alloc (.cells #[.string en, .slice eo ek ec] 48)) (W.heap.size + 1) (.cells #[.string en, .slice eo ek ec] 48)) := Lib.hid (by have := kbl_new (W.alloc (.cells #[.slice to tn tc, .slice co cn cc] 25)) (.cells #[.string en, .slice eo ek ec] 48); simpa using this)
  have a1 := a0.trans (b0.mono a0.size)
  have HI := Lib.hid (And.intro HT HC)
  have HFew := Lib.hid (few_s to tn tc ts co cn cc cs _ (HT.below a1) RT (HC.below a1) RC)
  have HLow := Lib.hid a1
  clear HT HC RT RC a0 a1 b0
  have c0 := HK0.out.cell (i := 0) rfl
  have c1 := HK0.out.cell (i := 1) rfl
  go_enter Tryz.func6, Tryz.ntmps6
  go_wp2_with fail
  refine HFew.out.mono ?_
  rintro e w1 ⟨⟨g, rfl, hg, hb⟩⟩
  have HK0 := Lib.hid (HK0.out.step hb)
  have HX := Lib.hid (HX.out.step hb)
  have HLow := Lib.hid (HLow.out.trans (hb.mono HLow.out.size))
  have HO := Lib.hid (HO.out.below HLow.out)
  clear hb HFew c0 c1
  cases g
  · have HCx := Lib.hid (alive_s _ HO.out)
    go_wp2_with fail
    refine HCx.out.mono ?_
    rintro e w9 ⟨rfl, hb⟩
    have HLow := Lib.hid (HLow.out.trans (hb.mono HLow.out.size))
    clear hb
    go_wp2_with fail
    go_ret
    exact ⟨rfl, HLow.out⟩
  · have HG := Lib.hid (hg rfl)
    clear hg
    have HAV : Hid (AV W w1 W.heap.size to tn tc co cn cc ts cs) := Lib.hid ⟨HK0.out, ⟨_, _, _, _, _, _, rfl, HI.out.1.below HLow.out, HI.out.2.below HLow.out, HG.out.smT, HG.out.smC⟩, HO.out, HLow.out⟩
    clear HK0
    have c0 := HAV.out.box.cell (i := 0) rfl
    have c1 := HAV.out.box.cell (i := 1) rfl
    have x0 := HX.out.cell (i := 0) rfl
    have x1 := HX.out.cell (i := 1) rfl
    have HLg := Lib.hid (light_s en eo ek ec el _ (HEl.out.below HAV.out.low) HRE.out)
    go_wp2_with fail
    refine HLg.out.mono ?_
    rintro e w2 ⟨⟨g2, rfl, hg2, hb⟩⟩
    have HAV := Lib.hid (HAV.out.step hb)
    have HX := Lib.hid (HX.out.step hb)
    clear c0 c1 x0 x1
    clear hb HLg
    have c0 := HAV.out.box.cell (i := 0) rfl
    have c1 := HAV.out.box.cell (i := 1) rfl
    have x0 := HX.out.cell (i := 0) rfl
    have x1 := HX.out.cell (i := 1) rfl
    cases g2
    · skip
      have HCx := Lib.hid (alive_s _ HAV.out.ok)
      go_wp2_with fail
      refine HCx.out.mono ?_
      rintro e w9 ⟨rfl, hb⟩
      have HAV := Lib.hid (HAV.out.step hb)
      clear hb
      go_wp2_with fail
      go_ret
      exact ⟨rfl, HAV.out.low⟩
    · have HLt := Lib.hid (hg2 rfl)
      clear hg2
      obtain ⟨c, hc⟩ : ∃ x, vldE (soundT ts cs) (soundC ts cs) el = x := ⟨_, rfl⟩
      have HCk := Lib.hid hc
      clear hc
      have cc0 : (c == c) = true := by simp
      have HF1 := Lib.hid (fun V (h : AV W V W.heap.size to tn tc co cn cc ts cs) => (validF_s _ ts cs en eo ek ec el V h.sch (HEl.out.below h.low) HLt.out.fewE h.ok.io))
      have HF2 := Lib.hid (fun V (h : AV W V W.heap.size to tn tc co cn cc ts cs) => (valid7_s to tn tc co cn cc ts cs en eo ek ec el V h.sch (HEl.out.below h.low) HLt.out))
      rw [HCk.out] at HF1 HF2
      have HSt : Hid (∀ V X : World, (AV W V W.heap.size to tn tc co cn cc ts cs ∧ Kb V (W.heap.size + 1) (.cells #[.string en, .slice eo ek ec] 48)) → Below V.heap.size V X → (fun V => V.cell? ⟨W.heap.size, 0, none⟩ = some (.slice to tn tc) ∧ V.cell? ⟨W.heap.size, 1, none⟩ = some (.slice co cn cc) ∧ V.cell? ⟨W.heap.size + 1, 0, none⟩ = some (.string en) ∧ V.cell? ⟨W.heap.size + 1, 1, none⟩ = some (.slice eo ek ec) ∧ Hid (AV W V W.heap.size to tn tc co cn cc ts cs ∧ Kb V (W.heap.size + 1) (.cells #[.string en, .slice eo ek ec] 48))) X) := Lib.hid (fun V X h hb => by
        have h1 := h.1.step hb
        have h2 := h.2.step hb
        exact ⟨h1.box.cell rfl, h1.box.cell rfl, h2.cell rfl, h2.cell rfl, Lib.hid ⟨h1, h2⟩⟩)
      go_wp2_with fail
      have S0 := HSt.out _ _ ⟨HAV.out, HX.out⟩ (Below.refl _ _).drew
      clear c0 c1 x0 x1
      refine wp_region_held_drew (S := fun V => V.cell? ⟨W.heap.size, 0, none⟩ = some (.slice to tn tc) ∧ V.cell? ⟨W.heap.size, 1, none⟩ = some (.slice co cn cc) ∧ V.cell? ⟨W.heap.size + 1, 0, none⟩ = some (.string en) ∧ V.cell? ⟨W.heap.size + 1, 1, none⟩ = some (.slice eo ek ec) ∧ Hid (AV W V W.heap.size to tn tc co cn cc ts cs ∧ Kb V (W.heap.size + 1) (.cells #[.string en, .slice eo ek ec] 48))) (by kernel_rfl) (S0) (fun hS => ?_)
      refine wpAnyH_take (i := 0) (oi := { dst := some 14, op := _, type := _, pos := _, after := _, guard := _ }) (v := ?_) rfl (by kernel_rfl) (by kernel_rfl) (by kernel_rfl) (fun _ _ _ h => h) (Or.inl ⟨by rfl, ?_⟩) (by assumption) ?_
      rotate_left
      · intro w hSw
        try dsimp only at hSw
        go_simp
        try with_reducible rfl
      try simp only [Act.put, List.setIfInBounds_toArray, List.set_cons_zero, List.set_cons_succ]
      refine wpAnyH_take (i := 1) (oi := { dst := some 15, op := _, type := _, pos := _, after := _, guard := _ }) (v := ?_) rfl (by kernel_rfl) (by kernel_rfl) (by kernel_rfl) (fun _ _ _ h => h) (Or.inl ⟨by rfl, ?_⟩) (by assumption) ?_
      rotate_left
      · intro w hSw
        try dsimp only at hSw
        go_simp
        try with_reducible rfl
      try simp only [Act.put, List.setIfInBounds_toArray, List.set_cons_zero, List.set_cons_succ]
      refine wpAnyH_take (i := 3) (oi := { dst := some 17, op := _, type := _, pos := _, after := _, guard := _ }) (v := ?_) rfl (by kernel_rfl) (by kernel_rfl) (by kernel_rfl) (fun _ _ _ h => h) (Or.inl ⟨by rfl, ?_⟩) (by assumption) ?_
      rotate_left
      · intro w hSw
        try dsimp only at hSw
        go_simp
        try with_reducible rfl
      try simp only [Act.put, List.setIfInBounds_toArray, List.set_cons_zero, List.set_cons_succ]
      refine wpAnyH_take (i := 4) (oi := { dst := some 18, op := _, type := _, pos := _, after := _, guard := _ }) (v := ?_) rfl (by kernel_rfl) (by kernel_rfl) (by kernel_rfl) (fun _ _ _ h => h) (Or.inl ⟨by rfl, ?_⟩) (by assumption) ?_
      rotate_left
      · intro w hSw
        try dsimp only at hSw
        go_simp
        try with_reducible rfl
      try simp only [Act.put, List.setIfInBounds_toArray, List.set_cons_zero, List.set_cons_succ]
      refine wpAnyH_ready (rs := [2]) (by kernel_rfl) (by simp) ?_
      refine AllReadyH.cons rfl (fun K hK => ?_) AllReadyH.nil
      go_simp
      refine (HF1.out _ hS.2.2.2.2.out.1).mono ?_
      rintro e w5 ⟨rfl, hb⟩
      go_wp2_with fail
      refine hK.out _ _ ?_ (fun hHeld => ?_)
      · exact HSt.out _ _ hS.2.2.2.2.out hb
      clear hK K
      try simp only [Act.put, List.setIfInBounds_toArray, List.set_cons_zero, List.set_cons_succ]
      refine wpAnyH_ready (rs := [5]) (by kernel_rfl) (by simp) ?_
      refine AllReadyH.cons rfl (fun K hK => ?_) AllReadyH.nil
      go_simp
      have HKp := hHeld.2.2.2.2
      refine (HF2.out _ HKp.out.1).mono ?_
      rintro e w6 ⟨rfl, hb⟩
      go_wp2_with fail
      refine hK.out _ _ ?_ (fun hHeld => ?_)
      · exact HSt.out _ _ HKp.out hb
      clear hK K
      try simp only [Act.put, List.setIfInBounds_toArray, List.set_cons_zero, List.set_cons_succ]
      refine wpAnyH_take (i := 6) (oi := { dst := some 20, op := _, type := _, pos := _, after := _, guard := _ }) (v := ?_) rfl (by kernel_rfl) (by kernel_rfl) (by kernel_rfl) (fun _ _ _ h => h) (Or.inl ⟨by rfl, ?_⟩) (by assumption) ?_
      rotate_left
      · intro w hSw
        try dsimp only at hSw
        go_simp
        try with_reducible rfl
      try simp only [Act.put, List.setIfInBounds_toArray, List.set_cons_zero, List.set_cons_succ]
      refine wpAnyH_take (i := 7) (oi := { dst := some 21, op := _, type := _, pos := _, after := _, guard := _ }) (v := ?_) rfl (by kernel_rfl) (by kernel_rfl) (by kernel_rfl) (fun _ _ _ h => h) (Or.inl ⟨by rfl, ?_⟩) (by assumption) ?_
      rotate_left
      · intro w hSw
        try dsimp only at hSw
        go_simp
        try with_reducible rfl
      try simp only [Act.put, List.setIfInBounds_toArray, List.set_cons_zero, List.set_cons_succ]
      refine wpAnyH_ready (rs := [8]) (by kernel_rfl) (by simp) ?_
      refine AllReadyH.cons rfl (fun K hK => ?_) AllReadyH.nil
      go_simp
      have HKp := hHeld.2.2.2.2
      refine (alive_s _ HKp.out.1.ok).mono ?_
      rintro e w7 ⟨rfl, hb⟩
      go_wp2_with fail
      refine hK.out _ _ ?_ (fun hHeld => ?_)
      · exact HSt.out _ _ HKp.out hb
      clear hK K
      try simp only [Act.put, List.setIfInBounds_toArray, List.set_cons_zero, List.set_cons_succ]
      refine wpAnyH_take (i := 9) (oi := { dst := some 23, op := _, type := _, pos := _, after := _, guard := _ }) (v := ?_) rfl (by kernel_rfl) (by kernel_rfl) (by kernel_rfl) (fun _ _ _ h => h) (Or.inl ⟨by rfl, ?_⟩) (by assumption) ?_
      rotate_left
      · intro w hSw
        try dsimp only at hSw
        go_simp
        try with_reducible rfl
      try simp only [Act.put, List.setIfInBounds_toArray, List.set_cons_zero, List.set_cons_succ]
      refine wpAnyH_take (i := 10) (oi := { dst := some 4, op := _, type := _, pos := _, after := _, guard := _ }) (v := ?_) rfl (by kernel_rfl) (by kernel_rfl) (by kernel_rfl) (fun _ _ _ h => h) (Or.inl ⟨by rfl, ?_⟩) (by assumption) ?_
      rotate_left
      · intro w hSw
        try dsimp only at hSw
        go_simp
        try with_reducible rfl
      try simp only [Act.put, List.setIfInBounds_toArray, List.set_cons_zero, List.set_cons_succ]
      refine wpAnyH_done (by kernel_rfl) ?_ _
      go_wp2_with fail
      go_ret
      exact ⟨rfl, hHeld.2.2.2.2.out.1.low⟩

end Go.Proofs.YtclfjdnemafmeaaGreatDoor
end

section
/-
  schema.Valid returns the specified error, for every schema and every entry. No condition.
-/
set_option maxRecDepth 100000
set_option linter.unusedVariables false
set_option linter.unusedSimpArgs false
set_option linter.unnecessarySimpa false
namespace Go.Proofs.YtclfjdnemafmeaaGreatDoor
open Go.ChangeShapes Go.WideShapes Go.ChangeAt Go.RowKit Go.PlainAid
open Go.ChangeMaps (open_string shut_string)


theorem lvalids_types : ∀ t ∈ [25, 48], Tryz.prog.readableRec t = true ∧ t < Tryz.prog.types.size := by
  have h : ([25, 48].all fun t => Tryz.prog.readableRec t && decide (t < Tryz.prog.types.size)) = true := by kernel_rfl
  intro t ht
  have := List.all_eq_true.1 h t ht
  simpa using this

theorem lvalids_contract (H : Type) (enc : TypeId × Value → H) (W : World) (base : Nat) (args : Array Value) (ds gs : List (DataW H)) (before : List MemPlace)
    (hval : ∀ (j : Nat) t v, Tryz.f6.params[j]? = some t → args[j]? = some v → Value.okWide Tryz.prog W .any base t v)
    (hW : DataW.Whole enc Tryz.prog Tryz.f6.params.toList Rows.schemaValidsSpec.vars false W args.toList ds gs before)
    (hsz0 : (DataW.weightsEach Tryz.prog (Tryz.f6.params.toList ++ (OpenSpec.ofChange Rows.schemaValidsSpec).bare.plain.varTypes Tryz.prog) (ds ++ gs)).all (· ≤ reachBytes) = true)
    (hL : laidMetH Tryz.prog Rows.schemaValidsRow.laid W) (hsh : W.ShapedOpen Tryz.prog) :
    Calls Tryz.prog 6 args W fun e W' => ∃ v, e = .returned v ∧ Rows.schemaValidsSpec.post enc Tryz.prog Tryz.f6 false true false false W args v W' := by
  have hW' := hW
  obtain ⟨p, q, hA0, hV, rfl, hfz, hnd⟩ := hW
  have hA : DataW.TrodAll enc Tryz.prog W 0 (fun _ => true) true Tryz.f6.params.toList args.toList ds p := hA0
  obtain ⟨rfl, rfl⟩ := trodVars_none hV
  simp only [List.append_nil] at hW'
  have hlt : ∀ x ∈ p, x.block < W.heap.size := fun x hx => by simpa using hW'.lt x hx
  have fin : ∀ W', Below W.heap.size W W' → DataW.TrodAll enc Tryz.prog W' 0 (fun b => decide (b < W.heap.size)) true [25, 48] args.toList ds p := fun W' hb => by
    rw [Tryz.params6] at hA
    exact trodAll_below hb _ _ _ _ lvalids_types hA hlt
  clear hA0
  rw [Tryz.params6] at hA hval hsz0
  rw [show (OpenSpec.ofChange Rows.schemaValidsSpec).bare.plain.varTypes Tryz.prog = [] from rfl, List.append_nil, List.append_nil] at hsz0
  obtain ⟨v0, vs0, d0, ds0, p0, q0, hargs, rfl, hp0, h0, r0⟩ := trodAll_cons hA
  obtain ⟨v1, vs1, d1, ds1, p1, q1, rfl, rfl, hp1, h1, r1⟩ := trodAll_cons r0
  obtain ⟨rfl, rfl, rfl⟩ := trodAll_nil r1
  obtain rfl : args = #[v0, v1] := by cases args; simp_all
  have hsz : (DataW.weightsEach Tryz.prog [25, 48] [d0, d1]).all (fun x => decide (x ≤ reachBytes)) = true := by simpa using hsz0
  clear hsz0
  obtain ⟨to, tn, tc, ts, co, cn, cc, cs, rfl, ht0, rt0, hc0, rc0⟩ := open_schemaR (hval 0 25 v0 rfl rfl) h0 (fun n hn => by have := List.all_eq_true.1 hsz n (DataW.weights_mem_each (j := 0) (t := 25) rfl rfl n hn); exact of_decide_eq_true this)
  obtain ⟨en, eo, ek, ec, el, rfl, hen, hel, rel⟩ := open_entryR (hval 1 48 v1 rfl rfl) h1 (fun n hn => by have := List.all_eq_true.1 hsz n (DataW.weights_mem_each (j := 1) (t := 48) rfl rfl n hn); exact of_decide_eq_true this)
  refine (lvalids_s to tn tc ts co cn cc cs en eo ek ec el W ht0 rt0 hc0 rc0 hen hel rel (sok hL hsh)).mono fun e W' ⟨he, hb⟩ => ?_
  subst he
  exact ⟨_, rfl, _, _, _, [], p, [], hW', trodAll_mk1 (shut_bool Tryz.underlying4 _), fin W' hb, rfl, hb.frame _, fun h => by cases h⟩

theorem lvalids_lifted (os : Os) (started : os.Started) (H : Type) (enc : TypeId × Value → H) (F : Stop.Interp) :
    ReturnsInHanded {} Tryz.checked os 6 .any ((OpenSpec.ofChange Rows.schemaValidsSpec).preRow enc Tryz.prog Tryz.f6 Rows.schemaValidsRow.domain false Rows.schemaValidsRow.laid) (((OpenSpec.ofChange Rows.schemaValidsSpec).at F).post enc Tryz.prog Tryz.f6 false true false false) := by
  refine returnsInHanded_of_row (C := Tryz.checked) (s := OpenSpec.ofChange Rows.schemaValidsSpec) own started (by kernel_rfl) Tryz.func6
    (witness_row (enc := enc) (C := Tryz.checked) false (World.laidAll Tryz.prog os Rows.schemaValidsRow.laid) #[.agg #[.slice none 0 0, .slice none 0 0], .agg #[.string ⟨#[]⟩, .slice none 0 0]] (World.laidAll_os _ _ _)
      (World.shaped_of_ZipB (by kernel_rfl) (by kernel_rfl)) (by kernel_rfl)
      (OpenSpec.preRow_of_cond 8 (x := ([.agg [.nil, .nil], .agg [.lit (.string []), .nil]], [], [])) (by kernel_rfl) (by kernel_rfl) (fun k hk => by cases hk) (by kernel_rfl)
        (by rw [MakeChecks.laidMetH_plain _ _ _ (by kernel_rfl)]; exact laidMet_laidAll _ (by kernel_rfl) (by kernel_rfl)))) ?_
  intro W base args ds gs before hval hW _ _ hsz hL hsh _
  exact lvalids_contract H enc W base args ds gs before hval hW hsz hL hsh

end Go.Proofs.YtclfjdnemafmeaaGreatDoor
end
