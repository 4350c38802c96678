/-
  schema.Normal and Compare return the specified results, for every schema and all values. No condition.
-/
import Derived.Test.YtclfjdnemafmeaaGreatDoorM25
import Derived.Test.YtclfjdnemafmeaaGreatDoorM27

section
/-
  The walk of SchemaNormals. No condition.
-/
set_option maxRecDepth 100000
set_option linter.unusedVariables false
set_option linter.unusedSimpArgs false
set_option linter.unnecessarySimpa false
namespace Go.Proofs.YtclfjdnemafmeaaGreatDoor
open Go.RowKit Go.PlainAid

set_option maxHeartbeats 16000000 in
theorem lnormals_s (to : Option Addr) (tn tc : Nat) (ts : List Ty) (co : Option Addr) (cn cc : Nat) (cs : List Cl) (xn xa xb xc : ByteArray) (W : World) (HT : TysAt W to tn tc ts) (RT : RTy ts) (HC : ClsAt W co cn cc cs) (RC : RCl cs) (Mxn : xn.size ≤ 140737488355328) (Mxa : xa.size ≤ 140737488355328) (Mxb : xb.size ≤ 140737488355328) (Mxc : xc.size ≤ 140737488355328) (hok : SOk W) :
    Calls Tryz.prog 5 #[.agg #[.slice to tn tc, .slice co cn cc], .agg #[.string xn, .string xa, .string xb, .string xc]] W fun e w' => e = .returned (.bool true) ∧ Below W.heap.size W w' := by
  have HO := Lib.hid hok
  clear hok
  have a0 := below_al W (.cells #[.slice to tn tc, .slice co cn cc] 25)
  have HK0 : Hid (Kb (W.alloc (.cells #[.slice to tn tc, .slice co cn cc] 25)) W.heap.size (.cells #[.slice to tn tc, .slice co cn cc] 25)) := Lib.hid (kbl_new W _)
  have b0 := below_al (W.alloc (.cells #[.slice to tn tc, .slice co cn cc] 25)) (.cells #[.string xn, .string xa, .string xb, .string xc] 40)
  have HK0 := Lib.hid (HK0.out.step b0)
  have HX : Hid (Kb ((W.alloc (.cells #[.slice to tn tc, .slice co cn cc] 25)).alloc (.cells #[.string xn, .string xa, .string xb, .string xc] 40)) (W.heap.size + 1) (.cells #[.string xn, .string xa, .string xb, .string xc] 40)) := Lib.hid (by have := kbl_new (W.alloc (.cells #[.slice to tn tc, .slice co cn cc] 25)) (.cells #[.string xn, .string xa, .string xb, .string xc] 40); simpa using this)
  have a1 := a0.trans (b0.mono a0.size)
  have HI := Lib.hid (And.intro HT HC)
  have HFew := Lib.hid (few_s to tn tc ts co cn cc cs _ (HT.below a1) RT (HC.below a1) RC)
  have HLow := Lib.hid a1
  clear HT HC RT RC a0 a1 b0
  have c0 := HK0.out.cell (i := 0) rfl
  have c1 := HK0.out.cell (i := 1) rfl
  go_enter Tryz.func5, Tryz.ntmps5
  go_wp2_with fail
  refine HFew.out.mono ?_
  rintro e w1 ⟨⟨g, rfl, hg, hb⟩⟩
  have HK0 := Lib.hid (HK0.out.step hb)
  have HX := Lib.hid (HX.out.step hb)
  have HLow := Lib.hid (HLow.out.trans (hb.mono HLow.out.size))
  have HO := Lib.hid (HO.out.below HLow.out)
  clear hb HFew c0 c1
  cases g
  · have HCx := Lib.hid (alive_s _ HO.out)
    go_wp2_with fail
    refine HCx.out.mono ?_
    rintro e w9 ⟨rfl, hb⟩
    have HLow := Lib.hid (HLow.out.trans (hb.mono HLow.out.size))
    clear hb
    go_wp2_with fail
    go_ret
    exact ⟨rfl, HLow.out⟩
  · have HG := Lib.hid (hg rfl)
    clear hg
    have HAV : Hid (AV W w1 W.heap.size to tn tc co cn cc ts cs) := Lib.hid ⟨HK0.out, ⟨_, _, _, _, _, _, rfl, HI.out.1.below HLow.out, HI.out.2.below HLow.out, HG.out.smT, HG.out.smC⟩, HO.out, HLow.out⟩
    clear HK0
    have c0 := HAV.out.box.cell (i := 0) rfl
    have c1 := HAV.out.box.cell (i := 1) rfl
    have x0 := HX.out.cell (i := 0) rfl
    have x1 := HX.out.cell (i := 1) rfl
    have x2 := HX.out.cell (i := 2) rfl
    have x3 := HX.out.cell (i := 3) rfl
    by_cases Lxn : 300 < xn.size
    · have Dxn : decide ((300 : Int) < (xn.size : Int)) = true := decide_eq_true (by omega)
      have HCx := Lib.hid (alive_s _ HAV.out.ok)
      go_wp2_with fail
      refine HCx.out.mono ?_
      rintro e w9 ⟨rfl, hb⟩
      have HAV := Lib.hid (HAV.out.step hb)
      clear hb
      go_wp2_with fail
      go_ret
      exact ⟨rfl, HAV.out.low⟩
    · have Dxn : decide ((300 : Int) < (xn.size : Int)) = false := decide_eq_false (by omega)
      by_cases Lxa : 300 < xa.size
      · have Dxa : decide ((300 : Int) < (xa.size : Int)) = true := decide_eq_true (by omega)
        have HCx := Lib.hid (alive_s _ HAV.out.ok)
        go_wp2_with fail
        refine HCx.out.mono ?_
        rintro e w9 ⟨rfl, hb⟩
        have HAV := Lib.hid (HAV.out.step hb)
        clear hb
        go_wp2_with fail
        go_ret
        exact ⟨rfl, HAV.out.low⟩
      · have Dxa : decide ((300 : Int) < (xa.size : Int)) = false := decide_eq_false (by omega)
        by_cases Lxb : 300 < xb.size
        · have Dxb : decide ((300 : Int) < (xb.size : Int)) = true := decide_eq_true (by omega)
          have HCx := Lib.hid (alive_s _ HAV.out.ok)
          go_wp2_with fail
          refine HCx.out.mono ?_
          rintro e w9 ⟨rfl, hb⟩
          have HAV := Lib.hid (HAV.out.step hb)
          clear hb
          go_wp2_with fail
          go_ret
          exact ⟨rfl, HAV.out.low⟩
        · have Dxb : decide ((300 : Int) < (xb.size : Int)) = false := decide_eq_false (by omega)
          have Nn : xn.size ≤ 1000000000 := by omega
          have Na : xa.size ≤ 1000000 := by omega
          have Nb : xb.size ≤ 1000000 := by omega
          obtain ⟨T, hT⟩ : ∃ x, soundT ts cs = x := ⟨_, rfl⟩
          have HTs := Lib.hid hT
          clear hT
          obtain ⟨fa, hfa⟩ : ∃ x, nrmV T xn xa = x := ⟨_, rfl⟩
          obtain ⟨ea, hea⟩ : ∃ x, nrmE T xn xa = x := ⟨_, rfl⟩
          obtain ⟨p, hp⟩ : ∃ x, cmpV T xn xa xb = x := ⟨_, rfl⟩
          obtain ⟨q, hq⟩ : ∃ x, cmpE T xn xa xb = x := ⟨_, rfl⟩
          have HQ := Lib.hid (And.intro (And.intro hfa hea) (And.intro hp hq))
          clear hfa hea hp hq
          have HCx := Lib.hid (normalF_s _ ts cs xn xa _ HAV.out.sch Nn Na HAV.out.ok.io)
          rw [HTs.out, HQ.out.1.1, HQ.out.1.2] at HCx
          go_wp2_with fail
          refine HCx.out.mono ?_
          rintro e w2 ⟨rfl, hb⟩
          have HAV := Lib.hid (HAV.out.step hb)
          have HX := Lib.hid (HX.out.step hb)
          clear c0 c1 x0 x1 x2 x3
          clear hb HCx
          have c0 := HAV.out.box.cell (i := 0) rfl
          have c1 := HAV.out.box.cell (i := 1) rfl
          have x0 := HX.out.cell (i := 0) rfl
          have x1 := HX.out.cell (i := 1) rfl
          have x2 := HX.out.cell (i := 2) rfl
          have x3 := HX.out.cell (i := 3) rfl
          have HCx := Lib.hid (rnormal7_s _ ts cs xn xa _ HAV.out.sch Nn Na)
          rw [HTs.out, HQ.out.1.1, HQ.out.1.2] at HCx
          go_wp2_with fail
          refine HCx.out.mono ?_
          rintro e w3 ⟨rfl, hb⟩
          have HAV := Lib.hid (HAV.out.step hb)
          have HX := Lib.hid (HX.out.step hb)
          clear c0 c1 x0 x1 x2 x3
          clear hb HCx
          have c0 := HAV.out.box.cell (i := 0) rfl
          have c1 := HAV.out.box.cell (i := 1) rfl
          have x0 := HX.out.cell (i := 0) rfl
          have x1 := HX.out.cell (i := 1) rfl
          have x2 := HX.out.cell (i := 2) rfl
          have x3 := HX.out.cell (i := 3) rfl
          have HCx := Lib.hid (compareF_s _ ts cs xn xa xb _ HAV.out.sch Nn Na Nb HAV.out.ok.io)
          rw [HTs.out, HQ.out.2.1, HQ.out.2.2] at HCx
          go_wp2_with fail
          refine HCx.out.mono ?_
          rintro e w4 ⟨rfl, hb⟩
          have HAV := Lib.hid (HAV.out.step hb)
          have HX := Lib.hid (HX.out.step hb)
          clear c0 c1 x0 x1 x2 x3
          clear hb HCx
          have c0 := HAV.out.box.cell (i := 0) rfl
          have c1 := HAV.out.box.cell (i := 1) rfl
          have x0 := HX.out.cell (i := 0) rfl
          have x1 := HX.out.cell (i := 1) rfl
          have x2 := HX.out.cell (i := 2) rfl
          have x3 := HX.out.cell (i := 3) rfl
          have HCx := Lib.hid (rcompare7_s _ ts cs xn xa xb _ HAV.out.sch Nn Na Nb)
          rw [HTs.out, HQ.out.2.1, HQ.out.2.2] at HCx
          go_wp2_with fail
          refine HCx.out.mono ?_
          rintro e w5 ⟨rfl, hb⟩
          have HAV := Lib.hid (HAV.out.step hb)
          have HX := Lib.hid (HX.out.step hb)
          clear c0 c1 x0 x1 x2 x3
          clear hb HCx
          have c0 := HAV.out.box.cell (i := 0) rfl
          have c1 := HAV.out.box.cell (i := 1) rfl
          have x0 := HX.out.cell (i := 0) rfl
          have x1 := HX.out.cell (i := 1) rfl
          have x2 := HX.out.cell (i := 2) rfl
          have x3 := HX.out.cell (i := 3) rfl
          have q1 : (fa.toList == fa.toList) = true := by simp
          have q2 : (ea == ea) = true := by simp
          have q3 : (p == p) = true := by simp
          have q4 : (q == q) = true := by simp
          have HCx := Lib.hid (alive_s _ HAV.out.ok)
          go_wp2_with fail
          refine HCx.out.mono ?_
          rintro e w9 ⟨rfl, hb⟩
          have HAV := Lib.hid (HAV.out.step hb)
          clear hb
          go_wp2_with fail
          go_ret
          exact ⟨rfl, HAV.out.low⟩

end Go.Proofs.YtclfjdnemafmeaaGreatDoor
end

section
/-
  schema.Normal and Compare return the specified results, for every schema and all values. No condition.
-/
set_option maxRecDepth 100000
set_option linter.unusedVariables false
set_option linter.unusedSimpArgs false
set_option linter.unnecessarySimpa false
namespace Go.Proofs.YtclfjdnemafmeaaGreatDoor
open Go.ChangeShapes Go.WideShapes Go.ChangeAt Go.RowKit Go.PlainAid
open Go.ChangeMaps (open_string shut_string)


theorem lnormals_types : ∀ t ∈ [25, 40], Tryz.prog.readableRec t = true ∧ t < Tryz.prog.types.size := by
  have h : ([25, 40].all fun t => Tryz.prog.readableRec t && decide (t < Tryz.prog.types.size)) = true := by kernel_rfl
  intro t ht
  have := List.all_eq_true.1 h t ht
  simpa using this

theorem lnormals_contract (H : Type) (enc : TypeId × Value → H) (W : World) (base : Nat) (args : Array Value) (ds gs : List (DataW H)) (before : List MemPlace)
    (hval : ∀ (j : Nat) t v, Tryz.f5.params[j]? = some t → args[j]? = some v → Value.okWide Tryz.prog W .any base t v)
    (hW : DataW.Whole enc Tryz.prog Tryz.f5.params.toList Rows.schemaNormalsSpec.vars false W args.toList ds gs before)
    (hsz0 : (DataW.weightsEach Tryz.prog (Tryz.f5.params.toList ++ (OpenSpec.ofChange Rows.schemaNormalsSpec).bare.plain.varTypes Tryz.prog) (ds ++ gs)).all (· ≤ reachBytes) = true)
    (hL : laidMetH Tryz.prog Rows.schemaNormalsRow.laid W) (hsh : W.ShapedOpen Tryz.prog) :
    Calls Tryz.prog 5 args W fun e W' => ∃ v, e = .returned v ∧ Rows.schemaNormalsSpec.post enc Tryz.prog Tryz.f5 false true false false W args v W' := by
  have hW' := hW
  obtain ⟨p, q, hA0, hV, rfl, hfz, hnd⟩ := hW
  have hA : DataW.TrodAll enc Tryz.prog W 0 (fun _ => true) true Tryz.f5.params.toList args.toList ds p := hA0
  obtain ⟨rfl, rfl⟩ := trodVars_none hV
  simp only [List.append_nil] at hW'
  have hlt : ∀ x ∈ p, x.block < W.heap.size := fun x hx => by simpa using hW'.lt x hx
  have fin : ∀ W', Below W.heap.size W W' → DataW.TrodAll enc Tryz.prog W' 0 (fun b => decide (b < W.heap.size)) true [25, 40] args.toList ds p := fun W' hb => by
    rw [Tryz.params5] at hA
    exact trodAll_below hb _ _ _ _ lnormals_types hA hlt
  clear hA0
  rw [Tryz.params5] at hA hval hsz0
  rw [show (OpenSpec.ofChange Rows.schemaNormalsSpec).bare.plain.varTypes Tryz.prog = [] from rfl, List.append_nil, List.append_nil] at hsz0
  obtain ⟨v0, vs0, d0, ds0, p0, q0, hargs, rfl, hp0, h0, r0⟩ := trodAll_cons hA
  obtain ⟨v1, vs1, d1, ds1, p1, q1, rfl, rfl, hp1, h1, r1⟩ := trodAll_cons r0
  obtain ⟨rfl, rfl, rfl⟩ := trodAll_nil r1
  obtain rfl : args = #[v0, v1] := by cases args; simp_all
  have hsz : (DataW.weightsEach Tryz.prog [25, 40] [d0, d1]).all (fun x => decide (x ≤ reachBytes)) = true := by simpa using hsz0
  clear hsz0
  obtain ⟨to, tn, tc, ts, co, cn, cc, cs, rfl, ht0, rt0, hc0, rc0⟩ := open_schemaR (hval 0 25 v0 rfl rfl) h0 (fun n hn => by have := List.all_eq_true.1 hsz n (DataW.weights_mem_each (j := 0) (t := 25) rfl rfl n hn); exact of_decide_eq_true this)
  obtain ⟨xn, xa, xb, xc, rfl, hx0, hx1, hx2, hx3⟩ := open_caseR (hval 1 40 v1 rfl rfl) h1 (fun n hn => by have := List.all_eq_true.1 hsz n (DataW.weights_mem_each (j := 1) (t := 40) rfl rfl n hn); exact of_decide_eq_true this)
  refine (lnormals_s to tn tc ts co cn cc cs xn xa xb xc W ht0 rt0 hc0 rc0 hx0 hx1 hx2 hx3 (sok hL hsh)).mono fun e W' ⟨he, hb⟩ => ?_
  subst he
  exact ⟨_, rfl, _, _, _, [], p, [], hW', trodAll_mk1 (shut_bool Tryz.underlying4 _), fin W' hb, rfl, hb.frame _, fun h => by cases h⟩

theorem lnormals_lifted (os : Os) (started : os.Started) (H : Type) (enc : TypeId × Value → H) (F : Stop.Interp) :
    ReturnsInHanded {} Tryz.checked os 5 .any ((OpenSpec.ofChange Rows.schemaNormalsSpec).preRow enc Tryz.prog Tryz.f5 Rows.schemaNormalsRow.domain false Rows.schemaNormalsRow.laid) (((OpenSpec.ofChange Rows.schemaNormalsSpec).at F).post enc Tryz.prog Tryz.f5 false true false false) := by
  refine returnsInHanded_of_row (C := Tryz.checked) (s := OpenSpec.ofChange Rows.schemaNormalsSpec) own started (by kernel_rfl) Tryz.func5
    (witness_row (enc := enc) (C := Tryz.checked) false (World.laidAll Tryz.prog os Rows.schemaNormalsRow.laid) #[.agg #[.slice none 0 0, .slice none 0 0], .agg #[.string ⟨#[]⟩, .string ⟨#[]⟩, .string ⟨#[]⟩, .string ⟨#[]⟩]] (World.laidAll_os _ _ _)
      (World.shaped_of_ZipB (by kernel_rfl) (by kernel_rfl)) (by kernel_rfl)
      (OpenSpec.preRow_of_cond 8 (x := ([.agg [.nil, .nil], .agg [.lit (.string []), .lit (.string []), .lit (.string []), .lit (.string [])]], [], [])) (by kernel_rfl) (by kernel_rfl) (fun k hk => by cases hk) (by kernel_rfl)
        (by rw [MakeChecks.laidMetH_plain _ _ _ (by kernel_rfl)]; exact laidMet_laidAll _ (by kernel_rfl) (by kernel_rfl)))) ?_
  intro W base args ds gs before hval hW _ _ hsz hL hsh _
  exact lnormals_contract H enc W base args ds gs before hval hW hsz hL hsh

theorem lnormals_said : Rows.SchemaNormalsSaid :=
  OpenClaim.holds_of_cond 5 Tryz.f5 rfl rfl rfl rfl rfl rfl rfl ⟨rfl, rfl, rfl, rfl, rfl⟩ rfl rfl rfl rfl rfl (by kernel_rfl) Tryz.func5 (by kernel_rfl)
    (of_decide_eq_true (by kernel_rfl)) (by unfold Func.isWrapper; first | (rw [if_pos (by decide +kernel)]; kernel_rfl) | (rw [if_neg (by decide +kernel)]; exact ⟨rfl, rfl⟩))
    (fun os started H enc _ F => by rw [OpenClaim.pre_eq_preRow]; exact lnormals_lifted os started H enc F)

theorem lnormals_plain (f : FuncId) (fn : Func) (hf : Tryz.pinned.checked.prog.funcNamed "identity/identitylaw07.SchemaNormals" = some f) (hfn : Tryz.pinned.checked.prog.funcs[f]? = some fn) :
    true = Tryz.pinned.checked.prog.looks [] ∧ ∀ (j : Nat) t, fn.params[j]? = some t → Tryz.pinned.checked.prog.wantsStandIn t = false := by
  obtain rfl : f = 5 := Option.some.inj ((show Tryz.prog.funcNamed "identity/identitylaw07.SchemaNormals" = some 5 by kernel_rfl).symm.trans hf) |>.symm
  obtain rfl : fn = Tryz.f5 := (Option.some.inj (Tryz.func5.symm.trans hfn)).symm
  refine ⟨by kernel_rfl, fun j t ht => ?_⟩
  rw [Tryz.params5] at ht
  have hm : t ∈ [25, 40] := by simpa using Array.mem_of_getElem? ht
  have hall : ([25, 40].all fun u => !Tryz.prog.wantsStandIn u) = true := by kernel_rfl
  exact (show Tryz.prog.wantsStandIn t = false by simpa using List.all_eq_true.1 hall t hm)

/-- THE CARD -/
theorem lnormals_card : Rows.SchemaNormalsCardSaid :=
  Claim7.holds_tied_plain_at .later [] _ _ _ _ lnormals_said (fun _ h => by cases h) (by kernel_rfl) (fun _ h => by cases h) schemaNormals_row_tie rfl ⟨rfl, rfl⟩ (by kernel_rfl) rfl lnormals_plain (by kernel_rfl)
end Go.Proofs.YtclfjdnemafmeaaGreatDoor
end
