/-
  entry.Text returns the specified text form or error, for every entry. No condition.
-/
import Derived.Test.YtmmdaegdkikkpaaGreatDoorP22
import Derived.Test.YtmmdaegdkikkpaaGreatDoorP23
set_option linter.unusedVariables false
set_option linter.unusedSimpArgs false
set_option linter.unnecessarySimpa false

section
set_option maxRecDepth 100000
namespace Go.Proofs.YtmmdaegdkikkpaaGreatDoor
open Go.RowKit Go.PlainAid
set_option maxHeartbeats 16000000 in
theorem etexts_s (en : ByteArray) (eo : Option Addr) (ek ec : Nat) (el : List At) (W : World) (Men : en.size ≤ 140737488355328) (He : AttrsAt W eo ek ec el) (Re : RA el) (hok : EOk W) :
  Calls Tryz.prog 8 #[.agg #[.string en, .slice eo ek ec]] W fun e w' => e = .returned (.bool true) ∧ Below W.heap.size W w' := by
 have Hel := Lib.hid He
 have HRe := Lib.hid Re
 clear He Re
 have HO := Lib.hid hok
 clear hok
 have b0 := below_al W (.cells #[.string en, .slice eo ek ec] 37)
 have HX : Hid (Kb (W.alloc (.cells #[.string en, .slice eo ek ec] 37)) W.heap.size (.cells #[.string en, .slice eo ek ec] 37)) := Lib.hid (kbl_new _ _)
 have a0 := b0
 have HB := Lib.hid a0
 clear a0 b0
 have x0 := HX.out.cell (i := 0) rfl
 have x1 := HX.out.cell (i := 1) rfl
 go_enter Tryz.func8, Tryz.ntmps8
 have HCx := Lib.hid (short8_s en eo ek ec el _ (Hel.out.below HB.out) HRe.out)
 go_wp2_with fail
 refine HCx.out.mono ?_
 rintro e w1 ⟨⟨g, rfl, hg, hb⟩⟩
 have HB := Lib.hid (HB.out.trans (hb.mono HB.out.size))
 have HX := Lib.hid (HX.out.step hb)
 clear x0 x1
 clear hb HCx
 have x0 := HX.out.cell (i := 0) rfl
 have x1 := HX.out.cell (i := 1) rfl
 cases g
 ·skip
  have HCx := Lib.hid (example_e _ (HO.out.io.below HB.out))
  go_wp2_with fail
  refine HCx.out.mono ?_
  rintro e w99 ⟨rfl, hb⟩
  have HB := Lib.hid (HB.out.trans (hb.mono HB.out.size))
  clear hb
  go_wp2_with fail
  go_ret
  exact ⟨rfl, HB.out⟩
 ·have HG := Lib.hid (hg rfl)
  clear hg
  have hen := HG.out.1
  obtain ⟨c, hc⟩ : ∃ x, enC en el = x := ⟨_, rfl⟩
  obtain ⟨t, ht⟩ : ∃ x, txV en el = x := ⟨_, rfl⟩
  have HCT := Lib.hid (And.intro hc ht)
  clear hc ht
  have cc0 : (c == c) = true := by simp
  have tt0 : (t.toList == t.toList) = true := by simp
  have HCx := Lib.hid (text_s en eo ek ec el _ (by omega) (Hel.out.below HB.out) HG.out.2.small HG.out.2.fewV)
  rw [HCT.out.1, HCT.out.2] at HCx
  go_wp2_with fail
  refine HCx.out.mono ?_
  rintro e w2 ⟨rfl, hb⟩
  have HB := Lib.hid (HB.out.trans (hb.mono HB.out.size))
  have HX := Lib.hid (HX.out.step hb)
  clear x0 x1
  clear hb HCx
  have x0 := HX.out.cell (i := 0) rfl
  have x1 := HX.out.cell (i := 1) rfl
  have HCx := Lib.hid (rtext_s en eo ek ec el _ (by omega) (Hel.out.below HB.out) HG.out.2.small)
  rw [HCT.out.1, HCT.out.2] at HCx
  go_wp2_with fail
  refine HCx.out.mono ?_
  rintro e w3 ⟨rfl, hb⟩
  have HB := Lib.hid (HB.out.trans (hb.mono HB.out.size))
  have HX := Lib.hid (HX.out.step hb)
  clear x0 x1
  clear hb HCx
  have x0 := HX.out.cell (i := 0) rfl
  have x1 := HX.out.cell (i := 1) rfl
  have HCx := Lib.hid (example_e _ (HO.out.io.below HB.out))
  go_wp2_with fail
  refine HCx.out.mono ?_
  rintro e w99 ⟨rfl, hb⟩
  have HB := Lib.hid (HB.out.trans (hb.mono HB.out.size))
  clear hb
  go_wp2_with fail
  go_ret
  exact ⟨rfl, HB.out⟩

end Go.Proofs.YtmmdaegdkikkpaaGreatDoor
end

section
set_option maxRecDepth 100000
namespace Go.Proofs.YtmmdaegdkikkpaaGreatDoor
open Go.ChangeShapes Go.WideShapes Go.ChangeAt Go.RowKit Go.PlainAid
open Go.ChangeMaps (open_string shut_string)
theorem etexts_types : ∀ t ∈ [37], Tryz.prog.readableRec t = true ∧ t < Tryz.prog.types.size := by
 have h : ([37].all fun t => Tryz.prog.readableRec t && decide (t < Tryz.prog.types.size)) = true := by kernel_rfl
 intro t ht
 have := List.all_eq_true.1 h t ht
 simpa using this

theorem etexts_contract (H : Type) (enc : TypeId × Value → H) (W : World) (base : Nat) (args : Array Value) (ds gs : List (DataW H)) (before : List MemPlace)
  (hval : ∀ (j : Nat) t v, Tryz.f8.params[j]? = some t → args[j]? = some v → Value.okWide Tryz.prog W .any base t v)
  (hW : DataW.Whole enc Tryz.prog Tryz.f8.params.toList Rows.entryTextsSpec.vars false W args.toList ds gs before)
  (hsz0 : (DataW.weightsEach Tryz.prog (Tryz.f8.params.toList ++ (OpenSpec.ofChange Rows.entryTextsSpec).bare.plain.varTypes Tryz.prog) (ds ++ gs)).all (· ≤ reachBytes) = true)
  (hL : laidMetH Tryz.prog Rows.entryTextsRow.laid W) (hsh : W.ShapedOpen Tryz.prog) :
  Calls Tryz.prog 8 args W fun e W' => ∃ v, e = .returned v ∧ Rows.entryTextsSpec.post enc Tryz.prog Tryz.f8 false true false false W args v W' := by
 have hW' := hW
 obtain ⟨p, q, hA0, hV, rfl, hfz, hnd⟩ := hW
 have hA : DataW.TrodAll enc Tryz.prog W 0 (fun _ => true) true Tryz.f8.params.toList args.toList ds p := hA0
 obtain ⟨rfl, rfl⟩ := trodVars_none hV
 simp only [List.append_nil] at hW'
 have hlt : ∀ x ∈ p, x.block < W.heap.size := fun x hx => by simpa using hW'.lt x hx
 have fin : ∀ W', Below W.heap.size W W' → DataW.TrodAll enc Tryz.prog W' 0 (fun b => decide (b < W.heap.size)) true [37] args.toList ds p := fun W' hb => by
  rw [Tryz.params8] at hA
  exact trodAll_below hb _ _ _ _ etexts_types hA hlt
 clear hA0
 rw [Tryz.params8] at hA hval hsz0
 rw [show (OpenSpec.ofChange Rows.entryTextsSpec).bare.plain.varTypes Tryz.prog = [] from rfl, List.append_nil, List.append_nil] at hsz0
 obtain ⟨v0, vs0, d0, ds0, p0, q0, hargs, rfl, hp0, h0, r0⟩ := trodAll_cons hA
 obtain ⟨rfl, rfl, rfl⟩ := trodAll_nil r0
 obtain rfl : args = #[v0] := by cases args; simp_all
 have hsz : (DataW.weightsEach Tryz.prog [37] [d0]).all (fun x => decide (x ≤ reachBytes)) = true := by simpa using hsz0
 clear hsz0
 obtain ⟨en, eo, ek, ec, el, rfl, hen, hel, rel⟩ := open_entryR (hval 0 37 v0 rfl rfl) h0 (fun n hn => by have := List.all_eq_true.1 hsz n (DataW.weights_mem_each (j := 0) (t := 37) rfl rfl n hn); exact of_decide_eq_true this)
 refine (etexts_s en eo ek ec el W hen hel rel (eok hL hsh)).mono fun e W' ⟨he, hb⟩ => ?_
 subst he
 exact ⟨_, rfl, _, _, _, [], p, [], hW', trodAll_mk1 (shut_bool Tryz.underlying4 _), fin W' hb, rfl, hb.frame _, fun h => by cases h⟩

theorem etexts_lifted (os : Os) (started : os.Started) (H : Type) (enc : TypeId × Value → H) (F : Stop.Interp) :
  ReturnsInHanded {} Tryz.checked os 8 .any ((OpenSpec.ofChange Rows.entryTextsSpec).preRow enc Tryz.prog Tryz.f8 Rows.entryTextsRow.domain false Rows.entryTextsRow.laid) (((OpenSpec.ofChange Rows.entryTextsSpec).at F).post enc Tryz.prog Tryz.f8 false true false false) := by
 refine returnsInHanded_of_row (C := Tryz.checked) (s := OpenSpec.ofChange Rows.entryTextsSpec) own started (by kernel_rfl) Tryz.func8
  (witness_row (enc := enc) (C := Tryz.checked) false (World.laidAll Tryz.prog os Rows.entryTextsRow.laid) #[.agg #[.string ⟨#[]⟩, .slice none 0 0]] (World.laidAll_os _ _ _)
   (World.shaped_of_ZipB (by kernel_rfl) (by kernel_rfl)) (by kernel_rfl)
   (OpenSpec.preRow_of_cond 8 (x := ([.agg [.lit (.string []), .nil]], [], [])) (by kernel_rfl) (by kernel_rfl) (fun k hk => by cases hk) (by kernel_rfl)
    (by rw [MakeChecks.laidMetH_plain _ _ _ (by kernel_rfl)]; exact laidMet_laidAll _ (by kernel_rfl) (by kernel_rfl)))) ?_
 intro W base args ds gs before hval hW _ _ hsz hL hsh _
 exact etexts_contract H enc W base args ds gs before hval hW hsz hL hsh

end Go.Proofs.YtmmdaegdkikkpaaGreatDoor
end
