/-
  entry.Diff and entry.Equal return the specified results, for any two entries. No condition.
-/
import Derived.Test.YtmmdaegdkikkpaaGreatDoorR23
set_option linter.unusedVariables false
set_option linter.unusedSimpArgs false
set_option linter.unnecessarySimpa false

section
set_option maxRecDepth 100000
namespace Go.Proofs.YtmmdaegdkikkpaaGreatDoor
open Go.RowKit Go.PlainAid
set_option maxHeartbeats 16000000 in
theorem ediffs_s (an : ByteArray) (ao : Option Addr) (ak ac : Nat) (al : List At) (bn : ByteArray) (bo : Option Addr) (bk bc : Nat) (bl : List At) (W : World) (Man : an.size ≤ 140737488355328) (Ha : AttrsAt W ao ak ac al) (Ra : RA al) (Mbn : bn.size ≤ 140737488355328) (Hb : AttrsAt W bo bk bc bl) (Rb : RA bl) (hok : EOk W) :
  Calls Tryz.prog 7 #[.agg #[.string an, .slice ao ak ac], .agg #[.string bn, .slice bo bk bc]] W fun e w' => e = .returned (.bool true) ∧ Below W.heap.size W w' := by
 have Hal := Lib.hid Ha
 have HRa := Lib.hid Ra
 clear Ha Ra
 have Hbl := Lib.hid Hb
 have HRb := Lib.hid Rb
 clear Hb Rb
 have HO := Lib.hid hok
 clear hok
 have b0 := below_al W (.cells #[.string an, .slice ao ak ac] 37)
 have HX : Hid (Kb (W.alloc (.cells #[.string an, .slice ao ak ac] 37)) W.heap.size (.cells #[.string an, .slice ao ak ac] 37)) := Lib.hid (kbl_new _ _)
 have a0 := b0
 have b1 := below_al (W.alloc (.cells #[.string an, .slice ao ak ac] 37)) (.cells #[.string bn, .slice bo bk bc] 37)
 have HX := Lib.hid (HX.out.step b1)
 have HY : Hid (Kb ((W.alloc (.cells #[.string an, .slice ao ak ac] 37)).alloc (.cells #[.string bn, .slice bo bk bc] 37)) (W.heap.size + 1) (.cells #[.string bn, .slice bo bk bc] 37)) := Lib.hid (by have := kbl_new (W.alloc (.cells #[.string an, .slice ao ak ac] 37)) (.cells #[.string bn, .slice bo bk bc] 37); simpa using this)
 have a1 := a0.trans (b1.mono a0.size)
 have HB := Lib.hid a1
 clear a0 b0 a1 b1
 have x0 := HX.out.cell (i := 0) rfl
 have x1 := HX.out.cell (i := 1) rfl
 have y0 := HY.out.cell (i := 0) rfl
 have y1 := HY.out.cell (i := 1) rfl
 go_enter Tryz.func7, Tryz.ntmps7
 have HCx := Lib.hid (short8_s an ao ak ac al _ (Hal.out.below HB.out) HRa.out)
 go_wp2_with fail
 refine HCx.out.mono ?_
 rintro e w1 ⟨⟨g, rfl, hg, hb⟩⟩
 have HB := Lib.hid (HB.out.trans (hb.mono HB.out.size))
 have HX := Lib.hid (HX.out.step hb)
 have HY := Lib.hid (HY.out.step hb)
 clear x0 x1 y0 y1
 clear hb HCx
 have x0 := HX.out.cell (i := 0) rfl
 have x1 := HX.out.cell (i := 1) rfl
 have y0 := HY.out.cell (i := 0) rfl
 have y1 := HY.out.cell (i := 1) rfl
 cases g
 ·skip
  have HCx := Lib.hid (example_e _ (HO.out.io.below HB.out))
  go_wp2_with fail
  refine HCx.out.mono ?_
  rintro e w99 ⟨rfl, hb⟩
  have HB := Lib.hid (HB.out.trans (hb.mono HB.out.size))
  clear hb
  go_wp2_with fail
  go_ret
  exact ⟨rfl, HB.out⟩
 ·have HG := Lib.hid (hg rfl)
  clear hg
  have HCx := Lib.hid (short8_s bn bo bk bc bl _ (Hbl.out.below HB.out) HRb.out)
  go_wp2_with fail
  refine HCx.out.mono ?_
  rintro e w2 ⟨⟨g, rfl, hg, hb⟩⟩
  have HB := Lib.hid (HB.out.trans (hb.mono HB.out.size))
  have HX := Lib.hid (HX.out.step hb)
  have HY := Lib.hid (HY.out.step hb)
  clear x0 x1 y0 y1
  clear hb HCx
  have x0 := HX.out.cell (i := 0) rfl
  have x1 := HX.out.cell (i := 1) rfl
  have y0 := HY.out.cell (i := 0) rfl
  have y1 := HY.out.cell (i := 1) rfl
  cases g
  ·skip
   have HCx := Lib.hid (example_e _ (HO.out.io.below HB.out))
   go_wp2_with fail
   refine HCx.out.mono ?_
   rintro e w99 ⟨rfl, hb⟩
   have HB := Lib.hid (HB.out.trans (hb.mono HB.out.size))
   clear hb
   go_wp2_with fail
   go_ret
   exact ⟨rfl, HB.out⟩
  ·have HH := Lib.hid (hg rfl)
   clear hg
   have han := HG.out.1
   have hbn := HH.out.1
   obtain ⟨D, hD⟩ : ∃ x, enD an al bn bl = x := ⟨_, rfl⟩
   obtain ⟨z, hz⟩ : ∃ x, decide (an = bn ∧ nf al = nf bl) = x := ⟨_, rfl⟩
   have cc0 : (z == z) = true := by simp
   have HF1 := Lib.hid (fun V (h : Below W.heap.size W V) => diff_s an ao ak ac al bn bo bk bc bl V (by omega) (by omega) (Hal.out.below h) (Hbl.out.below h) HG.out.2.small HG.out.2.fewV HH.out.2.small HH.out.2.fewV)
   have HF2 := Lib.hid (fun V (h : Below W.heap.size W V) => rdiff_s an ao ak ac al bn bo bk bc bl V (by omega) (by omega) (Hal.out.below h) (Hbl.out.below h) HG.out.2.small HH.out.2.small)
   rw [hD] at HF1 HF2
   clear hD
   have HF3 := Lib.hid (fun V (h : Below W.heap.size W V) => enEqual_s an bn ao bo ak bk ac bc al bl V (Hal.out.below h) (Hbl.out.below h) HG.out.2.few HH.out.2.few)
   have HF4 := Lib.hid (fun V (h : Below W.heap.size W V) => rEnEqual_s an bn ao bo ak bk ac bc al bl V (Hal.out.below h) (Hbl.out.below h) HG.out.2.few HH.out.2.few)
   rw [hz] at HF3 HF4
   clear hz
   have HSt := Lib.hid (show ∀ V X : World, (Kb V W.heap.size (.cells #[.string an, .slice ao ak ac] 37) ∧ Kb V (W.heap.size + 1) (.cells #[.string bn, .slice bo bk bc] 37) ∧ Below W.heap.size W V) → Below V.heap.size V X → (fun V => V.cell? ⟨W.heap.size, 0, none⟩ = some (.string an) ∧ V.cell? ⟨W.heap.size, 1, none⟩ = some (.slice ao ak ac) ∧ V.cell? ⟨W.heap.size + 1, 0, none⟩ = some (.string bn) ∧ V.cell? ⟨W.heap.size + 1, 1, none⟩ = some (.slice bo bk bc) ∧ Hid (Kb V W.heap.size (.cells #[.string an, .slice ao ak ac] 37) ∧ Kb V (W.heap.size + 1) (.cells #[.string bn, .slice bo bk bc] 37) ∧ Below W.heap.size W V)) X from fun V X h hb => ⟨(h.1.step hb).cell rfl, (h.1.step hb).cell rfl, (h.2.1.step hb).cell rfl, (h.2.1.step hb).cell rfl, Lib.hid ⟨h.1.step hb, h.2.1.step hb, (h.2.2).trans (hb.mono (h.2.2).size)⟩⟩)
   go_wp2_with fail
   have S0 := HSt.out _ _ ⟨HX.out, HY.out, HB.out⟩ (Below.refl _ _).drew
   clear x0 x1 y0 y1
   refine wp_region_held_drew (S := fun V => V.cell? ⟨W.heap.size, 0, none⟩ = some (.string an) ∧ V.cell? ⟨W.heap.size, 1, none⟩ = some (.slice ao ak ac) ∧ V.cell? ⟨W.heap.size + 1, 0, none⟩ = some (.string bn) ∧ V.cell? ⟨W.heap.size + 1, 1, none⟩ = some (.slice bo bk bc) ∧ Hid (Kb V W.heap.size (.cells #[.string an, .slice ao ak ac] 37) ∧ Kb V (W.heap.size + 1) (.cells #[.string bn, .slice bo bk bc] 37) ∧ Below W.heap.size W V)) (by kernel_rfl) (S0) (fun hS => ?_)
   refine rgT 0 (some 14) ?_
   refine rgT 1 (some 15) ?_
   refine rgT 3 (some 17) ?_
   refine rgT 4 (some 18) ?_
   refine rgC 2 (fun K hK => ?_)
   go_simp
   refine (HF1.out _ hS.2.2.2.2.out.2.2).mono ?_
   rintro e v2 hdv
   obtain ⟨u1, T1, rfl, hT1, hD1⟩ := hdv
   obtain ⟨mo, mc, rfl, hM1⟩ := hD1.mds
   rw [hT1] at hM1
   have HM1 := Lib.hid hM1
   have hb := hD1.low
   clear hT1 hD1 hM1
   have HKp := hS.2.2.2.2
   go_wp2_with fail
   refine hK.out _ _ ?_ (fun hHeld => ?_)
   ·exact HSt.out _ _ HKp.out hb
   clear hK K
   try simp only [Act.put, lsA, lsZ, lsS]
   refine rgC 5 (fun K hK => ?_)
   go_simp
   refine (HF2.out _ hHeld.2.2.2.2.out.2.2).mono ?_
   rintro e v5 hdv
   obtain ⟨u2, T2, rfl, hT2, hD2⟩ := hdv
   obtain ⟨so, sc, rfl, hM2⟩ := hD2.mds
   rw [hT2] at hM2
   have HM2 := Lib.hid hM2
   have hb := hD2.low
   have HM1 := Lib.hid (HM1.out.below hb)
   clear hT2 hD2 hM2
   have HKp := hHeld.2.2.2.2
   go_wp2_with fail
   refine hK.out _ _ ?_ (fun hHeld => ?_)
   ·exact HSt.out _ _ HKp.out hb
   clear hK K
   try simp only [Act.put, lsA, lsZ, lsS]
   refine rgC 6 (fun K hK => ?_)
   go_simp
   refine (same_mods HM1.out HM2.out).mono ?_
   rintro e v6 ⟨rfl, hb⟩
   have HKp := hHeld.2.2.2.2
   go_wp2_with fail
   refine hK.out _ _ ?_ (fun hHeld => ?_)
   ·exact HSt.out _ _ HKp.out hb
   clear hK K
   try simp only [Act.put, lsA, lsZ, lsS]
   refine rgT 7 (some 21) ?_
   refine rgT 8 (some 22) ?_
   refine rgT 9 (some 23) ?_
   refine rgT 11 (some 25) ?_
   refine rgT 12 (some 26) ?_
   refine rgC 10 (fun K hK => ?_)
   go_simp
   refine (HF3.out _ hHeld.2.2.2.2.out.2.2).mono ?_
   rintro e v10 ⟨rfl, hb⟩
   have HKp := hHeld.2.2.2.2
   go_wp2_with fail
   refine hK.out _ _ ?_ (fun hHeld => ?_)
   ·exact HSt.out _ _ HKp.out hb
   clear hK K
   try simp only [Act.put, lsA, lsZ, lsS]
   refine rgC 13 (fun K hK => ?_)
   go_simp
   refine (HF4.out _ hHeld.2.2.2.2.out.2.2).mono ?_
   rintro e v13 ⟨rfl, hb⟩
   have HKp := hHeld.2.2.2.2
   go_wp2_with fail
   refine hK.out _ _ ?_ (fun hHeld => ?_)
   ·exact HSt.out _ _ HKp.out hb
   clear hK K
   try simp only [Act.put, lsA, lsZ, lsS]
   refine rgT 14 (some 28) ?_
   refine rgT 15 (some 29) ?_
   refine rgT 16 (some 30) ?_
   refine rgC 17 (fun K hK => ?_)
   go_simp
   refine (example_e _ (HO.out.io.below hHeld.2.2.2.2.out.2.2)).mono ?_
   rintro e v17 ⟨rfl, hb⟩
   have HKp := hHeld.2.2.2.2
   go_wp2_with fail
   refine hK.out _ _ ?_ (fun hHeld => ?_)
   ·exact HSt.out _ _ HKp.out hb
   clear hK K
   try simp only [Act.put, lsA, lsZ, lsS]
   refine rgT 18 (some 32) ?_
   refine rgT 19 (some 4) ?_
   refine wpAnyH_done (by kernel_rfl) ?_ _
   go_wp2_with fail
   go_ret
   exact ⟨rfl, hHeld.2.2.2.2.out.2.2⟩

end Go.Proofs.YtmmdaegdkikkpaaGreatDoor
end

section
set_option maxRecDepth 100000
namespace Go.Proofs.YtmmdaegdkikkpaaGreatDoor
open Go.ChangeShapes Go.WideShapes Go.ChangeAt Go.RowKit Go.PlainAid
open Go.ChangeMaps (open_string shut_string)
theorem ediffs_types : ∀ t ∈ [37, 37], Tryz.prog.readableRec t = true ∧ t < Tryz.prog.types.size := by
 have h : ([37, 37].all fun t => Tryz.prog.readableRec t && decide (t < Tryz.prog.types.size)) = true := by kernel_rfl
 intro t ht
 have := List.all_eq_true.1 h t ht
 simpa using this

theorem ediffs_contract (H : Type) (enc : TypeId × Value → H) (W : World) (base : Nat) (args : Array Value) (ds gs : List (DataW H)) (before : List MemPlace)
  (hval : ∀ (j : Nat) t v, Tryz.f7.params[j]? = some t → args[j]? = some v → Value.okWide Tryz.prog W .any base t v)
  (hW : DataW.Whole enc Tryz.prog Tryz.f7.params.toList Rows.entryDiffsSpec.vars false W args.toList ds gs before)
  (hsz0 : (DataW.weightsEach Tryz.prog (Tryz.f7.params.toList ++ (OpenSpec.ofChange Rows.entryDiffsSpec).bare.plain.varTypes Tryz.prog) (ds ++ gs)).all (· ≤ reachBytes) = true)
  (hL : laidMetH Tryz.prog Rows.entryDiffsRow.laid W) (hsh : W.ShapedOpen Tryz.prog) :
  Calls Tryz.prog 7 args W fun e W' => ∃ v, e = .returned v ∧ Rows.entryDiffsSpec.post enc Tryz.prog Tryz.f7 false true false false W args v W' := by
 have hW' := hW
 obtain ⟨p, q, hA0, hV, rfl, hfz, hnd⟩ := hW
 have hA : DataW.TrodAll enc Tryz.prog W 0 (fun _ => true) true Tryz.f7.params.toList args.toList ds p := hA0
 obtain ⟨rfl, rfl⟩ := trodVars_none hV
 simp only [List.append_nil] at hW'
 have hlt : ∀ x ∈ p, x.block < W.heap.size := fun x hx => by simpa using hW'.lt x hx
 have fin : ∀ W', Below W.heap.size W W' → DataW.TrodAll enc Tryz.prog W' 0 (fun b => decide (b < W.heap.size)) true [37, 37] args.toList ds p := fun W' hb => by
  rw [Tryz.params7] at hA
  exact trodAll_below hb _ _ _ _ ediffs_types hA hlt
 clear hA0
 rw [Tryz.params7] at hA hval hsz0
 rw [show (OpenSpec.ofChange Rows.entryDiffsSpec).bare.plain.varTypes Tryz.prog = [] from rfl, List.append_nil, List.append_nil] at hsz0
 obtain ⟨v0, vs0, d0, ds0, p0, q0, hargs, rfl, hp0, h0, r0⟩ := trodAll_cons hA
 obtain ⟨v1, vs1, d1, ds1, p1, q1, rfl, rfl, hp1, h1, r1⟩ := trodAll_cons r0
 obtain ⟨rfl, rfl, rfl⟩ := trodAll_nil r1
 obtain rfl : args = #[v0, v1] := by cases args; simp_all
 have hsz : (DataW.weightsEach Tryz.prog [37, 37] [d0, d1]).all (fun x => decide (x ≤ reachBytes)) = true := by simpa using hsz0
 clear hsz0
 obtain ⟨an, ao, ak, ac, al, rfl, han, hal, ral⟩ := open_entryR (hval 0 37 v0 rfl rfl) h0 (fun n hn => by have := List.all_eq_true.1 hsz n (DataW.weights_mem_each (j := 0) (t := 37) rfl rfl n hn); exact of_decide_eq_true this)
 obtain ⟨bn, bo, bk, bc, bl, rfl, hbn, hbl, rbl⟩ := open_entryR (hval 1 37 v1 rfl rfl) h1 (fun n hn => by have := List.all_eq_true.1 hsz n (DataW.weights_mem_each (j := 1) (t := 37) rfl rfl n hn); exact of_decide_eq_true this)
 refine (ediffs_s an ao ak ac al bn bo bk bc bl W han hal ral hbn hbl rbl (eok hL hsh)).mono fun e W' ⟨he, hb⟩ => ?_
 subst he
 exact ⟨_, rfl, _, _, _, [], p, [], hW', trodAll_mk1 (shut_bool Tryz.underlying4 _), fin W' hb, rfl, hb.frame _, fun h => by cases h⟩

theorem ediffs_lifted (os : Os) (started : os.Started) (H : Type) (enc : TypeId × Value → H) (F : Stop.Interp) :
  ReturnsInHanded {} Tryz.checked os 7 .any ((OpenSpec.ofChange Rows.entryDiffsSpec).preRow enc Tryz.prog Tryz.f7 Rows.entryDiffsRow.domain false Rows.entryDiffsRow.laid) (((OpenSpec.ofChange Rows.entryDiffsSpec).at F).post enc Tryz.prog Tryz.f7 false true false false) := by
 refine returnsInHanded_of_row (C := Tryz.checked) (s := OpenSpec.ofChange Rows.entryDiffsSpec) own started (by kernel_rfl) Tryz.func7
  (witness_row (enc := enc) (C := Tryz.checked) false (World.laidAll Tryz.prog os Rows.entryDiffsRow.laid) #[.agg #[.string ⟨#[]⟩, .slice none 0 0], .agg #[.string ⟨#[]⟩, .slice none 0 0]] (World.laidAll_os _ _ _)
   (World.shaped_of_ZipB (by kernel_rfl) (by kernel_rfl)) (by kernel_rfl)
   (OpenSpec.preRow_of_cond 8 (x := ([.agg [.lit (.string []), .nil], .agg [.lit (.string []), .nil]], [], [])) (by kernel_rfl) (by kernel_rfl) (fun k hk => by cases hk) (by kernel_rfl)
    (by rw [MakeChecks.laidMetH_plain _ _ _ (by kernel_rfl)]; exact laidMet_laidAll _ (by kernel_rfl) (by kernel_rfl)))) ?_
 intro W base args ds gs before hval hW _ _ hsz hL hsh _
 exact ediffs_contract H enc W base args ds gs before hval hW hsz hL hsh

end Go.Proofs.YtmmdaegdkikkpaaGreatDoor
end
