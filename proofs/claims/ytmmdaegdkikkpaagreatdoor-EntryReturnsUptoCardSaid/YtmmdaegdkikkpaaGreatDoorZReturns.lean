/-
  The text form of a plain entry is read as this entry, with attributes in normal form. No condition.
-/
import Derived.Test.YtmmdaegdkikkpaaGreatDoorU16
set_option linter.unusedVariables false
set_option linter.unusedSimpArgs false
set_option linter.unnecessarySimpa false

section
set_option maxRecDepth 100000
namespace Go.Proofs.YtmmdaegdkikkpaaGreatDoor
open Go.RowKit Go.PlainAid
set_option maxHeartbeats 16000000 in
theorem ereturns_s (en:ByteArray) (eo:Option Addr) (ek ec:Nat) (el:List At) (W:World) (Men:en.size <= 1048576) (He:AttrsAt W eo ek ec el) (Re:RAU 1048576 el) (hok:EOk W) :
  Calls Tryz.prog 10 #[.agg #[.string en, .slice eo ek ec]] W fun e w'=>e = .returned (.bool true) /\ Below W.heap.size W w':=by
 have Hel:=Lib.hid He
 have HSM:=Lib.hid (And.intro (Re.sm (Nat.le_refl _)) (Re.fv (Nat.le_refl _)))
 clear He Re
 have HO:=Lib.hid hok
 clear hok
 have b0:=below_al W (.cells #[.string en, .slice eo ek ec] 37)
 have HX:Hid (Kb (W.alloc (.cells #[.string en, .slice eo ek ec] 37)) W.heap.size (.cells #[.string en, .slice eo ek ec] 37)):=Lib.hid (kbl_new _ _)
 have a0:=b0
 have HB:=Lib.hid a0
 clear a0 b0
 have x0:=HX.out.cell (i:=0) rfl
 have x1:=HX.out.cell (i:=1) rfl
 go_enter Tryz.func10,Tryz.ntmps10
 obtain ⟨c,hc⟩:∃ x,enC en el=x:=⟨_,rfl⟩
 obtain ⟨t,ht⟩:∃ x,txV en el=x:=⟨_,rfl⟩
 have HCT:=Lib.hid (And.intro hc ht)
 clear hc ht
 have cc0:(c == c)=true:=by simp
 have HCx:=Lib.hid (text_s en eo ek ec el _ (by omega) (Hel.out.below HB.out) HSM.out.1 HSM.out.2)
 rw [HCT.out.1,HCT.out.2] at HCx
 go_wp2_with fail
 refine HCx.out.mono ?_
 rintro e w1 ⟨rfl,hb⟩
 have HB:=Lib.hid (HB.out.trans (hb.mono HB.out.size))
 have HX:=Lib.hid (HX.out.step hb)
 clear x0 x1
 clear hb HCx
 have x0:=HX.out.cell (i:=0) rfl
 have x1:=HX.out.cell (i:=1) rfl
 by_cases h0:c=0
 ·subst h0
  have d0:((0:Int) != 0)=false:=rfl
  have HTs:=Lib.hid (show ofL (entB en el)=t by rw [<- HCT.out.2]; unfold txV; rw [if_pos HCT.out.1]; rfl)
  have HPl:=plain_short HCT.out.1
  have HPv:=pa_some (pr_text HCT.out.1)
  rw [HTs.out] at HPl HPv
  have HPz:=Lib.hid HPl.2
  have HPv:=Lib.hid HPv
  have HFe:=Lib.hid (ok_light (enC_chk HCT.out.1)).1.few
  clear HPl
  have e1:(en.toList == en.toList)=true:=by simp
  have HCx:=Lib.hid (parse8_s t _ HPz.out.1 HPz.out.2 (HO.out.mo.below HB.out HO.out.mo.lt))
  go_wp2_with fail
  refine HCx.out.mono ?_
  rintro e w2 hp
  unfold PaP at hp
  rw [HPv.out.1,HPv.out.2.1,HPv.out.2.2] at hp
  obtain ⟨go,gn,gc,rfl,hga,hb⟩:=hp
  have HGa:=Lib.hid hga
  clear hga
  have HB:=Lib.hid (HB.out.trans (hb.mono HB.out.size))
  have HX:=Lib.hid (HX.out.step hb)
  clear x0 x1
  clear hb HCx
  have x0:=HX.out.cell (i:=0) rfl
  have x1:=HX.out.cell (i:=1) rfl
  have hbl:=below_al w2 (.cells #[.string en, .slice go gn gc] 37)
  have HY:=Lib.hid (kbl_new w2 (.cells #[.string en, .slice go gn gc] 37))
  have HB:=Lib.hid (HB.out.trans (hbl.mono HB.out.size))
  have HX:=Lib.hid (HX.out.step hbl)
  have HGa:=Lib.hid (HGa.out.below hbl)
  clear x0 x1
  clear hbl
  have x0:=HX.out.cell (i:=0) rfl
  have x1:=HX.out.cell (i:=1) rfl
  have y0:=HY.out.cell (i:=0) rfl
  have y1:=HY.out.cell (i:=1) rfl
  have HF1:=Lib.hid (fun V (h:Below W.heap.size W V)=>sorted_s eo ek ec el V (Hel.out.below h) HFe.out)
  have HSt:=Lib.hid (show ∀ V X:World,(Kb V W.heap.size (.cells #[.string en, .slice eo ek ec] 37) /\ Kb V w2.heap.size (.cells #[.string en, .slice go gn gc] 37) /\ Below W.heap.size W V) -> Below V.heap.size V X -> (fun V=>V.cell? ⟨W.heap.size,0,none⟩=some (.string en) /\ V.cell? ⟨W.heap.size,1,none⟩=some (.slice eo ek ec) /\ V.cell? ⟨w2.heap.size,0,none⟩=some (.string en) /\ V.cell? ⟨w2.heap.size,1,none⟩=some (.slice go gn gc) /\ Hid (Kb V W.heap.size (.cells #[.string en, .slice eo ek ec] 37) /\ Kb V w2.heap.size (.cells #[.string en, .slice go gn gc] 37) /\ Below W.heap.size W V)) X from fun V X h hb=>⟨(h.1.step hb).cell rfl,(h.1.step hb).cell rfl,(h.2.1.step hb).cell rfl,(h.2.1.step hb).cell rfl,Lib.hid ⟨h.1.step hb,h.2.1.step hb,(h.2.2).trans (hb.mono (h.2.2).size)⟩⟩)
  go_wp2_with fail
  have S0:=HSt.out _ _ ⟨HX.out,HY.out,HB.out⟩ (Below.refl _ _).drew
  clear x0 x1 y0 y1
  refine wp_region_held_drew (S:=fun V=>V.cell? ⟨W.heap.size,0,none⟩=some (.string en) /\ V.cell? ⟨W.heap.size,1,none⟩=some (.slice eo ek ec) /\ V.cell? ⟨w2.heap.size,0,none⟩=some (.string en) /\ V.cell? ⟨w2.heap.size,1,none⟩=some (.slice go gn gc) /\ Hid (Kb V W.heap.size (.cells #[.string en, .slice eo ek ec] 37) /\ Kb V w2.heap.size (.cells #[.string en, .slice go gn gc] 37) /\ Below W.heap.size W V)) (by kernel_rfl) (S0) (fun hS => ?_)
  refine rgT 0 (some 26) ?_
  refine rgT 1 (some 27) ?_
  refine rgT 2 (some 28) ?_
  refine rgT 3 (some 29) ?_
  refine rgT 4 (some 30) ?_
  refine rgT 5 (some 31) ?_
  refine rgT 6 (some 32) ?_
  refine rgT 7 (some 33) ?_
  refine rgT 8 (some 34) ?_
  refine rgT 9 (some 35) ?_
  refine rgT 10 (some 36) ?_
  refine rgT 11 (some 37) ?_
  refine rgT 12 (some 38) ?_
  refine rgT 13 (some 39) ?_
  refine rgC 14 (fun K hK => ?_)
  go_simp
  refine (HF1.out _ hS.2.2.2.2.out.2.2).mono ?_
  rintro e v14 hdv
  obtain ⟨u1,T1,rfl,hT1,hO1,_,hr1,hb⟩:=hdv
  obtain ⟨so,sc,rfl⟩:=row_slice hr1
  have HM1:=own_atts hr1 hO1
  rw [hT1] at HM1
  have HM1:=Lib.hid HM1
  have HGa:=Lib.hid ((HGa.out.below (Below.refl _ _).drew).below hb)
  clear hT1 hO1 hr1
  have HKp:=hS.2.2.2.2
  go_wp2_with fail
  refine hK.out _ _ ?_ (fun hHeld => ?_)
  ·exact HSt.out _ _ HKp.out hb
  clear hK K
  try simp only [Act.put,lsA,lsZ,lsS]
  refine rgC 15 (fun K hK => ?_)
  go_simp
  refine (same_atts HGa.out HM1.out).mono ?_
  rintro e v15 ⟨rfl,hb⟩
  have HGa:=Lib.hid (HGa.out.below hb)
  have HKp:=hHeld.2.2.2.2
  go_wp2_with fail
  refine hK.out _ _ ?_ (fun hHeld => ?_)
  ·exact HSt.out _ _ HKp.out hb
  clear hK K
  try simp only [Act.put,lsA,lsZ,lsS]
  refine rgT 16 (some 42) ?_
  refine rgT 17 (some 43) ?_
  refine rgT 18 (some 44) ?_
  refine rgT 19 (some 45) ?_
  refine rgC 20 (fun K hK => ?_)
  go_simp
  refine (equal_nf en HGa.out (Hel.out.below hHeld.2.2.2.2.out.2.2) HFe.out).mono ?_
  rintro e v20 ⟨rfl,hb⟩
  have HKp:=hHeld.2.2.2.2
  go_wp2_with fail
  refine hK.out _ _ ?_ (fun hHeld => ?_)
  ·exact HSt.out _ _ HKp.out hb
  clear hK K
  try simp only [Act.put,lsA,lsZ,lsS]
  refine rgT 21 (some 47) ?_
  refine rgT 22 (some 48) ?_
  refine rgC 23 (fun K hK => ?_)
  go_simp
  refine (example_e _ (HO.out.io.below hHeld.2.2.2.2.out.2.2)).mono ?_
  rintro e v23 ⟨rfl,hb⟩
  have HKp:=hHeld.2.2.2.2
  go_wp2_with fail
  refine hK.out _ _ ?_ (fun hHeld => ?_)
  ·exact HSt.out _ _ HKp.out hb
  clear hK K
  try simp only [Act.put,lsA,lsZ,lsS]
  refine rgT 24 (some 50) ?_
  refine rgT 25 (some 2) ?_
  refine wpAnyH_done (by kernel_rfl) ?_ _
  go_wp2_with fail
  go_ret
  exact ⟨rfl,hHeld.2.2.2.2.out.2.2⟩
 ·have d0:(c != 0)=true:=by simpa using h0
  have HCx:=Lib.hid (enCheck_s en eo ek ec el _ (by omega) (Hel.out.below HB.out) HSM.out.1 HSM.out.2)
  rw [HCT.out.1] at HCx
  go_wp2_with fail
  refine HCx.out.mono ?_
  rintro e w2 ⟨rfl,hb⟩
  have HB:=Lib.hid (HB.out.trans (hb.mono HB.out.size))
  have HX:=Lib.hid (HX.out.step hb)
  clear x0 x1
  clear hb HCx
  have x0:=HX.out.cell (i:=0) rfl
  have x1:=HX.out.cell (i:=1) rfl
  have HCx:=Lib.hid (example_e _ (HO.out.io.below HB.out))
  go_wp2_with fail
  refine HCx.out.mono ?_
  rintro e w99 ⟨rfl,hb⟩
  have HB:=Lib.hid (HB.out.trans (hb.mono HB.out.size))
  clear hb
  go_wp2_with fail
  go_ret
  exact ⟨rfl,HB.out⟩

end Go.Proofs.YtmmdaegdkikkpaaGreatDoor
end

section
set_option maxRecDepth 100000
namespace Go.Proofs.YtmmdaegdkikkpaaGreatDoor
open Go.ChangeShapes Go.WideShapes Go.ChangeAt Go.RowKit Go.PlainAid
open Go.ChangeMaps (open_string shut_string)
theorem ereturns_types:∀ t ∈ [37],Tryz.prog.readableRec t=true /\ t < Tryz.prog.types.size:=by
 have h:([37].all fun t=>Tryz.prog.readableRec t && decide (t < Tryz.prog.types.size))=true:=by kernel_rfl
 intro t ht
 have:=List.all_eq_true.1 h t ht
 simpa using this

theorem ereturns_contract (H:Type) (enc:TypeId × Value -> H) (W:World) (base:Nat) (args:Array Value) (ds gs:List (DataW H)) (before:List MemPlace)
  (hval:∀ (j:Nat) t v,Tryz.f10.params[j]? = some t -> args[j]? = some v -> Value.okWide Tryz.prog W .any base t v)
  (hW:DataW.Whole enc Tryz.prog Tryz.f10.params.toList Rows.entryReturnsSpec.vars false W args.toList ds gs before)
  (hk:Rows.uptoSmall H (ds ++ gs)=true)
  (hL:laidMetH Tryz.prog Rows.entryReturnsUptoRow.laid W) (hsh:W.ShapedOpen Tryz.prog) :
  Calls Tryz.prog 10 args W fun e W'=>∃ v,e = .returned v /\ Rows.entryReturnsSpec.post enc Tryz.prog Tryz.f10 false true false false W args v W':=by
 have hW':=hW
 obtain ⟨p,q,hA0,hV,rfl,hfz,hnd⟩:=hW
 have hA:DataW.TrodAll enc Tryz.prog W 0 (fun _=>true) true Tryz.f10.params.toList args.toList ds p:=hA0
 obtain ⟨rfl,rfl⟩:=trodVars_none hV
 simp only [List.append_nil] at hW'
 have hlt:∀ x ∈ p,x.block < W.heap.size:=fun x hx=>by simpa using hW'.lt x hx
 have fin:∀ W',Below W.heap.size W W' -> DataW.TrodAll enc Tryz.prog W' 0 (fun b=>decide (b < W.heap.size)) true [37] args.toList ds p:=fun W' hb=>by
  rw [Tryz.params10] at hA
  exact trodAll_below hb _ _ _ _ ereturns_types hA hlt
 clear hA0
 rw [Tryz.params10] at hA hval
 have hbk:=bk_bound hk
 obtain ⟨v0,vs0,d0,ds0,p0,q0,hargs,rfl,hp0,h0,r0⟩:=trodAll_cons hA
 obtain ⟨rfl,rfl,rfl⟩:=trodAll_nil r0
 obtain rfl:args = #[v0]:=by cases args; simp_all
 simp only [List.append_nil,Rows.uptoBulkAll] at hbk
 obtain ⟨en,eo,ek,ec,el,rfl,hen,hel,rel⟩:=open_entryU (K:=1048576) (hval 0 37 v0 rfl rfl) h0 (by omega)
 refine (ereturns_s en eo ek ec el W hen hel rel (eok hL hsh)).mono fun e W' ⟨he,hb⟩ => ?_
 subst he
 exact ⟨_,rfl,_,_,_,[],p,[],hW',trodAll_mk1 (shut_bool Tryz.underlying4 _),fin W' hb,rfl,hb.frame _,fun h=>by cases h⟩

theorem ereturns_lifted (os:Os) (started:os.Started) (H:Type) (enc:TypeId × Value -> H) (F:Stop.Interp) :
  ReturnsInHanded {} Tryz.checked os 10 .any ((Rows.OpenSpec.upto Rows.entryReturnsSpec).preRow enc Tryz.prog Tryz.f10 Rows.entryReturnsUptoRow.domain false Rows.entryReturnsUptoRow.laid) (((Rows.OpenSpec.upto Rows.entryReturnsSpec).at F).post enc Tryz.prog Tryz.f10 false true false false):=by
 refine returnsInHanded_of_row (C:=Tryz.checked) (s:=Rows.OpenSpec.upto Rows.entryReturnsSpec) own started (by kernel_rfl) Tryz.func10
  (witness_row (enc:=enc) (C:=Tryz.checked) false (World.laidAll Tryz.prog os Rows.entryReturnsUptoRow.laid) #[.agg #[.string ⟨#[]⟩, .slice none 0 0]] (World.laidAll_os _ _ _)
   (World.shaped_of_ZipB (by kernel_rfl) (by kernel_rfl)) (by kernel_rfl)
   (OpenSpec.preRow_of_cond 8 (x:=([.agg [.lit (.string []), .nil]],[],[])) (by kernel_rfl) (by kernel_rfl) (fun k hk=>by cases hk; kernel_rfl) (by kernel_rfl)
    (by rw [MakeChecks.laidMetH_plain _ _ _ (by kernel_rfl)]; exact laidMet_laidAll _ (by kernel_rfl) (by kernel_rfl)))) ?_
 intro W base args ds gs before hval hW _ hk _ hL hsh _
 exact ereturns_contract H enc W base args ds gs before hval hW (hk _ rfl) hL hsh

end Go.Proofs.YtmmdaegdkikkpaaGreatDoor
end
