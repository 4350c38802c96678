/-
  entry.Apply returns the specified entry or error, for every schema, entry and list of modifications of bulk at most 1048576 together. Condition: that bound.
-/
import Derived.Test.YtmmdaegdkikkpaaGreatDoorS31
set_option linter.unusedVariables false
set_option linter.unusedSimpArgs false
set_option linter.unnecessarySimpa false

section
set_option maxRecDepth 100000
namespace Go.Proofs.YtmmdaegdkikkpaaGreatDoor
open Go.RowKit Go.PlainAid
set_option maxHeartbeats 16000000 in
theorem eapplies_s (to:Option Addr) (tn tc:Nat) (ts:List Ty) (co:Option Addr) (cn cc:Nat) (cs:List Cl) (en:ByteArray) (eo:Option Addr) (ek ec:Nat) (el:List At) (mo:Option Addr) (mk mc:Nat) (ml:List Md) (W:World) (HT:TysAt W to tn tc ts) (RT:RTyU 1048576 ts) (HC:ClsAt W co cn cc cs) (RC:RClU 1048576 cs) (Men:en.size <= 1048576) (He:AttrsAt W eo ek ec el) (Re:RAU 1048576 el) (Hm:MdsAt W mo mk mc ml) (Rm:RMU 1048576 ml) (hok:EOk W) :
  Calls Tryz.prog 6 #[.agg #[.slice to tn tc, .slice co cn cc], .agg #[.string en, .slice eo ek ec], .slice mo mk mc] W fun e w'=>e = .returned (.bool true) /\ Below W.heap.size W w':=by
 have Hel:=Lib.hid He
 have HRe:=Lib.hid (Re.ra (Nat.le_refl _))
 clear He Re
 have HI:=Lib.hid (And.intro HT HC)
 have HSM:=Lib.hid (And.intro (RT.sm (Nat.le_refl _)) (RC.sm (Nat.le_refl _)))
 clear HT HC RT RC
 have HM:=Lib.hid Hm
 have HRm:=Lib.hid (Rm.rm (Nat.le_refl _))
 clear Hm Rm
 have HO:=Lib.hid hok
 clear hok
 have b0:=below_al W (.cells #[.slice to tn tc, .slice co cn cc] 25)
 have HS:Hid (Kb (W.alloc (.cells #[.slice to tn tc, .slice co cn cc] 25)) W.heap.size (.cells #[.slice to tn tc, .slice co cn cc] 25)):=Lib.hid (kbl_new _ _)
 have a0:=b0
 have b1:=below_al (W.alloc (.cells #[.slice to tn tc, .slice co cn cc] 25)) (.cells #[.string en, .slice eo ek ec] 37)
 have HS:=Lib.hid (HS.out.step b1)
 have HX:Hid (Kb ((W.alloc (.cells #[.slice to tn tc, .slice co cn cc] 25)).alloc (.cells #[.string en, .slice eo ek ec] 37)) (W.heap.size + 1) (.cells #[.string en, .slice eo ek ec] 37)):=Lib.hid (by have:=kbl_new (W.alloc (.cells #[.slice to tn tc, .slice co cn cc] 25)) (.cells #[.string en, .slice eo ek ec] 37); simpa using this)
 have a1:=a0.trans (b1.mono a0.size)
 have HB:=Lib.hid a1
 clear a0 b0 a1 b1
 have s0:=HS.out.cell (i:=0) rfl
 have s1:=HS.out.cell (i:=1) rfl
 have x0:=HX.out.cell (i:=0) rfl
 have x1:=HX.out.cell (i:=1) rfl
 go_enter Tryz.func6,Tryz.ntmps6
 have HCx:=Lib.hid (short8_s en eo ek ec el _ (Hel.out.below HB.out) HRe.out)
 go_wp2_with fail
 refine HCx.out.mono ?_
 rintro e w1 ⟨⟨g,rfl,hg,hb⟩⟩
 have HB:=Lib.hid (HB.out.trans (hb.mono HB.out.size))
 have HS:=Lib.hid (HS.out.step hb)
 have HX:=Lib.hid (HX.out.step hb)
 clear s0 s1 x0 x1
 clear hb HCx
 have s0:=HS.out.cell (i:=0) rfl
 have s1:=HS.out.cell (i:=1) rfl
 have x0:=HX.out.cell (i:=0) rfl
 have x1:=HX.out.cell (i:=1) rfl
 cases g
 ·skip
  have HCx:=Lib.hid (example_e _ (HO.out.io.below HB.out))
  go_wp2_with fail
  refine HCx.out.mono ?_
  rintro e w99 ⟨rfl,hb⟩
  have HB:=Lib.hid (HB.out.trans (hb.mono HB.out.size))
  clear hb
  go_wp2_with fail
  go_ret
  exact ⟨rfl,HB.out⟩
 ·have HG:=Lib.hid (hg rfl)
  clear hg
  have HCx:=Lib.hid (smallS8_s to tn tc ts co cn cc cs _ (HI.out.1.below HB.out) (HI.out.2.below HB.out))
  go_wp2_with fail
  refine HCx.out.mono ?_
  rintro e w2 ⟨⟨g,rfl,hg,hb⟩⟩
  have HB:=Lib.hid (HB.out.trans (hb.mono HB.out.size))
  have HS:=Lib.hid (HS.out.step hb)
  have HX:=Lib.hid (HX.out.step hb)
  clear s0 s1 x0 x1
  clear hb HCx
  have s0:=HS.out.cell (i:=0) rfl
  have s1:=HS.out.cell (i:=1) rfl
  have x0:=HX.out.cell (i:=0) rfl
  have x1:=HX.out.cell (i:=1) rfl
  cases g
  ·skip
   have HCx:=Lib.hid (example_e _ (HO.out.io.below HB.out))
   go_wp2_with fail
   refine HCx.out.mono ?_
   rintro e w99 ⟨rfl,hb⟩
   have HB:=Lib.hid (HB.out.trans (hb.mono HB.out.size))
   clear hb
   go_wp2_with fail
   go_ret
   exact ⟨rfl,HB.out⟩
  ·clear hg
   have HCx:=Lib.hid (few8_s mo mk mc ml _ (HM.out.below HB.out) HRm.out)
   go_wp2_with fail
   refine HCx.out.mono ?_
   rintro e w3 ⟨⟨g,rfl,hg,hb⟩⟩
   have HB:=Lib.hid (HB.out.trans (hb.mono HB.out.size))
   have HS:=Lib.hid (HS.out.step hb)
   have HX:=Lib.hid (HX.out.step hb)
   clear s0 s1 x0 x1
   clear hb HCx
   have s0:=HS.out.cell (i:=0) rfl
   have s1:=HS.out.cell (i:=1) rfl
   have x0:=HX.out.cell (i:=0) rfl
   have x1:=HX.out.cell (i:=1) rfl
   cases g
   ·skip
    have HCx:=Lib.hid (example_e _ (HO.out.io.below HB.out))
    go_wp2_with fail
    refine HCx.out.mono ?_
    rintro e w99 ⟨rfl,hb⟩
    have HB:=Lib.hid (HB.out.trans (hb.mono HB.out.size))
    clear hb
    go_wp2_with fail
    go_ret
    exact ⟨rfl,HB.out⟩
   ·have HF:=Lib.hid (hg rfl)
    clear hg
    have hen:=HG.out.1
    obtain ⟨c,hc⟩:∃ x,apE (soundT ts cs) (soundC ts cs) en el ml=x:=⟨_,rfl⟩
    obtain ⟨N,hN⟩:∃ x,apN (soundT ts cs) (soundC ts cs) en el ml=x:=⟨_,rfl⟩
    obtain ⟨L,hL⟩:∃ x,apL (soundT ts cs) (soundC ts cs) en el ml=x:=⟨_,rfl⟩
    have HCT:=Lib.hid (And.intro hc (And.intro hN hL))
    clear hc hN hL
    have cc0:(c == c)=true:=by simp
    have HCx:=Lib.hid (apply_s to tn tc co cn cc ts cs en eo ek ec el mo mk mc ml _ ⟨to,tn,tc,co,cn,cc,rfl,HI.out.1.below HB.out,HI.out.2.below HB.out,HSM.out.1,HSM.out.2⟩ (by omega) (Hel.out.below HB.out) HG.out.2.small HG.out.2.fewV (HM.out.below HB.out) HF.out.sm (HO.out.io.below HB.out))
    go_wp2_with fail
    refine HCx.out.mono ?_
    rintro e w4 hp
    unfold ApP at hp
    rw [HCT.out.1,HCT.out.2.1,HCT.out.2.2] at hp
    obtain ⟨v1,rfl,⟨go,gn,gc,rfl,hga⟩,hb⟩:=hp
    have HGa:=Lib.hid hga
    clear hga
    have HB:=Lib.hid (HB.out.trans (hb.mono HB.out.size))
    have HS:=Lib.hid (HS.out.step hb)
    have HX:=Lib.hid (HX.out.step hb)
    clear s0 s1 x0 x1
    clear hb HCx
    have s0:=HS.out.cell (i:=0) rfl
    have s1:=HS.out.cell (i:=1) rfl
    have x0:=HX.out.cell (i:=0) rfl
    have x1:=HX.out.cell (i:=1) rfl
    have hbl:=below_al w4 (.cells #[.string N, .slice go gn gc] 37)
    have HY:=Lib.hid (kbl_new w4 (.cells #[.string N, .slice go gn gc] 37))
    have HB:=Lib.hid (HB.out.trans (hbl.mono HB.out.size))
    have HS:=Lib.hid (HS.out.step hbl)
    have HX:=Lib.hid (HX.out.step hbl)
    have HGa:=Lib.hid (HGa.out.below hbl)
    clear s0 s1 x0 x1
    clear hbl
    have s0:=HS.out.cell (i:=0) rfl
    have s1:=HS.out.cell (i:=1) rfl
    have x0:=HX.out.cell (i:=0) rfl
    have x1:=HX.out.cell (i:=1) rfl
    have y0:=HY.out.cell (i:=0) rfl
    have y1:=HY.out.cell (i:=1) rfl
    have HCx:=Lib.hid (rapply_s to tn tc co cn cc ts cs en eo ek ec el mo mk mc ml _ ⟨to,tn,tc,co,cn,cc,rfl,HI.out.1.below HB.out,HI.out.2.below HB.out,HSM.out.1,HSM.out.2⟩ (by omega) (Hel.out.below HB.out) HG.out.2.small (HM.out.below HB.out) HF.out.sm)
    go_wp2_with fail
    refine HCx.out.mono ?_
    rintro e w5 hp
    unfold ApP at hp
    rw [HCT.out.1,HCT.out.2.1,HCT.out.2.2] at hp
    obtain ⟨v2,rfl,⟨so,sn,sc,rfl,hsa⟩,hb⟩:=hp
    have HSa:=Lib.hid hsa
    clear hsa
    have HB:=Lib.hid (HB.out.trans (hb.mono HB.out.size))
    have HS:=Lib.hid (HS.out.step hb)
    have HX:=Lib.hid (HX.out.step hb)
    have HY:=Lib.hid (HY.out.step hb)
    have HGa:=Lib.hid (HGa.out.below hb)
    clear s0 s1 x0 x1 y0 y1
    clear hb HCx
    have s0:=HS.out.cell (i:=0) rfl
    have s1:=HS.out.cell (i:=1) rfl
    have x0:=HX.out.cell (i:=0) rfl
    have x1:=HX.out.cell (i:=1) rfl
    have y0:=HY.out.cell (i:=0) rfl
    have y1:=HY.out.cell (i:=1) rfl
    have hbl:=below_al w5 (.cells #[.string N, .slice so sn sc] 37)
    have HZ:=Lib.hid (kbl_new w5 (.cells #[.string N, .slice so sn sc] 37))
    have HB:=Lib.hid (HB.out.trans (hbl.mono HB.out.size))
    have HS:=Lib.hid (HS.out.step hbl)
    have HX:=Lib.hid (HX.out.step hbl)
    have HY:=Lib.hid (HY.out.step hbl)
    have HGa:=Lib.hid (HGa.out.below hbl)
    have HSa:=Lib.hid (HSa.out.below hbl)
    clear s0 s1 x0 x1 y0 y1
    clear hbl
    have s0:=HS.out.cell (i:=0) rfl
    have s1:=HS.out.cell (i:=1) rfl
    have x0:=HX.out.cell (i:=0) rfl
    have x1:=HX.out.cell (i:=1) rfl
    have y0:=HY.out.cell (i:=0) rfl
    have y1:=HY.out.cell (i:=1) rfl
    have z0:=HZ.out.cell (i:=0) rfl
    have z1:=HZ.out.cell (i:=1) rfl
    have HCx:=Lib.hid (same8_s N N go so gn sn gc sc L L _ HGa.out HSa.out)
    rw [decide_eq_true ⟨rfl,rfl⟩] at HCx
    go_wp2_with fail
    refine HCx.out.mono ?_
    rintro e w6 ⟨rfl,hb⟩
    have HB:=Lib.hid (HB.out.trans (hb.mono HB.out.size))
    have HS:=Lib.hid (HS.out.step hb)
    have HX:=Lib.hid (HX.out.step hb)
    have HY:=Lib.hid (HY.out.step hb)
    have HZ:=Lib.hid (HZ.out.step hb)
    have HGa:=Lib.hid (HGa.out.below hb)
    have HSa:=Lib.hid (HSa.out.below hb)
    clear s0 s1 x0 x1 y0 y1 z0 z1
    clear hb HCx
    have s0:=HS.out.cell (i:=0) rfl
    have s1:=HS.out.cell (i:=1) rfl
    have x0:=HX.out.cell (i:=0) rfl
    have x1:=HX.out.cell (i:=1) rfl
    have y0:=HY.out.cell (i:=0) rfl
    have y1:=HY.out.cell (i:=1) rfl
    have z0:=HZ.out.cell (i:=0) rfl
    have z1:=HZ.out.cell (i:=1) rfl
    have HCx:=Lib.hid (example_e _ (HO.out.io.below HB.out))
    go_wp2_with fail
    refine HCx.out.mono ?_
    rintro e w99 ⟨rfl,hb⟩
    have HB:=Lib.hid (HB.out.trans (hb.mono HB.out.size))
    clear hb
    go_wp2_with fail
    go_ret
    exact ⟨rfl,HB.out⟩

end Go.Proofs.YtmmdaegdkikkpaaGreatDoor
end

section
set_option maxRecDepth 100000
namespace Go.Proofs.YtmmdaegdkikkpaaGreatDoor
open Go.ChangeShapes Go.WideShapes Go.ChangeAt Go.RowKit Go.PlainAid
open Go.ChangeMaps (open_string shut_string)
theorem eapplies_types:∀ t ∈ [25,37,44],Tryz.prog.readableRec t=true /\ t < Tryz.prog.types.size:=by
 have h:([25,37,44].all fun t=>Tryz.prog.readableRec t && decide (t < Tryz.prog.types.size))=true:=by kernel_rfl
 intro t ht
 have:=List.all_eq_true.1 h t ht
 simpa using this

theorem eapplies_contract (H:Type) (enc:TypeId × Value -> H) (W:World) (base:Nat) (args:Array Value) (ds gs:List (DataW H)) (before:List MemPlace)
  (hval:∀ (j:Nat) t v,Tryz.f6.params[j]? = some t -> args[j]? = some v -> Value.okWide Tryz.prog W .any base t v)
  (hW:DataW.Whole enc Tryz.prog Tryz.f6.params.toList Rows.entryAppliesSpec.vars false W args.toList ds gs before)
  (hk:Rows.uptoSmall H (ds ++ gs)=true)
  (hL:laidMetH Tryz.prog Rows.entryAppliesUptoRow.laid W) (hsh:W.ShapedOpen Tryz.prog) :
  Calls Tryz.prog 6 args W fun e W'=>∃ v,e = .returned v /\ Rows.entryAppliesSpec.post enc Tryz.prog Tryz.f6 false true false false W args v W':=by
 have hW':=hW
 obtain ⟨p,q,hA0,hV,rfl,hfz,hnd⟩:=hW
 have hA:DataW.TrodAll enc Tryz.prog W 0 (fun _=>true) true Tryz.f6.params.toList args.toList ds p:=hA0
 obtain ⟨rfl,rfl⟩:=trodVars_none hV
 simp only [List.append_nil] at hW'
 have hlt:∀ x ∈ p,x.block < W.heap.size:=fun x hx=>by simpa using hW'.lt x hx
 have fin:∀ W',Below W.heap.size W W' -> DataW.TrodAll enc Tryz.prog W' 0 (fun b=>decide (b < W.heap.size)) true [25,37,44] args.toList ds p:=fun W' hb=>by
  rw [Tryz.params6] at hA
  exact trodAll_below hb _ _ _ _ eapplies_types hA hlt
 clear hA0
 rw [Tryz.params6] at hA hval
 have hbk:=bk_bound hk
 obtain ⟨v0,vs0,d0,ds0,p0,q0,hargs,rfl,hp0,h0,r0⟩:=trodAll_cons hA
 obtain ⟨v1,vs1,d1,ds1,p1,q1,rfl,rfl,hp1,h1,r1⟩:=trodAll_cons r0
 obtain ⟨v2,vs2,d2,ds2,p2,q2,rfl,rfl,hp2,h2,r2⟩:=trodAll_cons r1
 obtain ⟨rfl,rfl,rfl⟩:=trodAll_nil r2
 obtain rfl:args = #[v0,v1,v2]:=by cases args; simp_all
 simp only [List.append_nil,Rows.uptoBulkAll] at hbk
 obtain ⟨to,tn,tc,ts,co,cn,cc,cs,rfl,ht0,rt0,hc0,rc0⟩:=open_schemaU (K:=1048576) (hval 0 25 v0 rfl rfl) h0 (by omega)
 obtain ⟨en,eo,ek,ec,el,rfl,hen,hel,rel⟩:=open_entryU (K:=1048576) (hval 1 37 v1 rfl rfl) h1 (by omega)
 obtain ⟨mo,mk,mc,ml,rfl,hml,rml⟩:=open_modsU (K:=1048576) (hval 2 44 v2 rfl rfl) h2 (by omega)
 refine (eapplies_s to tn tc ts co cn cc cs en eo ek ec el mo mk mc ml W ht0 rt0 hc0 rc0 hen hel rel hml rml (eok hL hsh)).mono fun e W' ⟨he,hb⟩ => ?_
 subst he
 exact ⟨_,rfl,_,_,_,[],p,[],hW',trodAll_mk1 (shut_bool Tryz.underlying4 _),fin W' hb,rfl,hb.frame _,fun h=>by cases h⟩

theorem eapplies_lifted (os:Os) (started:os.Started) (H:Type) (enc:TypeId × Value -> H) (F:Stop.Interp) :
  ReturnsInHanded {} Tryz.checked os 6 .any ((Rows.OpenSpec.upto Rows.entryAppliesSpec).preRow enc Tryz.prog Tryz.f6 Rows.entryAppliesUptoRow.domain false Rows.entryAppliesUptoRow.laid) (((Rows.OpenSpec.upto Rows.entryAppliesSpec).at F).post enc Tryz.prog Tryz.f6 false true false false):=by
 refine returnsInHanded_of_row (C:=Tryz.checked) (s:=Rows.OpenSpec.upto Rows.entryAppliesSpec) own started (by kernel_rfl) Tryz.func6
  (witness_row (enc:=enc) (C:=Tryz.checked) false (World.laidAll Tryz.prog os Rows.entryAppliesUptoRow.laid) #[.agg #[.slice none 0 0, .slice none 0 0], .agg #[.string ⟨#[]⟩, .slice none 0 0], .slice none 0 0] (World.laidAll_os _ _ _)
   (World.shaped_of_ZipB (by kernel_rfl) (by kernel_rfl)) (by kernel_rfl)
   (OpenSpec.preRow_of_cond 8 (x:=([.agg [.nil, .nil], .agg [.lit (.string []), .nil], .nil],[],[])) (by kernel_rfl) (by kernel_rfl) (fun k hk=>by cases hk; kernel_rfl) (by kernel_rfl)
    (by rw [MakeChecks.laidMetH_plain _ _ _ (by kernel_rfl)]; exact laidMet_laidAll _ (by kernel_rfl) (by kernel_rfl)))) ?_
 intro W base args ds gs before hval hW _ hk _ hL hsh _
 exact eapplies_contract H enc W base args ds gs before hval hW (hk _ rfl) hL hsh

end Go.Proofs.YtmmdaegdkikkpaaGreatDoor
end
