/-
  entry.Parse returns the specified entry or error, for every string. No condition.
-/
import Derived.Test.YtmmdaegdkikkpaaGreatDoorT24
set_option linter.unusedVariables false
set_option linter.unusedSimpArgs false
set_option linter.unnecessarySimpa false

section
set_option maxRecDepth 100000
namespace Go.Proofs.YtmmdaegdkikkpaaGreatDoor
open Go.RowKit Go.PlainAid
set_option maxHeartbeats 16000000 in
theorem eparses_s (tx:ByteArray) (W:World) (Mtx:tx.size <= maxLen) (hok:EOk W) :
  Calls Tryz.prog 9 #[.string tx] W fun e w'=>e = .returned (.bool true) /\ Below W.heap.size W w':=by
 have HO:=Lib.hid hok
 clear hok
 have HB:=Lib.hid (Below.refl W.heap.size W)
 go_enter Tryz.func9,Tryz.ntmps9
 by_cases L2:2000 < tx.size
 ·have D2:decide ((2000:Int) < (tx.size:Int))=true:=decide_eq_true (by omega)
  have HCx:=Lib.hid (example_e _ (HO.out.io.below HB.out))
  go_wp2_with fail
  refine HCx.out.mono ?_
  rintro e w99 ⟨rfl,hb⟩
  have HB:=Lib.hid (HB.out.trans (hb.mono HB.out.size))
  clear hb
  go_wp2_with fail
  go_ret
  exact ⟨rfl,HB.out⟩
 ·have D2:decide ((2000:Int) < (tx.size:Int))=false:=decide_eq_false (by omega)
  have Nx:tx.size <= 1000000:=by omega
  have HPc:=Lib.hid (show (pieces 10 tx.data.toList).length <= 2900 from by have:=pc_count 10 tx.data.toList; rw [str_len] at this; omega)
  obtain ⟨pn,hpn⟩:∃ x,paN tx=x:=⟨_,rfl⟩
  obtain ⟨pe,hpe⟩:∃ x,paE tx=x:=⟨_,rfl⟩
  obtain ⟨pl,hpl⟩:∃ x,paL tx=x:=⟨_,rfl⟩
  have HPv:=Lib.hid (And.intro hpn (And.intro hpe hpl))
  clear hpn hpe hpl
  have cc0:(pe == pe)=true:=by simp
  have HCx:=Lib.hid (parse8_s tx _ Nx HPc.out (HO.out.mo.below HB.out HO.out.mo.lt))
  go_wp2_with fail
  refine HCx.out.mono ?_
  rintro e w1 hp
  unfold PaP at hp
  rw [HPv.out.1,HPv.out.2.1,HPv.out.2.2] at hp
  obtain ⟨go,gn,gc,rfl,hga,hb⟩:=hp
  have HGa:=Lib.hid hga
  clear hga
  have HB:=Lib.hid (HB.out.trans (hb.mono HB.out.size))
  clear hb HCx
  have hbl:=below_al w1 (.cells #[.string pn, .slice go gn gc] 37)
  have HY:=Lib.hid (kbl_new w1 (.cells #[.string pn, .slice go gn gc] 37))
  have HB:=Lib.hid (HB.out.trans (hbl.mono HB.out.size))
  have HGa:=Lib.hid (HGa.out.below hbl)
  clear hbl
  have y0:=HY.out.cell (i:=0) rfl
  have y1:=HY.out.cell (i:=1) rfl
  have HCx:=Lib.hid (rparse8_s tx (w1.alloc (.cells #[.string pn, .slice go gn gc] 37)) Nx HPc.out)
  go_wp2_with fail
  refine HCx.out.mono ?_
  rintro e w2 hp
  unfold PaP at hp
  rw [HPv.out.1,HPv.out.2.1,HPv.out.2.2] at hp
  obtain ⟨so,sn,sc,rfl,hsa,hb⟩:=hp
  have HSa:=Lib.hid hsa
  clear hsa
  have HB:=Lib.hid (HB.out.trans (hb.mono HB.out.size))
  have HY:=Lib.hid (HY.out.step hb)
  have HGa:=Lib.hid (HGa.out.below hb)
  clear y0 y1
  clear hb HCx
  have y0:=HY.out.cell (i:=0) rfl
  have y1:=HY.out.cell (i:=1) rfl
  have hbl:=below_al w2 (.cells #[.string pn, .slice so sn sc] 37)
  have HZ:=Lib.hid (kbl_new w2 (.cells #[.string pn, .slice so sn sc] 37))
  have HB:=Lib.hid (HB.out.trans (hbl.mono HB.out.size))
  have HY:=Lib.hid (HY.out.step hbl)
  have HGa:=Lib.hid (HGa.out.below hbl)
  have HSa:=Lib.hid (HSa.out.below hbl)
  clear y0 y1
  clear hbl
  have y0:=HY.out.cell (i:=0) rfl
  have y1:=HY.out.cell (i:=1) rfl
  have z0:=HZ.out.cell (i:=0) rfl
  have z1:=HZ.out.cell (i:=1) rfl
  have HCx:=Lib.hid (same8_s pn pn go so gn sn gc sc pl pl _ HGa.out HSa.out)
  rw [decide_eq_true ⟨rfl,rfl⟩] at HCx
  go_wp2_with fail
  refine HCx.out.mono ?_
  rintro e w3 ⟨rfl,hb⟩
  have HB:=Lib.hid (HB.out.trans (hb.mono HB.out.size))
  have HY:=Lib.hid (HY.out.step hb)
  have HZ:=Lib.hid (HZ.out.step hb)
  have HGa:=Lib.hid (HGa.out.below hb)
  have HSa:=Lib.hid (HSa.out.below hb)
  clear y0 y1 z0 z1
  clear hb HCx
  have y0:=HY.out.cell (i:=0) rfl
  have y1:=HY.out.cell (i:=1) rfl
  have z0:=HZ.out.cell (i:=0) rfl
  have z1:=HZ.out.cell (i:=1) rfl
  have HCx:=Lib.hid (example_e _ (HO.out.io.below HB.out))
  go_wp2_with fail
  refine HCx.out.mono ?_
  rintro e w99 ⟨rfl,hb⟩
  have HB:=Lib.hid (HB.out.trans (hb.mono HB.out.size))
  clear hb
  go_wp2_with fail
  go_ret
  exact ⟨rfl,HB.out⟩

end Go.Proofs.YtmmdaegdkikkpaaGreatDoor
end

section
set_option maxRecDepth 100000
namespace Go.Proofs.YtmmdaegdkikkpaaGreatDoor
open Go.ChangeShapes Go.WideShapes Go.ChangeAt Go.RowKit Go.PlainAid
open Go.ChangeMaps (open_string shut_string)
theorem eparses_types:∀ t ∈ [9],Tryz.prog.readableRec t=true /\ t < Tryz.prog.types.size:=by
 have h:([9].all fun t=>Tryz.prog.readableRec t && decide (t < Tryz.prog.types.size))=true:=by kernel_rfl
 intro t ht
 have:=List.all_eq_true.1 h t ht
 simpa using this

theorem eparses_contract (H:Type) (enc:TypeId × Value -> H) (W:World) (base:Nat) (args:Array Value) (ds gs:List (DataW H)) (before:List MemPlace)
  (hval:∀ (j:Nat) t v,Tryz.f9.params[j]? = some t -> args[j]? = some v -> Value.okWide Tryz.prog W .any base t v)
  (hW:DataW.Whole enc Tryz.prog Tryz.f9.params.toList Rows.entryParsesSpec.vars false W args.toList ds gs before)
  (hsz0:(DataW.weightsEach Tryz.prog (Tryz.f9.params.toList ++ (OpenSpec.ofChange Rows.entryParsesSpec).bare.plain.varTypes Tryz.prog) (ds ++ gs)).all (· <= reachBytes)=true)
  (hL:laidMetH Tryz.prog Rows.entryParsesRow.laid W) (hsh:W.ShapedOpen Tryz.prog) :
  Calls Tryz.prog 9 args W fun e W'=>∃ v,e = .returned v /\ Rows.entryParsesSpec.post enc Tryz.prog Tryz.f9 false true false false W args v W':=by
 have hW':=hW
 obtain ⟨p,q,hA0,hV,rfl,hfz,hnd⟩:=hW
 have hA:DataW.TrodAll enc Tryz.prog W 0 (fun _=>true) true Tryz.f9.params.toList args.toList ds p:=hA0
 obtain ⟨rfl,rfl⟩:=trodVars_none hV
 simp only [List.append_nil] at hW'
 have hlt:∀ x ∈ p,x.block < W.heap.size:=fun x hx=>by simpa using hW'.lt x hx
 have fin:∀ W',Below W.heap.size W W' -> DataW.TrodAll enc Tryz.prog W' 0 (fun b=>decide (b < W.heap.size)) true [9] args.toList ds p:=fun W' hb=>by
  rw [Tryz.params9] at hA
  exact trodAll_below hb _ _ _ _ eparses_types hA hlt
 clear hA0
 rw [Tryz.params9] at hA hval hsz0
 rw [show (OpenSpec.ofChange Rows.entryParsesSpec).bare.plain.varTypes Tryz.prog = [] from rfl,List.append_nil,List.append_nil] at hsz0
 obtain ⟨v0,vs0,d0,ds0,p0,q0,hargs,rfl,hp0,h0,r0⟩:=trodAll_cons hA
 obtain ⟨rfl,rfl,rfl⟩:=trodAll_nil r0
 obtain rfl:args = #[v0]:=by cases args; simp_all
 have hsz:(DataW.weightsEach Tryz.prog [9] [d0]).all (fun x=>decide (x <= reachBytes))=true:=by simpa using hsz0
 clear hsz0
 obtain ⟨tx,rfl,rfl,rfl,hs0⟩:=open_string Tryz.underlying9 (hval 0 9 v0 rfl rfl) h0
 refine (eparses_s tx W hs0 (eok hL hsh)).mono fun e W' ⟨he,hb⟩ => ?_
 subst he
 exact ⟨_,rfl,_,_,_,[],p,[],hW',trodAll_mk1 (shut_bool Tryz.underlying4 _),fin W' hb,rfl,hb.frame _,fun h=>by cases h⟩

theorem eparses_lifted (os:Os) (started:os.Started) (H:Type) (enc:TypeId × Value -> H) (F:Stop.Interp) :
  ReturnsInHanded {} Tryz.checked os 9 .any ((OpenSpec.ofChange Rows.entryParsesSpec).preRow enc Tryz.prog Tryz.f9 Rows.entryParsesRow.domain false Rows.entryParsesRow.laid) (((OpenSpec.ofChange Rows.entryParsesSpec).at F).post enc Tryz.prog Tryz.f9 false true false false):=by
 refine returnsInHanded_of_row (C:=Tryz.checked) (s:=OpenSpec.ofChange Rows.entryParsesSpec) own started (by kernel_rfl) Tryz.func9
  (witness_row (enc:=enc) (C:=Tryz.checked) false (World.laidAll Tryz.prog os Rows.entryParsesRow.laid) #[.string ⟨#[]⟩] (World.laidAll_os _ _ _)
   (World.shaped_of_ZipB (by kernel_rfl) (by kernel_rfl)) (by kernel_rfl)
   (OpenSpec.preRow_of_cond 8 (x:=([.lit (.string [])],[],[])) (by kernel_rfl) (by kernel_rfl) (fun k hk=>by cases hk) (by kernel_rfl)
    (by rw [MakeChecks.laidMetH_plain _ _ _ (by kernel_rfl)]; exact laidMet_laidAll _ (by kernel_rfl) (by kernel_rfl)))) ?_
 intro W base args ds gs before hval hW _ _ hsz hL hsh _
 exact eparses_contract H enc W base args ds gs before hval hW hsz hL hsh

end Go.Proofs.YtmmdaegdkikkpaaGreatDoor
end
