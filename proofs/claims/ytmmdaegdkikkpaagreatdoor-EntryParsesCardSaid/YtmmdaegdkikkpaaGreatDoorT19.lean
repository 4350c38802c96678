/-
  Texts of the schema layer and of those beneath it, joined: EntApW, EntLn, EntB, EntNs, EntRn, EntTx. Conditions stand at each contract.
-/
import Derived.Test.YtmmdaegdkikkpaaGreatDoorT18
set_option linter.unusedVariables false
set_option linter.unusedSimpArgs false
set_option linter.unnecessarySimpa false

section
set_option maxRecDepth 100000
namespace Go.Proofs.YtmmdaegdkikkpaaGreatDoor
open Go.RowKit Go.PlainAid
structure ApI (T:List Ty) (en:ByteArray) (l:List At) (ms:List Md) (w:World) (b8:Nat) (sch:Obj) (i:Nat) (ko:Option Addr) (kn kc:Nat) (k:List At) (wr:World):Prop where
 kS:Kb wr w.heap.size sch
 kR:Kb wr (w.heap.size + 2) (.cells #[.string ⟨#[]⟩, .slice none 0 0] 37)
 kN:Kb wr b8 (.cells #[.string en, .slice ko kn kc] 37)
 at':AttrsAt wr ko kn kc k
 chk:chkA k=0
 run:modsR T l ms=modsR T k (ms.drop i)
 low:Below w.heap.size w wr
 big:w.heap.size + 3 <= b8
theorem ApI.below {T:List Ty} {en:ByteArray} {l:List At} {ms:List Md} {w:World} {b8:Nat} {sch:Obj} {i:Nat} {ko:Option Addr} {kn kc:Nat} {k:List At} {wr V:World} (h:ApI T en l ms w b8 sch i ko kn kc k wr) (hb:Below wr.heap.size wr V):ApI T en l ms w b8 sch i ko kn kc k V:=
 ⟨h.kS.step hb,h.kR.step hb,h.kN.step hb,h.at'.below hb,h.chk,h.run,h.low.trans (hb.mono h.low.size),h.big⟩
theorem ApI.next {T:List Ty} {en:ByteArray} {l:List At} {ms:List Md} {w:World} {b8:Nat} {sch:Obj} {i:Nat} {ko:Option Addr} {kn kc:Nat} {k:List At} {W:World} (h:ApI T en l ms w b8 sch i ko kn kc k W) (hi:i < ms.length) (hen:nameB en=false) {ro:Option Addr} {rn rc:Nat} {r:List At} (hr:AttrsAt W ro rn rc r) (hm:modR T k (mdD ms i)=(r,0)) :
  ApI T en l ms w b8 sch (i + 1) ro rn rc r (W.setCell ⟨b8,1,none⟩ (.slice ro rn rc)):=by
 have hc:chkA r=0:=by have:=mod_chk (T:=T) (m:=mdD ms i) h.chk (by rw [hm]); rwa [hm] at this
 have hbg:=h.big
 refine ⟨h.kS.set _ _ (by show w.heap.size ≠ b8; omega),h.kR.set _ _ (by show w.heap.size + 2 ≠ b8; omega),Lib.heap_setCell_same h.kN _,atts_set h.kN hr (fun a ha e => ?_) _,hc, ?_,h.low.setCell (p:=⟨b8,1,none⟩) (by show w.heap.size <= b8; omega) _,hbg⟩
 ·have:=(chk_names hc a ha).1; rw [e,hen] at this; cases this
 ·rw [h.run,md_drop hi,mods_ok hm]
set_option maxHeartbeats 16000000 in
theorem apply_s (to:Option Addr) (tn tc:Nat) (co:Option Addr) (cn cc:Nat) (ts:List Ty) (cs:List Cl) (en:ByteArray) (ao:Option Addr) (n cap:Nat) (l:List At) (mo:Option Addr) (mn mc:Nat) (ms:List Md) (w:World) (h:SchV w (.agg #[.slice to tn tc, .slice co cn cc]) ts cs) (hen:en.size <= 1100000) (ha:AttrsAt w ao n cap l) (hS:SmallA l) (hF:FewV l) (hM:MdsAt w mo mn mc ms) (hSm:SmM ms) (ho:IntOk w) :
  Calls Tryz.prog 29 #[.agg #[.slice to tn tc, .slice co cn cc], .agg #[.string en, .slice ao n cap], .slice mo mn mc] w fun e w'=>ApP (soundT ts cs) (soundC ts cs) en l ms w e w':=by
 have HS:=Lib.hid h; clear h
 have HA:=Lib.hid ha; clear ha
 have HO:=Lib.hid ho; clear ho
 have HM:=Lib.hid hM
 have hmcap:=hM.2.1
 have hmmx:=hM.2.2.1
 unfold maxLen at hmmx
 clear hM
 have HMl:=Lib.hid HM.out.1
 have hs0:=below_al w (.cells #[.slice to tn tc, .slice co cn cc] 25)
 have HVd:=Lib.hid (fun (V:World) (hb:Below w.heap.size w V) (c:ByteArray) (bo:Option Addr) (bn bc:Nat) (k:List At) (hk:AttrsAt V bo bn bc k) (hl:LightE k)=>validF_s _ ts cs c bo bn bc k V (HS.out.below hb) hk hl.fewE (HO.out.below hb))
 have HMd:=Lib.hid (fun (V:World) (hb:Below w.heap.size w V) (ko:Option Addr) (kn kc:Nat) (k:List At) (op:Int) (nm:ByteArray) (vo:Option Addr) (vn vc:Nat) (vs:List ByteArray) (ha:AttrsAt V ko kn kc k) (hv:StrsAt V vo vn vc vs) (hl:LightE k) (hz:SmallS vs) (hm:vn <= 10000) (hn:nm.size <= 1100000)=>modified_s to tn tc co cn cc ts cs ko kn kc k op nm vo vn vc vs V (HS.out.below hb) ha hv hl hz hm hn (HO.out.below hb))
 have hb0:Below w.heap.size w (((w.alloc (.cells #[.slice to tn tc, .slice co cn cc] 25)).alloc (.cells #[.string en, .slice ao n cap] 37)).alloc (.cells #[.string ⟨#[]⟩, .slice none 0 0] 37)):=(hs0.alloc (by simp) _).alloc (by simp; omega) _
 have hk0:Kb (((w.alloc (.cells #[.slice to tn tc, .slice co cn cc] 25)).alloc (.cells #[.string en, .slice ao n cap] 37)).alloc (.cells #[.string ⟨#[]⟩, .slice none 0 0] 37)) w.heap.size (.cells #[.slice to tn tc, .slice co cn cc] 25):=((kbl_new w _).step (below_al _ _)).step (below_al _ _)
 have hk1:Kb (((w.alloc (.cells #[.slice to tn tc, .slice co cn cc] 25)).alloc (.cells #[.string en, .slice ao n cap] 37)).alloc (.cells #[.string ⟨#[]⟩, .slice none 0 0] 37)) (w.heap.size + 1) (.cells #[.string en, .slice ao n cap] 37):=by
  have:=(kbl_new (w.alloc (.cells #[.slice to tn tc, .slice co cn cc] 25)) (.cells #[.string en, .slice ao n cap] 37)).step (below_al _ (.cells #[.string ⟨#[]⟩, .slice none 0 0] 37))
  simpa using this
 have hk2:=enz_new w (.cells #[.slice to tn tc, .slice co cn cc] 25) (.cells #[.string en, .slice ao n cap] 37)
 have HNm:=Lib.hid (enNormal_s to tn tc co cn cc ts cs en ao n cap l (((w.alloc (.cells #[.slice to tn tc, .slice co cn cc] 25)).alloc (.cells #[.string en, .slice ao n cap] 37)).alloc (.cells #[.string ⟨#[]⟩, .slice none 0 0] 37)) (HS.out.below hb0) hen (HA.out.below hb0) hS hF (HO.out.below hb0))
 unfold EnP at HNm
 obtain ⟨T,hT⟩:∃ T,soundT ts cs=T:=⟨_,rfl⟩
 obtain ⟨C,hC⟩:∃ C,soundC ts cs=C:=⟨_,rfl⟩
 rw [hT] at HMd HVd HNm ⊢
 rw [hC] at HVd HNm ⊢
 clear hT hC
 obtain ⟨c,hc⟩:∃ c,enE T C en l=c:=⟨_,rfl⟩
 obtain ⟨nn,hnn⟩:∃ x,enN T C en l=x:=⟨_,rfl⟩
 obtain ⟨nl,hnl⟩:∃ x,enL T C en l=x:=⟨_,rfl⟩
 rw [hc,hnn,hnl] at HNm
 have HC:=Lib.hid hc
 have HNN:=Lib.hid (And.intro hnn hnl)
 have HB0:=Lib.hid hb0
 have HK0:=Lib.hid (And.intro hk0 (And.intro hk1 hk2))
 obtain ⟨c0,c1⟩:(((w.alloc (.cells #[.slice to tn tc, .slice co cn cc] 25)).alloc (.cells #[.string en, .slice ao n cap] 37)).alloc (.cells #[.string ⟨#[]⟩, .slice none 0 0] 37)).cell? ⟨w.heap.size,0,none⟩=some (.slice to tn tc) /\ (((w.alloc (.cells #[.slice to tn tc, .slice co cn cc] 25)).alloc (.cells #[.string en, .slice ao n cap] 37)).alloc (.cells #[.string ⟨#[]⟩, .slice none 0 0] 37)).cell? ⟨w.heap.size,1,none⟩=some (.slice co cn cc):=⟨hk0.cell rfl,hk0.cell rfl⟩
 obtain ⟨e0,e1⟩:(((w.alloc (.cells #[.slice to tn tc, .slice co cn cc] 25)).alloc (.cells #[.string en, .slice ao n cap] 37)).alloc (.cells #[.string ⟨#[]⟩, .slice none 0 0] 37)).cell? ⟨w.heap.size + 1,0,none⟩=some (.string en) /\ (((w.alloc (.cells #[.slice to tn tc, .slice co cn cc] 25)).alloc (.cells #[.string en, .slice ao n cap] 37)).alloc (.cells #[.string ⟨#[]⟩, .slice none 0 0] 37)).cell? ⟨w.heap.size + 1,1,none⟩=some (.slice ao n cap):=⟨hk1.cell rfl,hk1.cell rfl⟩
 clear hs0 hb0 hk0 hk1 hk2 hc hnn hnl
 go_enter Tryz.func29,Tryz.ntmps29
 go_wp2_with fail
 refine HNm.out.mono ?_
 rintro e w1 ⟨_,rfl,⟨no,n1,nc,rfl,hNA⟩,hb⟩
 have hbl:=below_al w1 (.cells #[.string nn, .slice no n1 nc] 37)
 have HB1:=Lib.hid (HB0.out.trans ((hb.trans (hbl.mono hb.size)).mono HB0.out.size))
 have HK1:=Lib.hid (And.intro ((HK0.out.1.step hb).step hbl) (And.intro ((HK0.out.2.1.step hb).step hbl) (And.intro ((HK0.out.2.2.step hb).step hbl) (kbl_new w1 (.cells #[.string nn, .slice no n1 nc] 37)))))
 have HNA:=Lib.hid (hNA.below hbl)
 have hsz1:w.heap.size + 3 <= w1.heap.size:=(HK0.out.2.2.step hb).big
 obtain ⟨b8,hb8⟩:∃ x,w1.heap.size=x:=⟨_,rfl⟩
 clear hb hbl hNA c0 c1 e0 e1 HNm HB0 HK0
 by_cases h0:c=0
 ·subst h0
  have HPt:=Lib.hid (en_parts HC.out)
  have HNe:=Lib.hid (show nn=Nam.cleanV en /\ nl=nmL T (nf l) by
   rw [<- HNN.out.1, <- HNN.out.2]; unfold enN enL; rw [if_pos HC.out,if_pos HC.out]; exact ⟨rfl,rfl⟩)
  have HId:=Lib.hid (fun (V:World) (hV:Below (w1.alloc (.cells #[.string nn, .slice no n1 nc] 37)).heap.size (w1.alloc (.cells #[.string nn, .slice no n1 nc] 37)) V)=>identical_s nn en no ao n1 n nc cap nl l V (HNA.out.below hV) (HA.out.below (HB1.out.trans (hV.mono HB1.out.size))) (by rw [HNe.out.2]; exact (nm_NF (nf_NF l)).ne) (fun a ha=>(chk_names HPt.out.2.1 a ha).2.1))
  obtain ⟨z,hz⟩:∃ z,decide (nn=en /\ nl=l)=z:=⟨_,rfl⟩
  rw [hz] at HId
  obtain ⟨k0,k1⟩:(w1.alloc (.cells #[.string nn, .slice no n1 nc] 37)).cell? ⟨w1.heap.size,0,none⟩=some (.string nn) /\ (w1.alloc (.cells #[.string nn, .slice no n1 nc] 37)).cell? ⟨w1.heap.size,1,none⟩=some (.slice no n1 nc):=⟨HK1.out.2.2.2.cell rfl,HK1.out.2.2.2.cell rfl⟩
  obtain ⟨e0,e1⟩:(w1.alloc (.cells #[.string nn, .slice no n1 nc] 37)).cell? ⟨w.heap.size + 1,0,none⟩=some (.string en) /\ (w1.alloc (.cells #[.string nn, .slice no n1 nc] 37)).cell? ⟨w.heap.size + 1,1,none⟩=some (.slice ao n cap):=⟨HK1.out.2.1.cell rfl,HK1.out.2.1.cell rfl⟩
  have HZ:=Lib.hid hz
  clear hz
  rw [hb8] at k0 k1 HK1
  go_wp2_with fail
  refine (HId.out _ (Below.refl _ _)).mono ?_
  rintro e w2 ⟨rfl,hb⟩
  have HB2:=Lib.hid (HB1.out.trans (hb.mono HB1.out.size))
  have HK2:=Lib.hid (And.intro (HK1.out.1.step hb) (And.intro (HK1.out.2.2.1.step hb) (HK1.out.2.2.2.step hb)))
  have HNA2:=Lib.hid (HNA.out.below hb)
  clear hb k0 k1 e0 e1 HId HK1 HNA
  cases z
  ·have HE:=Lib.hid (ap_arg (T:=T) (cs:=C) (en:=en) (l:=l) (ms:=ms) (fun k=>by
    have:=of_decide_eq_false HZ.out
    exact this ⟨HNe.out.1.trans k.2.1,HNe.out.2.trans k.2.2⟩))
   obtain ⟨r0,r1⟩:w2.cell? ⟨w.heap.size + 2,0,none⟩=some (.string ⟨#[]⟩) /\ w2.cell? ⟨w.heap.size + 2,1,none⟩=some (.slice none 0 0):=⟨HK2.out.2.1.cell rfl,HK2.out.2.1.cell rfl⟩
   have f0:w2.frozen? ⟨w.heap.size + 2,0,none⟩=false:=heap_frozen HK2.out.2.1
   have f1:w2.frozen? ⟨w.heap.size + 2,1,none⟩=false:=heap_frozen HK2.out.2.1
   have HBe:=Lib.hid (below_set1 (below_set1 HB2.out (w.heap.size + 2) 0 (by omega) (.string ⟨#[]⟩)) (w.heap.size + 2) 1 (by omega) (.slice none 0 0))
   go_wp2_with fail
   refine bodyPost_ret (v := .tuple #[.agg #[.string ⟨#[]⟩, .slice none 0 0], .int .i64 2]) (by simp only [results,Tryz.results29]; go_simp) rfl ?_
   exact ApP.no HE.out (by decide) HBe.out
  ·have hq:=of_decide_eq_true HZ.out
   have HG:=Lib.hid (show enE T C en l=0 /\ Nam.cleanV en=en /\ nmL T (nf l)=l from ⟨HC.out,HNe.out.1.symm.trans hq.1,HNe.out.2.symm.trans hq.2⟩)
   have HNo:=Lib.hid (show nameB en=false by have:=clean_no_name HPt.out.1; rwa [HG.out.2.1] at this)
   obtain ⟨hq1,hq2⟩:=hq
   subst hq1 hq2
   by_cases hml:32 < mn
   ·have d3:decide (32 < (mn:Int))=true:=decide_eq_true (by omega)
    have d4:(mn:Int) > 32:=by omega
    have HE:=Lib.hid (ap_lim (ms:=ms) HG.out (by rw [HMl.out]; exact hml))
    obtain ⟨r0,r1⟩:w2.cell? ⟨w.heap.size + 2,0,none⟩=some (.string ⟨#[]⟩) /\ w2.cell? ⟨w.heap.size + 2,1,none⟩=some (.slice none 0 0):=⟨HK2.out.2.1.cell rfl,HK2.out.2.1.cell rfl⟩
    have f0:w2.frozen? ⟨w.heap.size + 2,0,none⟩=false:=heap_frozen HK2.out.2.1
    have f1:w2.frozen? ⟨w.heap.size + 2,1,none⟩=false:=heap_frozen HK2.out.2.1
    have HBe:=Lib.hid (below_set1 (below_set1 HB2.out (w.heap.size + 2) 0 (by omega) (.string ⟨#[]⟩)) (w.heap.size + 2) 1 (by omega) (.slice none 0 0))
    go_wp2_with fail
    refine bodyPost_ret (v := .tuple #[.agg #[.string ⟨#[]⟩, .slice none 0 0], .int .i64 3]) (by simp only [results,Tryz.results29]; go_simp) rfl ?_
    exact ApP.no HE.out (by decide) HBe.out
   ·have d3:decide (32 < (mn:Int))=false:=decide_eq_false (by omega)
    have d4:¬ (mn:Int) > 32:=by omega
    have HLm:=Lib.hid (show ¬ 32 < ms.length by rw [HMl.out]; exact hml)
    have HI:=Lib.hid (show ApI T nn nl ms w b8 (.cells #[.slice to tn tc, .slice co cn cc] 25) 0 no n1 nc nl w2 from
     ⟨HK2.out.1,HK2.out.2.1,HK2.out.2.2,HNA2.out,HPt.out.2.1,rfl,HB2.out,by omega⟩)
    clear HK2 HNA2 HB2 hb8 HB1
    go_wp2_with fail
    go_loopw [9,11,34] (fun _ _ s34 wr=>∃ (i:Nat) (ko:Option Addr) (kn kc:Nat) (k:List At),i <= mn /\ s34 = .int .i64 i /\ Hid (ApI T nn nl ms w b8 (.cells #[.slice to tn tc, .slice co cn cc] 25) i ko kn kc k wr)) (fun _ _ s34 _=>mn - (intOf s34).toNat)
    case atStart=>exact ⟨0,no,n1,nc,nl,Nat.zero_le _,rfl,HI⟩
    case round =>
     clear HI
     obtain ⟨i,ko,kn,kc,k,hi,rfl,HI⟩:=hrel
     have hbg:=HI.out.big
     by_cases hlt:i < mn
     ·have d1:(i:Int) < (mn:Int):=by omega
      obtain ⟨mb,moff,rfl,hmb,hmm⟩:=(HM.out.below HI.out.low).2.2.2 (by omega)
      obtain ⟨a0,a1,vo,vn,vc,a2,hst⟩:=hmm i hlt
      clear hmm
      have hmem:mdD ms i ∈ ms:=md_mem (by rw [HMl.out]; exact hlt)
      have HNx:=Lib.hid (fun (W:World) (ro:Option Addr) (rn rc:Nat) (r:List At) (hW:ApI T nn nl ms w b8 (.cells #[.slice to tn tc, .slice co cn cc] 25) i ko kn kc k W)=>hW.next (by rw [HMl.out]; exact hlt) HNo.out (ro:=ro) (rn:=rn) (rc:=rc) (r:=r))
      have HRun:=Lib.hid (show modsR T nl ms=modsR T k (mdD ms i :: ms.drop (i + 1)) by rw [HI.out.run,md_drop (by rw [HMl.out]; exact hlt)])
      have hz1:=hSm.nm _ hmem
      have hz2:=hSm.vl _ hmem
      have hz3:=hSm.vs _ hmem
      obtain ⟨⟨op,nm,vs⟩,hmd⟩:∃ x,mdD ms i=x:=⟨_,rfl⟩
      rw [hmd] at a0 a1 hst HNx HRun hz1 hz2 hz3
      simp only at a0 a1 hst hz1 hz2 hz3
      have hvn:=hst.1
      rw [hvn] at hz2
      have HZ3:=Lib.hid hz3
      have HSt:=Lib.hid hst
      clear hmd hmem hvn hz3 hst
      have hbl:=below_al wr (.cells #[.int .i64 op, .string nm, .slice vo vn vc] 102)
      have HI4:=Lib.hid (HI.out.below hbl)
      have HMk:=Lib.hid (HMd.out (wr.alloc (.cells #[.int .i64 op, .string nm, .slice vo vn vc] 102)) HI4.out.low ko kn kc k op nm vo vn vc vs HI4.out.at' (HSt.out.below hbl) (chk_light HI.out.chk) HZ3.out hz2 hz1)
      unfold MdP at HMk
      obtain ⟨⟨r,c⟩,hrc⟩:∃ x,modR T k ⟨op,nm,vs⟩=x:=⟨_,rfl⟩
      rw [hrc] at HMk
      have HRC:=Lib.hid hrc
      obtain ⟨q0,q1⟩:(wr.alloc (.cells #[.int .i64 op, .string nm, .slice vo vn vc] 102)).cell? ⟨w.heap.size,0,none⟩=some (.slice to tn tc) /\ (wr.alloc (.cells #[.int .i64 op, .string nm, .slice vo vn vc] 102)).cell? ⟨w.heap.size,1,none⟩=some (.slice co cn cc):=⟨HI4.out.kS.cell rfl,HI4.out.kS.cell rfl⟩
      obtain ⟨k0,k1⟩:(wr.alloc (.cells #[.int .i64 op, .string nm, .slice vo vn vc] 102)).cell? ⟨b8,0,none⟩=some (.string nn) /\ (wr.alloc (.cells #[.int .i64 op, .string nm, .slice vo vn vc] 102)).cell? ⟨b8,1,none⟩=some (.slice ko kn kc):=⟨HI4.out.kN.cell rfl,HI4.out.kN.cell rfl⟩
      clear hbl hrc
      go_wp2_with fail
      refine HMk.out.mono ?_
      rintro e w5 ⟨_,rfl,⟨ro,rn,rc,rfl,hr⟩,hb⟩
      have HI5:=Lib.hid (HI4.out.below hb)
      have HR5:=Lib.hid hr
      have f9:w5.frozen? ⟨b8,1,none⟩=false:=heap_frozen HI5.out.kN
      clear hb hr q0 q1 k0 k1 a0 a1 a2
      obtain ⟨k0,k1⟩:w5.cell? ⟨b8,0,none⟩=some (.string nn) /\ w5.cell? ⟨b8,1,none⟩=some (.slice ko kn kc):=⟨HI5.out.kN.cell rfl,HI5.out.kN.cell rfl⟩
      by_cases h0:c=0
      ·subst h0
       have HI6:=Lib.hid (HNx.out w5 ro rn rc r HI5.out HR5.out HRC.out)
       go_wp2_with fail
       go_roundw
       case rel=>exact ⟨i + 1,ro,rn,rc,r,by omega,by go_num,HI6⟩
       case measure=>simp [intOf]; omega
      ·have d5:(c != 0)=true:=by simpa using h0
       have HE:=Lib.hid (ap_mod (ms:=ms) HG.out HLm.out (HRun.out.trans (mods_no (by rw [HRC.out]) h0)) h0)
       have HR6:=Lib.hid (show Kb (w5.setCell ⟨b8,1,none⟩ (.slice ro rn rc)) (w.heap.size + 2) (.cells #[.string ⟨#[]⟩, .slice none 0 0] 37) from HI5.out.kR.set _ _ (by show w.heap.size + 2 ≠ b8; omega))
       have HL6:=Lib.hid (show Below w.heap.size w (w5.setCell ⟨b8,1,none⟩ (.slice ro rn rc)) from HI5.out.low.setCell (p:=⟨b8,1,none⟩) (by show w.heap.size <= b8; omega) _)
       obtain ⟨r0,r1⟩:(w5.setCell ⟨b8,1,none⟩ (.slice ro rn rc)).cell? ⟨w.heap.size + 2,0,none⟩=some (.string ⟨#[]⟩) /\ (w5.setCell ⟨b8,1,none⟩ (.slice ro rn rc)).cell? ⟨w.heap.size + 2,1,none⟩=some (.slice none 0 0):=⟨HR6.out.cell rfl,HR6.out.cell rfl⟩
       have f0:(w5.setCell ⟨b8,1,none⟩ (.slice ro rn rc)).frozen? ⟨w.heap.size + 2,0,none⟩=false:=heap_frozen HR6.out
       have f1:(w5.setCell ⟨b8,1,none⟩ (.slice ro rn rc)).frozen? ⟨w.heap.size + 2,1,none⟩=false:=heap_frozen HR6.out
       have HBe:=Lib.hid (below_set1 (below_set1 HL6.out (w.heap.size + 2) 0 (by omega) (.string ⟨#[]⟩)) (w.heap.size + 2) 1 (by omega) (.slice none 0 0))
       go_wp2_with fail
       refine bodyPost_ret (v := .tuple #[.agg #[.string ⟨#[]⟩, .slice none 0 0], .int .i64 c]) (by simp only [results,Tryz.results29]; go_simp) rfl ?_
       exact ApP.no HE.out h0 HBe.out
     ·obtain rfl:i=mn:=by omega
      have d1:¬ (i:Int) < (i:Int):=by omega
      have HRun:=Lib.hid (show modsR T nl ms=(k,0) by rw [HI.out.run,List.drop_of_length_le (by rw [HMl.out]; exact Nat.le_refl _)]; rfl)
      have HVk:=Lib.hid (HVd.out wr HI.out.low nn ko kn kc k HI.out.at' (chk_light HI.out.chk))
      obtain ⟨c,hc⟩:∃ c,vldE T C k=c:=⟨_,rfl⟩
      rw [hc] at HVk
      have HE:=Lib.hid (ap_vld (ms:=ms) HG.out HLm.out HRun.out hc)
      clear hc
      obtain ⟨q0,q1⟩:wr.cell? ⟨w.heap.size,0,none⟩=some (.slice to tn tc) /\ wr.cell? ⟨w.heap.size,1,none⟩=some (.slice co cn cc):=⟨HI.out.kS.cell rfl,HI.out.kS.cell rfl⟩
      obtain ⟨k0,k1⟩:wr.cell? ⟨b8,0,none⟩=some (.string nn) /\ wr.cell? ⟨b8,1,none⟩=some (.slice ko kn kc):=⟨HI.out.kN.cell rfl,HI.out.kN.cell rfl⟩
      go_wp2_with fail
      refine HVk.out.mono ?_
      rintro e w7 ⟨rfl,hb⟩
      have HI7:=Lib.hid (HI.out.below hb)
      clear hb q0 q1 k0 k1
      by_cases h0:c=0
      ·subst h0
       obtain ⟨k0,k1⟩:w7.cell? ⟨b8,0,none⟩=some (.string nn) /\ w7.cell? ⟨b8,1,none⟩=some (.slice ko kn kc):=⟨HI7.out.kN.cell rfl,HI7.out.kN.cell rfl⟩
       obtain ⟨r0,r1⟩:w7.cell? ⟨w.heap.size + 2,0,none⟩=some (.string ⟨#[]⟩) /\ w7.cell? ⟨w.heap.size + 2,1,none⟩=some (.slice none 0 0):=⟨HI7.out.kR.cell rfl,HI7.out.kR.cell rfl⟩
       have f0:w7.frozen? ⟨w.heap.size + 2,0,none⟩=false:=heap_frozen HI7.out.kR
       have f1:w7.frozen? ⟨w.heap.size + 2,1,none⟩=false:=heap_frozen HI7.out.kR
       have HBe:=Lib.hid (below_set1 (below_set1 HI7.out.low (w.heap.size + 2) 0 (by omega) (.string nn)) (w.heap.size + 2) 1 (by omega) (.slice ko kn kc))
       have HAe:=Lib.hid (atts_res HI7.out.kR HI7.out.at' HI7.out.chk HNo.out (.slice ko kn kc))
       go_wp2_with fail
       refine bodyPost_ret (v := .tuple #[.agg #[.string nn, .slice ko kn kc], .int .i64 0]) (by simp only [results,Tryz.results29]; go_simp) rfl ?_
       exact ApP.yes HE.out (by rw [HRun.out]) HAe.out HBe.out
      ·have d5:(c != 0)=true:=by simpa using h0
       obtain ⟨r0,r1⟩:w7.cell? ⟨w.heap.size + 2,0,none⟩=some (.string ⟨#[]⟩) /\ w7.cell? ⟨w.heap.size + 2,1,none⟩=some (.slice none 0 0):=⟨HI7.out.kR.cell rfl,HI7.out.kR.cell rfl⟩
       have f0:w7.frozen? ⟨w.heap.size + 2,0,none⟩=false:=heap_frozen HI7.out.kR
       have f1:w7.frozen? ⟨w.heap.size + 2,1,none⟩=false:=heap_frozen HI7.out.kR
       have HBe:=Lib.hid (below_set1 (below_set1 HI7.out.low (w.heap.size + 2) 0 (by omega) (.string ⟨#[]⟩)) (w.heap.size + 2) 1 (by omega) (.slice none 0 0))
       go_wp2_with fail
       refine bodyPost_ret (v := .tuple #[.agg #[.string ⟨#[]⟩, .slice none 0 0], .int .i64 c]) (by simp only [results,Tryz.results29]; go_simp) rfl ?_
       exact ApP.no HE.out h0 HBe.out
 ·have d1:(c != 0)=true:=by simpa using h0
  have HE:=Lib.hid (ap_arg (T:=T) (cs:=C) (en:=en) (l:=l) (ms:=ms) (fun k=>h0 (HC.out.symm.trans k.1)))
  clear hb8
  obtain ⟨r0,r1⟩:(w1.alloc (.cells #[.string nn, .slice no n1 nc] 37)).cell? ⟨w.heap.size + 2,0,none⟩=some (.string ⟨#[]⟩) /\ (w1.alloc (.cells #[.string nn, .slice no n1 nc] 37)).cell? ⟨w.heap.size + 2,1,none⟩=some (.slice none 0 0):=⟨HK1.out.2.2.1.cell rfl,HK1.out.2.2.1.cell rfl⟩
  have f0:(w1.alloc (.cells #[.string nn, .slice no n1 nc] 37)).frozen? ⟨w.heap.size + 2,0,none⟩=false:=heap_frozen HK1.out.2.2.1
  have f1:(w1.alloc (.cells #[.string nn, .slice no n1 nc] 37)).frozen? ⟨w.heap.size + 2,1,none⟩=false:=heap_frozen HK1.out.2.2.1
  have HBe:=Lib.hid (below_set1 (below_set1 HB1.out (w.heap.size + 2) 0 (by omega) (.string ⟨#[]⟩)) (w.heap.size + 2) 1 (by omega) (.slice none 0 0))
  go_wp2_with fail
  refine bodyPost_ret (v := .tuple #[.agg #[.string ⟨#[]⟩, .slice none 0 0], .int .i64 2]) (by simp only [results,Tryz.results29]; go_simp) rfl ?_
  exact ApP.no HE.out (by decide) HBe.out
def entW:ByteArray:=⟨#[101,110,116,114,121]⟩
def lineB (wd s:ByteArray):List UInt8:=wd.data.toList ++ 32 :: (escL s.data.toList ++ [10])
def valsB (nm:ByteArray) (vs:List ByteArray):List UInt8:=vs.flatMap (lineB nm)
def attsB (L:List At):List UInt8:=L.flatMap fun a=>valsB a.1 a.2
def entB (en:ByteArray) (l:List At):List UInt8:=lineB entW en ++ attsB (nf l)
def txV (en:ByteArray) (l:List At):ByteArray:=if enC en l=0 then ⟨(entB en l).toArray⟩ else ⟨#[]⟩
theorem valsB_take (nm:ByteArray) (vs:List ByteArray) (k:Nat) (h:k < vs.length):valsB nm (vs.take (k + 1))=valsB nm (vs.take k) ++ lineB nm (partAt vs k):=by
 unfold valsB
 rw [take_snoc vs k h,List.flatMap_append]; simp
theorem attsB_take (L:List At) (k:Nat) (h:k < L.length):attsB (L.take (k + 1))=attsB (L.take k) ++ valsB (atD L k).1 (atD L k).2:=by
 unfold attsB
 rw [at_take L k h,List.flatMap_append]; simp
theorem lineB_le (wd s:ByteArray):(lineB wd s).length <= wd.size + 3 * s.size + 2:=by
 unfold lineB
 have:=escL_length s.data.toList
 have h1:s.data.toList.length=s.size:=str_len s
 have h2:wd.data.toList.length=wd.size:=str_len wd
 rw [List.length_append,List.length_cons,List.length_append,List.length_cons,List.length_nil]
 omega
theorem valsB_le {nm:ByteArray} (hn:nm.size <= 300):∀ {vs:List ByteArray},(∀ v ∈ vs,v.size <= 300) -> (valsB nm vs).length <= vs.length * 2000
 | [],_=>Nat.zero_le _
 | v :: vs,h=>by
  have ih:=valsB_le hn (vs:=vs) fun x hx=>h x (List.mem_cons_of_mem _ hx)
  have h1:=lineB_le nm v
  have h2:=h v List.mem_cons_self
  unfold valsB at ih ⊢
  rw [List.flatMap_cons,List.length_append,List.length_cons]
  omega
theorem attsB_le:∀ {L:List At},(∀ a ∈ L,AtS a) -> (attsB L).length <= L.length * 40000
 | [],_=>Nat.zero_le _
 | a :: L,h=>by
  have ih:=attsB_le (L:=L) fun x hx=>h x (List.mem_cons_of_mem _ hx)
  have ha:=h a List.mem_cons_self
  have h1:=valsB_le ha.nm ha.each
  have h2:=ha.len
  unfold attsB at ih ⊢
  rw [List.flatMap_cons,List.length_append,List.length_cons]
  omega
set_option maxHeartbeats 4000000 in
theorem line_s (wd s:ByteArray) (w:World) (hw:wd.size <= 1100000) (hs:s.size <= 1100000) :
  Calls Tryz.prog 96 #[.string wd, .string s] w fun e w'=>e = .returned (.string ⟨(lineB wd s).toArray⟩) /\ Below w.heap.size w w':=by
 have HE:=Lib.hid (escape_any s w (by omega))
 have hl:=escL_length s.data.toList
 rw [str_len] at hl
 obtain ⟨es,hes⟩:∃ es:ByteArray,(⟨(escL s.data.toList).toArray⟩:ByteArray)=es:=⟨_,rfl⟩
 have hsz:es.size <= 3400000:=by rw [<- hes,Lib.size_mk]; omega
 have HR:=Lib.hid (show (⟨(lineB wd s).toArray⟩:ByteArray)=wd ++ ⟨#[32]⟩ ++ es ++ ⟨#[10]⟩ by
  rw [<- hes]
  apply ba_ext
  unfold lineB
  simp [ByteArray.data_append])
 rw [hes] at HE
 clear hes hl
 rw [HR.out]
 go_enter Tryz.func96,Tryz.ntmps96
 go_wp2_with fail
 refine HE.out.mono ?_
 rintro e w1 ⟨rfl,hb⟩
 go_wp2_with fail
 go_ret
 exact ⟨rfl,hb⟩
def EKeep (w w':World):Prop := ∀ (X:Nat) (cs:Array Value) (t:TypeId) (m:Nat × Nat),(t=58 ∨ t=9) -> w.heap[X]? = some (.cells cs t m) -> w'.heap[X]? = w.heap[X]?
theorem EKeep.refl (w:World):EKeep w w:=fun _ _ _ _ _ _=>rfl
theorem EKeep.trans {a b c:World} (h:EKeep a b) (k:EKeep b c):EKeep a c:=fun X cs t m ht e=>by
 have h1:=h X cs t m ht e
 rw [k X cs t m ht (by rw [h1]; exact e),h1]
theorem EKeep.below {w w':World} (h:Below w.heap.size w w'):EKeep w w':=fun X cs t m ht e=>by
 refine h.block X ?_
 rcases Nat.lt_or_ge X w.heap.size with h' | h'
 ·exact h'
 ·simp [Array.getElem?_eq_none h'] at e
theorem EKeep.setCell {w wx:World} (h:EKeep w wx) {b:Nat} {cs:Array Value} {m:Nat × Nat} (hb:wx.heap[b]? = some (.cells cs 79 m)) (j:Nat) (v:Value):EKeep w (wx.setCell ⟨b,j,none⟩ v):=fun X cs2 t m2 ht e=>by
 have h1:=h X cs2 t m2 ht e
 have hne:X ≠ b:=fun e2=>by
  rw [e2] at h1 e
  rw [h1,e] at hb
  have:=Option.some.inj hb
  have h3:t=79:=by injection this
  rcases ht with ht | ht <;> rw [ht] at h3 <;> exact absurd h3 (by decide)
 rw [Below.heap_setCell _ _ _ _ hne,h1]
theorem EKeep.grown {w wx w':World} (h:EKeep w wx) {v:Value} {B n:Nat} {xs:List Value} (hown:wx.ownsRow B 5 1 v n xs) (hg:wx.grownBy w' v.ownBlock):EKeep w w':=fun X cs t m ht e=>by
 have h1:=h X cs t m ht e
 have h2:wx.heap[X]? = some (.cells cs t m):=by rw [h1]; exact e
 have hlt:X < wx.heap.size:=by
  rcases Nat.lt_or_ge X wx.heap.size with h' | h'
  ·exact h'
  ·simp [Array.getElem?_eq_none h'] at h2
 have hne:v.ownBlock ≠ some X:=by
  rcases ht with ht | ht <;> subst ht
  ·exact Lib.ownBlock_ne hown h2 (by decide)
  ·exact Lib.ownBlock_ne hown h2 (by decide)
 rw [hg.block X hlt (fun e2=>hne e2.symm),h1]
theorem check_any_e (B b:Nat) (bs:List Value) (w:World) (h:Lib.IsBuilder 79 5 B b bs w) :
  Calls Tryz.prog 115 #[.pointer (some ⟨b,0,none⟩)] w fun e w'=>e = .returned (.tuple #[]) /\ (Lib.BuilderAt 79 5 B b (.pointer (some ⟨b,0,none⟩)) bs w' /\ Below B w w') /\ EKeep w w':=by
 rcases h with h | h
 ·refine (check_fresh b w h.cell0 h.shape h.frozen0).mono ?_
  rintro e w' ⟨rfl,rfl⟩
  refine ⟨rfl,⟨h.used _,(Below.refl B w).setCell (p:=⟨b,0,none⟩) h.1 _⟩, ?_⟩
  obtain ⟨hB,v,hbk,_⟩:=h
  exact (EKeep.refl w).setCell hbk 0 _
 ·refine (check_used b w h.cell0).mono ?_
  rintro e w' ⟨rfl,rfl⟩
  exact ⟨rfl,⟨h,Below.refl B _⟩,EKeep.refl _⟩
set_option maxHeartbeats 2000000 in
set_option maxRecDepth 100000 in
theorem writeString_ek (B b:Nat) (bs:List Value) (s:ByteArray) (w:World) (h:Lib.IsBuilder 79 5 B b bs w) (hlen:bs.length + s.size <= 140737488355328) (hBw:B <= w.heap.size) :
  Calls Tryz.prog 55 #[.pointer (some ⟨b,0,none⟩), .string s] w fun e w'=>e = .returned (.tuple #[.int .i64 s.size, .nilIface]) /\ (Lib.BuilderAt 79 5 B b (.pointer (some ⟨b,0,none⟩)) (bs ++ Lib.strCells s) w' /\ Below B w w') /\ EKeep w w':=by
 obtain ⟨i0,hi,hz0,hz1,hz2⟩:=info_parts info5
 go_enter Tryz.func55,Tryz.ntmps55
 go_wp2_with (go_at_call 115; refine (check_any_e B b bs _ h).mono ?_)
 rintro e w1 ⟨rfl,⟨h1,hb1⟩,hk1⟩
 obtain ⟨hB,v,hbk,hown,hne⟩:=h1
 have c1:w1.cell? ⟨b,1,none⟩=some v:=by rw [Lib.cell_of_heap hbk]; rfl
 have HZ:=hb1.size
 have hlt:b < w1.heap.size:=by
  rcases Nat.lt_or_ge b w1.heap.size with h' | h'
  ·exact h'
  ·simp [Array.getElem?_eq_none h'] at hbk
 go_wp2_with (at_builtin; refine Lib.wpList_append_own_string w1 ?_ (.tmp 12) (.tmp 13) 77 9 ?_ B 5 i0 Tryz.underlying77 Tryz.underlying9 hi hz0 hz1 hz2 v bs.length bs ?_ hown s ?_ ?_ ?_ ?_ ?_; exact rfl; exact rfl; exact rfl; exact rfl; (unfold maxLen; omega); omega; omega)
 intro v' w2 hown' hgrow hnil
 have hk2:EKeep w w2:=hk1.grown hown hgrow
 have hb2:w2.heap[b]? = some (.cells #[.pointer (some ⟨b,0,none⟩),v] 79 (0,0)):=by
  rw [hgrow.block b hlt (fun e=>hne e.symm)]
  exact hbk
 have d1:w2.cell? ⟨b,1,none⟩=some v:=by rw [Lib.cell_of_heap hb2]; rfl
 have f1:w2.frozen? ⟨b,1,none⟩=false:=Lib.frozen_of_heap hb2 1
 have hlen':(bs ++ Lib.strCells s).length=bs.length + s.size:=by simp [Lib.strCells_length]
 have hbel:Below B w w2:=hb1.grown hgrow (by omega) (fun k hk=>(hown.lt k hk).1)
 have hcase:v' = .slice none 0 0 ∨ ∃ g n cap,v' = .slice (some ⟨g,0,none⟩) n cap:=by
  rcases hown'.2 with ⟨h,h0⟩ | ⟨g,cap,cur,hv,_⟩
  ·exact .inl h
  ·exact .inr ⟨g,_,cap,hv⟩
 rcases hcase with rfl | ⟨g,n,cap,rfl⟩
 ·go_wp2
  go_ret2
  refine ⟨rfl,⟨?_,hbel.setCell (p:=⟨b,1,none⟩) hB _⟩,hk2.setCell hb2 1 _⟩
  exact Lib.BuilderAt.put (T:=79) (e:=5) hB hb2 (bs':=bs ++ Lib.strCells s) (by rw [hlen']; exact hown') (by decide)
 ·go_wp2
  go_ret2
  refine ⟨rfl,⟨?_,hbel.setCell (p:=⟨b,1,none⟩) hB _⟩,hk2.setCell hb2 1 _⟩
  exact Lib.BuilderAt.put (T:=79) (e:=5) hB hb2 (bs':=bs ++ Lib.strCells s) (by rw [hlen']; exact hown') (by decide)
theorem writeString_e (B b:Nat) (l:List UInt8) (s:ByteArray) (w:World) (h:Bld B b l w) (hlen:l.length + s.size <= 100000000000) (hBw:B <= w.heap.size) :
  Calls Tryz.prog 55 #[.pointer (some ⟨b,0,none⟩), .string s] w fun e w'=>e = .returned (.tuple #[.int .i64 s.size, .nilIface]) /\ Bld B b (l ++ s.data.toList) w' /\ Below B w w' /\ EKeep w w':=by
 refine (writeString_ek B b (bcells l) s w h (by rw [bcells_length]; omega) hBw).mono fun e w' h=>⟨h.1, ?_,h.2.1.2,h.2.2⟩
 unfold Bld
 rw [bcells_append, <- strCells_b]
 exact .inr h.2.1.1
theorem EKeep.row {w w':World} {base size n:Nat} {e:TypeId} {v:Value} {xs:List Value} (k:EKeep w w') (he:e=58 ∨ e=9) (h:w.ownsRow base e size v n xs):w'.ownsRow base e size v n xs:=by
 refine ⟨h.1, ?_⟩
 rcases h.2 with q | ⟨g,cap,cur,e1,h2,h3,h4⟩
 ·exact .inl q
 ·exact .inr ⟨g,cap,cur,e1,h2,(k g _ _ _ he h3).trans h3,h4⟩
theorem EKeep.own {w w':World} {base:Nat} {v:Value} {T:List Tr} (k:EKeep w w') (h:TOwn w base v T):TOwn w' base v T:=fun t ht=>⟨k.row (.inr rfl) (h t ht).1,(h t ht).2⟩
structure TxI (w W0:World) (b base:Nat) (v:Value) (U:List Tr) (t:List UInt8) (wr:World):Prop where
 bld:Bld b b t wr
 row:wr.ownsRow base 58 2 v U.length (tcells U)
 own:TOwn wr base v U
 low:Below b W0 wr
 big:b < wr.heap.size
theorem TxI.below {w W0 wr V:World} {b base:Nat} {v:Value} {U:List Tr} {t:List UInt8} (h:TxI w W0 b base v U t wr) (hb:Below wr.heap.size wr V):TxI w W0 b base v U t V:=
 ⟨h.bld.below hb,own_below h.row hb,h.own.below hb,h.low.trans (hb.mono (Nat.le_of_lt h.big)),Nat.lt_of_lt_of_le h.big hb.size⟩
theorem TxI.wrote {w W0 wr V:World} {b base:Nat} {v:Value} {U:List Tr} {t t':List UInt8} (h:TxI w W0 b base v U t wr) (hB:Bld b b t' V) (hb:Below b wr V) (k:EKeep wr V):TxI w W0 b base v U t' V:=
 ⟨hB,k.row (.inl rfl) h.row,k.own h.own,h.low.trans hb,Nat.lt_of_lt_of_le h.big hb.size⟩
set_option maxHeartbeats 16000000 in
theorem text_s (en:ByteArray) (ao:Option Addr) (n cap:Nat) (l:List At) (w:World) (hen:en.size <= 1100000) (ha:AttrsAt w ao n cap l) (hS:SmallA l) (hF:FewV l) :
  Calls Tryz.prog 36 #[.agg #[.string en, .slice ao n cap]] w fun e w'=>e = .returned (.tuple #[.string (txV en l), .int .i64 (enC en l)]) /\ Below w.heap.size w w':=by
 have HA:=Lib.hid ha; clear ha
 have hb0:=below_al w (.cells #[.string en, .slice ao n cap] 37)
 have HK:=Lib.hid (kbl_new w (.cells #[.string en, .slice ao n cap] 37))
 have HCk:=Lib.hid (enCheck_s en ao n cap l _ hen (HA.out.below hb0) hS hF)
 have HB0:=Lib.hid hb0
 obtain ⟨c,hc⟩:∃ c,enC en l=c:=⟨_,rfl⟩
 rw [hc] at HCk ⊢
 have HC:=Lib.hid hc
 obtain ⟨e0,e1⟩:(w.alloc (.cells #[.string en, .slice ao n cap] 37)).cell? ⟨w.heap.size,0,none⟩=some (.string en) /\ (w.alloc (.cells #[.string en, .slice ao n cap] 37)).cell? ⟨w.heap.size,1,none⟩=some (.slice ao n cap):=⟨HK.out.cell rfl,HK.out.cell rfl⟩
 clear hb0 hc
 go_enter Tryz.func36,Tryz.ntmps36
 go_wp2_with fail
 refine HCk.out.mono ?_
 rintro e w1 ⟨rfl,hb⟩
 have HB1:=Lib.hid (HB0.out.trans (hb.mono HB0.out.size))
 have HK1:=Lib.hid (HK.out.step hb)
 clear hb e0 e1 HCk HB0
 by_cases h0:c=0
 ·subst h0
  have HLt:=Lib.hid (show chkA l=0 from by
   have h:=HC.out
   unfold enC at h
   split at h
   ·cases h
   ·exact h)
  have HLi:=Lib.hid (chk_light HLt.out)
  have hbl:=below_al w1 (.cells #[.pointer none, .slice none 0 0] 79)
  have HBd:=Lib.hid (bld_new w1)
  have HK2:=Lib.hid (HK1.out.step hbl)
  have HB2:=Lib.hid (HB1.out.trans (hbl.mono HB1.out.size))
  have hs2:w1.heap.size < (w1.alloc (.cells #[.pointer none, .slice none 0 0] 79)).heap.size:=by simp
  have HLn:=Lib.hid (line_s entW en (w1.alloc (.cells #[.pointer none, .slice none 0 0] 79)) (by decide) hen)
  have hll:=lineB_le entW en
  have hew:entW.size=5:=by decide
  have HRw:=Lib.hid (show entW=⟨#[101,110,116,114,121]⟩ from rfl)
  rw [HRw.out] at HLn
  obtain ⟨e0,e1⟩:(w1.alloc (.cells #[.pointer none, .slice none 0 0] 79)).cell? ⟨w.heap.size,0,none⟩=some (.string en) /\ (w1.alloc (.cells #[.pointer none, .slice none 0 0] 79)).cell? ⟨w.heap.size,1,none⟩=some (.slice ao n cap):=⟨HK2.out.cell rfl,HK2.out.cell rfl⟩
  clear hbl
  go_wp2_with fail
  refine HLn.out.mono ?_
  rintro e w2 ⟨rfl,hb⟩
  have HBd2:=Lib.hid (HBd.out.below hb)
  have HK3:=Lib.hid (HK2.out.step hb)
  have HB3:=Lib.hid (HB2.out.trans (hb.mono HB2.out.size))
  have hlow2:Below w1.heap.size w1 w2:=(below_al w1 _).trans (hb.mono (Nat.le_of_lt hs2))
  have hs3:w1.heap.size < w2.heap.size:=Nat.lt_of_lt_of_le hs2 hb.size
  obtain ⟨ln,hln⟩:∃ s:ByteArray,(⟨(lineB ⟨#[101,110,116,114,121]⟩ en).toArray⟩:ByteArray)=s:=⟨_,rfl⟩
  have hlz:ln.size <= 4000000:=by ((rw [<- hln,Lib.size_mk]; have:=lineB_le ⟨#[101,110,116,114,121]⟩ en; have h5:(⟨#[101,110,116,114,121]⟩:ByteArray).size=5:=by decide); omega)
  have HLn2:=Lib.hid (show ln.data.toList=lineB entW en by rw [<- hln,HRw.out])
  rw [hln]
  clear hb e0 e1 HLn hll hew hln
  go_wp2_with fail
  refine (writeString_e w1.heap.size w1.heap.size [] ln w2 HBd2.out (by simp; omega) (Nat.le_of_lt hs3)).mono ?_
  rintro e w3 ⟨rfl,hbd,hb,hke⟩
  have HBd3:=Lib.hid (show Bld w1.heap.size w1.heap.size (lineB entW en) w3 by rw [<- HLn2.out]; simpa using hbd)
  have HK4:=Lib.hid (show Kb w3 w.heap.size (.cells #[.string en, .slice ao n cap] 37) from (hb.block _ HK1.out.big).trans HK3.out)
  have HB4:=Lib.hid (HB3.out.trans (hb.mono HB1.out.size))
  have hs4:w1.heap.size < w3.heap.size:=Nat.lt_of_lt_of_le hs3 hb.size
  have HL4:=Lib.hid (show Below w1.heap.size w1 w3 from hlow2.trans hb)
  obtain ⟨e0,e1⟩:w3.cell? ⟨w.heap.size,0,none⟩=some (.string en) /\ w3.cell? ⟨w.heap.size,1,none⟩=some (.slice ao n cap):=⟨HK4.out.cell rfl,HK4.out.cell rfl⟩
  have HSo:=Lib.hid (sorted_s ao n cap l w3 (HA.out.below HB4.out) HLi.out.few)
  clear hb hbd hke hlow2
  go_wp2_with fail
  refine HSo.out.mono ?_
  rintro e w4 ⟨v,U,rfl,hU,hO,_,hrow,hb⟩
  obtain ⟨so,sc,rfl⟩:=row_slice hrow
  have HI:=Lib.hid (show TxI w w1 w1.heap.size w3.heap.size (.slice so U.length sc) U (lineB entW en) w4 from
   ⟨HBd3.out.below hb,hrow,hO,HL4.out.trans (hb.mono (Nat.le_of_lt hs4)),Nat.lt_of_lt_of_le hs4 hb.size⟩)
  have HU:=Lib.hid hU
  have HAl:=Lib.hid (chk_light (nf_chk HLt.out))
  obtain ⟨m,hm⟩:∃ m,U.length=m:=⟨_,rfl⟩
  have hrl:(nf l).length=m:=by rw [<- hm, <- hU,tats_len]
  have hm40:m <= 40:=by have:=HAl.out.len; omega
  have HM:=Lib.hid (And.intro hm hrl)
  obtain ⟨b1,hb1⟩:∃ x,w1.heap.size=x:=⟨_,rfl⟩
  have hws:w.heap.size <= w1.heap.size:=HB1.out.size
  have HX1:=Lib.hid HB1.out
  rw [hm] at HI ⊢
  rw [hb1] at HI
  clear hb hU hO hrow HSo e0 e1 hm hrl HL4 HB4 HK4 HBd3
  have hz0:((lineB entW en).length) <= 4000000:=by rw [<- HLn2.out,str_len]; exact hlz
  go_wp2_with fail
  go_loopw [7,9,23,30] (fun _ _ s23 _ wr=>∃ (i:Nat),i <= m /\ s23 = .int .i64 i /\ Hid (TxI w w1 b1 w3.heap.size (.slice so m sc) U (lineB entW en ++ attsB ((nf l).take i)) wr)) (fun _ _ s23 _ _=>m - (intOf s23).toNat)
  case atStart=>exact ⟨0,Nat.zero_le _,rfl,by simpa [attsB] using HI⟩
  case round =>
   clear HI
   obtain ⟨i,hi,rfl,HI⟩:=hrel
   have hbig:=HI.out.big
   by_cases hlt:i < m
   ·have d1:(i:Int) < (m:Int):=by omega
    obtain ⟨g,rfl⟩:∃ g,so=some ⟨g,0,none⟩:=by
     have hr:=HI.out.row
     rw [HM.out.1] at hr
     rcases hr.2 with ⟨e,_⟩ | ⟨g,cp,cur,e,_⟩
     ·simp only [Value.slice.injEq] at e
      omega
     ·simp only [Value.slice.injEq] at e
      exact ⟨g,e.1⟩
    have hiU:i < U.length:=by rw [HM.out.1]; exact hlt
    obtain ⟨s1,s2⟩:(U.getD i default).1=(atD (nf l) i).1 /\ (U.getD i default).2.2=(atD (nf l) i).2:=by
     have:=tats_at hiU; rw [HU.out] at this; rw [this]; exact ⟨rfl,rfl⟩
    have hmem:U.getD i default ∈ U:=by
     rw [List.getD_eq_getElem?_getD,List.getElem?_eq_getElem hiU]; exact List.getElem_mem _
    have hOwn:∃ vo vc,(U.getD i default).2.1 = .slice vo (atD (nf l) i).2.length vc /\ ∀ V,TxI w w1 b1 w3.heap.size (.slice (some ⟨g,0,none⟩) m sc) U (lineB entW en ++ attsB ((nf l).take i)) V ∨ True -> TOwn V w3.heap.size (.slice (some ⟨g,0,none⟩) m sc) U -> StrsAt V vo (atD (nf l) i).2.length vc (atD (nf l) i).2:=by
     obtain ⟨vo,vc,e,_⟩:=strs_own (HI.out.own _ hmem).1 rfl
     rw [s2] at e
     refine ⟨vo,vc,e,fun V _ hV => ?_⟩
     obtain ⟨vo',vc',e',hst'⟩:=strs_own (hV _ hmem).1 rfl
     rw [s2] at e' hst'
     rw [e] at e'
     simp only [Value.slice.injEq] at e'
     obtain ⟨rfl,_,rfl⟩:=e'
     exact hst'
    obtain ⟨vo,vc,ev,hst⟩:=hOwn
    obtain ⟨t1,t2⟩:=etc_at hiU
    have c1:=HI.out.row.cells (g:=g) rfl _ _ t1
    have c2:=HI.out.row.cells (g:=g) rfl _ _ t2
    rw [Go.WideShapes.add_plain,Nat.zero_add] at c1 c2
    rw [s1] at c1
    rw [ev] at c2
    have hTk:=attsB_take (nf l) i (by rw [HM.out.2]; exact hlt)
    have hAt:=HAl.out.each (atD (nf l) i) (by rw [at_get (nf l) i (by rw [HM.out.2]; exact hlt)]; exact List.getElem_mem _)
    have hpre:=attsB_le (L:=(nf l).take i) (fun a h=>HAl.out.each a (List.mem_of_mem_take h))
    rw [List.length_take] at hpre
    have hpre2:(attsB ((nf l).take i)).length <= 1600000:=by ((have:min i (nf l).length <= 40:=by omega); omega)
    obtain ⟨pre,hpr⟩:∃ x,lineB entW en ++ attsB ((nf l).take i)=x:=⟨_,rfl⟩
    have hprl:pre.length <= 5600000:=by rw [<- hpr,List.length_append]; omega
    obtain ⟨nm,hnm⟩:∃ x,(atD (nf l) i).1=x:=⟨_,rfl⟩
    obtain ⟨vs,hvs⟩:∃ x,(atD (nf l) i).2=x:=⟨_,rfl⟩
    have hA1:=hAt.nm
    have hA2:=hAt.len
    have hA3:=hAt.each
    rw [hnm,hvs] at hTk
    rw [hnm] at c1 hA1
    rw [hvs] at c2 hst hA2 hA3
    have HA3:=Lib.hid hA3
    obtain ⟨vn,hvn⟩:∃ x,vs.length=x:=⟨_,rfl⟩
    rw [hvn] at c2 hst hA2
    have HVn:=Lib.hid hvn
    have HSt:=Lib.hid hst
    have HTk:=Lib.hid (show lineB entW en ++ attsB ((nf l).take (i + 1))=pre ++ valsB nm vs by rw [hTk, <- List.append_assoc,hpr])
    rw [hpr] at HI
    have hbl:=below_al wr (.cells #[.string nm, .slice vo vn vc] 58)
    have HI4:=Lib.hid (HI.out.below hbl)
    have HKb:=Lib.hid (kbl_new wr (.cells #[.string nm, .slice vo vn vc] 58))
    clear hnm hvs hAt hA3 hvn hst hTk hpre hpre2 hpr hbl s1 s2 hmem hiU t1 t2 ev
    go_wp2_with fail
    obtain ⟨g7,hg7⟩:∃ x,wr.heap.size=x:=⟨_,rfl⟩
    rw [hg7] at HKb ⊢
    go_loopw [9,30] (fun _ s30 wx=>∃ (k:Nat),k <= vn /\ s30 = .int .i64 k /\ Hid (TxI w w1 b1 w3.heap.size (.slice (some ⟨g,0,none⟩) m sc) U (pre ++ valsB nm (vs.take k)) wx) /\ Hid (Kb wx g7 (.cells #[.string nm, .slice vo vn vc] 58))) (fun _ s30 _=>vn - (intOf s30).toNat)
    case atStart=>exact ⟨0,Nat.zero_le _,rfl,by simpa [valsB] using HI4,HKb⟩
    case round =>
     clear HI4 HKb c1 c2 hg7
     obtain ⟨k,hk,rfl,HIk,HKk⟩:=hrel
     have hbigk:=HIk.out.big
     by_cases hkl:k < vn
     ·have d2:(k:Int) < (vn:Int):=by omega
      have hst:=HSt.out wr (.inr trivial) HIk.out.own
      obtain ⟨vb,voff,rfl,hvb,hvs⟩:=hst.2.2.2 (by omega)
      have hvc:=hvs k (by rw [HVn.out]; exact hkl)
      have hvz:=HA3.out _ (part_mem vs k (by rw [HVn.out]; exact hkl))
      have HTv:=Lib.hid (valsB_take nm vs k (by rw [HVn.out]; exact hkl))
      have hpv:=valsB_le hA1 (vs:=vs.take k) (fun x h=>HA3.out x (List.mem_of_mem_take h))
      rw [List.length_take] at hpv
      have hpv2:(pre ++ valsB nm (vs.take k)).length <= 6000000:=by ((rw [List.length_append]; have:min k vs.length <= 20:=by omega); omega)
      obtain ⟨s,hs⟩:∃ x,partAt vs k=x:=⟨_,rfl⟩
      rw [hs] at hvc hvz HTv
      clear hs hvs hst hpv
      have k0:=HKk.out.cell (i:=0) rfl
      have k1:=HKk.out.cell (i:=1) rfl
      have HLs:=Lib.hid (line_s nm s wr (by omega) (by omega))
      obtain ⟨q,hq⟩:∃ x,pre ++ valsB nm (vs.take k)=x:=⟨_,rfl⟩
      have HQ:=Lib.hid hq
      rw [hq] at HIk hpv2
      obtain ⟨ls,hls⟩:∃ x:ByteArray,(⟨(lineB nm s).toArray⟩:ByteArray)=x:=⟨_,rfl⟩
      have hlz2:ls.size <= 4000000:=by rw [<- hls,Lib.size_mk]; have:=lineB_le nm s; omega
      have HLq:=Lib.hid (show q ++ ls.data.toList=pre ++ valsB nm (vs.take (k + 1)) by rw [HTv.out, <- hq, <- hls,List.append_assoc])
      rw [hls] at HLs
      clear hq hls
      go_wp2_with fail
      refine HLs.out.mono ?_
      rintro e w5 ⟨rfl,hb⟩
      have HI5:=Lib.hid (HIk.out.below hb)
      have HK5:=Lib.hid (HKk.out.step hb)
      clear hb k0 k1 hvc
      go_wp2_with fail
      refine (writeString_e b1 b1 q ls w5 HI5.out.bld (by omega) (Nat.le_of_lt HI5.out.big)).mono ?_
      rintro e w6 ⟨rfl,hbd,hb,hke⟩
      have HI6:=Lib.hid (HI5.out.wrote hbd hb hke)
      have HK6:=Lib.hid (show Kb w6 g7 (.cells #[.string nm, .slice (some ⟨vb,voff,none⟩) vn vc] 58) from (hke g7 _ _ _ (.inl rfl) HK5.out).trans HK5.out)
      clear hbd hb hke
      go_wp2_with fail
      go_roundw
      case rel=>exact ⟨k + 1,by omega,by go_num,by rw [<- HLq.out]; exact HI6,HK6⟩
      case measure=>simp [intOf]; omega
     ·obtain rfl:k=vn:=by omega
      have d2:¬ (k:Int) < (k:Int):=by omega
      have HI7:=Lib.hid (show TxI w w1 b1 w3.heap.size (.slice (some ⟨g,0,none⟩) m sc) U (lineB entW en ++ attsB ((nf l).take (i + 1))) wr by
       have h:=HIk.out
       rw [show vs.take k=vs by rw [<- HVn.out]; exact List.take_length] at h
       rw [HTk.out]; exact h)
      go_wp2_with fail
      go_roundw
      case rel=>exact ⟨i + 1,by omega,by go_num,HI7⟩
      case measure=>simp [intOf]; omega
   ·obtain rfl:i=m:=by omega
    have d1:¬ (i:Int) < (i:Int):=by omega
    have HTx:=Lib.hid (show lineB entW en ++ attsB ((nf l).take i)=entB en l by rw [<- HM.out.2,List.take_length]; rfl)
    have HTv:=Lib.hid (show txV en l=⟨(entB en l).toArray⟩ from if_pos HC.out)
    rw [HTx.out] at HI
    go_wp2_with fail
    refine (string_s b1 b1 (entB en l) wr HI.out.bld (Nat.le_of_lt HI.out.big)).mono ?_
    rintro e w9 ⟨rfl,hb⟩
    have HBe:=Lib.hid (show Below w.heap.size w w9 from HX1.out.trans ((HI.out.low.trans hb).mono (by omega)))
    clear hb
    go_wp2_with fail
    go_ret2
    exact ⟨by rw [HTv.out]; rfl,HBe.out⟩
 ·have d1:(c != 0)=true:=by simpa using h0
  have HE:=Lib.hid (show txV en l=⟨#[]⟩ from if_neg (by rw [HC.out]; exact h0))
  go_wp2_with fail
  go_ret2
  exact ⟨by rw [HE.out]; rfl,HB1.out⟩
end Go.Proofs.YtmmdaegdkikkpaaGreatDoor
end
