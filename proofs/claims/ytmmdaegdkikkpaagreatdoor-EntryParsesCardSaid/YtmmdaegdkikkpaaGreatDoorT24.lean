/-
  Texts of the schema layer and of those beneath it, joined: EntTxR, SchCuR, EntCu, EntPrR. Conditions stand at each contract.
-/
import Derived.Test.YtmmdaegdkikkpaaGreatDoorT23
set_option linter.unusedVariables false
set_option linter.unusedSimpArgs false
set_option linter.unnecessarySimpa false

section
set_option maxRecDepth 100000
namespace Go.Proofs.YtmmdaegdkikkpaaGreatDoor
open Go.RowKit Go.PlainAid
theorem ln_add (o nm s es:ByteArray) (h:es.data.toList=escL s.data.toList):(o ++ nm ++ ⟨#[32]⟩ ++ es ++ ⟨#[10]⟩).data.toList=o.data.toList ++ lineB nm s:=by
 simp [app_list,h,lineB]
theorem ln_ent (s es:ByteArray) (h:es.data.toList=escL s.data.toList):((⟨#[101,110,116,114,121,32]⟩:ByteArray) ++ es ++ ⟨#[10]⟩).data.toList=lineB entW s:=by
 simp [app_list,h,lineB,entW]
set_option maxHeartbeats 16000000 in
theorem rtext_s (en:ByteArray) (ao:Option Addr) (n cap:Nat) (l:List At) (w:World) (hen:en.size <= 1100000) (ha:AttrsAt w ao n cap l) (hS:SmallA l) :
  Calls Tryz.prog 37 #[.agg #[.string en, .slice ao n cap]] w fun e w'=>e = .returned (.tuple #[.string (txV en l), .int .i64 (enC en l)]) /\ Below w.heap.size w w':=by
 have HA:=Lib.hid ha; clear ha
 have hb0:=below_al w (.cells #[.string en, .slice ao n cap] 37)
 have HK:=Lib.hid (kbl_new w (.cells #[.string en, .slice ao n cap] 37))
 have HCk:=Lib.hid (rEnCheck_s en ao n cap l _ hen (HA.out.below hb0) hS)
 have HB0:=Lib.hid hb0
 obtain ⟨c,hc⟩:∃ c,enC en l=c:=⟨_,rfl⟩
 rw [hc] at HCk ⊢
 have HC:=Lib.hid hc
 obtain ⟨e0,e1⟩:(w.alloc (.cells #[.string en, .slice ao n cap] 37)).cell? ⟨w.heap.size,0,none⟩=some (.string en) /\ (w.alloc (.cells #[.string en, .slice ao n cap] 37)).cell? ⟨w.heap.size,1,none⟩=some (.slice ao n cap):=⟨HK.out.cell rfl,HK.out.cell rfl⟩
 clear hb0 hc
 go_enter Tryz.func37,Tryz.ntmps37
 go_wp2_with fail
 refine HCk.out.mono ?_
 rintro e w1 ⟨rfl,hb⟩
 have HB1:=Lib.hid (HB0.out.trans (hb.mono HB0.out.size))
 have HK1:=Lib.hid (HK.out.step hb)
 clear hb e0 e1 HCk HB0
 by_cases h0:c=0
 ·subst h0
  have HLt:=Lib.hid (enC_chk HC.out)
  have HLi:=Lib.hid (chk_light HLt.out)
  have HAl:=Lib.hid (chk_light (nf_chk HLt.out))
  have hn40:n <= 40:=by have h:=HLi.out.len; rw [HA.out.1] at h; exact h
  obtain ⟨e0,e1⟩:w1.cell? ⟨w.heap.size,0,none⟩=some (.string en) /\ w1.cell? ⟨w.heap.size,1,none⟩=some (.slice ao n cap):=⟨HK1.out.cell rfl,HK1.out.cell rfl⟩
  have HE:=Lib.hid (rescape_any en w1 (by omega))
  have hl:=escL_length en.data.toList
  rw [str_len] at hl
  obtain ⟨es,hes⟩:∃ es:ByteArray,(⟨(escL en.data.toList).toArray⟩:ByteArray)=es:=⟨_,rfl⟩
  have hsz:es.size <= 3400000:=by rw [<- hes,Lib.size_mk]; omega
  rw [hes] at HE
  have HS0:=Lib.hid (ln_ent en es (by rw [<- hes]))
  clear hes hl
  go_wp2_with fail
  refine HE.out.mono ?_
  rintro e w2 ⟨rfl,hb⟩
  have HB2:=Lib.hid (HB1.out.trans (hb.mono HB1.out.size))
  have HK2:=Lib.hid (HK1.out.step hb)
  clear hb e0 e1 HE HB1
  obtain ⟨e0,e1⟩:w2.cell? ⟨w.heap.size,0,none⟩=some (.string en) /\ w2.cell? ⟨w.heap.size,1,none⟩=some (.slice ao n cap):=⟨HK2.out.cell rfl,HK2.out.cell rfl⟩
  have HSo:=Lib.hid (rsorted_s ao n cap l w2 (HA.out.below HB2.out) HLi.out.small HLi.out.few.vals (by omega))
  obtain ⟨o1,ho1⟩:∃ x:ByteArray,(⟨#[101,110,116,114,121,32]⟩:ByteArray) ++ es ++ ⟨#[10]⟩=x:=⟨_,rfl⟩
  go_wp2_with fail
  rw [ho1] at HS0
  clear ho1
  refine HSo.out.mono ?_
  rintro e w3 ⟨v5,T5,rfl,hT5,hO5,hR5,hb5⟩
  obtain ⟨xo,xc,rfl⟩:=row_slice hR5
  have HX:=Lib.hid (show SoA w.heap.size (.slice xo T5.length xc) T5 (nf l) w3 from ⟨row_lower hR5 HB2.out.size,hO5.mono HB2.out.size,hT5⟩)
  have HB3:=Lib.hid (HB2.out.trans (hb5.mono HB2.out.size))
  have hXl:T5.length=(nf l).length:=by rw [<- hT5,tats_len]
  obtain ⟨m,hm⟩:∃ x,(nf l).length=x:=⟨_,rfl⟩
  rw [hXl,hm] at HX ⊢
  have HM:=Lib.hid hm
  have hm40:m <= 40:=by rw [<- hm]; exact HAl.out.len
  have HQ0:=Lib.hid (show ∀ j,(lineB entW en ++ attsB ((nf l).take j)).length <= 5100000 from fun j=>by
   have h1:=attsB_le (L:=(nf l).take j) (fun a h=>HAl.out.each a (List.mem_of_mem_take h))
   have h2:=lineB_le entW en
   have h3:entW.size=5:=by decide
   have h4:((nf l).take j).length <= 40:=by rw [List.length_take,HM.out]; omega
   rw [List.length_append]; omega)
  clear hm hXl hT5 hO5 hR5 hb5 e0 e1 HSo HK2 HK1 HK
  go_wp2_with fail
  go_loopw [5,7,8] (fun so i s8 wr=>∃ (j:Nat) (o:ByteArray),j <= m /\ i = .int .i64 j /\ so = .string o /\ Hid (o.data.toList=lineB entW en ++ attsB ((nf l).take j)) /\ Hid (SoA w.heap.size (.slice xo m xc) T5 (nf l) wr) /\ Hid (Below w.heap.size w wr)) (fun _ i _ _=>m - (intOf i).toNat)
  case atStart=>exact ⟨0,o1,Nat.zero_le _,rfl,rfl,Lib.hid (by rw [HS0.out]; simp [attsB]),HX,HB3⟩
  case round =>
   clear HX HB3 HB2
   obtain ⟨j,o,hj,rfl,rfl,HO,HX,HB⟩:=hrel
   by_cases hlt:j < m
   ·have d1:decide ((j:Int) < (m:Int))=true:=decide_eq_true (by omega)
    have d0:(0:Int) <= (j:Int):=by omega
    have d3:(j:Int) < (m:Int):=by omega
    have hjl:j < (nf l).length:=by rw [HM.out]; exact hlt
    obtain ⟨g,vo,vc,rfl,c0,c1,hst,_⟩:=HX.out.at HM.out hlt
    have HAt:=Lib.hid (HAl.out.each (atD (nf l) j) (at_mem (nf l) j hjl))
    have HTk:=Lib.hid (attsB_take (nf l) j hjl)
    have hq:=HQ0.out j
    have HAa:=Lib.hid (show ∀ W,SoA w.heap.size (.slice (some ⟨g,0,none⟩) m xc) T5 (nf l) W -> W.cell? ⟨g,j * 2,none⟩=some (.string (atD (nf l) j).1) /\ ∃ uo uc,W.cell? ⟨g,j * 2 + 1,none⟩=some (.slice uo (atD (nf l) j).2.length uc) /\ StrsAt W uo (atD (nf l) j).2.length uc (atD (nf l) j).2 from fun W h=>by
     obtain ⟨g',vo',vc',e',k0,k1,kst,_⟩:=h.at HM.out hlt
     injection e' with e'
     injection e' with e1 e2
     subst e1
     exact ⟨k0,vo',vc',k1,kst⟩)
    obtain ⟨A,hA⟩:∃ x,atD (nf l) j=x:=⟨_,rfl⟩
    rw [hA] at c0 c1 hst HAt HTk HAa
    clear hA
    obtain ⟨nm,vs⟩:=A
    simp only at c0 c1 hst HAt HTk HAa
    have hA1:nm.size <= 300:=HAt.out.nm
    have hA2:vs.length <= 20:=HAt.out.len
    have HA3:=Lib.hid (show ∀ v ∈ vs,v.size <= 300 from HAt.out.each)
    obtain ⟨pre,hpr⟩:∃ x,lineB entW en ++ attsB ((nf l).take j)=x:=⟨_,rfl⟩
    rw [hpr] at HO hq
    have HTk:=Lib.hid (show lineB entW en ++ attsB ((nf l).take (j + 1))=pre ++ valsB nm vs by rw [HTk.out, <- List.append_assoc,hpr])
    obtain ⟨vn,hvn⟩:∃ x,vs.length=x:=⟨_,rfl⟩
    rw [hvn] at c1 hst hA2 HAa
    have HVn:=Lib.hid hvn
    clear hpr hvn HAt hst hjl
    go_wp2_with fail
    clear c0 c1
    go_loopw [5,8] (fun so s8 wx=>∃ (k:Nat) (o:ByteArray),k <= vn /\ s8 = .int .i64 k /\ so = .string o /\ Hid (o.data.toList=pre ++ valsB nm (vs.take k)) /\ Hid (SoA w.heap.size (.slice (some ⟨g,0,none⟩) m xc) T5 (nf l) wx) /\ Hid (Below w.heap.size w wx)) (fun _ s8 _=>vn - (intOf s8).toNat)
    case atStart=>exact ⟨0,o,Nat.zero_le _,rfl,rfl,Lib.hid (by rw [HO.out]; simp [valsB]),HX,HB⟩
    case round =>
     clear HX HB HO
     obtain ⟨k,o,hk,rfl,rfl,HO,HX,HB⟩:=hrel
     obtain ⟨c0,uo,uc,c1,hst⟩:=HAa.out _ HX.out
     by_cases hkl:k < vn
     ·have f1:decide ((k:Int) < (vn:Int))=true:=decide_eq_true (by omega)
      have f0:(0:Int) <= (k:Int):=by omega
      have f3:(k:Int) < (vn:Int):=by omega
      obtain ⟨vb,voff,rfl,hvb,hvs⟩:=hst.2.2.2 (by omega)
      have hcell:=hvs k (by rw [HVn.out]; exact hkl)
      clear hvs
      have hvz:=HA3.out _ (part_mem vs k (by rw [HVn.out]; exact hkl))
      have HTv:=Lib.hid (valsB_take nm vs k (by rw [HVn.out]; exact hkl))
      have hpv:=valsB_le hA1 (vs:=vs.take k) (fun x h=>HA3.out x (List.mem_of_mem_take h))
      rw [List.length_take] at hpv
      have hosz:o.size <= 5200000:=by
       rw [Lib.size_eq,HO.out,List.length_append]
       have:min k vs.length <= 20:=by omega
       omega
      obtain ⟨s,hs⟩:∃ x,partAt vs k=x:=⟨_,rfl⟩
      rw [hs] at hcell hvz HTv
      clear hs hpv
      have HE:=Lib.hid (fun V=>rescape_any s V (by omega))
      have hl:=escL_length s.data.toList
      rw [str_len] at hl
      obtain ⟨es,hes⟩:∃ es:ByteArray,(⟨(escL s.data.toList).toArray⟩:ByteArray)=es:=⟨_,rfl⟩
      have hesz:es.size <= 900:=by rw [<- hes,Lib.size_mk]; omega
      rw [hes] at HE
      have HLn:=Lib.hid (ln_add o nm s es (by rw [<- hes]))
      clear hes hl
      have HSt:=Lib.hid (show ∀ V X:World,SoA w.heap.size (.slice (some ⟨g,0,none⟩) m xc) T5 (nf l) V -> Below w.heap.size w V -> V.cell? ⟨g,j * 2,none⟩=some (.string nm) -> V.cell? ⟨g,j * 2 + 1,none⟩=some (.slice (some ⟨vb,voff,none⟩) vn uc) -> V.cell? ⟨vb,voff + k,none⟩=some (.string s) -> Below V.heap.size V X -> (fun V=>V.cell? ⟨g,j * 2,none⟩=some (.string nm) /\ V.cell? ⟨g,j * 2 + 1,none⟩=some (.slice (some ⟨vb,voff,none⟩) vn uc) /\ V.cell? ⟨vb,voff + k,none⟩=some (.string s) /\ Hid (SoA w.heap.size (.slice (some ⟨g,0,none⟩) m xc) T5 (nf l) V /\ Below w.heap.size w V)) X from
       fun V X h1 h2 h3 h4 h5 hb=>⟨cell_later hb h3,cell_later hb h4,cell_later hb h5,Lib.hid ⟨h1.below hb,h2.trans (hb.mono h2.size)⟩⟩)
      have zq0:¬ 9223372036854775807 < o.size + nm.size:=by omega
      have zq1:¬ 9223372036854775807 < o.size + nm.size + 1:=by omega
      have zq2:¬ 9223372036854775807 < o.size + nm.size + 1 + es.size:=by omega
      have zq3:¬ 9223372036854775807 < o.size + nm.size + 1 + es.size + 1:=by omega
      go_wp2_with fail
      have S0:=HSt.out wr _ HX.out HB.out c0 c1 hcell (Below.refl _ _).drew
      clear c0 c1 hcell HX HB hst
      refine wp_region_held_drew (S:=fun V=>V.cell? ⟨g,j * 2,none⟩=some (.string nm) /\ V.cell? ⟨g,j * 2 + 1,none⟩=some (.slice (some ⟨vb,voff,none⟩) vn uc) /\ V.cell? ⟨vb,voff + k,none⟩=some (.string s) /\ Hid (SoA w.heap.size (.slice (some ⟨g,0,none⟩) m xc) T5 (nf l) V /\ Below w.heap.size w V)) (by kernel_rfl) (S0) (fun hS => ?_)
      refine rgT 0 (some 38) ?_
      refine rgT 1 (some 39) ?_
      refine rgT 2 (some 40) ?_
      refine rgT 3 (some 41) ?_
      refine rgT 4 (some 42) ?_
      refine rgT 5 (some 43) ?_
      refine rgT 6 (some 44) ?_
      refine rgT 7 (some 45) ?_
      refine rgT 8 (some 46) ?_
      refine rgT 9 (some 47) ?_
      refine rgT 10 (some 48) ?_
      refine rgT 11 (some 49) ?_
      refine rgT 12 (some 50) ?_
      refine rgT 13 (some 51) ?_
      refine rgT 14 (some 52) ?_
      refine rgT 15 (some 53) ?_
      refine rgC 16 (fun K hK => ?_)
      go_simp
      refine (HE.out _).mono ?_
      rintro e w5 ⟨rfl,hb⟩
      go_wp2_with fail
      refine hK.out _ _ ?_ (fun hHeld => ?_)
      ·exact HSt.out _ _ hS.2.2.2.out.1 hS.2.2.2.out.2 hS.1 hS.2.1 hS.2.2.1 hb
      clear hK K
      try simp only [Act.put,lsA,lsZ,lsS]
      refine rgT 17 (some 55) ?_
      refine rgT 18 (some 56) ?_
      refine rgT 19 (some 5) ?_
      refine wpAnyH_done (by kernel_rfl) ?_ _
      obtain ⟨y0,y1,y2,HKy⟩:=hHeld
      go_wp2_with fail
      go_roundw
      case rel=>exact ⟨k + 1,_,by omega,by go_num,rfl,Lib.hid (by rw [HTv.out,HLn.out,HO.out,List.append_assoc]),Lib.hid HKy.out.1,Lib.hid HKy.out.2⟩
      case measure=>simp [intOf]; omega
     ·obtain rfl:vn=k:=by omega
      have f1:decide ((vn:Int) < (vn:Int))=false:=decide_eq_false (by omega)
      have HO2:=Lib.hid (show o.data.toList=lineB entW en ++ attsB ((nf l).take (j + 1)) by
       have h:=HO.out
       rw [show vs.take vn=vs by rw [<- HVn.out]; exact List.take_length] at h
       rw [HTk.out]; exact h)
      go_wp2_with fail
      go_roundw
      case rel=>exact ⟨j + 1,o,by omega,by go_num,rfl,HO2,HX,HB⟩
      case measure=>simp [intOf]; omega
   ·obtain rfl:m=j:=by omega
    have d1:decide ((m:Int) < (m:Int))=false:=decide_eq_false (by omega)
    have HTv:=Lib.hid (show txV en l=o from by
     have h:=HO.out
     rw [show (nf l).take m=nf l by rw [<- HM.out]; exact List.take_length] at h
     unfold txV
     rw [if_pos HC.out]
     exact (congrArg ofL (show entB en l=o.data.toList from h.symm)).trans (ofL_data o))
    go_wp2_with fail
    go_ret2
    exact ⟨by rw [HTv.out]; rfl,HB.out⟩
 ·have d1:(c != 0)=true:=by simpa using h0
  have HE:=Lib.hid (show txV en l=⟨#[]⟩ from if_neg (by rw [HC.out]; exact h0))
  go_wp2_with fail
  go_ret2
  exact ⟨by rw [HE.out]; rfl,HB1.out⟩
theorem extract_ofL (s:ByteArray) (i j:Nat) (h:j <= s.size):s.extract i j=ofL ((s.data.toList.drop i).take (j - i)):=by
 have h1:=Lib.extract_toList s i j
 rw [<- Lib.mk_data (s.extract i j), <- Lib.toList_data,h1]
 rfl
theorem pieces_step (s:ByteArray) (b:UInt8) (f i:Nat) (hf:f <= i) (hi:i < s.size) (hb:chr s i=b) (hn:∀ j,f <= j -> j < i -> chr s j ≠ b) :
  pieces b (s.data.toList.drop f)=((s.data.toList.drop f).take (i - f)) :: pieces b (s.data.toList.drop (i + 1)):=by
 have hg:∀ j,j < s.size -> s.data.toList[j]? = some (chr s j):=fun j hj=>by
  unfold chr
  rw [List.getD_eq_getElem?_getD,List.getElem?_eq_getElem (by simpa using hj)]; rfl
 rw [pieces_hit b _ (i - f) ?_ ?_]
 ·rw [List.drop_drop]
  congr 3; omega
 ·rw [List.getElem?_drop,show f + (i - f)=i by omega,hg i hi,hb]
 ·intro j hj
  rw [List.getElem?_drop,hg (f + j) (by omega)]
  intro e
  exact hn (f + j) (by omega) (by omega) (by simpa using e)
theorem pieces_last (s:ByteArray) (b:UInt8) (f:Nat) (hn:∀ j,f <= j -> j < s.size -> chr s j ≠ b):pieces b (s.data.toList.drop f) = [s.data.toList.drop f]:=by
 refine pieces_miss b _ fun j => ?_
 rw [List.getElem?_drop]
 intro e
 obtain ⟨h1,h2⟩:=List.getElem?_eq_some_iff.1 e
 have hlt:f + j < s.size:=by simpa using h1
 refine hn (f + j) (by omega) hlt ?_
 unfold chr
 rw [List.getD_eq_getElem?_getD,e]; rfl
def lnsB (s:ByteArray):List ByteArray:=((pieces 10 s.data.toList).dropLast).map ofL
set_option maxHeartbeats 8000000 in
theorem cut8_s (s:ByteArray) (w:World) (hs:s.size <= 1000000) :
  Calls Tryz.prog 99 #[.string s] w fun e w'=>∃ v,e = .returned v /\ w'.ownsRow w.heap.size 9 1 v (lnsB s).length (scells (lnsB s)) /\ Below w.heap.size w w':=by
 have hb:=get_bt s
 have HPB:=Lib.hid (show lnsB s=((pieces 10 s.data.toList).dropLast).map ofL from rfl)
 go_enter Tryz.func99,Tryz.ntmps99
 go_wp2
 go_loopw [3,4,5] (fun lv fv iv wr=>∃ (i f:Nat) (out:List (List UInt8)),i <= s.size /\ fv = .int .i64 f /\ iv = .int .i64 i /\ out.length <= i /\ f <= i /\ Hid (∀ j,f <= j -> j < i -> chr s j ≠ 10) /\
   Hid (pieces 10 s.data.toList=out ++ pieces 10 (s.data.toList.drop f)) /\ wr.ownsRow w.heap.size 9 1 lv out.length (scells (out.map ofL)) /\ Below w.heap.size w wr)
  (fun _ _ iv _=>s.size - (intOf iv).toNat)
 case atStart=>exact ⟨0,0,[],Nat.zero_le _,rfl,rfl,by simp,Nat.le_refl _,Lib.hid (fun j _ hj=>absurd hj (Nat.not_lt_zero _)),Lib.hid rfl,World.ownsRow_nil _ _ _ _,Below.refl _ _⟩
 case round =>
  obtain ⟨i,f,out,hi,rfl,rfl,hol,hf,HN,HU,hown,hbel⟩:=hrel
  by_cases hlt:i < s.size
  ·have HC:=Lib.hid (bt_chr s i)
   cases c0:(bt s i == 10)
   ·have HNB:=Lib.hid (show chr s i ≠ 10 from fun e=>by
     have h1:bt s i=10:=by rw [HC.out,e]; rfl
     rw [h1] at c0; simp at c0)
    go_wp2
    go_roundw
    case rel=>exact ⟨i + 1,f,out,by omega,rfl,by go_num,by omega,by omega,Lib.hid (fun j h1 h2=>if e:j=i then by rw [e]; exact HNB.out else HN.out j h1 (by omega)),HU,hown,hbel⟩
    case measure=>simp [intOf]; omega
   ·have HB:=Lib.hid (show chr s i=10 by
     have h1:bt s i=10:=beq_iff_eq.1 c0
     exact UInt8.toNat_inj.1 (by have:=HC.out; have h10:(10:UInt8).toNat=10:=rfl; omega))
    have HST:=Lib.hid (pieces_step s 10 f i hf hlt HB.out HN.out)
    have hex:=extract_ofL s f i (by omega)
    have hcells:scells ((out ++ [(s.data.toList.drop f).take (i - f)]).map ofL)=scells (out.map ofL) ++ [.string (ofL ((s.data.toList.drop f).take (i - f)))]:=by simp [scells]
    have HCE:=Lib.hid hcells; clear hcells
    go_wp2_with (at_builtin; go_must (refine push_str _ hown (.tmp 16) (.tmp 21) _ ?_ ?_ ?_ ?_ ?_ ?_ ?_; exact rfl; exact rfl; exact rfl; exact rfl; omega; exact hbel.size; intro v' w1 hown1 hb1))
    go_roundw
    case rel=>exact ⟨i + 1,i + 1,out ++ [(s.data.toList.drop f).take (i - f)],by omega,by go_num,by go_num,by simp; omega,Nat.le_refl _,Lib.hid (fun j h1 h2=>absurd h1 (by omega)),Lib.hid (by rw [HU.out,HST.out]; simp),by rw [HCE.out,List.length_append]; exact hown1,hbel.trans hb1⟩
    case measure=>simp [intOf]; omega
  ·obtain rfl:i=s.size:=by omega
   have HST:=Lib.hid (pieces_last s 10 f (fun j h1 h2=>HN.out j h1 h2))
   have HF:=Lib.hid (show lnsB s=out.map ofL by rw [HPB.out,HU.out,HST.out,List.dropLast_concat])
   go_wp2
   go_ret
   refine ⟨_,rfl, ?_,hbel⟩
   rw [HF.out,List.length_map]
   exact hown
theorem cut_at32 {s:ByteArray} {i:Nat} (hi:i < s.size) (hb:chr s i=32) (hn:∀ j,j < i -> chr s j ≠ 32):cutOk s ⟨#[32]⟩=true /\ cutBef s ⟨#[32]⟩=s.extract 0 i /\ cutAft s ⟨#[32]⟩=s.extract (i + 1) s.size:=by
 have h1:=pieces_step s 32 0 i (Nat.zero_le _) hi hb (fun j _ hj=>hn j hj)
 rw [List.drop_zero,Nat.sub_zero] at h1
 have hfree:(32:UInt8) ∉ s.data.toList.take i:=fun h=>by
  obtain ⟨j,hj⟩:=List.mem_iff_getElem?.1 h
  obtain ⟨hj1,hj2⟩:=List.getElem?_eq_some_iff.1 hj
  rw [List.length_take] at hj1
  refine hn j (by omega) ?_
  rw [List.getElem_take] at hj2
  unfold chr
  rw [List.getD_eq_getElem?_getD,List.getElem?_eq_getElem (by omega)]
  simpa using hj2
 have hs:s.data.toList=s.data.toList.take i ++ 32 :: s.data.toList.drop (i + 1):=by
  have hlt:i < s.data.toList.length:=by rw [str_len]; exact hi
  have hx:s.data.toList[i]=32:=by
   unfold chr at hb
   rw [List.getD_eq_getElem?_getD,List.getElem?_eq_getElem hlt] at hb
   simpa using hb
  conv=>lhs; rw [<- List.take_append_drop i s.data.toList,List.drop_eq_getElem_cons hlt,hx]
 obtain ⟨k1,k2,k3⟩:=cut_mk (s.data.toList.take i) (s.data.toList.drop (i + 1)) 32 hfree
 rw [<- hs,ofL_data] at k1 k2 k3
 refine ⟨k1, ?_, ?_⟩
 ·rw [k2,extract_ofL s 0 i (by omega)]; simp
 ·rw [k3,extract_ofL s (i + 1) s.size (Nat.le_refl _)]
  rw [List.take_of_length_le (by rw [List.length_drop,str_len]; exact Nat.le_refl _)]
theorem cut_no32 {s:ByteArray} (hn:∀ j,j < s.size -> chr s j ≠ 32):cutOk s ⟨#[32]⟩=false:=by
 rcases cut_one s 32 with h | h
 ·exfalso
  have h1:=pieces_last s 32 0 (fun j _ hj=>hn j hj)
  rw [List.drop_zero] at h1
  have h2:=h.2.1
  rw [h1] at h2
  injection h2 with _ h3
  exact pc_ne _ _ h3.symm
 ·exact h.1
def fldA (s:ByteArray):ByteArray:=if cutOk s ⟨#[32]⟩=true then cutBef s ⟨#[32]⟩ else ⟨#[]⟩
def fldB (s:ByteArray):ByteArray:=if cutOk s ⟨#[32]⟩=true then cutAft s ⟨#[32]⟩ else ⟨#[]⟩
set_option maxHeartbeats 8000000 in
theorem fields8_s (s:ByteArray) (w:World) (hs:s.size <= 1000000) :
  Calls Tryz.prog 100 #[.string s] w fun e w'=>e = .returned (.tuple #[.string (fldA s), .string (fldB s), .bool (cutOk s ⟨#[32]⟩)]) /\ Below w.heap.size w w':=by
 have hb:=get_bt s
 have HV:=Lib.hid (show ∀ b,cutOk s ⟨#[32]⟩=b -> fldA s=(if b=true then cutBef s ⟨#[32]⟩ else ⟨#[]⟩) /\ fldB s=(if b=true then cutAft s ⟨#[32]⟩ else ⟨#[]⟩) from fun b h=>by rw [<- h]; exact ⟨rfl,rfl⟩)
 go_enter Tryz.func100,Tryz.ntmps100
 go_wp2
 go_loop [5] (fun iv=>∃ (i:Nat),i <= s.size /\ iv = .int .i64 i /\ Hid (∀ j,j < i -> chr s j ≠ 32)) (fun iv=>s.size - (intOf iv).toNat)
 case atStart=>exact ⟨0,Nat.zero_le _,rfl,Lib.hid (fun j hj=>absurd hj (Nat.not_lt_zero _))⟩
 case round =>
  obtain ⟨i,hi,rfl,HN⟩:=hrel
  by_cases hlt:i < s.size
  ·have HC:=Lib.hid (bt_chr s i)
   cases c0:(bt s i == 32)
   ·have HNB:=Lib.hid (show chr s i ≠ 32 from fun e=>by
     have h1:bt s i=32:=by rw [HC.out,e]; rfl
     rw [h1] at c0; simp at c0)
    go_wp2
    go_round
    case rel=>exact ⟨i + 1,by omega,by go_num,Lib.hid (fun j h2=>if e:j=i then by rw [e]; exact HNB.out else HN.out j (by omega))⟩
    case measure=>simp [intOf]; omega
   ·have HB:=Lib.hid (show chr s i=32 by
     have h1:bt s i=32:=beq_iff_eq.1 c0
     exact UInt8.toNat_inj.1 (by have:=HC.out; have h10:(32:UInt8).toNat=32:=rfl; omega))
    have HF:=Lib.hid (cut_at32 hlt HB.out HN.out)
    have HW:=Lib.hid (HV.out true HF.out.1)
    have hwr:IntKind.i64.wrap ((i:Int) + 1)=(i:Int) + 1:=IntWalk.i64_in _ (by omega)
    have hw0:(0:Int) <= (i:Int) + 1:=by omega
    have hwn:((i:Int) + 1).toNat=i + 1:=by omega
    go_wp2_with fail
    go_quiet (fail)
    go_wp2_with fail
    go_ret3
    exact ⟨by rw [HF.out.1,HW.out.1,HW.out.2,HF.out.2.1,HF.out.2.2]; rfl,below_drewN (Below.refl _ _) _⟩
  ·obtain rfl:i=s.size:=by omega
   have HF:=Lib.hid (cut_no32 HN.out)
   have HW:=Lib.hid (HV.out false HF.out)
   go_wp2
   go_ret3
   exact ⟨by rw [HF.out,HW.out.1,HW.out.2]; rfl,Below.refl _ _⟩
theorem fld_ok {p:ByteArray} (h:lnOk p=true):cutOk p ⟨#[32]⟩=true /\ fldA p=wordS p /\ unE (fldB p)=0 /\ unS (fldB p)=valS p:=by
 unfold lnOk at h
 simp only [Bool.and_eq_true,decide_eq_true_eq] at h
 have e1:fldA p=cutBef p ⟨#[32]⟩:=by unfold fldA; rw [if_pos h.1]
 have e2:fldB p=cutAft p ⟨#[32]⟩:=by unfold fldB; rw [if_pos h.1]
 rw [e1,e2]
 exact ⟨h.1,rfl,h.2,rfl⟩
theorem fld_bad {p:ByteArray} (h:lnOk p=false):cutOk p ⟨#[32]⟩=false ∨ (cutOk p ⟨#[32]⟩=true /\ unE (fldB p) ≠ 0):=by
 cases e:cutOk p ⟨#[32]⟩ with
 | false=>exact .inl rfl
 | true =>
  refine .inr ⟨rfl,fun k => ?_⟩
  have e2:fldB p=cutAft p ⟨#[32]⟩:=by unfold fldB; rw [if_pos e]
  rw [e2] at k
  unfold lnOk at h
  rw [e,k] at h
  cases h
theorem fld_size (p:ByteArray):(fldB p).size <= p.size:=by
 unfold fldB
 split
 ·exact (cut_szs p 32).2
 ·exact Nat.zero_le _
set_option maxHeartbeats 16000000 in
theorem rparse8_s (s:ByteArray) (w:World) (hs:s.size <= 1000000) (hl:(pieces 10 s.data.toList).length <= 2900) :
  Calls Tryz.prog 39 #[.string s] w fun e w'=>PaP s w e w':=by
 have hbx:=below_al w (.cells #[.string ⟨#[]⟩, .slice none 0 0] 37)
 have hsz0:(w.alloc (.cells #[.string ⟨#[]⟩, .slice none 0 0] 37)).heap.size=w.heap.size + 1:=by simp
 have hbx1:=below_al (w.alloc (.cells #[.string ⟨#[]⟩, .slice none 0 0] 37)) (.cells #[.string ⟨#[]⟩, .slice none 0 0] 37)
 have HKR:=Lib.hid ((kbl_new w (.cells #[.string ⟨#[]⟩, .slice none 0 0] 37)).step hbx1)
 have HKE:=Lib.hid (kbl_new (w.alloc (.cells #[.string ⟨#[]⟩, .slice none 0 0] 37)) (.cells #[.string ⟨#[]⟩, .slice none 0 0] 37))
 rw [hsz0] at HKE
 have HB0:=Lib.hid (hbx.trans (hbx1.mono hbx.size))
 have HC:=Lib.hid (cut8_s s ((w.alloc (.cells #[.string ⟨#[]⟩, .slice none 0 0] 37)).alloc (.cells #[.string ⟨#[]⟩, .slice none 0 0] 37)) hs)
 have hsz1:((w.alloc (.cells #[.string ⟨#[]⟩, .slice none 0 0] 37)).alloc (.cells #[.string ⟨#[]⟩, .slice none 0 0] 37)).heap.size=w.heap.size + 2:=by simp
 rw [hsz1] at HC
 have HNo:=Lib.hid (fun (V:World) (hV:Below w.heap.size w V) (hN:prR s=none)=>show PaP s w (.returned (.tuple #[.agg #[.string ⟨#[]⟩, .slice none 0 0], .int .i64 4])) ((V.setCell ⟨w.heap.size,0,none⟩ (.string ⟨#[]⟩)).setCell ⟨w.heap.size,1,none⟩ (.slice none 0 0)) from by
  obtain ⟨k1,k2,k3⟩:=pa_none hN
  unfold PaP
  rw [k1,k2,k3]
  exact ⟨none,0,0,rfl,⟨rfl,Nat.le_refl _,by unfold maxLen; omega,fun h=>absurd h (Nat.lt_irrefl _)⟩,below_set1 (below_set1 hV w.heap.size 0 (Nat.le_refl _) _) w.heap.size 1 (Nat.le_refl _) _⟩)
 clear hbx hbx1 hsz0
 go_enter Tryz.func39,Tryz.ntmps39
 go_wp2_with fail
 refine HC.out.mono ?_
 rintro e w2 ⟨v,rfl,hown,hb⟩
 obtain ⟨lo,lc,rfl⟩:=row_slice hown
 have hz2:w.heap.size + 2 <= w2.heap.size:=by have:=hb.size; omega
 have hb':Below ((w.alloc (.cells #[.string ⟨#[]⟩, .slice none 0 0] 37)).alloc (.cells #[.string ⟨#[]⟩, .slice none 0 0] 37)).heap.size ((w.alloc (.cells #[.string ⟨#[]⟩, .slice none 0 0] 37)).alloc (.cells #[.string ⟨#[]⟩, .slice none 0 0] 37)) w2:=by rw [hsz1]; exact hb
 have HSt:=own_strs hown rfl
 obtain ⟨LL,hLL⟩:∃ x,(pieces 10 s.data.toList).dropLast=x:=⟨_,rfl⟩
 have hlb:lnsB s=LL.map ofL:=by rw [<- hLL]; rfl
 have HLo:=Lib.hid (show 0 < (lnsB s).length -> ∃ g,lo=some ⟨g,0,none⟩ /\ w.heap.size + 2 <= g /\ g < w2.heap.size /\ ∀ j,j < (lnsB s).length -> w2.cell? ⟨g,j,none⟩=some (.string (ofL (LL.getD j []))) from fun h0=>by
  obtain ⟨b,off,e1,hbl,hat⟩:=HSt.2.2.2 h0
  rcases hown.2 with ⟨_,e⟩ | ⟨g,cap,cur,e,hgb,_⟩
  ·omega
  ·simp only [Value.slice.injEq] at e
   have e3:=e.1.symm.trans e1
   simp only [Option.some.injEq,Addr.mk.injEq,and_true] at e3
   obtain ⟨rfl,rfl⟩:=e3
   refine ⟨g,e1,hgb,hbl,fun j hj => ?_⟩
   have h2:=hat j hj
   rw [Nat.zero_add] at h2
   rw [h2,hlb,ll_at (by rw [hlb,List.length_map] at hj; exact hj)])
 have HLn:=Lib.hid (show LL.length=(lnsB s).length by rw [hlb,List.length_map])
 have hn29:(lnsB s).length <= 2900:=by rw [hlb,List.length_map, <- hLL,List.length_dropLast]; omega
 have HPs:=Lib.hid (show ∀ i,i < (lnsB s).length -> (ofL (LL.getD i [])).size <= 1000000 from fun i hi=>by rw [<- hLL]; exact Nat.le_trans (ll_size (by rw [hLL]; rw [hlb,List.length_map] at hi; exact hi)) hs)
 have HR0:=Lib.hid (show rsE s=rsI LL 0 ⟨#[]⟩ [] by rw [<- hLL]; exact rsI_zero s _ _)
 obtain ⟨n,hn⟩:∃ x,(lnsB s).length=x:=⟨_,rfl⟩
 obtain ⟨bs,hbs⟩:∃ x,w2.heap.size=x:=⟨_,rfl⟩
 have HI0:=Lib.hid (show PrI w w2 bs ⟨#[]⟩ none 0 0 [] w2 from ⟨rfl,HKR.out.step hb',HKE.out.step hb',World.ownsRow_nil _ _ _ _,(fun t ht=>by cases ht),List.Pairwise.nil,HB0.out.trans (hb'.mono HB0.out.size),fun _ _ _=>rfl,by omega,by omega⟩)
 rw [hn,hbs] at HLo
 rw [hn] at HLn HPs hn29 ⊢
 clear hbs hn hlb hLL HSt hown hb hb' HC HKR HKE HB0 hsz1 hl hz2
 go_wp2_with fail
 go_loopw [6,7,8,9,10,11,12] (fun s6 _ _ _ _ _ _ wr=>∃ (i m:Nat) (N:ByteArray) (so:Option Addr) (sc:Nat) (U:List Tr),i <= n /\ s6 = .int .i64 i /\ m <= i /\ N.size <= 1000000 /\ Hid (i=0 -> N=⟨#[]⟩ /\ U = []) /\ Hid (rsE s=rsI LL i N (tats U)) /\ Hid (SmallA (tats U) /\ sumV (tats U) <= i) /\ Hid (PrI w w2 bs N so sc m U wr)) (fun s6 _ _ _ _ _ _ _=>n - (intOf s6).toNat)
 case atStart=>exact ⟨0,0,⟨#[]⟩,none,0,[],Nat.zero_le _,rfl,Nat.le_refl _,Nat.zero_le _,Lib.hid (fun _=>⟨rfl,rfl⟩),HR0,Lib.hid ⟨(fun a ha=>by cases ha),Nat.le_refl _⟩,HI0⟩
 case round =>
  clear HI0 HR0
  obtain ⟨i,m,N,so,sc,U,hin,rfl,hmi,hNs,HZ,HRs,HSm,HI⟩:=hrel
  by_cases hlt:i < n
  ·obtain ⟨g,rfl,hg1,hg2,hat⟩:=HLo.out (by omega)
   have c0:wr.cell? ⟨g,i,none⟩=some (.string (ofL (LL.getD i []))):=(World.cell?_of_block (a:=⟨g,i,none⟩) (HI.out.keep g hg1 hg2)).trans (hat i hlt)
   have hps:=HPs.out i hlt
   have HLg:=Lib.hid (show i < LL.length by rw [HLn.out]; exact hlt)
   obtain ⟨p,hp⟩:∃ x,ofL (LL.getD i [])=x:=⟨_,rfl⟩
   rw [hp] at c0 hps
   have HP:=Lib.hid hp
   have HF:=Lib.hid (fields8_s p wr hps)
   have HFz:=Lib.hid (Nat.le_trans (fld_size p) hps)
   obtain ⟨wd,hwd⟩:∃ x,fldA p=x:=⟨_,rfl⟩
   obtain ⟨es,hes⟩:∃ x,fldB p=x:=⟨_,rfl⟩
   obtain ⟨ok,hok⟩:∃ x,cutOk p ⟨#[32]⟩=x:=⟨_,rfl⟩
   rw [hwd,hes,hok] at HF
   rw [hes] at HFz
   have HQ:=Lib.hid (And.intro hwd (And.intro hes hok))
   clear hat hg1 hg2 hp hwd hes hok
   go_wp2_with fail
   refine HF.out.mono ?_
   rintro e w3 ⟨rfl,hb⟩
   have HI3:=Lib.hid (HI.out.below hb)
   have HU:=Lib.hid (runescape_s es w3 (by have:=HFz.out; omega))
   obtain ⟨vl,hvl⟩:∃ x,unS es=x:=⟨_,rfl⟩
   obtain ⟨er,her⟩:∃ x,unE es=x:=⟨_,rfl⟩
   rw [hvl,her] at HU
   have HV:=Lib.hid (And.intro hvl her)
   clear hb hvl her HF HI c0
   go_wp2_with fail
   refine HU.out.mono ?_
   rintro e w4 ⟨rfl,hb⟩
   have HI4:=Lib.hid (HI3.out.below hb)
   clear hb HU HI3
   by_cases hk:lnOk p=true
   ·obtain ⟨o1,o2,o3,o4⟩:=fld_ok hk
    obtain ⟨q1,q2,q3⟩:=HQ.out
    rw [q1] at o2
    rw [q3] at o1
    rw [q2,HV.out.2] at o3
    rw [q2,HV.out.1] at o4
    subst o1 o3
    have hvs:vl.size <= 1000000:=by rw [o4]; have:=valS_size p; omega
    have hws:wd.size <= 1000000:=by rw [o2]; have:=wordS_size p; omega
    have d1:((0:Int) != 0)=false:=rfl
    have HLk:=Lib.hid (show lnOk (ofL (LL.getD i []))=true by rw [HP.out]; exact hk)
    have HWv:=Lib.hid (show wordS (ofL (LL.getD i []))=wd /\ valS (ofL (LL.getD i []))=vl by rw [HP.out]; exact ⟨o2.symm,o4.symm⟩)
    clear q1 q2 q3 o2 o4 HQ HV hk
    by_cases hi0:i=0
    ·subst hi0
     obtain ⟨rfl,rfl⟩:=HZ.out rfl
     have hm0:m=0:=by omega
     subst hm0
     have HI5:=Lib.hid (HI4.out.name vl)
     have HR5:=Lib.hid (show rsE s=rsI LL (0 + 1) vl (tats []) by rw [<- HWv.out.2]; exact HRs.out.trans (rsI_name HLg.out HLk.out))
     have f0:w4.frozen? ⟨w.heap.size + 1,0,none⟩=false:=heap_frozen HI4.out.kE
     have k0:w4.cell? ⟨w.heap.size + 1,0,none⟩=some (.string ⟨#[]⟩):=HI4.out.kE.cell rfl
     go_wp2_with fail
     go_roundw
     case rel=>exact ⟨0 + 1,0,vl,so,sc,[],by omega,by go_num,by omega,hvs,Lib.hid (fun e=>absurd e (by omega)),HR5,Lib.hid ⟨(fun a ha=>by cases ha),Nat.zero_le _⟩,HI5⟩
     case measure=>simp [intOf]; omega
    ·have hjb:((i:Int) == 0)=false:=beq_false_of_ne (by omega)
     have k1:w4.cell? ⟨w.heap.size + 1,1,none⟩=some (.slice so m sc):=HI4.out.kE.cell rfl
     have HRa:=Lib.hid (show rsE s=rsI LL (i + 1) N (addP (tats U) wd vl) by rw [<- HWv.out.1, <- HWv.out.2]; exact HRs.out.trans (rsI_add HLg.out hi0 HLk.out))
     have HPu:=Lib.hid (fun (V:World) (so':Option Addr) (sc':Nat)=>HI4.out.push wd vl (w7:=V) (so':=so') (sc':=sc'))
     have hmn:m + 1 <= 1000000000:=by omega
     have hbb:=HI4.out.big.2
     have HRow:=Lib.hid (show ((w4.alloc (.cells #[.string vl] 9)).alloc (.cells #[.string wd, .slice (some ⟨w4.heap.size,0,none⟩) 1 1] 58)).ownsRow bs 58 2 (.slice so m sc) m (tcells U) from (HI4.out.row.alloc _).alloc _)
     have HHv:=Lib.hid (hdr_owns (vs:=[vl]) (attr_one w4 vl))
     rcases List.eq_nil_or_concat U with hU | ⟨D,t,hU⟩
     ·subst hU
      have hm0:m=0:=HI4.out.len.symm
      subst hm0
      have HSn:=Lib.hid (show SmallA (tats ([] ++ [(wd,Value.slice (some ⟨w4.heap.size,0,none⟩) 1 1,[vl])])) /\ sumV (tats ([] ++ [(wd,Value.slice (some ⟨w4.heap.size,0,none⟩) 1 1,[vl])])) <= i + 1 from ⟨by rw [tats_append]; exact snoc_small (a:=wd) (v:=vl) HSm.out.1 (by omega) (by omega),by rw [tats_append,sumV_append]; have:=HSm.out.2; simp [tats,sumV]⟩)
      have HRn:=Lib.hid (show rsE s=rsI LL (i + 1) N (tats ([] ++ [(wd,Value.slice (some ⟨w4.heap.size,0,none⟩) 1 1,[vl])])) by rw [HRa.out,add_none rfl,tats_append]; rfl)
      clear HRa HI4
      go_wp2_with (at_builtin; go_must (refine app_attrs ((w4.alloc (.cells #[.string vl] 9)).alloc (.cells #[.string wd, .slice (some ⟨w4.heap.size,0,none⟩) 1 1] 58)) HRow.out (.tmp 81) (.tmp 86) _ 1 1 [(wd, .slice (some ⟨w4.heap.size,0,none⟩) 1 1,[vl])] ?_ ?_ ?_ ?_ (ts_new1 (w4.alloc (.cells #[.string vl] 9)) (wd, .slice (some ⟨w4.heap.size,0,none⟩) 1 1,[vl])) ?_ ?_ ?_ ?_; exact rfl; exact rfl; exact rfl; (simp [Act.eval,Act.put]); exact (fun t ht=>by rw [List.mem_singleton.1 ht]; exact HHv.out.below (below_al (w4.alloc (.cells #[.string vl] 9)) _)); omega; (simp; omega); intro v7 w7 hown7 hg7 hl7; obtain ⟨so7,sc7,rfl⟩:=row_slice hown7; obtain ⟨hE7,hI7⟩:=HPu.out _ _ _ hown7 hg7 hl7; have f1:=heap_frozen (i:=1) hE7; have c7:=heap_cell (i:=1) hE7 rfl; have HI7:=Lib.hid hI7; clear hown7 hg7 hl7 hI7 hE7))
      go_roundw
      case rel=>exact ⟨i + 1,0 + 1,N,so7,sc7,_,by omega,by go_num,by omega,hNs,Lib.hid (fun e=>absurd e (by omega)),HRn,HSn,HI7⟩
      case measure=>simp [intOf]; omega
     ·rw [List.concat_eq_append] at hU
      subst hU
      obtain ⟨a,x,vs⟩:=t
      obtain ⟨j,rfl⟩:∃ j,m=j + 1:=⟨D.length,by rw [<- HI4.out.len,List.length_append]; rfl⟩
      obtain ⟨b,rfl⟩:∃ b,so=some ⟨b,0,none⟩:=by
       rcases HI4.out.row.2 with ⟨_,e⟩ | ⟨b,cap,cur,e,_⟩
       ·cases e
       ·simp only [Value.slice.injEq] at e; exact ⟨b,e.1⟩
      obtain ⟨x0,x1⟩:=HI4.out.cell
      have HXo:=Lib.hid (HI4.out.own (a,x,vs) (by simp))
      obtain ⟨xo,xc,rfl⟩:∃ xo xc,x = .slice xo vs.length xc:=row_slice HXo.out.1
      have e1:(0:Int) <= (j:Int):=by omega
      have e2:(j:Int) < ((j + 1:Nat):Int):=by omega
      have e3:(j:Int) < (j:Int) + 1:=by omega
      have e4:(0:Int) < ((j + 1:Nat):Int):=by omega
      have e5:(0:Int) < (j:Int) + 1:=by omega
      have w1:IntKind.i64.wrap (((j + 1:Nat):Int) - 1)=(j:Int):=by rw [IntWalk.i64_in _ (by omega)]; omega
      have w2':IntKind.i64.wrap ((j:Int) + 1 - 1)=(j:Int):=by rw [IntWalk.i64_in _ (by omega)]; omega
      have w3':IntKind.i64.wrap (j:Int)=(j:Int):=IntWalk.i64_in _ (by omega)
      have hvn:vs.length + 1 <= 1000000000:=by
       have h1:=sumV_mem (l:=tats (D ++ [(a, .slice xo vs.length xc,vs)])) (a:=(a,vs)) (by rw [tats_append]; simp [tats])
       have h2:=HSm.out.2
       have h3:(a,vs).2.length=vs.length:=rfl
       omega
      dsimp only at x0 x1
      by_cases ha:a=wd
      ·subst ha
       have q1:(a.toList == a.toList)=true:=by simp
       have HRn:=Lib.hid (fun (u:Value)=>show rsE s=rsI LL (i + 1) N (tats (D ++ [(a,u,vs ++ [vl])])) from by
        rw [HRa.out,tats_append,tats_append]
        exact congrArg (rsI LL (i + 1) N) (add_more (tats D) a vl vs))
       have HSn:=Lib.hid (fun (u:Value)=>show SmallA (tats (D ++ [(a,u,vs ++ [vl])])) /\ sumV (tats (D ++ [(a,u,vs ++ [vl])])) <= i + 1 from by
        have h:=HSm.out
        rw [tats_append] at h ⊢
        refine ⟨more_small h.1 (by omega), ?_⟩
        have h2:=h.2
        rw [sumV_append] at h2 ⊢
        simp [tats,sumV] at h2 ⊢
        omega)
       have HX:=Lib.hid (fun (V:World) (u:Value) (k1:V.ownsRow bs 9 1 u (vs.length + 1) (scells vs ++ [.string vl])) (k2:(w4.drew.alloc (.cells #[.string vl] 9)).grownBy V (Value.slice xo vs.length xc).ownBlock) (k3:u.ownBlock=(Value.slice xo vs.length xc).ownBlock ∨ u.ownBlock=some (w4.drew.heap.size + 1))=>HI4.out.ext vl (W:=w4.drew.alloc (.cells #[.string vl] 9)) (((Below.refl _ _).drew).alloc (Nat.le_refl _) _) k1 k2 (by rcases k3 with k | k; exact .inl k; exact .inr (by rw [k]; simp)))
       have HXr:=Lib.hid (show w4.drew.ownsRow bs 9 1 (.slice xo vs.length xc) vs.length (scells vs) from HXo.out.1)
       obtain ⟨vn,hvn'⟩:∃ y,vs.length=y:=⟨_,rfl⟩
       rw [hvn'] at x1 hvn HX HXr
       have y1:=cell_later (below_al w4 (.cells #[.string vl] 9)) x1
       have yk:=cell_later (below_al w4 (.cells #[.string vl] 9)) k1
       clear HPu HRow HHv HRa HXo hvn'
       go_wp2_with fail
       refine wp_region_held_drew (S:=fun X=>X.cell? ⟨w.heap.size + 1,1,none⟩=some (.slice (some ⟨b,0,none⟩) (j + 1) sc)) (by kernel_rfl) (k1) (fun hS => ?_)
       refine rgT 0 (some 64) ?_
       refine rgT 1 (some 65) ?_
       refine rgT 2 (some 66) ?_
       refine rgT 3 (some 67) ?_
       refine rgT 4 (some 68) ?_
       refine rgT 5 (some 69) ?_
       refine rgT 6 (some 70) ?_
       refine rgT 7 (some 71) ?_
       refine rgT 8 (some 72) ?_
       refine rgT 9 (some 73) ?_
       refine rgT 11 (some 75) ?_
       refine wpAnyH_ready (rs:=[10,12]) (by kernel_rfl) (by simp) ?_
       refine AllReadyH.cons rfl (fun K hK => ?_) (AllReadyH.cons rfl (fun K hK => ?_) AllReadyH.nil)
       ·go_simp
        refine hK.out _ _ ?_ (fun hHeld => ?_)
        ·(first | exact k1 | exact yk)
        clear hK K
        try simp only [Act.put,lsA,lsZ,lsS]
        refine rgC 12 (fun K hK => ?_)
        go_simp
        refine hK.out _ _ ?_ (fun hHeld => ?_)
        ·(first | exact k1 | exact yk)
        clear hK K
        try simp only [Act.put,lsA,lsZ,lsS]
        refine rgC 13 (fun K hK => ?_)
        refine step_push_str_g w4.drew (base:=bs) (v := .slice xo vn xc) (n:=vn) (xs:=scells vs) (show World.ownsRow _ _ _ _ _ _ _ from HXr.out) _ _ vl rfl rfl rfl (by simp [Act.eval,Act.put]) hvn (by simp; exact hbb) ?_
        intro u w7 q1 q2 q3
        obtain ⟨uo,uc,rfl⟩:=row_slice q1
        obtain ⟨hK',hc,hf,hI⟩:=HX.out _ _ q1 q2 q3
        have k1':=heap_cell (i:=1) hK' rfl
        have HI7:=Lib.hid hI
        clear q1 q2 q3 hK' hI
        refine hK.out _ _ ?_ (fun hHeld => ?_)
        ·exact k1'
        clear hK K
        try simp only [Act.put,lsA,lsZ,lsS]
        refine rgT 14 (some 78) ?_
        refine rgT 15 (some 79) ?_
        refine rgC 16 (fun K hK => ?_)
        go_simp
        refine hK.out _ _ ?_ (fun hHeld => ?_)
        ·exact HI7.out.kE.cell rfl
        clear hK K
        try simp only [Act.put,lsA,lsZ,lsS]
        refine wpAnyH_done (by kernel_rfl) ?_ _
        go_wp2_with fail
        go_roundw
        case rel=>exact ⟨i + 1,j + 1,N,_,sc,_,by omega,by go_num,by omega,hNs,Lib.hid (fun e=>absurd e (by omega)),HRn.out _,HSn.out _,HI7⟩
        case measure=>simp [intOf]; omega
       ·go_simp
        refine hK.out _ _ ?_ (fun hHeld => ?_)
        ·(first | exact k1 | exact yk)
        clear hK K
        try simp only [Act.put,lsA,lsZ,lsS]
        refine rgC 10 (fun K hK => ?_)
        go_simp
        refine hK.out _ _ ?_ (fun hHeld => ?_)
        ·(first | exact k1 | exact yk)
        clear hK K
        try simp only [Act.put,lsA,lsZ,lsS]
        refine rgC 13 (fun K hK => ?_)
        refine step_push_str_g w4.drew (base:=bs) (v := .slice xo vn xc) (n:=vn) (xs:=scells vs) (show World.ownsRow _ _ _ _ _ _ _ from HXr.out) _ _ vl rfl rfl rfl (by simp [Act.eval,Act.put]) hvn (by simp; exact hbb) ?_
        intro u w7 q1 q2 q3
        obtain ⟨uo,uc,rfl⟩:=row_slice q1
        obtain ⟨hK',hc,hf,hI⟩:=HX.out _ _ q1 q2 q3
        have k1':=heap_cell (i:=1) hK' rfl
        have HI7:=Lib.hid hI
        clear q1 q2 q3 hK' hI
        refine hK.out _ _ ?_ (fun hHeld => ?_)
        ·exact k1'
        clear hK K
        try simp only [Act.put,lsA,lsZ,lsS]
        refine rgT 14 (some 78) ?_
        refine rgT 15 (some 79) ?_
        refine rgC 16 (fun K hK => ?_)
        go_simp
        refine hK.out _ _ ?_ (fun hHeld => ?_)
        ·exact HI7.out.kE.cell rfl
        clear hK K
        try simp only [Act.put,lsA,lsZ,lsS]
        refine wpAnyH_done (by kernel_rfl) ?_ _
        go_wp2_with fail
        go_roundw
        case rel=>exact ⟨i + 1,j + 1,N,_,sc,_,by omega,by go_num,by omega,hNs,Lib.hid (fun e=>absurd e (by omega)),HRn.out _,HSn.out _,HI7⟩
        case measure=>simp [intOf]; omega
      ·have q1:(a.toList == wd.toList)=false:=by rw [str_eq]; exact decide_eq_false ha
       have HSn:=Lib.hid (show SmallA (tats ((D ++ [(a,Value.slice xo vs.length xc,vs)]) ++ [(wd,Value.slice (some ⟨w4.heap.size,0,none⟩) 1 1,[vl])])) /\ sumV (tats ((D ++ [(a,Value.slice xo vs.length xc,vs)]) ++ [(wd,Value.slice (some ⟨w4.heap.size,0,none⟩) 1 1,[vl])])) <= i + 1 from ⟨by rw [tats_append]; exact snoc_small (a:=wd) (v:=vl) HSm.out.1 (by omega) (by omega),by rw [tats_append,sumV_append]; have:=HSm.out.2; simp [tats,sumV] at this ⊢; omega⟩)
       have HRn:=Lib.hid (show rsE s=rsI LL (i + 1) N (tats ((D ++ [(a,Value.slice xo vs.length xc,vs)]) ++ [(wd,Value.slice (some ⟨w4.heap.size,0,none⟩) 1 1,[vl])])) by
        rw [HRa.out,add_new (b:=(a,vs)) (by rw [tats_append]; simp [tats]) ha,tats_append (D ++ _)]; rfl)
       clear HRa HI4 HXo
       obtain ⟨vn,hvn'⟩:∃ y,vs.length=y:=⟨_,rfl⟩
       go_wp2_with (at_builtin; go_must (refine app_attrs ((w4.alloc (.cells #[.string vl] 9)).alloc (.cells #[.string wd, .slice (some ⟨w4.heap.size,0,none⟩) 1 1] 58)) HRow.out (.tmp 81) (.tmp 86) _ 1 1 [(wd, .slice (some ⟨w4.heap.size,0,none⟩) 1 1,[vl])] ?_ ?_ ?_ ?_ (ts_new1 (w4.alloc (.cells #[.string vl] 9)) (wd, .slice (some ⟨w4.heap.size,0,none⟩) 1 1,[vl])) ?_ ?_ ?_ ?_; exact rfl; exact rfl; exact rfl; (simp [Act.eval,Act.put]); exact (fun t ht=>by rw [List.mem_singleton.1 ht]; exact HHv.out.below (below_al (w4.alloc (.cells #[.string vl] 9)) _)); omega; (simp; omega); intro v7 w7 hown7 hg7 hl7; obtain ⟨so7,sc7,rfl⟩:=row_slice hown7; obtain ⟨hE7,hI7⟩:=HPu.out _ _ _ hown7 hg7 hl7; have f1:=heap_frozen (i:=1) hE7; have c7:=heap_cell (i:=1) hE7 rfl; have HI7:=Lib.hid hI7; clear hown7 hg7 hl7 hI7 hE7))
       go_roundw
       case rel=>exact ⟨i + 1,j + 1 + 1,N,so7,sc7,_,by omega,by go_num,by omega,hNs,Lib.hid (fun e=>absurd e (by omega)),HRn,HSn,HI7⟩
       case measure=>simp [intOf]; omega
   ·have hk':lnOk p=false:=by cases e:lnOk p; rfl; exact absurd e hk
    have HBd:=Lib.hid (HNo.out w4 HI4.out.low (pr_none fun y hy=>by rw [HRs.out,rsI_bad HLg.out (by rw [HP.out]; exact hk')] at hy; cases hy))
    have HFb:=fld_bad hk'
    rw [HQ.out.2.1,HQ.out.2.2,HV.out.2] at HFb
    obtain ⟨r0,r1⟩:w4.cell? ⟨w.heap.size,0,none⟩=some (.string ⟨#[]⟩) /\ w4.cell? ⟨w.heap.size,1,none⟩=some (.slice none 0 0):=⟨HI4.out.kR.cell rfl,HI4.out.kR.cell rfl⟩
    have f0:w4.frozen? ⟨w.heap.size,0,none⟩=false:=heap_frozen HI4.out.kR
    have f1:w4.frozen? ⟨w.heap.size,1,none⟩=false:=heap_frozen HI4.out.kR
    clear hk hk' HNo
    rcases HFb with h | ⟨h,h'⟩
    ·subst h
     go_wp2_with fail
     refine bodyPost_ret (v := .tuple #[.agg #[.string ⟨#[]⟩, .slice none 0 0], .int .i64 4]) (by simp only [results,Tryz.results39]; go_simp) rfl ?_
     exact HBd.out
    ·subst h
     have d1:(er != 0)=true:=by simpa using h'
     clear h'
     go_wp2_with fail
     refine bodyPost_ret (v := .tuple #[.agg #[.string ⟨#[]⟩, .slice none 0 0], .int .i64 4]) (by simp only [results,Tryz.results39]; go_simp) rfl ?_
     exact HBd.out
  ·obtain rfl:i=n:=by omega
   have HEn:=Lib.hid (show rsE s=some (N,tats U) by
    rw [HRs.out, <- HLn.out]
    exact rsI_end fun e=>by
     obtain ⟨h1,h2⟩:=HZ.out (by rw [<- HLn.out]; exact e)
     rw [h1,h2]; exact ⟨rfl,rfl⟩)
   have HAt:=Lib.hid (own_atts HI.out.row HI.out.own)
   have HT:=Lib.hid (rtext_s N so m sc (tats U) wr (by omega) HAt.out HSm.out.1)
   obtain ⟨c,hc⟩:∃ c,enC N (tats U)=c:=⟨_,rfl⟩
   obtain ⟨t,ht⟩:∃ t,txV N (tats U)=t:=⟨_,rfl⟩
   rw [hc,ht] at HT
   have HCT:=Lib.hid (And.intro hc ht)
   obtain ⟨k0,k1⟩:wr.cell? ⟨w.heap.size + 1,0,none⟩=some (.string N) /\ wr.cell? ⟨w.heap.size + 1,1,none⟩=some (.slice so m sc):=⟨HI.out.kE.cell rfl,HI.out.kE.cell rfl⟩
   clear hc ht
   go_wp2_with fail
   refine HT.out.mono ?_
   rintro e w3 ⟨rfl,hb⟩
   have HI3:=Lib.hid (HI.out.below hb)
   clear hb k0 k1 HT HAt HI
   obtain ⟨k0,k1⟩:w3.cell? ⟨w.heap.size + 1,0,none⟩=some (.string N) /\ w3.cell? ⟨w.heap.size + 1,1,none⟩=some (.slice so m sc):=⟨HI3.out.kE.cell rfl,HI3.out.kE.cell rfl⟩
   obtain ⟨r0,r1⟩:w3.cell? ⟨w.heap.size,0,none⟩=some (.string ⟨#[]⟩) /\ w3.cell? ⟨w.heap.size,1,none⟩=some (.slice none 0 0):=⟨HI3.out.kR.cell rfl,HI3.out.kR.cell rfl⟩
   have f0:w3.frozen? ⟨w.heap.size,0,none⟩=false:=heap_frozen HI3.out.kR
   have f1:w3.frozen? ⟨w.heap.size,1,none⟩=false:=heap_frozen HI3.out.kR
   have HNo':=Lib.hid (fun (hp:paOk s (N,tats U)=false)=>HNo.out w3 HI3.out.low (pr_none fun y hy=>by obtain rfl:=Option.some.inj (HEn.out.symm.trans hy); exact hp))
   clear HNo
   by_cases h0:c=0
   ·subst h0
    by_cases h1:t=s
    ·subst h1
     have e1:(t.toList != t.toList)=false:=by simp
     have HYes:=Lib.hid (show PaP t w (.returned (.tuple #[.agg #[.string N, .slice so m sc], .int .i64 0])) ((w3.setCell ⟨w.heap.size,0,none⟩ (.string N)).setCell ⟨w.heap.size,1,none⟩ (.slice so m sc)) from by
      have hOk:paOk t (N,tats U)=true:=pa_mk HCT.out.1 (by have h:=HCT.out.2; unfold txV at h; rw [if_pos HCT.out.1] at h; exact h)
      obtain ⟨k1,k2,k3⟩:=pa_some (s:=t) (x:=(N,tats U)) (pr_some HEn.out hOk)
      have hbg:=HI3.out.big
      unfold PaP
      rw [k1,k2,k3]
      exact ⟨so,m,sc,rfl,own_atts (ownsRow_setCell_below (ownsRow_setCell_below HI3.out.row (a:=⟨w.heap.size,0,none⟩) (by show w.heap.size < bs; omega) _) (a:=⟨w.heap.size,1,none⟩) (by show w.heap.size < bs; omega) _)
       ((HI3.out.own.set (a:=⟨w.heap.size,0,none⟩) (by show w.heap.size < bs; omega) _).set (a:=⟨w.heap.size,1,none⟩) (by show w.heap.size < bs; omega) _),below_set1 (below_set1 HI3.out.low w.heap.size 0 (Nat.le_refl _) _) w.heap.size 1 (Nat.le_refl _) _⟩)
     clear HNo'
     go_wp2_with fail
     refine bodyPost_ret (v := .tuple #[.agg #[.string N, .slice so m sc], .int .i64 0]) (by simp only [results,Tryz.results39]; go_simp) rfl ?_
     exact HYes.out
    ·have e2:(t.toList == s.toList)=false:=by rw [str_eq]; exact decide_eq_false h1
     have e1:(t.toList != s.toList)=true:=by unfold bne; rw [e2]; rfl
     have HOk:=Lib.hid (HNo'.out (by
      unfold paOk
      rw [decide_eq_true HCT.out.1,Bool.true_and]
      refine decide_eq_false fun e=>h1 ?_
      have h:=HCT.out.2
      unfold txV at h
      rw [if_pos HCT.out.1] at h
      rw [<- h]
      exact (congrArg ofL e).trans (ofL_data s)))
     clear HNo' h1
     go_wp2_with fail
     refine bodyPost_ret (v := .tuple #[.agg #[.string ⟨#[]⟩, .slice none 0 0], .int .i64 4]) (by simp only [results,Tryz.results39]; go_simp) rfl ?_
     exact HOk.out
   ·have d1:(c != 0)=true:=by simpa using h0
    have HOk:=Lib.hid (HNo'.out (by unfold paOk; rw [decide_eq_false (by rw [HCT.out.1]; exact h0),Bool.false_and]))
    clear HNo' h0
    go_wp2_with fail
    refine bodyPost_ret (v := .tuple #[.agg #[.string ⟨#[]⟩, .slice none 0 0], .int .i64 4]) (by simp only [results,Tryz.results39]; go_simp) rfl ?_
    exact HOk.out
end Go.Proofs.YtmmdaegdkikkpaaGreatDoor
end
