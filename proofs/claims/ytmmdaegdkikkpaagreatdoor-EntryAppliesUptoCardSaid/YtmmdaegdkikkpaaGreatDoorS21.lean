/-
  Texts of the schema layer and of those beneath it, joined: SchLow, SchLkR, SchMuR, SchMaR. Conditions stand at each contract.
-/
import Derived.Deep.Onto
import Derived.Test.YtmmdaegdkikkpaaGreatDoorS20
set_option linter.unusedVariables false
set_option linter.unusedSimpArgs false
set_option linter.unnecessarySimpa false

section
set_option maxRecDepth 100000
namespace Go.Proofs.YtmmdaegdkikkpaaGreatDoor
open Go.RowKit Go.PlainAid
theorem ins_at {L:List ByteArray} {q:ByteArray} {m:Nat} (h:∀ x ∈ L.take m,cmpS x q < 0) (hm:m <= L.length) (hn:m < L.length -> ¬ cmpS (partAt L m) q < 0 /\ partAt L m ≠ q):insS L q=L.take m ++ [q] ++ L.drop m:=by
 have h1:insS (L.take m ++ L.drop m) q=L.take m ++ insS (L.drop m) q:=insS_all (L.drop m) (L.take m) h
 rw [List.take_append_drop] at h1
 rw [h1,List.append_assoc]
 congr 1
 by_cases k:m < L.length
 ·obtain ⟨a,b⟩:=hn k
  rw [List.drop_eq_getElem_cons k]
  have e:partAt L m=L[m]:=by unfold partAt; rw [List.getD_eq_getElem?_getD,List.getElem?_eq_getElem k]; rfl
  rw [e] at a b
  unfold insS
  rw [if_neg a,if_neg b]; rfl
 ·rw [List.drop_of_length_le (by omega)]; rfl
theorem ins_same {L:List ByteArray} {q:ByteArray} {m:Nat} (h:∀ x ∈ L.take m,cmpS x q < 0) (hm:m < L.length) (e:partAt L m=q):insS L q=L:=by
 have h1:insS (L.take m ++ L.drop m) q=L.take m ++ insS (L.drop m) q:=insS_all (L.drop m) (L.take m) h
 rw [List.take_append_drop] at h1
 have e2:L[m]=q:=by rw [<- e]; unfold partAt; rw [List.getD_eq_getElem?_getD,List.getElem?_eq_getElem hm]; rfl
 have h2:insS (L.drop m) q=L.drop m:=by
  rw [List.drop_eq_getElem_cons hm,e2]
  unfold insS
  rw [if_neg (cs_irrefl q),if_pos rfl]
 rw [h1,h2,List.take_append_drop]
theorem low_take {l:List ByteArray} {j:Nat} (h:j < l.length):sortU ((l.take (j + 1)).map lowS)=insS (sortU ((l.take j).map lowS)) (lowS (partAt l j)):=by
 rw [take_snoc l j h,List.map_append, <- sortU_snoc]; rfl
theorem strs_takeO {w:World} {b n cap:Nat} {l:List ByteArray} (h:StrsAt w (some ⟨b,0,none⟩) n cap l) (m:Nat) (hm:m <= n):StrsAt w (some ⟨b,0,none⟩) m cap (l.take m):=by
 obtain ⟨h1,h2,h3,h4⟩:=h
 refine ⟨by rw [List.length_take]; omega,by omega,h3,fun hp => ?_⟩
 obtain ⟨b',off,e,hb,hc⟩:=h4 (by omega)
 refine ⟨b',off,e,hb,fun j hj => ?_⟩
 rw [List.length_take] at hj
 rw [hc j (by omega)]
 unfold partAt
 rw [List.getD_eq_getElem?_getD,List.getD_eq_getElem?_getD,List.getElem?_take_of_lt (by omega)]
theorem strs_dropO {w:World} {b n cap:Nat} {l:List ByteArray} (h:StrsAt w (some ⟨b,0,none⟩) n cap l) (m:Nat) (hm:m <= n):StrsAt w (some ⟨b,m,none⟩) (n - m) (cap - m) (l.drop m):=by
 obtain ⟨h1,h2,h3,h4⟩:=h
 refine ⟨by rw [List.length_drop]; omega,by omega,by unfold maxLen at *; omega,fun hp => ?_⟩
 obtain ⟨b',off,e,hb,hc⟩:=h4 (by omega)
 obtain ⟨rfl,rfl,_⟩:=(show b=b' /\ 0=off /\ True by have:=Option.some.inj e; simp at this; exact ⟨this.1,this.2,trivial⟩)
 refine ⟨b,m,rfl,hb,fun j hj => ?_⟩
 rw [List.length_drop] at hj
 have:=hc (m + j) (by omega)
 rw [Nat.zero_add] at this
 rw [this]
 unfold partAt
 rw [List.getD_eq_getElem?_getD,List.getD_eq_getElem?_getD,List.getElem?_drop]
theorem strs_zeroC (w:World) (ao:Option Addr) (c:Nat) (h:c <= maxLen):StrsAt w ao 0 c []:=⟨rfl,Nat.zero_le _,h,fun h=>absurd h (Nat.lt_irrefl _)⟩
theorem strs_zero (w:World) (ao:Option Addr):StrsAt w ao 0 0 []:=⟨rfl,Nat.le_refl _,Nat.zero_le _,fun h=>absurd h (Nat.lt_irrefl _)⟩
set_option maxHeartbeats 16000000 in
theorem lower7_s (ao:Option Addr) (n cap:Nat) (l:List ByteArray) (w:World) (h:StrsAt w ao n cap l) (hz:∀ s ∈ l,s.size <= 1000000000) (hn:n <= 100000) :
  Calls Tryz.prog 218 #[.slice ao n cap] w fun e w'=>∃ oo oc,e = .returned (.slice oo (sortU (l.map lowS)).length oc) /\ w'.ownsRow w.heap.size 9 1 (.slice oo (sortU (l.map lowS)).length oc) (sortU (l.map lowS)).length (scells (sortU (l.map lowS))) /\ Below w.heap.size w w':=by
 have HS:=Lib.hid h
 have HZ:=Lib.hid hz
 have hl:=h.1
 have hcx:=h.2.2.1
 have hcn:=h.2.1
 unfold maxLen at hcx
 have HLen:=Lib.hid hl
 clear h hz hl
 go_enter Tryz.func218,Tryz.ntmps218
 go_wp2_with fail
 go_loopw [3,4,5,6,7] (fun s3 i s5 s6 s7 wr=>∃ (j:Nat) (L:List ByteArray) (oo:Option Addr) (oc:Nat),s3 = .slice oo L.length oc /\ i = .int .i64 j /\ j <= n /\ Hid (L=sortU ((l.take j).map lowS)) /\ Hid (wr.ownsRow w.heap.size 9 1 (.slice oo L.length oc) L.length (scells L)) /\ Hid (L = [] -> oo=none /\ oc=0) /\ Hid (Below w.heap.size w wr)) (fun _ i _ _ _ _=>n - (intOf i).toNat)
 case atStart=>exact ⟨0,[],none,0,rfl,rfl,Nat.zero_le _,Lib.hid (by rw [List.take_zero]; rfl),Lib.hid (World.ownsRow_nil _ _ _ _),Lib.hid (fun _=>⟨rfl,rfl⟩),Lib.hid (Below.refl _ _)⟩
 case round =>
  obtain ⟨j,L,oo,oc,rfl,rfl,hj,HL,HO,HE,HB⟩:=hrel
  have hLl:L.length <= 100000:=by
   rw [HL.out]
   have:=sortU_len ((l.take j).map lowS)
   rw [List.length_map,List.length_take] at this
   omega
  by_cases hlt:j < n
  ·have d1:decide ((j:Int) < (n:Int))=true:=decide_eq_true (by omega)
   have d0:(0:Int) <= (j:Int):=by omega
   have d3:(j:Int) < (n:Int):=by omega
   obtain ⟨b,off,rfl,hbl,hs⟩:=HS.out.2.2.2 (by omega)
   have hcell:=cell_later HB.out (hs j (by rw [HLen.out]; exact hlt))
   clear hs
   have hps:=HZ.out _ (part_mem l j (by rw [HLen.out]; exact hlt))
   have HN:=Lib.hid (low_take (l:=l) (j:=j) (by rw [HLen.out]; exact hlt))
   obtain ⟨p,hp⟩:∃ x,partAt l j=x:=⟨_,rfl⟩
   rw [hp] at hcell hps HN
   clear hp
   have HLw:=Lib.hid (rLower_s p wr hps)
   obtain ⟨q,hq⟩:∃ x,lowS p=x:=⟨_,rfl⟩
   rw [hq] at HLw HN
   clear hq
   go_wp2_with fail
   refine HLw.out.mono ?_
   rintro e w1 ⟨rfl,hb⟩
   have HO1:=Lib.hid (own_below HO.out hb)
   have HB1:=Lib.hid (HB.out.trans (hb.mono HB.out.size))
   have HN2:=Lib.hid (show sortU ((l.take (j + 1)).map lowS)=insS L q by rw [HN.out, <- HL.out])
   clear hb hcell HLw
   go_wp2_with fail
   go_loop [6] (fun k=>∃ m:Nat,m <= L.length /\ k = .int .i64 m /\ Hid (∀ x ∈ L.take m,cmpS x q < 0)) (fun k=>L.length - (intOf k).toNat)
   case atStart=>exact ⟨0,Nat.zero_le _,rfl,Lib.hid (fun x hx=>by rw [List.take_zero] at hx; cases hx)⟩
   case round =>
    obtain ⟨m,hm,rfl,HA⟩:=hrel
    have m0:(0:Int) <= (m:Int):=by omega
    by_cases hml:m < L.length
    ·have m1:(m:Int) < (L.length:Int):=by omega
     have m2:decide ((m:Int) < (L.length:Int))=true:=decide_eq_true m1
     obtain ⟨g,oc',e,hg1,hg2⟩:=own_loc HO1.out (by omega)
     simp only [Value.slice.injEq] at e
     obtain ⟨rfl,_,rfl⟩:=e
     obtain ⟨_,oc2,e2,hat⟩:=strs_own HO1.out rfl
     simp only [Value.slice.injEq] at e2
     obtain ⟨rfl,_,rfl⟩:=e2
     have HAt:=Lib.hid hat
     obtain ⟨b2,off2,e3,hb2,hs2⟩:=hat.2.2.2 (by omega)
     obtain ⟨rfl,rfl⟩:=(show g=b2 /\ 0=off2 by have:=Option.some.inj e3; simp at this; exact this)
     have hcm:=hs2 m hml
     rw [Nat.zero_add] at hcm
     have hoc:=hat.2.1
     have hocx:=hat.2.2.1
     unfold maxLen at hocx
     have HTk:=Lib.hid (take_snoc L m hml)
     obtain ⟨x,hx⟩:∃ y,partAt L m=y:=⟨_,rfl⟩
     have HX:=Lib.hid hx
     rw [hx] at hcm HTk
     clear hx hs2 e3 hat
     by_cases hc:cmpS x q < 0
     ·have e5:Op.bytesLess x.toList q.toList=true:=by rw [str_less]; exact decide_eq_true hc
      have HA2:=Lib.hid (show ∀ y ∈ L.take (m + 1),cmpS y q < 0 from fun y hy=>by
       rw [HTk.out] at hy
       rcases List.mem_append.1 hy with k | k
       ·exact HA.out y k
       ·rw [List.mem_singleton.1 k]; exact hc)
      go_wp2_with fail
      go_round
      case rel=>exact ⟨m + 1,by omega,by go_num,HA2⟩
      case measure=>simp [intOf]; omega
     ·have e5:Op.bytesLess x.toList q.toList=false:=by rw [str_less]; exact decide_eq_false hc
      by_cases hxq:x=q
      ·have HSm:=Lib.hid (ins_same HA.out hml (HX.out.trans hxq))
       have e6:(x.toList == q.toList)=true:=by rw [hxq]; simp
       clear hxq
       go_wp2_with fail
       go_roundw
       case rel=>exact ⟨j + 1,L,some ⟨g,0,none⟩,oc,rfl,by go_num,by omega,Lib.hid (by rw [HN2.out,HSm.out]),HO1,Lib.hid (fun h=>by rw [h] at hml; exact absurd hml (Nat.not_lt_zero _)),HB1⟩
       case measure=>simp [intOf]; omega
      ·have e6:(x.toList == q.toList)=false:=by
        rw [Lib.toList_data,Lib.toList_data]
        exact beq_false_of_ne (fun k=>hxq (ba_ext k))
       have HIn:=Lib.hid (ins_at HA.out (Nat.le_of_lt hml) (fun _=>by rw [HX.out]; exact ⟨hc,hxq⟩))
       have m3:(m:Int) <= (oc:Int):=by omega
       have m4:(m:Int) <= (L.length:Int):=by omega
       have m5:(m:Int) < (oc:Int):=by omega
       go_wp2_with (first
        | (at_builtin; refine push_strs w1 (World.ownsRow_nil w1 w1.heap.size 9 1) (.tmp 45) (.tmp 48) (strs_takeO HAt.out (m) (by omega)) ?_ ?_ ?_ ?_ ?_ ?_ ?_; exact rfl; exact rfl; exact rfl; exact rfl; omega; exact Nat.le_refl _; intro v2 w2 hown2 hg2 _; rw [Nat.zero_add,List.nil_append] at hown2; have HB2:=Lib.hid ((Below.refl w1.heap.size w1).grown hg2 (Nat.le_refl _) (fun k hk=>by cases hk)); obtain ⟨ao2,cap2,rfl⟩:=own_slc hown2; have HO2:=Lib.hid hown2; clear hown2 hg2)
        | (at_builtin; refine push_str w2 HO2.out (.tmp 50) (.tmp 52) q ?_ ?_ ?_ ?_ ?_ ?_ ?_; exact rfl; exact rfl; exact rfl; exact rfl; omega; exact HB2.out.size; intro v3 w3 hown3 hb3; have HB3:=Lib.hid (HB2.out.trans hb3); obtain ⟨ao3,cap3,rfl⟩:=own_slc hown3; have HO3:=Lib.hid hown3; clear hown3 hb3)
        | (at_builtin; refine push_strs w3 HO3.out (.tmp 54) (.tmp 57) ((strs_dropO HAt.out (m) (by omega)).below (HB3.out)) ?_ ?_ ?_ ?_ ?_ ?_ ?_; exact rfl; exact rfl; exact rfl; exact rfl; omega; exact HB3.out.size; intro v4 w4 hown4 hg4 _; have HB4:=Lib.hid (HB3.out.grown hg4 HB3.out.size (fun k hk=>(HO3.out.lt k hk).1)); rw [show m + 1 + (L.length - m)=L.length + 1 by omega] at hown4; obtain ⟨ao4,cap4,rfl⟩:=own_slc hown4; have HO4:=Lib.hid hown4; clear hown4 hg4))
       have HQ:=Lib.hid (show insS L q=L.take (m) ++ [q] ++ L.drop (m) from HIn.out)
       have HQL:=Lib.hid (show (insS L q).length=L.length + 1 by rw [HQ.out]; simp; try omega)
       have HR4:=Lib.hid (show w4.ownsRow w.heap.size 9 1 (.slice ao4 (insS L q).length cap4) (insS L q).length (scells (insS L q)) by
        rw [HQL.out]
        have:=HO4.out.mono HB1.out.size
        rw [HQ.out,scells_app,scells_app]
        exact this)
       have HB5:=Lib.hid (HB1.out.trans (HB4.out.mono HB1.out.size))
       go_roundw
       case rel=>exact ⟨j + 1,insS L q,ao4,cap4,by rw [HQL.out],by go_num,by omega,Lib.hid HN2.out.symm,HR4,Lib.hid (fun h=>by have:=HQL.out; rw [h] at this; simp at this),HB5⟩
       case measure=>simp [intOf]; omega
    ·obtain rfl:L.length=m:=by omega
     have m2:decide ((L.length:Int) < (L.length:Int))=false:=decide_eq_false (by omega)
     have HIn:=Lib.hid (ins_at HA.out (Nat.le_refl _) (fun h=>absurd h (Nat.lt_irrefl _)))
     by_cases hz0:L.length=0
     ·obtain rfl:L = []:=List.length_eq_zero_iff.1 hz0
      obtain ⟨rfl,rfl⟩:=HE.out rfl
      simp only [List.length_nil] at *
      go_wp2_with (first
       | (at_builtin; refine push_strs w1 (World.ownsRow_nil w1 w1.heap.size 9 1) (.tmp 45) (.tmp 48) (vo:=none) (vn:=0) (vc:=0) (vs:=[]) (strs_zero _ _) ?_ ?_ ?_ ?_ ?_ ?_ ?_; exact rfl; exact rfl; exact rfl; exact rfl; omega; exact Nat.le_refl _; intro v2 w2 hown2 hg2 _; rw [Nat.zero_add,List.nil_append] at hown2; have HB2:=Lib.hid ((Below.refl w1.heap.size w1).grown hg2 (Nat.le_refl _) (fun k hk=>by cases hk)); obtain ⟨ao2,cap2,rfl⟩:=own_slc hown2; have HO2:=Lib.hid hown2; clear hown2 hg2)
       | (at_builtin; refine push_str w2 HO2.out (.tmp 50) (.tmp 52) q ?_ ?_ ?_ ?_ ?_ ?_ ?_; exact rfl; exact rfl; exact rfl; exact rfl; omega; exact HB2.out.size; intro v3 w3 hown3 hb3; have HB3:=Lib.hid (HB2.out.trans hb3); obtain ⟨ao3,cap3,rfl⟩:=own_slc hown3; have HO3:=Lib.hid hown3; clear hown3 hb3)
       | (at_builtin; refine push_strs w3 HO3.out (.tmp 54) (.tmp 57) (vo:=none) (vn:=0) (vc:=0) (vs:=[]) (strs_zero _ _) ?_ ?_ ?_ ?_ ?_ ?_ ?_; exact rfl; exact rfl; exact rfl; exact rfl; omega; exact HB3.out.size; intro v4 w4 hown4 hg4 _; have HB4:=Lib.hid (HB3.out.grown hg4 HB3.out.size (fun k hk=>(HO3.out.lt k hk).1)); rw [show 0 + 1 + 0=1 by omega] at hown4; obtain ⟨ao4,cap4,rfl⟩:=own_slc hown4; have HO4:=Lib.hid hown4; clear hown4 hg4))
      have HQ:=Lib.hid (show insS ([]:List ByteArray) q=([]:List ByteArray).take (0) ++ [q] ++ ([]:List ByteArray).drop (0) from HIn.out)
      have HQL:=Lib.hid (show (insS ([]:List ByteArray) q).length=1 by rw [HQ.out]; simp)
      have HR4:=Lib.hid (show w4.ownsRow w.heap.size 9 1 (.slice ao4 (insS ([]:List ByteArray) q).length cap4) (insS ([]:List ByteArray) q).length (scells (insS ([]:List ByteArray) q)) by
       rw [HQL.out]
       have:=HO4.out.mono HB1.out.size
       rw [HQ.out,scells_app,scells_app]
       simpa [scells] using this)
      have HB5:=Lib.hid (HB1.out.trans (HB4.out.mono HB1.out.size))
      go_roundw
      case rel=>exact ⟨j + 1,insS ([]:List ByteArray) q,ao4,cap4,by rw [HQL.out],by go_num,by omega,Lib.hid HN2.out.symm,HR4,Lib.hid (fun h=>by have:=HQL.out; rw [h] at this; simp at this),HB5⟩
      case measure=>simp [intOf]; omega
     ·obtain ⟨g,oc',e,hg1,hg2⟩:=own_loc HO1.out (by omega)
      simp only [Value.slice.injEq] at e
      obtain ⟨rfl,_,rfl⟩:=e
      obtain ⟨_,oc2,e2,hat⟩:=strs_own HO1.out rfl
      simp only [Value.slice.injEq] at e2
      obtain ⟨rfl,_,rfl⟩:=e2
      have HAt:=Lib.hid hat
      have hoc:=hat.2.1
      have hocx:=hat.2.2.1
      unfold maxLen at hocx
      clear hat
      have m3:((L.length:Nat):Int) <= (oc:Int):=by omega
      have m4:((L.length:Nat):Int) <= (L.length:Int):=by omega
      by_cases hcap:oc=L.length
      ·subst hcap
       go_wp2_with (first
        | (at_builtin; refine push_strs w1 (World.ownsRow_nil w1 w1.heap.size 9 1) (.tmp 45) (.tmp 48) (strs_takeO HAt.out (L.length) (by omega)) ?_ ?_ ?_ ?_ ?_ ?_ ?_; exact rfl; exact rfl; exact rfl; exact rfl; omega; exact Nat.le_refl _; intro v2 w2 hown2 hg2 _; rw [Nat.zero_add,List.nil_append] at hown2; have HB2:=Lib.hid ((Below.refl w1.heap.size w1).grown hg2 (Nat.le_refl _) (fun k hk=>by cases hk)); obtain ⟨ao2,cap2,rfl⟩:=own_slc hown2; have HO2:=Lib.hid hown2; clear hown2 hg2)
        | (at_builtin; refine push_str w2 HO2.out (.tmp 50) (.tmp 52) q ?_ ?_ ?_ ?_ ?_ ?_ ?_; exact rfl; exact rfl; exact rfl; exact rfl; omega; exact HB2.out.size; intro v3 w3 hown3 hb3; have HB3:=Lib.hid (HB2.out.trans hb3); obtain ⟨ao3,cap3,rfl⟩:=own_slc hown3; have HO3:=Lib.hid hown3; clear hown3 hb3)
        | (at_builtin; refine push_strs w3 HO3.out (.tmp 54) (.tmp 57) (strs_zero _ (some ⟨g,0,none⟩)) ?_ ?_ ?_ ?_ ?_ ?_ ?_; exact rfl; exact rfl; exact rfl; exact rfl; omega; exact HB3.out.size; intro v4 w4 hown4 hg4 _; have HB4:=Lib.hid (HB3.out.grown hg4 HB3.out.size (fun k hk=>(HO3.out.lt k hk).1)); rw [show L.length + 1 + 0=L.length + 1 by omega] at hown4; obtain ⟨ao4,cap4,rfl⟩:=own_slc hown4; have HO4:=Lib.hid hown4; clear hown4 hg4))
       have HQ:=Lib.hid (show insS L q=L.take (L.length) ++ [q] ++ L.drop (L.length) from HIn.out)
       have HQL:=Lib.hid (show (insS L q).length=L.length + 1 by rw [HQ.out]; simp; try omega)
       have HR4:=Lib.hid (show w4.ownsRow w.heap.size 9 1 (.slice ao4 (insS L q).length cap4) (insS L q).length (scells (insS L q)) by
        rw [HQL.out]
        have:=HO4.out.mono HB1.out.size
        rw [HQ.out,scells_app,scells_app]
        rw [List.drop_of_length_le (Nat.le_refl _)]; exact this)
       have HB5:=Lib.hid (HB1.out.trans (HB4.out.mono HB1.out.size))
       go_roundw
       case rel=>exact ⟨j + 1,insS L q,ao4,cap4,by rw [HQL.out],by go_num,by omega,Lib.hid HN2.out.symm,HR4,Lib.hid (fun h=>by have:=HQL.out; rw [h] at this; simp at this),HB5⟩
       case measure=>simp [intOf]; omega
      ·have m5:((L.length:Nat):Int) < (oc:Int):=by omega
       go_wp2_with (first
        | (at_builtin; refine push_strs w1 (World.ownsRow_nil w1 w1.heap.size 9 1) (.tmp 45) (.tmp 48) (strs_takeO HAt.out (L.length) (by omega)) ?_ ?_ ?_ ?_ ?_ ?_ ?_; exact rfl; exact rfl; exact rfl; exact rfl; omega; exact Nat.le_refl _; intro v2 w2 hown2 hg2 _; rw [Nat.zero_add,List.nil_append] at hown2; have HB2:=Lib.hid ((Below.refl w1.heap.size w1).grown hg2 (Nat.le_refl _) (fun k hk=>by cases hk)); obtain ⟨ao2,cap2,rfl⟩:=own_slc hown2; have HO2:=Lib.hid hown2; clear hown2 hg2)
        | (at_builtin; refine push_str w2 HO2.out (.tmp 50) (.tmp 52) q ?_ ?_ ?_ ?_ ?_ ?_ ?_; exact rfl; exact rfl; exact rfl; exact rfl; omega; exact HB2.out.size; intro v3 w3 hown3 hb3; have HB3:=Lib.hid (HB2.out.trans hb3); obtain ⟨ao3,cap3,rfl⟩:=own_slc hown3; have HO3:=Lib.hid hown3; clear hown3 hb3)
        | (at_builtin; refine push_strs w3 HO3.out (.tmp 54) (.tmp 57) (strs_zeroC _ (some ⟨g,L.length,none⟩) (oc - L.length) (by unfold maxLen; omega)) ?_ ?_ ?_ ?_ ?_ ?_ ?_; exact rfl; exact rfl; exact rfl; exact rfl; omega; exact HB3.out.size; intro v4 w4 hown4 hg4 _; have HB4:=Lib.hid (HB3.out.grown hg4 HB3.out.size (fun k hk=>(HO3.out.lt k hk).1)); rw [show L.length + 1 + 0=L.length + 1 by omega] at hown4; obtain ⟨ao4,cap4,rfl⟩:=own_slc hown4; have HO4:=Lib.hid hown4; clear hown4 hg4))
       have HQ:=Lib.hid (show insS L q=L.take (L.length) ++ [q] ++ L.drop (L.length) from HIn.out)
       have HQL:=Lib.hid (show (insS L q).length=L.length + 1 by rw [HQ.out]; simp; try omega)
       have HR4:=Lib.hid (show w4.ownsRow w.heap.size 9 1 (.slice ao4 (insS L q).length cap4) (insS L q).length (scells (insS L q)) by
        rw [HQL.out]
        have:=HO4.out.mono HB1.out.size
        rw [HQ.out,scells_app,scells_app]
        rw [List.drop_of_length_le (Nat.le_refl _)]; exact this)
       have HB5:=Lib.hid (HB1.out.trans (HB4.out.mono HB1.out.size))
       go_roundw
       case rel=>exact ⟨j + 1,insS L q,ao4,cap4,by rw [HQL.out],by go_num,by omega,Lib.hid HN2.out.symm,HR4,Lib.hid (fun h=>by have:=HQL.out; rw [h] at this; simp at this),HB5⟩
       case measure=>simp [intOf]; omega
  ·obtain rfl:n=j:=by omega
   have d1:decide ((n:Int) < (n:Int))=false:=decide_eq_false (by omega)
   have HLL:=Lib.hid (show L=sortU (l.map lowS) by rw [HL.out,List.take_of_length_le (by rw [HLen.out]; exact Nat.le_refl _)])
   go_wp2_with fail
   go_ret
   rw [<- HLL.out]
   exact ⟨_,_,rfl,HO.out,HB.out⟩
theorem step_push_strs {ops:Array Oper} {o:Oper} {a:Act} {K:Act -> World -> Prop} {Q:Exit -> Act -> World -> Prop} {E:Prop} (wr:World) {base:Nat} {v:Value} {n:Nat} {xs:List Value} (hown:wr.ownsRow base 9 1 v n xs) (s x:Operand)
  {vo:Option Addr} {vn vc:Nat} {vs:List ByteArray} (hv:StrsAt wr vo vn vc vs) (hgd:o.guard=none)
  (ho:o.op = .call { callee := .builtin .append,args := #[s,x],argTypes := #[55,55] })
  (hs:a.eval s=v) (hx:a.eval x = .slice vo vn vc) (hn:n + vn <= 1000000000) (hbase:base <= wr.heap.size)
  (h:∀ v' w',w'.ownsRow base 9 1 v' (n + vn) (xs ++ scells vs) -> Below base wr w' -> K (a.put o.dst v') w') :
  if Region.wanted o (yielded ops a.tmps)=true then Oper.wp Tryz.prog o a wr K Q else E:=by
 obtain ⟨i0,hi,hz0,hz1,hz2⟩:=info_parts info_string
 obtain ⟨h1,h2,h3,h4⟩:=hv
 have key:∀ ad:Addr,vo=some ad -> (∀ j u,(scells vs)[j]? = some u -> wr.cell? (ad.add j)=some u) -> if Region.wanted o (yielded ops a.tmps)=true then Oper.wp Tryz.prog o a wr K Q else E:=fun ad e hc =>
  step_append_own_at hgd s x 55 ho base 9 i0 (.string ⟨#[]⟩) 1 16 Tryz.underlying55 hi hz0 hz1 hz2 rfl (by decide) v n xs hs hown ad vn vc (scells vs) (by rw [hx,e]) (by unfold scells; rw [List.length_map]; omega)
   hc (by intro u hu; unfold scells at hu; obtain ⟨y,_,rfl⟩:=List.mem_map.1 hu; rfl) (by unfold maxLen; omega) (by omega) hbase (fun v' w' k1 k2 _=>h v' w' k1 ((Below.refl base wr).grown k2 hbase (fun k hk=>(hown.lt k hk).1)))
 by_cases hp:0 < vn
 ·obtain ⟨b,off,e,hb,hc⟩:=h4 hp
  refine key _ e fun j u hu => ?_
  unfold scells at hu
  rw [List.getElem?_map] at hu
  cases hj:vs[j]? with
  | none=>rw [hj] at hu; cases hu
  | some y =>
   rw [hj] at hu
   obtain rfl:=(Option.some.inj hu).symm
   have hjl:j < vs.length:=(List.getElem?_eq_some_iff.1 hj).1
   have:=hc j hjl
   rw [Go.WideShapes.add_plain]
   rw [this]; unfold partAt
   rw [List.getD_eq_getElem?_getD,hj]; rfl
 ·have hvn:vn=0:=by omega
  subst hvn
  have hvs:vs = []:=List.length_eq_zero_iff.1 h1
  subst hvs
  cases vo with
  | some ad=>exact key ad rfl (fun j u hu=>by simp [scells] at hu)
  | none =>
   have hrun:(Builtin.append_ #[55,55] o.type #[v, .slice none 0 vc]).run Tryz.prog wr = .ok v wr:=by
    rcases hown.2 with ⟨rfl,_⟩ | ⟨g,cap,cur,rfl,_,_,hc,_⟩
    ·exact run_append_nothing wr 55 55 o.type 9 i0 Tryz.underlying55 hi none 0 0 (Nat.le_refl _) _ (Src.ofNil wr Tryz.underlying55 vc)
    ·exact run_append_nothing wr 55 55 o.type 9 i0 Tryz.underlying55 hi _ _ _ hc _ (Src.ofNil wr Tryz.underlying55 vc)
   have hw:Region.wanted o (yielded ops a.tmps)=true:=by simp [Region.wanted,hgd]
   rw [if_pos hw]
   unfold Oper.wp execOp
   simp only [ho,resolve,invoke,builtin,Sem.run_bind,Sem.run_pure,Result.andThen_ok,List.map_toArray,List.map_cons,List.map_nil,hs,hx,hrun]
   exact h v wr (by simpa [scells] using hown) (Below.refl _ _)
theorem sound_has {ts:List Ty} {cs:List Cl} {k:Nat} (h:k < (soundC ts cs).length):soundC ts cs=cs:=by
 unfold soundC at h ⊢
 split
 ·rfl
 ·rename_i hc; rw [if_neg hc] at h; exact absurd h (Nat.not_lt_zero _)
theorem ks_take (l:List Nat) (j:Nat) (h:j < l.length):l.take (j + 1)=l.take j ++ [l.getD j 0]:=by
 rw [List.getD_eq_getElem?_getD,List.getElem?_eq_getElem h]; exact List.take_succ_eq_append_getElem h
theorem ks_mem (l:List Nat) (j:Nat) (h:j < l.length):l.getD j 0 ∈ l:=by
 rw [List.getD_eq_getElem?_getD,List.getElem?_eq_getElem h]; exact List.getElem_mem h
theorem flat_each {f:Cl -> List ByteArray} {C:List Cl} {P:ByteArray -> Prop} (hf:∀ c ∈ C, ∀ s ∈ f c,P s) {l:List Nat} (h:∀ q ∈ l,q < C.length):∀ s ∈ (l.flatMap fun q=>f (clAt C q)),P s:=fun s hs=>by
 obtain ⟨q,hq,hs⟩:=List.mem_flatMap.1 hs
 exact hf _ (cl_mem C q (h q hq)) s hs
theorem flat_map (f:Cl -> List ByteArray) (C:List Cl) (ks:List Nat):(ks.map (clAt C)).flatMap f=ks.flatMap fun q=>f (clAt C q):=by rw [List.flatMap_map]
set_option maxHeartbeats 8000000 in
theorem must7_s (v:Value) (ts:List Ty) (cs:List Cl) (n:ByteArray) (w:World) (h:SchV w v ts cs) (hn:n.size <= 1000000000) :
  Calls Tryz.prog 142 #[v, .string n] w fun e w'=>∃ oo oc,e = .returned (.slice oo (mustS (soundC ts cs) n).length oc) /\ w'.ownsRow w.heap.size 9 1 (.slice oo (mustS (soundC ts cs) n).length oc) (mustS (soundC ts cs) n).length (scells (mustS (soundC ts cs) n)) /\ Below w.heap.size w w':=by
 have h':=h
 obtain ⟨ao,k,cap,bo,m,dap,rfl,_,hCl,_,hsC⟩:=h'
 have hb0:=(Below.refl w.heap.size w).alloc (Nat.le_refl _) (.cells #[.slice ao k cap, .slice bo m dap] 25)
 have HK0:=Lib.hid (fb_new w ao k cap bo m dap)
 have HC:=Lib.hid (lineage7_s _ ts cs n _ (h.below hb0) hn)
 have HCl:=Lib.hid hCl
 have hml:=hCl.1
 have hmx:=hCl.2.2.1
 unfold maxLen at hmx
 have hmc:=hCl.2.1
 have HML:=Lib.hid hml
 obtain ⟨C,hC⟩:∃ x,soundC ts cs=x:=⟨_,rfl⟩
 have HCs:=Lib.hid (fun q (hq:q < C.length)=>show C=cs by rw [<- hC] at hq ⊢; exact sound_has hq)
 have HF:=Lib.hid (fewC_sound ts cs)
 have HZ:=Lib.hid (smC_sound (ts:=ts) hsC)
 rw [hC] at HC HF HZ ⊢
 clear h hb0 hCl hsC hC hml
 go_enter Tryz.func142,Tryz.ntmps142
 go_wp2_with fail
 refine HC.out.mono ?_
 rintro e w1 ⟨io,ic,ks,rfl,hks,_,hmap,hlt,hk32,hb⟩
 have HK1:=Lib.hid (HK0.out.step hb)
 have HI:=Lib.hid hks
 have HLt:=Lib.hid hlt
 have HE:=Lib.hid (show mustS C n=sortU ((ks.flatMap fun q=>(clAt C q).must).map lowS) by rw [mustS_eq, <- hmap,flat_map])
 have hicx:=hks.2.2.1
 unfold maxLen at hicx
 have hicc:=hks.2.1
 clear hb hks hmap hlt HC HK0
 go_wp2_with fail
 go_loopw [5,7] (fun s5 i wr=>∃ (j:Nat) (ro:Option Addr) (rc N:Nat),N <= j * 64 /\ s5 = .slice ro N rc /\ i = .int .i64 j /\ j <= ks.length /\ Hid (wr.ownsRow w1.heap.size 9 1 (.slice ro N rc) N (scells ((ks.take j).flatMap fun q=>(clAt C q).must))) /\ Hid (Below w1.heap.size w1 wr)) (fun _ i _=>ks.length - (intOf i).toNat)
 case atStart=>exact ⟨0,none,0,0,Nat.zero_le _,rfl,rfl,Nat.zero_le _,Lib.hid (World.ownsRow_nil _ _ _ _),Lib.hid (Below.refl _ _)⟩
 case round =>
  obtain ⟨j,ro,rc,N,hN,rfl,rfl,hj,HO,HB⟩:=hrel
  have HK:=Lib.hid (HK1.out.step HB.out)
  obtain ⟨c0,c1⟩:=HK.out.cells
  by_cases hlt:j < ks.length
  ·have d1:decide ((j:Int) < (ks.length:Int))=true:=decide_eq_true (by omega)
   have d0:(0:Int) <= (j:Int):=by omega
   have d3:(j:Int) < (ks.length:Int):=by omega
   obtain ⟨ib,ioff,rfl,hib,his⟩:=(HI.out.below HB.out).2.2.2 (by omega)
   have hic:=his j hlt
   have hq:=HLt.out _ (ks_mem ks j hlt)
   have HT:=Lib.hid (ks_take ks j hlt)
   obtain ⟨q,hqq⟩:∃ x,ks.getD j 0=x:=⟨_,rfl⟩
   rw [hqq] at hic hq HT
   have hCc:=HCs.out q hq
   have hqm:q < m:=by rw [<- HML.out, <- hCc]; exact hq
   have q0:(0:Int) <= (q:Int):=by omega
   have q1:(q:Int) < (m:Int):=by omega
   obtain ⟨b,off,rfl,hbl,hs⟩:=(HCl.out.below HK.out.low).2.2.2 (by omega)
   obtain ⟨_,_,⟨a1,p1,q1,y0,hS1⟩,_⟩:=hs q hqm
   rw [<- hCc] at hS1
   have hml:=HF.out _ (cl_mem C q hq)
   obtain ⟨mu,hmu⟩:∃ x,(clAt C q).must=x:=⟨_,rfl⟩
   rw [hmu] at hS1
   have HN:=Lib.hid hmu
   have HS1:=Lib.hid hS1
   have hp1:=hS1.1
   have hmu64:p1 <= 64:=by rw [<- hp1, <- hmu]; exact hml.1
   have hp1x:=hS1.2.2.1
   unfold maxLen at hp1x
   have hp1c:=hS1.2.1
   have hsz:=HB.out.size
   clear his hs hqq hCc hmu hS1 hp1 hml
   go_wp2_with fail
   go_region_law (refine step_push_strs wr.drew (base:=w1.heap.size) (v := .slice ro N rc) (n:=N) (xs:=scells ((ks.take j).flatMap fun q=>(clAt C q).must)) (show World.ownsRow _ _ _ _ _ _ _ from HO.out) _ _ (vo:=a1) (vn:=p1) (vc:=q1) (vs:=mu) (show StrsAt _ _ _ _ _ from HS1.out) rfl rfl rfl (by simp [Act.eval,Act.put]) (by omega) (by simp; omega) ?_; intro v3 w3 g1 g2; obtain ⟨ao3,cap3,rfl⟩:=row_slice g1; have HO3:=Lib.hid g1; have HB3:=Lib.hid g2; clear g1 g2)
   all_goals
    have HBn:=Lib.hid (HB.out.trans (show Below w1.heap.size wr w3 from ⟨HB3.out.os,HB3.out.tape,HB3.out.output,HB3.out.size,HB3.out.block⟩))
    have HOn:=Lib.hid (show w3.ownsRow w1.heap.size 9 1 (.slice ao3 (N + p1) cap3) (N + p1) (scells ((ks.take (j + 1)).flatMap fun q=>(clAt C q).must)) by
     rw [HT.out,List.flatMap_append,scells_app,List.flatMap_cons,List.flatMap_nil,List.append_nil,HN.out]
     exact HO3.out)
    clear HB3 HO3
    go_wp2_with fail
    go_roundw
    case rel=>exact ⟨j + 1,ao3,cap3,N + p1,by omega,rfl,by go_num,by omega,HOn,HBn⟩
    case measure=>simp [intOf]; omega
  ·obtain rfl:ks.length=j:=by omega
   have d1:decide ((ks.length:Int) < (ks.length:Int))=false:=decide_eq_false (by omega)
   obtain ⟨L,hL⟩:∃ x,(ks.flatMap fun q=>(clAt C q).must)=x:=⟨_,rfl⟩
   have hLs:∀ s ∈ L,s.size <= 1000000000:=by rw [<- hL]; exact flat_each (f:=fun c=>c.must) (P:=fun s=>s.size <= 1000000000) (fun c hc s hs=>(HZ.out c hc).2.2.1 s hs) HLt.out
   have hO:=HO.out
   rw [List.take_length,hL] at hO
   have hLN:L.length=N:=by
    have:=hO.1
    unfold scells at this
    rw [List.length_map] at this
    omega
   obtain ⟨ro',rc',e,hst⟩:=strs_own hO hLN
   simp only [Value.slice.injEq] at e
   obtain ⟨rfl,_,rfl⟩:=e
   have HLw:=Lib.hid (lower7_s ro N rc L wr hst hLs (by omega))
   rw [<- hL, <- HE.out] at HLw
   have hwr:=Nat.le_trans HK1.out.low.size HB.out.size
   clear hO hst hL hLs
   go_wp2_with fail
   refine HLw.out.mono ?_
   rintro e w4 ⟨oo,oc,rfl,ho,hb⟩
   have HO4:=Lib.hid (ho.mono hwr)
   have HB4:=Lib.hid (HK.out.low.trans (hb.mono hwr))
   clear ho hb
   go_wp2_with fail
   go_ret
   exact ⟨_,_,rfl,HO4.out,HB4.out⟩
theorem step_push_strsG {ops:Array Oper} {o:Oper} {a:Act} {K:Act -> World -> Prop} {Q:Exit -> Act -> World -> Prop} {E:Prop} (wr:World) {base:Nat} {v:Value} {n:Nat} {xs:List Value} (hown:wr.ownsRow base 9 1 v n xs) (s x:Operand)
  {vo:Option Addr} {vn vc:Nat} {vs:List ByteArray} (hv:StrsAt wr vo vn vc vs) (hgd:o.guard=none)
  (ho:o.op = .call { callee := .builtin .append,args := #[s,x],argTypes := #[55,55] })
  (hs:a.eval s=v) (hx:a.eval x = .slice vo vn vc) (hn:n + vn <= 1000000000) (hbase:base <= wr.heap.size)
  (h:∀ v' w',w'.ownsRow base 9 1 v' (n + vn) (xs ++ scells vs) -> wr.grownBy w' v.ownBlock -> (v'.ownBlock=v.ownBlock ∨ v'.ownBlock=some wr.heap.size) -> K (a.put o.dst v') w') :
  if Region.wanted o (yielded ops a.tmps)=true then Oper.wp Tryz.prog o a wr K Q else E:=by
 obtain ⟨i0,hi,hz0,hz1,hz2⟩:=info_parts info_string
 obtain ⟨h1,h2,h3,h4⟩:=hv
 have key:∀ ad:Addr,vo=some ad -> (∀ j u,(scells vs)[j]? = some u -> wr.cell? (ad.add j)=some u) -> if Region.wanted o (yielded ops a.tmps)=true then Oper.wp Tryz.prog o a wr K Q else E:=fun ad e hc =>
  step_append_own_at hgd s x 55 ho base 9 i0 (.string ⟨#[]⟩) 1 16 Tryz.underlying55 hi hz0 hz1 hz2 rfl (by decide) v n xs hs hown ad vn vc (scells vs) (by rw [hx,e]) (by unfold scells; rw [List.length_map]; omega)
   hc (by intro u hu; unfold scells at hu; obtain ⟨y,_,rfl⟩:=List.mem_map.1 hu; rfl) (by unfold maxLen; omega) (by omega) hbase (fun v' w' k1 k2 k3=>h v' w' k1 k2 k3)
 by_cases hp:0 < vn
 ·obtain ⟨b,off,e,hb,hc⟩:=h4 hp
  refine key _ e fun j u hu => ?_
  unfold scells at hu
  rw [List.getElem?_map] at hu
  cases hj:vs[j]? with
  | none=>rw [hj] at hu; cases hu
  | some y =>
   rw [hj] at hu
   obtain rfl:=(Option.some.inj hu).symm
   have hjl:j < vs.length:=(List.getElem?_eq_some_iff.1 hj).1
   have:=hc j hjl
   rw [Go.WideShapes.add_plain]
   rw [this]; unfold partAt
   rw [List.getD_eq_getElem?_getD,hj]; rfl
 ·have hvn:vn=0:=by omega
  subst hvn
  have hvs:vs = []:=List.length_eq_zero_iff.1 h1
  subst hvs
  cases vo with
  | some ad=>exact key ad rfl (fun j u hu=>by simp [scells] at hu)
  | none =>
   have hrun:(Builtin.append_ #[55,55] o.type #[v, .slice none 0 vc]).run Tryz.prog wr = .ok v wr:=by
    rcases hown.2 with ⟨rfl,_⟩ | ⟨g,cap,cur,rfl,_,_,hc,_⟩
    ·exact run_append_nothing wr 55 55 o.type 9 i0 Tryz.underlying55 hi none 0 0 (Nat.le_refl _) _ (Src.ofNil wr Tryz.underlying55 vc)
    ·exact run_append_nothing wr 55 55 o.type 9 i0 Tryz.underlying55 hi _ _ _ hc _ (Src.ofNil wr Tryz.underlying55 vc)
   have hw:Region.wanted o (yielded ops a.tmps)=true:=by simp [Region.wanted,hgd]
   rw [if_pos hw]
   unfold Oper.wp execOp
   simp only [ho,resolve,invoke,builtin,Sem.run_bind,Sem.run_pure,Result.andThen_ok,List.map_toArray,List.map_cons,List.map_nil,hs,hx,hrun]
   exact h v wr (by simpa [scells] using hown) ⟨rfl,rfl,rfl,Nat.le_refl _,fun _ _ _=>rfl⟩ (.inl rfl)
theorem grown_on {w a b:World} {r0 r1:Option Nat} (h1:w.grownBy a r0) (h2:a.grownBy b r1) (h:r1=r0 ∨ ∃ g,r1=some g /\ w.heap.size <= g):w.grownBy b r0:=by
 obtain ⟨o1,t1,u1,s1,b1⟩:=h1
 obtain ⟨o2,t2,u2,s2,b2⟩:=h2
 refine ⟨o2.trans o1,t2.trans t1,u2.trans u1,Nat.le_trans s1 s2,fun k hk hne=>(b2 k (Nat.lt_of_lt_of_le hk s1) ?_).trans (b1 k hk hne)⟩
 rcases h with rfl | ⟨g,rfl,hg⟩
 ·exact hne
 ·intro e; have:=Option.some.inj e; omega
theorem FB.grown {w W V:World} {ao:Option Addr} {n cap:Nat} {bo:Option Addr} {m dap:Nat} {r:Option Nat} (h:FB w W ao n cap bo m dap) (hg:W.grownBy V r) (hr:∀ g,r=some g -> w.heap.size + 1 <= g):FB w V ao n cap bo m dap:=by
 have hg':=hg
 obtain ⟨o2,t2,u2,s2,b2⟩:=hg
 exact ⟨(b2 _ h.big (fun e=>by have:=hr _ e.symm; omega)).trans h.box,h.low.grown hg' h.low.size (fun k hk=>by have:=hr k hk; omega),Nat.lt_of_lt_of_le h.big s2⟩
structure MayR (w w3 wr:World) (C:List Cl) (ms:List ByteArray) (ks:List Nat) (j:Nat) (s0 v:Value) (N:Nat):Prop where
 own:wr.ownsRow (w.heap.size + 1) 9 1 v N (scells (ms ++ (ks.take j).flatMap fun q=>(clAt C q).may))
 gr:w3.grownBy wr s0.ownBlock
 at_:v.ownBlock=s0.ownBlock ∨ ∃ g,v.ownBlock=some g /\ w3.heap.size <= g
set_option maxHeartbeats 8000000 in
theorem may7_s (v:Value) (ts:List Ty) (cs:List Cl) (n:ByteArray) (w:World) (h:SchV w v ts cs) (hn:n.size <= 1000000000) :
  Calls Tryz.prog 144 #[v, .string n] w fun e w'=>∃ oo oc,e = .returned (.slice oo (mayS (soundC ts cs) n).length oc) /\ w'.ownsRow w.heap.size 9 1 (.slice oo (mayS (soundC ts cs) n).length oc) (mayS (soundC ts cs) n).length (scells (mayS (soundC ts cs) n)) /\ Below w.heap.size w w':=by
 have h':=h
 obtain ⟨ao,k,cap,bo,m,dap,rfl,_,hCl,_,hsC⟩:=h'
 have hb0:=(Below.refl w.heap.size w).alloc (Nat.le_refl _) (.cells #[.slice ao k cap, .slice bo m dap] 25)
 have HK0:=Lib.hid (fb_new w ao k cap bo m dap)
 have HC:=Lib.hid (must7_s _ ts cs n _ (h.below hb0) hn)
 have HV0:=Lib.hid (h.below hb0)
 have HCl:=Lib.hid hCl
 have hml:=hCl.1
 have hmx:=hCl.2.2.1
 unfold maxLen at hmx
 have hmc:=hCl.2.1
 have HML:=Lib.hid hml
 obtain ⟨C,hC⟩:∃ x,soundC ts cs=x:=⟨_,rfl⟩
 have HCs:=Lib.hid (fun q (hq:q < C.length)=>show C=cs by rw [<- hC] at hq ⊢; exact sound_has hq)
 have HF:=Lib.hid (fewC_sound ts cs)
 have HZ:=Lib.hid (smC_sound (ts:=ts) hsC)
 have HC2:=Lib.hid (fun W hV=>lineage7_s (.agg #[.slice ao k cap, .slice bo m dap]) ts cs n W hV hn)
 have HSC:=Lib.hid (sound_soundC ts cs)
 have HSL:=Lib.hid (soundC_len ts cs)
 rw [hC] at HC HC2 HF HZ HSC HSL ⊢
 clear h hb0 hCl hsC hC hml
 go_enter Tryz.func144,Tryz.ntmps144
 go_wp2_with fail
 refine HC.out.mono ?_
 rintro e w2 ⟨oo,oc,rfl,hown,hb⟩
 have HK2:=Lib.hid (HK0.out.step hb)
 have HV2:=Lib.hid (HV0.out.below hb)
 have hown':w2.ownsRow (w.heap.size + 1) 9 1 (.slice oo (mustS C n).length oc) (mustS C n).length (scells (mustS C n)):=by simpa using hown
 obtain ⟨ms,hms⟩:∃ x,mustS C n=x:=⟨_,rfl⟩
 rw [hms] at hown'
 have HMs:=Lib.hid hms
 have hmz:ms.length <= 10000:=by
  rw [<- hms,mustS_eq]
  refine Nat.le_trans (sortU_len _) ?_
  rw [List.length_map]
  have h1:=lineS_small HSC.out n
  have h2:∀ l:List Cl,(∀ c ∈ l,c.must.length <= 64) -> (l.flatMap fun c=>c.must).length <= l.length * 64:=by
   intro l
   induction l with
   | nil=>intro _; simp
   | cons c l ih =>
    intro h
    have a:=h c (by simp)
    have b:=ih (fun x hx=>h x (by simp [hx]))
    rw [List.flatMap_cons,List.length_append,List.length_cons]; omega
  have h3:=h2 (lineS C n) (fun c hc=>(HF.out c (lineS_mem hc)).1)
  have h4:=HSL.out
  omega
 have HOw:=Lib.hid hown'
 rw [hms]
 obtain ⟨c0,c1⟩:=HK2.out.cells
 have hw2:w.heap.size + 1 <= w2.heap.size:=HK2.out.big
 clear hb hown hown' hms HC HK0 HV0
 go_wp2_with fail
 refine (HC2.out _ HV2.out).mono ?_
 rintro e w1 ⟨io,ic,ks,rfl,hks,hfr,hmap,hlt,hk32,hb⟩
 have HK1:=Lib.hid (HK2.out.step hb)
 have HI:=Lib.hid hks
 have HFr:=Lib.hid hfr
 have HLt:=Lib.hid hlt
 have HE:=Lib.hid (show mayS C n=sortU ((ms ++ ks.flatMap fun q=>(clAt C q).may).map lowS) by rw [mayS_eq,HMs.out, <- hmap,flat_map])
 have hicx:=hks.2.2.1
 unfold maxLen at hicx
 have hicc:=hks.2.1
 have M0:Hid (MayR w w1 w1 C ms ks 0 (.slice oo ms.length oc) (.slice oo ms.length oc) ms.length):=Lib.hid ⟨by rw [List.take_zero,List.flatMap_nil,List.append_nil]; exact own_below HOw.out hb,⟨rfl,rfl,rfl,Nat.le_refl _,fun _ _ _=>rfl⟩, .inl rfl⟩
 have HRow:=Lib.hid (show ∀ g,(Value.slice oo ms.length oc).ownBlock=some g -> w.heap.size + 1 <= g /\ g < w2.heap.size from fun g e=>HOw.out.lt g e)
 have hw21:=hb.size
 clear hb hks hmap hlt HK2 c0 c1 HOw hfr HC2
 go_wp2_with fail
 go_loopw [5,7] (fun s5 i wr=>∃ (j:Nat) (ro:Option Addr) (rc N:Nat),N <= ms.length + j * 64 /\ s5 = .slice ro N rc /\ i = .int .i64 j /\ j <= ks.length /\ Hid (MayR w w1 wr C ms ks j (.slice oo ms.length oc) (.slice ro N rc) N)) (fun _ i _=>ks.length - (intOf i).toNat)
 case atStart=>exact ⟨0,oo,oc,ms.length,by omega,rfl,rfl,Nat.zero_le _,M0⟩
 case round =>
  clear M0
  obtain ⟨j,ro,rc,N,hN,rfl,rfl,hj,HM⟩:=hrel
  have HK:=Lib.hid (HK1.out.grown HM.out.gr (fun g e=>(HRow.out g e).1))
  have hsz:w1.heap.size <= wr.heap.size:=HM.out.gr.size
  obtain ⟨c0,c1⟩:=HK.out.cells
  by_cases hlt:j < ks.length
  ·have d1:decide ((j:Int) < (ks.length:Int))=true:=decide_eq_true (by omega)
   have d0:(0:Int) <= (j:Int):=by omega
   have d3:(j:Int) < (ks.length:Int):=by omega
   obtain ⟨ib,ioff,rfl,hib,his⟩:=HI.out.2.2.2 (by omega)
   have hic:=his j hlt
   have hic:wr.cell? ⟨ib,ioff + j,none⟩=some (.int .i64 ((ks.getD j 0:Nat):Int)):=by
    rw [<- hic]
    exact World.cell?_of_block (a:=⟨ib,ioff + j,none⟩) (HM.out.gr.block ib hib (fun e=>by have h1:=(HRow.out ib e.symm).2; have h2:=HFr.out ib ioff rfl; omega))
   have hq:=HLt.out _ (ks_mem ks j hlt)
   have HT:=Lib.hid (ks_take ks j hlt)
   obtain ⟨q,hqq⟩:∃ x,ks.getD j 0=x:=⟨_,rfl⟩
   rw [hqq] at hic hq HT
   have hCc:=HCs.out q hq
   have hqm:q < m:=by rw [<- HML.out, <- hCc]; exact hq
   have q0:(0:Int) <= (q:Int):=by omega
   have q1:(q:Int) < (m:Int):=by omega
   obtain ⟨b,off,rfl,hbl,hs⟩:=(HCl.out.below HK.out.low).2.2.2 (by omega)
   obtain ⟨_,_,_,a1,p1,q1,y0,hS1⟩:=hs q hqm
   rw [<- hCc] at hS1
   have hml:=HF.out _ (cl_mem C q hq)
   obtain ⟨mu,hmu⟩:∃ x,(clAt C q).may=x:=⟨_,rfl⟩
   rw [hmu] at hS1
   have HN:=Lib.hid hmu
   have HS1:=Lib.hid hS1
   have hp1:=hS1.1
   have hmu64:p1 <= 64:=by rw [<- hp1, <- hmu]; exact hml.2
   have hp1x:=hS1.2.2.1
   unfold maxLen at hp1x
   have hp1c:=hS1.2.1
   clear his hs hqq hCc hmu hS1 hp1 hml
   go_wp2_with fail
   go_region_law (refine step_push_strsG wr.drew (base:=w.heap.size + 1) (v := .slice ro N rc) (n:=N) (xs:=scells (ms ++ (ks.take j).flatMap fun q=>(clAt C q).may)) (show World.ownsRow _ _ _ _ _ _ _ from HM.out.own) _ _ (vo:=a1) (vn:=p1) (vc:=q1) (vs:=mu) (show StrsAt _ _ _ _ _ from HS1.out) rfl rfl rfl (by simp [Act.eval,Act.put]) (by omega) (by simp; omega) ?_; intro v3 w3 g1 g2 g3; obtain ⟨ao3,cap3,rfl⟩:=row_slice g1; have HO3:=Lib.hid g1; have HB3:=Lib.hid g2; have HAt3:=Lib.hid g3; clear g1 g2 g3)
   all_goals
    have HMn:Hid (MayR w w1 w3 C ms ks (j + 1) (.slice oo ms.length oc) (.slice ao3 (N + p1) cap3) (N + p1)):=Lib.hid ⟨by
     rw [HT.out,List.flatMap_append, <- List.append_assoc,scells_app,List.flatMap_cons,List.flatMap_nil,List.append_nil,HN.out]
     exact HO3.out,grown_on HM.out.gr (show wr.grownBy w3 (Value.slice ro N rc).ownBlock from ⟨HB3.out.os,HB3.out.tape,HB3.out.output,HB3.out.size,HB3.out.block⟩) HM.out.at_,by
     rcases HAt3.out with h | h
     ·rcases HM.out.at_ with h2 | ⟨g,h2,h3⟩
      ·exact .inl (h.trans h2)
      ·exact .inr ⟨g,h.trans h2,h3⟩
     ·exact .inr ⟨_,h,hsz⟩⟩
    clear HB3 HO3 HAt3
    go_wp2_with fail
    go_roundw
    case rel=>exact ⟨j + 1,ao3,cap3,N + p1,by omega,rfl,by go_num,by omega,HMn⟩
    case measure=>simp [intOf]; omega
  ·obtain rfl:ks.length=j:=by omega
   have d1:decide ((ks.length:Int) < (ks.length:Int))=false:=decide_eq_false (by omega)
   obtain ⟨L,hL⟩:∃ x,(ms ++ ks.flatMap fun q=>(clAt C q).may)=x:=⟨_,rfl⟩
   have hLs:∀ s ∈ L,s.size <= 1000000000:=by
    rw [<- hL]
    intro s hs
    rcases List.mem_append.1 hs with h | h
    ·rw [<- HMs.out,mustS_eq,sortU_mem] at h
     obtain ⟨x,hx,rfl⟩:=List.mem_map.1 h
     obtain ⟨c,hc,hx⟩:=List.mem_flatMap.1 hx
     rw [lowS_size]
     exact (HZ.out c (lineS_mem hc)).2.2.1 x hx
    ·exact flat_each (f:=fun c=>c.may) (P:=fun s=>s.size <= 1000000000) (fun c hc s hs=>(HZ.out c hc).2.2.2 s hs) HLt.out s h
   have hO:=HM.out.own
   rw [List.take_length,hL] at hO
   have hLN:L.length=N:=by
    have:=hO.1
    unfold scells at this
    rw [List.length_map] at this
    omega
   obtain ⟨ro',rc',e,hst⟩:=strs_own hO hLN
   simp only [Value.slice.injEq] at e
   obtain ⟨rfl,_,rfl⟩:=e
   have HLw:=Lib.hid (lower7_s ro N rc L wr hst hLs (by omega))
   rw [<- hL, <- HE.out] at HLw
   have hwr:=HK.out.low.size
   clear hO hst hL hLs
   go_wp2_with fail
   refine HLw.out.mono ?_
   rintro e w4 ⟨oo',oc',rfl,ho,hb⟩
   have HO4:=Lib.hid (ho.mono hwr)
   have HB4:=Lib.hid (HK.out.low.trans (hb.mono hwr))
   clear ho hb
   go_wp2_with fail
   go_ret
   exact ⟨_,_,rfl,HO4.out,HB4.out⟩
end Go.Proofs.YtmmdaegdkikkpaaGreatDoor
end
