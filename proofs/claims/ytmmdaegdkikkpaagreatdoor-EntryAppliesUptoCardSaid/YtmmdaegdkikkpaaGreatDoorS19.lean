/-
  Texts of the schema layer and of those beneath it, joined: EntVals, EntSrt, EntCk, SchOrd, SchNmR. Conditions stand at each contract.
-/
import Derived.Test.YtmmdaegdkikkpaaGreatDoorS18
set_option linter.unusedVariables false
set_option linter.unusedSimpArgs false
set_option linter.unnecessarySimpa false

section
set_option maxRecDepth 100000
namespace Go.Proofs.YtmmdaegdkikkpaaGreatDoor
open Go.RowKit Go.PlainAid Go.Maps Go.ChangeMaps
structure NVI (T:List Ty) (n:ByteArray) (vs:List ByteArray) (w:World) (box:Obj) (k:Nat) (D:DataW Unit) (v:Value) (wr:World):Prop where
 zero:∀ q,q < k -> nrmE T n (partAt vs q)=0
 set:SetZ wr (w.heap.size + 1) k D (fmsL T n (vs.take k))
 row:wr.ownsRow (w.heap.size + 1 + 1) 9 1 v k (scells (fmsL T n (vs.take k)))
 box:Kb wr w.heap.size box
 low:Below w.heap.size w wr
theorem NVI.below {T:List Ty} {n:ByteArray} {vs:List ByteArray} {w:World} {box:Obj} {k:Nat} {D:DataW Unit} {v:Value} {wr V:World} (h:NVI T n vs w box k D v wr) (hb:Below wr.heap.size wr V):NVI T n vs w box k D v V:=
 ⟨h.zero,h.set.below hb h.set.lt,own_below h.row hb,h.box.step hb,h.low.trans (hb.mono h.low.size)⟩
theorem nvE_fault {T:List Ty} {n:ByteArray} {vs:List ByteArray} {k:Nat} (hk:k < vs.length) (h:∀ q,q < k -> nrmE T n (partAt vs q)=0) {e:Int} (he:nrmE T n (partAt vs k)=e) (h0:e ≠ 0):nvE T n vs=e /\ nvL T n vs = []:=by
 have h1:fmsE T n vs=e:=by
  unfold fmsE
  rw [firstE_hit h (by rw [he]; exact h0) hk,he]
 have h2:nvE T n vs=e:=by unfold nvE; rw [h1,if_pos h0]
 exact ⟨h2,by unfold nvL; rw [if_neg (by rw [h2]; exact h0)]⟩
theorem nvE_end {T:List Ty} {n:ByteArray} {vs:List ByteArray} (h:∀ q,q < vs.length -> nrmE T n (partAt vs q)=0):fmsE T n vs=0:=firstE_zero h
theorem nvE_twice {T:List Ty} {n:ByteArray} {vs:List ByteArray} (h:fmsE T n vs=0) (hn:¬ (fmsL T n vs).Nodup):nvE T n vs=7 /\ nvL T n vs = []:=by
 have h2:nvE T n vs=7:=by unfold nvE; rw [if_neg (by simp [h]),if_neg hn]
 exact ⟨h2,by unfold nvL; rw [if_neg (by rw [h2]; decide)]⟩
theorem nvE_ok {T:List Ty} {n:ByteArray} {vs:List ByteArray} (h:fmsE T n vs=0) (hn:(fmsL T n vs).Nodup):nvE T n vs=0 /\ nvL T n vs=fmsL T n vs:=by
 have h2:nvE T n vs=0:=by unfold nvE; rw [if_neg (by simp [h]),if_pos hn]
 exact ⟨h2,by unfold nvL; rw [if_pos h2]⟩
def NvP (T:List Ty) (n:ByteArray) (vs:List ByteArray) (w:World) (e:Ending) (w':World):Prop:=
 ∃ u,e = .returned (.tuple #[u, .int .i64 (nvE T n vs)]) /\ w'.ownsRow w.heap.size 9 1 u (nvL T n vs).length (scells (nvL T n vs)) /\ Below w.heap.size w w'
theorem NvP.no {T:List Ty} {n:ByteArray} {vs:List ByteArray} {w w':World} {c:Int} (h:nvE T n vs=c /\ nvL T n vs = []) (hb:Below w.heap.size w w'):NvP T n vs w (.returned (.tuple #[.slice none 0 0, .int .i64 c])) w':=
 ⟨_,by rw [h.1],by rw [h.2]; exact World.ownsRow_nil _ _ _ _,hb⟩
theorem row_lower {w:World} {base B n size:Nat} {e:TypeId} {v:Value} {xs:List Value} (h:w.ownsRow B e size v n xs) (hB:base <= B):w.ownsRow base e size v n xs:=by
 refine ⟨h.1, ?_⟩
 rcases h.2 with k | ⟨g,cap,cur,e1,h2,h3⟩
 ·exact .inl k
 ·exact .inr ⟨g,cap,cur,e1,Nat.le_trans hB h2,h3⟩
set_option maxHeartbeats 8000000 in
theorem nvals_s (to:Option Addr) (tn tc:Nat) (co:Option Addr) (cn cc:Nat) (ts:List Ty) (cs:List Cl) (n:ByteArray) (ao:Option Addr) (m cap:Nat) (vs:List ByteArray) (w:World) (h:SchV w (.agg #[.slice to tn tc, .slice co cn cc]) ts cs) (hv:StrsAt w ao m cap vs) (hn:n.size <= 1000000000) (hz:SmallS vs) (hm:m <= 1100000) (ho:IntOk w) :
  Calls Tryz.prog 77 #[.agg #[.slice to tn tc, .slice co cn cc], .string n, .slice ao m cap] w fun e w'=>NvP (soundT ts cs) n vs w e w':=by
 obtain ⟨h1,h2,h3,h4⟩:=hv
 subst h1
 unfold maxLen at h3
 have H4:=Lib.hid h4; clear h4
 have HZ:=Lib.hid hz; clear hz
 have HS:=Lib.hid h; clear h
 have HO:=Lib.hid ho; clear ho
 obtain ⟨T,hT⟩:∃ T,soundT ts cs=T:=⟨_,rfl⟩
 have HN:=Lib.hid (fun (V:World) (s:ByteArray) (hV:SchV V (.agg #[.slice to tn tc, .slice co cn cc]) ts cs) (hs:s.size <= 1100000) (hO:IntOk V)=>normalF_s _ ts cs n s V hV hn hs hO)
 rw [hT] at HN ⊢
 clear hT
 have hbx:=below_al w (.cells #[.slice to tn tc, .slice co cn cc] 25)
 have HI0:=Lib.hid (show NVI T n vs w (.cells #[.slice to tn tc, .slice co cn cc] 25) 0 (.map []) (.slice none 0 0) ((w.alloc (.cells #[.slice to tn tc, .slice co cn cc] 25)).alloc (.map #[] 0)) from
  ⟨(fun q hq=>absurd hq (Nat.not_lt_zero _)),by simpa [fmsL] using setZ_made (w.alloc (.cells #[.slice to tn tc, .slice co cn cc] 25)),World.ownsRow_nil _ _ _ _,(kbl_new w _).step (below_al _ _),hbx.trans ((below_al _ _).mono hbx.size)⟩)
 clear hbx
 have hmm := @run_makeMap Tryz.prog
 go_enter Tryz.func77,Tryz.ntmps77
 go_wp2_with fail
 clear hmm
 go_loopw [9,11,12,13,17] (fun s9 _ _ _ s17 wr=>∃ (k:Nat) (D:DataW Unit),k <= vs.length /\ s17 = .int .i64 k /\ Hid (NVI T n vs w (.cells #[.slice to tn tc, .slice co cn cc] 25) k D s9 wr)) (fun _ _ _ _ s17 _=>vs.length - (intOf s17).toNat)
 case atStart=>exact ⟨0,_,Nat.zero_le _,rfl,HI0⟩
 case round =>
  clear HI0
  obtain ⟨k,D,hk,rfl,HI⟩:=hrel
  by_cases hlt:k < vs.length
  ·obtain ⟨b,off,rfl,hs⟩:=H4.out (by omega)
   have hcell:=(hs.below HI.out.low hs.1).2 k hlt
   clear hs
   obtain ⟨p,hpe⟩:∃ p,partAt vs k=p:=⟨_,rfl⟩
   have hps:p.size <= 1100000:=by rw [<- hpe]; exact HZ.out _ (part_mem vs k hlt)
   rw [hpe] at hcell
   have HPe:=Lib.hid hpe
   have HT:=Lib.hid (show fmsL T n (vs.take (k + 1))=fmsL T n (vs.take k) ++ [nrmV T n p] by rw [<- hpe]; exact fms_take T n vs k hlt)
   clear hpe
   have d1:(k:Int) < (vs.length:Int):=by omega
   obtain ⟨q0,q1⟩:wr.cell? ⟨w.heap.size,0,none⟩=some (.slice to tn tc) /\ wr.cell? ⟨w.heap.size,1,none⟩=some (.slice co cn cc):=⟨HI.out.box.cell rfl,HI.out.box.cell rfl⟩
   have HNk:=Lib.hid (HN.out wr p (HS.out.below HI.out.low) hps (HO.out.below HI.out.low))
   obtain ⟨c,hc⟩:∃ c,nrmE T n p=c:=⟨_,rfl⟩
   obtain ⟨f,hf⟩:∃ f,nrmV T n p=f:=⟨_,rfl⟩
   rw [hc,hf] at HNk
   rw [hf] at HT
   have HC:=Lib.hid (And.intro hc hf)
   clear hc hf
   by_cases h0:c=0
   ·subst h0
    have hfz:f.size <= 256:=by rw [<- HC.out.2]; exact nrm_sz HC.out.1
    go_wp2_with fail
    refine HNk.out.mono ?_
    rintro e w1 ⟨rfl,hb⟩
    have HI1:=Lib.hid (HI.out.below hb)
    obtain ⟨w2,hrun,hG,hgr⟩:=HI1.out.set.store f (by unfold maxLen; omega) (by unfold maxLen; omega)
    have hown2:=HI1.out.row.kept hgr (by
     cases hr:u9.ownBlock
     ·exact .inl rfl
     ·refine .inr fun e => ?_
      have:=(HI1.out.row.lt _ hr).1
      rw [Option.some.inj (e)] at this
      omega)
    have HG:=Lib.hid hG
    have HLow2:=Lib.hid (HI1.out.low.grown hgr HI1.out.low.size (fun j hj=>by cases hj; exact Nat.le_succ _))
    have HBox2:=Lib.hid (show Kb w2 w.heap.size (.cells #[.slice to tn tc, .slice co cn cc] 25) from (hgr.block _ HI1.out.box.big (by simp)).trans HI1.out.box)
    have hbig:w.heap.size + 1 + 1 <= w2.heap.size:=by have:=HG.out.lt; omega
    clear hb hG hgr q0 q1
    go_wp2_with (at_builtin; go_must (refine push_str w2 hown2 (.tmp 33) (.tmp 35) f ?_ ?_ ?_ ?_ ?_ ?_ ?_; exact rfl; exact rfl; exact rfl; exact rfl; omega; exact hbig; intro v3 w3 hown3 hb3))
    go_roundw
    case rel =>
     refine ⟨k + 1,D.put (klit f) (.lit (.bool true)),by omega,by go_num,Lib.hid ⟨fun q hq => ?_, ?_, ?_,(hb3.block _ (by omega)).trans HBox2.out,HLow2.out.trans (hb3.mono (by omega))⟩⟩
     ·by_cases e:q=k
      ·rw [e,HPe.out]; exact HC.out.1
      ·exact HI.out.zero q (by omega)
     ·rw [HT.out]; exact HG.out.below hb3 (Nat.lt_succ_self _)
     ·rw [HT.out]; simpa [scells] using hown3
    case measure=>simp [intOf]; omega
   ·have HE:=Lib.hid (nvE_fault hlt HI.out.zero (by rw [HPe.out]; exact HC.out.1) h0)
    have d2:(c != 0)=true:=by simpa using h0
    clear h0
    go_wp2_with fail
    refine HNk.out.mono ?_
    rintro e w1 ⟨rfl,hb⟩
    have HB1:=Lib.hid (HI.out.below hb).low
    clear hb
    go_wp2_with fail
    go_ret2
    exact NvP.no HE.out HB1.out
  ·obtain rfl:k=vs.length:=by omega
   have hF0:=nvE_end HI.out.zero
   have hset:=HI.out.set
   have hrow:=HI.out.row
   rw [List.take_length] at hset hrow
   have HR:=Lib.hid hrow
   have hmap:=hset.map
   have HZz:=Lib.hid hset.siz
   obtain ⟨so,sc,rfl,_⟩:=strs_own hrow (fms_len T n vs)
   have HFz:=Lib.hid hF0
   have HFl:=Lib.hid (fms_len T n vs)
   have HLw:=Lib.hid HI.out.low
   clear hset hrow hF0
   obtain ⟨z,hz⟩:∃ z,Maps.size D=z:=⟨_,rfl⟩
   have hzl:z <= vs.length:=by rw [<- hz,HZz.out, <- HFl.out]; exact sortU_len _
   by_cases hnd:(fmsL T n vs).Nodup
   ·have hze:z=vs.length:=by rw [<- hz,HZz.out,sortU_len_new hnd,HFl.out]
    have HE:=Lib.hid (nvE_ok HFz.out hnd)
    have d2:¬ ((z:Int) < (vs.length:Int)):=by omega
    clear hnd hze
    go_wp2_with (at_len; refine wpList_len_own _ rfl _ 150 rfl 9 4 Tryz.underlying150 _ _ _ D rfl hmap ?_; rw [hz])
    go_ret2
    exact ⟨_,by rw [HE.out.1]; rfl,by rw [HE.out.2,HFl.out]; exact row_lower HR.out (by omega),HLw.out⟩
   ·have hze:z < vs.length:=by rw [<- hz,HZz.out, <- HFl.out]; exact sortU_less hnd
    have HE:=Lib.hid (nvE_twice HFz.out hnd)
    have d2:(z:Int) < (vs.length:Int):=by omega
    clear hnd
    go_wp2_with (at_len; refine wpList_len_own _ rfl _ 150 rfl 9 4 Tryz.underlying150 _ _ _ D rfl hmap ?_; rw [hz])
    go_ret2
    exact NvP.no HE.out HLw.out
end Go.Proofs.YtmmdaegdkikkpaaGreatDoor
end

section
set_option maxRecDepth 100000
namespace Go.Proofs.YtmmdaegdkikkpaaGreatDoor
open Go.RowKit Go.PlainAid Go.Sort Go.Lib
theorem nodup_sorted {l:List ByteArray} (h:l.Nodup):((l.map fun s=>s.data.toList).mergeSort fun x y=>decide (x <= y)).map toB=sortU l:=by
 obtain ⟨ss,hss⟩:∃ ss,(l.map fun s=>s.data.toList)=ss:=⟨_,rfl⟩
 rw [hss]
 have hs:=List.pairwise_mergeSort (le:=fun (x y:List UInt8)=>decide (x <= y)) (fun a b c h1 h2=>decide_eq_true (List.le_trans (of_decide_eq_true h1) (of_decide_eq_true h2))) (fun a b=>by
  rcases List.le_total a b with k | k
  ·simp [k]
  ·simp [k]) ss
 have hp:=List.mergeSort_perm ss (fun x y=>decide (x <= y))
 obtain ⟨zs,hz⟩:∃ zs,(ss.mergeSort fun x y=>decide (x <= y))=zs:=⟨_,rfl⟩
 rw [hz] at hs hp ⊢
 have hnd:ss.Nodup:=by
  rw [<- hss]
  exact List.pairwise_map.2 (h.imp fun {a b} k e=>k (ba_ext e))
 have hzn:zs.Nodup:=hp.nodup_iff.2 hnd
 refine asc_ext ?_ (sortU_asc l) fun x => ?_
 ·unfold Asc
  rw [List.pairwise_map]
  refine (hs.and hzn).imp fun {a b} k => ?_
  have hle:a <= b:=of_decide_eq_true k.1
  rcases cs_tri (toB a) (toB b) with c | c | c
  ·exact c
  ·exact absurd (by have:=congrArg (fun s:ByteArray=>s.data.toList) c; simpa [toB] using this) k.2
  ·exact absurd ((lt_cmp b a).2 (by simpa [cmpS,toB] using c)) (List.not_lt.2 hle)
 ·rw [List.mem_map,sortU_mem]
  constructor
  ·rintro ⟨y,hy,rfl⟩
   rw [hp.mem_iff, <- hss,List.mem_map] at hy
   obtain ⟨s,hs',rfl⟩:=hy
   rw [toB_list]; exact hs'
  ·intro hx
   exact ⟨x.data.toList,hp.mem_iff.2 (by rw [<- hss]; exact List.mem_map_of_mem hx),toB_list x⟩
theorem sortRow_s (base n:Nat) (v:Value) (l:List ByteArray) (w:World) (hown:w.ownsRow base 9 1 v n (scells l)) (hl:l.length=n) (hn:n <= 1100000) (hnd:l.Nodup) :
  Calls Tryz.prog 78 #[v] w fun e w'=>e = .returned (.tuple #[]) /\ w'.ownsRow base 9 1 v n (scells (sortU l)) /\ w.grownBy w' v.ownBlock:=by
 rcases hown.2 with ⟨rfl,h0⟩ | ⟨g,cap,cur,rfl,hg,hb,hc,hm,hcs,ht⟩
 ·subst h0
  obtain rfl:l = []:=List.length_eq_zero_iff.1 hl
  refine (AnyM.slices_Sort_string_none Tryz.sort none 0 _).mono ?_
  rintro e w1 ⟨rfl,rfl⟩
  exact ⟨rfl,World.ownsRow_nil _ _ _ _,⟨rfl,rfl,rfl,Nat.le_refl _,fun _ _ _=>rfl⟩⟩
 ·subst hl
  have HE:=nodup_sorted hnd
  obtain ⟨ss,hss⟩:∃ ss,(l.map fun s=>s.data.toList)=ss:=⟨_,rfl⟩
  have hsl:ss.length=l.length:=by rw [<- hss,List.length_map]
  have hgl:g < w.heap.size:=by
   rcases Nat.lt_or_ge g w.heap.size with h' | h'
   ·exact h'
   ·simp [Array.getElem?_eq_none h'] at hb
  have hH:Holds encStr w g 0 ss.toArray:=holds_of_block hb (by rw [hsl, <- hss, <- cells_enc]; simpa using ht)
  rw [hss] at HE
  obtain ⟨ts,hts⟩:∃ ts,(ss.mergeSort fun x y=>decide (x <= y))=ts:=⟨_,rfl⟩
  have htl:ts.length=ss.length:=by rw [<- hts]; exact sort_len ss
  have hS:=AnyM.slices_Sort_string Tryz.sort g 0 cap ss w hH hgl (by omega)
  rw [hsl,hts] at hS
  rw [hts] at HE
  refine hS.mono ?_
  rintro e w' ⟨rfl,m,os,rfl⟩
  have ho1:=ownsRow_sorted (w:=w) (n:=m) (os:=os) (ss:=ss) (ts:=ts) htl hg hb (by omega) hm (by omega)
  refine ⟨rfl, ?_,grownBy_sorted (w:=w) (g:=g) (n:=m) (os:=os) ts.toArray⟩
  rw [hsl] at ho1
  rw [<- HE, <- enc_cells]
  exact ho1
end Go.Proofs.YtmmdaegdkikkpaaGreatDoor
end

section
set_option maxRecDepth 100000
namespace Go.Proofs.YtmmdaegdkikkpaaGreatDoor
open Go.RowKit Go.PlainAid
def enC (en:ByteArray) (l:List At):Int:=if en=⟨#[]⟩ ∨ Nam.normB en=false then 5 else chkA l
theorem emp_eq {s:ByteArray} (h:s ≠ ⟨#[]⟩):(s.toList == ([]:List UInt8))=false:=by
 rw [Lib.toList_data]
 rcases s with ⟨⟨l⟩⟩
 cases l with
 | nil=>exact absurd rfl h
 | cons=>rfl
set_option maxHeartbeats 4000000 in
theorem enCheck_s (en:ByteArray) (ao:Option Addr) (n cap:Nat) (l:List At) (w:World) (hn:en.size <= 1100000) (h:AttrsAt w ao n cap l) (hS:SmallA l) (hF:FewV l) :
  Calls Tryz.prog 22 #[.agg #[.string en, .slice ao n cap]] w fun e w'=>e = .returned (.int .i64 (enC en l)) /\ Below w.heap.size w w':=by
 have hb0:=below_al w (.cells #[.string en, .slice ao n cap] 37)
 have HK:=Lib.hid (kbl_new w (.cells #[.string en, .slice ao n cap] 37))
 have HV:=Lib.hid (Nam.valid_s en (w.alloc (.cells #[.string en, .slice ao n cap] 37)) hn)
 have HC:=Lib.hid (fun (V:World) (hb:Below w.heap.size w V)=>check_s ao n cap l V (h.below hb) hS hF)
 have HB0:=Lib.hid hb0
 have HE:=Lib.hid (show enC en l=if en=⟨#[]⟩ ∨ Nam.normB en=false then 5 else chkA l from rfl)
 clear hb0
 go_enter Tryz.func22,Tryz.ntmps22
 by_cases h0:en=⟨#[]⟩
 ·have HR:=Lib.hid (HE.out.trans (if_pos (.inl h0)))
  subst h0
  go_wp2_with fail
  go_ret
  exact ⟨by rw [HR.out]; rfl,HB0.out⟩
 ·have e0:=emp_eq h0
  have e1:=emp_false h0
  obtain ⟨nb,hnb⟩:∃ b,Nam.normB en=b:=⟨_,rfl⟩
  rw [hnb] at HV HE
  have HE2:=Lib.hid (show enC en l=if nb=false then 5 else chkA l by rw [HE.out]; simp [h0])
  clear HE hnb h0
  go_wp2_with fail
  refine HV.out.mono ?_
  rintro e w1 ⟨rfl,hb⟩
  have HB1:=Lib.hid (HB0.out.trans (hb.mono (by simp)))
  have HK1:=Lib.hid (HK.out.step hb)
  clear hb
  cases nb
  ·go_wp2_with fail
   go_ret
   exact ⟨by rw [HE2.out]; rfl,HB1.out⟩
  ·obtain ⟨k0,k1⟩:w1.cell? ⟨w.heap.size,0,none⟩=some (.string en) /\ w1.cell? ⟨w.heap.size,1,none⟩=some (.slice ao n cap):=⟨HK1.out.cell rfl,HK1.out.cell rfl⟩
   go_wp2_with fail
   refine (HC.out _ HB1.out).mono ?_
   rintro e w2 ⟨rfl,hb⟩
   go_wp2_with fail
   go_ret
   exact ⟨by rw [HE2.out]; rfl,HB1.out.trans (hb.mono HB1.out.size)⟩
theorem digs_S {l:List UInt8} (h:digsB l=true):digS l=true:=by
 obtain ⟨h1,h2⟩:=digs_parts h
 cases l with
 | nil=>exact absurd rfl h1
 | cons c r=>unfold digS; rw [h2]; rfl
theorem atoi_range64 {l:List UInt8} {v:Int} (h:Lib.atoiAll l = .ok v) : -9223372036854775808 <= v /\ v <= 9223372036854775807:=Lib.atoiAll_bounds h
theorem numS_range {s:ByteArray} {n:Int} (h:numS s=some n) : -9223372036854775808 <= n /\ n <= 9223372036854775807:=by
 unfold numS at h
 split at h
 ·cases ha:Lib.atoiAll s.data.toList with
  | ok v=>rw [ha] at h; obtain rfl:=Option.some.inj h; exact atoi_range64 ha
  | _=>rw [ha] at h; simp at h
 ·cases h
theorem digB_zero:digB 48=true:=by decide
theorem rep_dig (z:Nat):(List.replicate z (48:UInt8)).all digB=true:=by
 rw [List.all_eq_true]; intro x hx; rw [List.eq_of_mem_replicate hx]; exact digB_zero
theorem valA_zeros:∀ (z:Nat) (u:List UInt8),valA 0 (List.replicate z 48 ++ u)=valA 0 u
 | 0,_=>rfl
 | z + 1,u=>by
  rw [List.replicate_succ,List.cons_append,valA_cons]
  exact valA_zeros z u
theorem mag_all_val {l:List UInt8} (h:digS l=true):Lib.parseMag l=if valD l < 18446744073709551616 then .ok (valD l) else .range:=by
 unfold digS at h
 rw [Bool.and_eq_true] at h
 cases l with
 | nil=>simp at h
 | cons c r =>
  unfold Lib.parseMag
  rw [if_neg (by simp)]
  exact parse_val _ 0 (by decide) h.2
theorem digS_app {z:Nat} {u:List UInt8} (hu:u ≠ []):digS (List.replicate z 48 ++ u)=digS u:=by
 unfold digS
 rw [List.all_append,rep_dig,Bool.true_and]
 cases u with
 | nil=>exact absurd rfl hu
 | cons c r=>cases z <;> rfl
structure Num (s u:List UInt8) (mn:Bool) (t:List UInt8):Prop where
 parts:s=if mn then 45 :: t else t
 plain:mn=false -> t.head? ≠ some 45
 zeros:∃ z,t=List.replicate z 48 ++ u /\ (0 < z -> u ≠ [])
theorem Num.strip {s u t:List UInt8} {mn:Bool} (h:Num s u mn t):stripL s=t:=by
 rw [h.parts]
 cases mn with
 | true=>exact strip_minus t
 | false =>
  have hp:=h.plain rfl
  show stripL t=t
  cases t with
  | nil=>rfl
  | cons c r=>exact strip_plain c r (fun e=>hp (by rw [e]; rfl))
theorem num_none {s:ByteArray} {u t:List UInt8} {mn:Bool} (h:Num s.data.toList u mn t) (hu:digS u=false):numS s=none:=by
 unfold numS
 rw [h.strip]
 obtain ⟨z,e,hz⟩:=h.zeros
 by_cases h0:u = []
 ·have:z=0:=by
   rcases Nat.eq_zero_or_pos z with k | k
   ·exact k
   ·exact absurd h0 (hz k)
  rw [e,this,h0]; rfl
 ·rw [e,digS_app h0,hu]; rfl
theorem digS_head {c:UInt8} {r:List UInt8} (h:digB c=false):digS (c :: r)=false:=by unfold digS; rw [List.all_cons,h]; simp
theorem readI_neg_bad {u:List UInt8} (h:digsB u=false):readI (45 :: u)=(0,4):=readI_bad (by rw [dec_minus,h])
theorem num_read {s:ByteArray} {u t:List UInt8} {mn:Bool} (h:Num s.data.toList u mn t) (c:UInt8) (r:List UInt8) (hu:u=c :: r) (hd:digB c=true) (hx:c ≠ 48 ∨ r = []) :
  readI (if mn=true /\ u ≠ [48] then 45 :: u else u)=((numS s).getD 0,(readI (if mn=true /\ u ≠ [48] then 45 :: u else u)).2) /\ ((readI (if mn=true /\ u ≠ [48] then 45 :: u else u)).2 == 0)=(numS s).isSome:=by
 obtain ⟨z,e,hz⟩:=h.zeros
 have hne:u ≠ []:=by rw [hu]; simp
 have hst:=h.strip
 have hdg:=digB_bounds hd
 by_cases hall:digS u=true
 ·have hdt:digS t=true:=by rw [e,digS_app hne]; exact hall
  have hmag:=mag_all_val hdt
  have hval:valD t=valD u:=by unfold valD; rw [e]; exact valA_zeros z u
  rw [hval] at hmag
  have hN:numS s=(match Lib.atoiAll s.data.toList with | .ok v=>some v | _=>none):=by unfold numS; rw [hst,if_pos hdt]; rfl
  have hplain:mn=false -> Lib.atoiAll s.data.toList=Lib.signless (Lib.parseMag t):=fun hm=>by
   have hp:=h.parts
   rw [hm] at hp
   have hp:s.data.toList=t:=hp
   rw [hp]
   cases ht:t with
   | nil=>rw [ht] at hdt; cases hdt
   | cons a b =>
    have ha:digB a=true:=by
     rw [ht] at hdt
     unfold digS at hdt
     simp only [Bool.and_eq_true,List.all_cons] at hdt
     exact hdt.2.1
    have hb:=digB_bounds ha
    exact Lib.atoiAll_plain a b (by omega) (by omega)
  have hneg:mn=true -> Lib.atoiAll s.data.toList=Lib.signed (Lib.parseMag t):=fun hm=>by
   have hp:=h.parts
   rw [hm] at hp
   have hp:s.data.toList=45 :: t:=hp
   rw [hp]
   exact Lib.atoiAll_minus t
  by_cases h48:u = [48]
  ·rw [if_neg (fun k=>k.2 h48)]
   have h0:valD u=0:=by rw [h48]; rfl
   rw [h0,if_pos (by decide)] at hmag
   have ha:Lib.atoiAll s.data.toList = .ok 0:=by
    cases mn with
    | true=>rw [hneg rfl,hmag,signed_small (by decide)]; rfl
    | false=>rw [hplain rfl,hmag,signless_small (by decide)]; rfl
   rw [hN,ha,h48,readI_zero]
   exact ⟨rfl,rfl⟩
  ·have hds:digsB u=true:=by
    have hc:c ≠ 48:=by
     rcases hx with k | k
     ·exact k
     ·intro k2; exact h48 (by rw [hu,k2,k])
    unfold digS at hall
    rw [Bool.and_eq_true] at hall
    rw [hu]
    rw [hu] at hall
    show (!(c == 48) && _)=true
    rw [hall.2]
    simpa using hc
   cases mn with
   | true =>
    rw [if_pos ⟨rfl,h48⟩,readI_minus hds,hN,hneg rfl,hmag]
    by_cases hv:valD u <= 9223372036854775808
    ·rw [if_pos hv,if_pos (by omega),signed_small hv]
     exact ⟨rfl,rfl⟩
    ·rw [if_neg hv]
     by_cases hv2:valD u < 18446744073709551616
     ·rw [if_pos hv2,signed_big hv]
      exact ⟨rfl,rfl⟩
     ·rw [if_neg hv2]
      exact ⟨rfl,rfl⟩
   | false =>
    rw [if_neg (fun k=>by cases k.1),readI_plain hds,hN,hplain rfl,hmag]
    by_cases hv:valD u < 9223372036854775808
    ·rw [if_pos hv,if_pos (by omega),signless_small hv]
     exact ⟨rfl,rfl⟩
    ·rw [if_neg hv]
     by_cases hv2:valD u < 18446744073709551616
     ·rw [if_pos hv2,signless_big hv]
      exact ⟨rfl,rfl⟩
     ·rw [if_neg hv2]
      exact ⟨rfl,rfl⟩
 ·have hf:digS u=false:=by simpa using hall
  have hN:=num_none h hf
  have h48:u ≠ [48]:=fun k=>by rw [k] at hf; revert hf; decide
  have hds:digsB u=false:=by
   cases hd2:digsB u with
   | false=>rfl
   | true=>rw [digs_S hd2] at hf; cases hf
  rw [hN]
  cases mn with
  | true=>rw [if_pos ⟨rfl,h48⟩,readI_neg_bad hds]; exact ⟨rfl,rfl⟩
  | false =>
   rw [if_neg (fun k=>by cases k.1),readI_bad (l:=u) (by
    unfold decB
    have h1:c ≠ 45:=fun k=>by rw [k] at hdg; have:(45:UInt8).toNat=45:=rfl; omega
    rw [hu,strip_plain c r h1, <- hu,hds,Bool.or_false]
    exact decide_eq_false h48)]
   exact ⟨rfl,rfl⟩
theorem Num.step {s t:List UInt8} {u:List UInt8} {mn:Bool} (h:Num s (48 :: u) mn t) (hu:u ≠ []):Num s u mn t:=
 ⟨h.parts,h.plain,by
  obtain ⟨z,e,_⟩:=h.zeros
  refine ⟨z + 1, ?_,fun _=>hu⟩
  rw [e,List.replicate_succ',List.append_assoc]; rfl⟩
theorem chr_list {u:ByteArray} (h:0 < u.size):u.data.toList=chr u 0 :: (u.extract 1 u.size).data.toList:=by
 have:=drop_chr u 0 h
 rw [List.drop_zero] at this
 rw [this,Lib.extract_from]
def strN0:Value -> Nat
 | .string s=>s.size
 | _=>0
set_option maxHeartbeats 8000000 in
theorem rnumber_s (s:ByteArray) (w:World) (hs:s.size <= 1100000) :
  Calls Tryz.prog 261 #[.string s] w fun e w'=>e = .returned (.tuple #[.int .i64 ((numS s).getD 0), .bool (numS s).isSome]) /\ w=w':=by
 obtain ⟨nn,hnn⟩:∃ x,(numS s).getD 0=x:=⟨_,rfl⟩
 obtain ⟨ok,hok⟩:∃ x,(numS s).isSome=x:=⟨_,rfl⟩
 rw [hnn,hok]
 have HNk:=Lib.hid (And.intro hnn hok)
 clear hnn hok
 have hbs:=get_bt s
 have h00:=bt_nonneg s 0
 by_cases hp:0 < s.size /\ chr s 0=45
 ·obtain ⟨hpos,h2⟩:=hp
  have e0:(0:Int) < (s.size:Int):=by omega
  have e0':decide ((0:Int) < (s.size:Int))=true:=decide_eq_true e0
  have h3:(bt s 0 == 45)=true:=by rw [bt_chr,h2]; rfl
  obtain ⟨t,ht⟩:∃ t,t=s.extract 1 s.size:=⟨_,rfl⟩
  have hdt:s.data.toList=45 :: t.data.toList:=by rw [chr_list hpos,h2,ht]
  have hts:t.size <= 1100000:=by have:=congrArg List.length hdt; rw [List.length_cons, <- Lib.size_eq, <- Lib.size_eq] at this; omega
  have HNm:=Lib.hid (show Num s.data.toList t.data.toList true t.data.toList from ⟨hdt,(fun h=>by cases h),⟨0,rfl,fun h=>absurd h (Nat.lt_irrefl _)⟩⟩)
  clear hdt h2
  go_enter Tryz.func261,Tryz.ntmps261
  go_wp2_with fail
  rw [<- ht]
  clear ht h3 e0 e0' hbs h00
  go_loopw [0] (fun s0 wr=>∃ u:ByteArray,s0 = .string u /\ u.size <= 1100000 /\ Hid (Num s.data.toList u.data.toList true t.data.toList) /\ w=wr) (fun s0 _=>strN0 s0)
  case atStart=>exact ⟨t,rfl,hts,HNm,rfl⟩
  case round =>
   obtain ⟨u,rfl,hus,HU,rfl⟩:=hrel
   have hbu:=get_bt u
   have h00:=bt_nonneg u 0
   have HCh:=Lib.hid (bt_chr u 0)
   by_cases h1:1 < u.size
   ·have e1:(1:Int) < (u.size:Int):=by omega
    have e1':decide ((1:Int) < (u.size:Int))=true:=decide_eq_true e1
    have e2:(0:Int) < (u.size:Int):=by omega
    by_cases h48:bt u 0=48
    ·have e3:(bt u 0 == 48)=true:=by rw [h48]; rfl
     obtain ⟨u',hu'⟩:∃ x,x=u.extract 1 u.size:=⟨_,rfl⟩
     have HL:=Lib.hid (show u.data.toList=48 :: u'.data.toList by
      rw [chr_list (by omega),hu']
      congr 1
      have:=HCh.out
      rw [h48] at this
      have h4:(48:UInt8).toNat=48:=rfl
      exact UInt8.toNat_inj.1 (by omega))
     have hsz:u'.size + 1=u.size:=by rw [Lib.size_eq u,HL.out,List.length_cons, <- Lib.size_eq]
     have HU2:=Lib.hid (show Num s.data.toList u'.data.toList true t.data.toList by
      have:=HU.out
      rw [HL.out] at this
      exact this.step (fun k=>by rw [Lib.size_eq u',k] at hsz; simp at hsz; omega))
     go_wp2_with fail
     rw [<- hu']
     go_roundw
     case rel=>exact ⟨u',rfl,by omega,HU2,by first | exact rfl | trivial⟩
     case measure=>show u'.size < u.size; omega
    ·have e3:(bt u 0 == 48)=false:=by simpa using h48
     by_cases z0:u.size=0
     ·have hz1:u.toList.isEmpty=true:=by rw [str_none]; exact decide_eq_true z0
      have hz2:(u.toList == [])=true:=by simpa using hz1
      have HN:=Lib.hid (num_none HU.out (by rw [show u.data.toList = [] from List.length_eq_zero_iff.1 (by rw [<- Lib.size_eq]; exact z0)]; rfl))
      go_wp2_with fail
      go_ret2
      exact ⟨by rw [<- HNk.out.1, <- HNk.out.2,HN.out]; rfl,rfl⟩
     ·have hz1:u.toList.isEmpty=false:=by rw [str_none]; exact decide_eq_false z0
      have hz2:(u.toList == [])=false:=by simpa using hz1
      have ex:(0:Int) < (u.size:Int):=by omega
      have HL:=Lib.hid (chr_list (u:=u) (by omega))
      by_cases l48:bt u 0 < 48
      ·have e5:decide (bt u 0 < 48)=true:=decide_eq_true l48
       have HN:=Lib.hid (num_none HU.out (by rw [HL.out]; exact digS_head (by unfold digB; have:=HCh.out; rw [decide_eq_false (by omega)]; rfl)))
       go_wp2_with fail
       go_ret2
       exact ⟨by rw [<- HNk.out.1, <- HNk.out.2,HN.out]; rfl,rfl⟩
      ·have e5:decide (bt u 0 < 48)=false:=decide_eq_false l48
       by_cases l57:57 < bt u 0
       ·have e6:decide (57 < bt u 0)=true:=decide_eq_true l57
        have HN:=Lib.hid (num_none HU.out (by rw [HL.out]; exact digS_head (by unfold digB; have:=HCh.out; rw [decide_eq_false (show ¬ (chr u 0).toNat <= 57 by omega),Bool.and_false])))
        go_wp2_with fail
        go_ret2
        exact ⟨by rw [<- HNk.out.1, <- HNk.out.2,HN.out]; rfl,rfl⟩
       ·have e6:decide (57 < bt u 0)=false:=decide_eq_false l57
        have HR:=Lib.hid (num_read HU.out _ _ HL.out (by unfold digB; have:=HCh.out; rw [decide_eq_true (by omega),decide_eq_true (by omega)]; rfl) (by left; intro k; have:=HCh.out; rw [k] at this; have h4:(48:UInt8).toNat=48:=rfl; omega))
        by_cases hz:u=⟨#[48]⟩
        ·have e7:(u.toList == [48])=true:=by rw [hz,Lib.toList_data]; rfl
         have e8:(u.toList != [48])=false:=by rw [hz,Lib.toList_data]; rfl
         have HR2:=Lib.hid (show readI u.data.toList=((numS s).getD 0,(readI u.data.toList).2) /\ ((readI u.data.toList).2 == 0)=(numS s).isSome by
          have:=HR.out
          rwa [if_neg (fun k=>k.2 (by rw [hz]))] at this)
         have HCt:=Lib.hid (rreadInt_s u w (by omega))
         obtain ⟨e2,he2⟩:∃ x,(readI u.data.toList).2=x:=⟨_,rfl⟩
         have he3:(readI u.data.toList).1=nn:=(congrArg Prod.fst HR2.out.1).trans HNk.out.1
         have he4:(e2 == 0)=ok:=by rw [<- he2]; exact HR2.out.2.trans HNk.out.2
         rw [he2,he3] at HCt
         clear he2 he3
         clear hz
         go_wp2_with fail
         refine HCt.out.mono ?_
         rintro e w' ⟨rfl,rfl⟩
         go_wp2_with fail
         go_ret2
         exact ⟨rfl,rfl⟩
        ·have hz':u.data.toList ≠ [48]:=fun k=>hz (by rw [<- Lib.mk_data u,k])
         have e7:(u.toList == [48])=false:=by rw [Lib.toList_data]; simpa using hz'
         have e8:(u.toList != [48])=true:=by rw [Lib.toList_data]; simpa using hz'
         obtain ⟨q,hq⟩:∃ x:ByteArray,x=⟨#[45]⟩ ++ u:=⟨_,rfl⟩
         have hqd:q.data.toList=45 :: u.data.toList:=by rw [hq,ByteArray.data_append,Array.toList_append]; rfl
         have hqs:q.size=u.size + 1:=by rw [Lib.size_eq,hqd,List.length_cons, <- Lib.size_eq]
         have HR2:=Lib.hid (show readI q.data.toList=((numS s).getD 0,(readI q.data.toList).2) /\ ((readI q.data.toList).2 == 0)=(numS s).isSome by
          have:=HR.out
          rw [hqd]
          rwa [if_pos ⟨rfl,hz'⟩] at this)
         have HCt:=Lib.hid (rreadInt_s q w (by omega))
         obtain ⟨e2,he2⟩:∃ x,(readI q.data.toList).2=x:=⟨_,rfl⟩
         have he3:(readI q.data.toList).1=nn:=(congrArg Prod.fst HR2.out.1).trans HNk.out.1
         have he4:(e2 == 0)=ok:=by rw [<- he2]; exact HR2.out.2.trans HNk.out.2
         rw [he2,he3] at HCt
         clear he2 he3
         clear hz hz' hqd
         go_wp2_with fail
         rw [<- hq]
         refine HCt.out.mono ?_
         rintro e w' ⟨rfl,rfl⟩
         go_wp2_with fail
         go_ret2
         exact ⟨rfl,rfl⟩
   ·have e1:¬ (1:Int) < (u.size:Int):=by omega
    have e1':decide ((1:Int) < (u.size:Int))=false:=decide_eq_false e1
    by_cases z0:u.size=0
    ·have hz1:u.toList.isEmpty=true:=by rw [str_none]; exact decide_eq_true z0
     have hz2:(u.toList == [])=true:=by simpa using hz1
     have HN:=Lib.hid (num_none HU.out (by rw [show u.data.toList = [] from List.length_eq_zero_iff.1 (by rw [<- Lib.size_eq]; exact z0)]; rfl))
     go_wp2_with fail
     go_ret2
     exact ⟨by rw [<- HNk.out.1, <- HNk.out.2,HN.out]; rfl,rfl⟩
    ·have hz1:u.toList.isEmpty=false:=by rw [str_none]; exact decide_eq_false z0
     have hz2:(u.toList == [])=false:=by simpa using hz1
     have ex:(0:Int) < (u.size:Int):=by omega
     have HL:=Lib.hid (chr_list (u:=u) (by omega))
     by_cases l48:bt u 0 < 48
     ·have e5:decide (bt u 0 < 48)=true:=decide_eq_true l48
      have HN:=Lib.hid (num_none HU.out (by rw [HL.out]; exact digS_head (by unfold digB; have:=HCh.out; rw [decide_eq_false (by omega)]; rfl)))
      go_wp2_with fail
      go_ret2
      exact ⟨by rw [<- HNk.out.1, <- HNk.out.2,HN.out]; rfl,rfl⟩
     ·have e5:decide (bt u 0 < 48)=false:=decide_eq_false l48
      by_cases l57:57 < bt u 0
      ·have e6:decide (57 < bt u 0)=true:=decide_eq_true l57
       have HN:=Lib.hid (num_none HU.out (by rw [HL.out]; exact digS_head (by unfold digB; have:=HCh.out; rw [decide_eq_false (show ¬ (chr u 0).toNat <= 57 by omega),Bool.and_false])))
       go_wp2_with fail
       go_ret2
       exact ⟨by rw [<- HNk.out.1, <- HNk.out.2,HN.out]; rfl,rfl⟩
      ·have e6:decide (57 < bt u 0)=false:=decide_eq_false l57
       have HR:=Lib.hid (num_read HU.out _ _ HL.out (by unfold digB; have:=HCh.out; rw [decide_eq_true (by omega),decide_eq_true (by omega)]; rfl) (by right; refine List.length_eq_zero_iff.1 ?_; have:=congrArg List.length HL.out; rw [List.length_cons, <- Lib.size_eq] at this; omega))
       by_cases hz:u=⟨#[48]⟩
       ·have e7:(u.toList == [48])=true:=by rw [hz,Lib.toList_data]; rfl
        have e8:(u.toList != [48])=false:=by rw [hz,Lib.toList_data]; rfl
        have HR2:=Lib.hid (show readI u.data.toList=((numS s).getD 0,(readI u.data.toList).2) /\ ((readI u.data.toList).2 == 0)=(numS s).isSome by
         have:=HR.out
         rwa [if_neg (fun k=>k.2 (by rw [hz]))] at this)
        have HCt:=Lib.hid (rreadInt_s u w (by omega))
        obtain ⟨e2,he2⟩:∃ x,(readI u.data.toList).2=x:=⟨_,rfl⟩
        have he3:(readI u.data.toList).1=nn:=(congrArg Prod.fst HR2.out.1).trans HNk.out.1
        have he4:(e2 == 0)=ok:=by rw [<- he2]; exact HR2.out.2.trans HNk.out.2
        rw [he2,he3] at HCt
        clear he2 he3
        clear hz
        go_wp2_with fail
        refine HCt.out.mono ?_
        rintro e w' ⟨rfl,rfl⟩
        go_wp2_with fail
        go_ret2
        exact ⟨rfl,rfl⟩
       ·have hz':u.data.toList ≠ [48]:=fun k=>hz (by rw [<- Lib.mk_data u,k])
        have e7:(u.toList == [48])=false:=by rw [Lib.toList_data]; simpa using hz'
        have e8:(u.toList != [48])=true:=by rw [Lib.toList_data]; simpa using hz'
        obtain ⟨q,hq⟩:∃ x:ByteArray,x=⟨#[45]⟩ ++ u:=⟨_,rfl⟩
        have hqd:q.data.toList=45 :: u.data.toList:=by rw [hq,ByteArray.data_append,Array.toList_append]; rfl
        have hqs:q.size=u.size + 1:=by rw [Lib.size_eq,hqd,List.length_cons, <- Lib.size_eq]
        have HR2:=Lib.hid (show readI q.data.toList=((numS s).getD 0,(readI q.data.toList).2) /\ ((readI q.data.toList).2 == 0)=(numS s).isSome by
         have:=HR.out
         rw [hqd]
         rwa [if_pos ⟨rfl,hz'⟩] at this)
        have HCt:=Lib.hid (rreadInt_s q w (by omega))
        obtain ⟨e2,he2⟩:∃ x,(readI q.data.toList).2=x:=⟨_,rfl⟩
        have he3:(readI q.data.toList).1=nn:=(congrArg Prod.fst HR2.out.1).trans HNk.out.1
        have he4:(e2 == 0)=ok:=by rw [<- he2]; exact HR2.out.2.trans HNk.out.2
        rw [he2,he3] at HCt
        clear he2 he3
        clear hz hz' hqd
        go_wp2_with fail
        rw [<- hq]
        refine HCt.out.mono ?_
        rintro e w' ⟨rfl,rfl⟩
        go_wp2_with fail
        go_ret2
        exact ⟨rfl,rfl⟩
 ·have HP:=Lib.hid hp
  clear hp
  obtain ⟨t,ht⟩:∃ t,t=s:=⟨_,rfl⟩
  have HNm:=Lib.hid (show Num s.data.toList t.data.toList false t.data.toList by
   rw [ht]
   refine ⟨rfl,fun _ h=>HP.out ?_,⟨0,rfl,fun h=>absurd h (Nat.lt_irrefl _)⟩⟩
   have hpos:0 < s.size:=by
    rcases Nat.eq_zero_or_pos s.size with k | k
    ·rw [show s.data.toList = [] from List.length_eq_zero_iff.1 (by rw [<- Lib.size_eq]; exact k)] at h; cases h
    ·exact k
   refine ⟨hpos, ?_⟩
   rw [chr_list hpos] at h
   exact Option.some.inj h)
  have hts:t.size <= 1100000:=by rw [ht]; exact hs
  have hfalse:∀ P:Prop,((0:Int) < (s.size:Int) -> bt s 0=45 -> P):=fun P h1 h2=>absurd ⟨by omega,by rw [bt_chr] at h2; have h4:(45:UInt8).toNat=45:=rfl; exact UInt8.toNat_inj.1 (by omega)⟩ HP.out
  have HF:=Lib.hid hfalse
  clear hfalse
  by_cases hpos:0 < s.size
  ·have e0:(0:Int) < (s.size:Int):=by omega
   have e0':decide ((0:Int) < (s.size:Int))=true:=decide_eq_true e0
   have h3:(bt s 0 == 45)=false:=by
    cases h:(bt s 0 == 45) with
    | false=>rfl
    | true=>exact HF.out _ e0 (by simpa using h)
   go_enter Tryz.func261,Tryz.ntmps261
   go_wp2_with fail
   clear h3 e0 e0' hbs h00
   subst ht
   go_loopw [0] (fun s0 wr=>∃ u:ByteArray,s0 = .string u /\ u.size <= 1100000 /\ Hid (Num t.data.toList u.data.toList false t.data.toList) /\ w=wr) (fun s0 _=>strN0 s0)
   case atStart=>exact ⟨t,rfl,hts,HNm,rfl⟩
   case round =>
    obtain ⟨u,rfl,hus,HU,rfl⟩:=hrel
    have hbu:=get_bt u
    have h00:=bt_nonneg u 0
    have HCh:=Lib.hid (bt_chr u 0)
    by_cases h1:1 < u.size
    ·have e1:(1:Int) < (u.size:Int):=by omega
     have e1':decide ((1:Int) < (u.size:Int))=true:=decide_eq_true e1
     have e2:(0:Int) < (u.size:Int):=by omega
     by_cases h48:bt u 0=48
     ·have e3:(bt u 0 == 48)=true:=by rw [h48]; rfl
      obtain ⟨u',hu'⟩:∃ x,x=u.extract 1 u.size:=⟨_,rfl⟩
      have HL:=Lib.hid (show u.data.toList=48 :: u'.data.toList by
       rw [chr_list (by omega),hu']
       congr 1
       have:=HCh.out
       rw [h48] at this
       have h4:(48:UInt8).toNat=48:=rfl
       exact UInt8.toNat_inj.1 (by omega))
      have hsz:u'.size + 1=u.size:=by rw [Lib.size_eq u,HL.out,List.length_cons, <- Lib.size_eq]
      have HU2:=Lib.hid (show Num t.data.toList u'.data.toList false t.data.toList by
       have:=HU.out
       rw [HL.out] at this
       exact this.step (fun k=>by rw [Lib.size_eq u',k] at hsz; simp at hsz; omega))
      go_wp2_with fail
      rw [<- hu']
      go_roundw
      case rel=>exact ⟨u',rfl,by omega,HU2,by first | exact rfl | trivial⟩
      case measure=>show u'.size < u.size; omega
     ·have e3:(bt u 0 == 48)=false:=by simpa using h48
      by_cases z0:u.size=0
      ·have hz1:u.toList.isEmpty=true:=by rw [str_none]; exact decide_eq_true z0
       have hz2:(u.toList == [])=true:=by simpa using hz1
       have HN:=Lib.hid (num_none HU.out (by rw [show u.data.toList = [] from List.length_eq_zero_iff.1 (by rw [<- Lib.size_eq]; exact z0)]; rfl))
       go_wp2_with fail
       go_ret2
       exact ⟨by rw [<- HNk.out.1, <- HNk.out.2,HN.out]; rfl,rfl⟩
      ·have hz1:u.toList.isEmpty=false:=by rw [str_none]; exact decide_eq_false z0
       have hz2:(u.toList == [])=false:=by simpa using hz1
       have ex:(0:Int) < (u.size:Int):=by omega
       have HL:=Lib.hid (chr_list (u:=u) (by omega))
       by_cases l48:bt u 0 < 48
       ·have e5:decide (bt u 0 < 48)=true:=decide_eq_true l48
        have HN:=Lib.hid (num_none HU.out (by rw [HL.out]; exact digS_head (by unfold digB; have:=HCh.out; rw [decide_eq_false (by omega)]; rfl)))
        go_wp2_with fail
        go_ret2
        exact ⟨by rw [<- HNk.out.1, <- HNk.out.2,HN.out]; rfl,rfl⟩
       ·have e5:decide (bt u 0 < 48)=false:=decide_eq_false l48
        by_cases l57:57 < bt u 0
        ·have e6:decide (57 < bt u 0)=true:=decide_eq_true l57
         have HN:=Lib.hid (num_none HU.out (by rw [HL.out]; exact digS_head (by unfold digB; have:=HCh.out; rw [decide_eq_false (show ¬ (chr u 0).toNat <= 57 by omega),Bool.and_false])))
         go_wp2_with fail
         go_ret2
         exact ⟨by rw [<- HNk.out.1, <- HNk.out.2,HN.out]; rfl,rfl⟩
        ·have e6:decide (57 < bt u 0)=false:=decide_eq_false l57
         have HR:=Lib.hid (num_read HU.out _ _ HL.out (by unfold digB; have:=HCh.out; rw [decide_eq_true (by omega),decide_eq_true (by omega)]; rfl) (by left; intro k; have:=HCh.out; rw [k] at this; have h4:(48:UInt8).toNat=48:=rfl; omega))
         have HR2:=Lib.hid (show readI u.data.toList=((numS t).getD 0,(readI u.data.toList).2) /\ ((readI u.data.toList).2 == 0)=(numS t).isSome by
          have:=HR.out
          rwa [if_neg (fun k=>by cases k.1)] at this)
         have HCt:=Lib.hid (rreadInt_s u w (by omega))
         obtain ⟨e2,he2⟩:∃ x,(readI u.data.toList).2=x:=⟨_,rfl⟩
         have he3:(readI u.data.toList).1=nn:=(congrArg Prod.fst HR2.out.1).trans HNk.out.1
         have he4:(e2 == 0)=ok:=by rw [<- he2]; exact HR2.out.2.trans HNk.out.2
         rw [he2,he3] at HCt
         clear he2 he3
         go_wp2_with fail
         refine HCt.out.mono ?_
         rintro e w' ⟨rfl,rfl⟩
         go_wp2_with fail
         go_ret2
         exact ⟨rfl,rfl⟩
    ·have e1:¬ (1:Int) < (u.size:Int):=by omega
     have e1':decide ((1:Int) < (u.size:Int))=false:=decide_eq_false e1
     by_cases z0:u.size=0
     ·have hz1:u.toList.isEmpty=true:=by rw [str_none]; exact decide_eq_true z0
      have hz2:(u.toList == [])=true:=by simpa using hz1
      have HN:=Lib.hid (num_none HU.out (by rw [show u.data.toList = [] from List.length_eq_zero_iff.1 (by rw [<- Lib.size_eq]; exact z0)]; rfl))
      go_wp2_with fail
      go_ret2
      exact ⟨by rw [<- HNk.out.1, <- HNk.out.2,HN.out]; rfl,rfl⟩
     ·have hz1:u.toList.isEmpty=false:=by rw [str_none]; exact decide_eq_false z0
      have hz2:(u.toList == [])=false:=by simpa using hz1
      have ex:(0:Int) < (u.size:Int):=by omega
      have HL:=Lib.hid (chr_list (u:=u) (by omega))
      by_cases l48:bt u 0 < 48
      ·have e5:decide (bt u 0 < 48)=true:=decide_eq_true l48
       have HN:=Lib.hid (num_none HU.out (by rw [HL.out]; exact digS_head (by unfold digB; have:=HCh.out; rw [decide_eq_false (by omega)]; rfl)))
       go_wp2_with fail
       go_ret2
       exact ⟨by rw [<- HNk.out.1, <- HNk.out.2,HN.out]; rfl,rfl⟩
      ·have e5:decide (bt u 0 < 48)=false:=decide_eq_false l48
       by_cases l57:57 < bt u 0
       ·have e6:decide (57 < bt u 0)=true:=decide_eq_true l57
        have HN:=Lib.hid (num_none HU.out (by rw [HL.out]; exact digS_head (by unfold digB; have:=HCh.out; rw [decide_eq_false (show ¬ (chr u 0).toNat <= 57 by omega),Bool.and_false])))
        go_wp2_with fail
        go_ret2
        exact ⟨by rw [<- HNk.out.1, <- HNk.out.2,HN.out]; rfl,rfl⟩
       ·have e6:decide (57 < bt u 0)=false:=decide_eq_false l57
        have HR:=Lib.hid (num_read HU.out _ _ HL.out (by unfold digB; have:=HCh.out; rw [decide_eq_true (by omega),decide_eq_true (by omega)]; rfl) (by right; refine List.length_eq_zero_iff.1 ?_; have:=congrArg List.length HL.out; rw [List.length_cons, <- Lib.size_eq] at this; omega))
        have HR2:=Lib.hid (show readI u.data.toList=((numS t).getD 0,(readI u.data.toList).2) /\ ((readI u.data.toList).2 == 0)=(numS t).isSome by
         have:=HR.out
         rwa [if_neg (fun k=>by cases k.1)] at this)
        have HCt:=Lib.hid (rreadInt_s u w (by omega))
        obtain ⟨e2,he2⟩:∃ x,(readI u.data.toList).2=x:=⟨_,rfl⟩
        have he3:(readI u.data.toList).1=nn:=(congrArg Prod.fst HR2.out.1).trans HNk.out.1
        have he4:(e2 == 0)=ok:=by rw [<- he2]; exact HR2.out.2.trans HNk.out.2
        rw [he2,he3] at HCt
        clear he2 he3
        go_wp2_with fail
        refine HCt.out.mono ?_
        rintro e w' ⟨rfl,rfl⟩
        go_wp2_with fail
        go_ret2
        exact ⟨rfl,rfl⟩
  ·have e0:¬ (0:Int) < (s.size:Int):=by omega
   have e0':decide ((0:Int) < (s.size:Int))=false:=decide_eq_false e0
   go_enter Tryz.func261,Tryz.ntmps261
   go_wp2_with fail
   clear e0 e0' hbs h00
   subst ht
   go_loopw [0] (fun s0 wr=>∃ u:ByteArray,s0 = .string u /\ u.size <= 1100000 /\ Hid (Num t.data.toList u.data.toList false t.data.toList) /\ w=wr) (fun s0 _=>strN0 s0)
   case atStart=>exact ⟨t,rfl,hts,HNm,rfl⟩
   case round =>
    obtain ⟨u,rfl,hus,HU,rfl⟩:=hrel
    have hbu:=get_bt u
    have h00:=bt_nonneg u 0
    have HCh:=Lib.hid (bt_chr u 0)
    by_cases h1:1 < u.size
    ·have e1:(1:Int) < (u.size:Int):=by omega
     have e1':decide ((1:Int) < (u.size:Int))=true:=decide_eq_true e1
     have e2:(0:Int) < (u.size:Int):=by omega
     by_cases h48:bt u 0=48
     ·have e3:(bt u 0 == 48)=true:=by rw [h48]; rfl
      obtain ⟨u',hu'⟩:∃ x,x=u.extract 1 u.size:=⟨_,rfl⟩
      have HL:=Lib.hid (show u.data.toList=48 :: u'.data.toList by
       rw [chr_list (by omega),hu']
       congr 1
       have:=HCh.out
       rw [h48] at this
       have h4:(48:UInt8).toNat=48:=rfl
       exact UInt8.toNat_inj.1 (by omega))
      have hsz:u'.size + 1=u.size:=by rw [Lib.size_eq u,HL.out,List.length_cons, <- Lib.size_eq]
      have HU2:=Lib.hid (show Num t.data.toList u'.data.toList false t.data.toList by
       have:=HU.out
       rw [HL.out] at this
       exact this.step (fun k=>by rw [Lib.size_eq u',k] at hsz; simp at hsz; omega))
      go_wp2_with fail
      rw [<- hu']
      go_roundw
      case rel=>exact ⟨u',rfl,by omega,HU2,by first | exact rfl | trivial⟩
      case measure=>show u'.size < u.size; omega
     ·have e3:(bt u 0 == 48)=false:=by simpa using h48
      by_cases z0:u.size=0
      ·have hz1:u.toList.isEmpty=true:=by rw [str_none]; exact decide_eq_true z0
       have hz2:(u.toList == [])=true:=by simpa using hz1
       have HN:=Lib.hid (num_none HU.out (by rw [show u.data.toList = [] from List.length_eq_zero_iff.1 (by rw [<- Lib.size_eq]; exact z0)]; rfl))
       go_wp2_with fail
       go_ret2
       exact ⟨by rw [<- HNk.out.1, <- HNk.out.2,HN.out]; rfl,rfl⟩
      ·have hz1:u.toList.isEmpty=false:=by rw [str_none]; exact decide_eq_false z0
       have hz2:(u.toList == [])=false:=by simpa using hz1
       have ex:(0:Int) < (u.size:Int):=by omega
       have HL:=Lib.hid (chr_list (u:=u) (by omega))
       by_cases l48:bt u 0 < 48
       ·have e5:decide (bt u 0 < 48)=true:=decide_eq_true l48
        have HN:=Lib.hid (num_none HU.out (by rw [HL.out]; exact digS_head (by unfold digB; have:=HCh.out; rw [decide_eq_false (by omega)]; rfl)))
        go_wp2_with fail
        go_ret2
        exact ⟨by rw [<- HNk.out.1, <- HNk.out.2,HN.out]; rfl,rfl⟩
       ·have e5:decide (bt u 0 < 48)=false:=decide_eq_false l48
        by_cases l57:57 < bt u 0
        ·have e6:decide (57 < bt u 0)=true:=decide_eq_true l57
         have HN:=Lib.hid (num_none HU.out (by rw [HL.out]; exact digS_head (by unfold digB; have:=HCh.out; rw [decide_eq_false (show ¬ (chr u 0).toNat <= 57 by omega),Bool.and_false])))
         go_wp2_with fail
         go_ret2
         exact ⟨by rw [<- HNk.out.1, <- HNk.out.2,HN.out]; rfl,rfl⟩
        ·have e6:decide (57 < bt u 0)=false:=decide_eq_false l57
         have HR:=Lib.hid (num_read HU.out _ _ HL.out (by unfold digB; have:=HCh.out; rw [decide_eq_true (by omega),decide_eq_true (by omega)]; rfl) (by left; intro k; have:=HCh.out; rw [k] at this; have h4:(48:UInt8).toNat=48:=rfl; omega))
         have HR2:=Lib.hid (show readI u.data.toList=((numS t).getD 0,(readI u.data.toList).2) /\ ((readI u.data.toList).2 == 0)=(numS t).isSome by
          have:=HR.out
          rwa [if_neg (fun k=>by cases k.1)] at this)
         have HCt:=Lib.hid (rreadInt_s u w (by omega))
         obtain ⟨e2,he2⟩:∃ x,(readI u.data.toList).2=x:=⟨_,rfl⟩
         have he3:(readI u.data.toList).1=nn:=(congrArg Prod.fst HR2.out.1).trans HNk.out.1
         have he4:(e2 == 0)=ok:=by rw [<- he2]; exact HR2.out.2.trans HNk.out.2
         rw [he2,he3] at HCt
         clear he2 he3
         go_wp2_with fail
         refine HCt.out.mono ?_
         rintro e w' ⟨rfl,rfl⟩
         go_wp2_with fail
         go_ret2
         exact ⟨rfl,rfl⟩
    ·have e1:¬ (1:Int) < (u.size:Int):=by omega
     have e1':decide ((1:Int) < (u.size:Int))=false:=decide_eq_false e1
     by_cases z0:u.size=0
     ·have hz1:u.toList.isEmpty=true:=by rw [str_none]; exact decide_eq_true z0
      have hz2:(u.toList == [])=true:=by simpa using hz1
      have HN:=Lib.hid (num_none HU.out (by rw [show u.data.toList = [] from List.length_eq_zero_iff.1 (by rw [<- Lib.size_eq]; exact z0)]; rfl))
      go_wp2_with fail
      go_ret2
      exact ⟨by rw [<- HNk.out.1, <- HNk.out.2,HN.out]; rfl,rfl⟩
     ·have hz1:u.toList.isEmpty=false:=by rw [str_none]; exact decide_eq_false z0
      have hz2:(u.toList == [])=false:=by simpa using hz1
      have ex:(0:Int) < (u.size:Int):=by omega
      have HL:=Lib.hid (chr_list (u:=u) (by omega))
      by_cases l48:bt u 0 < 48
      ·have e5:decide (bt u 0 < 48)=true:=decide_eq_true l48
       have HN:=Lib.hid (num_none HU.out (by rw [HL.out]; exact digS_head (by unfold digB; have:=HCh.out; rw [decide_eq_false (by omega)]; rfl)))
       go_wp2_with fail
       go_ret2
       exact ⟨by rw [<- HNk.out.1, <- HNk.out.2,HN.out]; rfl,rfl⟩
      ·have e5:decide (bt u 0 < 48)=false:=decide_eq_false l48
       by_cases l57:57 < bt u 0
       ·have e6:decide (57 < bt u 0)=true:=decide_eq_true l57
        have HN:=Lib.hid (num_none HU.out (by rw [HL.out]; exact digS_head (by unfold digB; have:=HCh.out; rw [decide_eq_false (show ¬ (chr u 0).toNat <= 57 by omega),Bool.and_false])))
        go_wp2_with fail
        go_ret2
        exact ⟨by rw [<- HNk.out.1, <- HNk.out.2,HN.out]; rfl,rfl⟩
       ·have e6:decide (57 < bt u 0)=false:=decide_eq_false l57
        have HR:=Lib.hid (num_read HU.out _ _ HL.out (by unfold digB; have:=HCh.out; rw [decide_eq_true (by omega),decide_eq_true (by omega)]; rfl) (by right; refine List.length_eq_zero_iff.1 ?_; have:=congrArg List.length HL.out; rw [List.length_cons, <- Lib.size_eq] at this; omega))
        have HR2:=Lib.hid (show readI u.data.toList=((numS t).getD 0,(readI u.data.toList).2) /\ ((readI u.data.toList).2 == 0)=(numS t).isSome by
         have:=HR.out
         rwa [if_neg (fun k=>by cases k.1)] at this)
        have HCt:=Lib.hid (rreadInt_s u w (by omega))
        obtain ⟨e2,he2⟩:∃ x,(readI u.data.toList).2=x:=⟨_,rfl⟩
        have he3:(readI u.data.toList).1=nn:=(congrArg Prod.fst HR2.out.1).trans HNk.out.1
        have he4:(e2 == 0)=ok:=by rw [<- he2]; exact HR2.out.2.trans HNk.out.2
        rw [he2,he3] at HCt
        clear he2 he3
        go_wp2_with fail
        refine HCt.out.mono ?_
        rintro e w' ⟨rfl,rfl⟩
        go_wp2_with fail
        go_ret2
        exact ⟨rfl,rfl⟩
end Go.Proofs.YtmmdaegdkikkpaaGreatDoor
end
