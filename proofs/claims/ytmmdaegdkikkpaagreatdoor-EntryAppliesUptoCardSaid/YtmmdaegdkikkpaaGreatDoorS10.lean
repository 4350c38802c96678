/-
  Texts of the schema layer and of those beneath it, joined: AttR3, AttR4, AttR5, AttR6. Conditions stand at each contract.
-/
import Derived.Test.YtmmdaegdkikkpaaGreatDoorS09
set_option linter.unusedVariables false
set_option linter.unusedSimpArgs false
set_option linter.unnecessarySimpa false

section
set_option maxRecDepth 100000
namespace Go.Proofs.YtmmdaegdkikkpaaGreatDoor
open Go.RowKit Go.PlainAid
structure Few (l:List At):Prop where
 small:SmallA l
 vals:sumV l <= 100000
 len:l.length <= 3000
set_option maxRecDepth 100000 in
set_option maxHeartbeats 4000000 in
theorem rget_s (ao:Option Addr) (n cap:Nat) (l:List At) (name:ByteArray) (w:World) (h:AttrsAt w ao n cap l) (hF:Few l) (hns:name.size <= 1100000) :
  Calls Tryz.prog 42 #[.slice ao n cap, .string name] w fun e w'=>∃ v,e = .returned v /\ Hdr w' v (vals l (lowS name)) /\ Below w.heap.size w w':=by
 have HR:=Lib.hid (rsorted_s ao n cap l w h hF.small hF.vals (by rw [<- h.1]; exact hF.len))
 have hlen:=Nat.le_trans (nf_len l) hF.len
 go_enter Tryz.func42,Tryz.ntmps42
 go_wp2_with fail
 refine HR.out.mono ?_
 rintro e w1 ⟨v,T,rfl,hT,hTO,hown,hb⟩
 obtain ⟨_,xo,xc,rfl,hat,_⟩:=ts_owns hown
 have HTA:=Lib.hid hat
 have HTO:=Lib.hid hTO.ok
 have HB:=Lib.hid hb
 have HT:=Lib.hid hT
 have hTl:T.length <= 3000:=by rw [<- tats_len,hT]; exact hlen
 have hxc:xc <= 9223372036854775807:=hat.2.2.1
 clear HR h hF hat hTO hb hown hT hlen
 obtain ⟨lw,hlw⟩:∃ x,lowS name=x:=⟨_,rfl⟩
 have HLW:=Lib.hid hlw
 clear hlw
 have HV:∀ j,j < T.length -> Hid ((trD T j).2.2=vals l (trD T j).1):=fun j hj=>Lib.hid (by
  have h5:=nf_at (l:=l) (i:=j) (by rw [<- HT.out,tats_len]; exact hj)
  rw [<- HT.out,atD_tats] at h5
  exact h5)
 go_wp2_with fail
 go_loopw [6] (fun i wr=>∃ q:Nat,q <= T.length /\ i = .int .i64 q /\ Hid (∀ j,j < q -> (trD T j).1 ≠ lw) /\ Hid (Below w1.heap.size w1 wr)) (fun i _=>T.length - (intOf i).toNat)
 case atStart=>exact ⟨0,Nat.zero_le _,rfl,Lib.hid (fun j hj=>absurd hj (Nat.not_lt_zero _)),Lib.hid (Below.refl _ _)⟩
 case round =>
  obtain ⟨q,hq,rfl,HA,HB2⟩:=hrel
  by_cases hlt:q < T.length
  ·obtain ⟨b,off,rfl,hblt,_⟩:=HTA.out.2.2.2 (by omega)
   obtain ⟨a0,a1⟩:=ts_at HTA.out q hlt
   have a0:=cell_later HB2.out a0
   have a1:=cell_later HB2.out a1
   have HHd:=Lib.hid (HTO.out _ (tr_mem T q hlt))
   have HVq:=HV q hlt
   have HNE:=Lib.hid (fun (e:(trD T q).1 ≠ lw) j (hj:j < q + 1)=>if h:j=q then by rw [h]; exact e else HA.out j (by omega))
   obtain ⟨x,hx⟩:∃ x,trD T q=x:=⟨_,rfl⟩
   rw [hx] at a0 a1 HHd HVq HNE
   clear hx
   obtain ⟨p,hd,vs⟩:=x
   simp only [] at a0 a1 HHd HVq HNE
   have d1:(q:Int) < (T.length:Int):=by omega
   have HBd:Hid (Below w1.heap.size w1 wr.drew /\ w1.heap.size <= wr.drew.heap.size):=Lib.hid ⟨HB2.out.drew,HB2.out.size⟩
   by_cases hpl:p=lw
   ·have q1:(p.toList == lw.toList)=true:=by rw [str_eq]; exact decide_eq_true hpl
    go_wp2_with fail
    go_region_held3 (fun W=>W.cell? ⟨b,off + q * 2,none⟩=some (.string p) /\ W.cell? ⟨b,off + q * 2 + 1,none⟩=some hd /\ Hid (Below w1.heap.size w1 W /\ w1.heap.size <= W.heap.size))
     (first | exact ⟨a0,a1,HBd⟩ | exact keep2b (by assumption) hb | go_keep)
     ((go_at_call 81; with_reducible refine (rLower_s name _ (by omega)).mono ?_; rintro e w5 ⟨rfl,hb⟩; rw [HLW.out]))
    have HB6:=Lib.hid (HBd.out.1.trans (hb.mono HBd.out.2))
    have a15:=cell_later (hb.mono (Nat.le_refl _)) (show wr.drew.cell? ⟨b,off + q * 2 + 1,none⟩=some hd from a1)
    go_wp2_with fail
    go_ret
    refine ⟨hd,rfl, ?_,HB.out.trans (HB6.out.mono HB.out.size)⟩
    rw [HLW.out, <- hpl, <- HVq.out]
    exact HHd.out.below HB6.out
   ·have q1:(p.toList == lw.toList)=false:=by rw [str_eq]; exact decide_eq_false hpl
    have HN2:=Lib.hid (HNE.out hpl)
    clear hpl
    go_wp2_with fail
    go_region_held3 (fun W=>W.cell? ⟨b,off + q * 2,none⟩=some (.string p) /\ W.cell? ⟨b,off + q * 2 + 1,none⟩=some hd /\ Hid (Below w1.heap.size w1 W /\ w1.heap.size <= W.heap.size))
     (first | exact ⟨a0,a1,HBd⟩ | exact keep2b (by assumption) hb | go_keep)
     ((go_at_call 81; with_reducible refine (rLower_s name _ (by omega)).mono ?_; rintro e w5 ⟨rfl,hb⟩; rw [HLW.out]))
    have HB6:=Lib.hid (HBd.out.1.trans (hb.mono HBd.out.2))
    go_wp2_with fail
    go_roundw
    case rel=>exact ⟨q + 1,by omega,by go_num,HN2,HB6⟩
    case measure=>simp [intOf]; omega
  ·obtain rfl:q=T.length:=by omega
   have HE:=Lib.hid (show vals l lw = [] from nf_none fun j hj=>by
    rw [<- HT.out,tats_len] at hj
    rw [<- HT.out,atD_tats]
    exact HA.out j hj)
   go_wp2_with fail
   go_ret
   exact ⟨_,rfl,by rw [HLW.out,HE.out]; exact hdr_nil _,HB.out.trans (HB2.out.mono HB.out.size)⟩
theorem names_part {l:List At} {T:List Tr} (hT:tats T=nf l) (q:Nat) (h:q < T.length):(trD T q).1=partAt (names l) q:=by
 have h1:=nf_names l
 rw [<- hT] at h1
 have h2:=atD_tats T q
 unfold partAt
 rw [<- h1,List.getD_eq_getElem?_getD,List.getElem?_map,List.getElem?_eq_getElem (by rw [tats_len]; exact h)]
 show _=((tats T)[q]'_).1
 rw [<- at_get (tats T) q (by rw [tats_len]; exact h),h2]
theorem names_tlen {l:List At} {T:List Tr} (hT:tats T=nf l):(names l).length=T.length:=by
 rw [<- nf_names,List.length_map, <- hT,tats_len]
set_option maxRecDepth 100000 in
set_option maxHeartbeats 4000000 in
theorem rnames_s (ao:Option Addr) (n cap:Nat) (l:List At) (w:World) (h:AttrsAt w ao n cap l) (hF:Few l) :
  Calls Tryz.prog 80 #[.slice ao n cap] w fun e w'=>∃ v,e = .returned v /\ Hdr w' v (names l) /\ Below w.heap.size w w':=by
 have HR:=Lib.hid (rsorted_s ao n cap l w h hF.small hF.vals (by rw [<- h.1]; exact hF.len))
 have hlen:=Nat.le_trans (nf_len l) hF.len
 go_enter Tryz.func80,Tryz.ntmps80
 go_wp2_with fail
 refine HR.out.mono ?_
 rintro e w1 ⟨v,T,rfl,hT,hTO,hown,hb⟩
 obtain ⟨_,xo,xc,rfl,hat,_⟩:=ts_owns hown
 have HTA:=Lib.hid hat
 have HB:=Lib.hid hb
 have HT:=Lib.hid hT
 have hTl:T.length <= 3000:=by rw [<- tats_len,hT]; exact hlen
 have hxc:xc <= 9223372036854775807:=hat.2.2.1
 have HNL:=Lib.hid (names_tlen hT)
 clear HR h hF hat hTO hb hown hT hlen
 obtain ⟨ns,hns⟩:∃ x,names l=x:=⟨_,rfl⟩
 have HNS:=Lib.hid hns
 rw [hns] at HNL
 clear hns
 go_wp2_with fail
 go_loopw [3,5] (fun s3 i wr=>∃ q:Nat,q <= T.length /\ i = .int .i64 q /\ wr.ownsRow w1.heap.size 9 1 s3 (ns.take q).length (scells (ns.take q)) /\ Hid (Below w1.heap.size w1 wr)) (fun _ i _=>T.length - (intOf i).toNat)
 case atStart=>exact ⟨0,Nat.zero_le _,rfl,World.ownsRow_nil _ _ _ _,Lib.hid (Below.refl _ _)⟩
 case round =>
  obtain ⟨q,hq,rfl,hown,HB2⟩:=hrel
  by_cases hlt:q < T.length
  ·obtain ⟨b,off,rfl,hblt,_⟩:=HTA.out.2.2.2 (by omega)
   obtain ⟨a0,_⟩:=ts_at HTA.out q hlt
   have a0:=cell_later HB2.out a0
   have HPN:=Lib.hid (names_part HT.out q hlt)
   obtain ⟨p,hp⟩:∃ x,(trD T q).1=x:=⟨_,rfl⟩
   rw [hp] at a0 HPN
   rw [HNS.out] at HPN
   clear hp
   have HTS:=Lib.hid (show ns.take (q + 1)=ns.take q ++ [p] by rw [HPN.out]; exact take_snoc ns q (by have:=HNL.out; omega))
   have hql:(ns.take q).length <= 3000:=by rw [List.length_take]; omega
   have d1:(q:Int) < (T.length:Int):=by omega
   have hsz:=HB2.out.size
   go_wp2_with (at_builtin; go_must (refine push_str _ hown (.tmp 14) (.tmp 20) p ?_ ?_ ?_ ?_ ?_ ?_ ?_; exact rfl; exact rfl; exact rfl; exact rfl; omega; exact hsz; intro v3 w3 hown3 hb3))
   go_roundw
   case rel=>exact ⟨q + 1,by omega,by go_num,by rw [HTS.out,scells_snoc,List.length_append]; exact hown3,Lib.hid (HB2.out.trans hb3)⟩
   case measure=>simp [intOf]; omega
  ·obtain rfl:q=T.length:=by omega
   have HE:=Lib.hid (show ns.take T.length=ns from List.take_of_length_le (by rw [HNL.out]; exact Nat.le_refl _))
   go_wp2_with fail
   go_ret
   rw [HE.out] at hown
   exact ⟨_,rfl,by rw [HNS.out]; exact hdr_owns hown,HB.out.trans (HB2.out.mono HB.out.size)⟩
theorem apart_symm {a b:Option Nat} (h:a=none ∨ a ≠ b):b=none ∨ b ≠ a:=by
 cases b with
 | none=>exact .inl rfl
 | some g =>
  refine .inr fun e => ?_
  rcases h with h | h
  ·rw [h] at e; cases e
  ·exact h e.symm
def wthL (l:List At) (lw:ByteArray):List At:=(nf l).filter fun a=>decide (a.1 ≠ lw)
theorem filter_at {l:List At} {lw:ByteArray} {q:Nat} (h:q < l.length) (p:At -> Bool):(l.take (q + 1)).filter p=(l.take q).filter p ++ (if p (atD l q) then [atD l q] else []):=by
 rw [at_take l q h,List.filter_append]
 congr 1
 by_cases hp:p (atD l q)=true
 ·simp [hp]
 ·simp [hp]
def AttsO (w:World) (base:Nat) (v:Value) (l:List At):Prop := ∃ T,tats T=l /\ TOwn w base v T /\ w.ownsRow base 58 2 v T.length (tcells T)
theorem AttsO.r {w:World} {base:Nat} {v:Value} {l:List At} (h:AttsO w base v l):AttsR w v l:=by
 obtain ⟨T,rfl,hO,hown⟩:=h
 exact atts_own hown hO.ok
set_option maxRecDepth 100000 in
set_option maxHeartbeats 4000000 in
theorem rwithout_s (ao:Option Addr) (n cap:Nat) (l:List At) (name:ByteArray) (w:World) (h:AttrsAt w ao n cap l) (hF:Few l) (hns:name.size <= 1100000) :
  Calls Tryz.prog 226 #[.slice ao n cap, .string name] w fun e w'=>∃ v,e = .returned v /\ AttsO w' w.heap.size v (wthL l (lowS name)) /\ Below w.heap.size w w':=by
 have HR:=Lib.hid (rsorted_s ao n cap l w h hF.small hF.vals (by rw [<- h.1]; exact hF.len))
 have hlen:=Nat.le_trans (nf_len l) hF.len
 go_enter Tryz.func226,Tryz.ntmps226
 go_wp2_with fail
 refine HR.out.mono ?_
 rintro e w1 ⟨v,T,rfl,hT,hTO,hown,hb⟩
 obtain ⟨_,xo,xc,rfl,hat,_⟩:=ts_owns hown
 have HTA:=Lib.hid hat
 have HTO:=Lib.hid hTO
 have HB:=Lib.hid hb
 have hTl:T.length <= 3000:=by rw [<- tats_len,hT]; exact hlen
 have HT:=Lib.hid hT
 have hxc:xc <= 9223372036854775807:=hat.2.2.1
 clear HR h hF hat hTO hb hown hT hlen
 obtain ⟨lw,hlw⟩:∃ x,lowS name=x:=⟨_,rfl⟩
 have HLW:=Lib.hid hlw
 clear hlw
 go_wp2_with fail
 go_loopw [5,7] (fun v i wr=>∃ (q:Nat) (U:List Tr),q <= T.length /\ i = .int .i64 q /\ U.length <= q /\ Hid (tats U=((tats T).take q).filter fun a=>decide (a.1 ≠ lw)) /\ Hid (TOwn wr w.heap.size v U) /\ wr.ownsRow w1.heap.size 58 2 v U.length (tcells U) /\ Hid (Below w1.heap.size w1 wr)) (fun _ i _=>T.length - (intOf i).toNat)
 case atStart=>exact ⟨0,[],Nat.zero_le _,rfl,Nat.le_refl _,Lib.hid rfl,Lib.hid (fun t ht=>(List.not_mem_nil ht).elim),World.ownsRow_nil _ _ _ _,Lib.hid (Below.refl _ _)⟩
 case round =>
  obtain ⟨q,U,hq,rfl,hUq,HU,HUO,hown,HB2⟩:=hrel
  by_cases hlt:q < T.length
  ·obtain ⟨b,off,rfl,hblt,_⟩:=HTA.out.2.2.2 (by omega)
   obtain ⟨a0,a1⟩:=ts_at HTA.out q hlt
   have a0:=cell_later HB2.out a0
   have a1:=cell_later HB2.out a1
   have HTQ:=Lib.hid (HTO.out _ (tr_mem T q hlt)).1
   have HFI:=Lib.hid (filter_at (l:=tats T) (lw:=lw) (q:=q) (by rw [tats_len]; exact hlt) fun a=>decide (a.1 ≠ lw))
   rw [atD_tats] at HFI
   obtain ⟨x,hx⟩:∃ x,trD T q=x:=⟨_,rfl⟩
   rw [hx] at a0 a1 HFI HTQ
   clear hx
   obtain ⟨p,hd,vs⟩:=x
   simp only [] at a0 a1 HFI HTQ
   have d1:(q:Int) < (T.length:Int):=by omega
   have HBd:Hid (Below w1.heap.size w1 wr.drew /\ w1.heap.size <= wr.drew.heap.size):=Lib.hid ⟨HB2.out.drew,HB2.out.size⟩
   by_cases hpl:p=lw
   ·have q1:(p.toList == lw.toList)=true:=by rw [str_eq]; exact decide_eq_true hpl
    have q2:(p.toList != lw.toList)=false:=by unfold bne; rw [q1]; rfl
    have HF2:=Lib.hid (show tats U=((tats T).take (q + 1)).filter fun a=>decide (a.1 ≠ lw) by rw [HFI.out,if_neg (by simp [hpl]),List.append_nil]; exact HU.out)
    clear hpl
    go_wp2_with fail
    go_region_held3 (fun W=>W.cell? ⟨b,off + q * 2,none⟩=some (.string p) /\ W.cell? ⟨b,off + q * 2 + 1,none⟩=some hd /\ Hid (Below w1.heap.size w1 W /\ w1.heap.size <= W.heap.size))
     (first | exact ⟨a0,a1,HBd⟩ | exact keep2b (by assumption) hb | go_keep)
     ((go_at_call 81; with_reducible refine (rLower_s name _ (by omega)).mono ?_; rintro e w5 ⟨rfl,hb⟩; rw [HLW.out]))
    have HB6:=Lib.hid (HBd.out.1.trans (hb.mono HBd.out.2))
    have hb5:Below wr.heap.size wr w5:=(Below.refl wr.heap.size wr).drew.trans hb
    have hown5:=own_below hown hb5
    have HUO5:=Lib.hid (HUO.out.below hb5)
    clear hb5 hb
    go_wp2_with fail
    go_roundw
    case rel=>exact ⟨q + 1,U,by omega,by go_num,by omega,HF2,HUO5,hown5,HB6⟩
    case measure=>simp [intOf]; omega
   ·have q1:(p.toList == lw.toList)=false:=by rw [str_eq]; exact decide_eq_false hpl
    have q2:(p.toList != lw.toList)=true:=by unfold bne; rw [q1]; rfl
    have HF2:=Lib.hid (show tats (U ++ [(p,hd,vs)])=((tats T).take (q + 1)).filter fun a=>decide (a.1 ≠ lw) by rw [HFI.out,if_pos (by simp [hpl]),tats_append,HU.out]; rfl)
    clear hpl
    go_wp2_with fail
    go_region_held3 (fun W=>W.cell? ⟨b,off + q * 2,none⟩=some (.string p) /\ W.cell? ⟨b,off + q * 2 + 1,none⟩=some hd /\ Hid (Below w1.heap.size w1 W /\ w1.heap.size <= W.heap.size))
     (first | exact ⟨a0,a1,HBd⟩ | exact keep2b (by assumption) hb | go_keep)
     ((go_at_call 81; with_reducible refine (rLower_s name _ (by omega)).mono ?_; rintro e w5 ⟨rfl,hb⟩; rw [HLW.out]))
    have HB6:=Lib.hid (HBd.out.1.trans (hb.mono HBd.out.2))
    have hb5:Below wr.heap.size wr w5:=(Below.refl wr.heap.size wr).drew.trans hb
    have hown5:=own_below hown hb5
    have a05:=cell_later (hb.mono (Nat.le_refl _)) (show wr.drew.cell? ⟨b,off + q * 2,none⟩=some (.string p) from a0)
    have a15:=cell_later (hb.mono (Nat.le_refl _)) (show wr.drew.cell? ⟨b,off + q * 2 + 1,none⟩=some hd from a1)
    have hTQ5:w5.ownsRow w.heap.size 9 1 hd vs.length (scells vs):=own_below HTQ.out HB6.out
    have hap:=own_apart hown5 HTQ.out (Nat.le_refl _)
    have HUO5:=Lib.hid ((HUO.out.below hb5).snoc (t:=(p,hd,vs)) hTQ5 (apart_symm hap))
    have HHd:=Lib.hid (hdr_owns hTQ5)
    clear hb5 hb hTQ5 hap hown
    have hsz6:=HB6.out.size
    have hsz1:=HB.out.size
    go_wp2_with (at_builtin; go_must (refine app_attrs (w5.alloc (.cells #[.string p,hd] 58)) (hown5.alloc _) (.tmp 24) (.tmp 29) _ 1 1 [(p,hd,vs)] ?_ ?_ ?_ ?_ (ts_new1 w5 (p,hd,vs)) ?_ ?_ ?_ ?_; exact rfl; exact rfl; exact rfl; exact rfl; exact (fun t ht=>by rw [List.mem_singleton.1 ht]; exact HHd.out.below ((Below.refl _ w5).alloc (Nat.le_refl _) _)); omega; (simp; omega); intro v7 w7 hown7 hg7 hl7))
    have HTO7:=Lib.hid ((HUO5.out.below ((Below.refl _ w5).alloc (Nat.le_refl _) _)).grown hg7 hl7)
    have hb7:Below w1.heap.size w1 w7:=(HB6.out.alloc hsz6 _).grown hg7 (by simp; omega) (fun q hq=>(hown5.lt q hq).1)
    go_roundw
    case rel=>exact ⟨q + 1,U ++ [(p,hd,vs)],by omega,by go_num,by simp; omega,HF2,HTO7,by rw [List.length_append,tcells_append]; exact hown7,Lib.hid hb7⟩
    case measure=>simp [intOf]; omega
  ·obtain rfl:q=T.length:=by omega
   have HE:=Lib.hid (show tats U=wthL l lw by rw [HU.out,List.take_of_length_le (by rw [tats_len]; exact Nat.le_refl _),HT.out]; rfl)
   go_wp2_with fail
   go_ret
   exact ⟨_,rfl,⟨U,by rw [HLW.out]; exact HE.out,HUO.out,hown.mono HB.out.size⟩,HB.out.trans (HB2.out.mono HB.out.size)⟩
theorem sum_none:∀ l:List Nat,(∀ x ∈ l,x=0) -> l.sum=0
 | [],_=>rfl
 | x :: l,h=>by
  rw [List.sum_cons,h x (List.mem_cons_self ..),sum_none l fun y hy=>h y (List.mem_cons_of_mem _ hy)]
theorem sum_hit (m:Nat) (n:ByteArray):∀ ns:List ByteArray,ns.Nodup -> (ns.map fun k=>if n=k then m else 0).sum <= m
 | [],_=>Nat.zero_le _
 | k :: ns,h=>by
  have h':=List.nodup_cons.1 h
  rw [List.map_cons,List.sum_cons]
  by_cases e:n=k
  ·rw [if_pos e]
   have hz:(ns.map fun k=>if n=k then m else 0).sum=0:=by
    refine sum_none _ fun x hx => ?_
    obtain ⟨j,hj,rfl⟩:=List.mem_map.1 hx
    rw [if_neg fun e2=>h'.1 (by rw [<- e,e2]; exact hj)]
   omega
  ·rw [if_neg e]
   have:=sum_hit m n ns h'.2
   omega
theorem sum_le {α:Type} (f g:α -> Nat):∀ l:List α,(∀ x ∈ l,f x <= g x) -> (l.map f).sum <= (l.map g).sum
 | [],_=>Nat.le_refl _
 | x :: l,h=>by
  rw [List.map_cons,List.map_cons,List.sum_cons,List.sum_cons]
  have h1:=h x (List.mem_cons_self ..)
  have h2:=sum_le f g l fun y hy=>h y (List.mem_cons_of_mem _ hy)
  omega
theorem sum_add {α:Type} (f g:α -> Nat):∀ l:List α,(l.map fun x=>f x + g x).sum=(l.map f).sum + (l.map g).sum
 | []=>rfl
 | x :: l=>by
  rw [List.map_cons,List.map_cons,List.map_cons,List.sum_cons,List.sum_cons,List.sum_cons,sum_add f g l]; omega
theorem sum_allV:∀ (l:List At) (ns:List ByteArray),ns.Nodup -> (ns.map fun n=>(allV l n).length).sum <= sumV l
 | [],ns,_=>by
  have:(ns.map fun n=>(allV [] n).length).sum=0:=by
   refine sum_none _ fun x hx => ?_
   obtain ⟨j,hj,rfl⟩:=List.mem_map.1 hx
   rfl
  rw [this]; exact Nat.zero_le _
 | a :: l,ns,h=>by
  have e:(fun n=>(allV (a :: l) n).length)=fun n=>(if lowS a.1=n then a.2.length else 0) + (allV l n).length:=by
   funext n
   rw [allV_cons,List.length_append]
   split <;> rfl
  rw [e,sum_add,sumV_cons]
  have h1:=sum_hit a.2.length (lowS a.1) ns h
  have h2:=sum_allV l ns h
  omega
theorem sumV_nf (l:List At):sumV (nf l) <= sumV l:=by
 unfold sumV nf
 rw [List.map_map]
 refine Nat.le_trans (sum_le _ (fun n=>(allV l n).length) _ fun n _ => ?_) (sum_allV l _ (asc_nodup (names_asc l)))
 exact sortU_len _
theorem sumV_append (l k:List At):sumV (l ++ k)=sumV l + sumV k:=by unfold sumV; rw [List.map_append,List.sum_append]
theorem sumV_filter (p:At -> Bool):∀ l:List At,sumV (l.filter p) <= sumV l
 | []=>Nat.le_refl _
 | a :: l=>by
  have:=sumV_filter p l
  by_cases h:p a=true
  ·rw [List.filter_cons_of_pos h,sumV_cons,sumV_cons]; omega
  ·rw [List.filter_cons_of_neg h,sumV_cons]; omega
theorem few_nf {l:List At} (h:Few l):Few (nf l):=⟨nf_small h.small,Nat.le_trans (sumV_nf l) h.vals,Nat.le_trans (nf_len l) h.len⟩
theorem few_wth {l:List At} (h:Few l) (lw:ByteArray):Few (wthL l lw):=
 ⟨fun a ha=>(few_nf h).small a (List.mem_filter.1 ha).1,Nat.le_trans (sumV_filter _ _) (few_nf h).vals,Nat.le_trans (List.length_filter_le _ _) (few_nf h).len⟩
structure Room (l:List At) (vs:List ByteArray):Prop where
 small:SmallA l
 vals:sumV l + vs.length <= 100000
 len:l.length <= 999
 vsmall:SmallS vs
theorem Room.few {l:List At} {vs:List ByteArray} (h:Room l vs):Few l:=⟨h.small,by have:=h.vals; omega,by have:=h.len; omega⟩
theorem few_with {l:List At} {vs:List ByteArray} (h:Room l vs) (lw:ByteArray) {name:ByteArray} (hn:name.size <= 1100000):Few (wthL l lw ++ [(name,vs)]):=by
 have h1:=few_wth h.few lw
 refine ⟨fun a ha => ?_, ?_, ?_⟩
 ·rcases List.mem_append.1 ha with k | k
  ·exact h1.small a k
  ·rw [List.mem_singleton.1 k]; exact ⟨hn,h.vsmall⟩
 ·rw [sumV_append]
  have h2:=sumV_filter (fun a=>decide (a.1 ≠ lw)) (nf l)
  have h3:=sumV_nf l
  have h4:=h.vals
  have h5:sumV [(name,vs)]=vs.length:=rfl
  unfold wthL
  omega
 ·rw [List.length_append,List.length_singleton]
  have h2:=List.length_filter_le (fun a:At=>decide (a.1 ≠ lw)) (nf l)
  have h3:=nf_len l
  have h4:=h.len
  unfold wthL
  omega
def withL (l:List At) (name:ByteArray) (vs:List ByteArray):List At:=nf (wthL l (lowS name) ++ [(name,vs)])
def limR (l:List At) (m:Nat):List At × Int:=if 32 < l.length ∨ 16 < m then ([],3) else (l,0)
set_option maxRecDepth 100000 in
set_option maxHeartbeats 4000000 in
theorem rwith_s (ao vo:Option Addr) (n cap vn vc:Nat) (l:List At) (name:ByteArray) (vs:List ByteArray) (w:World) (h:AttrsAt w ao n cap l) (hv:StrsAt w vo vn vc vs) (hF:Room l vs) (hns:name.size <= 1100000) :
  Calls Tryz.prog 225 #[.slice ao n cap, .string name, .slice vo vn vc] w fun e w'=>∃ v,e = .returned (.tuple #[v, .int .i64 (limR (withL l name vs) vs.length).2]) /\ AttsR w' v (limR (withL l name vs) vs.length).1 /\ Below w.heap.size w w':=by
 have HR:=Lib.hid (rwithout_s ao n cap l name w h hF.few hns)
 have HFW:=Lib.hid (few_with hF (lowS name) hns)
 have HV:=Lib.hid hv
 have hvl:vs.length=vn:=hv.1
 clear h hF hv
 go_enter Tryz.func225,Tryz.ntmps225
 go_wp2_with fail
 refine HR.out.mono ?_
 rintro e w1 ⟨v,rfl,⟨U,hU,hUO,hown⟩,hb⟩
 have HB:=Lib.hid hb
 have HHd:Hid (Hdr w1 (.slice vo vn vc) vs):=Lib.hid ⟨vo,vn,vc,rfl,HV.out.below hb⟩
 have HUO:=Lib.hid hUO
 have HU:=Lib.hid hU
 have hul:U.length <= 3000:=by have h5:=HFW.out.len; rw [List.length_append, <- hU,tats_len] at h5; omega
 have hsz:=hb.size
 clear HR hb hUO hU
 go_wp2_with (at_builtin; go_must (refine app_attrs (w1.alloc (.cells #[.string name, .slice vo vn vc] 58)) (hown.alloc _) (.tmp 11) (.tmp 15) _ 1 1 [(name, .slice vo vn vc,vs)] ?_ ?_ ?_ ?_ (ts_new1 w1 (name, .slice vo vn vc,vs)) ?_ ?_ ?_ ?_; exact rfl; exact rfl; exact rfl; exact rfl; exact (fun t ht=>by rw [List.mem_singleton.1 ht]; exact HHd.out.below ((Below.refl _ w1).alloc (Nat.le_refl _) _)); omega; (simp; omega); intro v7 w7 hown7 hg7 hl7))
 have HTO7:=((HUO.out.below ((Below.refl _ w1).alloc (Nat.le_refl _) _)).grown hg7 hl7)
 have hb7:Below w.heap.size w w7:=(HB.out.alloc hsz _).grown hg7 (by simp; omega) (fun q hq=>(hown.lt q hq).1)
 have hHd7:Hdr w7 (.slice vo vn vc) vs:=⟨vo,vn,vc,rfl,HV.out.below hb7⟩
 have hown8:w7.ownsRow w.heap.size 58 2 v7 (U.length + 1) (tcells (U ++ [(name, .slice vo vn vc,vs)])):=by rw [tcells_append]; exact hown7
 obtain ⟨xo,xn,xc,rfl,hx⟩:=atts_own hown8 (HTO7.ok.app fun t ht=>by rw [List.mem_singleton.1 ht]; exact hHd7)
 have e7:tats (U ++ [(name, .slice vo vn vc,vs)])=wthL l (lowS name) ++ [(name,vs)]:=by rw [tats_append,HU.out]; rfl
 rw [e7] at hx
 have HS:=Lib.hid (rsorted_s xo xn xc _ w7 hx HFW.out.small HFW.out.vals (by rw [<- hx.1]; exact HFW.out.len))
 have HB7:=Lib.hid hb7
 clear hx e7 hown8 hHd7 hb7 HTO7 hown7 hown hg7 hl7
 go_wp2_with fail
 refine HS.out.mono ?_
 rintro e w8 ⟨v8,T,rfl,hT,hTO,hown,hb⟩
 have HAR:=Lib.hid (atts_own hown hTO.ok)
 have HB8:=Lib.hid (HB7.out.trans (hb.mono HB7.out.size))
 have HTL:=Lib.hid (show (withL l name vs).length=T.length by unfold withL; rw [<- hT,tats_len])
 rw [hT] at HAR
 obtain ⟨_,yo,yc,rfl,_,_⟩:=ts_owns hown
 clear hown hTO hb HS hT
 by_cases h1:32 < T.length
 ·have d1:decide ((32:Int) < (T.length:Int))=true:=decide_eq_true (by omega)
  have HL:=Lib.hid (show limR (withL l name vs) vs.length=([],3) from if_pos (.inl (by rw [HTL.out]; exact h1)))
  go_wp2_with fail
  go_ret2
  exact ⟨_,by rw [HL.out]; rfl,by rw [HL.out]; exact atts_nil _,HB8.out⟩
 ·have d1:decide ((32:Int) < (T.length:Int))=false:=decide_eq_false (by omega)
  by_cases h2:16 < vn
  ·have d2:decide ((16:Int) < (vn:Int))=true:=decide_eq_true (by omega)
   have HL:=Lib.hid (show limR (withL l name vs) vs.length=([],3) from if_pos (.inr (by rw [hvl]; exact h2)))
   go_wp2_with fail
   go_ret2
   exact ⟨_,by rw [HL.out]; rfl,by rw [HL.out]; exact atts_nil _,HB8.out⟩
  ·have d2:decide ((16:Int) < (vn:Int))=false:=decide_eq_false (by omega)
   have HL:=Lib.hid (show limR (withL l name vs) vs.length=(withL l name vs,0) from if_neg (by rw [HTL.out,hvl]; omega))
   go_wp2_with fail
   go_ret2
   exact ⟨_,by rw [HL.out]; rfl,by rw [HL.out]; exact HAR.out,HB8.out⟩
set_option maxRecDepth 100000 in
set_option maxHeartbeats 4000000 in
theorem rcheckV_s (ao bo:Option Addr) (n m cap dap:Nat) (vs old:List ByteArray) (w:World) (h:StrsAt w ao n cap vs) (k:StrsAt w bo m dap old) (hS:SmallS vs) :
  Calls Tryz.prog 130 #[.slice ao n cap, .slice bo m dap] w fun e w'=>e = .returned (.int .i64 (chkV vs old)) /\ Below w.heap.size w w':=by
 have HVS:=Lib.hid h
 have HOL:=Lib.hid k
 obtain ⟨h1,h2,h3,h4⟩:=h
 subst h1
 unfold maxLen at h3
 have H4:=Lib.hid h4; clear h4
 have HS:=Lib.hid hS; clear hS k
 go_enter Tryz.func130,Tryz.ntmps130
 go_wp2
 go_loopw [5] (fun i wr=>∃ j:Nat,j <= vs.length /\ i = .int .i64 j /\ Hid (∀ q,q < j -> errV vs old q=0) /\ Hid (Below w.heap.size w wr)) (fun i _=>vs.length - (intOf i).toNat)
 case atStart=>exact ⟨0,Nat.zero_le _,rfl,Lib.hid (fun q hq=>absurd hq (Nat.not_lt_zero _)),Lib.hid (Below.refl _ _)⟩
 case round =>
  obtain ⟨j,hj,rfl,HA,HB⟩:=hrel
  by_cases hlt:j < vs.length
  ·obtain ⟨b,off,rfl,hs⟩:=H4.out (by omega)
   have hcell:=(hs.below HB.out hs.1).2 j hlt
   clear hs
   have HE:=Lib.hid (show errV vs old j=if cleanB (partAt vs j)=false then 4 else if memB old (partAt vs j)=true ∨ memB (vs.take j) (partAt vs j)=true then 7 else 0 from rfl)
   obtain ⟨p,hp⟩:∃ x,partAt vs j=x:=⟨_,rfl⟩
   have hps:p.size <= 1100000:=by rw [<- hp]; exact HS.out _ (part_mem vs j hlt)
   rw [hp] at hcell HE
   clear hp
   have d0:(0:Int) <= (j:Int):=by omega
   have d1:(j:Int) < (vs.length:Int):=by omega
   have d2:(j:Int) <= (cap:Int):=by omega
   have HVd:Hid (StrsAt wr.drew (some ⟨b,off,none⟩) vs.length cap vs):=Lib.hid ((HVS.out.below HB.out).below (Below.refl _ wr).drew)
   have HCd:Hid (StrsAt wr.drew (some ⟨b,off,none⟩) j cap (vs.take j)):=Lib.hid (HVd.out.cut j hj)
   have HOd:Hid (StrsAt wr.drew bo m dap old):=Lib.hid ((HOL.out.below HB.out).below (Below.refl _ wr).drew)
   obtain ⟨cl,hcl⟩:∃ x,cleanB p=x:=⟨_,rfl⟩
   obtain ⟨m1,hm1⟩:∃ x,memB old p=x:=⟨_,rfl⟩
   obtain ⟨m2,hm2⟩:∃ x,memB (vs.take j) p=x:=⟨_,rfl⟩
   rw [hcl,hm1,hm2] at HE
   have HCL:=Lib.hid hcl
   have HM1:=Lib.hid hm1
   have HM2:=Lib.hid hm2
   clear hcl hm1 hm2
   have HF:=Lib.hid (fun (e:errV vs old j ≠ 0)=>firstE_hit (f:=errV vs old) HA.out e hlt)
   cases cl with
   | false =>
    have HR:=Lib.hid (show chkV vs old=4 by rw [if_pos rfl] at HE; unfold chkV; rw [HF.out (by rw [HE.out]; decide),HE.out])
    go_wp2_with (go_at_call 194; refine (rClean_s p _ (by omega)).mono ?_; rintro e w' ⟨rfl,rfl⟩; rw [HCL.out])
    go_ret
    exact ⟨by rw [HR.out]; rfl,HB.out⟩
   | true =>
    rw [if_neg (by simp)] at HE
    cases m1 with
    | true =>
     have HR:=Lib.hid (show chkV vs old=7 by rw [if_pos (.inl rfl)] at HE; unfold chkV; rw [HF.out (by rw [HE.out]; decide),HE.out])
     go_wp2_with (go_at_call 194; refine (rClean_s p _ (by omega)).mono ?_; rintro e w' ⟨rfl,rfl⟩; rw [HCL.out])
     refine wp_region_held_drew (S:=fun W=>W.cell? ⟨b,off + j,none⟩=some (.string p)) (by kernel_rfl) (hcell) (fun hS => ?_)
     refine rgT 0 (some 18) ?_
     refine rgT 1 (some 19) ?_
     refine rgT 2 (some 20) ?_
     refine rgT 3 (some 21) ?_
     refine rgT 4 (some 22) ?_
     refine rgC 5 (fun K hK => ?_)
     go_simp
     refine (has_s bo m dap old p _ HOd.out).mono ?_
     rintro e w5 ⟨rfl,rfl⟩
     rw [HM1.out]
     go_wp2_with fail
     refine hK.out _ _ ?_ (fun hHeld => ?_)
     ·assumption
     clear hK K
     try simp only [Act.put,lsA,lsZ,lsS]
     refine rgT 6 (some 24) ?_
     refine rgS 7 (some 25) ?_
     refine rgS 8 (some 26) ?_
     refine rgS 9 (some 27) ?_
     refine rgS 10 (some 28) ?_
     refine rgS 11 (some 29) ?_
     refine rgS 12 (some 30) ?_
     refine rgS 13 (some 31) ?_
     refine rgS 14 (some 32) ?_
     refine rgT 15 (some 33) ?_
     refine wpAnyH_done (by kernel_rfl) ?_ _
     go_wp2_with fail
     go_ret
     exact ⟨by rw [HR.out]; rfl,HB.out.drew⟩
    | false =>
     cases m2 with
     | true =>
      have HR:=Lib.hid (show chkV vs old=7 by rw [if_pos (.inr rfl)] at HE; unfold chkV; rw [HF.out (by rw [HE.out]; decide),HE.out])
      go_wp2_with (go_at_call 194; refine (rClean_s p _ (by omega)).mono ?_; rintro e w' ⟨rfl,rfl⟩; rw [HCL.out])
      refine wp_region_held_drew (S:=fun W=>W.cell? ⟨b,off + j,none⟩=some (.string p)) (by kernel_rfl) (hcell) (fun hS => ?_)
      refine rgT 0 (some 18) ?_
      refine rgT 1 (some 19) ?_
      refine rgT 2 (some 20) ?_
      refine rgT 3 (some 21) ?_
      refine rgT 4 (some 22) ?_
      refine rgC 5 (fun K hK => ?_)
      go_simp
      refine (has_s bo m dap old p _ HOd.out).mono ?_
      rintro e w5 ⟨rfl,rfl⟩
      rw [HM1.out]
      go_wp2_with fail
      refine hK.out _ _ ?_ (fun hHeld => ?_)
      ·assumption
      clear hK K
      try simp only [Act.put,lsA,lsZ,lsS]
      refine rgT 6 (some 24) ?_
      refine rgT 7 (some 25) ?_
      refine rgT 8 (some 26) ?_
      refine rgT 9 (some 27) ?_
      refine rgT 10 (some 28) ?_
      refine rgT 11 (some 29) ?_
      refine rgT 12 (some 30) ?_
      refine rgT 13 (some 31) ?_
      refine rgC 14 (fun K hK => ?_)
      go_simp
      refine (has_s _ j cap (vs.take j) p _ HCd.out).mono ?_
      rintro e w5 ⟨rfl,rfl⟩
      rw [HM2.out]
      go_wp2_with fail
      refine hK.out _ _ ?_ (fun hHeld => ?_)
      ·assumption
      clear hK K
      try simp only [Act.put,lsA,lsZ,lsS]
      refine rgT 15 (some 33) ?_
      refine wpAnyH_done (by kernel_rfl) ?_ _
      go_wp2_with fail
      go_ret
      exact ⟨by rw [HR.out]; rfl,HB.out.drew⟩
     | false =>
      have HZ:=Lib.hid (show errV vs old j=0 by rw [HE.out]; simp)
      have HB2:=Lib.hid HB.out.drew
      go_wp2_with (go_at_call 194; refine (rClean_s p _ (by omega)).mono ?_; rintro e w' ⟨rfl,rfl⟩; rw [HCL.out])
      refine wp_region_held_drew (S:=fun W=>W.cell? ⟨b,off + j,none⟩=some (.string p)) (by kernel_rfl) (hcell) (fun hS => ?_)
      refine rgT 0 (some 18) ?_
      refine rgT 1 (some 19) ?_
      refine rgT 2 (some 20) ?_
      refine rgT 3 (some 21) ?_
      refine rgT 4 (some 22) ?_
      refine rgC 5 (fun K hK => ?_)
      go_simp
      refine (has_s bo m dap old p _ HOd.out).mono ?_
      rintro e w5 ⟨rfl,rfl⟩
      rw [HM1.out]
      go_wp2_with fail
      refine hK.out _ _ ?_ (fun hHeld => ?_)
      ·assumption
      clear hK K
      try simp only [Act.put,lsA,lsZ,lsS]
      refine rgT 6 (some 24) ?_
      refine rgT 7 (some 25) ?_
      refine rgT 8 (some 26) ?_
      refine rgT 9 (some 27) ?_
      refine rgT 10 (some 28) ?_
      refine rgT 11 (some 29) ?_
      refine rgT 12 (some 30) ?_
      refine rgT 13 (some 31) ?_
      refine rgC 14 (fun K hK => ?_)
      go_simp
      refine (has_s _ j cap (vs.take j) p _ HCd.out).mono ?_
      rintro e w5 ⟨rfl,rfl⟩
      rw [HM2.out]
      go_wp2_with fail
      refine hK.out _ _ ?_ (fun hHeld => ?_)
      ·assumption
      clear hK K
      try simp only [Act.put,lsA,lsZ,lsS]
      refine rgT 15 (some 33) ?_
      refine wpAnyH_done (by kernel_rfl) ?_ _
      go_wp2_with fail
      go_roundw
      case rel =>
       refine ⟨j + 1,by omega,by go_num,Lib.hid fun q hq => ?_,HB2⟩
       by_cases e:q=j
       ·rw [e]; exact HZ.out
       ·exact HA.out q (by omega)
      case measure=>simp [intOf]; omega
  ·obtain rfl:j=vs.length:=by omega
   have HR:=Lib.hid (show chkV vs old=0 from firstE_zero HA.out)
   go_wp2_with fail
   go_ret
   exact ⟨by rw [HR.out]; rfl,HB.out⟩
structure Edit (l:List At) (vs:List ByteArray):Prop where
 small:SmallA l
 tot:sumV l <= 40000
 len:l.length <= 900
 vsmall:SmallS vs
 vlen:vs.length <= 10000
theorem Edit.few {l:List At} {vs:List ByteArray} (h:Edit l vs):Few l:=⟨h.small,by have:=h.tot; omega,by have:=h.len; omega⟩
theorem Edit.room {l:List At} {vs:List ByteArray} (h:Edit l vs):Room l vs:=⟨h.small,by have:=h.tot; have:=h.vlen; omega,by have:=h.len; omega,h.vsmall⟩
theorem small_app {a b:List ByteArray} (h:SmallS a) (k:SmallS b):SmallS (a ++ b):=fun v hv=>(List.mem_append.1 hv).elim (h v) (k v)
theorem Edit.more {l:List At} {vs:List ByteArray} (h:Edit l vs) (lw:ByteArray):Room l (vals l lw ++ vs):=
 ⟨h.small,by have h1:=h.tot; have h2:=h.vlen; have h3:=vals_len l lw; rw [List.length_append]; omega,by have:=h.len; omega,small_app (vals_small h.small lw) h.vsmall⟩
def addR (l:List At) (name:ByteArray) (vs:List ByteArray):List At × Int:=
 if nameB name=false then ([],5) else if vs.length=0 then ([],6) else if chkV vs (vals l (lowS name)) ≠ 0 then ([],chkV vs (vals l (lowS name))) else limR (withL l name (vals l (lowS name) ++ vs)) (vals l (lowS name) ++ vs).length
def repR (l:List At) (name:ByteArray) (vs:List ByteArray):List At × Int:=
 if nameB name=false then ([],5) else if chkV vs [] ≠ 0 then ([],chkV vs []) else limR (withL l name vs) vs.length
theorem strs_nil (w:World):StrsAt w none 0 0 []:=⟨rfl,Nat.le_refl _,by unfold maxLen; omega,fun h=>absurd h (Nat.lt_irrefl _)⟩
set_option maxRecDepth 100000 in
set_option maxHeartbeats 4000000 in
theorem rrep_s (ao vo:Option Addr) (n cap vn vc:Nat) (l:List At) (name:ByteArray) (vs:List ByteArray) (w:World) (h:AttrsAt w ao n cap l) (hv:StrsAt w vo vn vc vs) (hF:Edit l vs) (hns:name.size <= 1100000) :
  Calls Tryz.prog 153 #[.slice ao n cap, .string name, .slice vo vn vc] w fun e w'=>∃ v,e = .returned (.tuple #[v, .int .i64 (repR l name vs).2]) /\ AttsR w' v (repR l name vs).1 /\ Below w.heap.size w w':=by
 have HA:=Lib.hid h
 have HV:=Lib.hid hv
 have HC:=Lib.hid (rcheckV_s vo none vn 0 vc 0 vs [] w hv (strs_nil w) hF.vsmall)
 have HF:=Lib.hid hF
 clear h hv hF
 cases hnm:nameB name with
 | false =>
  have HL:=Lib.hid (show repR l name vs=([],5) from if_pos hnm)
  go_enter Tryz.func153,Tryz.ntmps153
  go_wp2_with (go_at_call 118; refine (rName_s name _ (by omega)).mono ?_; rintro e w' ⟨rfl,rfl⟩; rw [hnm])
  go_ret2
  exact ⟨_,by rw [HL.out]; rfl,by rw [HL.out]; exact atts_nil _,Below.refl _ _⟩
 | true =>
  obtain ⟨c,hc⟩:∃ x,chkV vs []=x:=⟨_,rfl⟩
  rw [hc] at HC
  by_cases h0:c=0
  ·subst h0
   have HL:=Lib.hid (show repR l name vs=limR (withL l name vs) vs.length by unfold repR; rw [if_neg (by rw [hnm]; simp),if_neg (by rw [hc]; simp)])
   clear hc
   go_enter Tryz.func153,Tryz.ntmps153
   go_wp2_with (go_at_call 118; refine (rName_s name _ (by omega)).mono ?_; rintro e w' ⟨rfl,rfl⟩; rw [hnm])
   refine HC.out.mono ?_
   rintro e w1 ⟨rfl,hb⟩
   have HW:=Lib.hid (rwith_s ao vo n cap vn vc l name vs w1 (HA.out.below hb) (HV.out.below hb) HF.out.room hns)
   have HB:=Lib.hid hb
   clear hb HC
   go_wp2_with fail
   refine HW.out.mono ?_
   rintro e w2 ⟨v,rfl,hR,hb⟩
   go_wp2_with fail
   go_ret2
   exact ⟨_,by rw [HL.out]; rfl,by rw [HL.out]; exact hR,HB.out.trans (hb.mono HB.out.size)⟩
  ·have HL:=Lib.hid (show repR l name vs=([],c) by unfold repR; rw [if_neg (by rw [hnm]; simp),hc,if_pos h0])
   have q1:(c != 0)=true:=by simpa using h0
   clear hc
   go_enter Tryz.func153,Tryz.ntmps153
   go_wp2_with (go_at_call 118; refine (rName_s name _ (by omega)).mono ?_; rintro e w' ⟨rfl,rfl⟩; rw [hnm])
   refine HC.out.mono ?_
   rintro e w1 ⟨rfl,hb⟩
   go_wp2_with fail
   go_ret2
   exact ⟨_,by rw [HL.out]; rfl,by rw [HL.out]; exact atts_nil _,hb⟩
set_option maxRecDepth 100000 in
set_option maxHeartbeats 4000000 in
theorem radd_s (ao vo:Option Addr) (n cap vn vc:Nat) (l:List At) (name:ByteArray) (vs:List ByteArray) (w:World) (h:AttrsAt w ao n cap l) (hv:StrsAt w vo vn vc vs) (hF:Edit l vs) (hns:name.size <= 1100000) :
  Calls Tryz.prog 151 #[.slice ao n cap, .string name, .slice vo vn vc] w fun e w'=>∃ v,e = .returned (.tuple #[v, .int .i64 (addR l name vs).2]) /\ AttsR w' v (addR l name vs).1 /\ Below w.heap.size w w':=by
 have hvl:vs.length=vn:=hv.1
 have HA:=Lib.hid h
 have HV:=Lib.hid hv
 have HG:=Lib.hid (rget_s ao n cap l name w h hF.few hns)
 have HF:=Lib.hid hF
 clear h hv hF
 cases hnm:nameB name with
 | false =>
  have HL:=Lib.hid (show addR l name vs=([],5) from if_pos hnm)
  go_enter Tryz.func151,Tryz.ntmps151
  go_wp2_with (go_at_call 118; refine (rName_s name _ (by omega)).mono ?_; rintro e w' ⟨rfl,rfl⟩; rw [hnm])
  go_ret2
  exact ⟨_,by rw [HL.out]; rfl,by rw [HL.out]; exact atts_nil _,Below.refl _ _⟩
 | true =>
  by_cases hz:vn=0
  ·have HL:=Lib.hid (show addR l name vs=([],6) by unfold addR; rw [if_neg (by rw [hnm]; simp),if_pos (by omega)])
   have q0:((vn:Int) == 0)=true:=by simpa using hz
   clear hz hvl
   go_enter Tryz.func151,Tryz.ntmps151
   go_wp2_with (go_at_call 118; refine (rName_s name _ (by omega)).mono ?_; rintro e w' ⟨rfl,rfl⟩; rw [hnm])
   go_ret2
   exact ⟨_,by rw [HL.out]; rfl,by rw [HL.out]; exact atts_nil _,Below.refl _ _⟩
  ·have q0:((vn:Int) == 0)=false:=by simpa using hz
   obtain ⟨old,hold⟩:∃ x,vals l (lowS name)=x:=⟨_,rfl⟩
   have hol:old.length <= 40000:=by rw [<- hold]; exact Nat.le_trans (vals_len _ _) HF.out.tot
   have HRM:=Lib.hid (HF.out.more (lowS name))
   obtain ⟨c,hc⟩:∃ x,chkV vs old=x:=⟨_,rfl⟩
   have HL0:=Lib.hid (show addR l name vs=if c ≠ 0 then ([],c) else limR (withL l name (old ++ vs)) (old ++ vs).length by unfold addR; rw [if_neg (by rw [hnm]; simp),if_neg (by omega),hold,hc])
   rw [hold] at HG HRM
   clear hold hz
   have hvn:vn <= 10000:=by rw [<- hvl]; exact HF.out.vlen
   go_enter Tryz.func151,Tryz.ntmps151
   go_wp2_with (go_at_call 118; refine (rName_s name _ (by omega)).mono ?_; rintro e w' ⟨rfl,rfl⟩; rw [hnm])
   refine HG.out.mono ?_
   rintro e w1 ⟨v,rfl,⟨xo,xn,xc,rfl,hx⟩,hb⟩
   have HX:=Lib.hid hx
   have HB:=Lib.hid hb
   have hxl:old.length=xn:=hx.1
   have HC:=Lib.hid (rcheckV_s vo xo vn xn vc xc vs old w1 (HV.out.below hb) hx HF.out.vsmall)
   rw [hc] at HC
   clear hx hb HG hc
   go_wp2_with fail
   refine HC.out.mono ?_
   rintro e w2 ⟨rfl,hb⟩
   have HB2:=Lib.hid (HB.out.trans (hb.mono HB.out.size))
   have HX2:=Lib.hid (HX.out.below hb)
   clear hb HC HX
   by_cases h0:c=0
   ·subst h0
    have HL:=Lib.hid (show addR l name vs=limR (withL l name (old ++ vs)) (old ++ vs).length by rw [HL0.out,if_neg (by simp)])
    clear HL0
    have hown0:(w2.alloc (.cells #[] 9)).ownsRow w.heap.size 9 1 (.slice (some ⟨w2.heap.size,0,none⟩) 0 0) 0 []:=World.ownsRow_made w2 #[] 0 HB2.out.size (by unfold maxLen; omega) rfl
    have HB3:=Lib.hid (HB2.out.alloc (HB2.out.size) (.cells #[] 9))
    have HX3:=Lib.hid (HX2.out.below ((Below.refl _ w2).alloc (Nat.le_refl _) (.cells #[] 9)))
    have hsz3:=HB3.out.size
    have tok:True:=trivial
    go_wp2_with (first
     | (at_builtin; have _t:=tok; go_must (refine push_strs (w2.alloc (.cells #[] 9)) hown0 (.tmp 27) (.tmp 28) HX3.out ?_ ?_ ?_ ?_ ?_ ?_ ?_; exact rfl; exact rfl; exact rfl; exact rfl; omega; exact hsz3; intro v3 w3 hown3 hg3 hl3; clear tok; have HB4:=Lib.hid (HB3.out.grown hg3 hsz3 (fun q hq=>(hown0.lt q hq).1)); have hsz4:=HB4.out.size; have HV4:=Lib.hid (HV.out.below HB4.out)))
     | (at_builtin; go_must (refine push_strs w3 hown3 (.tmp 29) (.tmp 30) HV4.out ?_ ?_ ?_ ?_ ?_ ?_ ?_; exact rfl; exact rfl; exact rfl; exact rfl; omega; exact hsz4; intro v5 w5 hown5 hg5 hl5)))
    have hown6:w5.ownsRow w.heap.size 9 1 v5 (old ++ vs).length (scells (old ++ vs)):=by
     have e1:(old ++ vs).length=0 + xn + vn:=by rw [List.length_append]; omega
     have e2:scells (old ++ vs) = [] ++ scells old ++ scells vs:=by unfold scells; rw [List.map_append]; rfl
     rw [e1,e2]; exact hown5
    have hb5:=HB4.out.grown hg5 hsz4 (fun q hq=>(hown3.lt q hq).1)
    obtain ⟨yo,yc,rfl,hy⟩:=strs_own hown6 rfl
    have HW:=Lib.hid (rwith_s ao yo n cap _ yc l name (old ++ vs) w5 (HA.out.below hb5) hy HRM.out hns)
    have HB5:=Lib.hid hb5
    clear hown6 hown5 hy hb5 hg5 hl5 hown3 hg3 hl3
    go_wp2_with fail
    refine HW.out.mono ?_
    rintro e w6 ⟨v,rfl,hR,hb⟩
    go_wp2_with fail
    go_ret2
    have he:(old ++ vs).length=xn + vn:=by rw [List.length_append]; omega
    exact ⟨_,by rw [HL.out,he]; rfl,by rw [HL.out]; exact hR,HB5.out.trans (hb.mono HB5.out.size)⟩
   ·have HL:=Lib.hid (show addR l name vs=([],c) by rw [HL0.out,if_pos h0])
    have q1:(c != 0)=true:=by simpa using h0
    go_wp2_with fail
    go_ret2
    exact ⟨_,by rw [HL.out]; rfl,by rw [HL.out]; exact atts_nil _,HB2.out⟩
end Go.Proofs.YtmmdaegdkikkpaaGreatDoor
end
