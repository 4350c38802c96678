/-
  Proved: identitylaw16.ChangeChecks returns true for every input (the tied card). No condition beyond the row's own.
-/
import Derived.Test.YtbkignlbcneddaaGreatDoorX28
set_option linter.unusedVariables false
set_option linter.unusedSimpArgs false
set_option linter.unnecessarySimpa false

section
/-
  Proved: identitylaw16.ChangeChecks returns true for every input (the tied card). No condition beyond the row's own.
-/
set_option linter.unusedVariables false
set_option linter.unusedSimpArgs false
set_option linter.unnecessarySimpa false
namespace Go.Proofs.YtbkignlbcneddaaGreatDoor
open Go.ChangeShapes Go.WideShapes Go.ChangeAt Go.RowKit Go.PlainAid
open Go.ChangeMaps (open_string shut_string)
open Csn (Cn cnV cnB CnsAt KbC kbc_new box_below box_lt TzOk own witness_row trodAll_below max_ok laidOut open_cns open_cn)

structure KcG (w:World) (g:Chg) (V:World):Prop where
  low:Below w.heap.size w V
  ok:COk V
  k:KbC V w.heap.size (chB g)
theorem KcG.step {w V X:World} {g:Chg} (h:KcG w g V) (hb:Below V.heap.size V X):KcG w g X:=⟨h.low.trans (hb.mono h.low.size),h.ok.step hb,Csn.KbC.step h.k hb⟩
structure KeG (w:World) (g p:Chg) (x y:Nat) (V:World):Prop where
  kc:KcG w g V
  k1:KbC V x (chB p)
  k2:KbC V y (chB p)
theorem KeG.step {w V X:World} {g p:Chg} {x y:Nat} (h:KeG w g p x y V) (hb:Below V.heap.size V X):KeG w g p x y X:=⟨h.kc.step hb,Csn.KbC.step h.k1 hb,Csn.KbC.step h.k2 hb⟩
theorem rline_k (t s r o:Int) (id nm ak vl x:ByteArray) (z:Int) (w:World) (hz:SmG ⟨(t,s,r),o,id,nm,ak,vl⟩) (ho:MaxOk w) (hx:lnV ⟨(t,s,r),o,id,nm,ak,vl⟩=x) (hc:chkG ⟨(t,s,r),o,id,nm,ak,vl⟩=z) :
    Calls Tryz.prog 14 #[.agg #[.int .i64 t, .int .i64 s, .int .i64 r, .int .i64 o, .string id, .string nm, .string ak, .string vl]] w fun e w'=>e = .returned (.tuple #[.string x, .int .i64 z]) /\ Below w.heap.size w w':=by
  subst hx hc; exact rline_s ⟨(t,s,r),o,id,nm,ak,vl⟩ w hz ho
theorem rchk_k (t s r o:Int) (id nm ak vl:ByteArray) (z:Int) (w:World) (hz:SmG ⟨(t,s,r),o,id,nm,ak,vl⟩) (ho:MaxOk w) (hc:chkG ⟨(t,s,r),o,id,nm,ak,vl⟩=z) :
    Calls Tryz.prog 18 #[.agg #[.int .i64 t, .int .i64 s, .int .i64 r, .int .i64 o, .string id, .string nm, .string ak, .string vl]] w fun e w'=>e = .returned (.int .i64 z) /\ Below w.heap.size w w':=by
  subst hc; exact rchkg_s ⟨(t,s,r),o,id,nm,ak,vl⟩ w hz ho
theorem parseC_k (s:ByteArray) (t u r o:Int) (id nm ak vl:ByteArray) (z:Int) (w:World) (hs:s.size <= 1000000) (ho:COk w) (hg:(parG s).getD zeroG=⟨(t,u,r),o,id,nm,ak,vl⟩) (he:parE s=z) :
    Calls Tryz.prog 15 #[.string s] w fun e w'=>e = .returned (.tuple #[.agg #[.int .i64 t, .int .i64 u, .int .i64 r, .int .i64 o, .string id, .string nm, .string ak, .string vl], .int .i64 z]) /\ Below w.heap.size w w':=by
  have h:=parse_s s w hs ho
  rw [hg,he,chV_is] at h
  exact h
theorem rparseC_k (s:ByteArray) (t u r o:Int) (id nm ak vl:ByteArray) (z:Int) (w:World) (hs:s.size <= 1000000) (ho:MaxOk w) (hg:(parG s).getD zeroG=⟨(t,u,r),o,id,nm,ak,vl⟩) (he:parE s=z) :
    Calls Tryz.prog 16 #[.string s] w fun e w'=>e = .returned (.tuple #[.agg #[.int .i64 t, .int .i64 u, .int .i64 r, .int .i64 o, .string id, .string nm, .string ak, .string vl], .int .i64 z]) /\ Below w.heap.size w w':=by
  have h:=rparseln_s s w hs ho
  rw [hg,he,chV_is] at h
  exact h
set_option maxRecDepth 100000 in
set_option maxHeartbeats 16000000 in
theorem chchecks_s (c:Chg) (s:ByteArray) (w:World) (ic:InG c) (ho:COk w) :
    Calls Tryz.prog 3 #[chV c, .string s] w fun e w'=>e = .returned (.bool true) /\ Below w.heap.size w w':=by
  obtain ⟨⟨t,u,r⟩,o,id,nm,ak,vl⟩:=c
  rw [chV_is]
  have HK:=Lib.hid (show KcG w ⟨(t,u,r),o,id,nm,ak,vl⟩ (w.alloc (chB ⟨(t,u,r),o,id,nm,ak,vl⟩)) from ⟨box_below w _,ho.step (box_below w _),kbc_new w _⟩)
  rw [chB_is] at HK
  clear ic ho
  go_enter Tryz.func3,Tryz.ntmps3
  go_wp2_with fail
  have hone:=chs_one (w.alloc (.cells #[.int .i64 t, .int .i64 u, .int .i64 r, .int .i64 o, .string id, .string nm, .string ak, .string vl] 26)) ⟨(t,u,r),o,id,nm,ak,vl⟩
  rw [World.size_alloc] at hone
  refine (light_s _ 1 1 [⟨(t,u,r),o,id,nm,ak,vl⟩] _ hone).mono ?_
  rintro e w' ⟨⟨r',rfl,hl⟩,rfl⟩
  have HK:=Lib.hid (HK.out.step (box_below (w.alloc (.cells #[.int .i64 t, .int .i64 u, .int .i64 r, .int .i64 o, .string id, .string nm, .string ak, .string vl] 26)) (.cells (gcells ⟨(t,u,r),o,id,nm,ak,vl⟩).toArray 26)))
  have HQ:=Lib.hid (fun h=>(hl h).small ⟨(t,u,r),o,id,nm,ak,vl⟩ (List.mem_cons_self ..))
  clear hl hone
  revert HK
  generalize World.alloc _ _=V
  intro HK
  cases r'
  · go_wp2_with fail
    refine (awake_s _ HK.out.ok).mono ?_
    rintro e w1 ⟨rfl,hb⟩
    have HK:=Lib.hid (HK.out.step hb)
    go_wp2_with fail
    go_ret
    exact ⟨rfl,HK.out.low⟩
  · have HZ:=Lib.hid (HQ.out rfl)
    clear HQ
    by_cases h2:s.size <= 2000
    · have d1:¬ (s.size:Int) > 2000:=by omega
      have d2:decide ((2000:Int) < (s.size:Int))=false:=decide_eq_false (by omega)
      obtain ⟨_,_,_,_,_,_,_,_⟩:=box8 (show KbC _ w.heap.size (chB ⟨(t,u,r),o,id,nm,ak,vl⟩) from HK.out.k)
      obtain ⟨x,hx⟩:∃ x,lnV ⟨(t,u,r),o,id,nm,ak,vl⟩=x:=⟨_,rfl⟩
      obtain ⟨z,hz⟩:∃ x,chkG ⟨(t,u,r),o,id,nm,ak,vl⟩=x:=⟨_,rfl⟩
      obtain ⟨⟨⟨pt,pu,pr⟩,po,pi,pn,pk,pv⟩,hp⟩:∃ x,(parG s).getD zeroG=x:=⟨_,rfl⟩
      obtain ⟨e,he⟩:∃ x,parE s=x:=⟨_,rfl⟩
      have HX:=Lib.hid hx
      have HC:=Lib.hid hz
      have HP:=Lib.hid hp
      have HE:=Lib.hid he
      have HS:Hid (s.size <= 1000000):=Lib.hid (by omega)
      have q1:(z == z)=true:=beq_self_eq_true _
      have q2:(e == e)=true:=beq_self_eq_true _
      clear hx hz hp he
      go_wp2_with fail
      refine (line_k t u r o id nm ak vl x z _ HZ.out HK.out.ok HX.out HC.out).mono ?_
      rintro _ w1 ⟨rfl,hb⟩
      have HK:=Lib.hid (HK.out.step hb)
      clear hb
      obtain ⟨_,_,_,_,_,_,_,_⟩:=box8 (show KbC _ w.heap.size (chB ⟨(t,u,r),o,id,nm,ak,vl⟩) from HK.out.k)
      go_wp2_with fail
      refine (rline_k t u r o id nm ak vl x z _ HZ.out HK.out.ok.mx HX.out HC.out).mono ?_
      rintro _ w2 ⟨rfl,hb⟩
      have HK:=Lib.hid (HK.out.step hb)
      clear hb
      go_wp2_with fail
      refine (parseC_k s pt pu pr po pi pn pk pv e _ HS.out HK.out.ok HP.out HE.out).mono ?_
      rintro _ w3 ⟨rfl,hb⟩
      have HK:=Lib.hid (HK.out.step hb)
      have HP1:=Lib.hid (kbc_new w3 (chB ⟨(pt,pu,pr),po,pi,pn,pk,pv⟩))
      have HK:=Lib.hid (HK.out.step (box_below w3 (chB ⟨(pt,pu,pr),po,pi,pn,pk,pv⟩)))
      clear hb
      rw [chB_is] at HP1 HK
      go_wp2_with fail
      refine (rparseC_k s pt pu pr po pi pn pk pv e _ HS.out HK.out.ok.mx HP.out HE.out).mono ?_
      rintro _ w4 ⟨rfl,hb⟩
      have HD:=Lib.hid (show KeG w ⟨(t,u,r),o,id,nm,ak,vl⟩ ⟨(pt,pu,pr),po,pi,pn,pk,pv⟩ w3.heap.size w4.heap.size (w4.alloc (chB ⟨(pt,pu,pr),po,pi,pn,pk,pv⟩)) from ⟨(HK.out.step hb).step (box_below _ _),Csn.KbC.step (Csn.KbC.step HP1.out hb) (box_below _ _),kbc_new _ _⟩)
      clear hb HK HP1
      rw [chB_is] at HD
      go_wp2_with fail
      revert HD
      generalize World.alloc _ _=V5
      intro HD
      have HST:Hid (∀ V,KeG w ⟨(t,u,r),o,id,nm,ak,vl⟩ ⟨(pt,pu,pr),po,pi,pn,pk,pv⟩ w3.heap.size w4.heap.size V -> (V.cell? ⟨w.heap.size,0,none⟩=some (.int .i64 t) /\ V.cell? ⟨w.heap.size,1,none⟩=some (.int .i64 u) /\ V.cell? ⟨w.heap.size,2,none⟩=some (.int .i64 r) /\ V.cell? ⟨w.heap.size,3,none⟩=some (.int .i64 o) /\ V.cell? ⟨w.heap.size,4,none⟩=some (.string id) /\ V.cell? ⟨w.heap.size,5,none⟩=some (.string nm) /\ V.cell? ⟨w.heap.size,6,none⟩=some (.string ak) /\ V.cell? ⟨w.heap.size,7,none⟩=some (.string vl) /\ V.cell? ⟨w3.heap.size,0,none⟩=some (.int .i64 pt) /\ V.cell? ⟨w3.heap.size,1,none⟩=some (.int .i64 pu) /\ V.cell? ⟨w3.heap.size,2,none⟩=some (.int .i64 pr) /\ V.cell? ⟨w3.heap.size,3,none⟩=some (.int .i64 po) /\ V.cell? ⟨w3.heap.size,4,none⟩=some (.string pi) /\ V.cell? ⟨w3.heap.size,5,none⟩=some (.string pn) /\ V.cell? ⟨w3.heap.size,6,none⟩=some (.string pk) /\ V.cell? ⟨w3.heap.size,7,none⟩=some (.string pv) /\ V.cell? ⟨w4.heap.size,0,none⟩=some (.int .i64 pt) /\ V.cell? ⟨w4.heap.size,1,none⟩=some (.int .i64 pu) /\ V.cell? ⟨w4.heap.size,2,none⟩=some (.int .i64 pr) /\ V.cell? ⟨w4.heap.size,3,none⟩=some (.int .i64 po) /\ V.cell? ⟨w4.heap.size,4,none⟩=some (.string pi) /\ V.cell? ⟨w4.heap.size,5,none⟩=some (.string pn) /\ V.cell? ⟨w4.heap.size,6,none⟩=some (.string pk) /\ V.cell? ⟨w4.heap.size,7,none⟩=some (.string pv)) /\ Hid (KeG w ⟨(t,u,r),o,id,nm,ak,vl⟩ ⟨(pt,pu,pr),po,pi,pn,pk,pv⟩ w3.heap.size w4.heap.size V)):=Lib.hid fun V i=>by
        obtain ⟨_,_,_,_,_,_,_,_⟩:=box8 i.kc.k
        obtain ⟨_,_,_,_,_,_,_,_⟩:=box8 i.k1
        obtain ⟨_,_,_,_,_,_,_,_⟩:=box8 i.k2
        refine ⟨⟨?_, ?_, ?_, ?_, ?_, ?_, ?_, ?_, ?_, ?_, ?_, ?_, ?_, ?_, ?_, ?_, ?_, ?_, ?_, ?_, ?_, ?_, ?_, ?_⟩,Lib.hid i⟩ <;> assumption
      have HD:=Lib.hid (HD.out.step (Below.refl _ _).drew)
      have S0:=HST.out _ HD.out
      refine wp_region_held_drew (S:=fun V=>(V.cell? ⟨w.heap.size,0,none⟩=some (.int .i64 t) /\ V.cell? ⟨w.heap.size,1,none⟩=some (.int .i64 u) /\ V.cell? ⟨w.heap.size,2,none⟩=some (.int .i64 r) /\ V.cell? ⟨w.heap.size,3,none⟩=some (.int .i64 o) /\ V.cell? ⟨w.heap.size,4,none⟩=some (.string id) /\ V.cell? ⟨w.heap.size,5,none⟩=some (.string nm) /\ V.cell? ⟨w.heap.size,6,none⟩=some (.string ak) /\ V.cell? ⟨w.heap.size,7,none⟩=some (.string vl) /\ V.cell? ⟨w3.heap.size,0,none⟩=some (.int .i64 pt) /\ V.cell? ⟨w3.heap.size,1,none⟩=some (.int .i64 pu) /\ V.cell? ⟨w3.heap.size,2,none⟩=some (.int .i64 pr) /\ V.cell? ⟨w3.heap.size,3,none⟩=some (.int .i64 po) /\ V.cell? ⟨w3.heap.size,4,none⟩=some (.string pi) /\ V.cell? ⟨w3.heap.size,5,none⟩=some (.string pn) /\ V.cell? ⟨w3.heap.size,6,none⟩=some (.string pk) /\ V.cell? ⟨w3.heap.size,7,none⟩=some (.string pv) /\ V.cell? ⟨w4.heap.size,0,none⟩=some (.int .i64 pt) /\ V.cell? ⟨w4.heap.size,1,none⟩=some (.int .i64 pu) /\ V.cell? ⟨w4.heap.size,2,none⟩=some (.int .i64 pr) /\ V.cell? ⟨w4.heap.size,3,none⟩=some (.int .i64 po) /\ V.cell? ⟨w4.heap.size,4,none⟩=some (.string pi) /\ V.cell? ⟨w4.heap.size,5,none⟩=some (.string pn) /\ V.cell? ⟨w4.heap.size,6,none⟩=some (.string pk) /\ V.cell? ⟨w4.heap.size,7,none⟩=some (.string pv)) /\ Hid (KeG w ⟨(t,u,r),o,id,nm,ak,vl⟩ ⟨(pt,pu,pr),po,pi,pn,pk,pv⟩ w3.heap.size w4.heap.size V)) (by kernel_rfl) (S0) (fun hS => ?_)
      refine wpAnyH_take (i:=0) (oi:={ dst:=some 43,op:=_,type:=_,pos:=_,after:=_,guard:=_ }) (v := ?_) rfl (by kernel_rfl) (by kernel_rfl) (by kernel_rfl) (fun _ _ _ h=>h) (Or.inl ⟨by rfl, ?_⟩) (by assumption) ?_
      rotate_left
      · intro w hSw
        try dsimp only at hSw
        go_simp
        try with_reducible rfl
      try simp only [Act.put,List.setIfInBounds_toArray,List.set_cons_zero,List.set_cons_succ]
      refine wpAnyH_take (i:=2) (oi:={ dst:=some 45,op:=_,type:=_,pos:=_,after:=_,guard:=_ }) (v := ?_) rfl (by kernel_rfl) (by kernel_rfl) (by kernel_rfl) (fun _ _ _ h=>h) (Or.inl ⟨by rfl, ?_⟩) (by assumption) ?_
      rotate_left
      · intro w hSw
        try dsimp only at hSw
        go_simp
        try with_reducible rfl
      try simp only [Act.put,List.setIfInBounds_toArray,List.set_cons_zero,List.set_cons_succ]
      refine wpAnyH_ready (rs:=[1]) (by kernel_rfl) (by simp) ?_
      refine AllReadyH.cons rfl (fun K hK => ?_) AllReadyH.nil
      go_simp
      refine (chk_k t u r o id nm ak vl z _ HZ.out HD.out.kc.ok.mx HC.out).mono ?_
      rintro e1 v1 ⟨rfl,hb⟩
      have HD:=Lib.hid (HD.out.step hb)
      clear hb
      go_wp2_with fail
      refine hK.out _ _ ?_ (fun hHeld => ?_)
      · exact HST.out _ HD.out
      clear hK K
      try simp only [Act.put,List.setIfInBounds_toArray,List.set_cons_zero,List.set_cons_succ]
      refine wpAnyH_ready (rs:=[3]) (by kernel_rfl) (by simp) ?_
      refine AllReadyH.cons rfl (fun K hK => ?_) AllReadyH.nil
      go_simp
      refine (rchk_k t u r o id nm ak vl z _ HZ.out HD.out.kc.ok.mx HC.out).mono ?_
      rintro e2 v2 ⟨rfl,hb⟩
      have HD:=Lib.hid (HD.out.step hb)
      clear hb
      go_wp2_with fail
      refine hK.out _ _ ?_ (fun hHeld => ?_)
      · exact HST.out _ HD.out
      clear hK K
      try simp only [Act.put,List.setIfInBounds_toArray,List.set_cons_zero,List.set_cons_succ]
      refine wpAnyH_take (i:=4) (oi:={ dst:=some 47,op:=_,type:=_,pos:=_,after:=_,guard:=_ }) (v := ?_) rfl (by kernel_rfl) (by kernel_rfl) (by kernel_rfl) (fun _ _ _ h=>h) (Or.inl ⟨by rfl, ?_⟩) (by assumption) ?_
      rotate_left
      · intro w hSw
        try dsimp only at hSw
        go_simp
        try with_reducible rfl
      try simp only [Act.put,List.setIfInBounds_toArray,List.set_cons_zero,List.set_cons_succ]
      refine wpAnyH_take (i:=5) (oi:={ dst:=some 48,op:=_,type:=_,pos:=_,after:=_,guard:=_ }) (v := ?_) rfl (by kernel_rfl) (by kernel_rfl) (by kernel_rfl) (fun _ _ _ h=>h) (Or.inl ⟨by rfl, ?_⟩) (by assumption) ?_
      rotate_left
      · intro w hSw
        try dsimp only at hSw
        go_simp
        try with_reducible rfl
      try simp only [Act.put,List.setIfInBounds_toArray,List.set_cons_zero,List.set_cons_succ]
      refine wpAnyH_take (i:=6) (oi:={ dst:=some 49,op:=_,type:=_,pos:=_,after:=_,guard:=_ }) (v := ?_) rfl (by kernel_rfl) (by kernel_rfl) (by kernel_rfl) (fun _ _ _ h=>h) (Or.inl ⟨by rfl, ?_⟩) (by assumption) ?_
      rotate_left
      · intro w hSw
        try dsimp only at hSw
        go_simp
        try with_reducible rfl
      try simp only [Act.put,List.setIfInBounds_toArray,List.set_cons_zero,List.set_cons_succ]
      refine wpAnyH_take (i:=7) (oi:={ dst:=some 50,op:=_,type:=_,pos:=_,after:=_,guard:=_ }) (v := ?_) rfl (by kernel_rfl) (by kernel_rfl) (by kernel_rfl) (fun _ _ _ h=>h) (Or.inl ⟨by rfl, ?_⟩) (by assumption) ?_
      rotate_left
      · intro w hSw
        try dsimp only at hSw
        go_simp
        try with_reducible rfl
      try simp only [Act.put,List.setIfInBounds_toArray,List.set_cons_zero,List.set_cons_succ]
      refine wpAnyH_take (i:=8) (oi:={ dst:=some 51,op:=_,type:=_,pos:=_,after:=_,guard:=_ }) (v := ?_) rfl (by kernel_rfl) (by kernel_rfl) (by kernel_rfl) (fun _ _ _ h=>h) (Or.inl ⟨by rfl, ?_⟩) (by assumption) ?_
      rotate_left
      · intro w hSw
        try dsimp only at hSw
        go_simp
        try with_reducible rfl
      try simp only [Act.put,List.setIfInBounds_toArray,List.set_cons_zero,List.set_cons_succ]
      refine wpAnyH_take (i:=9) (oi:={ dst:=some 52,op:=_,type:=_,pos:=_,after:=_,guard:=_ }) (v := ?_) rfl (by kernel_rfl) (by kernel_rfl) (by kernel_rfl) (fun _ _ _ h=>h) (Or.inl ⟨by rfl, ?_⟩) (by assumption) ?_
      rotate_left
      · intro w hSw
        try dsimp only at hSw
        go_simp
        try with_reducible rfl
      try simp only [Act.put,List.setIfInBounds_toArray,List.set_cons_zero,List.set_cons_succ]
      refine wpAnyH_take (i:=10) (oi:={ dst:=some 53,op:=_,type:=_,pos:=_,after:=_,guard:=_ }) (v := ?_) rfl (by kernel_rfl) (by kernel_rfl) (by kernel_rfl) (fun _ _ _ h=>h) (Or.inl ⟨by rfl, ?_⟩) (by assumption) ?_
      rotate_left
      · intro w hSw
        try dsimp only at hSw
        go_simp
        try with_reducible rfl
      try simp only [Act.put,List.setIfInBounds_toArray,List.set_cons_zero,List.set_cons_succ]
      refine wpAnyH_take (i:=11) (oi:={ dst:=some 54,op:=_,type:=_,pos:=_,after:=_,guard:=_ }) (v := ?_) rfl (by kernel_rfl) (by kernel_rfl) (by kernel_rfl) (fun _ _ _ h=>h) (Or.inl ⟨by rfl, ?_⟩) (by assumption) ?_
      rotate_left
      · intro w hSw
        try dsimp only at hSw
        go_simp
        try with_reducible rfl
      try simp only [Act.put,List.setIfInBounds_toArray,List.set_cons_zero,List.set_cons_succ]
      refine wpAnyH_take (i:=12) (oi:={ dst:=some 55,op:=_,type:=_,pos:=_,after:=_,guard:=_ }) (v := ?_) rfl (by kernel_rfl) (by kernel_rfl) (by kernel_rfl) (fun _ _ _ h=>h) (Or.inl ⟨by rfl, ?_⟩) (by assumption) ?_
      rotate_left
      · intro w hSw
        try dsimp only at hSw
        go_simp
        try with_reducible rfl
      try simp only [Act.put,List.setIfInBounds_toArray,List.set_cons_zero,List.set_cons_succ]
      refine wpAnyH_take (i:=13) (oi:={ dst:=some 56,op:=_,type:=_,pos:=_,after:=_,guard:=_ }) (v := ?_) rfl (by kernel_rfl) (by kernel_rfl) (by kernel_rfl) (fun _ _ _ h=>h) (Or.inl ⟨by rfl, ?_⟩) (by assumption) ?_
      rotate_left
      · intro w hSw
        try dsimp only at hSw
        go_simp
        try with_reducible rfl
      try simp only [Act.put,List.setIfInBounds_toArray,List.set_cons_zero,List.set_cons_succ]
      refine wpAnyH_take (i:=14) (oi:={ dst:=some 57,op:=_,type:=_,pos:=_,after:=_,guard:=_ }) (v := ?_) rfl (by kernel_rfl) (by kernel_rfl) (by kernel_rfl) (fun _ _ _ h=>h) (Or.inl ⟨by rfl, ?_⟩) (by assumption) ?_
      rotate_left
      · intro w hSw
        try dsimp only at hSw
        go_simp
        try with_reducible rfl
      try simp only [Act.put,List.setIfInBounds_toArray,List.set_cons_zero,List.set_cons_succ]
      refine wpAnyH_take (i:=15) (oi:={ dst:=some 58,op:=_,type:=_,pos:=_,after:=_,guard:=_ }) (v := ?_) rfl (by kernel_rfl) (by kernel_rfl) (by kernel_rfl) (fun _ _ _ h=>h) (Or.inl ⟨by rfl, ?_⟩) (by assumption) ?_
      rotate_left
      · intro w hSw
        try dsimp only at hSw
        go_simp
        try with_reducible rfl
      try simp only [Act.put,List.setIfInBounds_toArray,List.set_cons_zero,List.set_cons_succ]
      refine wpAnyH_take (i:=16) (oi:={ dst:=some 59,op:=_,type:=_,pos:=_,after:=_,guard:=_ }) (v := ?_) rfl (by kernel_rfl) (by kernel_rfl) (by kernel_rfl) (fun _ _ _ h=>h) (Or.inl ⟨by rfl, ?_⟩) (by assumption) ?_
      rotate_left
      · intro w hSw
        try dsimp only at hSw
        go_simp
        try with_reducible rfl
      try simp only [Act.put,List.setIfInBounds_toArray,List.set_cons_zero,List.set_cons_succ]
      refine wpAnyH_take (i:=17) (oi:={ dst:=some 60,op:=_,type:=_,pos:=_,after:=_,guard:=_ }) (v := ?_) rfl (by kernel_rfl) (by kernel_rfl) (by kernel_rfl) (fun _ _ _ h=>h) (Or.inl ⟨by rfl, ?_⟩) (by assumption) ?_
      rotate_left
      · intro w hSw
        try dsimp only at hSw
        go_simp
        try with_reducible rfl
      try simp only [Act.put,List.setIfInBounds_toArray,List.set_cons_zero,List.set_cons_succ]
      refine wpAnyH_take (i:=18) (oi:={ dst:=some 61,op:=_,type:=_,pos:=_,after:=_,guard:=_ }) (v := ?_) rfl (by kernel_rfl) (by kernel_rfl) (by kernel_rfl) (fun _ _ _ h=>h) (Or.inl ⟨by rfl, ?_⟩) (by assumption) ?_
      rotate_left
      · intro w hSw
        try dsimp only at hSw
        go_simp
        try with_reducible rfl
      try simp only [Act.put,List.setIfInBounds_toArray,List.set_cons_zero,List.set_cons_succ]
      refine wpAnyH_take (i:=19) (oi:={ dst:=some 62,op:=_,type:=_,pos:=_,after:=_,guard:=_ }) (v := ?_) rfl (by kernel_rfl) (by kernel_rfl) (by kernel_rfl) (fun _ _ _ h=>h) (Or.inl ⟨by rfl, ?_⟩) (by assumption) ?_
      rotate_left
      · intro w hSw
        try dsimp only at hSw
        go_simp
        try with_reducible rfl
      try simp only [Act.put,List.setIfInBounds_toArray,List.set_cons_zero,List.set_cons_succ]
      refine wpAnyH_take (i:=20) (oi:={ dst:=some 63,op:=_,type:=_,pos:=_,after:=_,guard:=_ }) (v := ?_) rfl (by kernel_rfl) (by kernel_rfl) (by kernel_rfl) (fun _ _ _ h=>h) (Or.inl ⟨by rfl, ?_⟩) (by assumption) ?_
      rotate_left
      · intro w hSw
        try dsimp only at hSw
        go_simp
        try with_reducible rfl
      try simp only [Act.put,List.setIfInBounds_toArray,List.set_cons_zero,List.set_cons_succ]
      refine wpAnyH_take (i:=21) (oi:={ dst:=some 64,op:=_,type:=_,pos:=_,after:=_,guard:=_ }) (v := ?_) rfl (by kernel_rfl) (by kernel_rfl) (by kernel_rfl) (fun _ _ _ h=>h) (Or.inl ⟨by rfl, ?_⟩) (by assumption) ?_
      rotate_left
      · intro w hSw
        try dsimp only at hSw
        go_simp
        try with_reducible rfl
      try simp only [Act.put,List.setIfInBounds_toArray,List.set_cons_zero,List.set_cons_succ]
      refine wpAnyH_take (i:=22) (oi:={ dst:=some 65,op:=_,type:=_,pos:=_,after:=_,guard:=_ }) (v := ?_) rfl (by kernel_rfl) (by kernel_rfl) (by kernel_rfl) (fun _ _ _ h=>h) (Or.inl ⟨by rfl, ?_⟩) (by assumption) ?_
      rotate_left
      · intro w hSw
        try dsimp only at hSw
        go_simp
        try with_reducible rfl
      try simp only [Act.put,List.setIfInBounds_toArray,List.set_cons_zero,List.set_cons_succ]
      refine wpAnyH_take (i:=23) (oi:={ dst:=some 66,op:=_,type:=_,pos:=_,after:=_,guard:=_ }) (v := ?_) rfl (by kernel_rfl) (by kernel_rfl) (by kernel_rfl) (fun _ _ _ h=>h) (Or.inl ⟨by rfl, ?_⟩) (by assumption) ?_
      rotate_left
      · intro w hSw
        try dsimp only at hSw
        go_simp
        try with_reducible rfl
      try simp only [Act.put,List.setIfInBounds_toArray,List.set_cons_zero,List.set_cons_succ]
      refine wpAnyH_take (i:=24) (oi:={ dst:=some 67,op:=_,type:=_,pos:=_,after:=_,guard:=_ }) (v := ?_) rfl (by kernel_rfl) (by kernel_rfl) (by kernel_rfl) (fun _ _ _ h=>h) (Or.inl ⟨by rfl, ?_⟩) (by assumption) ?_
      rotate_left
      · intro w hSw
        try dsimp only at hSw
        go_simp
        try with_reducible rfl
      try simp only [Act.put,List.setIfInBounds_toArray,List.set_cons_zero,List.set_cons_succ]
      refine wpAnyH_take (i:=25) (oi:={ dst:=some 68,op:=_,type:=_,pos:=_,after:=_,guard:=_ }) (v := ?_) rfl (by kernel_rfl) (by kernel_rfl) (by kernel_rfl) (fun _ _ _ h=>h) (Or.inl ⟨by rfl, ?_⟩) (by assumption) ?_
      rotate_left
      · intro w hSw
        try dsimp only at hSw
        go_simp
        try with_reducible rfl
      try simp only [Act.put,List.setIfInBounds_toArray,List.set_cons_zero,List.set_cons_succ]
      refine wpAnyH_ready (rs:=[26]) (by kernel_rfl) (by simp) ?_
      refine AllReadyH.cons rfl (fun K hK => ?_) AllReadyH.nil
      go_simp
      refine (awake_s _ HD.out.kc.ok).mono ?_
      rintro e3 v3 ⟨rfl,hb⟩
      have HD:=Lib.hid (HD.out.step hb)
      clear hb
      go_wp2_with fail
      refine hK.out _ _ ?_ (fun hHeld => ?_)
      · exact HST.out _ HD.out
      clear hK K
      try simp only [Act.put,List.setIfInBounds_toArray,List.set_cons_zero,List.set_cons_succ]
      refine wpAnyH_take (i:=27) (oi:={ dst:=some 70,op:=_,type:=_,pos:=_,after:=_,guard:=_ }) (v := ?_) rfl (by kernel_rfl) (by kernel_rfl) (by kernel_rfl) (fun _ _ _ h=>h) (Or.inl ⟨by rfl, ?_⟩) (by assumption) ?_
      rotate_left
      · intro w hSw
        try dsimp only at hSw
        go_simp
        try with_reducible rfl
      try simp only [Act.put,List.setIfInBounds_toArray,List.set_cons_zero,List.set_cons_succ]
      refine wpAnyH_take (i:=28) (oi:={ dst:=some 4,op:=_,type:=_,pos:=_,after:=_,guard:=_ }) (v := ?_) rfl (by kernel_rfl) (by kernel_rfl) (by kernel_rfl) (fun _ _ _ h=>h) (Or.inl ⟨by rfl, ?_⟩) (by assumption) ?_
      rotate_left
      · intro w hSw
        try dsimp only at hSw
        go_simp
        try with_reducible rfl
      try simp only [Act.put,List.setIfInBounds_toArray,List.set_cons_zero,List.set_cons_succ]
      refine wpAnyH_done (by kernel_rfl) ?_ _
      go_wp2_with fail
      go_ret
      exact ⟨rfl,HD.out.kc.low⟩
    · have d1:(s.size:Int) > 2000:=by omega
      have d2:decide ((2000:Int) < (s.size:Int))=true:=decide_eq_true (by omega)
      go_wp2_with fail
      refine (awake_s _ HK.out.ok).mono ?_
      rintro e w1 ⟨rfl,hb⟩
      have HK:=Lib.hid (HK.out.step hb)
      go_wp2_with fail
      go_ret
      exact ⟨rfl,HK.out.low⟩

theorem chchecks_types:∀ t ∈ [26,9],Tryz.prog.readableRec t=true /\ t < Tryz.prog.types.size:=by
  have h:([26,9].all fun t=>Tryz.prog.readableRec t && decide (t < Tryz.prog.types.size))=true:=by kernel_rfl
  intro t ht
  have:=List.all_eq_true.1 h t ht
  simpa using this

set_option maxRecDepth 100000 in
theorem chchecks_contract (H:Type) (enc:TypeId × Value -> H) (W:World) (base:Nat) (args:Array Value) (ds gs:List (DataW H)) (before:List MemPlace)
    (hval:∀ (j:Nat) t v,Tryz.f3.params[j]? = some t -> args[j]? = some v -> Value.okWide Tryz.prog W .any base t v)
    (hW:DataW.Whole enc Tryz.prog Tryz.f3.params.toList Rows.changeChecksSpec.vars false W args.toList ds gs before) (hL:laidMetH Tryz.prog Rows.changeChecksRow.laid W) (hsh:W.ShapedOpen Tryz.prog) :
    Calls Tryz.prog 3 args W fun e W'=>∃ v,e = .returned v /\ Rows.changeChecksSpec.post enc Tryz.prog Tryz.f3 false true false false W args v W':=by
  have hW':=hW
  obtain ⟨p,q,hA0,hV,rfl,hfz,hnd⟩:=hW
  have hA:DataW.TrodAll enc Tryz.prog W 0 (fun _=>true) true Tryz.f3.params.toList args.toList ds p:=hA0
  obtain ⟨rfl,rfl⟩:=trodVars_none hV
  simp only [List.append_nil] at hW'
  have hlt:∀ x ∈ p,x.block < W.heap.size:=fun x hx=>by simpa using hW'.lt x hx
  have fin:∀ W',Below W.heap.size W W' -> DataW.TrodAll enc Tryz.prog W' 0 (fun b=>decide (b < W.heap.size)) true [26,9] args.toList ds p:=fun W' hb=>by
    rw [Tryz.params3] at hA
    exact trodAll_below hb _ _ _ _ chchecks_types hA hlt
  clear hA0
  rw [Tryz.params3] at hA hval
  obtain ⟨v0,vs0,d0,ds0,p0,q0,hargs,rfl,hp0,h0,r0⟩:=trodAll_cons hA
  obtain ⟨v1,vs1,d1,ds1,p1,q1,rfl,rfl,hp1,h1,r1⟩:=trodAll_cons r0
  obtain ⟨rfl,rfl,rfl⟩:=trodAll_nil r1
  obtain rfl:args = #[v0,v1]:=by cases args; simp_all
  obtain ⟨c,rfl,hs0⟩:=open_ch (hval 0 26 v0 rfl rfl) h0
  obtain ⟨s,rfl,rfl,rfl,hs1⟩:=open_string Tryz.underlying9 (hval 1 9 v1 rfl rfl) h1
  refine (chchecks_s c s W hs0 (cok_of hL hsh)).mono fun e W' ⟨he,hb⟩ => ?_
  subst he
  exact ⟨_,rfl,_,_,_,[],p,[],hW',trodAll_mk1 (shut_bool Tryz.underlying4 _),fin W' hb,rfl,hb.frame _,fun h=>by cases h⟩

set_option maxRecDepth 100000 in
theorem chchecks_lifted (os:Os) (started:os.Started) (H:Type) (enc:TypeId × Value -> H) (F:Stop.Interp) :
    ReturnsInHanded {} Tryz.checked os 3 .any ((OpenSpec.ofChange Rows.changeChecksSpec).preRow enc Tryz.prog Tryz.f3 Rows.changeChecksRow.domain false Rows.changeChecksRow.laid) (((OpenSpec.ofChange Rows.changeChecksSpec).at F).post enc Tryz.prog Tryz.f3 false true false false):=by
  refine returnsInHanded_of_row (C:=Tryz.checked) (s:=OpenSpec.ofChange Rows.changeChecksSpec) own started (by kernel_rfl) Tryz.func3
    (witness_row (enc:=enc) (C:=Tryz.checked) false (World.laidAll Tryz.prog os Rows.changeChecksRow.laid) #[.agg #[.int .i64 0, .int .i64 0, .int .i64 0, .int .i64 0, .string ⟨#[]⟩, .string ⟨#[]⟩, .string ⟨#[]⟩, .string ⟨#[]⟩], .string ⟨#[]⟩] (World.laidAll_os _ _ _)
      (World.shaped_of_ZipB (by kernel_rfl) (by kernel_rfl)) (by kernel_rfl)
      (OpenSpec.preRow_of_cond 8 (x:=([.agg [.agg [.lit (.int .i64 0), .lit (.int .i64 0), .lit (.int .i64 0)], .lit (.int .i64 0), .lit (.string []), .lit (.string []), .lit (.string []), .lit (.string [])], .lit (.string [])],[],[])) (by kernel_rfl) (by kernel_rfl) (fun k hk=>by cases hk) (by kernel_rfl)
        (by rw [MakeChecks.laidMetH_plain _ _ _ (by kernel_rfl)]; exact laidMet_laidAll _ (by kernel_rfl) (by kernel_rfl)))) ?_
  intro W base args ds gs before hval hW _ _ _ hL hsh _
  exact chchecks_contract H enc W base args ds gs before hval hW hL hsh

set_option maxRecDepth 100000 in
theorem chchecks_said:Rows.ChangeChecksSaid:=
  OpenClaim.holds_of_cond 3 Tryz.f3 rfl rfl rfl rfl rfl rfl rfl ⟨rfl,rfl,rfl,rfl,rfl⟩ rfl rfl rfl rfl rfl (by kernel_rfl) Tryz.func3 (by kernel_rfl)
    (of_decide_eq_true (by kernel_rfl)) (by unfold Func.isWrapper; first | (rw [if_pos (by decide +kernel)]; kernel_rfl) | (rw [if_neg (by decide +kernel)]; exact ⟨rfl,rfl⟩))
    (fun os started H enc _ F=>by rw [OpenClaim.pre_eq_preRow]; exact chchecks_lifted os started H enc F)

set_option maxRecDepth 100000 in
theorem chchecks_plain (f : FuncId) (fn : Func) (hf : Tryz.pinned.checked.prog.funcNamed "identity/identitylaw16.ChangeChecks" = some f) (hfn : Tryz.pinned.checked.prog.funcs[f]? = some fn) :
    false=Tryz.pinned.checked.prog.looks [] /\ ∀ (j:Nat) t,fn.params[j]? = some t -> Tryz.pinned.checked.prog.wantsStandIn t=false:=by
  obtain rfl : f = 3 := Option.some.inj ((show Tryz.prog.funcNamed "identity/identitylaw16.ChangeChecks" = some 3 by kernel_rfl).symm.trans hf) |>.symm
  obtain rfl:fn=Tryz.f3:=(Option.some.inj (Tryz.func3.symm.trans hfn)).symm
  refine ⟨by kernel_rfl,fun j t ht => ?_⟩
  rw [Tryz.params3] at ht
  have hm:t ∈ [26,9]:=by simpa using Array.mem_of_getElem? ht
  have hall:([26,9].all fun u => !Tryz.prog.wantsStandIn u)=true:=by kernel_rfl
  exact (show Tryz.prog.wantsStandIn t=false by simpa using List.all_eq_true.1 hall t hm)

theorem chchecks_card:Rows.ChangeChecksCardSaid:=
  Claim7.holds_tied_plain_at .later [] _ _ _ _ chchecks_said (fun _ h=>by cases h) (by kernel_rfl) (fun _ h=>by cases h) changeChecks_row_tie rfl ⟨rfl,rfl⟩ (by kernel_rfl) rfl chchecks_plain (by kernel_rfl)
end Go.Proofs.YtbkignlbcneddaaGreatDoor
end
