/-
  Texts of the schema layer and of those beneath it, joined: EntSm, EntSmM, EntSm8, EntDfW. Conditions stand at each contract.
-/
import Derived.Test.YtmmdaegdkikkpaaGreatDoorT19
set_option linter.unusedVariables false
set_option linter.unusedSimpArgs false
set_option linter.unnecessarySimpa false

section
set_option maxRecDepth 100000
namespace Go.Proofs.YtmmdaegdkikkpaaGreatDoor
open Go.RowKit Go.PlainAid
set_option maxRecDepth 100000 in
set_option maxHeartbeats 2000000 in
theorem sameS8_s (ao bo:Option Addr) (n m cap dap:Nat) (ps qs:List ByteArray) (w:World) (h:StrsAt w ao n cap ps) (k:StrsAt w bo m dap qs) :
  Calls Tryz.prog 71 #[.slice ao n cap, .slice bo m dap] w fun e w'=>e = .returned (.bool (decide (ps=qs))) /\ Below w.heap.size w w':=by
 obtain ⟨h1,h2,h3,h4⟩:=h
 obtain ⟨k1,k2,k3,k4⟩:=k
 subst h1
 subst k1
 unfold maxLen at h3 k3
 have H4:=Lib.hid h4; clear h4
 have K4:=Lib.hid k4; clear k4
 by_cases hne:ps.length=qs.length
 ·have hn1:((ps.length:Int) != (qs.length:Int))=false:=by simp; omega
  go_enter Tryz.func71,Tryz.ntmps71
  go_wp2
  go_loopw [5] (fun i wr=>∃ k:Nat,k <= ps.length /\ i = .int .i64 k /\ Hid (∀ j,j < k -> partAt ps j=partAt qs j) /\ Below w.heap.size w wr) (fun i _=>ps.length - (intOf i).toNat)
  case atStart=>exact ⟨0,Nat.zero_le _,rfl,Lib.hid (fun j hj=>absurd hj (Nat.not_lt_zero _)),Below.refl _ _⟩
  case round =>
   obtain ⟨k,hk,rfl,HA,hbel⟩:=hrel
   by_cases hlt:k < ps.length
   ·obtain ⟨b,off,rfl,hs⟩:=H4.out (by omega)
    obtain ⟨c,off2,rfl,hs2⟩:=K4.out (by omega)
    have hcell:=(hs.below hbel hs.1).2 k hlt
    have hcell2:=(hs2.below hbel hs2.1).2 k (by omega)
    clear hs hs2
    obtain ⟨p,hpe⟩:∃ p,p=partAt ps k:=⟨_,rfl⟩
    obtain ⟨q,hqe⟩:∃ q,q=partAt qs k:=⟨_,rfl⟩
    rw [<- hpe] at hcell
    rw [<- hqe] at hcell2
    have HP:=Lib.hid hpe; clear hpe
    have HQ:=Lib.hid hqe; clear hqe
    have k1:(0:Int) <= (k:Int):=by omega
    have k2:(k:Int) < (ps.length:Int):=by omega
    have k3:(k:Int) < (qs.length:Int):=by omega
    by_cases hpq:p=q
    ·have hq:(p.toList == q.toList)=true:=by rw [hpq]; exact beq_self_eq_true _
     have HPQ:=Lib.hid hpq; clear hpq
     go_wp2_with fail
     go_region_held3 (fun w'=>w'.cell? ⟨b,off + k,none⟩=some (.string p) /\ w'.cell? ⟨c,off2 + k,none⟩=some (.string q)) (go_keep) (fail)
     go_wp2
     go_roundw
     case rel =>
      refine ⟨k + 1,by omega,by go_num,Lib.hid fun j hj => ?_,hbel.drew⟩
      by_cases e:j=k
      ·rw [e, <- HP.out, <- HQ.out,HPQ.out]
      ·exact HA.out j (by omega)
     case measure=>simp [intOf]; omega
    ·have HE:=Lib.hid (show decide (ps=qs)=false from decide_eq_false fun e=>hpq (by rw [HP.out,HQ.out,e]))
     have hq:(p.toList == q.toList)=false:=by
      rw [Lib.toList_data,Lib.toList_data]
      exact beq_false_of_ne fun e=>hpq (by rw [<- Lib.mk_data p, <- Lib.mk_data q,e])
     clear hpq
     go_wp2_with fail
     go_region_held3 (fun w'=>w'.cell? ⟨b,off + k,none⟩=some (.string p) /\ w'.cell? ⟨c,off2 + k,none⟩=some (.string q)) (go_keep) (fail)
     go_wp2
     go_ret
     exact ⟨by rw [HE.out]; rfl,hbel.drew⟩
   ·have HE:=Lib.hid (show decide (ps=qs)=true from decide_eq_true (strs_ext hne fun j hj=>HA.out j (by omega)))
    go_wp2
    go_ret
    exact ⟨by rw [HE.out]; rfl,hbel⟩
 ·have HE:=Lib.hid (show decide (ps=qs)=false from decide_eq_false fun e=>hne (by rw [e]))
  have hn1:((ps.length:Int) != (qs.length:Int))=true:=by simp; omega
  go_enter Tryz.func71,Tryz.ntmps71
  go_wp2
  go_ret
  exact ⟨by rw [HE.out]; rfl,Below.refl _ _⟩
set_option maxRecDepth 100000 in
set_option maxHeartbeats 4000000 in
theorem sameA8_s (ao bo:Option Addr) (n m cap dap:Nat) (l k:List At) (w:World) (h:AttrsAt w ao n cap l) (h':AttrsAt w bo m dap k) :
  Calls Tryz.prog 40 #[.slice ao n cap, .slice bo m dap] w fun e w'=>e = .returned (.bool (decide (l=k))) /\ Below w.heap.size w w':=by
 obtain ⟨h1,h2,h3,h4⟩:=h
 obtain ⟨k1,k2,k3,k4⟩:=h'
 subst h1
 subst k1
 unfold maxLen at h3 k3
 have H4:=Lib.hid h4; clear h4
 have K4:=Lib.hid k4; clear k4
 by_cases hne:l.length=k.length
 ·have hn1:((l.length:Int) != (k.length:Int))=false:=by simp; omega
  have HNE:=Lib.hid hne
  clear hne
  go_enter Tryz.func40,Tryz.ntmps40
  go_wp2
  go_loopw [5] (fun i wr=>∃ q:Nat,q <= l.length /\ i = .int .i64 q /\ Hid (∀ j,j < q -> atD l j=atD k j) /\ Hid (Below w.heap.size w wr)) (fun i _=>l.length - (intOf i).toNat)
  case atStart=>exact ⟨0,Nat.zero_le _,rfl,Lib.hid (fun j hj=>absurd hj (Nat.not_lt_zero _)),Lib.hid (Below.refl _ _)⟩
  case round =>
   obtain ⟨q,hq,rfl,HA,HB⟩:=hrel
   by_cases hlt:q < l.length
   ·obtain ⟨b,off,rfl,hblt,hat⟩:=H4.out (by omega)
    obtain ⟨c,off2,rfl,hclt,hct⟩:=K4.out (by have:=HNE.out; omega)
    obtain ⟨a0,vo,vn,vc,a1,hv0⟩:=hat q hlt
    obtain ⟨b0,uo,un,uc,b1,hu0⟩:=hct q (by have:=HNE.out; omega)
    have a0:=cell_later HB.out a0
    have a1:=cell_later HB.out a1
    have b0:=cell_later HB.out b0
    have b1:=cell_later HB.out b1
    have HVd:Hid (StrsAt wr.drew vo vn vc (atD l q).2):=Lib.hid ((hv0.below HB.out).below (Below.refl _ wr).drew)
    have HUd:Hid (StrsAt wr.drew uo un uc (atD k q).2):=Lib.hid ((hu0.below HB.out).below (Below.refl _ wr).drew)
    clear hv0 hu0 hat hct
    obtain ⟨x,hx⟩:∃ x,atD l q=x:=⟨_,rfl⟩
    obtain ⟨y,hy⟩:∃ x,atD k q=x:=⟨_,rfl⟩
    rw [hx] at a0 HVd
    rw [hy] at b0 HUd
    have HX:=Lib.hid hx
    have HY:=Lib.hid hy
    clear hx hy
    obtain ⟨p,vs⟩:=x
    obtain ⟨r,us⟩:=y
    simp only [] at a0 b0 HVd HUd
    have d0:(0:Int) <= (q:Int):=by omega
    have d1:(q:Int) < (l.length:Int):=by omega
    have d2:(q:Int) < (k.length:Int):=by have:=HNE.out; omega
    have HBd:Hid (Below w.heap.size w wr.drew /\ w.heap.size <= wr.drew.heap.size):=Lib.hid ⟨HB.out.drew,HB.out.size⟩
    by_cases hpr:p=r
    ·have q1:(p.toList == r.toList)=true:=by rw [str_eq]; exact decide_eq_true hpr
     have q2:(p.toList != r.toList)=false:=by unfold bne; rw [q1]; rfl
     obtain ⟨z,hz⟩:∃ z,decide (vs=us)=z:=⟨_,rfl⟩
     have HZ:=Lib.hid hz
     clear hz
     cases z with
     | true =>
      have HE:=Lib.hid (show atD l q=atD k q by rw [HX.out,HY.out,hpr,of_decide_eq_true HZ.out])
      clear hpr
      go_wp2_with fail
      refine wp_region_held_drew (S:=fun W=>W.cell? ⟨b,off + q * 2,none⟩=some (.string p) /\ W.cell? ⟨c,off2 + q * 2,none⟩=some (.string r) /\ W.cell? ⟨b,off + q * 2 + 1,none⟩=some (.slice vo vn vc) /\ W.cell? ⟨c,off2 + q * 2 + 1,none⟩=some (.slice uo un uc) /\ Hid (Below w.heap.size w W /\ w.heap.size <= W.heap.size)) (by kernel_rfl) (⟨a0,b0,a1,b1,HBd⟩) (fun hS => ?_)
      refine rgT 0 (some 17) ?_
      refine rgT 1 (some 18) ?_
      refine rgT 2 (some 19) ?_
      refine rgT 3 (some 20) ?_
      refine rgT 4 (some 21) ?_
      refine rgT 5 (some 22) ?_
      refine rgT 6 (some 23) ?_
      refine rgT 7 (some 24) ?_
      refine rgT 8 (some 25) ?_
      refine rgT 9 (some 26) ?_
      refine rgT 10 (some 27) ?_
      refine rgT 11 (some 28) ?_
      refine rgT 12 (some 29) ?_
      refine rgT 13 (some 30) ?_
      refine rgT 14 (some 31) ?_
      refine rgT 15 (some 32) ?_
      refine rgT 16 (some 33) ?_
      refine rgT 17 (some 34) ?_
      refine rgT 18 (some 35) ?_
      refine rgT 19 (some 36) ?_
      refine rgT 20 (some 37) ?_
      refine rgT 21 (some 38) ?_
      refine rgC 22 (fun K hK => ?_)
      go_simp
      refine (sameS8_s vo uo vn un vc uc vs us _ HVd.out HUd.out).mono ?_
      rintro e w5 ⟨rfl,hb⟩
      rw [HZ.out]
      go_wp2_with fail
      refine hK.out _ _ ?_ (fun hHeld => ?_)
      ·exact keep4b (by assumption) hb
      clear hK K
      try simp only [Act.put,lsA,lsZ,lsS]
      refine rgT 23 (some 40) ?_
      refine rgT 24 (some 41) ?_
      refine wpAnyH_done (by kernel_rfl) ?_ _
      have HB6:=Lib.hid (HBd.out.1.trans (hb.mono HBd.out.2))
      go_wp2_with fail
      go_roundw
      case rel =>
       refine ⟨q + 1,by omega,by go_num,Lib.hid fun j hj => ?_,HB6⟩
       by_cases e:j=q
       ·rw [e]; exact HE.out
       ·exact HA.out j (by omega)
      case measure=>simp [intOf]; omega
     | false =>
      have HE:=Lib.hid (show decide (l=k)=false from decide_eq_false fun e=>of_decide_eq_false HZ.out (by have h5:=HX.out; rw [e,HY.out] at h5; exact (congrArg Prod.snd h5).symm))
      clear hpr
      go_wp2_with fail
      refine wp_region_held_drew (S:=fun W=>W.cell? ⟨b,off + q * 2,none⟩=some (.string p) /\ W.cell? ⟨c,off2 + q * 2,none⟩=some (.string r) /\ W.cell? ⟨b,off + q * 2 + 1,none⟩=some (.slice vo vn vc) /\ W.cell? ⟨c,off2 + q * 2 + 1,none⟩=some (.slice uo un uc) /\ Hid (Below w.heap.size w W /\ w.heap.size <= W.heap.size)) (by kernel_rfl) (⟨a0,b0,a1,b1,HBd⟩) (fun hS => ?_)
      refine rgT 0 (some 17) ?_
      refine rgT 1 (some 18) ?_
      refine rgT 2 (some 19) ?_
      refine rgT 3 (some 20) ?_
      refine rgT 4 (some 21) ?_
      refine rgT 5 (some 22) ?_
      refine rgT 6 (some 23) ?_
      refine rgT 7 (some 24) ?_
      refine rgT 8 (some 25) ?_
      refine rgT 9 (some 26) ?_
      refine rgT 10 (some 27) ?_
      refine rgT 11 (some 28) ?_
      refine rgT 12 (some 29) ?_
      refine rgT 13 (some 30) ?_
      refine rgT 14 (some 31) ?_
      refine rgT 15 (some 32) ?_
      refine rgT 16 (some 33) ?_
      refine rgT 17 (some 34) ?_
      refine rgT 18 (some 35) ?_
      refine rgT 19 (some 36) ?_
      refine rgT 20 (some 37) ?_
      refine rgT 21 (some 38) ?_
      refine rgC 22 (fun K hK => ?_)
      go_simp
      refine (sameS8_s vo uo vn un vc uc vs us _ HVd.out HUd.out).mono ?_
      rintro e w5 ⟨rfl,hb⟩
      rw [HZ.out]
      go_wp2_with fail
      refine hK.out _ _ ?_ (fun hHeld => ?_)
      ·exact keep4b (by assumption) hb
      clear hK K
      try simp only [Act.put,lsA,lsZ,lsS]
      refine rgT 23 (some 40) ?_
      refine rgT 24 (some 41) ?_
      refine wpAnyH_done (by kernel_rfl) ?_ _
      have HB6:=Lib.hid (HBd.out.1.trans (hb.mono HBd.out.2))
      go_wp2_with fail
      go_ret
      exact ⟨by rw [HE.out]; rfl,HB6.out⟩
    ·have q1:(p.toList == r.toList)=false:=by rw [str_eq]; exact decide_eq_false hpr
     have q2:(p.toList != r.toList)=true:=by unfold bne; rw [q1]; rfl
     have HE:=Lib.hid (show decide (l=k)=false from decide_eq_false fun e=>hpr (by have h5:=HX.out; rw [e,HY.out] at h5; exact (congrArg Prod.fst h5).symm))
     clear hpr
     go_wp2_with fail
     refine wp_region_held_drew (S:=fun W=>W.cell? ⟨b,off + q * 2,none⟩=some (.string p) /\ W.cell? ⟨c,off2 + q * 2,none⟩=some (.string r) /\ Hid (Below w.heap.size w W /\ w.heap.size <= W.heap.size)) (by kernel_rfl) (⟨a0,b0,HBd⟩) (fun hS => ?_)
     refine rgT 0 (some 17) ?_
     refine rgT 1 (some 18) ?_
     refine rgT 2 (some 19) ?_
     refine rgT 3 (some 20) ?_
     refine rgT 4 (some 21) ?_
     refine rgT 5 (some 22) ?_
     refine rgT 6 (some 23) ?_
     refine rgT 7 (some 24) ?_
     refine rgT 8 (some 25) ?_
     refine rgT 9 (some 26) ?_
     refine rgT 10 (some 27) ?_
     refine rgT 11 (some 28) ?_
     refine rgS 12 (some 29) ?_
     refine rgS 13 (some 30) ?_
     refine rgS 14 (some 31) ?_
     refine rgS 15 (some 32) ?_
     refine rgS 16 (some 33) ?_
     refine rgS 17 (some 34) ?_
     refine rgS 18 (some 35) ?_
     refine rgS 19 (some 36) ?_
     refine rgS 20 (some 37) ?_
     refine rgS 21 (some 38) ?_
     refine rgS 22 (some 39) ?_
     refine rgS 23 (some 40) ?_
     refine rgT 24 (some 41) ?_
     refine wpAnyH_done (by kernel_rfl) ?_ _
     go_wp2_with fail
     go_ret
     exact ⟨by rw [HE.out]; rfl,HBd.out.1⟩
   ·have HE:=Lib.hid (show decide (l=k)=true from decide_eq_true (ats_ext HNE.out fun j hj=>HA.out j (by omega)))
    go_wp2_with fail
    go_ret
    exact ⟨by rw [HE.out]; rfl,HB.out⟩
 ·have HE:=Lib.hid (show decide (l=k)=false from decide_eq_false fun e=>hne (by rw [e]))
  have hn1:((l.length:Int) != (k.length:Int))=true:=by simp; omega
  go_enter Tryz.func40,Tryz.ntmps40
  go_wp2
  go_ret
  exact ⟨by rw [HE.out]; rfl,Below.refl _ _⟩
set_option maxHeartbeats 4000000 in
theorem same8_s (en fn:ByteArray) (ao bo:Option Addr) (n m cap dap:Nat) (l k:List At) (w:World) (h:AttrsAt w ao n cap l) (h':AttrsAt w bo m dap k) :
  Calls Tryz.prog 27 #[.agg #[.string en, .slice ao n cap], .agg #[.string fn, .slice bo m dap]] w fun e w'=>e = .returned (.bool (decide (en=fn /\ l=k))) /\ Below w.heap.size w w':=by
 have b0:=below_al w (.cells #[.string en, .slice ao n cap] 37)
 have b1:=below_al (w.alloc (.cells #[.string en, .slice ao n cap] 37)) (.cells #[.string fn, .slice bo m dap] 37)
 have HB:=Lib.hid (b0.trans (b1.mono b0.size))
 have HS:=Lib.hid (sameA8_s ao bo n m cap dap l k _ (h.below HB.out) (h'.below HB.out))
 clear b0 b1 h h'
 obtain ⟨z,hz⟩:∃ z,decide (en=fn)=z:=⟨_,rfl⟩
 have q1:(en.toList == fn.toList)=z:=by rw [str_eq]; exact hz
 obtain ⟨y,hy⟩:∃ y,decide (l=k)=y:=⟨_,rfl⟩
 rw [hy] at HS
 have HD:=Lib.hid (show decide (en=fn /\ l=k)=(z && y) by rw [<- hz, <- hy]; exact Bool.decide_and _ _)
 clear hz hy
 go_enter Tryz.func27,Tryz.ntmps27
 cases z
 ·go_wp2_with fail
  go_ret
  exact ⟨by rw [HD.out]; rfl,HB.out⟩
 ·go_wp2_with fail
  refine HS.out.mono ?_
  rintro e w1 ⟨rfl,hb⟩
  go_wp2_with fail
  go_ret
  exact ⟨by rw [HD.out]; rfl,HB.out.trans (hb.mono HB.out.size)⟩
theorem keep6b {w w1 w2:World} {f:Nat} {A B C D E F:Addr} {x y z u s t:Value} (h:w1.cell? A=some x /\ w1.cell? B=some y /\ w1.cell? C=some z /\ w1.cell? D=some u /\ w1.cell? E=some s /\ w1.cell? F=some t /\ Hid (Below f w w1 /\ f <= w1.heap.size)) (hb:Below w1.heap.size w1 w2):w2.cell? A=some x /\ w2.cell? B=some y /\ w2.cell? C=some z /\ w2.cell? D=some u /\ w2.cell? E=some s /\ w2.cell? F=some t /\ Hid (Below f w w2 /\ f <= w2.heap.size):=
 ⟨cell_later hb h.1,cell_later hb h.2.1,cell_later hb h.2.2.1,cell_later hb h.2.2.2.1,cell_later hb h.2.2.2.2.1,cell_later hb h.2.2.2.2.2.1,Lib.hid ⟨h.2.2.2.2.2.2.out.1.trans (hb.mono h.2.2.2.2.2.2.out.2),Nat.le_trans h.2.2.2.2.2.2.out.2 hb.size⟩⟩
instance:DecidableEq Md:=fun a b =>
 if h:a.op=b.op /\ a.name=b.name /\ a.vs=b.vs then isTrue (by
  obtain ⟨o,n,v⟩:=a
  obtain ⟨o',n',v'⟩:=b
  obtain ⟨h1,h2,h3⟩:=h
  simp only at h1 h2 h3
  rw [h1,h2,h3]) else isFalse fun e=>h (by rw [e]; exact ⟨rfl,rfl,rfl⟩)
theorem md_get (l:List Md) (i:Nat) (h:i < l.length):mdD l i=l[i]:=by
 unfold mdD
 rw [List.getD_eq_getElem?_getD,List.getElem?_eq_getElem h]; rfl
theorem mds_ext {l k:List Md} (h:l.length=k.length) (hj:∀ j,j < l.length -> mdD l j=mdD k j):l=k:=by
 apply List.ext_getElem h
 intro i h1 h2
 have:=hj i h1
 rwa [md_get l i h1,md_get k i h2] at this
set_option maxRecDepth 100000 in
set_option maxHeartbeats 8000000 in
theorem sameM8_s (ao bo:Option Addr) (n m cap dap:Nat) (l k:List Md) (w:World) (h:MdsAt w ao n cap l) (h':MdsAt w bo m dap k) :
  Calls Tryz.prog 31 #[.slice ao n cap, .slice bo m dap] w fun e w'=>e = .returned (.bool (decide (l=k))) /\ Below w.heap.size w w':=by
 obtain ⟨h1,h2,h3,h4⟩:=h
 obtain ⟨k1,k2,k3,k4⟩:=h'
 subst h1
 subst k1
 unfold maxLen at h3 k3
 have H4:=Lib.hid h4; clear h4
 have K4:=Lib.hid k4; clear k4
 by_cases hne:l.length=k.length
 ·have hn1:((l.length:Int) != (k.length:Int))=false:=by simp; omega
  have HNE:=Lib.hid hne
  clear hne
  go_enter Tryz.func31,Tryz.ntmps31
  go_wp2
  go_loopw [5] (fun i wr=>∃ q:Nat,q <= l.length /\ i = .int .i64 q /\ Hid (∀ j,j < q -> mdD l j=mdD k j) /\ Hid (Below w.heap.size w wr)) (fun i _=>l.length - (intOf i).toNat)
  case atStart=>exact ⟨0,Nat.zero_le _,rfl,Lib.hid (fun j hj=>absurd hj (Nat.not_lt_zero _)),Lib.hid (Below.refl _ _)⟩
  case round =>
   obtain ⟨q,hq,rfl,HA,HB⟩:=hrel
   by_cases hlt:q < l.length
   ·obtain ⟨b,off,rfl,hblt,hat⟩:=H4.out (by omega)
    obtain ⟨c,off2,rfl,hclt,hct⟩:=K4.out (by have:=HNE.out; omega)
    obtain ⟨a0,a1,vo,vn,vc,a2,hv0⟩:=hat q hlt
    obtain ⟨b0,b1,uo,un,uc,b2,hu0⟩:=hct q (by have:=HNE.out; omega)
    have a0:=cell_later HB.out a0
    have a1:=cell_later HB.out a1
    have a2:=cell_later HB.out a2
    have b0:=cell_later HB.out b0
    have b1:=cell_later HB.out b1
    have b2:=cell_later HB.out b2
    have HVd:Hid (StrsAt wr.drew vo vn vc (mdD l q).vs):=Lib.hid ((hv0.below HB.out).below (Below.refl _ wr).drew)
    have HUd:Hid (StrsAt wr.drew uo un uc (mdD k q).vs):=Lib.hid ((hu0.below HB.out).below (Below.refl _ wr).drew)
    clear hv0 hu0 hat hct
    obtain ⟨x,hx⟩:∃ x,mdD l q=x:=⟨_,rfl⟩
    obtain ⟨y,hy⟩:∃ x,mdD k q=x:=⟨_,rfl⟩
    rw [hx] at a0 a1 HVd
    rw [hy] at b0 b1 HUd
    have HX:=Lib.hid hx
    have HY:=Lib.hid hy
    clear hx hy
    obtain ⟨o,p,vs⟩:=x
    obtain ⟨o',r,us⟩:=y
    simp only [] at a0 b0 a1 b1 HVd HUd
    have d0:(0:Int) <= (q:Int):=by omega
    have d1:(q:Int) < (l.length:Int):=by omega
    have d2:(q:Int) < (k.length:Int):=by have:=HNE.out; omega
    have HBd:Hid (Below w.heap.size w wr.drew /\ w.heap.size <= wr.drew.heap.size):=Lib.hid ⟨HB.out.drew,HB.out.size⟩
    by_cases ho:o=o'
    ·have r2:(o != o')=false:=by rw [ho]; simp
     by_cases hpr:p=r
     ·have q1:(p.toList == r.toList)=true:=by rw [str_eq]; exact decide_eq_true hpr
      have q2:(p.toList != r.toList)=false:=by unfold bne; rw [q1]; rfl
      obtain ⟨z,hz⟩:∃ z,decide (vs=us)=z:=⟨_,rfl⟩
      have HZ:=Lib.hid hz
      clear hz
      cases z with
      | true =>
       have HE:=Lib.hid (show mdD l q=mdD k q by rw [HX.out,HY.out,hpr,ho,of_decide_eq_true HZ.out])
       clear hpr ho
       go_wp2_with fail
       refine wp_region_held_drew (S:=fun W=>W.cell? ⟨b,off + q * 3,none⟩=some (.int .i64 o) /\ W.cell? ⟨c,off2 + q * 3,none⟩=some (.int .i64 o') /\ W.cell? ⟨b,off + q * 3 + 1,none⟩=some (.string p) /\ W.cell? ⟨c,off2 + q * 3 + 1,none⟩=some (.string r) /\ W.cell? ⟨b,off + q * 3 + 2,none⟩=some (.slice vo vn vc) /\ W.cell? ⟨c,off2 + q * 3 + 2,none⟩=some (.slice uo un uc) /\ Hid (Below w.heap.size w W /\ w.heap.size <= W.heap.size)) (by kernel_rfl) (⟨a0,b0,a1,b1,a2,b2,HBd⟩) (fun hS => ?_)
       refine rgT 0 (some 17) ?_
       refine rgT 1 (some 18) ?_
       refine rgT 2 (some 19) ?_
       refine rgT 3 (some 20) ?_
       refine rgT 4 (some 21) ?_
       refine rgT 5 (some 22) ?_
       refine rgT 6 (some 23) ?_
       refine rgT 7 (some 24) ?_
       refine rgT 8 (some 25) ?_
       refine rgT 9 (some 26) ?_
       refine rgT 10 (some 27) ?_
       refine rgT 11 (some 28) ?_
       refine rgT 12 (some 29) ?_
       refine rgT 13 (some 30) ?_
       refine rgT 14 (some 31) ?_
       refine rgT 15 (some 32) ?_
       refine rgT 16 (some 33) ?_
       refine rgT 17 (some 34) ?_
       refine rgT 18 (some 35) ?_
       refine rgT 19 (some 36) ?_
       refine rgT 20 (some 37) ?_
       refine rgT 21 (some 38) ?_
       refine rgT 22 (some 39) ?_
       refine rgT 23 (some 40) ?_
       refine rgT 24 (some 41) ?_
       refine rgT 25 (some 42) ?_
       refine rgT 26 (some 43) ?_
       refine rgT 27 (some 44) ?_
       refine rgT 28 (some 45) ?_
       refine rgT 29 (some 46) ?_
       refine rgT 30 (some 47) ?_
       refine rgT 31 (some 48) ?_
       refine rgT 32 (some 49) ?_
       refine rgT 33 (some 50) ?_
       refine rgT 34 (some 51) ?_
       refine rgC 35 (fun K hK => ?_)
       go_simp
       refine (sameS8_s vo uo vn un vc uc vs us _ HVd.out HUd.out).mono ?_
       rintro e w5 ⟨rfl,hb⟩
       rw [HZ.out]
       go_wp2_with fail
       refine hK.out _ _ ?_ (fun hHeld => ?_)
       ·exact keep6b (by assumption) hb
       clear hK K
       try simp only [Act.put,lsA,lsZ,lsS]
       refine rgT 36 (some 53) ?_
       refine rgT 37 (some 54) ?_
       refine wpAnyH_done (by kernel_rfl) ?_ _
       have HB6:=Lib.hid (HBd.out.1.trans (hb.mono HBd.out.2))
       go_wp2_with fail
       go_roundw
       case rel =>
        refine ⟨q + 1,by omega,by go_num,Lib.hid fun j hj => ?_,HB6⟩
        by_cases e:j=q
        ·rw [e]; exact HE.out
        ·exact HA.out j (by omega)
       case measure=>simp [intOf]; omega
      | false =>
       have HE:=Lib.hid (show decide (l=k)=false from decide_eq_false fun e=>of_decide_eq_false HZ.out (by have h5:=HX.out; rw [e,HY.out] at h5; exact (congrArg Md.vs h5).symm))
       clear hpr ho
       go_wp2_with fail
       refine wp_region_held_drew (S:=fun W=>W.cell? ⟨b,off + q * 3,none⟩=some (.int .i64 o) /\ W.cell? ⟨c,off2 + q * 3,none⟩=some (.int .i64 o') /\ W.cell? ⟨b,off + q * 3 + 1,none⟩=some (.string p) /\ W.cell? ⟨c,off2 + q * 3 + 1,none⟩=some (.string r) /\ W.cell? ⟨b,off + q * 3 + 2,none⟩=some (.slice vo vn vc) /\ W.cell? ⟨c,off2 + q * 3 + 2,none⟩=some (.slice uo un uc) /\ Hid (Below w.heap.size w W /\ w.heap.size <= W.heap.size)) (by kernel_rfl) (⟨a0,b0,a1,b1,a2,b2,HBd⟩) (fun hS => ?_)
       refine rgT 0 (some 17) ?_
       refine rgT 1 (some 18) ?_
       refine rgT 2 (some 19) ?_
       refine rgT 3 (some 20) ?_
       refine rgT 4 (some 21) ?_
       refine rgT 5 (some 22) ?_
       refine rgT 6 (some 23) ?_
       refine rgT 7 (some 24) ?_
       refine rgT 8 (some 25) ?_
       refine rgT 9 (some 26) ?_
       refine rgT 10 (some 27) ?_
       refine rgT 11 (some 28) ?_
       refine rgT 12 (some 29) ?_
       refine rgT 13 (some 30) ?_
       refine rgT 14 (some 31) ?_
       refine rgT 15 (some 32) ?_
       refine rgT 16 (some 33) ?_
       refine rgT 17 (some 34) ?_
       refine rgT 18 (some 35) ?_
       refine rgT 19 (some 36) ?_
       refine rgT 20 (some 37) ?_
       refine rgT 21 (some 38) ?_
       refine rgT 22 (some 39) ?_
       refine rgT 23 (some 40) ?_
       refine rgT 24 (some 41) ?_
       refine rgT 25 (some 42) ?_
       refine rgT 26 (some 43) ?_
       refine rgT 27 (some 44) ?_
       refine rgT 28 (some 45) ?_
       refine rgT 29 (some 46) ?_
       refine rgT 30 (some 47) ?_
       refine rgT 31 (some 48) ?_
       refine rgT 32 (some 49) ?_
       refine rgT 33 (some 50) ?_
       refine rgT 34 (some 51) ?_
       refine rgC 35 (fun K hK => ?_)
       go_simp
       refine (sameS8_s vo uo vn un vc uc vs us _ HVd.out HUd.out).mono ?_
       rintro e w5 ⟨rfl,hb⟩
       rw [HZ.out]
       go_wp2_with fail
       refine hK.out _ _ ?_ (fun hHeld => ?_)
       ·exact keep6b (by assumption) hb
       clear hK K
       try simp only [Act.put,lsA,lsZ,lsS]
       refine rgT 36 (some 53) ?_
       refine rgT 37 (some 54) ?_
       refine wpAnyH_done (by kernel_rfl) ?_ _
       have HB6:=Lib.hid (HBd.out.1.trans (hb.mono HBd.out.2))
       go_wp2_with fail
       go_ret
       exact ⟨by rw [HE.out]; rfl,HB6.out⟩
     ·have q1:(p.toList == r.toList)=false:=by rw [str_eq]; exact decide_eq_false hpr
      have q2:(p.toList != r.toList)=true:=by unfold bne; rw [q1]; rfl
      have HE:=Lib.hid (show decide (l=k)=false from decide_eq_false fun e=>hpr (by have h5:=HX.out; rw [e,HY.out] at h5; exact (congrArg Md.name h5).symm))
      clear hpr ho
      go_wp2_with fail
      refine wp_region_held_drew (S:=fun W=>W.cell? ⟨b,off + q * 3,none⟩=some (.int .i64 o) /\ W.cell? ⟨c,off2 + q * 3,none⟩=some (.int .i64 o') /\ W.cell? ⟨b,off + q * 3 + 1,none⟩=some (.string p) /\ W.cell? ⟨c,off2 + q * 3 + 1,none⟩=some (.string r) /\ Hid (Below w.heap.size w W /\ w.heap.size <= W.heap.size)) (by kernel_rfl) (⟨a0,b0,a1,b1,HBd⟩) (fun hS => ?_)
      refine rgT 0 (some 17) ?_
      refine rgT 1 (some 18) ?_
      refine rgT 2 (some 19) ?_
      refine rgT 3 (some 20) ?_
      refine rgT 4 (some 21) ?_
      refine rgT 5 (some 22) ?_
      refine rgT 6 (some 23) ?_
      refine rgT 7 (some 24) ?_
      refine rgT 8 (some 25) ?_
      refine rgT 9 (some 26) ?_
      refine rgT 10 (some 27) ?_
      refine rgT 11 (some 28) ?_
      refine rgT 12 (some 29) ?_
      refine rgT 13 (some 30) ?_
      refine rgT 14 (some 31) ?_
      refine rgT 15 (some 32) ?_
      refine rgT 16 (some 33) ?_
      refine rgT 17 (some 34) ?_
      refine rgT 18 (some 35) ?_
      refine rgT 19 (some 36) ?_
      refine rgT 20 (some 37) ?_
      refine rgT 21 (some 38) ?_
      refine rgT 22 (some 39) ?_
      refine rgT 23 (some 40) ?_
      refine rgT 24 (some 41) ?_
      refine rgS 25 (some 42) ?_
      refine rgS 26 (some 43) ?_
      refine rgS 27 (some 44) ?_
      refine rgS 28 (some 45) ?_
      refine rgS 29 (some 46) ?_
      refine rgS 30 (some 47) ?_
      refine rgS 31 (some 48) ?_
      refine rgS 32 (some 49) ?_
      refine rgS 33 (some 50) ?_
      refine rgS 34 (some 51) ?_
      refine rgS 35 (some 52) ?_
      refine rgS 36 (some 53) ?_
      refine rgT 37 (some 54) ?_
      refine wpAnyH_done (by kernel_rfl) ?_ _
      go_wp2_with fail
      go_ret
      exact ⟨by rw [HE.out]; rfl,HBd.out.1⟩
    ·have r2:(o != o')=true:=by simpa using ho
     have HE:=Lib.hid (show decide (l=k)=false from decide_eq_false fun e=>ho (by have h5:=HX.out; rw [e,HY.out] at h5; exact (congrArg Md.op h5).symm))
     clear ho
     go_wp2_with fail
     refine wp_region_held_drew (S:=fun W=>W.cell? ⟨b,off + q * 3,none⟩=some (.int .i64 o) /\ W.cell? ⟨c,off2 + q * 3,none⟩=some (.int .i64 o') /\ Hid (Below w.heap.size w W /\ w.heap.size <= W.heap.size)) (by kernel_rfl) (⟨a0,b0,HBd⟩) (fun hS => ?_)
     refine rgT 0 (some 17) ?_
     refine rgT 1 (some 18) ?_
     refine rgT 2 (some 19) ?_
     refine rgT 3 (some 20) ?_
     refine rgT 4 (some 21) ?_
     refine rgT 5 (some 22) ?_
     refine rgT 6 (some 23) ?_
     refine rgT 7 (some 24) ?_
     refine rgT 8 (some 25) ?_
     refine rgT 9 (some 26) ?_
     refine rgT 10 (some 27) ?_
     refine rgT 11 (some 28) ?_
     refine rgS 12 (some 29) ?_
     refine rgS 13 (some 30) ?_
     refine rgS 14 (some 31) ?_
     refine rgS 15 (some 32) ?_
     refine rgS 16 (some 33) ?_
     refine rgS 17 (some 34) ?_
     refine rgS 18 (some 35) ?_
     refine rgS 19 (some 36) ?_
     refine rgS 20 (some 37) ?_
     refine rgS 21 (some 38) ?_
     refine rgS 22 (some 39) ?_
     refine rgT 23 (some 40) ?_
     refine rgT 24 (some 41) ?_
     refine rgS 25 (some 42) ?_
     refine rgS 26 (some 43) ?_
     refine rgS 27 (some 44) ?_
     refine rgS 28 (some 45) ?_
     refine rgS 29 (some 46) ?_
     refine rgS 30 (some 47) ?_
     refine rgS 31 (some 48) ?_
     refine rgS 32 (some 49) ?_
     refine rgS 33 (some 50) ?_
     refine rgS 34 (some 51) ?_
     refine rgS 35 (some 52) ?_
     refine rgS 36 (some 53) ?_
     refine rgT 37 (some 54) ?_
     refine wpAnyH_done (by kernel_rfl) ?_ _
     go_wp2_with fail
     go_ret
     exact ⟨by rw [HE.out]; rfl,HBd.out.1⟩
   ·have HE:=Lib.hid (show decide (l=k)=true from decide_eq_true (mds_ext HNE.out fun j hj=>HA.out j (by omega)))
    go_wp2_with fail
    go_ret
    exact ⟨by rw [HE.out]; rfl,HB.out⟩
 ·have HE:=Lib.hid (show decide (l=k)=false from decide_eq_false fun e=>hne (by rw [e]))
  have hn1:((l.length:Int) != (k.length:Int))=true:=by simp; omega
  go_enter Tryz.func31,Tryz.ntmps31
  go_wp2
  go_ret
  exact ⟨by rw [HE.out]; rfl,Below.refl _ _⟩
def exT8:List Ty:=[⟨⟨#[99,108,97,115,115]⟩,1,false⟩,⟨⟨#[99,110]⟩,1,false⟩,⟨⟨#[115,110]⟩,1,false⟩,⟨⟨#[110,117,109]⟩,3,false⟩]
def exC8:List Cl:=[⟨⟨#[112,101,114,115,111,110]⟩,⟨#[]⟩,[⟨#[99,108,97,115,115]⟩,⟨#[99,110]⟩],[⟨#[115,110]⟩,⟨#[110,117,109]⟩]⟩]
structure Sm4 (W:World) (b:Nat):Prop where
 t:Kb W b (.cells #[.string ⟨#[99,108,97,115,115]⟩, .int .i64 1, .bool false, .string ⟨#[99,110]⟩, .int .i64 1, .bool false, .string ⟨#[115,110]⟩, .int .i64 1, .bool false, .string ⟨#[110,117,109]⟩, .int .i64 3, .bool false] 62)
 s1:Kb W (b + 1) (.cells #[.string ⟨#[99,108,97,115,115]⟩, .string ⟨#[99,110]⟩] 9)
 s2:Kb W (b + 1 + 1) (.cells #[.string ⟨#[115,110]⟩, .string ⟨#[110,117,109]⟩] 9)
 c:Kb W (b + 1 + 1 + 1) (.cells #[.string ⟨#[112,101,114,115,111,110]⟩, .string ⟨#[]⟩, .slice (some ⟨b + 1,0,none⟩) 2 2, .slice (some ⟨b + 1 + 1,0,none⟩) 2 2] 64)
theorem sm4_types {W:World} {b:Nat} (h:Sm4 W b):TysAt W (some ⟨b,0,none⟩) 4 4 exT8:=
 ⟨rfl,Nat.le_refl _,by unfold maxLen; omega,fun _=>⟨b,0,rfl,h.t.big,fun j hj=>by
  match j,hj with
  | 0,_=>exact ⟨h.t.cell rfl,h.t.cell rfl,h.t.cell rfl⟩
  | 1,_=>exact ⟨h.t.cell rfl,h.t.cell rfl,h.t.cell rfl⟩
  | 2,_=>exact ⟨h.t.cell rfl,h.t.cell rfl,h.t.cell rfl⟩
  | 3,_=>exact ⟨h.t.cell rfl,h.t.cell rfl,h.t.cell rfl⟩⟩⟩
theorem sm4_classes {W:World} {b:Nat} (h:Sm4 W b):ClsAt W (some ⟨b + 1 + 1 + 1,0,none⟩) 1 1 exC8:=
 ⟨rfl,Nat.le_refl _,by unfold maxLen; omega,fun _=>⟨b + 1 + 1 + 1,0,rfl,h.c.big,fun j hj=>by
  match j,hj with
  | 0,_=>exact ⟨h.c.cell rfl,h.c.cell rfl,⟨_,_,_,h.c.cell rfl,strs_kb (l:=[⟨#[99,108,97,115,115]⟩,⟨#[99,110]⟩]) h.s1 rfl (by unfold maxLen; omega)⟩,_,_,_,h.c.cell rfl,strs_kb (l:=[⟨#[115,110]⟩,⟨#[110,117,109]⟩]) h.s2 rfl (by unfold maxLen; omega)⟩⟩⟩
theorem sm4_sch {W:World} {b:Nat} (h:Sm4 W b):SchV W (.agg #[.slice (some ⟨b,0,none⟩) 4 4, .slice (some ⟨b + 1 + 1 + 1,0,none⟩) 1 1]) exT8 exC8:=
 ⟨_,_,_,_,_,_,rfl,sm4_types h,sm4_classes h,smT_dec (by decide +kernel),smC_dec (by decide +kernel)⟩
theorem tower4 (w:World) (o0 o1 o2 o3 o4:Obj):Kb (((((w.alloc o0).alloc o1).alloc o2).alloc o3).alloc o4) (w.heap.size + 1) o1 /\ Kb (((((w.alloc o0).alloc o1).alloc o2).alloc o3).alloc o4) (w.heap.size + 1 + 1) o2 /\
  Kb (((((w.alloc o0).alloc o1).alloc o2).alloc o3).alloc o4) (w.heap.size + 1 + 1 + 1) o3 /\ Kb (((((w.alloc o0).alloc o1).alloc o2).alloc o3).alloc o4) (w.heap.size + 1 + 1 + 1 + 1) o4 /\ Below w.heap.size w (((((w.alloc o0).alloc o1).alloc o2).alloc o3).alloc o4):=by
 have s:∀ (W:World) (o:Obj),(W.alloc o).heap.size=W.heap.size + 1:=fun W o=>by simp
 have k1:=kb_at (W:=w.alloc o0) o1 (s _ _)
 have k2:=kb_at (W:=(w.alloc o0).alloc o1) o2 (by rw [s,s])
 have k3:=kb_at (W:=((w.alloc o0).alloc o1).alloc o2) o3 (by rw [s,s,s])
 have k4:=kb_at (W:=(((w.alloc o0).alloc o1).alloc o2).alloc o3) o4 (by rw [s,s,s,s])
 refine ⟨((k1.step (below_al _ _)).step (below_al _ _)).step (below_al _ _),(k2.step (below_al _ _)).step (below_al _ _),k3.step (below_al _ _),k4, ?_⟩
 exact (((((Below.refl w.heap.size w).alloc (Nat.le_refl _) o0).alloc (by simp only [s]; omega) o1).alloc (by simp only [s]; omega) o2).alloc (by simp only [s]; omega) o3).alloc (by simp only [s]; omega) o4
set_option maxHeartbeats 4000000 in
theorem small_e (w:World):Calls Tryz.prog 70 #[] w fun e w'=>∃ to tn tc co cn cc,e = .returned (.agg #[.slice to tn tc, .slice co cn cc]) /\ SchV w' (.agg #[.slice to tn tc, .slice co cn cc]) exT8 exC8 /\ Below w.heap.size w w':=by
 go_enter Tryz.func70,Tryz.ntmps70
 go_wp2_with fail
 refine bodyPost_ret (v := .agg #[.slice (some ⟨w.heap.size + 1,0,none⟩) 4 4, .slice (some ⟨w.heap.size + 1 + 1 + 1 + 1,0,none⟩) 1 1]) (by simp only [results,Tryz.results70]; go_simp) rfl ?_
 have ht:=tower4 w (.cells #[.slice (some ⟨w.heap.size + 1,0,none⟩) 4 4, .slice (some ⟨w.heap.size + 1 + 1 + 1 + 1,0,none⟩) 1 1] 25) (.cells #[.string ⟨#[99,108,97,115,115]⟩, .int .i64 1, .bool false, .string ⟨#[99,110]⟩, .int .i64 1, .bool false, .string ⟨#[115,110]⟩, .int .i64 1, .bool false, .string ⟨#[110,117,109]⟩, .int .i64 3, .bool false] 62) (.cells #[.string ⟨#[99,108,97,115,115]⟩, .string ⟨#[99,110]⟩] 9) (.cells #[.string ⟨#[115,110]⟩, .string ⟨#[110,117,109]⟩] 9) (.cells #[.string ⟨#[112,101,114,115,111,110]⟩, .string ⟨#[]⟩, .slice (some ⟨w.heap.size + 1 + 1,0,none⟩) 2 2, .slice (some ⟨w.heap.size + 1 + 1 + 1,0,none⟩) 2 2] 64)
 exact ⟨_,_,_,_,_,_,rfl,sm4_sch (b:=w.heap.size + 1) ⟨ht.1,ht.2.1,ht.2.2.1,ht.2.2.2.1⟩,ht.2.2.2.2⟩
theorem ann_e (ao:Option Addr) (n cap:Nat) (w:World):Calls Tryz.prog 69 #[.slice ao n cap] w fun e w'=>e = .returned (.agg #[.string ⟨#[99,110,61,97,110,110]⟩, .slice ao n cap]) /\ Below w.heap.size w w':=by
 have hb:=below_al w (.cells #[.string ⟨#[99,110,61,97,110,110]⟩, .slice ao n cap] 37)
 go_enter Tryz.func69,Tryz.ntmps69
 go_wp2_with fail
 refine bodyPost_ret (v := .agg #[.string ⟨#[99,110,61,97,110,110]⟩, .slice ao n cap]) (by simp only [results,Tryz.results69]; go_simp) rfl ?_
 exact ⟨rfl,hb⟩
theorem e8_chk:chkS exT8 exC8=0:=by decide +kernel
theorem e8_st:soundT exT8 exC8=exT8:=if_pos e8_chk
theorem e8_sc:soundC exT8 exC8=exC8:=if_pos e8_chk
theorem e8_c1:enC ⟨#[99,110,61,97,110,110]⟩ []=0:=by decide +kernel
theorem e8_c2:enC ⟨#[]⟩ []=5:=by decide +kernel
theorem e8_t:txV ⟨#[99,110,61,97,110,110]⟩ [(⟨#[115,110]⟩,[⟨#[97,32,98]⟩])]=⟨#[101,110,116,114,121,32,99,110,37,51,68,97,110,110,10,115,110,32,97,37,50,48,98,10]⟩:=by decide +kernel
theorem e8_te:enC ⟨#[99,110,61,97,110,110]⟩ [(⟨#[115,110]⟩,[⟨#[97,32,98]⟩])]=0:=by decide +kernel
theorem e8_d:enD ⟨#[99,110,61,97,110,110]⟩ [(⟨#[110,117,109]⟩,[⟨#[49]⟩,⟨#[50]⟩])] ⟨#[99,110,61,97,110,110]⟩ [(⟨#[110,117,109]⟩,[⟨#[50]⟩,⟨#[51]⟩])] = [⟨2,⟨#[110,117,109]⟩,[⟨#[49]⟩]⟩,⟨1,⟨#[110,117,109]⟩,[⟨#[51]⟩]⟩]:=by decide +kernel
theorem e8_ne:enE exT8 exC8 ⟨#[67,78,61,65,110,110]⟩ [(⟨#[67,108,97,115,115]⟩,[⟨#[112,101,114,115,111,110]⟩]),(⟨#[99,110]⟩,[⟨#[65,110,110]⟩]),(⟨#[110,117,109]⟩,[⟨#[55]⟩])]=0:=by decide +kernel
theorem e8_nn:enN exT8 exC8 ⟨#[67,78,61,65,110,110]⟩ [(⟨#[67,108,97,115,115]⟩,[⟨#[112,101,114,115,111,110]⟩]),(⟨#[99,110]⟩,[⟨#[65,110,110]⟩]),(⟨#[110,117,109]⟩,[⟨#[55]⟩])]=⟨#[99,110,61,97,110,110]⟩:=by decide +kernel
theorem e8_nl:enL exT8 exC8 ⟨#[67,78,61,65,110,110]⟩ [(⟨#[67,108,97,115,115]⟩,[⟨#[112,101,114,115,111,110]⟩]),(⟨#[99,110]⟩,[⟨#[65,110,110]⟩]),(⟨#[110,117,109]⟩,[⟨#[55]⟩])] = [(⟨#[99,108,97,115,115]⟩,[⟨#[112,101,114,115,111,110]⟩]),(⟨#[99,110]⟩,[⟨#[97,110,110]⟩]),(⟨#[110,117,109]⟩,[⟨#[55]⟩])]:=by decide +kernel
theorem e8_ae:apE exT8 exC8 ⟨#[99,110,61,97,110,110]⟩ [(⟨#[99,108,97,115,115]⟩,[⟨#[112,101,114,115,111,110]⟩]),(⟨#[99,110]⟩,[⟨#[97,110,110]⟩]),(⟨#[110,117,109]⟩,[⟨#[55]⟩])] [⟨3,⟨#[99,110]⟩,[⟨#[66,111,98]⟩]⟩]=0:=by decide +kernel
theorem e8_an:apN exT8 exC8 ⟨#[99,110,61,97,110,110]⟩ [(⟨#[99,108,97,115,115]⟩,[⟨#[112,101,114,115,111,110]⟩]),(⟨#[99,110]⟩,[⟨#[97,110,110]⟩]),(⟨#[110,117,109]⟩,[⟨#[55]⟩])] [⟨3,⟨#[99,110]⟩,[⟨#[66,111,98]⟩]⟩]=⟨#[99,110,61,97,110,110]⟩:=by decide +kernel
theorem e8_al:apL exT8 exC8 ⟨#[99,110,61,97,110,110]⟩ [(⟨#[99,108,97,115,115]⟩,[⟨#[112,101,114,115,111,110]⟩]),(⟨#[99,110]⟩,[⟨#[97,110,110]⟩]),(⟨#[110,117,109]⟩,[⟨#[55]⟩])] [⟨3,⟨#[99,110]⟩,[⟨#[66,111,98]⟩]⟩] = [(⟨#[99,108,97,115,115]⟩,[⟨#[112,101,114,115,111,110]⟩]),(⟨#[99,110]⟩,[⟨#[98,111,98]⟩]),(⟨#[110,117,109]⟩,[⟨#[55]⟩])]:=by decide +kernel
end Go.Proofs.YtmmdaegdkikkpaaGreatDoor
end

section
set_option maxRecDepth 100000
namespace Go.Proofs.YtmmdaegdkikkpaaGreatDoor
open Go.RowKit Go.PlainAid Go.Maps
theorem map_below {w w':World} {b n:Nat} {D:DataW Value} (h:w.ownsMap Tryz.prog 9 rawE b n D) (hb:Below w.heap.size w w'):w'.ownsMap Tryz.prog 9 rawE b n D:=
 h.kept (row:=none) ⟨hb.os,hb.tape,hb.output,hb.size,fun k hk _=>hb.block k hk⟩ (by simp)
theorem vals_fewE {l:List At} (h:LightE (nf l)) (p:ByteArray):(vals l p).length <= 20:=by
 by_cases e:vals l p = []
 ·rw [e]; simp
 ·exact (h.each (p,vals l p) (nf_mem.2 ⟨rfl,e⟩)).len
theorem names_fewE {l:List At} (h:LightE (nf l)):(names l).length <= 40:=by rw [<- nf_lenN]; exact h.len
theorem names_szE {l:List At} (h:LightE (nf l)) {p:ByteArray} (hp:p ∈ names l):p.size <= 1100000:=by
 have:=(h.each (p,vals l p) (nf_mem.2 ⟨rfl,names_vals.1 hp⟩)).nm
 simp only at this
 omega
theorem dif1_len (n:ByteArray) (a b:List ByteArray):(dif1 n a b).length <= 2:=by
 unfold dif1
 split
 ·simp
 ·split
  ·simp
  ·split
   ·split <;> simp
   ·split <;> simp
theorem union_keys {W:World} {b5 b6 N5 N6:Nat} {D5 D6:DataW Value} {f5 f6:ByteArray -> Option Value} {a b:List At} (h5:W.ownsMap Tryz.prog 9 rawE b5 N5 D5) (h6:W.ownsMap Tryz.prog 9 rawE b6 N6 D6)
  (k5:∀ k,Maps.has D5 (klit k)=(f5 k).isSome) (k6:∀ k,Maps.has D6 (klit k)=(f6 k).isSome) (i5:∀ k,(f5 k).isSome=memB (names a) k) (i6:∀ k,(f6 k).isSome=memB (names b) k) (k:ByteArray) :
  Maps.has (Lib.mergeD D5 D6) (klit k)=true ↔ k ∈ names a ++ names b:=by
 rw [has_merge h5 h6,k5,k6,i5,i6,Bool.or_eq_true,memB_iff,memB_iff,List.mem_append]
def DfI (wK:World) (K:List ByteArray) (a b:List At) (i:Nat) (v:Value) (wr:World):Prop:=
 ∃ T,DvI wK v T wr /\ mmds T=((K.take i).flatMap fun n=>dif1 n (vals a n) (vals b n)) /\ T.length <= 2 * i
theorem DfI.next {wK W w5 w':World} {K:List ByteArray} {a b:List At} {i:Nat} {TL T5:List Mv} {v v5 v':Value} (hi:i < K.length) (h:DvI wK v TL W) (hm:mmds TL=((K.take i).flatMap fun n=>dif1 n (vals a n) (vals b n))) (hl:TL.length <= 2 * i)
  (k:DvI W v5 T5 w5) (hm5:mmds T5=dif1 (partAt K i) (vals a (partAt K i)) (vals b (partAt K i)))
  (hrow:w'.ownsRow wK.heap.size 102 3 v' (TL.length + T5.length) (mcells TL ++ mcells T5)) (hg:w5.grownBy w' v.ownBlock) (hlb:v'.ownBlock=v.ownBlock ∨ v'.ownBlock=some w5.heap.size):DfI wK K a b (i + 1) v' w':=by
 refine ⟨TL ++ T5,h.app k hrow hg hlb, ?_, ?_⟩
 ·unfold mmds at hm hm5 ⊢
  rw [List.map_append,hm,hm5,take_snoc K i hi,List.flatMap_append,List.flatMap_cons,List.flatMap_nil,List.append_nil]
 ·have h1:T5.length=(dif1 (partAt K i) (vals a (partAt K i)) (vals b (partAt K i))).length:=by rw [<- hm5]; unfold mmds; rw [List.length_map]
  have h2:=dif1_len (partAt K i) (vals a (partAt K i)) (vals b (partAt K i))
  rw [List.length_append]; omega
set_option maxHeartbeats 16000000 in
theorem diff_s (ea:ByteArray) (ao:Option Addr) (n cap:Nat) (a:List At) (eb:ByteArray) (bo:Option Addr) (m dap:Nat) (b:List At) (w:World) (hea:ea.size <= 1100000) (heb:eb.size <= 1100000) (ha:AttrsAt w ao n cap a) (hb:AttrsAt w bo m dap b) (hSa:SmallA a) (hFa:FewV a) (hSb:SmallA b) (hFb:FewV b) :
  Calls Tryz.prog 32 #[.agg #[.string ea, .slice ao n cap], .agg #[.string eb, .slice bo m dap]] w fun e w'=>DvP (enD ea a eb b) w e w':=by
 have HA:=Lib.hid ha
 have HO:=Lib.hid hb
 clear ha hb
 have hb0:Below w.heap.size w ((w.alloc (.cells #[.string ea, .slice ao n cap] 37)).alloc (.cells #[.string eb, .slice bo m dap] 37)):=(below_al w _).alloc (by simp) _
 have HK:=Lib.hid (And.intro ((kbl_new w (.cells #[.string ea, .slice ao n cap] 37)).step (below_al _ (.cells #[.string eb, .slice bo m dap] 37)))
  (show Kb ((w.alloc (.cells #[.string ea, .slice ao n cap] 37)).alloc (.cells #[.string eb, .slice bo m dap] 37)) (w.heap.size + 1) (.cells #[.string eb, .slice bo m dap] 37) by
   have:=kbl_new (w.alloc (.cells #[.string ea, .slice ao n cap] 37)) (.cells #[.string eb, .slice bo m dap] 37)
   simpa using this))
 have HC1:=Lib.hid (enCheck_s ea ao n cap a _ hea (HA.out.below hb0) hSa hFa)
 have HC2:=Lib.hid (fun (V:World) (hV:Below w.heap.size w V)=>enCheck_s eb bo m dap b V heb (HO.out.below hV) hSb hFb)
 have HB0:=Lib.hid hb0
 obtain ⟨c1,hc1⟩:∃ c,enC ea a=c:=⟨_,rfl⟩
 obtain ⟨c2,hc2⟩:∃ c,enC eb b=c:=⟨_,rfl⟩
 rw [hc1] at HC1
 rw [hc2] at HC2
 have HE:=Lib.hid (And.intro hc1 hc2)
 obtain ⟨x0,x1⟩:((w.alloc (.cells #[.string ea, .slice ao n cap] 37)).alloc (.cells #[.string eb, .slice bo m dap] 37)).cell? ⟨w.heap.size,0,none⟩=some (.string ea) /\ ((w.alloc (.cells #[.string ea, .slice ao n cap] 37)).alloc (.cells #[.string eb, .slice bo m dap] 37)).cell? ⟨w.heap.size,1,none⟩=some (.slice ao n cap):=⟨HK.out.1.cell rfl,HK.out.1.cell rfl⟩
 clear hb0 hc1 hc2
 go_enter Tryz.func32,Tryz.ntmps32
 go_wp2_with fail
 refine HC1.out.mono ?_
 rintro e w1 ⟨rfl,hb⟩
 have HB1:=Lib.hid (HB0.out.trans (hb.mono HB0.out.size))
 have HK1:=Lib.hid (And.intro (HK.out.1.step hb) (HK.out.2.step hb))
 clear hb x0 x1 HC1 HB0 HK
 by_cases h1:c1=0
 ·subst h1
  obtain ⟨y0,y1⟩:w1.cell? ⟨w.heap.size + 1,0,none⟩=some (.string eb) /\ w1.cell? ⟨w.heap.size + 1,1,none⟩=some (.slice bo m dap):=⟨HK1.out.2.cell rfl,HK1.out.2.cell rfl⟩
  go_wp2_with fail
  refine (HC2.out w1 HB1.out).mono ?_
  rintro e w2 ⟨rfl,hb⟩
  have HB2:=Lib.hid (HB1.out.trans (hb.mono HB1.out.size))
  have HK2:=Lib.hid (And.intro (HK1.out.1.step hb) (HK1.out.2.step hb))
  clear hb y0 y1 HC2 HB1 HK1
  by_cases h2:c2=0
  ·subst h2
   have HLa:=Lib.hid (chk_light (chk_of HE.out.1))
   have HLb:=Lib.hid (chk_light (chk_of HE.out.2))
   have HNa:=Lib.hid (chk_light (nf_chk (chk_of HE.out.1)))
   have HNb:=Lib.hid (chk_light (nf_chk (chk_of HE.out.2)))
   obtain ⟨x1,y1⟩:w2.cell? ⟨w.heap.size,1,none⟩=some (.slice ao n cap) /\ w2.cell? ⟨w.heap.size + 1,1,none⟩=some (.slice bo m dap):=⟨HK2.out.1.cell rfl,HK2.out.2.cell rfl⟩
   have HBd:Hid (Below w.heap.size w w2.drew /\ w.heap.size <= w2.drew.heap.size):=Lib.hid ⟨HB2.out.drew,HB2.out.size⟩
   have hs2:w.heap.size <= w2.heap.size:=HB2.out.size
   go_wp2_with fail
   refine wp_region_held_drew (S:=fun W=>W.cell? ⟨w.heap.size,1,none⟩=some (.slice ao n cap) /\ W.cell? ⟨w.heap.size + 1,1,none⟩=some (.slice bo m dap) /\ Hid (Below w.heap.size w W /\ w.heap.size <= W.heap.size)) (by kernel_rfl) (⟨x1,y1,HBd⟩) (fun hS => ?_)
   refine rgT 0 (some 19) ?_
   refine rgT 1 (some 20) ?_
   refine rgT 3 (some 22) ?_
   refine rgT 4 (some 23) ?_
   refine rgC 2 (fun K hK => ?_)
   go_simp
   refine (valuesByName_s ao n cap a _ (HA.out.below HBd.out.1) HLa.out HNa.out).mono ?_
   rintro e w5 hv5
   obtain ⟨b5,N5,f5,rfl,hle5,hV5,hb5⟩:=hv5
   have HV5:=Lib.hid hV5
   have HBe:=Lib.hid (HBd.out.1.trans (hb5.mono HBd.out.2))
   clear hV5
   go_wp2_with fail
   refine hK.out _ _ ?_ (fun hHeld => ?_)
   ·exact keep2b (by assumption) hb5
   clear hK K
   try simp only [Act.put,lsA,lsZ,lsS]
   refine rgC 5 (fun K hK => ?_)
   go_simp
   refine (valuesByName_s bo m dap b _ (HO.out.below HBe.out) HLb.out HNb.out).mono ?_
   rintro e w6 hv6
   obtain ⟨b6,N6,f6,rfl,hle6,hV6,hb6⟩:=hv6
   have HV6:=Lib.hid hV6
   clear hV6
   go_wp2_with fail
   refine hK.out _ _ ?_ (fun hHeld => ?_)
   ·exact keep2b (by assumption) hb6
   clear hK K
   try simp only [Act.put,lsA,lsZ,lsS]
   refine rgT 6 (some 5) ?_
   refine rgT 7 (some 6) ?_
   refine wpAnyH_done (by kernel_rfl) ?_ _
   have HB6:=Lib.hid (HBe.out.trans (hb6.mono HBe.out.size))
   have h56:b5 ≠ b6:=by have:=HV5.out.map.lt; omega
   have HV5b:=Lib.hid (HV5.out.below hb6)
   obtain ⟨D5,hm5,hf5⟩:=HV5b.out.map
   obtain ⟨D6,hm6,hf6⟩:=HV6.out.map
   have h5l:b5 < w6.heap.size:=hm5.lt
   have h6l:b6 < w6.heap.size:=hm6.lt
   have HM:=Lib.hid (And.intro hm5 hm6)
   have HF:=Lib.hid (And.intro hf5 hf6)
   have HCl:Hid (Calls Tryz.prog 89 #[.map (some b5)] w6 fun e w'=>e = .returned (.map (some w6.heap.size)) /\ w'.ownsMap Tryz.prog 9 rawE w6.heap.size N5 D5 /\ w'.ownsMap Tryz.prog 9 rawE b5 N5 D5 /\ Below w6.heap.size w6 w'):=Lib.hid (AnyW.maps_Clone_owns Tryz.mclone 9 rawE b5 N5 D5 w6 hm5)
   clear hm5 hm6 hf5 hf6 HV5 HBe hb6 hb5 hle5 hle6 x1 y1 HBd
   go_wp2_with fail
   refine HCl.out.mono ?_
   rintro e w7 ⟨rfl,hc7,_,hb7⟩
   have HN5:=HV5b.out.few
   have HN6:=HV6.out.few
   have hD6:Maps.size D6 <= 40:=Nat.le_trans HM.out.2.size_le HN6
   have HCo:Hid (Calls Tryz.prog 90 #[.map (some w6.heap.size), .map (some b6)] w7 fun e w'=>e = .returned (.tuple #[]) /\ w'.ownsMap Tryz.prog 9 rawE w6.heap.size (N5 + Maps.size D6) (Lib.mergeD D5 D6) /\ w'.ownsMap Tryz.prog 9 rawE b6 N6 D6 /\ w7.grownBy w' (some w6.heap.size)):=
    Lib.hid (AnyX.maps_Copy Tryz.mcopy (string_keyed Tryz.underlying9) rawE w6.heap.size b6 N5 N6 D5 D6 w7 hc7 (map_below HM.out.2 hb7) (Nat.ne_of_gt h6l) (by unfold maxLen; omega))
   have HB7:=Lib.hid hb7
   clear hc7 hb7 HCl
   go_wp2_with fail
   refine HCo.out.mono ?_
   rintro e w8 ⟨rfl,hu8,_,hg8⟩
   have HB8:=Lib.hid (HB7.out.grown hg8 HB7.out.size (fun q hq=>by cases hq; exact Nat.le_refl _))
   have HKS:=Lib.hid (keys_s (some w6.heap.size) w8)
   have HSK:=Lib.hid (sorted_keys w6.heap.size (N5 + Maps.size D6) (Lib.mergeD D5 D6) rawE w8 hu8 (Nat.le_trans hu8.size_le (by omega)))
   have HKE:=Lib.hid (fun (ss:List (List UInt8)) hp=>keys_sorted (ks:=names a ++ names b) (ss:=ss) hu8 (union_keys HM.out.1 HM.out.2 (fun k=>(HF.out.1 k).1) (fun k=>(HF.out.2 k).1) HV5b.out.is HV6.out.is) hp)
   have HV5c:=Lib.hid (HV5b.out.below HB8.out)
   have HV6c:=Lib.hid (HV6.out.below HB8.out)
   have HB8w:=Lib.hid (HB6.out.trans (HB8.out.mono HB6.out.size))
   clear hu8 hg8 HCo HB7 HM HF HV5b HV6
   obtain ⟨K,hK⟩:∃ x,sortU (names a ++ names b)=x:=⟨_,rfl⟩
   have HKd:=Lib.hid hK
   have hKl:K.length <= 80:=by
    rw [<- hK]
    have h1:=sortU_len (names a ++ names b)
    rw [List.length_append] at h1
    have h2:=names_fewE HNa.out
    have h3:=names_fewE HNb.out
    omega
   have HKM:=Lib.hid (fun x (hx:x ∈ K)=>(show x.size <= 1100000 by
    rw [<- HKd.out,sortU_mem] at hx
    exact (List.mem_append.1 hx).elim (names_szE HNa.out) (names_szE HNb.out)))
   rw [hK] at HKE
   clear hK
   obtain ⟨c6,hc6⟩:∃ x,w6.heap.size=x:=⟨_,rfl⟩
   rw [hc6] at HKS HSK
   rw [hc6]
   clear hc6
   go_wp2_with fail
   refine HKS.out.mono ?_
   rintro e w9 ⟨rfl,rfl⟩
   go_wp2_with fail
   refine HSK.out.mono ?_
   rintro e wK ⟨kv,ss,rfl,hp,hkown,hbk⟩
   have hke:=HKE.out ss hp
   have hsl:ss.length=K.length:=by rw [<- hke,List.length_map]; exact (List.mergeSort_perm ss _).length_eq.symm
   rw [hke,hsl] at hkown
   have hbA:Below w8.heap.size w8 wK:=(below_al w8 _).trans (hbk.mono (Nat.le_succ _))
   have HBK:=Lib.hid (HB8w.out.trans (hbA.mono HB8w.out.size))
   have HVa:=Lib.hid (HV5c.out.below hbA)
   have HVb:=Lib.hid (HV6c.out.below hbA)
   obtain ⟨ko,kcap,rfl,hks⟩:=strs_own hkown rfl
   have HKs:=Lib.hid hks
   obtain ⟨k,hk⟩:∃ x,K.length=x:=⟨_,rfl⟩
   rw [hk] at HKs hKl ⊢
   have HKl:=Lib.hid hk
   have hkc:kcap <= 9223372036854775807:=HKs.out.2.2.1
   have hkk:k <= kcap:=HKs.out.2.1
   clear hks hkown hbk hke hsl hp hk hbA HSK HKS HKE HV5c HV6c HB8w HB8
   have HI0:=Lib.hid (show DfI wK K a b 0 (.slice none 0 0) wK from ⟨[],DvI.nil (Below.refl _ _),rfl,Nat.zero_le _⟩)
   go_wp2_with fail
   go_loopw [8,10,34] (fun s8 _ s34 wr=>∃ (i:Nat),i <= k /\ s34 = .int .i64 i /\ Hid (DfI wK K a b i s8 wr)) (fun _ _ s34 _=>k - (intOf s34).toNat)
   case atStart=>exact ⟨0,Nat.zero_le _,rfl,HI0⟩
   case round =>
    clear HI0
    obtain ⟨i,hi,rfl,HI⟩:=hrel
    by_cases hlt:i < k
    ·have d1:(i:Int) < (k:Int):=by omega
     obtain ⟨T,hD,hmm,hTl⟩:=HI.out
     have HD:=Lib.hid hD
     have HT:=Lib.hid hmm
     have hiK:i < K.length:=by rw [HKl.out]; exact hlt
     obtain ⟨g,off,rfl,_,hc⟩:=(HKs.out.below HD.out.low).2.2.2 (by omega)
     have hcell:=hc i hiK
     have HPm:=Lib.hid (part_mem K i hiK)
     obtain ⟨p,hp⟩:∃ x,partAt K i=x:=⟨_,rfl⟩
     have HP:=Lib.hid hp
     rw [hp] at hcell HPm
     have hps:=HKM.out p HPm.out
     obtain ⟨ao5,n5,cp5,hl5,hs5⟩:=(HVa.out.below HD.out.low).look p (by unfold maxLen; omega)
     obtain ⟨ao6,n6,cp6,hl6,hs6⟩:=(HVb.out.below HD.out.low).look p (by unfold maxLen; omega)
     have HDv:=Lib.hid (diffValues_s p ao5 ao6 n5 n6 cp5 cp6 (vals a p) (vals b p) _ hs5 hs6 (by have:=vals_fewE HNa.out p; rw [hs5.1] at this; omega) (by have:=vals_fewE HNb.out p; rw [hs6.1] at this; omega))
     clear hD hmm hc hp hs5 hs6
     go_wp2_with fail
     refine HDv.out.mono ?_
     intro e w5 hdv
     obtain ⟨v5,T5,rfl,hT5,hD5⟩:=hdv
     obtain ⟨xo,xc,rfl⟩:=row_slice hD5.row
     have HD5:=Lib.hid hD5
     have HT5:=Lib.hid hT5
     have hown:=own_below HD.out.row HD5.out.low
     have hsz5:wK.heap.size <= w5.heap.size:=Nat.le_trans HD.out.low.size HD5.out.low.size
     have hl2:T5.length <= 2:=by
      have h1:=congrArg List.length HT5.out
      unfold mmds at h1
      rw [List.length_map] at h1
      rw [h1]; exact dif1_len _ _ _
     clear hD5 hT5 HDv hl5 hl6
     go_wp2_with (at_builtin; go_must (refine push_mods w5 hown (.tmp 38) (.tmp 46) HD5.out.row HD5.out.one ?_ ?_ ?_ ?_ ?_ ?_ ?_; exact rfl; exact rfl; exact rfl; exact rfl; omega; exact hsz5; intro v6 w6' g1 g2 g3; obtain ⟨vo6,vc6,rfl⟩:=row_slice g1; have HI6:=Lib.hid (DfI.next hiK HD.out HT.out hTl HD5.out (by rw [HP.out]; exact HT5.out) g1 g2 g3); clear g1 g2 g3))
     go_roundw
     case rel=>exact ⟨i + 1,by omega,by go_num,HI6⟩
     case measure=>simp [intOf]; omega
    ·obtain rfl:i=k:=by omega
     have d1:¬ (i:Int) < (i:Int):=by omega
     go_wp2_with fail
     go_ret
     obtain ⟨T,hD,hmm,_⟩:=HI.out
     refine ⟨_,T,rfl, ?_,hD.lower HBK.out⟩
     rw [enD_yes HE.out.1 HE.out.2]
     unfold difL
     rw [HKd.out,hmm, <- HKl.out,List.take_length]
  ·have d1:(c2 != 0)=true:=by simpa using h2
   go_wp2_with fail
   go_ret
   exact ⟨_,[],rfl,by rw [enD_no (.inr (by rw [HE.out.2]; exact h2))]; rfl,DvI.nil HB2.out⟩
 ·have d1:(c1 != 0)=true:=by simpa using h1
  go_wp2_with fail
  go_ret
  exact ⟨_,[],rfl,by rw [enD_no (.inl (by rw [HE.out.1]; exact h1))]; rfl,DvI.nil HB1.out⟩
end Go.Proofs.YtmmdaegdkikkpaaGreatDoor
end
