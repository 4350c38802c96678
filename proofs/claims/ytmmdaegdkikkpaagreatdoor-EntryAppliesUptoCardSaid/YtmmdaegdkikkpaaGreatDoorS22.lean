/-
  Texts of the schema layer and of those beneath it, joined: SchVdR, EntNrm, EntVn, EntMod, SchLkL, SchSub, SchRsd. Conditions stand at each contract.
-/
import Derived.OneCell
import Derived.Test.YtmmdaegdkikkpaaGreatDoorS21
set_option linter.unusedVariables false
set_option linter.unusedSimpArgs false
set_option linter.unnecessarySimpa false

section
set_option maxRecDepth 100000
namespace Go.Proofs.YtmmdaegdkikkpaaGreatDoor
open Go.RowKit Go.PlainAid
set_option maxRecDepth 100000 in
set_option maxHeartbeats 2000000 in
theorem has7_s (ao:Option Addr) (n cap:Nat) (ps:List ByteArray) (s:ByteArray) (w:World) (h:StrsAt w ao n cap ps) :
  Calls Tryz.prog 143 #[.slice ao n cap, .string s] w fun e w'=>e = .returned (.bool (memB ps s)) /\ w=w':=by
 obtain ⟨h1,h2,h3,h4⟩:=h
 subst h1
 unfold maxLen at h3
 have H4:=Lib.hid h4; clear h4
 go_enter Tryz.func143,Tryz.ntmps143
 go_wp2
 go_loop [5] (fun i=>∃ k:Nat,k <= ps.length /\ i = .int .i64 k /\ Hid (∀ j,j < k -> partAt ps j ≠ s)) (fun i=>ps.length - (intOf i).toNat)
 case atStart=>exact ⟨0,Nat.zero_le _,rfl,Lib.hid (fun j hj=>absurd hj (Nat.not_lt_zero _))⟩
 case round =>
  obtain ⟨k,hk,rfl,HA⟩:=hrel
  by_cases hlt:k < ps.length
  ·obtain ⟨b,off,rfl,hs⟩:=H4.out (by omega)
   have hcell:=hs.2 k hlt
   clear hs
   obtain ⟨p,hpe⟩:∃ p,p=partAt ps k:=⟨_,rfl⟩
   rw [<- hpe] at hcell
   have HP:=Lib.hid hpe; clear hpe
   have d1:(k:Int) < (ps.length:Int):=by omega
   by_cases hps:p=s
   ·have q1:(p.toList == s.toList)=true:=by rw [str_eq]; exact decide_eq_true hps
    have HE:=Lib.hid (show memB ps s=true from memB_iff.2 (by
     rw [<- hps,HP.out]; unfold partAt
     rw [List.getD_eq_getElem?_getD,List.getElem?_eq_getElem hlt]; exact List.getElem_mem hlt))
    clear hps
    go_wp2_with fail
    go_ret
    exact ⟨by rw [HE.out]; rfl,rfl⟩
   ·have q1:(p.toList == s.toList)=false:=by rw [str_eq]; exact decide_eq_false hps
    have HN:=Lib.hid hps
    clear hps
    go_wp2_with fail
    go_round
    case rel =>
     refine ⟨k + 1,by omega,by go_num,Lib.hid fun j hj => ?_⟩
     by_cases e:j=k
     ·rw [e, <- HP.out]; exact HN.out
     ·exact HA.out j (by omega)
    case measure=>simp [intOf]; omega
  ·have HE:=Lib.hid (show memB ps s=false from Bool.eq_false_iff.2 fun hm0=>by
    obtain ⟨j,hj,e⟩:=List.getElem_of_mem (memB_iff.1 hm0)
    refine HA.out j (by omega) ?_
    unfold partAt
    rw [List.getD_eq_getElem?_getD,List.getElem?_eq_getElem hj]; exact e)
   go_wp2_with fail
   go_ret
   exact ⟨by rw [HE.out]; rfl,rfl⟩
theorem own_strs_new (w:World) (l:List ByteArray) (h:l.length <= maxLen):(w.alloc (.cells (scells l).toArray 9)).ownsRow w.heap.size 9 1 (.slice (some ⟨w.heap.size,0,none⟩) l.length l.length) l.length (scells l):=
 ⟨by simp [scells], .inr ⟨w.heap.size,l.length,(scells l).toArray,rfl,Nat.le_refl _,heap_alloc_new w _,Nat.le_refl _,h,by simp [scells],by simp [scells]; rw [List.take_of_length_le (by simp)]⟩⟩
theorem low_class:lowS classN=classN:=by decide +kernel
theorem vld_chk {T:List Ty} {C:List Cl} {l:List At} (h:chkA l ≠ 0):vldE T C l=chkA l:=if_pos h
theorem vld_at {T:List Ty} {C:List Cl} {l:List At} {j:Nat} (h:chkA l=0) (hj:j < l.length) (h0:∀ q,q < j -> chkAt T (atD l q)=0) (h1:chkAt T (atD l j) ≠ 0):vldE T C l=chkAt T (atD l j):=by
 unfold vldE
 have e:=firstE_hit (f:=fun j=>chkAt T (atD l j)) h0 h1 hj
 rw [if_neg (by rw [h]; simp),e,if_pos h1]
theorem vld_fit {T:List Ty} {C:List Cl} {l:List At} (h:chkA l=0) (h0:∀ q,q < l.length -> chkAt T (atD l q)=0):vldE T C l=if fitsB C l=true then 0 else 9:=by
 unfold vldE
 have e:=firstE_zero (f:=fun j=>chkAt T (atD l j)) h0
 rw [if_neg (by rw [h]; simp),e,if_neg (by simp)]
theorem chkAt_none {T:List Ty} {a:At} (h:tyOf T a.1=none):chkAt T a=6:=by unfold chkAt; rw [h]
theorem chkAt_val {T:List Ty} {a:At} {t:Ty} {k:Nat} (h:tyOf T a.1=some t) (hk:k < a.2.length) (h0:∀ q,q < k -> normE t.syn (partAt a.2 q)=0) (h1:normE t.syn (partAt a.2 k) ≠ 0):chkAt T a=8:=by
 have e:=firstE_hit (f:=fun j=>normE t.syn (partAt a.2 j)) h0 h1 hk
 have e8:normE t.syn (partAt a.2 k)=8:=by
  unfold normE at h1 ⊢
  split
  ·rename_i hs; rw [if_pos hs] at h1; exact absurd rfl h1
  ·rfl
 unfold chkAt valE
 rw [h]
 simp only
 rw [e,e8]; rfl
theorem chkAt_all {T:List Ty} {a:At} {t:Ty} (h:tyOf T a.1=some t) (h0:∀ q,q < a.2.length -> normE t.syn (partAt a.2 q)=0):chkAt T a=if t.single=true /\ 1 < a.2.length then 9 else 0:=by
 have e:=firstE_zero (f:=fun j=>normE t.syn (partAt a.2 j)) h0
 unfold chkAt valE
 rw [h]
 simp only
 rw [e,if_neg (by simp)]
theorem LightE.fewE {l:List At} (h:LightE l):FewE l:=
 ⟨h.few,fun a ha=>by have:=(h.each a ha).len; omega,⟨by have h1:=vals_len l (lowS classN); have h2:=h.few.vals; omega,vals_small h.small _⟩,by have h1:=names_len l; have h2:=h.len; omega⟩
structure VB (w W:World) (to:Option Addr) (tn tc:Nat) (co:Option Addr) (cn cc:Nat) (en:ByteArray) (ao:Option Addr) (n cap:Nat):Prop where
 s:Kb W w.heap.size (.cells #[.slice to tn tc, .slice co cn cc] 25)
 e:Kb W (w.heap.size + 1) (.cells #[.string en, .slice ao n cap] 37)
 low:Below w.heap.size w W
theorem VB.step {w W V:World} {to:Option Addr} {tn tc:Nat} {co:Option Addr} {cn cc:Nat} {en:ByteArray} {ao:Option Addr} {n cap:Nat} (h:VB w W to tn tc co cn cc en ao n cap) (hb:Below W.heap.size W V):VB w V to tn tc co cn cc en ao n cap:=
 ⟨h.s.step hb,h.e.step hb,h.low.trans (hb.mono h.low.size)⟩
theorem VB.cells {w W:World} {to:Option Addr} {tn tc:Nat} {co:Option Addr} {cn cc:Nat} {en:ByteArray} {ao:Option Addr} {n cap:Nat} (h:VB w W to tn tc co cn cc en ao n cap) :
  W.cell? ⟨w.heap.size,0,none⟩=some (.slice to tn tc) /\ W.cell? ⟨w.heap.size,1,none⟩=some (.slice co cn cc) /\ W.cell? ⟨w.heap.size + 1,1,none⟩=some (.slice ao n cap):=⟨h.s.cell rfl,h.s.cell rfl,h.e.cell rfl⟩
theorem vb_new (w:World) (to:Option Addr) (tn tc:Nat) (co:Option Addr) (cn cc:Nat) (en:ByteArray) (ao:Option Addr) (n cap:Nat):VB w ((w.alloc (.cells #[.slice to tn tc, .slice co cn cc] 25)).alloc (.cells #[.string en, .slice ao n cap] 37)) to tn tc co cn cc en ao n cap:=
 ⟨(kbl_new w _).step (below_al _ _),by have:=kbl_new (w.alloc (.cells #[.slice to tn tc, .slice co cn cc] 25)) (.cells #[.string en, .slice ao n cap] 37); simpa using this,(below_al _ _).trans ((below_al _ _).mono (by simp))⟩
set_option maxHeartbeats 16000000 in
theorem valid7_s (to:Option Addr) (tn tc:Nat) (co:Option Addr) (cn cc:Nat) (ts:List Ty) (cs:List Cl) (en:ByteArray) (ao:Option Addr) (n cap:Nat) (l:List At) (w:World) (h:SchV w (.agg #[.slice to tn tc, .slice co cn cc]) ts cs) (hl:AttrsAt w ao n cap l) (hF:LightE l) :
  Calls Tryz.prog 84 #[.agg #[.slice to tn tc, .slice co cn cc], .agg #[.string en, .slice ao n cap]] w fun e w'=>e = .returned (.int .i64 (vldE (soundT ts cs) (soundC ts cs) l)) /\ Below w.heap.size w w':=by
 have HV:=Lib.hid h
 have HA:=Lib.hid hl
 have HLt:=Lib.hid hF
 have hln:=hl.1
 have hcx:=hl.2.2.1
 unfold maxLen at hcx
 have hcn:=hl.2.1
 have HLen:=Lib.hid hln
 have HSm:=Lib.hid hF.small
 have HFw:=Lib.hid hF.fewE
 have HSC:=Lib.hid (sound_soundC ts cs)
 have HCL:=Lib.hid (Nat.le_trans (soundC_len ts cs) (show 32 <= 1000 by decide))
 have HFC:=Lib.hid (fewC_sound ts cs)
 have HB0:=Lib.hid (vb_new w to tn tc co cn cc en ao n cap)
 have HTy:=Lib.hid (fun nm W (hb:Below w.heap.size w W) (hn:nm.size <= 1000000000)=>type7_s _ ts cs nm W (h.below hb) hn)
 have HNr:=Lib.hid (fun nm s W (hb:Below w.heap.size w W) (hn:nm.size <= 1000000000) (hs:s.size <= 1100000)=>rnormal7_s _ ts cs nm s W (h.below hb) hn hs)
 have HLn:=Lib.hid (fun nm W (hb:Below w.heap.size w W) (hn:nm.size <= 1000000000)=>lineage7_s _ ts cs nm W (h.below hb) hn)
 have HMu:=Lib.hid (fun nm W (hb:Below w.heap.size w W) (hn:nm.size <= 1000000000)=>must7_s _ ts cs nm W (h.below hb) hn)
 have HMa:=Lib.hid (fun nm W (hb:Below w.heap.size w W) (hn:nm.size <= 1000000000)=>may7_s _ ts cs nm W (h.below hb) hn)
 have HCh:=Lib.hid (rcheck_s ao n cap l _ (hl.below HB0.out.low) hF.small)
 obtain ⟨T,hT⟩:∃ x,soundT ts cs=x:=⟨_,rfl⟩
 obtain ⟨C,hC⟩:∃ x,soundC ts cs=x:=⟨_,rfl⟩
 obtain ⟨ec,hec⟩:∃ x,chkA l=x:=⟨_,rfl⟩
 rw [hT] at HTy HNr ⊢
 rw [hC] at HLn HMu HMa HSC HCL HFC ⊢
 rw [hec] at HCh
 have HEc:=Lib.hid hec
 clear h hl hF hln hT hC hec
 obtain ⟨c0,c1,c2⟩:=HB0.out.cells
 go_enter Tryz.func84,Tryz.ntmps84
 go_wp2_with fail
 refine HCh.out.mono ?_
 rintro e w1 ⟨rfl,hb⟩
 have HB1:=Lib.hid (HB0.out.step hb)
 clear hb HCh c0 c1 c2 HB0
 obtain ⟨c0,c1,c2⟩:=HB1.out.cells
 by_cases h0:ec=0
 ·have d3:(ec != 0)=false:=by rw [h0]; rfl
  have d4:(ec == 0)=true:=by rw [h0]; rfl
  have HE0:=Lib.hid (HEc.out.trans h0)
  go_wp2_with fail
  clear d3 d4 h0
  go_loopw [6,7,8,9,10,11,12] (fun i s7 s8 s9 s10 s11 s12 wr=>∃ j:Nat,j <= n /\ i = .int .i64 j /\ Hid (∀ q,q < j -> chkAt T (atD l q)=0) /\ Hid (VB w wr to tn tc co cn cc en ao n cap)) (fun i _ _ _ _ _ _ _=>n - (intOf i).toNat)
  case atStart=>exact ⟨0,Nat.zero_le _,rfl,Lib.hid (fun q hq=>absurd hq (Nat.not_lt_zero _)),HB1⟩
  case round =>
   clear c0 c1 c2 HB1
   obtain ⟨j,hj,rfl,HQ,HBj⟩:=hrel
   obtain ⟨c0,c1,c2⟩:=HBj.out.cells
   by_cases hlt:j < n
   ·have e1:decide ((j:Int) < (n:Int))=true:=decide_eq_true (by omega)
    have e2:(0:Int) <= (j:Int):=by omega
    have e3:(j:Int) < (n:Int):=by omega
    have hjl:j < l.length:=by rw [HLen.out]; exact hlt
    obtain ⟨b,off,rfl,hbl,hs⟩:=(HA.out.below HBj.out.low).2.2.2 (by omega)
    obtain ⟨y0,vo,vn,vc,y1,hS⟩:=hs j hlt
    clear hs
    obtain ⟨hn0,hn1⟩:=HSm.out _ (at_mem l j hjl)
    have HBd:=Lib.hid (fun e (he:chkAt T (atD l j)=e) (h0:e ≠ 0)=>show vldE T C l=e by rw [vld_at HE0.out hjl HQ.out (by rw [he]; exact h0),he])
    obtain ⟨A,hA⟩:∃ x,atD l j=x:=⟨_,rfl⟩
    rw [hA] at y0 hS hn0 hn1 HBd
    have HAj:=Lib.hid hA
    clear hA
    obtain ⟨an,vs⟩:=A
    simp only at y0 hS hn0 hn1
    have hvl:=hS.1
    have HVl:=Lib.hid hvl
    have hvx:=hS.2.2.1
    unfold maxLen at hvx
    have hvc:=hS.2.1
    have HA1:Hid (Kb (wr.alloc (.cells #[.string an, .slice vo vn vc] 58)) wr.heap.size (.cells #[.string an, .slice vo vn vc] 58)):=Lib.hid (kbl_new _ _)
    have HBa:=Lib.hid (HBj.out.step (below_al wr (.cells #[.string an, .slice vo vn vc] 58)))
    have HS1:=Lib.hid (hS.below (below_al wr (.cells #[.string an, .slice vo vn vc] 58)))
    have HSv:=Lib.hid hn1
    have HCt:=Lib.hid (HTy.out an _ HBa.out.low (by omega))
    clear hS hn1 hvl hjl
    obtain ⟨d0,d1,d2⟩:=HBa.out.cells
    go_wp2_with fail
    refine HCt.out.mono ?_
    rintro e w2 ⟨rfl,hb⟩
    have HB2:=Lib.hid (HBa.out.step hb)
    have HA2:=Lib.hid (HA1.out.step hb)
    have HS2:=Lib.hid (HS1.out.below hb)
    clear hb HCt c0 c1 c2 d0 d1 d2 y0 y1 HA1 HBa HS1 HBj
    obtain ⟨ba,hba⟩:∃ x,wr.heap.size=x:=⟨_,rfl⟩
    rw [hba] at HA2 ⊢
    clear hba
    unfold tyV
    cases hty:tyOf T an with
    | none =>
     have HN:=Lib.hid (HBd.out 6 (chkAt_none hty) (by decide))
     clear hty
     dsimp only [Option.getD,Option.isSome,zeroTy]
     have HB3:=Lib.hid (HB2.out.step (below_al w2 (.cells #[.string ⟨#[]⟩, .int .i64 0, .bool false] 62)))
     go_wp2_with fail
     go_ret
     exact ⟨by rw [HN.out]; rfl,HB3.out.low⟩
    | some t =>
     obtain ⟨tp,x,sg⟩:=t
     have HTt:=Lib.hid hty
     clear hty
     dsimp only [Option.getD,Option.isSome]
     have HT3:Hid (Kb (w2.alloc (.cells #[.string tp, .int .i64 x, .bool sg] 62)) w2.heap.size (.cells #[.string tp, .int .i64 x, .bool sg] 62)):=Lib.hid (kbl_new _ _)
     have HB3:=Lib.hid (HB2.out.step (below_al w2 (.cells #[.string tp, .int .i64 x, .bool sg] 62)))
     have HA3:=Lib.hid (HA2.out.step (below_al w2 (.cells #[.string tp, .int .i64 x, .bool sg] 62)))
     have HS3:=Lib.hid (HS2.out.below (below_al w2 (.cells #[.string tp, .int .i64 x, .bool sg] 62)))
     have HNx:=Lib.hid (fun s=>show nrmE T an s=normE x s by unfold nrmE; rw [HTt.out])
     clear HB2 HA2 HS2
     go_wp2_with fail
     obtain ⟨bt,hbt⟩:∃ x,w2.heap.size=x:=⟨_,rfl⟩
     rw [hbt] at HT3 ⊢
     clear hbt
     generalize w2.alloc (.cells #[.string tp, .int .i64 x, .bool sg] 62)=W3 at HT3 HB3 HA3 HS3 ⊢
     go_loopw [10,11,12] (fun k s11 s12 wq=>∃ q:Nat,q <= vn /\ k = .int .i64 q /\ Hid (∀ p,p < q -> normE x (partAt vs p)=0) /\ Hid (Below W3.heap.size W3 wq)) (fun k _ _ _=>vn - (intOf k).toNat)
     case atStart=>exact ⟨0,Nat.zero_le _,rfl,Lib.hid (fun q hq=>absurd hq (Nat.not_lt_zero _)),Lib.hid (Below.refl _ _)⟩
     case round =>
      obtain ⟨q,hq,rfl,HP,HBq⟩:=hrel
      have HB4:=Lib.hid (HB3.out.step HBq.out)
      have HA4:=Lib.hid (HA3.out.step HBq.out)
      have HT4:=Lib.hid (HT3.out.step HBq.out)
      obtain ⟨c0,c1,c2⟩:=HB4.out.cells
      have a0:=HA4.out.cell (i:=0) rfl
      have a1:=HA4.out.cell (i:=1) rfl
      have t2:=HT4.out.cell (i:=2) rfl
      by_cases hqt:q < vn
      ·have g1:decide ((q:Int) < (vn:Int))=true:=decide_eq_true (by omega)
       have g0:(0:Int) <= (q:Int):=by omega
       have g3:(q:Int) < (vn:Int):=by omega
       obtain ⟨vb,voff,rfl,hvb,hvs⟩:=HS3.out.2.2.2 (by omega)
       have hvc3:=hvs q (by rw [HVl.out]; exact hqt)
       clear hvs
       have hvz:=HSv.out _ (part_mem vs q (by rw [HVl.out]; exact hqt))
       have HBv:=Lib.hid (fun (h1:normE x (partAt vs q) ≠ 0)=>HBd.out 8 (chkAt_val (a:=(an,vs)) HTt.out (by show q < vs.length; rw [HVl.out]; exact hqt) HP.out h1) (by decide))
       have HGo:=Lib.hid (fun (h1:normE x (partAt vs q)=0)=>show ∀ p,p < q + 1 -> normE x (partAt vs p)=0 from fun p hp=>by
        by_cases hpq:p=q
        ·rw [hpq]; exact h1
        ·exact HP.out p (by omega))
       obtain ⟨s,hs⟩:∃ y,partAt vs q=y:=⟨_,rfl⟩
       rw [hs] at hvc3 hvz HBv HGo
       clear hs
       have HVC:=Lib.hid hvc3
       clear hvc3
       have HCn:=Lib.hid (fun W4 (hb4:Below W3.heap.size W3 W4)=>HNr.out an s W4 (HB3.out.step hb4).low (by omega) (by omega))
       rw [HNx.out] at HCn
       obtain ⟨ev,hev⟩:∃ y,normE x s=y:=⟨_,rfl⟩
       rw [hev] at HCn HBv HGo
       clear hev
       have HSt:=Lib.hid (fun X (hb:Below W3.heap.size W3 X)=>show X.cell? ⟨w.heap.size,0,none⟩=some (.slice to tn tc) /\ X.cell? ⟨w.heap.size,1,none⟩=some (.slice co cn cc) /\ X.cell? ⟨ba,0,none⟩=some (.string an) /\ X.cell? ⟨ba,1,none⟩=some (.slice (some ⟨vb,voff,none⟩) vn vc) /\ X.cell? ⟨vb,voff + q,none⟩=some (.string s) /\ Hid (Below W3.heap.size W3 X) from
        ⟨(HB3.out.step hb).cells.1,(HB3.out.step hb).cells.2.1,(HA3.out.step hb).cell rfl,(HA3.out.step hb).cell rfl,cell_later hb HVC.out,Lib.hid hb⟩)
       go_wp2_with fail
       have S0:=HSt.out _ (HBq.out.trans (show Below W3.heap.size wr wr.drew from (Below.refl _ _).drew))
       clear c0 c1 c2 a0 a1 t2 HB4 HA4 HT4 HBq
       refine wp_region_held_drew (S:=fun X=>X.cell? ⟨w.heap.size,0,none⟩=some (.slice to tn tc) /\ X.cell? ⟨w.heap.size,1,none⟩=some (.slice co cn cc) /\ X.cell? ⟨ba,0,none⟩=some (.string an) /\ X.cell? ⟨ba,1,none⟩=some (.slice (some ⟨vb,voff,none⟩) vn vc) /\ X.cell? ⟨vb,voff + q,none⟩=some (.string s) /\ Hid (Below W3.heap.size W3 X)) (by kernel_rfl) (S0) (fun hS => ?_)
       refine rgT 0 (some 56) ?_
       refine rgT 1 (some 57) ?_
       refine rgT 2 (some 58) ?_
       refine rgT 3 (some 59) ?_
       refine rgT 4 (some 60) ?_
       refine rgT 5 (some 61) ?_
       refine rgT 6 (some 62) ?_
       refine rgT 7 (some 63) ?_
       refine rgC 8 (fun K hK => ?_)
       go_simp
       refine (HCn.out _ hS.2.2.2.2.2.out).mono ?_
       rintro e W5 ⟨rfl,hb⟩
       have HB5:=Lib.hid (hS.2.2.2.2.2.out.trans (hb.mono hS.2.2.2.2.2.out.size))
       go_wp2_with fail
       refine hK.out _ _ ?_ (fun hHeld => ?_)
       ·exact HSt.out _ HB5.out
       clear hK K
       try simp only [Act.put,lsA,lsZ,lsS]
       refine rgT 9 (some 55) ?_
       refine rgT 10 (some 65) ?_
       refine rgT 11 (some 66) ?_
       refine rgT 12 (some 11) ?_
       refine rgT 13 (some 12) ?_
       refine wpAnyH_done (by kernel_rfl) ?_ _
       by_cases hz:ev=0
       ·have d3:(ev != 0)=false:=by rw [hz]; rfl
        have HGn:=Lib.hid (HGo.out hz)
        clear hz
        go_wp2_with fail
        go_roundw
        case rel=>exact ⟨q + 1,by omega,by go_num,HGn,HB5⟩
        case measure=>simp [intOf]; omega
       ·have d3:(ev != 0)=true:=by simpa using hz
        have HN:=Lib.hid (HBv.out hz)
        have HBl:=Lib.hid (HB3.out.step HB5.out)
        go_wp2_with fail
        go_ret
        exact ⟨by rw [HN.out]; rfl,HBl.out.low⟩
      ·obtain rfl:vn=q:=by omega
       have g1:decide ((vn:Int) < (vn:Int))=false:=decide_eq_false (by omega)
       have HAl:=Lib.hid (chkAt_all (a:=(an,vs)) HTt.out (by show ∀ q,q < vs.length -> _; rw [HVl.out]; exact HP.out))
       have HV1:=Lib.hid (show (1 < vs.length)=(1 < vn) by rw [HVl.out])
       cases sg
       ·have HZ:=Lib.hid (show chkAt T (an,vs)=0 by rw [HAl.out,if_neg (fun h=>by cases h.1)])
        have HQ2:=Lib.hid (show ∀ q,q < j + 1 -> chkAt T (atD l q)=0 from fun q hq=>by
         by_cases e:q=j
         ·rw [e,HAj.out]; exact HZ.out
         ·exact HQ.out q (by omega))
        go_wp2_with fail
        go_roundw
        case rel=>exact ⟨j + 1,by omega,by go_num,HQ2,HB4⟩
        case measure=>simp [intOf]; omega
       ·by_cases h1v:1 < vn
        ·have k1:decide ((1:Int) < (vn:Int))=true:=decide_eq_true (by omega)
         have HN:=Lib.hid (HBd.out 9 (by rw [HAl.out,if_pos ⟨rfl,by show 1 < vs.length; rw [HVl.out]; exact h1v⟩]) (by decide))
         go_wp2_with fail
         go_ret
         exact ⟨by rw [HN.out]; rfl,HB4.out.low⟩
        ·have k1:decide ((1:Int) < (vn:Int))=false:=decide_eq_false (by omega)
         have HZ:=Lib.hid (show chkAt T (an,vs)=0 by rw [HAl.out,if_neg (fun h=>h1v (by have:=h.2; rw [HV1.out] at this; exact this))])
         have HQ2:=Lib.hid (show ∀ q,q < j + 1 -> chkAt T (atD l q)=0 from fun q hq=>by
          by_cases e:q=j
          ·rw [e,HAj.out]; exact HZ.out
          ·exact HQ.out q (by omega))
         go_wp2_with fail
         go_roundw
         case rel=>exact ⟨j + 1,by omega,by go_num,HQ2,HB4⟩
         case measure=>simp [intOf]; omega
   ·obtain rfl:n=j:=by omega
    have e1:decide ((n:Int) < (n:Int))=false:=decide_eq_false (by omega)
    have HFit:=Lib.hid (vld_fit (C:=C) HE0.out (by rw [HLen.out]; exact HQ.out))
    have HGt:=Lib.hid (rget_s ao n cap l classN wr (HA.out.below HBj.out.low) HFw.out.few (by decide))
    rw [low_class] at HGt
    obtain ⟨cls,hcls⟩:∃ x,vals l classN=x:=⟨_,rfl⟩
    obtain ⟨P,hP⟩:∃ x,names l=x:=⟨_,rfl⟩
    have HFt:=Lib.hid (show fitsB C l=(cls.all (askB C P) && (memB P classN && P.all (memB (allowL C cls)))) by unfold fitsB; rw [low_class,hcls,hP])
    have HCE:=Lib.hid (show memB P classN=true ↔ cls ≠ [] by rw [memB_iff, <- hP, <- hcls]; exact names_vals)
    have HCz:=Lib.hid (show cls.length <= 800 /\ ∀ v ∈ cls,v.size <= 1100000 by
     rw [<- hcls]
     refine ⟨?_,vals_small HSm.out _⟩
     have h1:=vals_len l classN
     have h2:=sumV_le (fun a ha=>(HLt.out.each a ha).len)
     have h3:=HLt.out.len
     omega)
    have HPz:=Lib.hid (show P.length <= 40 by rw [<- hP]; have h1:=names_len l; have h3:=HLt.out.len; omega)
    unfold classN at HGt
    rw [show vals l ⟨#[99,108,97,115,115]⟩=cls from hcls] at HGt
    clear hcls HQ HTy HNr
    go_wp2_with fail
    refine HGt.out.mono ?_
    rintro e w2 ⟨cv,rfl,⟨xo,xn,xc,rfl,hx⟩,hb⟩
    have HB2:=Lib.hid (HBj.out.step hb)
    have HX:=Lib.hid hx
    have hxl:=hx.1
    have hxx:=hx.2.2.1
    unfold maxLen at hxx
    have hxc:=hx.2.1
    have HXl:=Lib.hid hxl
    have HNs:=Lib.hid (rnames_s ao n cap l w2 (HA.out.below HB2.out.low) HFw.out.few)
    rw [hP] at HNs
    clear hb hx hP HGt c0 c1 c2 HBj hxl
    obtain ⟨c0,c1,c2⟩:=HB2.out.cells
    go_wp2_with fail
    refine HNs.out.mono ?_
    rintro e w3 ⟨nv,rfl,⟨zo,zn,zc,rfl,hz⟩,hb⟩
    have HB3:=Lib.hid (HB2.out.step hb)
    have HX3:=Lib.hid (HX.out.below hb)
    have HZ:=Lib.hid hz
    have hzl:=hz.1
    have hzx:=hz.2.2.1
    unfold maxLen at hzx
    have hzc:=hz.2.1
    have HZl:=Lib.hid hzl
    clear hb hz HNs c0 c1 c2 HB2 HX hzl
    have HOw:Hid ((w3.alloc (.cells #[.string ⟨#[99,108,97,115,115]⟩] 9)).ownsRow w3.heap.size 9 1 (.slice (some ⟨w3.heap.size,0,none⟩) 1 1) 1 (scells [classN])):=Lib.hid (own_strs_new w3 [classN] (by unfold maxLen; decide))
    have HBal:=Lib.hid (below_al w3 (.cells #[.string ⟨#[99,108,97,115,115]⟩] 9))
    go_wp2_with fail
    generalize w3.alloc (.cells #[.string ⟨#[99,108,97,115,115]⟩] 9)=W3 at HOw HBal ⊢
    go_loopw [15,16,17,18,19] (fun s15 i s17 s18 s19 wq=>∃ (k:Nat) (ro:Option Addr) (rc N:Nat),N <= 1 + k * 128000 /\ s15 = .slice ro N rc /\ i = .int .i64 k /\ k <= xn /\ Hid (wq.ownsRow w3.heap.size 9 1 (.slice ro N rc) N (scells (allowL C (cls.take k)))) /\ Hid ((cls.take k).all (askB C P)=true) /\ Hid (Below w3.heap.size w3 wq)) (fun _ i _ _ _ _=>xn - (intOf i).toNat)
    case atStart=>exact ⟨0,some ⟨w3.heap.size,0,none⟩,1,1,by omega,rfl,rfl,Nat.zero_le _,Lib.hid (by rw [List.take_zero]; exact HOw.out),Lib.hid (by rw [List.take_zero]; rfl),HBal⟩
    case round =>
     clear HOw HBal
     obtain ⟨k,ro,rc,N,hN,rfl,rfl,hk,HO,HAs,HBq⟩:=hrel
     have HB4:=Lib.hid (HB3.out.step HBq.out)
     obtain ⟨c0,c1,c2⟩:=HB4.out.cells
     have hsz3:=HBq.out.size
     by_cases hkt:k < xn
     ·have g1:decide ((k:Int) < (xn:Int))=true:=decide_eq_true (by omega)
      have g0:(0:Int) <= (k:Int):=by omega
      have g3:(k:Int) < (xn:Int):=by omega
      have hkl:k < cls.length:=by rw [HXl.out]; exact hkt
      obtain ⟨xb,xoff,rfl,hxb,hxs⟩:=(HX3.out.below HBq.out).2.2.2 (by omega)
      have hxcell:=hxs k hkl
      clear hxs
      have hvz:=HCz.out.2 _ (part_mem cls k hkl)
      have HFls:=Lib.hid (fun (h:askB C P (partAt cls k)=false)=>show vldE T C l=9 by rw [HFit.out,HFt.out,all_false hkl h]; rfl)
      have HTru:=Lib.hid (fun (h:askB C P (partAt cls k)=true)=>show (cls.take (k + 1)).all (askB C P)=true from all_take HAs.out hkl h)
      have HAll:=Lib.hid (allowL_take C cls k hkl)
      obtain ⟨s,hs⟩:∃ y,partAt cls k=y:=⟨_,rfl⟩
      rw [hs] at hxcell hvz HFls HTru HAll
      clear hs
      have HFo:=Lib.hid (rFold_s s wr (by omega))
      have hfz:=foldS_size s
      obtain ⟨f,hf⟩:∃ y,foldS s=y:=⟨_,rfl⟩
      have HAk:=Lib.hid (show askB C P s=((clOf C f).isSome && (mustS C f).all (memB P)) by unfold askB; rw [hf])
      rw [hf] at HFo hfz HAll
      clear hf
      go_wp2_with fail
      refine HFo.out.mono ?_
      rintro e w5 ⟨rfl,hb⟩
      have HB5:=Lib.hid (HBq.out.trans (hb.mono HBq.out.size))
      have HO5:=Lib.hid (own_below HO.out hb)
      have HVB5:=Lib.hid (HB3.out.step HB5.out)
      clear hb hxcell c0 c1 c2 HO HB4 HBq HFo
      obtain ⟨c0,c1,c2⟩:=HVB5.out.cells
      have HLi:=Lib.hid (HLn.out f w5 HVB5.out.low (by omega))
      go_wp2_with fail
      refine HLi.out.mono ?_
      rintro e w6 ⟨io,ic,ks,rfl,_,_,hmap,_,_,hb⟩
      have HB6:=Lib.hid (HB5.out.trans (hb.mono HB5.out.size))
      have HO6:=Lib.hid (own_below HO5.out hb)
      have HVB6:=Lib.hid (HB3.out.step HB6.out)
      have HMp:=Lib.hid hmap
      clear hb hmap HLi c0 c1 c2 HO5 HB5 HVB5
      obtain ⟨c0,c1,c2⟩:=HVB6.out.cells
      by_cases hk0:ks.length=0
      ·have k1:((ks.length:Int) == 0)=true:=by rw [hk0]; rfl
       have HN:=Lib.hid (HFls.out (by
        rw [HAk.out]
        have h1:lineS C f = []:=by rw [<- HMp.out,List.length_eq_zero_iff.1 hk0]; rfl
        cases hcl:clOf C f with
        | none=>rfl
        | some c=>rw [lineS_step HSC.out hcl] at h1; cases h1))
       go_wp2_with fail
       go_ret
       exact ⟨by rw [HN.out]; rfl,HVB6.out.low⟩
      ·have k1:((ks.length:Int) == 0)=false:=beq_false_of_ne (by omega)
       have HSo:=Lib.hid (show (clOf C f).isSome=true by
        cases hcl:clOf C f with
        | none=>rw [lineS_none hcl] at HMp; exact absurd (by have:=congrArg List.length HMp.out; simpa using this) hk0
        | some c=>rfl)
       have HMt:=Lib.hid (HMu.out f w6 HVB6.out.low (by omega))
       obtain ⟨M,hM⟩:∃ y,mustS C f=y:=⟨_,rfl⟩
       rw [hM] at HMt HAk
       clear hM hk0
       go_wp2_with fail
       refine HMt.out.mono ?_
       rintro e w7 ⟨mo,mc,rfl,hmo,hb⟩
       have HB7:=Lib.hid (HB6.out.trans (hb.mono HB6.out.size))
       have HO7:=Lib.hid (own_below HO6.out hb)
       have HVB7:=Lib.hid (HB3.out.step HB7.out)
       obtain ⟨mo',mc',e,hst⟩:=strs_own hmo rfl
       simp only [Value.slice.injEq] at e
       obtain ⟨rfl,_,rfl⟩:=e
       have HMs:=Lib.hid hst
       have hmx:=hst.2.2.1
       unfold maxLen at hmx
       have hmc:=hst.2.1
       have HZ7:=Lib.hid (HZ.out.below HB7.out)
       clear hb hmo hst HMt c0 c1 c2 HO6 HB6 HVB6 k1
       go_wp2_with fail
       go_loop [19] (fun r=>∃ q:Nat,q <= M.length /\ r = .int .i64 q /\ Hid ((M.take q).all (memB P)=true)) (fun r=>M.length - (intOf r).toNat)
       case atStart=>exact ⟨0,Nat.zero_le _,rfl,Lib.hid (by rw [List.take_zero]; rfl)⟩
       case round =>
        obtain ⟨q,hq,rfl,HMq⟩:=hrel
        obtain ⟨c0,c1,c2⟩:=HVB7.out.cells
        by_cases hqt:q < M.length
        ·have r1:decide ((q:Int) < (M.length:Int))=true:=decide_eq_true (by omega)
         have r0:(0:Int) <= (q:Int):=by omega
         have r3:(q:Int) < (M.length:Int):=by omega
         obtain ⟨mb,moff,rfl,hmb,hms⟩:=HMs.out.2.2.2 (by omega)
         have hmcell:=hms q hqt
         clear hms
         have HHs:=Lib.hid (has7_s zo zn zc P (partAt M q) w7 HZ7.out)
         have HNo:=Lib.hid (fun (h:memB P (partAt M q)=false)=>HFls.out (by rw [HAk.out,all_false hqt h,Bool.and_false]))
         have HYe:=Lib.hid (fun (h:memB P (partAt M q)=true)=>show (M.take (q + 1)).all (memB P)=true from all_take HMq.out hqt h)
         obtain ⟨y,hy⟩:∃ y,partAt M q=y:=⟨_,rfl⟩
         rw [hy] at hmcell HHs HNo HYe
         obtain ⟨bb,hbb⟩:∃ z,memB P y=z:=⟨_,rfl⟩
         rw [hbb] at HHs HNo HYe
         clear hy hbb
         go_wp2_with fail
         refine HHs.out.mono ?_
         rintro e w' ⟨rfl,rfl⟩
         cases bb
         ·have HN:=Lib.hid (HNo.out rfl)
          go_wp2_with fail
          go_ret
          exact ⟨by rw [HN.out]; rfl,HVB7.out.low⟩
         ·have HY:=Lib.hid (HYe.out rfl)
          go_wp2_with fail
          go_round
          case rel=>exact ⟨q + 1,by omega,by go_num,HY⟩
          case measure=>simp [intOf]; omega
        ·obtain rfl:M.length=q:=by omega
         have r1:decide ((M.length:Int) < (M.length:Int))=false:=decide_eq_false (by omega)
         have HAk2:=Lib.hid (HTru.out (by rw [HAk.out,HSo.out]; have:=HMq.out; rw [List.take_length] at this; rw [this]; rfl))
         have HMy:=Lib.hid (HMa.out f w7 HVB7.out.low (by omega))
         have hfew:=mayS_few HSC.out HCL.out HFC.out f
         obtain ⟨Y,hY⟩:∃ y,mayS C f=y:=⟨_,rfl⟩
         rw [hY] at HMy HAll hfew
         clear hY
         go_wp2_with fail
         refine HMy.out.mono ?_
         rintro e w8 ⟨yo,yc,rfl,hyo,hb⟩
         have HB8:=Lib.hid (HB7.out.trans (hb.mono HB7.out.size))
         have HO8:=Lib.hid (own_below HO7.out hb)
         obtain ⟨yo',yc',e,hst⟩:=strs_own hyo rfl
         simp only [Value.slice.injEq] at e
         obtain ⟨rfl,_,rfl⟩:=e
         have HYs:=Lib.hid hst
         have hsz8:=HB8.out.size
         have hcl800:=HCz.out.1
         have hxcl:=HXl.out
         clear hb hyo hst HMy c0 c1 c2
         go_wp2_with (at_builtin; go_must (refine push_strs w8 HO8.out (.tmp 116) (.tmp 119) HYs.out ?_ ?_ ?_ ?_ ?_ ?_ ?_; exact rfl; exact rfl; exact rfl; exact rfl; omega; exact hsz8; intro v9 w9 hown9 hg9 _; have HB9:=Lib.hid (HB8.out.grown hg9 hsz8 (fun k hk=>(HO8.out.lt k hk).1)); obtain ⟨ao9,cap9,rfl⟩:=own_slc hown9; have HO9:=Lib.hid hown9; clear hown9 hg9))
         have HOn:=Lib.hid (show w9.ownsRow w3.heap.size 9 1 (.slice ao9 (N + Y.length) cap9) (N + Y.length) (scells (allowL C (cls.take (k + 1)))) by
          rw [HAll.out,scells_app]; exact HO9.out)
         clear hxcl hcl800
         go_roundw
         case rel=>exact ⟨k + 1,ao9,cap9,N + Y.length,by omega,rfl,by go_num,by omega,HOn,HAk2,HB9⟩
         case measure=>simp [intOf]; omega
     ·obtain rfl:xn=k:=by omega
      have g1:decide ((xn:Int) < (xn:Int))=false:=decide_eq_false (by omega)
      have HAl:=Lib.hid (show cls.all (askB C P)=true by have:=HAs.out; rwa [List.take_of_length_le (by rw [HXl.out]; exact Nat.le_refl _)] at this)
      obtain ⟨AL,hAL⟩:∃ y,allowL C cls=y:=⟨_,rfl⟩
      have hO:=HO.out
      rw [List.take_of_length_le (by rw [HXl.out]; exact Nat.le_refl _),hAL] at hO
      have hNL:AL.length=N:=by
       have:=hO.1
       unfold scells at this
       rw [List.length_map] at this
       omega
      obtain ⟨ro',rc',e,hst⟩:=strs_own hO hNL
      simp only [Value.slice.injEq] at e
      obtain ⟨rfl,_,rfl⟩:=e
      have HAs2:=Lib.hid hst
      have HFt2:=Lib.hid (show fitsB C l=(memB P classN && P.all (memB AL)) by rw [HFt.out,HAl.out,hAL,Bool.true_and])
      have HZ4:=Lib.hid (HZ.out.below HBq.out)
      clear hO hst hAL c0 c1 c2
      go_wp2_with fail
      go_loop [20] (fun r=>∃ q:Nat,q <= zn /\ r = .int .i64 q /\ Hid ((P.take q).all (memB AL)=true)) (fun r=>zn - (intOf r).toNat)
      case atStart=>exact ⟨0,Nat.zero_le _,rfl,Lib.hid (by rw [List.take_zero]; rfl)⟩
      case round =>
       obtain ⟨q,hq,rfl,HPq⟩:=hrel
       by_cases hqt:q < zn
       ·have r1:decide ((q:Int) < (zn:Int))=true:=decide_eq_true (by omega)
        have r0:(0:Int) <= (q:Int):=by omega
        have r3:(q:Int) < (zn:Int):=by omega
        have hql:q < P.length:=by rw [HZl.out]; exact hqt
        obtain ⟨zb,zoff,rfl,hzb,hzs⟩:=HZ4.out.2.2.2 (by omega)
        have hzcell:=hzs q hql
        clear hzs
        have HHs:=Lib.hid (has7_s ro N rc AL (partAt P q) wr HAs2.out)
        have HNo:=Lib.hid (fun (h:memB AL (partAt P q)=false)=>show vldE T C l=9 by rw [HFit.out,HFt2.out,all_false hql h,Bool.and_false]; rfl)
        have HYe:=Lib.hid (fun (h:memB AL (partAt P q)=true)=>show (P.take (q + 1)).all (memB AL)=true from all_take HPq.out hql h)
        obtain ⟨y,hy⟩:∃ y,partAt P q=y:=⟨_,rfl⟩
        rw [hy] at hzcell HHs HNo HYe
        obtain ⟨bb,hbb⟩:∃ z,memB AL y=z:=⟨_,rfl⟩
        rw [hbb] at HHs HNo HYe
        clear hy hbb
        go_wp2_with fail
        refine HHs.out.mono ?_
        rintro e w' ⟨rfl,rfl⟩
        cases bb
        ·have HN:=Lib.hid (HNo.out rfl)
         go_wp2_with fail
         go_ret
         exact ⟨by rw [HN.out]; rfl,HB4.out.low⟩
        ·have HY:=Lib.hid (HYe.out rfl)
         go_wp2_with fail
         go_round
         case rel=>exact ⟨q + 1,by omega,by go_num,HY⟩
         case measure=>simp [intOf]; omega
       ·obtain rfl:zn=q:=by omega
        have r1:decide ((zn:Int) < (zn:Int))=false:=decide_eq_false (by omega)
        have HPa:=Lib.hid (show P.all (memB AL)=true by have:=HPq.out; rwa [List.take_of_length_le (by rw [HZl.out]; exact Nat.le_refl _)] at this)
        by_cases hx0:xn=0
        ·have k1:((xn:Int) == 0)=true:=by rw [hx0]; rfl
         have HN:=Lib.hid (show vldE T C l=9 by
          rw [HFit.out,HFt2.out]
          have:memB P classN=false:=by
           cases hm:memB P classN with
           | false=>rfl
           | true=>exact absurd (List.length_eq_zero_iff.1 (by rw [HXl.out]; exact hx0)) (HCE.out.1 hm)
          rw [this]; rfl)
         go_wp2_with fail
         go_ret
         exact ⟨by rw [HN.out]; rfl,HB4.out.low⟩
        ·have k1:((xn:Int) == 0)=false:=beq_false_of_ne (by omega)
         have HN:=Lib.hid (show vldE T C l=0 by
          rw [HFit.out,HFt2.out,HPa.out,HCE.out.2 (fun e=>hx0 (by rw [<- HXl.out,e]; rfl))]; rfl)
         go_wp2_with fail
         go_ret
         exact ⟨by rw [HN.out]; rfl,HB4.out.low⟩
 ·have d3:(ec != 0)=true:=by simpa using h0
  have d4:(ec == 0)=false:=by simpa using h0
  have HN:=Lib.hid (show vldE T C l=ec by rw [vld_chk (by rw [HEc.out]; exact h0),HEc.out])
  go_wp2_with fail
  go_ret
  exact ⟨by rw [HN.out]; rfl,HB1.out.low⟩
def enE (T:List Ty) (cs:List Cl) (en:ByteArray) (l:List At):Int:=if Nam.cleanE en ≠ 0 ∨ Nam.cleanV en=⟨#[]⟩ then 5 else if chkA l ≠ 0 then chkA l else if nmE T (nf l) ≠ 0 then nmE T (nf l) else vldE T cs (nmL T (nf l))
def enN (T:List Ty) (cs:List Cl) (en:ByteArray) (l:List At):ByteArray:=if enE T cs en l=0 then Nam.cleanV en else ⟨#[]⟩
def enL (T:List Ty) (cs:List Cl) (en:ByteArray) (l:List At):List At:=if enE T cs en l=0 then nmL T (nf l) else []
def EnV (w:World) (v:Value) (en:ByteArray) (l:List At):Prop := ∃ ao n cap,v = .agg #[.string en, .slice ao n cap] /\ AttrsAt w ao n cap l
theorem EnV.below {w w':World} {v:Value} {en:ByteArray} {l:List At} (h:EnV w v en l) (hb:Below w.heap.size w w'):EnV w' v en l:=by
 obtain ⟨ao,n,cap,e,k⟩:=h
 exact ⟨ao,n,cap,e,k.below hb⟩
theorem env_nil (w:World):EnV w (.agg #[.string ⟨#[]⟩, .slice none 0 0]) ⟨#[]⟩ []:=⟨none,0,0,rfl,rfl,Nat.le_refl _,by unfold maxLen; omega,fun h=>absurd h (Nat.lt_irrefl _)⟩
def EnP (T:List Ty) (cs:List Cl) (en:ByteArray) (l:List At) (w:World) (e:Ending) (w':World):Prop:=
 ∃ v,e = .returned (.tuple #[v, .int .i64 (enE T cs en l)]) /\ EnV w' v (enN T cs en l) (enL T cs en l) /\ Below w.heap.size w w'
theorem EnP.no {T:List Ty} {cs:List Cl} {en:ByteArray} {l:List At} {w w':World} {c:Int} (h:enE T cs en l=c) (h0:c ≠ 0) (hb:Below w.heap.size w w'):EnP T cs en l w (.returned (.tuple #[.agg #[.string ⟨#[]⟩, .slice none 0 0], .int .i64 c])) w':=by
 subst h
 refine ⟨_,rfl, ?_,hb⟩
 unfold enN enL
 rw [if_neg h0,if_neg h0]
 exact env_nil _
theorem enE_name {T:List Ty} {cs:List Cl} {en:ByteArray} {l:List At} (h:Nam.cleanE en ≠ 0 ∨ Nam.cleanV en=⟨#[]⟩):enE T cs en l=5:=if_pos h
theorem enE_chk {T:List Ty} {cs:List Cl} {en:ByteArray} {l:List At} {c:Int} (h:¬ (Nam.cleanE en ≠ 0 ∨ Nam.cleanV en=⟨#[]⟩)) (hc:chkA l=c) (h0:c ≠ 0):enE T cs en l=c:=by
 subst hc
 unfold enE; rw [if_neg h,if_pos h0]
theorem enE_nm {T:List Ty} {cs:List Cl} {en:ByteArray} {l:List At} {c:Int} (h:¬ (Nam.cleanE en ≠ 0 ∨ Nam.cleanV en=⟨#[]⟩)) (hc:chkA l=0) (hn:nmE T (nf l)=c) (h0:c ≠ 0):enE T cs en l=c:=by
 subst hn
 unfold enE; rw [if_neg h,if_neg (by simp [hc]),if_pos h0]
theorem enE_vld {T:List Ty} {cs:List Cl} {en:ByteArray} {l:List At} {c:Int} (h:¬ (Nam.cleanE en ≠ 0 ∨ Nam.cleanV en=⟨#[]⟩)) (hc:chkA l=0) (hn:nmE T (nf l)=0) (hv:vldE T cs (nmL T (nf l))=c):enE T cs en l=c:=by
 subst hv
 unfold enE; rw [if_neg h,if_neg (by simp [hc]),if_neg (by simp [hn])]
theorem EnP.yes {T:List Ty} {cs:List Cl} {en:ByteArray} {l:List At} {w w':World} {cl:ByteArray} {L:List At} {ao:Option Addr} {n cap:Nat} (h:enE T cs en l=0) (hc:Nam.cleanV en=cl) (hL:nmL T (nf l)=L) (ha:AttrsAt w' ao n cap L) (hb:Below w.heap.size w w') :
  EnP T cs en l w (.returned (.tuple #[.agg #[.string cl, .slice ao n cap], .int .i64 0])) w':=by
 subst hc hL
 refine ⟨_,by rw [h], ?_,hb⟩
 unfold enN enL
 rw [if_pos h,if_pos h]
 exact ⟨ao,n,cap,rfl,ha⟩
theorem chk_light {l:List At} (h:chkA l=0):LightE l:=by
 have k:=chk_ok h
 refine ⟨by have:=k.len; omega,fun a ha => ?_⟩
 obtain ⟨h1,h2,h3⟩:=k.each a ha
 exact ⟨by have:=name_sz h1; omega,by omega,fun v hv=>by have:=clean_sz (h3.clean v hv); omega⟩
theorem tats_at {T:List Tr} {j:Nat} (h:j < T.length):atD (tats T) j=((T.getD j default).1,(T.getD j default).2.2):=by
 rw [at_get _ _ (by rw [tats_len]; exact h)]
 unfold tats
 rw [List.getElem_map,List.getD_eq_getElem?_getD,List.getElem?_eq_getElem h]; rfl
structure NmI (T:List Ty) (L:List At) (w:World) (b9 base:Nat) (cl:ByteArray) (sch:Obj) (ao:Option Addr) (n cap i:Nat) (U:List Tr) (wr:World):Prop where
 kS:Kb wr w.heap.size sch
 kR:Kb wr (w.heap.size + 2) (.cells #[.string ⟨#[]⟩, .slice none 0 0] 37)
 kN:Kb wr b9 (.cells #[.string cl, .slice ao n cap] 37)
 len:U.length=n
 row:wr.ownsRow base 58 2 (.slice ao n cap) n (tcells U)
 own:TOwn wr base (.slice ao n cap) U
 done:tats U=nmL T (L.take i) ++ L.drop i
 zero:∀ q,q < i -> nvE T (atD L q).1 (atD L q).2=0
 low:Below w.heap.size w wr
 apart:∀ g,ao=some ⟨g,0,none⟩ -> g ≠ b9
 big:w.heap.size + 3 <= base /\ w.heap.size + 3 <= b9 /\ base <= b9
theorem NmI.below {T:List Ty} {L:List At} {w:World} {b9 base:Nat} {cl:ByteArray} {sch:Obj} {ao:Option Addr} {n cap i:Nat} {U:List Tr} {wr V:World} (h:NmI T L w b9 base cl sch ao n cap i U wr) (hb:Below wr.heap.size wr V):NmI T L w b9 base cl sch ao n cap i U V:=
 ⟨h.kS.step hb,h.kR.step hb,h.kN.step hb,h.len,own_below h.row hb,h.own.below hb,h.done,h.zero,h.low.trans (hb.mono h.low.size),h.apart,h.big⟩
theorem nm_step {T:List Ty} {L:List At} {i:Nat} {U:List Tr} (hi:i < L.length) (hd:tats U=nmL T (L.take i) ++ L.drop i) (u:Value) :
  tats (U.set i ((atD L i).1,u,sortU (fmsL T (atD L i).1 (atD L i).2)))=nmL T (L.take (i + 1)) ++ L.drop (i + 1):=by
 have h1:tats (U.set i ((atD L i).1,u,sortU (fmsL T (atD L i).1 (atD L i).2)))=(tats U).set i ((atD L i).1,sortU (fmsL T (atD L i).1 (atD L i).2)):=by
  unfold tats; rw [List.map_set]
 have h2:(nmL T (L.take i)).length=i:=by rw [nm_len,List.length_take]; omega
 rw [h1,hd,List.set_append_right _ _ (by omega),h2,Nat.sub_self,at_take L i hi]
 unfold nmL
 rw [List.map_append,List.append_assoc]
 congr 1
 rw [List.drop_eq_getElem_cons hi,List.set_cons_zero]; rfl
theorem tcells_set {U:List Tr} {i:Nat} (hi:i < U.length) (p:ByteArray) (hp:(U.getD i default).1=p) (u:Value) (vs:List ByteArray):(tcells U).set (i * 2 + 1) u=tcells (U.set i (p,u,vs)):=by
 induction U generalizing i with
 | nil=>exact absurd hi (Nat.not_lt_zero _)
 | cons t U ih =>
  cases i with
  | zero =>
   have:t.1=p:=hp
   subst this
   rfl
  | succ i =>
   rw [show (i + 1) * 2 + 1=(i * 2 + 1) + 1 + 1 by omega,tcells_cons,List.set_cons_succ,List.set_cons_succ,List.set_cons_succ,tcells_cons,ih (by simpa using hi) (by simpa using hp)]
theorem etc_at {U:List Tr} {i:Nat} (hi:i < U.length):(tcells U)[i * 2]? = some (.string (U.getD i default).1) /\ (tcells U)[i * 2 + 1]? = some (U.getD i default).2.1:=by
 induction U generalizing i with
 | nil=>exact absurd hi (Nat.not_lt_zero _)
 | cons t U ih =>
  cases i with
  | zero=>exact ⟨rfl,rfl⟩
  | succ i =>
   have:=ih (i:=i) (by simpa using hi)
   rw [show (i + 1) * 2=i * 2 + 1 + 1 by omega,tcells_cons]
   exact this
theorem NmI.same {T:List Ty} {L:List At} {w:World} {b9 base:Nat} {cl:ByteArray} {sch:Obj} {ao:Option Addr} {n cap i:Nat} {U:List Tr} {wr:World} (h:NmI T L w b9 base cl sch ao n cap i U wr) (hL:L.length=n) (hi:i < n):(U.getD i default).1=(atD L i).1 /\ (U.getD i default).2.2=(atD L i).2:=by
 have hiU:i < U.length:=by rw [h.len]; exact hi
 have h1:=tats_at hiU
 rw [h.done] at h1
 have h2:(nmL T (L.take i)).length=i:=by rw [nm_len,List.length_take]; omega
 have h3:atD (nmL T (L.take i) ++ L.drop i) i=atD L i:=by
  unfold atD
  rw [List.getD_eq_getElem?_getD,List.getElem?_append_right (by omega),h2,Nat.sub_self,List.getElem?_drop,Nat.add_zero, <- List.getD_eq_getElem?_getD]
 rw [h3] at h1
 rw [h1]
 exact ⟨rfl,rfl⟩
theorem NmI.cell {T:List Ty} {L:List At} {w:World} {b9 base g:Nat} {cl:ByteArray} {sch:Obj} {n cap i:Nat} {U:List Tr} {wr:World} (h:NmI T L w b9 base cl sch (some ⟨g,0,none⟩) n cap i U wr) (hL:L.length=n) (hi:i < n) :
  ∃ vo vc,wr.cell? ⟨g,i * 2,none⟩=some (.string (atD L i).1) /\ wr.cell? ⟨g,i * 2 + 1,none⟩=some (.slice vo (atD L i).2.length vc) /\ StrsAt wr vo (atD L i).2.length vc (atD L i).2:=by
 have hiU:i < U.length:=by rw [h.len]; exact hi
 obtain ⟨s1,s2⟩:=h.same hL hi
 have hm:U.getD i default ∈ U:=by
  rw [List.getD_eq_getElem?_getD,List.getElem?_eq_getElem hiU]; exact List.getElem_mem _
 obtain ⟨vo,vc,e,hst⟩:=strs_own (h.own _ hm).1 rfl
 obtain ⟨c1,c2⟩:=etc_at hiU
 have k1:=h.row.cells (g:=g) rfl _ _ c1
 have k2:=h.row.cells (g:=g) rfl _ _ c2
 rw [Go.WideShapes.add_plain,Nat.zero_add] at k1 k2
 rw [s1] at k1
 rw [e,s2] at k2
 rw [s2] at hst
 exact ⟨vo,vc,k1,k2,hst⟩
theorem TOwn.set {W:World} {base:Nat} {v:Value} {U:List Tr} (h:TOwn W base v U) {a:Addr} (ha:a.block < base) (u:Value):TOwn (W.setCell a u) base v U:=fun t ht=>⟨ownsRow_setCell_below (h t ht).1 ha u,(h t ht).2⟩
theorem own_atts {W:World} {base m sc:Nat} {so:Option Addr} {U:List Tr} (hr:W.ownsRow base 58 2 (.slice so m sc) m (tcells U)) (ho:TOwn W base (.slice so m sc) U):AttrsAt W so m sc (tats U):=by
 obtain ⟨ao,n,cap,e,h⟩:=atts_own hr ho.ok
 simp only [Value.slice.injEq] at e
 obtain ⟨rfl,rfl,rfl⟩:=e
 exact h
theorem NmI.store {T:List Ty} {L:List At} {w:World} {b9 base g:Nat} {cl:ByteArray} {sch:Obj} {n cap i:Nat} {U:List Tr} {wr:World} (h:NmI T L w b9 base cl sch (some ⟨g,0,none⟩) n cap i U wr) (hL:L.length=n) (hi:i < n) (u:Value)
  (hu:wr.ownsRow base 9 1 u (sortU (fmsL T (atD L i).1 (atD L i).2)).length (scells (sortU (fmsL T (atD L i).1 (atD L i).2)))) (hne:u.ownBlock=none ∨ u.ownBlock ≠ some g) (hz:nvE T (atD L i).1 (atD L i).2=0) :
  NmI T L w b9 base cl sch (some ⟨g,0,none⟩) n cap (i + 1) (U.set i ((atD L i).1,u,sortU (fmsL T (atD L i).1 (atD L i).2))) (wr.setCell ⟨g,i * 2 + 1,none⟩ u):=by
 obtain ⟨s1,s2⟩:=h.row.stored (i * 2 + 1) u
 have hgb:base <= g:=(h.row.lt g rfl).1
 have hiU:i < U.length:=by rw [h.len]; exact hi
 have hp:=(h.same hL hi).1
 have hk:∀ {b:Nat} {o:Obj},Kb wr b o -> b ≠ g -> Kb (wr.setCell ⟨g,i * 2 + 1,none⟩ u) b o:=fun hb hn=>hb.set _ _ hn
 have hba:=h.big
 refine ⟨hk h.kS (by omega),hk h.kR (by omega),hk h.kN (fun e=>h.apart g rfl e.symm),by rw [List.length_set]; exact h.len, ?_, ?_,nm_step (by omega) h.done u,fun q hq => ?_,h.low.setCell (p:=⟨g,i * 2 + 1,none⟩) (by show w.heap.size <= g; omega) u,h.apart,h.big⟩
 ·rw [<- tcells_set hiU _ hp u]; exact s1
 ·intro t ht
  rcases List.mem_or_eq_of_mem_set ht with ht | rfl
  ·refine ⟨ownsRow_setCell_other (h.own t ht).1 ?_ u,(h.own t ht).2⟩
   rcases (h.own t ht).2 with k | k
   ·rw [k]; intro e; cases e
   ·exact k
  ·refine ⟨ownsRow_setCell_other hu ?_ u,hne⟩
   rcases hne with k | k
   ·rw [k]; intro e; cases e
   ·exact k
 ·by_cases e:q=i
  ·rw [e]; exact hz
  ·exact h.zero q (by omega)
end Go.Proofs.YtmmdaegdkikkpaaGreatDoor
end

section
set_option maxRecDepth 100000
namespace Go.Proofs.YtmmdaegdkikkpaaGreatDoor
open Go.RowKit Go.PlainAid Go.Maps
structure VnM (W:World) (base b N:Nat) (f:ByteArray -> Option Value) (l:List At):Prop where
 map:RawMap W b N f
 few:N <= 40
 is:∀ k,(f k).isSome=memB (names l) k
 own:∀ k v,f k=some v -> W.ownsRow base 9 1 v (vals l k).length (scells (vals l k))
theorem VnM.below {W V:World} {base b N:Nat} {f:ByteArray -> Option Value} {l:List At} (h:VnM W base b N f l) (hb:Below W.heap.size W V):VnM V base b N f l:=
 ⟨h.map.below hb h.map.lt,h.few,h.is,fun k v e=>own_below (h.own k v e) hb⟩
structure VnI (w:World) (b base:Nat) (v:Value) (U:List Tr) (K:List ByteArray) (i:Nat) (f:ByteArray -> Option Value) (wr:World):Prop where
 map:RawMap wr b i f
 row:wr.ownsRow base 58 2 v U.length (tcells U)
 own:TOwn wr base v U
 is:∀ k,(f k).isSome=memB (K.take i) k
 of:∀ k u,f k=some u -> ∃ t ∈ U,t.1=k /\ t.2.1=u
 low:Below w.heap.size w wr
 lt:b < base
theorem VnI.below {w wr V:World} {b base:Nat} {v:Value} {U:List Tr} {K:List ByteArray} {i:Nat} {f:ByteArray -> Option Value} (h:VnI w b base v U K i f wr) (hb:Below wr.heap.size wr V):VnI w b base v U K i f V:=
 ⟨h.map.below hb h.map.lt,own_below h.row hb,h.own.below hb,h.is,h.of,h.low.trans (hb.mono h.low.size),h.lt⟩
theorem VnI.next {w wr:World} {b base:Nat} {v:Value} {U:List Tr} {K:List ByteArray} {i:Nat} {f:ByteArray -> Option Value} (h:VnI w b base v U K i f wr) (hb:w.heap.size <= b) (hi:i < K.length) {k:ByteArray} (hk:partAt K i=k) (hks:k.size <= maxLen) (hn:i < maxLen) {u:Value} (hu:∃ t ∈ U,t.1=k /\ t.2.1=u) :
  ∃ w',(Instr.mapUpdate 112 (.map (some b)) (.string k) u).run Tryz.prog wr = .ok () w' /\ VnI w b base v U K (i + 1) (setO f k u) w':=by
 obtain ⟨w',hr,hm,hg⟩:=h.map.store (t:=112) (e:=55) Tryz.underlying112 hn k hks u
 have hne:∀ {x:Value} {n size:Nat} {e:TypeId} {xs:List Value},wr.ownsRow base e size x n xs -> x.ownBlock=none ∨ x.ownBlock ≠ some b:=fun {x n size e xs} hx=>by
  cases q:x.ownBlock with
  | none=>exact .inl rfl
  | some g=>exact .inr fun e=>by have:=(hx.lt g q).1; have:=h.lt; have:=Option.some.inj e; omega
 refine ⟨w',hr,hm,h.row.kept hg (hne h.row),fun t ht=>⟨(h.own t ht).1.kept hg (hne (h.own t ht).1),(h.own t ht).2⟩,fun j => ?_,fun j x e => ?_,h.low.grown hg h.low.size (fun q hq=>by cases hq; exact hb),h.lt⟩
 ·rw [take_snoc K i hi,hk,memB_snoc]
  unfold setO
  by_cases e:j=k
  ·rw [if_pos e,e]; simp
  ·rw [if_neg e,h.is j]
   have:¬ k=j:=fun q=>e q.symm
   simp [this]
 ·unfold setO at e
  by_cases q:j=k
  ·rw [if_pos q] at e
   obtain rfl:=Option.some.inj e
   rw [q]; exact hu
  ·rw [if_neg q] at e; exact h.of j x e
def VnP (l:List At) (w:World) (e:Ending) (w':World):Prop := ∃ b N f,e = .returned (.map (some b)) /\ w.heap.size <= b /\ VnM w' w.heap.size b N f l /\ Below w.heap.size w w'
set_option maxHeartbeats 8000000 in
theorem valuesByName_s (ao:Option Addr) (n cap:Nat) (l:List At) (w:World) (ha:AttrsAt w ao n cap l) (hl:LightE l) (hf:LightE (nf l)) :
  Calls Tryz.prog 88 #[.slice ao n cap] w fun e w'=>VnP l w e w':=by
 have hb0:=below_al w (.map #[] 0)
 have HM0:=Lib.hid (raw_made w)
 have HSo:=Lib.hid (sorted_s ao n cap l _ (ha.below hb0) hl.few)
 have HB0:=Lib.hid hb0
 have hs0:(w.alloc (.map #[] 0)).heap.size=w.heap.size + 1:=by simp
 have hmm := @run_makeMap Tryz.prog
 clear hb0 ha
 go_enter Tryz.func88,Tryz.ntmps88
 go_wp2_with fail
 clear hmm
 refine HSo.out.mono ?_
 rintro e w2 ⟨v,U,rfl,hU,hO,_,hrow,hb⟩
 obtain ⟨so,sc,rfl⟩:=row_slice hrow
 have hUl:(names l).length=U.length:=by rw [<- nf_lenN, <- hU,tats_len]
 have HI:=Lib.hid (show VnI w w.heap.size (w.heap.size + 1) (.slice so U.length sc) U (names l) 0 (fun _=>none) w2 from
  ⟨HM0.out.below hb (by simp),by rw [<- hs0]; exact hrow,by rw [<- hs0]; exact hO,(fun k=>rfl),(fun k u e=>by cases e),HB0.out.trans (hb.mono HB0.out.size),Nat.lt_succ_self _⟩)
 have HU:=Lib.hid hU
 obtain ⟨m,hm⟩:∃ m,U.length=m:=⟨_,rfl⟩
 have hm40:m <= 40:=by have:=hf.len; rw [nf_lenN] at this; omega
 rw [hm] at hUl HI ⊢
 have HM:=Lib.hid (And.intro hm hUl)
 have HF:=Lib.hid hf
 clear hb hU hO hrow hm hUl HSo HM0 HB0 hs0 hf
 go_wp2_with fail
 go_loopw [5,10] (fun _ s10 wr=>∃ (i:Nat) (f:ByteArray -> Option Value),i <= m /\ s10 = .int .i64 i /\ Hid (VnI w w.heap.size (w.heap.size + 1) (.slice so m sc) U (names l) i f wr)) (fun _ s10 _=>m - (intOf s10).toNat)
 case atStart=>exact ⟨0,_,Nat.zero_le _,rfl,HI⟩
 case round =>
  clear HI
  obtain ⟨i,f,hi,rfl,HI⟩:=hrel
  by_cases hlt:i < m
  ·have d1:(i:Int) < (m:Int):=by omega
   obtain ⟨g,rfl⟩:∃ g,so=some ⟨g,0,none⟩:=by
    have hr:=HI.out.row
    rw [HM.out.1] at hr
    rcases hr.2 with ⟨e,_⟩ | ⟨g,cp,cur,e,_⟩
    ·simp only [Value.slice.injEq] at e
     omega
    ·simp only [Value.slice.injEq] at e
     exact ⟨g,e.1⟩
   have hiU:i < U.length:=by rw [HM.out.1]; exact hlt
   have hmem:U.getD i default ∈ U:=by
    rw [List.getD_eq_getElem?_getD,List.getElem?_eq_getElem hiU]; exact List.getElem_mem _
   have hnm:partAt (names l) i=(U.getD i default).1:=by
    have h1:=tats_at hiU
    rw [HU.out,nf_atD l i (by rw [nf_lenN,HM.out.2]; exact hlt)] at h1
    exact (Prod.mk.inj h1).1
   have hsz:=(HF.out.each _ (show atD (nf l) i ∈ nf l by rw [at_get (nf l) i (by rw [nf_lenN,HM.out.2]; exact hlt)]; exact List.getElem_mem _)).nm
   rw [nf_atD l i (by rw [nf_lenN,HM.out.2]; exact hlt)] at hsz
   simp only at hsz
   obtain ⟨t1,t2⟩:=etc_at hiU
   have c1:=HI.out.row.cells (g:=g) rfl _ _ t1
   have c2:=HI.out.row.cells (g:=g) rfl _ _ t2
   rw [Go.WideShapes.add_plain,Nat.zero_add] at c1 c2
   obtain ⟨vo,vc,ev,_⟩:=strs_own (HI.out.own _ hmem).1 rfl
   rw [ev] at c2
   have hbl:=below_al wr (.cells #[.string (U.getD i default).1, .slice vo (U.getD i default).2.2.length vc] 58)
   obtain ⟨w5,hrun,hI5⟩:=(HI.out.below hbl).next (Nat.le_refl _) (by rw [HM.out.2]; exact hlt) hnm (by rw [<- hnm]; unfold maxLen; omega) (by unfold maxLen; omega) (u := .slice vo (U.getD i default).2.2.length vc) ⟨_,hmem,rfl,ev⟩
   have HI5:=Lib.hid hI5
   obtain ⟨nm,hnm2⟩:∃ x,(U.getD i default).1=x:=⟨_,rfl⟩
   obtain ⟨vn,hvn⟩:∃ x,(U.getD i default).2.2.length=x:=⟨_,rfl⟩
   rw [hnm2,hvn] at hrun HI5
   rw [hnm2] at c1
   rw [hvn] at c2
   clear hmem hnm t1 t2 ev hbl hI5 hnm2 hvn hsz hiU
   go_wp2_with fail
   go_roundw
   case rel=>exact ⟨i + 1,_,by omega,by go_num,HI5⟩
   case measure=>simp [intOf]; omega
  ·obtain rfl:i=m:=by omega
   have d1:¬ (i:Int) < (i:Int):=by omega
   go_wp2_with fail
   go_ret
   refine ⟨w.heap.size,i,f,rfl,Nat.le_refl _,⟨HI.out.map,hm40,fun k => ?_,fun k v e => ?_⟩,HI.out.low⟩
   ·have:=HI.out.is k
    rwa [<- HM.out.2,List.take_length] at this
   ·obtain ⟨t,ht,rfl,rfl⟩:=HI.out.of k v e
    have h1:(t.1,t.2.2) ∈ nf l:=by rw [<- HU.out]; exact List.mem_map.2 ⟨t,ht,rfl⟩
    have h2:t.2.2=vals l t.1:=(nf_mem.1 h1).1
    rw [<- h2]
    exact row_lower (HI.out.own t ht).1 (Nat.le_succ _)
end Go.Proofs.YtmmdaegdkikkpaaGreatDoor
end

section
set_option maxRecDepth 100000
namespace Go.Proofs.YtmmdaegdkikkpaaGreatDoor
open Go.RowKit Go.PlainAid
structure Md where
 op:Int
 name:ByteArray
 vs:List ByteArray
instance:Inhabited Md:=⟨⟨0,⟨#[]⟩,[]⟩⟩
def modR (T:List Ty) (l:List At) (m:Md):List At × Int:=
 if ¬ (m.op=1 ∨ m.op=2 ∨ m.op=3) then ([],2) else if (tyOf T m.name).isSome=false then ([],6) else if nvE T m.name m.vs ≠ 0 then ([],nvE T m.name m.vs)
 else if m.op=1 then addR l m.name (fmsL T m.name m.vs) else if m.op=2 then remR l m.name (fmsL T m.name m.vs) else repR l m.name (fmsL T m.name m.vs)
theorem mod_op {T:List Ty} {l:List At} {m:Md} (h:¬ (m.op=1 ∨ m.op=2 ∨ m.op=3)):modR T l m=([],2):=if_pos h
theorem mod_type {T:List Ty} {l:List At} {m:Md} (h:m.op=1 ∨ m.op=2 ∨ m.op=3) (ht:(tyOf T m.name).isSome=false):modR T l m=([],6):=by
 unfold modR; rw [if_neg (fun k=>k h),if_pos ht]
theorem mod_val {T:List Ty} {l:List At} {m:Md} (h:m.op=1 ∨ m.op=2 ∨ m.op=3) (ht:(tyOf T m.name).isSome=true) {c:Int} (hc:nvE T m.name m.vs=c) (h0:c ≠ 0):modR T l m=([],c):=by
 subst hc
 unfold modR; rw [if_neg (fun k=>k h),if_neg (by rw [ht]; decide),if_pos h0]
theorem mod_add {T:List Ty} {l:List At} {m:Md} (h:m.op=1) (ht:(tyOf T m.name).isSome=true) (hc:nvE T m.name m.vs=0):modR T l m=addR l m.name (fmsL T m.name m.vs):=by
 unfold modR; rw [if_neg (by simp [h]),if_neg (by rw [ht]; decide),if_neg (by simp [hc]),if_pos h]
theorem mod_rem {T:List Ty} {l:List At} {m:Md} (h:m.op=2) (ht:(tyOf T m.name).isSome=true) (hc:nvE T m.name m.vs=0):modR T l m=remR l m.name (fmsL T m.name m.vs):=by
 unfold modR; rw [if_neg (by simp [h]),if_neg (by rw [ht]; decide),if_neg (by simp [hc]),if_neg (by rw [h]; decide),if_pos h]
theorem mod_rep {T:List Ty} {l:List At} {m:Md} (h:m.op=3) (ht:(tyOf T m.name).isSome=true) (hc:nvE T m.name m.vs=0):modR T l m=repR l m.name (fmsL T m.name m.vs):=by
 unfold modR; rw [if_neg (by simp [h]),if_neg (by rw [ht]; decide),if_neg (by simp [hc]),if_neg (by rw [h]; decide),if_neg (by rw [h]; decide)]
theorem mod_chk {T:List Ty} {l:List At} {m:Md} (h:chkA l=0) (he:(modR T l m).2=0):chkA (modR T l m).1=0:=by
 by_cases h1:m.op=1 ∨ m.op=2 ∨ m.op=3
 ·cases ht:(tyOf T m.name).isSome
  ·rw [mod_type h1 ht] at he; cases he
  ·by_cases hc:nvE T m.name m.vs=0
   ·rcases h1 with h1 | h1 | h1
    ·rw [mod_add h1 ht hc] at he ⊢; exact add_chk h he
    ·rw [mod_rem h1 ht hc] at he ⊢; exact rem_chk h he
    ·rw [mod_rep h1 ht hc] at he ⊢; exact rep_chk h he
   ·rw [mod_val h1 ht rfl hc] at he; exact absurd he hc
 ·rw [mod_op h1] at he; cases he
def modsR (T:List Ty):List At -> List Md -> List At × Int
 | l,[]=>(l,0)
 | l,m :: ms=>if (modR T l m).2=0 then modsR T (modR T l m).1 ms else ([],(modR T l m).2)
theorem mods_ok {T:List Ty} {l:List At} {m:Md} {ms:List Md} {k:List At} (h:modR T l m=(k,0)):modsR T l (m :: ms)=modsR T k ms:=by
 show (if (modR T l m).2=0 then modsR T (modR T l m).1 ms else ([],(modR T l m).2))=_
 rw [h]; rfl
theorem mods_no {T:List Ty} {l:List At} {m:Md} {ms:List Md} {c:Int} (h:(modR T l m).2=c) (h0:c ≠ 0):modsR T l (m :: ms)=([],c):=by
 show (if (modR T l m).2=0 then modsR T (modR T l m).1 ms else ([],(modR T l m).2))=_
 rw [h,if_neg h0]
theorem below_drwN (w:World) (q:Nat):Below w.heap.size w (w.drewN q):=⟨rfl,rfl,rfl,Nat.le_refl _,fun _ _=>rfl⟩
theorem beq_bytes {x y:ByteArray} (h:x ≠ y):(x.toList == y.toList)=false:=by
 rw [Lib.toList_data,Lib.toList_data]; exact beq_false_of_ne (fun k=>h (ba_ext k))
end Go.Proofs.YtmmdaegdkikkpaaGreatDoor
end
