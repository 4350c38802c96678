/-
  Texts of the schema layer and of those beneath it, joined: SchChR, SchTyR, SchNvR, SchLnR. Conditions stand at each contract.
-/
import Derived.Test.YtmmdaegdkikkpaaGreatDoorS19
set_option linter.unusedVariables false
set_option linter.unusedSimpArgs false
set_option linter.unnecessarySimpa false

section
set_option maxRecDepth 100000
namespace Go.Proofs.YtmmdaegdkikkpaaGreatDoor
open Go.RowKit Go.PlainAid
structure KT (w W:World) (ao:Option Addr) (n cap:Nat) (bo:Option Addr) (m dap:Nat) (tb:Nat) (p:ByteArray) (x:Int) (sg:Bool):Prop where
 fb:FB w W ao n cap bo m dap
 ty:W.heap[tb]? = some (.cells #[.string p, .int .i64 x, .bool sg] 62)
 big:tb < W.heap.size
theorem KT.step {w W V:World} {ao:Option Addr} {n cap:Nat} {bo:Option Addr} {m dap tb:Nat} {p:ByteArray} {x:Int} {sg:Bool} (h:KT w W ao n cap bo m dap tb p x sg) (hb:Below W.heap.size W V):KT w V ao n cap bo m dap tb p x sg:=
 ⟨h.fb.step hb,(hb.block _ h.big).trans h.ty,Nat.lt_of_lt_of_le h.big hb.size⟩
theorem KT.cells {w W:World} {ao:Option Addr} {n cap:Nat} {bo:Option Addr} {m dap tb:Nat} {p:ByteArray} {x:Int} {sg:Bool} (h:KT w W ao n cap bo m dap tb p x sg) :
  W.cell? ⟨w.heap.size,0,none⟩=some (.slice ao n cap) /\ W.cell? ⟨w.heap.size,1,none⟩=some (.slice bo m dap) /\ W.cell? ⟨tb,0,none⟩=some (.string p) /\ W.cell? ⟨tb,1,none⟩=some (.int .i64 x):=
 ⟨h.fb.cells.1,h.fb.cells.2,heap_cell h.ty rfl,heap_cell h.ty rfl⟩
theorem kt_new {w W:World} {ao:Option Addr} {n cap:Nat} {bo:Option Addr} {m dap:Nat} (h:FB w W ao n cap bo m dap) (p:ByteArray) (x:Int) (sg:Bool):KT w (W.alloc (.cells #[.string p, .int .i64 x, .bool sg] 62)) ao n cap bo m dap W.heap.size p x sg:=
 ⟨h.step ((Below.refl _ _).alloc (Nat.le_refl _) _),heap_alloc_new W _,by simp⟩
theorem errT_form {ts:List Ty} {j:Nat} {p:ByteArray} {x:Int} {sg:Bool} (h:tyAt ts j=⟨p,x,sg⟩):errT ts j=if nameB p=false then 5 else if (tyOf (ts.take j) p).isSome=true then 7 else if x < 1 ∨ 5 < x then 8 else 0:=by unfold errT; rw [h]
set_option maxHeartbeats 8000000 in
theorem rCheck7_s (v:Value) (ts:List Ty) (cs:List Cl) (w:World) (h:SchV w v ts cs) :
  Calls Tryz.prog 60 #[v] w fun e w'=>e = .returned (.int .i64 (chkS ts cs)) /\ Below w.heap.size w w':=by
 obtain ⟨ao,n,cap,bo,m,dap,rfl,hT,hC,hsT,hsC⟩:=h
 have HV:=Lib.hid (show SchV w (.agg #[.slice ao n cap, .slice bo m dap]) ts cs from ⟨ao,n,cap,bo,m,dap,rfl,hT,hC,hsT,hsC⟩)
 have htl:=hT.1
 have hcl:=hC.1
 have htx:=hT.2.2.1
 have hcx:=hC.2.2.1
 have htn:=hT.2.1
 have hcn:=hC.2.1
 unfold maxLen at htx hcx
 have HT:=Lib.hid hT
 have HsT:=Lib.hid hsT
 have HTL:=Lib.hid htl
 have HCL:=Lib.hid hcl
 clear hT hC hsT hsC htl hcl
 have HK0:=Lib.hid (fb_new w ao n cap bo m dap)
 go_enter Tryz.func60,Tryz.ntmps60
 by_cases L1:64 < n
 ·have d1:decide ((64:Int) < (n:Int))=true:=decide_eq_true (by omega)
  go_wp2_with fail
  go_ret
  exact ⟨by rw [chkS_limit (.inl (by rw [HTL.out]; exact L1))]; rfl,HK0.out.low⟩
 have d1:decide ((64:Int) < (n:Int))=false:=decide_eq_false (by omega)
 by_cases L2:32 < m
 ·have d2:decide ((32:Int) < (m:Int))=true:=decide_eq_true (by omega)
  go_wp2_with fail
  go_ret
  exact ⟨by rw [chkS_limit (.inr (by rw [HCL.out]; exact L2))]; rfl,HK0.out.low⟩
 have d2:decide ((32:Int) < (m:Int))=false:=decide_eq_false (by omega)
 have HLim:=Lib.hid (show ¬ (64 < ts.length ∨ 32 < cs.length) by rw [HTL.out,HCL.out]; omega)
 go_wp2_with fail
 clear d1 d2
 generalize w.alloc (.cells #[.slice ao n cap, .slice bo m dap] 25)=W1 at HK0 ⊢
 go_loopw [3,4] (fun i s4 wr=>∃ k:Nat,k <= n /\ i = .int .i64 k /\ Hid (∀ q,q < k -> errT ts q=0) /\ Hid (FB w wr ao n cap bo m dap)) (fun i _ _=>n - (intOf i).toNat)
 case atStart=>exact ⟨0,Nat.zero_le _,rfl,Lib.hid (fun q hq=>absurd hq (Nat.not_lt_zero _)),HK0⟩
 case round =>
  obtain ⟨k,hk,rfl,HA,HKj⟩:=hrel
  obtain ⟨c0,c1⟩:=HKj.out.cells
  by_cases hlt:k < n
  ·have e1:decide ((k:Int) < (n:Int))=true:=decide_eq_true (by omega)
   have e2:(0:Int) <= (k:Int):=by omega
   have e3:(k:Int) < (n:Int):=by omega
   have e4:(k:Int) <= (cap:Int):=by omega
   obtain ⟨b,off,rfl,hbl,hs⟩:=(HT.out.below HKj.out.low).2.2.2 (by omega)
   obtain ⟨y0,y1,y2⟩:=hs k hlt
   clear hs
   have hps:=HsT.out _ (ty_mem ts k (by rw [HTL.out]; exact hlt))
   obtain ⟨T,hT⟩:∃ x,tyAt ts k=x:=⟨_,rfl⟩
   rw [hT] at y0 y1 y2 hps
   obtain ⟨p,x,sg⟩:=T
   simp only at y0 y1 y2 hps
   have HE:=Lib.hid (errT_form hT)
   clear hT
   obtain ⟨nb,hnb⟩:∃ x,nameB p=x:=⟨_,rfl⟩
   have HNb:=Lib.hid hnb
   clear hnb
   have HKn:=Lib.hid (kt_new HKj.out p x sg)
   have HCt:=Lib.hid (fun W (hb:Below w.heap.size w W)=>typeAt_s (some ⟨b,off,none⟩) k cap (ts.take k) p W ((HT.out.below hb).cut (by omega)) (fun t ht=>HsT.out t (List.mem_of_mem_take ht)) hps)
   obtain ⟨tb,htb⟩:∃ x,wr.heap.size=x:=⟨_,rfl⟩
   rw [htb] at HKn
   go_wp2_with fail
   generalize wr.alloc (.cells #[.string p, .int .i64 x, .bool sg] 62)=W2 at HKn ⊢
   clear c0 c1 y0 y1 y2 htb HKj
   obtain ⟨c0,c1,x0,x1⟩:=HKn.out.cells
   refine (rName_s p _ hps).mono ?_
   rintro e w1 ⟨rfl,rfl⟩
   rw [HNb.out]
   cases nb
   ·have HF:=Lib.hid (show errT ts k=5 by rw [HE.out,if_pos HNb.out])
    go_wp2_with fail
    go_ret
    exact ⟨by rw [chkS_type HLim.out (by rw [HTL.out]; exact hlt) HA.out (by rw [HF.out]; decide),HF.out]; rfl,HKn.out.fb.low⟩
   ·have HE2:=Lib.hid (show errT ts k=if (tyOf (ts.take k) p).isSome=true then 7 else if x < 1 ∨ 5 < x then 8 else 0 by rw [HE.out,if_neg (by rw [HNb.out]; decide)])
    clear HE HNb
    go_wp2_with fail
    refine wp_region_still_tail 6 (by kernel_rfl) (by kernel_rfl) ?_
    simp only [List.take_succ_cons,List.take_zero,List.drop_succ_cons,List.drop_zero]
    change wpStill _ _ (World.drew _) _ _ _
    still_step
    still_step
    still_step
    still_step
    still_step
    still_step
    refine wpStill_nil ?_
    change wpList _ _ _ _ _ (World.drew _)
    have HK1:=Lib.hid (HKn.out.step (Below.refl _ _).drew)
    clear c0 c1 x0 x1
    generalize World.drew _=W3 at HK1 ⊢
    obtain ⟨c0,c1,x0,x1⟩:=HK1.out.cells
    go_wp2_with fail
    refine (HCt.out _ HK1.out.fb.low).mono ?_
    rintro e W4 ⟨r,rfl,hix,hb⟩
    have HK2:=Lib.hid (HK1.out.step hb)
    have HIx:=Lib.hid hix.pos
    clear c0 c1 x0 x1 hb hix HCt
    obtain ⟨c0,c1,x0,x1⟩:=HK2.out.cells
    by_cases hr:0 <= r
    ·have HF:=Lib.hid (show errT ts k=7 by rw [HE2.out,if_pos (by rcases HIx.out with h | h; exact h.2; omega)])
     go_wp2_with fail
     go_ret
     exact ⟨by rw [chkS_type HLim.out (by rw [HTL.out]; exact hlt) HA.out (by rw [HF.out]; decide),HF.out]; rfl,HK2.out.fb.low⟩
    ·have HE3:=Lib.hid (show errT ts k=if x < 1 ∨ 5 < x then 8 else 0 by rw [HE2.out,if_neg (by rcases HIx.out with h | h; omega; rw [h.2]; decide)])
     clear HE2
     by_cases hx:x < 1
     ·have d3:decide (x < (1:Int))=true:=decide_eq_true hx
      have HF:=Lib.hid (show errT ts k=8 by rw [HE3.out,if_pos (.inl hx)])
      go_wp2_with fail
      go_ret
      exact ⟨by rw [chkS_type HLim.out (by rw [HTL.out]; exact hlt) HA.out (by rw [HF.out]; decide),HF.out]; rfl,HK2.out.fb.low⟩
     ·have d3:decide (x < (1:Int))=false:=decide_eq_false hx
      by_cases hx5:5 < x
      ·have d4:decide ((5:Int) < x)=true:=decide_eq_true hx5
       have HF:=Lib.hid (show errT ts k=8 by rw [HE3.out,if_pos (.inr hx5)])
       go_wp2_with fail
       go_ret
       exact ⟨by rw [chkS_type HLim.out (by rw [HTL.out]; exact hlt) HA.out (by rw [HF.out]; decide),HF.out]; rfl,HK2.out.fb.low⟩
      ·have d4:decide ((5:Int) < x)=false:=decide_eq_false hx5
       have HF:=Lib.hid (show errT ts k=0 by rw [HE3.out,if_neg (by omega)])
       have HA2:=Lib.hid (show ∀ q,q < k + 1 -> errT ts q=0 from fun q hq=>by
        by_cases h:q=k
        ·rw [h]; exact HF.out
        ·exact HA.out q (by omega))
       have HFB:=Lib.hid HK2.out.fb
       go_wp2_with fail
       go_roundw
       case rel=>exact ⟨k + 1,by omega,by go_num,HA2,HFB⟩
       case measure=>simp [intOf]; omega
  ·obtain rfl:n=k:=by omega
   have e1:decide ((n:Int) < (n:Int))=false:=decide_eq_false (by omega)
   have HAll:=Lib.hid (show ∀ q,q < ts.length -> errT ts q=0 by rw [HTL.out]; exact HA.out)
   clear HA
   go_wp2_with fail
   clear e1
   go_loopw [5,6] (fun i s6 wr=>∃ k:Nat,k <= m /\ i = .int .i64 k /\ Hid (∀ q,q < k -> errC ts cs q=0) /\ Hid (FB w wr ao n cap bo m dap)) (fun i _ _=>m - (intOf i).toNat)
   case atStart=>exact ⟨0,Nat.zero_le _,rfl,Lib.hid (fun q hq=>absurd hq (Nat.not_lt_zero _)),HKj⟩
   case round =>
    clear c0 c1 HKj
    obtain ⟨k,hk2,rfl,HA,HKj⟩:=hrel
    obtain ⟨c0,c1⟩:=HKj.out.cells
    by_cases hlt:k < m
    ·have e1:decide ((k:Int) < (m:Int))=true:=decide_eq_true (by omega)
     have HCk:=Lib.hid (classR_s _ ts cs k wr (HV.out.below HKj.out.low) (by rw [HCL.out]; exact hlt))
     obtain ⟨ec,hec⟩:∃ x,errC ts cs k=x:=⟨_,rfl⟩
     have HEc:=Lib.hid hec
     rw [hec] at HCk
     clear hec
     go_wp2_with fail
     refine HCk.out.mono ?_
     rintro e W4 ⟨rfl,hb⟩
     have HK2:=Lib.hid (HKj.out.step hb)
     clear hb HCk c0 c1
     obtain ⟨c0,c1⟩:=HK2.out.cells
     by_cases h0:ec=0
     ·have HA2:=Lib.hid (show ∀ q,q < k + 1 -> errC ts cs q=0 from fun q hq=>by
       by_cases h:q=k
       ·rw [h,HEc.out]; exact h0
       ·exact HA.out q (by omega))
      have d3:(ec != 0)=false:=by rw [h0]; rfl
      have d4:(ec == 0)=true:=by rw [h0]; rfl
      go_wp2_with fail
      go_roundw
      case rel=>exact ⟨k + 1,by omega,by go_num,HA2,HK2⟩
      case measure=>simp [intOf]; omega
     ·have d3:(ec != 0)=true:=by simpa using h0
      have d4:(ec == 0)=false:=by simpa using h0
      go_wp2_with fail
      go_ret
      exact ⟨by rw [chkS_class HLim.out HAll.out (by rw [HCL.out]; exact hlt) HA.out (by rw [HEc.out]; exact h0),HEc.out]; rfl,HK2.out.low⟩
    ·obtain rfl:m=k:=by omega
     have e1:decide ((m:Int) < (m:Int))=false:=decide_eq_false (by omega)
     have HAc:=Lib.hid (show ∀ q,q < cs.length -> errC ts cs q=0 by rw [HCL.out]; exact HA.out)
     have HEnd:=Lib.hid (chkS_last HLim.out HAll.out HAc.out)
     have HCt:=Lib.hid (typeAt_s ao n cap ts classN wr (HT.out.below HKj.out.low) HsT.out (by decide))
     unfold classN at HCt
     go_wp2_with fail
     refine HCt.out.mono ?_
     rintro e W4 ⟨r,rfl,hix,hb⟩
     have HK2:=Lib.hid (HKj.out.step hb)
     clear hb HCt c0 c1
     obtain ⟨c0,c1⟩:=HK2.out.cells
     rcases hix with ⟨q,rfl,hq,hty⟩ | ⟨rfl,hty⟩
     ·have d3:decide ((q:Int) < 0)=false:=decide_eq_false (by omega)
      have hq':q < n:=by rw [<- HTL.out]; exact hq
      obtain ⟨b,off,rfl,hbl,hs⟩:=(HT.out.below HK2.out.low).2.2.2 (by omega)
      obtain ⟨y0,y1,y2⟩:=hs q hq'
      clear hs
      have q0:(0:Int) <= (q:Int):=by omega
      have q1:(q:Int) < (n:Int):=by omega
      obtain ⟨T,hT⟩:∃ x,tyAt ts q=x:=⟨_,rfl⟩
      rw [hT] at y0 y1 y2 hty
      obtain ⟨p,x,sg⟩:=T
      simp only at y0 y1 y2
      have HF:=Lib.hid (show chkS ts cs=if x=1 then 0 else 8 by
       rw [HEnd.out]
       unfold classN
       rw [hty]; rfl)
      clear hT hty
      by_cases hx:x=1
      ·have d5:(x == 1)=true:=by rw [hx]; rfl
       have d6:(x != 1)=false:=by rw [hx]; rfl
       go_wp2_with fail
       go_ret
       exact ⟨by rw [HF.out,if_pos hx]; rfl,HK2.out.low⟩
      ·have d5:(x == 1)=false:=by simpa using hx
       have d6:(x != 1)=true:=by simpa using hx
       go_wp2_with fail
       go_ret
       exact ⟨by rw [HF.out,if_neg hx]; rfl,HK2.out.low⟩
     ·have d3:decide ((-1:Int) < 0)=true:=by decide
      have HF:=Lib.hid (show chkS ts cs=6 by
       rw [HEnd.out]
       unfold classN
       rw [hty]; rfl)
      clear hty
      go_wp2_with fail
      go_ret
      exact ⟨by rw [HF.out]; rfl,HK2.out.low⟩
theorem nil_sch (w:World):SchV w (.agg #[.slice none 0 0, .slice none 0 0]) [] []:=
 ⟨none,0,0,none,0,0,rfl,⟨rfl,Nat.le_refl _,by unfold maxLen; omega,fun h=>absurd h (Nat.lt_irrefl _)⟩,⟨rfl,Nat.le_refl _,by unfold maxLen; omega,fun h=>absurd h (Nat.lt_irrefl _)⟩,(fun _ h=>by cases h),(fun _ h=>by cases h)⟩
set_option maxHeartbeats 4000000 in
theorem sound7_s (v:Value) (ts:List Ty) (cs:List Cl) (w:World) (h:SchV w v ts cs) :
  Calls Tryz.prog 216 #[v] w fun e w'=>∃ u,e = .returned u /\ SchV w' u (soundT ts cs) (soundC ts cs) /\ Below w.heap.size w w':=by
 have h':=h
 obtain ⟨ao,n,cap,bo,m,dap,rfl,_⟩:=h'
 have hb0:Below w.heap.size w ((w.alloc (.cells #[.slice ao n cap, .slice bo m dap] 25)).alloc (.cells #[.slice none 0 0, .slice none 0 0] 25)):=((Below.refl _ _).alloc (Nat.le_refl _) _).alloc (by simp) _
 have HB0:=Lib.hid hb0
 have HV:=Lib.hid h
 have HC:=Lib.hid (rCheck7_s _ ts cs _ (h.below hb0))
 obtain ⟨ec,hec⟩:∃ x,chkS ts cs=x:=⟨_,rfl⟩
 have HEc:=Lib.hid hec
 rw [hec] at HC
 clear h hb0 hec
 go_enter Tryz.func216,Tryz.ntmps216
 go_wp2_with fail
 refine HC.out.mono ?_
 rintro e w1 ⟨rfl,hb⟩
 have c0:w1.cell? ⟨w.heap.size,0,none⟩=some (.slice ao n cap):=cell_later hb (by go_simp)
 have c1:w1.cell? ⟨w.heap.size,1,none⟩=some (.slice bo m dap):=cell_later hb (by go_simp)
 have r0:w1.cell? ⟨w.heap.size + 1,0,none⟩=some (.slice none 0 0):=cell_later hb (by go_simp)
 have r1:w1.cell? ⟨w.heap.size + 1,1,none⟩=some (.slice none 0 0):=cell_later hb (by go_simp)
 have f0:=frozen_later (i:=0) hb (b:=w.heap.size + 1) (by simp) (by go_simp)
 have f1:=frozen_later (i:=1) hb (b:=w.heap.size + 1) (by simp) (by go_simp)
 have hs1:w.heap.size + 1 < w1.heap.size:=by have:=hb.size; simp at this; omega
 have hs0:w.heap.size <= w.heap.size + 1:=Nat.le_succ _
 have HB1:=Lib.hid (HB0.out.trans (hb.mono (by simp; omega)))
 clear hb HC HB0
 by_cases h0:ec=0
 ·have d3:(ec != 0)=false:=by rw [h0]; rfl
  have d4:(ec == 0)=true:=by rw [h0]; rfl
  go_wp2_with fail
  refine bodyPost_ret (v := .agg #[.slice ao n cap, .slice bo m dap]) (by simp only [results,Tryz.results216]; go_simp) rfl ?_
  have HBe:=(below_set1 (below_set1 HB1.out (w.heap.size + 1) 0 hs0 (.slice ao n cap)) (w.heap.size + 1) 1 hs0 (.slice bo m dap))
  first
   | exact ⟨_,rfl,by rw [show soundT ts cs=ts from if_pos (HEc.out.trans h0),show soundC ts cs=cs from if_pos (HEc.out.trans h0)]; exact HV.out.below HBe,HBe⟩
   | exact ⟨_,rfl,by rw [show soundT ts cs=ts from if_pos (HEc.out.trans h0),show soundC ts cs=cs from if_pos (HEc.out.trans h0)]; exact HV.out.below (HBe.alloc (by simp only [set_size]; omega) _),HBe.alloc (by simp only [set_size]; omega) _⟩
 ·have d3:(ec != 0)=true:=by simpa using h0
  have d4:(ec == 0)=false:=by simpa using h0
  have hbad:=sound_bad (ts:=ts) (cs:=cs) (by rw [HEc.out]; exact h0)
  have HBad:=Lib.hid hbad
  clear hbad
  go_wp2_with fail
  refine bodyPost_ret (v := .agg #[.slice none 0 0, .slice none 0 0]) (by simp only [results,Tryz.results216]; go_simp) rfl ?_
  have HBe:=(below_set1 (below_set1 HB1.out (w.heap.size + 1) 0 hs0 (.slice none 0 0)) (w.heap.size + 1) 1 hs0 (.slice none 0 0))
  first
   | exact ⟨_,rfl,by rw [HBad.out.1,HBad.out.2]; exact nil_sch _,HBe⟩
   | exact ⟨_,rfl,by rw [HBad.out.1,HBad.out.2]; exact nil_sch _,HBe.alloc (by simp only [set_size]; omega) _⟩
theorem field_types (ao:Option Addr) (n cap:Nat) (bo:Option Addr) (m dap:Nat) (wr:World):(Instr.field 25 (.agg #[.slice ao n cap, .slice bo m dap]) 0).run Tryz.prog wr = .ok (.slice ao n cap) wr:=by kernel_rfl
theorem field_classes (ao:Option Addr) (n cap:Nat) (bo:Option Addr) (m dap:Nat) (wr:World):(Instr.field 25 (.agg #[.slice ao n cap, .slice bo m dap]) 1).run Tryz.prog wr = .ok (.slice bo m dap) wr:=by kernel_rfl
set_option maxHeartbeats 4000000 in
theorem type7_s (v:Value) (ts:List Ty) (cs:List Cl) (n:ByteArray) (w:World) (h:SchV w v ts cs) (hn:n.size <= 1000000000) :
  Calls Tryz.prog 139 #[v, .string n] w fun e w'=>e = .returned (.tuple #[tyV ((tyOf (soundT ts cs) n).getD zeroTy), .bool (tyOf (soundT ts cs) n).isSome]) /\ Below w.heap.size w w':=by
 have h':=h
 obtain ⟨ao,k,cap,bo,m,dap,rfl,_⟩:=h'
 have hb0:Below w.heap.size w ((w.alloc (.cells #[.slice ao k cap, .slice bo m dap] 25)).alloc (.cells #[.string ⟨#[]⟩, .int .i64 0, .bool false] 62)):=((Below.refl _ _).alloc (Nat.le_refl _) _).alloc (by simp) _
 have HB0:=Lib.hid hb0
 have HC:=Lib.hid (sound7_s _ ts cs _ (h.below hb0))
 clear h hb0
 go_enter Tryz.func139,Tryz.ntmps139
 go_wp2_with fail
 refine HC.out.mono ?_
 rintro e w1 ⟨u,rfl,⟨ao',k',cap',bo',m',dap',rfl,hT,_,hsT,_⟩,hb⟩
 have HB1:=Lib.hid (HB0.out.trans (hb.mono (by simp; omega)))
 have HT:=Lib.hid hT
 have hkl:=hT.1
 have HCt:=Lib.hid (typeAt_s ao' k' cap' (soundT ts cs) n w1 hT hsT hn)
 have r0:w1.cell? ⟨w.heap.size + 1,0,none⟩=some (.string ⟨#[]⟩):=cell_later hb (by go_simp)
 have r1:w1.cell? ⟨w.heap.size + 1,1,none⟩=some (.int .i64 0):=cell_later hb (by go_simp)
 have r2:w1.cell? ⟨w.heap.size + 1,2,none⟩=some (.bool false):=cell_later hb (by go_simp)
 have f0:=frozen_later (i:=0) hb (b:=w.heap.size + 1) (by simp) (by go_simp)
 have f1:=frozen_later (i:=1) hb (b:=w.heap.size + 1) (by simp) (by go_simp)
 have f2:=frozen_later (i:=2) hb (b:=w.heap.size + 1) (by simp) (by go_simp)
 have hs1:w.heap.size + 1 < w1.heap.size:=by have:=hb.size; simp at this; omega
 have HR:=Lib.hid (And.intro r0 (And.intro r1 (And.intro r2 (And.intro f0 (And.intro f1 f2)))))
 have HKl:=Lib.hid hkl
 have hfd:=field_types ao' k' cap' bo' m' dap'
 clear hb hT hsT HC HB0 r0 r1 r2 f0 f1 f2 hkl
 go_wp2_with fail
 refine HCt.out.mono ?_
 rintro e w2 ⟨r,rfl,hix,hb⟩
 have r0:=cell_later hb HR.out.1
 have r1:=cell_later hb HR.out.2.1
 have r2:=cell_later hb HR.out.2.2.1
 have f0:=frozen_later hb hs1 HR.out.2.2.2.1
 have f1:=frozen_later hb hs1 HR.out.2.2.2.2.1
 have f2:=frozen_later hb hs1 HR.out.2.2.2.2.2
 have HB2:=Lib.hid (HB1.out.trans (hb.mono HB1.out.size))
 have HT2:=Lib.hid (HT.out.below hb)
 have hs0:w.heap.size <= w.heap.size + 1:=Nat.le_succ _
 clear hb HCt HR HT
 rcases hix with ⟨q,rfl,hq,hty⟩ | ⟨rfl,hty⟩
 ·rw [HKl.out] at hq
  have d3:(0:Int) <= (q:Int):=by omega
  have d4:(q:Int) < (k':Int):=by omega
  obtain ⟨b,off,rfl,hbl,hs⟩:=HT2.out.2.2.2 (by omega)
  obtain ⟨y0,y1,y2⟩:=hs q hq
  clear hs
  obtain ⟨T,hT⟩:∃ x,tyAt (soundT ts cs) q=x:=⟨_,rfl⟩
  rw [hT] at y0 y1 y2 hty
  clear hT
  obtain ⟨p,x,sg⟩:=T
  simp only at y0 y1 y2
  have HTy:=Lib.hid hty
  clear hty
  go_wp2_with fail
  refine bodyPost_ret (v := .tuple #[.agg #[.string p, .int .i64 x, .bool sg], .bool true]) (by simp only [results,Tryz.results139]; go_simp) rfl ?_
  exact ⟨by rw [HTy.out]; rfl,below_set1 (below_set1 (below_set1 HB2.out (w.heap.size + 1) 0 hs0 _) (w.heap.size + 1) 1 hs0 _) (w.heap.size + 1) 2 hs0 _⟩
 ·have d3:¬ (0:Int) <= (-1:Int):=by decide
  have HTy:=Lib.hid hty
  clear hty
  go_wp2_with fail
  refine bodyPost_ret (v := .tuple #[.agg #[.string ⟨#[]⟩, .int .i64 0, .bool false], .bool false]) (by simp only [results,Tryz.results139]; go_simp) rfl ?_
  exact ⟨by rw [HTy.out]; rfl,below_set1 (below_set1 (below_set1 HB2.out (w.heap.size + 1) 0 hs0 _) (w.heap.size + 1) 1 hs0 _) (w.heap.size + 1) 2 hs0 _⟩
theorem numS_getD (s:ByteArray) : -9223372036854775808 <= (numS s).getD 0 /\ (numS s).getD 0 <= 9223372036854775807:=by
 cases h:numS s with
 | none=>exact ⟨by decide,by decide⟩
 | some n=>exact numS_range h
set_option maxHeartbeats 8000000 in
theorem rform_s (x:Int) (s:ByteArray) (w:World) (hs:s.size <= 1100000) :
  Calls Tryz.prog 215 #[.int .i64 x, .string s] w fun e w'=>∃ f:ByteArray,e = .returned (.tuple #[.string f, .bool (formS x s).isSome]) /\ (∀ g,formS x s=some g -> f=g) /\ Below w.heap.size w w':=by
 by_cases h1:x=1
 ·subst h1
  have HE:=Lib.hid (show formS 1 s=some (foldS s) from rfl)
  go_enter Tryz.func215,Tryz.ntmps215
  go_wp2_with fail
  refine (rFold_s s _ (by omega)).mono ?_
  rintro e w1 ⟨rfl,hb⟩
  have HB:=Lib.hid hb; clear hb
  go_wp2_with fail
  go_ret2
  exact ⟨_,by rw [HE.out]; rfl,(fun g hg=>by rw [HE.out] at hg; exact Option.some.inj hg),HB.out⟩
 ·by_cases h2:x=2
  ·subst h2
   have HE:=Lib.hid (show formS 2 s=some s from rfl)
   go_enter Tryz.func215,Tryz.ntmps215
   go_wp2_with fail
   go_ret2
   exact ⟨_,by rw [HE.out]; rfl,(fun g hg=>by rw [HE.out] at hg; exact Option.some.inj hg),Below.refl _ _⟩
  ·by_cases h3:x=3
   ·subst h3
    have HE:=Lib.hid (show formS 3 s=(numS s).map fun n=>ofL (Lib.itoa n) from rfl)
    obtain ⟨hn1,hn2⟩:=numS_getD s
    have HI:=Lib.hid (fun W=>rint_s ((numS s).getD 0) W hn1 hn2)
    obtain ⟨n,hn⟩:∃ x,(numS s).getD 0=x:=⟨_,rfl⟩
    obtain ⟨ok,hok⟩:∃ x,(numS s).isSome=x:=⟨_,rfl⟩
    have HN:=Lib.hid (rnumber_s s w hs)
    rw [hn,hok] at HN
    rw [hn] at HI
    have HQ:=Lib.hid (And.intro hn hok)
    clear hn hok hn1 hn2
    go_enter Tryz.func215,Tryz.ntmps215
    go_wp2_with fail
    refine HN.out.mono ?_
    rintro e w1 ⟨rfl,rfl⟩
    go_wp2_with fail
    refine (HI.out _).mono ?_
    rintro e w2 ⟨rfl,hb⟩
    have HB:=Lib.hid hb; clear hb
    go_wp2_with fail
    go_ret2
    refine ⟨_,by rw [HE.out,Option.isSome_map,HQ.out.2]; rfl,(fun g hg => ?_),HB.out⟩
    rw [HE.out] at hg
    rw [<- HQ.out.1]
    cases e:numS s with
    | none=>rw [e] at hg; cases hg
    | some m=>rw [e] at hg; exact Option.some.inj hg
   ·by_cases h4:x=4
    ·subst h4
     have HE:=Lib.hid (show formS 4 s=if Nam.cleanE s=0 then some (Nam.cleanV s) else none from rfl)
     go_enter Tryz.func215,Tryz.ntmps215
     go_wp2_with fail
     refine (Nam.rclean0_s s _ hs).mono ?_
     rintro e w1 ⟨rfl,hb⟩
     have HB:=Lib.hid hb; clear hb
     by_cases hc:Nam.cleanE s=0
     ·have HE2:=Lib.hid (show formS 4 s=some (Nam.cleanV s) from HE.out.trans (if_pos hc))
      rw [hc]
      go_wp2_with fail
      go_ret2
      exact ⟨_,by rw [HE2.out]; rfl,(fun g hg=>by rw [HE2.out] at hg; exact Option.some.inj hg),HB.out⟩
     ·have HE2:=Lib.hid (show formS 4 s=none from HE.out.trans (if_neg hc))
      obtain ⟨ec,hec⟩:∃ e,Nam.cleanE s=e:=⟨_,rfl⟩
      rw [hec] at hc ⊢
      clear hec
      have hq:(ec == 0)=false:=beq_false_of_ne hc
      go_wp2_with fail
      go_ret2
      exact ⟨_,by rw [HE2.out]; rfl,(fun g hg=>by rw [HE2.out] at hg; cases hg),HB.out⟩
    ·have HE:=Lib.hid (show formS x s=truthS s by unfold formS; rw [if_neg h1,if_neg h2,if_neg h3,if_neg h4])
     have q1:(x == 1)=false:=beq_false_of_ne h1
     have q2:(x == 2)=false:=beq_false_of_ne h2
     have q3:(x == 3)=false:=beq_false_of_ne h3
     have q4:(x == 4)=false:=beq_false_of_ne h4
     obtain ⟨lw,hlw⟩:∃ x,lowS s=x:=⟨_,rfl⟩
     have HL:=Lib.hid (fun W=>rLower_s s W (by omega))
     rw [hlw] at HL
     have HE2:=Lib.hid (show formS x s=if lw=trueS then some ⟨#[84,82,85,69]⟩ else if lw=falseS then some ⟨#[70,65,76,83,69]⟩ else none by rw [HE.out]; unfold truthS; rw [hlw])
     clear HE hlw
     go_enter Tryz.func215,Tryz.ntmps215
     go_wp2_with fail
     refine (HL.out _).mono ?_
     rintro e w1 ⟨rfl,hb⟩
     have HB:=Lib.hid hb; clear hb
     by_cases ht:lw=trueS
     ·have HE3:=Lib.hid (show formS x s=some ⟨#[84,82,85,69]⟩ by rw [HE2.out,if_pos ht])
      have t1:(lw.toList == [116,114,117,101])=true:=by rw [ht,Lib.toList_data]; rfl
      clear ht
      go_wp2_with fail
      go_ret2
      exact ⟨_,by rw [HE3.out]; rfl,(fun g hg=>by rw [HE3.out] at hg; exact Option.some.inj hg),HB.out⟩
     ·have t1:(lw.toList == [116,114,117,101])=false:=by
       rw [Lib.toList_data]
       exact beq_false_of_ne (fun k=>ht (by rw [<- Lib.mk_data lw,k]; rfl))
      go_wp2_with fail
      refine (HL.out _).mono ?_
      rintro e w2 ⟨rfl,hb⟩
      have HB2:=Lib.hid (HB.out.trans (hb.mono HB.out.size)); clear hb
      by_cases hf:lw=falseS
      ·have HE3:=Lib.hid (show formS x s=some ⟨#[70,65,76,83,69]⟩ by rw [HE2.out,if_neg ht,if_pos hf])
       have t2:(lw.toList == [102,97,108,115,101])=true:=by rw [hf,Lib.toList_data]; rfl
       clear hf ht
       go_wp2_with fail
       go_ret2
       exact ⟨_,by rw [HE3.out]; rfl,(fun g hg=>by rw [HE3.out] at hg; exact Option.some.inj hg),HB2.out⟩
      ·have HE3:=Lib.hid (show formS x s=none by rw [HE2.out,if_neg ht,if_neg hf])
       have t2:(lw.toList == [102,97,108,115,101])=false:=by
        rw [Lib.toList_data]
        exact beq_false_of_ne (fun k=>hf (by rw [<- Lib.mk_data lw,k]; rfl))
       go_wp2_with fail
       go_ret2
       exact ⟨_,by rw [HE3.out]; rfl,(fun g hg=>by rw [HE3.out] at hg; cases hg),HB2.out⟩
set_option maxHeartbeats 8000000 in
theorem rnormal7_s (v:Value) (ts:List Ty) (cs:List Cl) (n s:ByteArray) (w:World) (h:SchV w v ts cs) (hn:n.size <= 1000000000) (hs:s.size <= 1100000) :
  Calls Tryz.prog 137 #[v, .string n, .string s] w fun e w'=>e = .returned (.tuple #[.string (nrmV (soundT ts cs) n s), .int .i64 (nrmE (soundT ts cs) n s)]) /\ Below w.heap.size w w':=by
 have h':=h
 obtain ⟨ao,k,cap,bo,m,dap,rfl,_⟩:=h'
 have hb0:Below w.heap.size w (w.alloc (.cells #[.slice ao k cap, .slice bo m dap] 25)):=(Below.refl _ _).alloc (Nat.le_refl _) _
 have HB0:=Lib.hid hb0
 have HC:=Lib.hid (type7_s _ ts cs n _ (h.below hb0) hn)
 clear h hb0
 go_enter Tryz.func137,Tryz.ntmps137
 go_wp2_with fail
 refine HC.out.mono ?_
 rintro e w1 ⟨rfl,hb⟩
 have hsz1:w.heap.size < w1.heap.size:=by have:=hb.size; simp at this; omega
 have HB1:=Lib.hid (HB0.out.trans (hb.mono (by simp)))
 clear hb HC HB0
 unfold tyV
 cases ht:tyOf (soundT ts cs) n with
 | none =>
  have HE:=Lib.hid (show nrmV (soundT ts cs) n s=⟨#[]⟩ /\ nrmE (soundT ts cs) n s=6 by unfold nrmV nrmE; rw [ht]; exact ⟨rfl,rfl⟩)
  clear ht
  dsimp only [Option.getD,Option.isSome,zeroTy]
  go_wp2_with fail
  go_ret2
  exact ⟨by rw [HE.out.1,HE.out.2]; rfl,HB1.out.alloc (by omega) _⟩
 | some t =>
  have HE:=Lib.hid (show nrmV (soundT ts cs) n s=(normS t.syn s).getD ⟨#[]⟩ /\ nrmE (soundT ts cs) n s=normE t.syn s by unfold nrmV nrmE; rw [ht]; exact ⟨rfl,rfl⟩)
  clear ht
  dsimp only [Option.getD,Option.isSome]
  have hal:=(Below.refl w1.heap.size w1).alloc (Nat.le_refl _) (.cells #[.string t.name, .int .i64 t.syn, .bool t.single] 62)
  have k0:(w1.alloc (.cells #[.string t.name, .int .i64 t.syn, .bool t.single] 62)).cell? ⟨w1.heap.size,1,none⟩=some (.int .i64 t.syn):=by go_simp
  have HAL:=Lib.hid (HB1.out.trans (hal.mono (Nat.le_of_lt hsz1)))
  have HN:=Lib.hid (show normS t.syn s=(formS t.syn s).bind fun f=>if cleanB s=true /\ cleanB f=true then some f else none from rfl)
  have HFm:=Lib.hid (fun f (h:formS t.syn s=some f)=>formS_small hs h)
  obtain ⟨c1,hc1⟩:∃ b,cleanB s=b:=⟨_,rfl⟩
  have HC1:=Lib.hid hc1
  clear hal hc1
  go_wp2_with fail
  refine (rClean_s s _ (by omega)).mono ?_
  rintro e w2 ⟨rfl,rfl⟩
  rw [HC1.out]
  cases c1
  ·have HE2:=Lib.hid (show normS t.syn s=none by rw [HN.out,HC1.out]; cases formS t.syn s <;> simp)
   go_wp2_with fail
   go_ret2
   exact ⟨by rw [HE.out.1,HE.out.2]; unfold normE; rw [HE2.out]; rfl,HAL.out⟩
  ·go_wp2_with fail
   refine (rform_s t.syn s _ hs).mono ?_
   rintro e w2 ⟨f,rfl,hg,hb⟩
   have HB2:=Lib.hid (HAL.out.trans (hb.mono HAL.out.size)); clear hb k0
   cases hq:formS t.syn s with
   | none =>
    have HE2:=Lib.hid (show normS t.syn s=none by rw [HN.out,hq]; rfl)
    clear hg hq
    go_wp2_with fail
    go_ret2
    exact ⟨by rw [HE.out.1,HE.out.2]; unfold normE; rw [HE2.out]; rfl,HB2.out⟩
   | some g =>
    obtain rfl:=hg g hq
    have hfs:=HFm.out f hq
    obtain ⟨c2,hc2⟩:∃ b,cleanB f=b:=⟨_,rfl⟩
    have HC2:=Lib.hid hc2
    have HE2:=Lib.hid (show normS t.syn s=if c2=true then some f else none by rw [HN.out,hq]; show (if cleanB s=true /\ cleanB f=true then some f else none)=_; rw [HC1.out,hc2]; simp)
    clear hc2 hg hq
    go_wp2_with fail
    refine (rClean_s f _ (by omega)).mono ?_
    rintro e w3 ⟨rfl,rfl⟩
    rw [HC2.out]
    cases c2
    ·have HE3:=Lib.hid (show normS t.syn s=none from HE2.out.trans (by simp))
     go_wp2_with fail
     go_ret2
     exact ⟨by rw [HE.out.1,HE.out.2]; unfold normE; rw [HE3.out]; rfl,HB2.out⟩
    ·have HE3:=Lib.hid (show normS t.syn s=some f from HE2.out.trans (by simp))
     go_wp2_with fail
     go_ret2
     exact ⟨by rw [HE.out.1,HE.out.2]; unfold normE; rw [HE3.out]; rfl,HB2.out⟩
def icells (l:List Nat):List Value:=l.map fun (k:Nat)=>Value.int .i64 (k:Int)
theorem icells_snoc (l:List Nat) (k:Nat):icells (l ++ [k])=icells l ++ [.int .i64 (k:Int)]:=by simp [icells]
theorem info_int:(Tryz.prog.info? 3).map (fun i=>(i.zero,i.size,i.bytes))=some (some (.int .i64 0),1,8):=by kernel_rfl
theorem push_int {ops:Array Oper} {rest:List Oper} {o:Oper} {a:Act} {Q:Exit -> Act -> World -> Prop} (wr:World) {base:Nat} {v:Value} {n:Nat} {xs:List Value} (hown:wr.ownsRow base 3 1 v n xs) (s x:Operand)
  (p:Int) (hgd:o.guard=none)
  (ho:o.op = .call { callee := .builtin .append,args := #[s,x],argTypes := #[160,160] })
  (hs:a.eval s=v) (hx:a.eval x = .slice (some ⟨wr.heap.size,0,none⟩) 1 1) (hn:n + 1 <= 1000000000) (hbase:base <= wr.heap.size)
  (h:∀ v' w',w'.ownsRow base 3 1 v' (n + 1) (xs ++ [.int .i64 p]) -> Below base wr w' -> wpList Tryz.prog ops Q rest (a.put o.dst v') w') :
  wpList Tryz.prog ops Q (o :: rest) a (wr.alloc (.cells #[.int .i64 p] 3)):=by
 obtain ⟨i0,hi,hz0,hz1,hz2⟩:=info_parts info_int
 refine wpList_append_own _ hgd s x 160 ho base 3 i0 (.int .i64 0) 1 8 Tryz.underlying160 hi hz0 hz1 hz2 rfl (by decide) v n xs hs (hown.alloc _) ⟨wr.heap.size,0,none⟩ 1 1 [.int .i64 p] hx rfl
  (cell_one_new _ _ _) (by intro u hu; simp at hu; subst hu; rfl) (by unfold maxLen; omega) (by omega) (by simp; omega) ?_
 intro v' w' h1 h2 _
 refine h v' w' h1 ?_
 exact ((Below.refl base wr).alloc hbase _).grown h2 (by simp; omega) (fun k hk=>(hown.lt k hk).1)
def IntsAt (w:World) (ao:Option Addr) (n cap:Nat) (ks:List Nat):Prop:=
 ks.length=n /\ n <= cap /\ cap <= maxLen /\ (0 < n -> ∃ b off,ao=some ⟨b,off,none⟩ /\ b < w.heap.size /\ ∀ j,j < n -> w.cell? ⟨b,off + j,none⟩=some (.int .i64 ((ks.getD j 0:Nat):Int)))
theorem IntsAt.below {w w':World} {ao:Option Addr} {n cap:Nat} {ks:List Nat} (h:IntsAt w ao n cap ks) (hb:Below w.heap.size w w'):IntsAt w' ao n cap ks:=
 ⟨h.1,h.2.1,h.2.2.1,fun hn=>by
  obtain ⟨b,off,e,hi,hs⟩:=h.2.2.2 hn
  exact ⟨b,off,e,Nat.lt_of_lt_of_le hi hb.size,fun j hj=>cell_later hb (hs j hj)⟩⟩
theorem ints_own {w:World} {base n:Nat} {ao:Option Addr} {cap:Nat} {l:List Nat} (h:w.ownsRow base 3 1 (.slice ao n cap) n (icells l)) (hn:l.length=n):IntsAt w ao n cap l:=by
 have h0:=h
 rcases h.2 with ⟨e,rfl⟩ | ⟨g,cap',cur,e,hb,hg,hc,hm,hcs,ht⟩
 ·simp only [Value.slice.injEq] at e
  obtain ⟨rfl,_,rfl⟩:=e
  exact ⟨hn,Nat.le_refl _,by unfold maxLen; omega,fun h=>absurd h (Nat.lt_irrefl _)⟩
 ·simp only [Value.slice.injEq] at e
  obtain ⟨rfl,_,rfl⟩:=e
  refine ⟨hn,hc,hm,fun h1=>⟨g,0,rfl, ?_,fun j hj => ?_⟩⟩
  ·rcases Nat.lt_or_ge g w.heap.size with h' | h'
   ·exact h'
   ·simp [Array.getElem?_eq_none h'] at hg
  ·have:=h0.cells (g:=g) rfl j (.int .i64 ((l.getD j 0:Nat):Int)) (by
    unfold icells
    rw [List.getElem?_map,List.getD_eq_getElem?_getD,List.getElem?_eq_getElem (by omega)]; rfl)
   rw [Go.WideShapes.add_plain] at this
   exact this
structure LnR (w wr:World) (C:List Cl) (n:ByteArray) (v:Value) (ks:List Nat) (cur:ByteArray) (r:Int):Prop where
 own:wr.ownsRow w.heap.size 3 1 v ks.length (icells ks)
 ix:ClIx C cur r
 all:lineS C n=ks.map (clAt C) ++ lineS C cur
 lt:∀ k ∈ ks,k < C.length
 low:Below w.heap.size w wr
set_option maxHeartbeats 8000000 in
theorem lineage7_s (v:Value) (ts:List Ty) (cs:List Cl) (n:ByteArray) (w:World) (h:SchV w v ts cs) (hn:n.size <= 1000000000) :
  Calls Tryz.prog 141 #[v, .string n] w fun e w'=>∃ ao cap ks,e = .returned (.slice ao ks.length cap) /\ IntsAt w' ao ks.length cap ks /\ FreshA w.heap.size ao /\ ks.map (clAt (soundC ts cs))=lineS (soundC ts cs) n /\ (∀ k ∈ ks,k < (soundC ts cs).length) /\ ks.length <= 32 /\ Below w.heap.size w w':=by
 have h':=h
 obtain ⟨ao,k,cap,bo,m,dap,rfl,_⟩:=h'
 have hb0:Below w.heap.size w (w.alloc (.cells #[.slice ao k cap, .slice bo m dap] 25)):=(Below.refl _ _).alloc (Nat.le_refl _) _
 have HB0:=Lib.hid hb0
 have HC:=Lib.hid (sound7_s _ ts cs _ (h.below hb0))
 have HS:=Lib.hid (sound_soundC ts cs)
 have HL:=Lib.hid (Nat.le_trans (lineS_small (sound_soundC ts cs) n) (soundC_len ts cs))
 obtain ⟨C,hC⟩:∃ x,soundC ts cs=x:=⟨_,rfl⟩
 rw [hC] at HC HS HL ⊢
 clear h hb0 hC
 go_enter Tryz.func141,Tryz.ntmps141
 go_wp2_with fail
 refine HC.out.mono ?_
 rintro e w1 ⟨u,rfl,⟨ao',k',cap',co,cn,cc,rfl,_,hCl,_,hsC⟩,hb⟩
 have HB1:=Lib.hid (HB0.out.trans (hb.mono (by simp)))
 have HCl:=Lib.hid hCl
 have HsC:=Lib.hid hsC
 have hfd:=field_classes ao' k' cap' co cn cc
 have HCt:=Lib.hid (fun x W (hx:x.size <= 1000000000) (hb:Below w1.heap.size w1 W)=>classAt_s co cn cc C x W (hCl.below hb) (fun t ht=>(hsC t ht).1) hx)
 have hcl:=hCl.1
 have HLen:=Lib.hid hcl
 have hcx:=hCl.2.2.1
 unfold maxLen at hcx
 clear hb hCl hsC HC HB0 hcl
 go_wp2_with fail
 refine (HCt.out n _ hn (Below.refl _ _)).mono ?_
 rintro e w2 ⟨r,rfl,hix,hb⟩
 have L0:Hid (LnR w2 w2 C n (.slice none 0 0) [] n r):=Lib.hid ⟨World.ownsRow_nil _ _ _ _,hix,rfl,(fun k hk=>by cases hk),Below.refl _ _⟩
 have HX2:=Lib.hid hb
 clear hb hix hfd
 go_wp2_with fail
 go_loopw [5,7] (fun s5 s7 wr=>∃ (ks:List Nat) (ao:Option Addr) (cap:Nat) (cur:ByteArray) (r:Int),s5 = .slice ao ks.length cap /\ s7 = .int .i64 r /\ Hid (LnR w2 wr C n (.slice ao ks.length cap) ks cur r)) (fun s5 _ _=>40 - lenOf s5)
 case atStart=>exact ⟨[],none,0,n,r,rfl,rfl,L0⟩
 case round =>
  clear L0
  obtain ⟨ks,ao,cap,cur,r,rfl,rfl,HLn⟩:=hrel
  rcases HLn.out.ix with ⟨q,rfl,hq,hcl⟩ | ⟨rfl,hcl⟩
  ·have d1:(0:Int) <= (q:Int):=by omega
   have hstep:=lineS_step HS.out hcl
   have hlen:ks.length + 1 <= 32:=by
    have h1:=HL.out
    rw [HLn.out.all,hstep,List.length_append,List.length_map,List.length_cons] at h1
    omega
   have hall:lineS C n=(ks ++ [q]).map (clAt C) ++ lineS C (clAt C q).super:=by
    rw [HLn.out.all,hstep,List.map_append,List.append_assoc]; rfl
   have hq2:q < cn:=by rw [<- HLen.out]; exact hq
   have d2:(q:Int) < (cn:Int):=by omega
   obtain ⟨b,off,rfl,hbl,hs⟩:=HCl.out.2.2.2 (by omega)
   obtain ⟨y0,y1,_,_⟩:=hs q hq2
   have hsu:=(HsC.out _ (cl_mem C q hq)).2.1
   obtain ⟨su,hsu2⟩:∃ x,(clAt C q).super=x:=⟨_,rfl⟩
   rw [hsu2] at y1 hsu hall
   have HA:=Lib.hid hall
   have HY:=Lib.hid (cell_later HX2.out y1)
   have hown:=HLn.out.own
   have hbig:=HLn.out.low.size
   clear hs y0 y1 hall hstep hsu2 hcl
   go_wp2_with (at_builtin; go_must (refine push_int wr hown (.tmp 23) (.tmp 25) (q:Int) ?_ ?_ ?_ ?_ ?_ ?_ ?_; exact rfl; exact rfl; exact rfl; exact rfl; omega; exact hbig; intro v3 w3 hown3 hb3; obtain ⟨ao3,cap3,rfl⟩:=own_slc hown3; have HO3:=Lib.hid hown3; have HB3:=Lib.hid (HLn.out.low.trans hb3); have y3:=cell_later HB3.out HY.out; clear hown3 hb3))
   have HB13:=Lib.hid (HX2.out.trans (HB3.out.mono HX2.out.size))
   refine (HCt.out su _ hsu HB13.out).mono ?_
   rintro e w4 ⟨r',rfl,hix',hb⟩
   have L4:Hid (LnR w2 w4 C n (.slice ao3 (ks.length + 1) cap3) (ks ++ [q]) su r'):=Lib.hid ⟨by
    rw [List.length_append,icells_snoc]
    exact own_below HO3.out hb,hix',HA.out,(fun k hk=>by
     rcases List.mem_append.1 hk with h | h
     ·exact HLn.out.lt k h
     ·rw [List.mem_singleton.1 h]; exact hq),HB3.out.trans (hb.mono HB3.out.size)⟩
   clear hb hix' y3
   go_wp2_with fail
   go_roundw
   case rel=>exact ⟨ks ++ [q],ao3,cap3,su,r',by rw [List.length_append]; rfl,rfl,by rw [List.length_append]; exact L4⟩
   case measure=>simp [lenOf]; omega
  ·have d1:¬ (0:Int) <= (-1:Int):=by decide
   have hall:=HLn.out.all
   rw [lineS_none hcl,List.append_nil] at hall
   have HA:=Lib.hid hall
   have hl:=HL.out
   clear hall hcl
   go_wp2_with fail
   go_ret
   exact ⟨_,_,ks,rfl,ints_own HLn.out.own rfl,(fun b off e=>by subst e; exact Nat.le_trans (Nat.le_trans HB1.out.size HX2.out.size) (HLn.out.own.lt b rfl).1),HA.out.symm,HLn.out.lt,by have:=hl; rw [HA.out,List.length_map] at this; exact this,HB1.out.trans ((HX2.out.trans (HLn.out.low.mono HX2.out.size)).mono HB1.out.size)⟩
end Go.Proofs.YtmmdaegdkikkpaaGreatDoor
end
