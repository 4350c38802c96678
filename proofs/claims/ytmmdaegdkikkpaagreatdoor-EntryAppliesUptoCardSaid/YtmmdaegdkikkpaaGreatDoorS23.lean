/-
  Texts of the schema layer and of those beneath it, joined: EntNvR, EntMd, EntNrw, EntEq. Conditions stand at each contract.
-/
import Derived.Test.YtmmdaegdkikkpaaGreatDoorS22
set_option linter.unusedVariables false
set_option linter.unusedSimpArgs false
set_option linter.unnecessarySimpa false

section
set_option maxRecDepth 100000
namespace Go.Proofs.YtmmdaegdkikkpaaGreatDoor
open Go.RowKit Go.PlainAid
structure RNI (T:List Ty) (n:ByteArray) (vs:List ByteArray) (w:World) (box:Obj) (k:Nat) (v:Value) (wr:World):Prop where
 zero:∀ q,q < k -> nrmE T n (partAt vs q)=0
 row:wr.ownsRow (w.heap.size + 1) 9 1 v k (scells (fmsL T n (vs.take k)))
 box:Kb wr w.heap.size box
 low:Below w.heap.size w wr
theorem RNI.below {T:List Ty} {n:ByteArray} {vs:List ByteArray} {w:World} {box:Obj} {k:Nat} {v:Value} {wr V:World} (h:RNI T n vs w box k v wr) (hb:Below wr.heap.size wr V):RNI T n vs w box k v V:=
 ⟨h.zero,own_below h.row hb,h.box.step hb,h.low.trans (hb.mono h.low.size)⟩
theorem nodup_snoc {l:List ByteArray} {i:Nat} (hi:i < l.length) (h:(l.take i).Nodup) (k:∀ q,q < i -> partAt l q ≠ partAt l i):(l.take (i + 1)).Nodup:=by
 rw [take_snoc l i hi]
 refine List.nodup_append.2 ⟨h,List.pairwise_singleton _ _,fun x hx y hy e => ?_⟩
 rw [List.mem_singleton.1 hy] at e
 obtain ⟨q,hq,rfl⟩:=List.getElem_of_mem hx
 rw [List.length_take] at hq
 refine k q (by omega) ?_
 rw [<- e,List.getElem_take,part_get l q (by omega)]
theorem twice_not {l:List ByteArray} {i q:Nat} (hi:i < l.length) (hq:q < i) (e:partAt l q=partAt l i):¬ l.Nodup:=fun h=>by
 rw [part_get l q (by omega),part_get l i hi] at e
 exact (List.pairwise_iff_getElem.1 h) q i (by omega) hi hq e
set_option maxHeartbeats 16000000 in
theorem rnvals_s (to:Option Addr) (tn tc:Nat) (co:Option Addr) (cn cc:Nat) (ts:List Ty) (cs:List Cl) (n:ByteArray) (ao:Option Addr) (m cap:Nat) (vs:List ByteArray) (w:World) (h:SchV w (.agg #[.slice to tn tc, .slice co cn cc]) ts cs) (hv:StrsAt w ao m cap vs) (hn:n.size <= 1000000000) (hz:SmallS vs) (hm:m <= 1100000) :
  Calls Tryz.prog 82 #[.agg #[.slice to tn tc, .slice co cn cc], .string n, .slice ao m cap] w fun e w'=>NvP (soundT ts cs) n vs w e w':=by
 have HV:=Lib.hid hv
 obtain ⟨h1,h2,h3,h4⟩:=hv
 have HVl:=Lib.hid h1
 unfold maxLen at h3
 clear h1 h4
 have HZ:=Lib.hid hz; clear hz
 have HS:=Lib.hid h; clear h
 obtain ⟨T,hT⟩:∃ T,soundT ts cs=T:=⟨_,rfl⟩
 have HN:=Lib.hid (fun (V:World) (s:ByteArray) (hV:SchV V (.agg #[.slice to tn tc, .slice co cn cc]) ts cs) (hs:s.size <= 1100000)=>rnormal7_s _ ts cs n s V hV hn hs)
 rw [hT] at HN ⊢
 clear hT
 have HI0:=Lib.hid (show RNI T n vs w (.cells #[.slice to tn tc, .slice co cn cc] 25) 0 (.slice none 0 0) (w.alloc (.cells #[.slice to tn tc, .slice co cn cc] 25)) from
  ⟨(fun q hq=>absurd hq (Nat.not_lt_zero _)),World.ownsRow_nil _ _ _ _,kbl_new w _,below_al _ _⟩)
 go_enter Tryz.func82,Tryz.ntmps82
 go_wp2_with fail
 go_loopw [8,9,10,11] (fun s8 s9 _ _ wr=>∃ (k:Nat),k <= m /\ s9 = .int .i64 k /\ Hid (RNI T n vs w (.cells #[.slice to tn tc, .slice co cn cc] 25) k s8 wr)) (fun _ s9 _ _ _=>m - (intOf s9).toNat)
 case atStart=>exact ⟨0,Nat.zero_le _,rfl,HI0⟩
 case round =>
  clear HI0
  obtain ⟨k,hk,rfl,HI⟩:=hrel
  by_cases hlt:k < m
  ·have g1:decide ((k:Int) < (m:Int))=true:=decide_eq_true (by omega)
   have g0:(0:Int) <= (k:Int):=by omega
   have g3:(k:Int) < (m:Int):=by omega
   obtain ⟨b,off,rfl,hb,hvs⟩:=(HV.out.below HI.out.low).2.2.2 (by omega)
   have hvc:=hvs k (by rw [HVl.out]; exact hlt)
   clear hvs
   have hvz:=HZ.out _ (part_mem vs k (by rw [HVl.out]; exact hlt))
   have HT:=Lib.hid (fms_take T n vs k (by rw [HVl.out]; exact hlt))
   have HFt:=Lib.hid (fun (c:Int) (hc:nrmE T n (partAt vs k)=c) (h0:c ≠ 0)=>nvE_fault (by rw [HVl.out]; exact hlt) HI.out.zero hc h0)
   have HGo:=Lib.hid (fun (h1:nrmE T n (partAt vs k)=0)=>show ∀ p,p < k + 1 -> nrmE T n (partAt vs p)=0 from fun p hp=>by
    by_cases hpq:p=k
    ·rw [hpq]; exact h1
    ·exact HI.out.zero p (by omega))
   obtain ⟨s,hs⟩:∃ y,partAt vs k=y:=⟨_,rfl⟩
   rw [hs] at hvc hvz HFt HGo HT
   clear hs
   have HCn:=Lib.hid (fun (V:World) (hV:Below wr.heap.size wr V)=>HN.out V s (HS.out.below (HI.out.below hV).low) hvz)
   obtain ⟨c,hc⟩:∃ c,nrmE T n s=c:=⟨_,rfl⟩
   obtain ⟨f,hf⟩:∃ f,nrmV T n s=f:=⟨_,rfl⟩
   rw [hc,hf] at HCn
   rw [hf] at HT
   have HC:=Lib.hid hc
   clear hc hf
   have HVC:=Lib.hid hvc
   clear hvc
   have HSt:=Lib.hid (fun X (hb:Below wr.heap.size wr X)=>show X.cell? ⟨w.heap.size,0,none⟩=some (.slice to tn tc) /\ X.cell? ⟨w.heap.size,1,none⟩=some (.slice co cn cc) /\ X.cell? ⟨b,off + k,none⟩=some (.string s) /\ Hid (Below wr.heap.size wr X) from
    ⟨(HI.out.below hb).box.cell rfl,(HI.out.below hb).box.cell rfl,cell_later hb HVC.out,Lib.hid hb⟩)
   go_wp2_with fail
   have S0:=HSt.out _ (show Below wr.heap.size wr wr.drew from (Below.refl _ _).drew)
   refine wp_region_held_drew (S:=fun X=>X.cell? ⟨w.heap.size,0,none⟩=some (.slice to tn tc) /\ X.cell? ⟨w.heap.size,1,none⟩=some (.slice co cn cc) /\ X.cell? ⟨b,off + k,none⟩=some (.string s) /\ Hid (Below wr.heap.size wr X)) (by kernel_rfl) (S0) (fun hS => ?_)
   refine rgT 0 (some 21) ?_
   refine rgT 1 (some 22) ?_
   refine rgT 2 (some 23) ?_
   refine rgT 3 (some 24) ?_
   refine rgT 4 (some 25) ?_
   refine rgT 5 (some 26) ?_
   refine rgC 6 (fun K hK => ?_)
   go_simp
   refine (HCn.out _ hS.2.2.2.out).mono ?_
   rintro e W5 ⟨rfl,hb⟩
   have HB5:=Lib.hid (hS.2.2.2.out.trans (hb.mono hS.2.2.2.out.size))
   go_wp2_with fail
   refine hK.out _ _ ?_ (fun hHeld => ?_)
   ·exact HSt.out _ HB5.out
   clear hK K
   try simp only [Act.put,lsA,lsZ,lsS]
   refine rgT 7 (some 20) ?_
   refine rgT 8 (some 28) ?_
   refine rgT 9 (some 29) ?_
   refine rgT 10 (some 10) ?_
   refine rgT 11 (some 11) ?_
   refine wpAnyH_done (by kernel_rfl) ?_ _
   have HI5:=Lib.hid (HI.out.below HB5.out)
   by_cases h0:c=0
   ·have d3:(c != 0)=false:=by rw [h0]; rfl
    have HG2:=Lib.hid (HGo.out (HC.out.trans h0))
    have hown:=HI5.out.row
    have hbig:w.heap.size + 1 <= W5.heap.size:=HI5.out.box.big
    clear h0
    go_wp2_with (at_builtin; go_must (refine push_str W5 hown (.tmp 33) (.tmp 35) f ?_ ?_ ?_ ?_ ?_ ?_ ?_; exact rfl; exact rfl; exact rfl; exact rfl; omega; exact hbig; intro v3 w3 hown3 hb3))
    go_roundw
    case rel =>
     refine ⟨k + 1,by omega,by go_num,Lib.hid ⟨HG2.out,by rw [HT.out]; simpa [scells] using hown3,(hb3.block _ (Nat.lt_succ_self _)).trans HI5.out.box,HI5.out.low.trans (hb3.mono (Nat.le_succ _))⟩⟩
    case measure=>simp [intOf]; omega
   ·have d3:(c != 0)=true:=by simpa using h0
    have HE:=Lib.hid (HFt.out c HC.out h0)
    clear h0
    go_wp2_with fail
    go_ret2
    exact NvP.no HE.out HI5.out.low
  ·obtain rfl:k=m:=by omega
   have g1:decide ((k:Int) < (k:Int))=false:=decide_eq_false (by omega)
   have hF0:=nvE_end (T:=T) (n:=n) (vs:=vs) (by rw [HVl.out]; exact HI.out.zero)
   have hrow:=HI.out.row
   rw [show vs.take k=vs by rw [<- HVl.out]; exact List.take_length] at hrow
   have HFl:=Lib.hid (show (fmsL T n vs).length=k by rw [fms_len,HVl.out])
   obtain ⟨so,sc,rfl,hst⟩:=strs_own hrow HFl.out
   have HR:=Lib.hid hrow
   have HSt:=Lib.hid hst
   have HFz:=Lib.hid hF0
   have HLw:=Lib.hid HI.out.low
   obtain ⟨F,hF⟩:∃ F,fmsL T n vs=F:=⟨_,rfl⟩
   rw [hF] at HR HSt HFl
   have HFe:=Lib.hid hF
   clear hrow hst hF0 hF HI
   generalize wr=W1 at HR HSt HLw ⊢
   go_wp2_with fail
   go_loopw [12,13] (fun s12 _ wr=>∃ (i:Nat),i <= k /\ s12 = .int .i64 i /\ Hid ((F.take i).Nodup) /\ Hid (Below W1.heap.size W1 wr)) (fun s12 _ _=>k - (intOf s12).toNat)
   case atStart=>exact ⟨0,Nat.zero_le _,rfl,Lib.hid (by rw [List.take_zero]; exact List.Pairwise.nil),Lib.hid (Below.refl _ _)⟩
   case round =>
    obtain ⟨i,hi,rfl,HNd,HB⟩:=hrel
    by_cases hil:i < k
    ·have g1:decide ((i:Int) < (k:Int))=true:=decide_eq_true (by omega)
     obtain ⟨wi,hwi⟩:∃ x,wr=x:=⟨_,rfl⟩
     rw [hwi] at HB ⊢
     clear hwi
     go_wp2_with fail
     go_loopw [13] (fun s13 wr=>∃ (q:Nat),q <= i /\ s13 = .int .i64 q /\ Hid (∀ p,p < q -> partAt F p ≠ partAt F i) /\ Hid (Below W1.heap.size W1 wr)) (fun s13 _=>i - (intOf s13).toNat)
     case atStart=>exact ⟨0,Nat.zero_le _,rfl,Lib.hid (fun p hp=>absurd hp (Nat.not_lt_zero _)),HB⟩
     case round =>
      clear HB
      obtain ⟨q,hq,rfl,HP,HB⟩:=hrel
      by_cases hql:q < i
      ·have g2:decide ((q:Int) < (i:Int))=true:=decide_eq_true (by omega)
       have g3:(0:Int) <= (q:Int):=by omega
       have g4:(q:Int) < (k:Int):=by omega
       have g5:(0:Int) <= (i:Int):=by omega
       have g6:(i:Int) < (k:Int):=by omega
       obtain ⟨b,off,rfl,hb,hvs⟩:=(HSt.out.below HB.out).2.2.2 (by omega)
       have c1:=hvs i (by rw [HFl.out]; exact hil)
       have c2:=hvs q (by rw [HFl.out]; omega)
       clear hvs
       have HHit:=Lib.hid (fun (e:partAt F q=partAt F i)=>twice_not (by rw [HFl.out]; exact hil) hql e)
       obtain ⟨x,hx⟩:∃ x,partAt F i=x:=⟨_,rfl⟩
       obtain ⟨y,hy⟩:∃ x,partAt F q=x:=⟨_,rfl⟩
       rw [hx] at c1 HHit
       rw [hy] at c2 HHit
       have HXY:=Lib.hid (And.intro hx hy)
       clear hx hy
       by_cases hxy:x=y
       ·subst hxy
        have e1:(x.toList == x.toList)=true:=by simp
        have HE:=Lib.hid (nvE_twice (T:=T) (n:=n) (vs:=vs) HFz.out (by rw [HFe.out]; exact HHit.out rfl))
        go_wp2_with fail
        go_quiet (fail)
        go_wp2_with fail
        go_ret2
        exact NvP.no HE.out (HLw.out.trans ((HB.out.trans ((below_drwN _ _).mono HB.out.size)).mono HLw.out.size))
       ·have e1:=beq_bytes hxy
        have HP2:=Lib.hid (show ∀ p,p < q + 1 -> partAt F p ≠ partAt F i from fun p hp=>by
         by_cases e:p=q
         ·rw [e,HXY.out.1,HXY.out.2]; exact fun k=>hxy k.symm
         ·exact HP.out p (by omega))
        clear hxy
        go_wp2_with fail
        go_quiet (fail)
        go_wp2_with fail
        go_roundw
        case rel=>exact ⟨q + 1,by omega,by go_num,HP2,Lib.hid (HB.out.trans ((below_drwN _ _).mono HB.out.size))⟩
        case measure=>simp [intOf]; omega
      ·obtain rfl:q=i:=by omega
       have g2:decide ((q:Int) < (q:Int))=false:=decide_eq_false (by omega)
       have HN2:=Lib.hid (nodup_snoc (by rw [HFl.out]; exact hil) HNd.out HP.out)
       go_wp2_with fail
       go_roundw
       case rel=>exact ⟨q + 1,by omega,by go_num,HN2,HB⟩
       case measure=>simp [intOf]; omega
    ·obtain rfl:i=k:=by omega
     have g2:decide ((i:Int) < (i:Int))=false:=decide_eq_false (by omega)
     have hnd:=HNd.out
     rw [show F.take i=F by rw [<- HFl.out]; exact List.take_length] at hnd
     have HE:=Lib.hid (nvE_ok (T:=T) (n:=n) (vs:=vs) HFz.out (by rw [HFe.out]; exact hnd))
     clear hnd
     go_wp2_with fail
     go_ret2
     exact ⟨_,by rw [HE.out.1]; rfl,by rw [HE.out.2,HFe.out,HFl.out]; exact row_lower (own_below HR.out HB.out) (Nat.le_succ _),HLw.out.trans (HB.out.mono HLw.out.size)⟩
theorem ty_nameB {ts:List Ty} {cs:List Cl} {n:ByteArray} (h:(tyOf (soundT ts cs) n).isSome=true):nameB n=true:=by
 unfold soundT at h
 by_cases hc:chkS ts cs=0
 ·rw [if_pos hc] at h
  cases e:tyOf ts n with
  | none=>rw [e] at h; cases h
  | some t =>
   obtain ⟨j,hj,ej⟩:=List.mem_iff_getElem.1 (tyOf_mem e)
   have h1:=(chk_parts hc).2.2.1 j hj
   have ht:tyAt ts j=t:=by
    unfold tyAt
    rw [List.getD_eq_getElem?_getD,List.getElem?_eq_getElem hj, <- ej]; rfl
   unfold errT at h1
   rw [ht] at h1
   have h2:nameB t.name=true:=by
    cases k:nameB t.name
    ·rw [if_pos k] at h1; cases h1
    ·rfl
   have h3:lowS t.name=lowS n:=by
    unfold tyOf at e
    have:=List.find?_some e
    simpa using this
   rw [<- Nam.nameB_low n, <- h3,Nam.nameB_low]; exact h2
 ·rw [if_neg hc] at h; cases h
theorem edit_light {l:List At} {vs:List ByteArray} (h:LightE l) (hv:∀ v ∈ vs,v.size <= 256) (hl:vs.length <= 10000):Edit l vs:=
 ⟨h.small,by have:=sumV_le (l:=l) fun a ha=>(h.each a ha).len; have:=h.len; omega,by have:=h.len; omega,fun v hv'=>by have:=hv v hv'; omega,hl⟩
def MdP (r:List At × Int) (w:World) (e:Ending) (w':World):Prop := ∃ v,e = .returned (.tuple #[v, .int .i64 r.2]) /\ AttsR w' v r.1 /\ Below w.heap.size w w'
theorem MdP.no {r:List At × Int} {w w':World} {c:Int} (h:r=([],c)) (hb:Below w.heap.size w w'):MdP r w (.returned (.tuple #[.slice none 0 0, .int .i64 c])) w':=
 ⟨_,by rw [h],by rw [h]; exact atts_nil w',hb⟩
set_option maxHeartbeats 16000000 in
theorem modified_s (to:Option Addr) (tn tc:Nat) (co:Option Addr) (cn cc:Nat) (ts:List Ty) (cs:List Cl) (ao:Option Addr) (n cap:Nat) (l:List At) (op:Int) (nm:ByteArray) (vo:Option Addr) (vn vc:Nat) (vs:List ByteArray) (w:World) (h:SchV w (.agg #[.slice to tn tc, .slice co cn cc]) ts cs) (ha:AttrsAt w ao n cap l) (hv:StrsAt w vo vn vc vs) (hl:LightE l) (hz:SmallS vs) (hm:vn <= 10000) (hn:nm.size <= 1100000) (ho:IntOk w) :
  Calls Tryz.prog 86 #[.agg #[.slice to tn tc, .slice co cn cc], .slice ao n cap, .agg #[.int .i64 op, .string nm, .slice vo vn vc]] w fun e w'=>MdP (modR (soundT ts cs) l ⟨op,nm,vs⟩) w e w':=by
 have HS:=Lib.hid h; clear h
 have HA:=Lib.hid ha; clear ha
 have HV:=Lib.hid hv; clear hv
 have HO:=Lib.hid ho; clear ho
 have HVl:=Lib.hid HV.out.1
 have b0:=below_al w (.cells #[.slice to tn tc, .slice co cn cc] 25)
 have b1:=below_al (w.alloc (.cells #[.slice to tn tc, .slice co cn cc] 25)) (.cells #[.int .i64 op, .string nm, .slice vo vn vc] 102)
 have hb:=b0.trans (b1.mono b0.size)
 have hk0:=(kbl_new w (.cells #[.slice to tn tc, .slice co cn cc] 25)).step b1
 have hk1:Kb ((w.alloc (.cells #[.slice to tn tc, .slice co cn cc] 25)).alloc (.cells #[.int .i64 op, .string nm, .slice vo vn vc] 102)) (w.heap.size + 1) (.cells #[.int .i64 op, .string nm, .slice vo vn vc] 102):=by
  have:=kbl_new (w.alloc (.cells #[.slice to tn tc, .slice co cn cc] 25)) (.cells #[.int .i64 op, .string nm, .slice vo vn vc] 102)
  simpa using this
 have HB:=Lib.hid hb
 have HK:=Lib.hid (And.intro hk0 hk1)
 clear b0 b1 hb hk0 hk1
 have HTy:=Lib.hid (fun (V:World) (hb:Below w.heap.size w V)=>typeF_s _ ts cs nm V (HS.out.below hb) (by omega))
 have HNv:=Lib.hid (fun (V:World) (hb:Below w.heap.size w V)=>nvals_s to tn tc co cn cc ts cs nm vo vn vc vs V (HS.out.below hb) (HV.out.below hb) (by omega) hz (by omega) (HO.out.below hb))
 unfold NvP at HNv
 obtain ⟨T,hT⟩:∃ T,soundT ts cs=T:=⟨_,rfl⟩
 rw [hT] at HTy HNv ⊢
 clear hT
 obtain ⟨⟨tn',ty',ts'⟩,htt⟩:∃ t,(tyOf T nm).getD zeroTy=t:=⟨_,rfl⟩
 obtain ⟨tb,htb⟩:∃ b,(tyOf T nm).isSome=b:=⟨_,rfl⟩
 rw [htt,htb] at HTy
 unfold tyV at HTy
 have HTb:=Lib.hid htb
 clear htt htb
 go_enter Tryz.func86,Tryz.ntmps86
 by_cases hop:op=1 ∨ op=2 ∨ op=3
 ·have HOp:=Lib.hid hop
  have d1:decide (op < 1)=false:=decide_eq_false (by omega)
  have d2:decide (3 < op)=false:=decide_eq_false (by omega)
  obtain ⟨c,hc⟩:∃ c,nvE T nm vs=c:=⟨_,rfl⟩
  rw [hc] at HNv
  have HC:=Lib.hid hc
  clear hc hop
  go_wp2_with fail
  refine (HTy.out _ HB.out).mono ?_
  rintro e w1 ⟨rfl,hb⟩
  have hbl:=below_al w1 (.cells #[.string tn', .int .i64 ty', .bool ts'] 62)
  have HB1:=Lib.hid (HB.out.trans ((hb.trans (hbl.mono hb.size)).mono HB.out.size))
  have HK1:=Lib.hid (And.intro ((HK.out.1.step hb).step hbl) ((HK.out.2.step hb).step hbl))
  clear hb hbl
  obtain ⟨c0,c1⟩:(w1.alloc (.cells #[.string tn', .int .i64 ty', .bool ts'] 62)).cell? ⟨w.heap.size,0,none⟩=some (.slice to tn tc) /\ (w1.alloc (.cells #[.string tn', .int .i64 ty', .bool ts'] 62)).cell? ⟨w.heap.size,1,none⟩=some (.slice co cn cc):=⟨HK1.out.1.cell rfl,HK1.out.1.cell rfl⟩
  obtain ⟨m0,m1,m2⟩:(w1.alloc (.cells #[.string tn', .int .i64 ty', .bool ts'] 62)).cell? ⟨w.heap.size + 1,0,none⟩=some (.int .i64 op) /\ (w1.alloc (.cells #[.string tn', .int .i64 ty', .bool ts'] 62)).cell? ⟨w.heap.size + 1,1,none⟩=some (.string nm) /\ (w1.alloc (.cells #[.string tn', .int .i64 ty', .bool ts'] 62)).cell? ⟨w.heap.size + 1,2,none⟩=some (.slice vo vn vc):=⟨HK1.out.2.cell rfl,HK1.out.2.cell rfl,HK1.out.2.cell rfl⟩
  cases tb
  ·go_wp2_with fail
   go_ret2
   exact MdP.no (mod_type HOp.out HTb.out) HB1.out
  ·go_wp2_with fail
   refine (HNv.out _ HB1.out).mono ?_
   rintro e w2 ⟨u,rfl,hrow,hb⟩
   have HB2:=Lib.hid (HB1.out.trans (hb.mono HB1.out.size))
   have HK2:=Lib.hid (HK1.out.2.step hb)
   clear c0 c1 m0 m1 m2
   obtain ⟨m0,m1,m2⟩:w2.cell? ⟨w.heap.size + 1,0,none⟩=some (.int .i64 op) /\ w2.cell? ⟨w.heap.size + 1,1,none⟩=some (.string nm) /\ w2.cell? ⟨w.heap.size + 1,2,none⟩=some (.slice vo vn vc):=⟨HK2.out.cell rfl,HK2.out.cell rfl,HK2.out.cell rfl⟩
   by_cases h0:c=0
   ·subst h0
    have hnl:nvL T nm vs=fmsL T nm vs:=if_pos HC.out
    rw [hnl] at hrow
    obtain ⟨uo,uc,rfl,hst⟩:=strs_own hrow rfl
    have hfl:=fms_len T nm vs
    rw [hfl,HVl.out] at hst ⊢
    have HEd:=Lib.hid (edit_light (vs:=fmsL T nm vs) hl (fun v hv=>clean_sz (fms_clean (nv_fms HC.out).1 v hv)) (by rw [hfl,HVl.out]; exact hm))
    have HAd:=Lib.hid (add_s ao uo n cap vn uc l nm (fmsL T nm vs) w2 (HA.out.below HB2.out) hst HEd.out hn)
    have HRm:=Lib.hid (rem_s ao uo n cap vn uc l nm (fmsL T nm vs) w2 (HA.out.below HB2.out) hst HEd.out hn)
    have HRp:=Lib.hid (rep_s ao uo n cap vn uc l nm (fmsL T nm vs) w2 (HA.out.below HB2.out) hst HEd.out hn)
    clear hb hrow hst hfl hnl
    rcases HOp.out with h1 | h1 | h1
    ·subst h1
     have HE:=Lib.hid (mod_add (T:=T) (l:=l) (m:=⟨1,nm,vs⟩) rfl HTb.out HC.out)
     go_wp2_with fail
     refine HAd.out.mono ?_
     rintro e w3 ⟨v,rfl,⟨ro,rn,rc,rfl,hr⟩,hb⟩
     go_wp2_with fail
     go_ret2
     exact ⟨_,by rw [HE.out]; rfl,⟨ro,rn,rc,rfl,by rw [HE.out]; exact hr⟩,HB2.out.trans (hb.mono HB2.out.size)⟩
    ·subst h1
     have HE:=Lib.hid (mod_rem (T:=T) (l:=l) (m:=⟨2,nm,vs⟩) rfl HTb.out HC.out)
     go_wp2_with fail
     refine HRm.out.mono ?_
     rintro e w3 ⟨v,rfl,⟨ro,rn,rc,rfl,hr⟩,hb⟩
     go_wp2_with fail
     go_ret2
     exact ⟨_,by rw [HE.out]; rfl,⟨ro,rn,rc,rfl,by rw [HE.out]; exact hr⟩,HB2.out.trans (hb.mono HB2.out.size)⟩
    ·subst h1
     have HE:=Lib.hid (mod_rep (T:=T) (l:=l) (m:=⟨3,nm,vs⟩) rfl HTb.out HC.out)
     go_wp2_with fail
     refine HRp.out.mono ?_
     rintro e w3 ⟨v,rfl,⟨ro,rn,rc,rfl,hr⟩,hb⟩
     go_wp2_with fail
     go_ret2
     exact ⟨_,by rw [HE.out]; rfl,⟨ro,rn,rc,rfl,by rw [HE.out]; exact hr⟩,HB2.out.trans (hb.mono HB2.out.size)⟩
   ·have d3:(c != 0)=true:=by simpa using h0
    have HE:=Lib.hid (mod_val (T:=T) (l:=l) (m:=⟨op,nm,vs⟩) HOp.out HTb.out HC.out h0)
    obtain ⟨uo,uc,rfl⟩:=row_slice hrow
    clear hb hrow
    go_wp2_with fail
    go_ret2
    exact MdP.no HE.out HB2.out
 ·have HE:=Lib.hid (mod_op (T:=T) (l:=l) (m:=⟨op,nm,vs⟩) hop)
  by_cases h1:op < 1
  ·have d1:decide (op < 1)=true:=decide_eq_true h1
   clear hop
   go_wp2_with fail
   go_ret2
   exact MdP.no HE.out HB.out
  ·have d1:decide (op < 1)=false:=decide_eq_false h1
   have d2:decide (3 < op)=true:=decide_eq_true (by omega)
   clear hop
   go_wp2_with fail
   go_ret2
   exact MdP.no HE.out HB.out
theorem nm_light {T:List Ty} {l:List At} (h:chkA l=0) (hE:nmE T (nf l)=0):LightE (nmL T (nf l)):=chk_light (nm_chk h hE)
theorem enz_new (w:World) (a b:Obj):Kb (((w.alloc a).alloc b).alloc (.cells #[.string ⟨#[]⟩, .slice none 0 0] 37)) (w.heap.size + 2) (.cells #[.string ⟨#[]⟩, .slice none 0 0] 37):=by
 have:=kbl_new ((w.alloc a).alloc b) (.cells #[.string ⟨#[]⟩, .slice none 0 0] 37)
 simpa using this
set_option maxHeartbeats 16000000 in
theorem enNormal_s (to:Option Addr) (tn tc:Nat) (co:Option Addr) (cn cc:Nat) (ts:List Ty) (cs:List Cl) (en:ByteArray) (ao:Option Addr) (n cap:Nat) (l:List At) (w:World) (h:SchV w (.agg #[.slice to tn tc, .slice co cn cc]) ts cs) (hen:en.size <= 1100000) (ha:AttrsAt w ao n cap l) (hS:SmallA l) (hF:FewV l) (ho:IntOk w) :
  Calls Tryz.prog 25 #[.agg #[.slice to tn tc, .slice co cn cc], .agg #[.string en, .slice ao n cap]] w fun e w'=>EnP (soundT ts cs) (soundC ts cs) en l w e w':=by
 have HS:=Lib.hid h; clear h
 have HA:=Lib.hid ha; clear ha
 have HO:=Lib.hid ho; clear ho
 have hs0:=below_al w (.cells #[.slice to tn tc, .slice co cn cc] 25)
 have HVd:=Lib.hid (fun (V:World) (hb:Below w.heap.size w V) (c:ByteArray) (bo:Option Addr) (bn bc:Nat) (k:List At) (hk:AttrsAt V bo bn bc k) (hl:LightE k)=>validF_s _ ts cs c bo bn bc k V (HS.out.below hb) hk hl.fewE (HO.out.below hb))
 have HNv:=Lib.hid (fun (V:World) (hb:Below w.heap.size w V) (nm:ByteArray) (vo:Option Addr) (vn vc:Nat) (vs:List ByteArray) (hv:StrsAt V vo vn vc vs) (hn:nm.size <= 1000000000) (hz:SmallS vs) (hm:vn <= 1100000)=>nvals_s to tn tc co cn cc ts cs nm vo vn vc vs V (HS.out.below hb) hv hn hz hm (HO.out.below hb))
 obtain ⟨T,hT⟩:∃ T,soundT ts cs=T:=⟨_,rfl⟩
 obtain ⟨C,hC⟩:∃ C,soundC ts cs=C:=⟨_,rfl⟩
 rw [hT] at HNv HVd ⊢
 rw [hC] at HVd ⊢
 clear hT hC
 have hb0:Below w.heap.size w (((w.alloc (.cells #[.slice to tn tc, .slice co cn cc] 25)).alloc (.cells #[.string en, .slice ao n cap] 37)).alloc (.cells #[.string ⟨#[]⟩, .slice none 0 0] 37)):=(hs0.alloc (by simp) _).alloc (by simp; omega) _
 have hk0:Kb (((w.alloc (.cells #[.slice to tn tc, .slice co cn cc] 25)).alloc (.cells #[.string en, .slice ao n cap] 37)).alloc (.cells #[.string ⟨#[]⟩, .slice none 0 0] 37)) w.heap.size (.cells #[.slice to tn tc, .slice co cn cc] 25):=((kbl_new w _).step (below_al _ _)).step (below_al _ _)
 have hk1:Kb (((w.alloc (.cells #[.slice to tn tc, .slice co cn cc] 25)).alloc (.cells #[.string en, .slice ao n cap] 37)).alloc (.cells #[.string ⟨#[]⟩, .slice none 0 0] 37)) (w.heap.size + 1) (.cells #[.string en, .slice ao n cap] 37):=by
  have:=(kbl_new (w.alloc (.cells #[.slice to tn tc, .slice co cn cc] 25)) (.cells #[.string en, .slice ao n cap] 37)).step (below_al _ (.cells #[.string ⟨#[]⟩, .slice none 0 0] 37))
  simpa using this
 have hk2:=enz_new w (.cells #[.slice to tn tc, .slice co cn cc] 25) (.cells #[.string en, .slice ao n cap] 37)
 have HCl:=Lib.hid (Nam.clean0_s en (((w.alloc (.cells #[.slice to tn tc, .slice co cn cc] 25)).alloc (.cells #[.string en, .slice ao n cap] 37)).alloc (.cells #[.string ⟨#[]⟩, .slice none 0 0] 37)) hen)
 have HB0:=Lib.hid hb0
 have HK0:=Lib.hid (And.intro hk0 (And.intro hk1 hk2))
 clear hs0 hb0 hk0 hk1 hk2
 go_enter Tryz.func25,Tryz.ntmps25
 go_wp2_with fail
 refine HCl.out.mono ?_
 rintro e w1 ⟨rfl,hb⟩
 have HB1:=Lib.hid (HB0.out.trans (hb.mono HB0.out.size))
 have HK1:=Lib.hid (And.intro (HK0.out.1.step hb) (And.intro (HK0.out.2.1.step hb) (HK0.out.2.2.step hb)))
 clear hb HCl HB0 HK0
 obtain ⟨cl,hcl⟩:∃ x,Nam.cleanV en=x:=⟨_,rfl⟩
 obtain ⟨ce,hce⟩:∃ x,Nam.cleanE en=x:=⟨_,rfl⟩
 rw [hcl,hce]
 have HCe:=Lib.hid (And.intro hcl hce)
 clear hcl hce
 obtain ⟨e0,e1⟩:w1.cell? ⟨w.heap.size + 1,0,none⟩=some (.string en) /\ w1.cell? ⟨w.heap.size + 1,1,none⟩=some (.slice ao n cap):=⟨HK1.out.2.1.cell rfl,HK1.out.2.1.cell rfl⟩
 by_cases hbad:ce ≠ 0 ∨ cl=⟨#[]⟩
 ·have HE:=Lib.hid (enE_name (T:=T) (cs:=C) (l:=l) (show Nam.cleanE en ≠ 0 ∨ Nam.cleanV en=⟨#[]⟩ by rw [HCe.out.1,HCe.out.2]; exact hbad))
  obtain ⟨r0,r1⟩:w1.cell? ⟨w.heap.size + 2,0,none⟩=some (.string ⟨#[]⟩) /\ w1.cell? ⟨w.heap.size + 2,1,none⟩=some (.slice none 0 0):=⟨HK1.out.2.2.cell rfl,HK1.out.2.2.cell rfl⟩
  have f0:w1.frozen? ⟨w.heap.size + 2,0,none⟩=false:=heap_frozen HK1.out.2.2
  have f1:w1.frozen? ⟨w.heap.size + 2,1,none⟩=false:=heap_frozen HK1.out.2.2
  have HBe:=Lib.hid (below_set1 (below_set1 HB1.out (w.heap.size + 2) 0 (by omega) (.string ⟨#[]⟩)) (w.heap.size + 2) 1 (by omega) (.slice none 0 0))
  by_cases hc0:ce=0
  ·have hcz:cl=⟨#[]⟩:=hbad.resolve_left (fun k=>k hc0)
   subst hc0 hcz
   clear hbad
   go_wp2_with fail
   refine bodyPost_ret (v := .tuple #[.agg #[.string ⟨#[]⟩, .slice none 0 0], .int .i64 5]) (by simp only [results,Tryz.results25]; go_simp) rfl ?_
   exact EnP.no HE.out (by decide) HBe.out
  ·have d1:(ce != 0)=true:=by simpa using hc0
   clear hbad
   go_wp2_with fail
   refine bodyPost_ret (v := .tuple #[.agg #[.string ⟨#[]⟩, .slice none 0 0], .int .i64 5]) (by simp only [results,Tryz.results25]; go_simp) rfl ?_
   exact EnP.no HE.out (by decide) HBe.out
 ·have hc0:ce=0:=Classical.not_not.1 fun k=>hbad (.inl k)
  have hcz:cl ≠ ⟨#[]⟩:=fun k=>hbad (.inr k)
  subst hc0
  have d1:=emp_eq hcz
  have d2:=emp_false hcz
  have HNb:=Lib.hid (show ¬ (Nam.cleanE en ≠ 0 ∨ Nam.cleanV en=⟨#[]⟩) by rw [HCe.out.1,HCe.out.2]; exact hbad)
  have HCk:=Lib.hid (check_s ao n cap l w1 (HA.out.below HB1.out) hS hF)
  clear hbad hcz
  obtain ⟨c,hc⟩:∃ c,chkA l=c:=⟨_,rfl⟩
  rw [hc] at HCk
  have HCc:=Lib.hid hc
  clear hc
  go_wp2_with fail
  refine HCk.out.mono ?_
  rintro e w2 ⟨rfl,hb⟩
  have HB2:=Lib.hid (HB1.out.trans (hb.mono HB1.out.size))
  have HK2:=Lib.hid (And.intro (HK1.out.1.step hb) (And.intro (HK1.out.2.1.step hb) (HK1.out.2.2.step hb)))
  clear hb HCk e0 e1
  obtain ⟨e0,e1⟩:w2.cell? ⟨w.heap.size + 1,0,none⟩=some (.string en) /\ w2.cell? ⟨w.heap.size + 1,1,none⟩=some (.slice ao n cap):=⟨HK2.out.2.1.cell rfl,HK2.out.2.1.cell rfl⟩
  by_cases h0:c=0
  ·subst h0
   have HLt:=Lib.hid (chk_light HCc.out)
   have hbig2:w.heap.size + 3 <= w2.heap.size:=HK2.out.2.2.big
   have HSo:=Lib.hid (sorted_s ao n cap l w2 (HA.out.below HB2.out) HLt.out.few)
   go_wp2_with fail
   refine HSo.out.mono ?_
   rintro e w3 ⟨v,U,rfl,hU,hO,_,hrow,hb⟩
   obtain ⟨so,sc,rfl⟩:=row_slice hrow
   have HB3:=Lib.hid (HB2.out.trans (hb.mono HB2.out.size))
   have hbl:=below_al w3 (.cells #[.string cl, .slice so U.length sc] 37)
   have HUl:=Lib.hid (show (nf l).length=U.length by rw [<- hU,tats_len])
   have HI:=Lib.hid (show NmI T (nf l) w w3.heap.size w2.heap.size cl (.cells #[.slice to tn tc, .slice co cn cc] 25) so U.length sc 0 U (w3.alloc (.cells #[.string cl, .slice so U.length sc] 37)) from
    ⟨(HK2.out.1.step hb).step hbl,(HK2.out.2.2.step hb).step hbl,kbl_new _ _,rfl,own_below hrow hbl,hO.below hbl,(by simpa [nmL] using hU),(fun q hq=>absurd hq (Nat.not_lt_zero _)),HB3.out.trans (hbl.mono HB3.out.size),(fun g e=>by subst e; have:=(hrow.lt g rfl).2; omega),hbig2,by have:=hb.size; omega,hb.size⟩)
   have HLn:=Lib.hid (show ∀ q,q < (nf l).length -> LightE (nf l) from fun _ _=>chk_light (nf_chk HCc.out))
   have HLz:=Lib.hid (chk_light (nf_chk HCc.out))
   obtain ⟨m,hm⟩:∃ m,U.length=m:=⟨_,rfl⟩
   rw [hm] at HI HUl hrow ⊢
   obtain ⟨b9,hb9⟩:∃ x,w3.heap.size=x:=⟨_,rfl⟩
   obtain ⟨L,hL⟩:∃ x,nf l=x:=⟨_,rfl⟩
   have HLe:=Lib.hid hL
   rw [hL] at HI HUl HLz
   clear hb hbl hU hO hrow HLn hm hL e0 e1 HSo
   have hm32:m <= 32:=by have h1:=HUl.out; have h2:=(chk_ok (nf_chk HCc.out)).len; rw [HLe.out] at h2; omega
   obtain ⟨k0,k1⟩:(w3.alloc (.cells #[.string cl, .slice so m sc] 37)).cell? ⟨w3.heap.size,0,none⟩=some (.string cl) /\ (w3.alloc (.cells #[.string cl, .slice so m sc] 37)).cell? ⟨w3.heap.size,1,none⟩=some (.slice so m sc):=⟨HI.out.kN.cell rfl,HI.out.kN.cell rfl⟩
   go_wp2_with fail
   rw [hb9] at HI
   go_loopw [10,11,12,13,43] (fun _ _ _ _ s43 wr=>∃ (i:Nat) (U:List Tr),i <= m /\ s43 = .int .i64 i /\ Hid (NmI T L w b9 w2.heap.size cl (.cells #[.slice to tn tc, .slice co cn cc] 25) so m sc i U wr)) (fun _ _ _ _ s43 _=>m - (intOf s43).toNat)
   case atStart=>exact ⟨0,_,Nat.zero_le _,rfl,HI⟩
   case round =>
    clear HI k0 k1 hb9
    obtain ⟨i,V,hi,rfl,HI⟩:=hrel
    have hbgb:=HI.out.big
    have hszr:=HI.out.kN.big
    by_cases hlt:i < m
    ·have d1:(i:Int) < (m:Int):=by omega
     obtain ⟨g,rfl⟩:∃ g,so=some ⟨g,0,none⟩:=by
      rcases HI.out.row.2 with ⟨e,_⟩ | ⟨g,cp,cur,e,_⟩
      ·simp only [Value.slice.injEq] at e
       omega
      ·simp only [Value.slice.injEq] at e
       exact ⟨g,e.1⟩
     obtain ⟨vo,vc,c1,c2,hst⟩:=HI.out.cell HUl.out hlt
     have hgl:=HI.out.row.lt g rfl
     have hAt:=HLz.out.each (atD L i) (by rw [at_get L i (by rw [HUl.out]; exact hlt)]; exact List.getElem_mem _)
     have HFt:=Lib.hid (fun (c:Int) (hc:nvE T (atD L i).1 (atD L i).2=c) (h0:c ≠ 0)=>show nmE T L=c from by
      unfold nmE; rw [firstE_hit HI.out.zero (by show nvE T (atD L i).1 (atD L i).2 ≠ 0; rw [hc]; exact h0) (by rw [HUl.out]; exact hlt)]; exact hc)
     have HSt:=Lib.hid (fun (W:World) (u:Value) (hW:NmI T L w b9 w2.heap.size cl (.cells #[.slice to tn tc, .slice co cn cc] 25) (some ⟨g,0,none⟩) m sc i V W)=>hW.store HUl.out hlt u)
     obtain ⟨nm,hnm⟩:∃ x,(atD L i).1=x:=⟨_,rfl⟩
     obtain ⟨vs,hvs⟩:∃ x,(atD L i).2=x:=⟨_,rfl⟩
     have hA1:=hAt.nm
     have hA2:=hAt.len
     have hA3:=hAt.each
     rw [hnm,hvs] at HFt HSt
     rw [hnm] at c1 hA1
     rw [hvs] at c2 hst hA2 hA3
     have HA3:=Lib.hid hA3
     obtain ⟨vn,hvn⟩:∃ x,vs.length=x:=⟨_,rfl⟩
     rw [hvn] at c2 hst hA2
     have HVn:=Lib.hid hvn
     have HSv:=Lib.hid hst
     clear hnm hvs hAt hA3 hvn hst
     have hbl:=below_al wr (.cells #[.string nm, .slice vo vn vc] 58)
     have HI4:=Lib.hid (HI.out.below hbl)
     have HNk:=Lib.hid (HNv.out (wr.alloc (.cells #[.string nm, .slice vo vn vc] 58)) HI4.out.low nm vo vn vc vs (HSv.out.below hbl) (by omega) (fun v hv=>by have:=HA3.out v hv; omega) (by omega))
     unfold NvP at HNk
     obtain ⟨q0,q1⟩:(wr.alloc (.cells #[.string nm, .slice vo vn vc] 58)).cell? ⟨w.heap.size,0,none⟩=some (.slice to tn tc) /\ (wr.alloc (.cells #[.string nm, .slice vo vn vc] 58)).cell? ⟨w.heap.size,1,none⟩=some (.slice co cn cc):=⟨HI4.out.kS.cell rfl,HI4.out.kS.cell rfl⟩
     obtain ⟨c,hc⟩:∃ c,nvE T nm vs=c:=⟨_,rfl⟩
     rw [hc] at HNk
     have HC:=Lib.hid hc
     clear hbl hc
     go_wp2_with fail
     refine HNk.out.mono ?_
     rintro e w5 ⟨u,rfl,hrow,hb⟩
     have HI5:=Lib.hid (HI4.out.below hb)
     by_cases h0:c=0
     ·subst h0
      have hnl:nvL T nm vs=fmsL T nm vs:=if_pos HC.out
      rw [hnl,fms_len,HVn.out] at hrow
      have HSrt:=Lib.hid (sortRow_s (wr.alloc (.cells #[.string nm, .slice vo vn vc] 58)).heap.size vn u (fmsL T nm vs) w5 hrow (by rw [fms_len,HVn.out]) (by omega) (nv_fms HC.out).2)
      have HRl:=Lib.hid (fun k e=>(hrow.lt k e).1)
      obtain ⟨uo,uc,rfl⟩:=row_slice hrow
      have hb5:=hb.size
      have HB45:=Lib.hid hb
      clear hb hnl hrow q0 q1 c1 c2
      go_wp2_with fail
      refine HSrt.out.mono ?_
      rintro e w6 ⟨rfl,hrow,hgr⟩
      have hb6:Below (wr.alloc (.cells #[.string nm, .slice vo vn vc] 58)).heap.size w5 w6:=(Below.refl _ _).grown hgr hb5 HRl.out
      have HI6:=Lib.hid (show NmI T L w b9 w2.heap.size cl (.cells #[.slice to tn tc, .slice co cn cc] 25) (some ⟨g,0,none⟩) m sc i V w6 from HI4.out.below (HB45.out.trans hb6))
      have HN7:=Lib.hid (HSt.out w6 (.slice uo vn uc) HI6.out (by
       have h1:(sortU (fmsL T nm vs)).length=vn:=by rw [sortU_len_new (nv_fms HC.out).2,fms_len,HVn.out]
       rw [h1]; exact row_lower hrow (by simp; omega)) (by
       cases hk:(Value.slice uo vn uc).ownBlock with
       | none=>exact .inl rfl
       | some k=>exact .inr fun e=>by have h1:=HRl.out k hk; have:=Option.some.inj e; simp at h1; omega) HC.out)
      obtain ⟨k0,k1⟩:w6.cell? ⟨b9,0,none⟩=some (.string cl) /\ w6.cell? ⟨b9,1,none⟩=some (.slice (some ⟨g,0,none⟩) m sc):=⟨HI6.out.kN.cell rfl,HI6.out.kN.cell rfl⟩
      obtain ⟨_,_,c1,c2,_⟩:=HI6.out.cell HUl.out hlt
      have f1:w6.frozen? ⟨g,i * 2 + 1,none⟩=false:=HI6.out.row.frozenAt _
      clear hrow hgr hb6
      go_wp2_with fail
      go_roundw
      case rel=>exact ⟨i + 1,_,by omega,by go_num,HN7⟩
      case measure=>simp [intOf]; omega
     ·have d3:(c != 0)=true:=by simpa using h0
      have HE:=Lib.hid (enE_nm (T:=T) (cs:=C) HNb.out HCc.out (by rw [HLe.out]; exact HFt.out c HC.out h0) h0)
      obtain ⟨r0,r1⟩:w5.cell? ⟨w.heap.size + 2,0,none⟩=some (.string ⟨#[]⟩) /\ w5.cell? ⟨w.heap.size + 2,1,none⟩=some (.slice none 0 0):=⟨HI5.out.kR.cell rfl,HI5.out.kR.cell rfl⟩
      have f0:w5.frozen? ⟨w.heap.size + 2,0,none⟩=false:=heap_frozen HI5.out.kR
      have f1:w5.frozen? ⟨w.heap.size + 2,1,none⟩=false:=heap_frozen HI5.out.kR
      have HBe:=Lib.hid (below_set1 (below_set1 HI5.out.low (w.heap.size + 2) 0 (by omega) (.string ⟨#[]⟩)) (w.heap.size + 2) 1 (by omega) (.slice none 0 0))
      obtain ⟨uo,uc,rfl⟩:=row_slice hrow
      clear hb hrow
      go_wp2_with fail
      refine bodyPost_ret (v := .tuple #[.agg #[.string ⟨#[]⟩, .slice none 0 0], .int .i64 c]) (by simp only [results,Tryz.results25]; go_simp) rfl ?_
      exact EnP.no HE.out h0 HBe.out
    ·obtain rfl:i=m:=by omega
     have d1:¬ (i:Int) < (i:Int):=by omega
     have HE0:=Lib.hid (show nmE T (nf l)=0 by rw [HLe.out]; exact firstE_zero (by rw [HUl.out]; exact HI.out.zero))
     have HDn:=Lib.hid (show tats V=nmL T L by have:=HI.out.done; rwa [<- HUl.out,List.take_length,List.drop_length,List.append_nil] at this)
     have HVk:=Lib.hid (HVd.out wr HI.out.low cl so i sc (nmL T L) (by rw [<- HDn.out]; exact own_atts HI.out.row HI.out.own) (by rw [<- HLe.out]; exact nm_light HCc.out HE0.out))
     obtain ⟨q0,q1⟩:wr.cell? ⟨w.heap.size,0,none⟩=some (.slice to tn tc) /\ wr.cell? ⟨w.heap.size,1,none⟩=some (.slice co cn cc):=⟨HI.out.kS.cell rfl,HI.out.kS.cell rfl⟩
     obtain ⟨k0,k1⟩:wr.cell? ⟨b9,0,none⟩=some (.string cl) /\ wr.cell? ⟨b9,1,none⟩=some (.slice so i sc):=⟨HI.out.kN.cell rfl,HI.out.kN.cell rfl⟩
     obtain ⟨c,hc⟩:∃ c,vldE T C (nmL T L)=c:=⟨_,rfl⟩
     rw [hc] at HVk
     have HE:=Lib.hid (enE_vld (c:=c) (T:=T) (cs:=C) HNb.out HCc.out HE0.out (by rw [HLe.out]; exact hc))
     clear hc
     go_wp2_with fail
     refine HVk.out.mono ?_
     rintro e w7 ⟨rfl,hb⟩
     have HI7:=Lib.hid (HI.out.below hb)
     clear hb q0 q1 k0 k1
     obtain ⟨k0,k1⟩:w7.cell? ⟨b9,0,none⟩=some (.string cl) /\ w7.cell? ⟨b9,1,none⟩=some (.slice so i sc):=⟨HI7.out.kN.cell rfl,HI7.out.kN.cell rfl⟩
     obtain ⟨r0,r1⟩:w7.cell? ⟨w.heap.size + 2,0,none⟩=some (.string ⟨#[]⟩) /\ w7.cell? ⟨w.heap.size + 2,1,none⟩=some (.slice none 0 0):=⟨HI7.out.kR.cell rfl,HI7.out.kR.cell rfl⟩
     have f0:w7.frozen? ⟨w.heap.size + 2,0,none⟩=false:=heap_frozen HI7.out.kR
     have f1:w7.frozen? ⟨w.heap.size + 2,1,none⟩=false:=heap_frozen HI7.out.kR
     by_cases h0:c=0
     ·subst h0
      have HBe:=Lib.hid (below_set1 (below_set1 HI7.out.low (w.heap.size + 2) 0 (by omega) (.string cl)) (w.heap.size + 2) 1 (by omega) (.slice so i sc))
      have HAe:=Lib.hid (show AttrsAt ((w7.setCell ⟨w.heap.size + 2,0,none⟩ (.string cl)).setCell ⟨w.heap.size + 2,1,none⟩ (.slice so i sc)) so i sc (nmL T L) by
       rw [<- HDn.out]
       exact own_atts (ownsRow_setCell_below (ownsRow_setCell_below HI7.out.row (a:=⟨w.heap.size + 2,0,none⟩) (by show w.heap.size + 2 < w2.heap.size; omega) _) (a:=⟨w.heap.size + 2,1,none⟩) (by show w.heap.size + 2 < w2.heap.size; omega) _)
        ((HI7.out.own.set (a:=⟨w.heap.size + 2,0,none⟩) (by show w.heap.size + 2 < w2.heap.size; omega) _).set (a:=⟨w.heap.size + 2,1,none⟩) (by show w.heap.size + 2 < w2.heap.size; omega) _))
      have HCl2:=Lib.hid (And.intro HCe.out.1 (show nmL T (nf l)=nmL T L by rw [HLe.out]))
      go_wp2_with fail
      refine bodyPost_ret (v := .tuple #[.agg #[.string cl, .slice so i sc], .int .i64 0]) (by simp only [results,Tryz.results25]; go_simp) rfl ?_
      exact EnP.yes HE.out HCl2.out.1 HCl2.out.2 HAe.out HBe.out
     ·have d3:(c != 0)=true:=by simpa using h0
      have HBe:=Lib.hid (below_set1 (below_set1 HI7.out.low (w.heap.size + 2) 0 (by omega) (.string ⟨#[]⟩)) (w.heap.size + 2) 1 (by omega) (.slice none 0 0))
      go_wp2_with fail
      refine bodyPost_ret (v := .tuple #[.agg #[.string ⟨#[]⟩, .slice none 0 0], .int .i64 c]) (by simp only [results,Tryz.results25]; go_simp) rfl ?_
      exact EnP.no HE.out h0 HBe.out
  ·have d3:(c != 0)=true:=by simpa using h0
   have HE:=Lib.hid (enE_chk (T:=T) (cs:=C) HNb.out HCc.out h0)
   obtain ⟨r0,r1⟩:w2.cell? ⟨w.heap.size + 2,0,none⟩=some (.string ⟨#[]⟩) /\ w2.cell? ⟨w.heap.size + 2,1,none⟩=some (.slice none 0 0):=⟨HK2.out.2.2.cell rfl,HK2.out.2.2.cell rfl⟩
   have f0:w2.frozen? ⟨w.heap.size + 2,0,none⟩=false:=heap_frozen HK2.out.2.2
   have f1:w2.frozen? ⟨w.heap.size + 2,1,none⟩=false:=heap_frozen HK2.out.2.2
   have HBe:=Lib.hid (below_set1 (below_set1 HB2.out (w.heap.size + 2) 0 (by omega) (.string ⟨#[]⟩)) (w.heap.size + 2) 1 (by omega) (.slice none 0 0))
   go_wp2_with fail
   refine bodyPost_ret (v := .tuple #[.agg #[.string ⟨#[]⟩, .slice none 0 0], .int .i64 c]) (by simp only [results,Tryz.results25]; go_simp) rfl ?_
   exact EnP.no HE.out h0 HBe.out
set_option maxRecDepth 100000 in
set_option maxHeartbeats 2000000 in
theorem enEq1_s (p q:ByteArray) (vo uo:Option Addr) (vn un vc uc:Nat) (vs us:List ByteArray) (w:World) (h:StrsAt w vo vn vc vs) (k:StrsAt w uo un uc us) (h0:0 < vn) (k0:0 < un) :
  Calls Tryz.prog 146 #[.agg #[.string p, .slice vo vn vc], .agg #[.string q, .slice uo un uc]] w fun e w'=>e = .returned (.bool (decide (p=q /\ vs=us))) /\ Below w.heap.size w w':=by
 obtain ⟨W1,hW1⟩:∃ x,w.alloc (.cells #[.string p, .slice vo vn vc] 58)=x:=⟨_,rfl⟩
 obtain ⟨W2,hW2⟩:∃ x,W1.alloc (.cells #[.string q, .slice uo un uc] 58)=x:=⟨_,rfl⟩
 have hb1:Below w.heap.size w W1:=by rw [<- hW1]; exact (Below.refl _ w).alloc (Nat.le_refl _) _
 have hb2:Below W1.heap.size W1 W2:=by rw [<- hW2]; exact (Below.refl _ W1).alloc (Nat.le_refl _) _
 have X1:ABox W2 w.heap.size p (.slice vo vn vc):=ABox.below (by rw [<- hW1]; exact abox_new w p _) hb2
 have X2:ABox W2 W1.heap.size q (.slice uo un uc):=by rw [<- hW2]; exact abox_new W1 q _
 have hs1:W1.heap.size=w.heap.size + 1:=by rw [<- hW1]; simp
 rw [hs1] at X2
 obtain ⟨x0,x1⟩:=X1.cells
 obtain ⟨y0,y1⟩:=X2.cells
 have HBW:=Lib.hid (hb1.trans (hb2.mono hb1.size))
 have HV:=Lib.hid (h.below HBW.out)
 have HU:=Lib.hid (k.below HBW.out)
 clear h k hb1 hb2 X1 X2 hs1
 subst hW2
 subst hW1
 by_cases hpq:p=q
 ·have q1:(p.toList == q.toList)=true:=by rw [str_eq]; exact decide_eq_true hpq
  have HE:=Lib.hid (show decide (p=q /\ vs=us)=decide (vs=us) by simp [hpq])
  have HS:=Lib.hid (sequal_s vo uo vn un vc uc vs us _ HV.out HU.out h0 k0)
  clear hpq
  go_enter Tryz.func146,Tryz.ntmps146
  go_wp2_with fail
  refine HS.out.mono ?_
  rintro e w' ⟨rfl,hb⟩
  go_wp2_with fail
  go_ret
  exact ⟨by rw [HE.out]; rfl,HBW.out.trans (hb.mono HBW.out.size)⟩
 ·have q1:(p.toList == q.toList)=false:=by rw [str_eq]; exact decide_eq_false hpq
  have HE:=Lib.hid (show decide (p=q /\ vs=us)=false from decide_eq_false fun e=>hpq e.1)
  clear hpq
  go_enter Tryz.func146,Tryz.ntmps146
  go_wp2_with fail
  go_ret
  exact ⟨by rw [HE.out]; rfl,HBW.out⟩
set_option maxRecDepth 100000 in
set_option maxHeartbeats 4000000 in
theorem enEqf_s (ao bo:Option Addr) (n m cap dap:Nat) (T U:List Tr) (w:World) (h:TsAt w ao n cap T) (k:TsAt w bo m dap U) (hT:TOk w T) (hU:TOk w U) (nT:∀ t ∈ T,t.2.2 ≠ []) (nU:∀ t ∈ U,t.2.2 ≠ []) :
  Calls Tryz.prog 145 #[.slice ao n cap, .slice bo m dap, .func (.func 146) #[] #[]] w fun e w'=>e = .returned (.bool (decide (tats T=tats U))) /\ Below w.heap.size w w':=by
 have hTl:T.length=n:=h.1
 have hUl:U.length=m:=k.1
 have hnb:n <= 9223372036854775807:=Nat.le_trans h.2.1 h.2.2.1
 have HT:=Lib.hid h
 have HU:=Lib.hid k
 have HTK:=Lib.hid hT
 have HUK:=Lib.hid hU
 clear h k hT hU
 by_cases hne:n=m
 ·have hn1:((n:Int) != (m:Int))=false:=by simp; omega
  have HNE:=Lib.hid hne
  clear hne
  go_enter Tryz.func145,Tryz.ntmps145
  go_wp2
  go_loopw [7,8,9,17] (fun s7 s8 s9 iv wr=>∃ q:Nat,q <= n /\ iv = .int .i64 q /\ Hid (∀ j,j < q -> atD (tats T) j=atD (tats U) j) /\ Hid (Below w.heap.size w wr)) (fun _ _ _ iv _=>n - (intOf iv).toNat)
  case atStart=>exact ⟨0,Nat.zero_le _,rfl,Lib.hid (fun j hj=>absurd hj (Nat.not_lt_zero _)),Lib.hid (Below.refl _ _)⟩
  case round =>
   obtain ⟨q,hq,rfl,HA,HB⟩:=hrel
   by_cases hlt:q < n
   ·obtain ⟨b,off,rfl,hblt,_⟩:=HT.out.2.2.2 (by omega)
    obtain ⟨c,off2,rfl,hclt,_⟩:=HU.out.2.2.2 (by have:=HNE.out; omega)
    obtain ⟨a0,a1⟩:=ts_at HT.out q hlt
    obtain ⟨b0,b1⟩:=ts_at HU.out q (by have:=HNE.out; omega)
    have a0:=cell_later HB.out a0
    have a1:=cell_later HB.out a1
    have b0:=cell_later HB.out b0
    have b1:=cell_later HB.out b1
    have hx1:=HTK.out _ (tr_mem T q (by omega))
    have hy1:=HUK.out _ (tr_mem U q (by have:=HNE.out; omega))
    have hx2:=nT _ (tr_mem T q (by omega))
    have hy2:=nU _ (tr_mem U q (by have:=HNE.out; omega))
    have HE1:=Lib.hid (atD_tats T q)
    have HE2:=Lib.hid (atD_tats U q)
    obtain ⟨x,hx⟩:∃ x,trD T q=x:=⟨_,rfl⟩
    obtain ⟨y,hy⟩:∃ x,trD U q=x:=⟨_,rfl⟩
    rw [hx] at a0 a1 hx1 hx2 HE1
    rw [hy] at b0 b1 hy1 hy2 HE2
    clear hx hy
    obtain ⟨p,hd,vs⟩:=x
    obtain ⟨r,he,us⟩:=y
    simp only [] at a0 a1 hx1 hx2 HE1 b0 b1 hy1 hy2 HE2
    obtain ⟨vo,vn,vc,rfl,hv⟩:=hx1
    obtain ⟨uo,un,uc,rfl,hu⟩:=hy1
    have h0:0 < vn:=by rw [<- hv.1]; exact List.length_pos_iff.2 hx2
    have k0:0 < un:=by rw [<- hu.1]; exact List.length_pos_iff.2 hy2
    have d1:(q:Int) < (n:Int):=by omega
    have d2:(q:Int) < (m:Int):=by have:=HNE.out; omega
    have d0:(0:Int) <= (q:Int):=by omega
    obtain ⟨W1,hW1⟩:∃ x,wr.alloc (.cells #[.string p, .slice vo vn vc] 58)=x:=⟨_,rfl⟩
    obtain ⟨W2,hW2⟩:∃ x,W1.alloc (.cells #[.string r, .slice uo un uc] 58)=x:=⟨_,rfl⟩
    have hb1:Below wr.heap.size wr W1:=by rw [<- hW1]; exact (Below.refl _ wr).alloc (Nat.le_refl _) _
    have hb2:Below W1.heap.size W1 W2:=by rw [<- hW2]; exact (Below.refl _ W1).alloc (Nat.le_refl _) _
    have X1:ABox W1 wr.heap.size p (.slice vo vn vc):=by rw [<- hW1]; exact abox_new wr p _
    have X1b:ABox W2 wr.heap.size p (.slice vo vn vc):=ABox.below X1 hb2
    have X2:ABox W2 W1.heap.size r (.slice uo un uc):=by rw [<- hW2]; exact abox_new W1 r _
    have hs1:W1.heap.size=wr.heap.size + 1:=by rw [<- hW1]; simp
    rw [hs1] at X2
    obtain ⟨x0,x1⟩:=X1b.cells
    obtain ⟨y0,y1⟩:=X2.cells
    have b01:=cell_later hb1 b0
    have b11:=cell_later hb1 b1
    have HBW:=Lib.hid (HB.out.trans ((hb1.trans (hb2.mono hb1.size)).mono HB.out.size))
    have HV:=Lib.hid (hv.below HBW.out)
    have HUU:=Lib.hid (hu.below HBW.out)
    have HS:=Lib.hid (enEq1_s p r vo uo vn un vc uc vs us W2 HV.out HUU.out h0 k0)
    clear hb1 hb2 X1 X1b X2 hs1 hv hu
    subst hW2
    subst hW1
    obtain ⟨z,hz⟩:∃ x,decide (p=r /\ vs=us)=x:=⟨_,rfl⟩
    rw [hz] at HS
    cases z with
    | true =>
     have HX:=Lib.hid (show atD (tats T) q=atD (tats U) q by
      have:=of_decide_eq_true hz
      rw [HE1.out,HE2.out,this.1,this.2])
     clear hz
     go_wp2_with fail
     refine HS.out.mono ?_
     rintro e w5 ⟨rfl,hb⟩
     have HB6:=Lib.hid (HBW.out.trans (hb.mono HBW.out.size))
     go_wp2_with fail
     go_roundw
     case rel =>
      refine ⟨q + 1,by omega,by go_num,Lib.hid fun j hj => ?_,HB6⟩
      by_cases e:j=q
      ·rw [e]; exact HX.out
      ·exact HA.out j (by omega)
     case measure=>simp [intOf]; omega
    | false =>
     have HX:=Lib.hid (show decide (tats T=tats U)=false from decide_eq_false fun e=>of_decide_eq_false hz (by
      have h5:=HE1.out
      rw [e,HE2.out] at h5
      exact ⟨(congrArg Prod.fst h5).symm,(congrArg Prod.snd h5).symm⟩))
     clear hz
     go_wp2_with fail
     refine HS.out.mono ?_
     rintro e w5 ⟨rfl,hb⟩
     have HB6:=Lib.hid (HBW.out.trans (hb.mono HBW.out.size))
     go_wp2_with fail
     go_ret
     exact ⟨by rw [HX.out]; rfl,HB6.out⟩
   ·have HX:=Lib.hid (show decide (tats T=tats U)=true from decide_eq_true (ats_ext (by rw [tats_len,tats_len]; have:=HNE.out; omega) fun j hj=>HA.out j (by rw [tats_len] at hj; omega)))
    go_wp2_with fail
    go_ret
    exact ⟨by rw [HX.out]; rfl,HB.out⟩
 ·have HX:=Lib.hid (show decide (tats T=tats U)=false from decide_eq_false fun e=>hne (by rw [<- hTl, <- hUl, <- tats_len T, <- tats_len U,e]))
  have hn1:((n:Int) != (m:Int))=true:=by simp; omega
  go_enter Tryz.func145,Tryz.ntmps145
  go_wp2_with fail
  go_ret
  exact ⟨by rw [HX.out]; rfl,Below.refl _ _⟩
set_option maxHeartbeats 4000000 in
theorem identical_s (en fn:ByteArray) (ao bo:Option Addr) (n m cap dap:Nat) (l k:List At) (w:World) (h:AttrsAt w ao n cap l) (h':AttrsAt w bo m dap k) (hl:∀ a ∈ l,a.2 ≠ []) (hk:∀ a ∈ k,a.2 ≠ []) :
  Calls Tryz.prog 85 #[.agg #[.string en, .slice ao n cap], .agg #[.string fn, .slice bo m dap]] w fun e w'=>e = .returned (.bool (decide (en=fn /\ l=k))) /\ Below w.heap.size w w':=by
 have b0:=below_al w (.cells #[.string en, .slice ao n cap] 37)
 have b1:=below_al (w.alloc (.cells #[.string en, .slice ao n cap] 37)) (.cells #[.string fn, .slice bo m dap] 37)
 have HB:=Lib.hid (b0.trans (b1.mono b0.size))
 obtain ⟨T,hT,tT,aT⟩:=ats_ts (h.below HB.out)
 obtain ⟨U,hU,tU,aU⟩:=ats_ts (h'.below HB.out)
 have HS:=Lib.hid (enEqf_s ao bo n m cap dap T U _ aT aU tT tU (fun t ht=>hl (t.1,t.2.2) (by rw [<- hT]; exact List.mem_map.2 ⟨t,ht,rfl⟩)) (fun t ht=>hk (t.1,t.2.2) (by rw [<- hU]; exact List.mem_map.2 ⟨t,ht,rfl⟩)))
 rw [hT,hU] at HS
 clear b0 b1 h h' hT tT aT hU tU aU hl hk
 obtain ⟨z,hz⟩:∃ z,decide (en=fn)=z:=⟨_,rfl⟩
 have q1:(en.toList == fn.toList)=z:=by rw [str_eq]; exact hz
 obtain ⟨y,hy⟩:∃ y,decide (l=k)=y:=⟨_,rfl⟩
 rw [hy] at HS
 have HD:=Lib.hid (show decide (en=fn /\ l=k)=(z && y) by rw [<- hz, <- hy]; exact Bool.decide_and _ _)
 clear hz hy
 go_enter Tryz.func85,Tryz.ntmps85
 cases z
 ·go_wp2_with fail
  go_ret
  exact ⟨by rw [HD.out]; rfl,HB.out⟩
 ·go_wp2_with fail
  refine HS.out.mono ?_
  rintro e w1 ⟨rfl,hb⟩
  go_wp2_with fail
  go_ret
  exact ⟨by rw [HD.out]; rfl,HB.out.trans (hb.mono HB.out.size)⟩
end Go.Proofs.YtmmdaegdkikkpaaGreatDoor
end
