/-
  Texts of the schema layer and of those beneath it, joined: EntRn, EntTx. Conditions stand at each contract.
-/
import Derived.Test.YtmmdaegdkikkpaaGreatDoorS25
set_option linter.unusedVariables false
set_option linter.unusedSimpArgs false
set_option linter.unnecessarySimpa false

section
set_option maxRecDepth 100000
namespace Go.Proofs.YtmmdaegdkikkpaaGreatDoor
open Go.RowKit Go.PlainAid
theorem step_push_attr_g {ops:Array Oper} {o:Oper} {a:Act} {K:Act -> World -> Prop} {Q:Exit -> Act -> World -> Prop} {E:Prop} (wr:World) {base:Nat} {v:Value} {n:Nat} {xs:List Value} (hown:wr.ownsRow base 58 2 v n xs) (s x:Operand)
  (p:ByteArray) (hd:Value) (hone:hd.oneCell'=true) (hgd:o.guard=none)
  (ho:o.op = .call { callee := .builtin .append,args := #[s,x],argTypes := #[35,35] })
  (hs:a.eval s=v) (hx:a.eval x = .slice (some ⟨wr.heap.size,0,none⟩) 1 1) (hn:n + 1 <= 1000000000) (hbase:base <= wr.heap.size)
  (h:∀ v' w',w'.ownsRow base 58 2 v' (n + 1) (xs ++ [.string p,hd]) -> (wr.alloc (.cells #[.string p,hd] 58)).grownBy w' v.ownBlock -> (v'.ownBlock=v.ownBlock ∨ v'.ownBlock=some (wr.heap.size + 1)) -> K (a.put o.dst v') w') :
  if Region.wanted o (yielded ops a.tmps)=true then Oper.wp Tryz.prog o a (wr.alloc (.cells #[.string p,hd] 58)) K Q else E:=by
 obtain ⟨i0,hi,hz0,hz1,hz2⟩:=info_parts info_attr
 refine step_append_own_at hgd s x 35 ho base 58 i0 (.agg #[.string ⟨#[]⟩, .slice none 0 0]) 2 40 Tryz.underlying35 hi hz0 hz1 hz2 rfl (by decide) v n xs hs (hown.alloc _) ⟨wr.heap.size,0,none⟩ 1 1 [.string p,hd] hx rfl
  (fun j u hj => ?_) (by intro u hu; simp at hu; rcases hu with rfl | rfl; rfl; exact hone) (by unfold maxLen; omega) (by omega) (by simp; omega) ?_
 ·have hb:=heap_alloc_new wr (.cells #[.string p,hd] 58)
  match j,hj with
  | 0,hj=>cases hj; exact heap_cell hb rfl
  | 1,hj=>cases hj; exact heap_cell hb rfl
  | k + 2,hj=>simp at hj
 ·intro v' w' h1 h2 h3
  exact h v' w' h1 h2 (by simpa using h3)
structure RnI (T:List Ty) (l:List At) (w:World) (b9 base:Nat) (cl:ByteArray) (sch ent:Obj) (so:Option Addr) (sc i:Nat) (U:List Tr) (wr:World):Prop where
 kS:Kb wr w.heap.size sch
 kE:Kb wr (w.heap.size + 1) ent
 kR:Kb wr (w.heap.size + 2) (.cells #[.string ⟨#[]⟩, .slice none 0 0] 37)
 kN:Kb wr b9 (.cells #[.string cl, .slice so i sc] 37)
 row:wr.ownsRow base 58 2 (.slice so i sc) i (tcells U)
 own:TOwn wr base (.slice so i sc) U
 done:tats U=((names l).take i).map fun n=>(n,fmsL T n (orig l n))
 zero:∀ q,q < i -> nvE T (partAt (names l) q) (orig l (partAt (names l) q))=0
 low:Below w.heap.size w wr
 big:w.heap.size + 3 <= b9 /\ b9 < base /\ base <= wr.heap.size
theorem RnI.below {T:List Ty} {l:List At} {w:World} {b9 base:Nat} {cl:ByteArray} {sch ent:Obj} {so:Option Addr} {sc i:Nat} {U:List Tr} {wr V:World} (h:RnI T l w b9 base cl sch ent so sc i U wr) (hb:Below wr.heap.size wr V):RnI T l w b9 base cl sch ent so sc i U V:=
 ⟨h.kS.step hb,h.kE.step hb,h.kR.step hb,h.kN.step hb,own_below h.row hb,h.own.below hb,h.done,h.zero,h.low.trans (hb.mono h.low.size),h.big.1,h.big.2.1,Nat.le_trans h.big.2.2 hb.size⟩
theorem RnI.push {T:List Ty} {l:List At} {w:World} {b9 base:Nat} {cl:ByteArray} {sch ent:Obj} {so:Option Addr} {sc i:Nat} {U:List Tr} {W w':World} (h:RnI T l w b9 base cl sch ent so sc i U W) (hi:i < (names l).length) {nm:ByteArray} (hnm:partAt (names l) i=nm) {u:Value} {fs:List ByteArray} (hfs:fmsL T nm (orig l nm)=fs)
  (hu:W.ownsRow base 9 1 u fs.length (scells fs)) (hne:u.ownBlock=none ∨ u.ownBlock ≠ (Value.slice so i sc).ownBlock) (hz:nvE T nm (orig l nm)=0) (o:Obj)
  (hg:(W.drew.alloc o).grownBy w' (Value.slice so i sc).ownBlock) {so':Option Addr} {sc':Nat} (hrow:w'.ownsRow base 58 2 (.slice so' (i + 1) sc') (i + 1) (tcells U ++ [.string nm,u])) (hat:(Value.slice so' (i + 1) sc').ownBlock=(Value.slice so i sc).ownBlock ∨ (Value.slice so' (i + 1) sc').ownBlock=some (W.heap.size + 1)) :
  Below base W w' /\ Kb w' b9 (.cells #[.string cl, .slice so i sc] 37) /\ RnI T l w b9 base cl sch ent so' sc' (i + 1) (U ++ [(nm,u,fs)]) (w'.setCell ⟨b9,1,none⟩ (.slice so' (i + 1) sc')):=by
 have hB:Below W.heap.size W (W.drew.alloc o):=((Below.refl _ _).drew).alloc (Nat.le_refl _) o
 have hbg:=h.big
 have hW:Below base W w':=(hB.mono hbg.2.2).grown hg (by simp; omega) (fun k hk=>(h.row.lt k hk).1)
 have e:∀ {b ob},b < base -> Kb W b ob -> Kb w' b ob:=fun hlt hk=>(hW.block _ hlt).trans hk
 have hat':(Value.slice so' (i + 1) sc').ownBlock=(Value.slice so i sc).ownBlock ∨ (Value.slice so' (i + 1) sc').ownBlock=some (W.drew.alloc o).heap.size:=by
  rcases hat with k | k
  ·exact .inl k
  ·exact .inr (by rw [k]; simp)
 have hT:=(h.own.below hB).grown hg hat'
 have hun:u.ownBlock=none ∨ u.ownBlock ≠ (Value.slice so' (i + 1) sc').ownBlock:=by
  cases hk:u.ownBlock with
  | none=>exact .inl rfl
  | some k =>
   refine .inr fun e => ?_
   have hlt:=(hu.lt k hk).2
   rcases hat with q | q
   ·rw [hk] at hne
    rcases hne with c | c
    ·cases c
    ·exact c (e.trans q)
   ·have:=Option.some.inj (e.trans q); omega
 refine ⟨hW,e (by omega) h.kN,(e (by omega) h.kS).set _ _ (by show w.heap.size ≠ b9; omega),(e (by omega) h.kE).set _ _ (by show w.heap.size + 1 ≠ b9; omega),(e (by omega) h.kR).set _ _ (by show w.heap.size + 2 ≠ b9; omega), ?_, ?_, ?_, ?_,fun q hq => ?_,(h.low.trans (hW.mono (by omega))).setCell (p:=⟨b9,1,none⟩) (by show w.heap.size <= b9; omega) _,hbg.1,hbg.2.1, ?_⟩
 ·exact Lib.heap_setCell_same (e (by omega) h.kN) _
 ·rw [tcells_append]
  exact ownsRow_setCell_below hrow (a:=⟨b9,1,none⟩) hbg.2.1 _
 ·exact (hT.snoc (t:=(nm,u,fs)) ((own_below hu hB).kept hg hne) hun).set (a:=⟨b9,1,none⟩) hbg.2.1 _
 ·rw [tats_append,h.done,take_snoc _ i hi,List.map_append,hnm, <- hfs]; rfl
 ·by_cases k:q=i
  ·rw [k,hnm]; exact hz
  ·exact h.zero q (by omega)
 ·have:=hW.size; rw [set_size]; omega
theorem orig_light {l:List At} (h:LightE l) (n:ByteArray):(orig l n).length <= 20 /\ ∀ v ∈ orig l n,v.size <= 300:=by
 unfold orig
 cases c:(l.filter fun a=>decide (lowS a.1=n)).getLast? with
 | none=>exact ⟨Nat.zero_le _,fun v hv=>by cases hv⟩
 | some a =>
  have hm:=(List.mem_filter.1 (List.mem_of_getLast? c)).1
  exact ⟨(h.each a hm).len,(h.each a hm).each⟩
theorem spec_light {T:List Ty} {l:List At} (h:chkA l=0) (hE:nmE T (nf l)=0):LightE ((names l).map fun n=>(n,fmsL T n (orig l n))):=by
 have k:=chk_ok h
 have hl:=chk_light h
 have hm:=chk_light (nf_chk h)
 refine ⟨by rw [List.length_map, <- nf_lenN]; exact hm.len,fun a ha => ?_⟩
 obtain ⟨n,hn,rfl⟩:=List.mem_map.1 ha
 have hmem:(n,vals l n) ∈ nf l:=nf_mem.2 ⟨rfl,names_vals.1 hn⟩
 have hz:=nm_all hE _ hmem
 rw [<- orig_nvE k hn] at hz
 refine ⟨(hm.each _ hmem).nm,by rw [fms_len]; exact (orig_light hl n).1,fun v hv => ?_⟩
 have:=clean_sz (fms_clean (nv_fms hz).1 v hv)
 omega
set_option maxHeartbeats 16000000 in
theorem rEnNormal_s (to:Option Addr) (tn tc:Nat) (co:Option Addr) (cn cc:Nat) (ts:List Ty) (cs:List Cl) (en:ByteArray) (ao:Option Addr) (n cap:Nat) (l:List At) (w:World) (h:SchV w (.agg #[.slice to tn tc, .slice co cn cc]) ts cs) (hen:en.size <= 1100000) (ha:AttrsAt w ao n cap l) (hS:SmallA l) :
  Calls Tryz.prog 26 #[.agg #[.slice to tn tc, .slice co cn cc], .agg #[.string en, .slice ao n cap]] w fun e w'=>EnP (soundT ts cs) (soundC ts cs) en l w e w':=by
 have HS:=Lib.hid h; clear h
 have HA:=Lib.hid ha; clear ha
 have hs0:=below_al w (.cells #[.slice to tn tc, .slice co cn cc] 25)
 have HVd:=Lib.hid (fun (V:World) (hb:Below w.heap.size w V) (c:ByteArray) (bo:Option Addr) (bn bc:Nat) (k:List At) (hk:AttrsAt V bo bn bc k) (hl:LightE k)=>valid7_s to tn tc co cn cc ts cs c bo bn bc k V (HS.out.below hb) hk hl)
 have HNv:=Lib.hid (fun (V:World) (hb:Below w.heap.size w V) (nm:ByteArray) (vo:Option Addr) (vn vc:Nat) (vs:List ByteArray) (hv:StrsAt V vo vn vc vs) (hn:nm.size <= 1000000000) (hz:SmallS vs) (hm:vn <= 1100000)=>rnvals_s to tn tc co cn cc ts cs nm vo vn vc vs V (HS.out.below hb) hv hn hz hm)
 obtain ⟨T,hT⟩:∃ T,soundT ts cs=T:=⟨_,rfl⟩
 obtain ⟨C,hC⟩:∃ C,soundC ts cs=C:=⟨_,rfl⟩
 rw [hT] at HNv HVd ⊢
 rw [hC] at HVd ⊢
 clear hT hC
 have hb0:Below w.heap.size w (((w.alloc (.cells #[.slice to tn tc, .slice co cn cc] 25)).alloc (.cells #[.string en, .slice ao n cap] 37)).alloc (.cells #[.string ⟨#[]⟩, .slice none 0 0] 37)):=(hs0.alloc (by simp) _).alloc (by simp; omega) _
 have hk0:Kb (((w.alloc (.cells #[.slice to tn tc, .slice co cn cc] 25)).alloc (.cells #[.string en, .slice ao n cap] 37)).alloc (.cells #[.string ⟨#[]⟩, .slice none 0 0] 37)) w.heap.size (.cells #[.slice to tn tc, .slice co cn cc] 25):=((kbl_new w _).step (below_al _ _)).step (below_al _ _)
 have hk1:Kb (((w.alloc (.cells #[.slice to tn tc, .slice co cn cc] 25)).alloc (.cells #[.string en, .slice ao n cap] 37)).alloc (.cells #[.string ⟨#[]⟩, .slice none 0 0] 37)) (w.heap.size + 1) (.cells #[.string en, .slice ao n cap] 37):=by
  have:=(kbl_new (w.alloc (.cells #[.slice to tn tc, .slice co cn cc] 25)) (.cells #[.string en, .slice ao n cap] 37)).step (below_al _ (.cells #[.string ⟨#[]⟩, .slice none 0 0] 37))
  simpa using this
 have hk2:=enz_new w (.cells #[.slice to tn tc, .slice co cn cc] 25) (.cells #[.string en, .slice ao n cap] 37)
 have HCl:=Lib.hid (Nam.rclean0_s en (((w.alloc (.cells #[.slice to tn tc, .slice co cn cc] 25)).alloc (.cells #[.string en, .slice ao n cap] 37)).alloc (.cells #[.string ⟨#[]⟩, .slice none 0 0] 37)) hen)
 have HB0:=Lib.hid hb0
 have HK0:=Lib.hid (And.intro hk0 (And.intro hk1 hk2))
 clear hs0 hb0 hk0 hk1 hk2
 go_enter Tryz.func26,Tryz.ntmps26
 go_wp2_with fail
 refine HCl.out.mono ?_
 rintro e w1 ⟨rfl,hb⟩
 have HB1:=Lib.hid (HB0.out.trans (hb.mono HB0.out.size))
 have HK1:=Lib.hid (And.intro (HK0.out.1.step hb) (And.intro (HK0.out.2.1.step hb) (HK0.out.2.2.step hb)))
 clear hb HCl HB0 HK0
 obtain ⟨cl,hcl⟩:∃ x,Nam.cleanV en=x:=⟨_,rfl⟩
 obtain ⟨ce,hce⟩:∃ x,Nam.cleanE en=x:=⟨_,rfl⟩
 rw [hcl,hce]
 have HCe:=Lib.hid (And.intro hcl hce)
 clear hcl hce
 obtain ⟨e0,e1⟩:w1.cell? ⟨w.heap.size + 1,0,none⟩=some (.string en) /\ w1.cell? ⟨w.heap.size + 1,1,none⟩=some (.slice ao n cap):=⟨HK1.out.2.1.cell rfl,HK1.out.2.1.cell rfl⟩
 by_cases hbad:ce ≠ 0 ∨ cl=⟨#[]⟩
 ·have HE:=Lib.hid (enE_name (T:=T) (cs:=C) (l:=l) (show Nam.cleanE en ≠ 0 ∨ Nam.cleanV en=⟨#[]⟩ by rw [HCe.out.1,HCe.out.2]; exact hbad))
  obtain ⟨r0,r1⟩:w1.cell? ⟨w.heap.size + 2,0,none⟩=some (.string ⟨#[]⟩) /\ w1.cell? ⟨w.heap.size + 2,1,none⟩=some (.slice none 0 0):=⟨HK1.out.2.2.cell rfl,HK1.out.2.2.cell rfl⟩
  have f0:w1.frozen? ⟨w.heap.size + 2,0,none⟩=false:=heap_frozen HK1.out.2.2
  have f1:w1.frozen? ⟨w.heap.size + 2,1,none⟩=false:=heap_frozen HK1.out.2.2
  have HBe:=Lib.hid (below_set1 (below_set1 HB1.out (w.heap.size + 2) 0 (by omega) (.string ⟨#[]⟩)) (w.heap.size + 2) 1 (by omega) (.slice none 0 0))
  by_cases hc0:ce=0
  ·have hcz:cl=⟨#[]⟩:=hbad.resolve_left (fun k=>k hc0)
   subst hc0 hcz
   clear hbad
   go_wp2_with fail
   refine bodyPost_ret (v := .tuple #[.agg #[.string ⟨#[]⟩, .slice none 0 0], .int .i64 5]) (by simp only [results,Tryz.results26]; go_simp) rfl ?_
   exact EnP.no HE.out (by decide) HBe.out
  ·have d1:(ce != 0)=true:=by simpa using hc0
   clear hbad
   go_wp2_with fail
   refine bodyPost_ret (v := .tuple #[.agg #[.string ⟨#[]⟩, .slice none 0 0], .int .i64 5]) (by simp only [results,Tryz.results26]; go_simp) rfl ?_
   exact EnP.no HE.out (by decide) HBe.out
 ·have hc0:ce=0:=Classical.not_not.1 fun k=>hbad (.inl k)
  have hcz:cl ≠ ⟨#[]⟩:=fun k=>hbad (.inr k)
  subst hc0
  have d1:=emp_eq hcz
  have d2:=emp_false hcz
  have HNb:=Lib.hid (show ¬ (Nam.cleanE en ≠ 0 ∨ Nam.cleanV en=⟨#[]⟩) by rw [HCe.out.1,HCe.out.2]; exact hbad)
  have HCk:=Lib.hid (rcheck_s ao n cap l w1 (HA.out.below HB1.out) hS)
  clear hbad hcz
  obtain ⟨c,hc⟩:∃ c,chkA l=c:=⟨_,rfl⟩
  rw [hc] at HCk
  have HCc:=Lib.hid hc
  clear hc
  go_wp2_with fail
  refine HCk.out.mono ?_
  rintro e w2 ⟨rfl,hb⟩
  have HB2:=Lib.hid (HB1.out.trans (hb.mono HB1.out.size))
  have HK2:=Lib.hid (And.intro (HK1.out.1.step hb) (And.intro (HK1.out.2.1.step hb) (HK1.out.2.2.step hb)))
  clear hb HCk e0 e1
  obtain ⟨e0,e1⟩:w2.cell? ⟨w.heap.size + 1,0,none⟩=some (.string en) /\ w2.cell? ⟨w.heap.size + 1,1,none⟩=some (.slice ao n cap):=⟨HK2.out.2.1.cell rfl,HK2.out.2.1.cell rfl⟩
  by_cases h0:c=0
  ·subst h0
   have HLt:=Lib.hid (chk_light HCc.out)
   have HOk:=Lib.hid (chk_ok HCc.out)
   have hbig2:w.heap.size + 3 <= w2.heap.size:=HK2.out.2.2.big
   have hbl:=below_al w2 (.cells #[.string cl, .slice none 0 0] 37)
   have HB3:=Lib.hid (HB2.out.trans (hbl.mono HB2.out.size))
   have HK3:=Lib.hid (And.intro (HK2.out.1.step hbl) (And.intro (HK2.out.2.1.step hbl) (And.intro (HK2.out.2.2.step hbl) (kbl_new w2 (.cells #[.string cl, .slice none 0 0] 37)))))
   have HNm:=Lib.hid (rnamesO_s ao n cap l (w2.alloc (.cells #[.string cl, .slice none 0 0] 37)) (HA.out.below HB3.out) HLt.out.few)
   obtain ⟨k0,k1⟩:(w2.alloc (.cells #[.string cl, .slice none 0 0] 37)).cell? ⟨w.heap.size + 1,0,none⟩=some (.string en) /\ (w2.alloc (.cells #[.string cl, .slice none 0 0] 37)).cell? ⟨w.heap.size + 1,1,none⟩=some (.slice ao n cap):=⟨HK3.out.2.1.cell rfl,HK3.out.2.1.cell rfl⟩
   obtain ⟨b9,hb9⟩:∃ x,w2.heap.size=x:=⟨_,rfl⟩
   have hsz3:(w2.alloc (.cells #[.string cl, .slice none 0 0] 37)).heap.size=w2.heap.size + 1:=by simp
   clear hbl e0 e1 HK2
   go_wp2_with fail
   refine HNm.out.mono ?_
   rintro e w3 ⟨v,rfl,hNr,hb⟩
   obtain ⟨no,nc,rfl,hNs⟩:=strs_own hNr rfl
   obtain ⟨nn,hnn⟩:∃ x,(names l).length=x:=⟨_,rfl⟩
   rw [hnn] at hNs hNr ⊢
   have hsz:=hb.size
   rw [hsz3] at hsz
   have HI:=Lib.hid (show RnI T l w w2.heap.size w3.heap.size cl (.cells #[.slice to tn tc, .slice co cn cc] 25) (.cells #[.string en, .slice ao n cap] 37) none 0 0 [] w3 from
    ⟨HK3.out.1.step hb,HK3.out.2.1.step hb,HK3.out.2.2.1.step hb,HK3.out.2.2.2.step hb,World.ownsRow_nil _ _ _ _,(fun t ht=>by cases ht),rfl,(fun q hq=>absurd hq (Nat.not_lt_zero _)),HB3.out.trans (hb.mono HB3.out.size),by omega,by omega,Nat.le_refl _⟩)
   have HNs:=Lib.hid hNs
   have HNfr:=Lib.hid (show ∀ g off,no=some ⟨g,off,none⟩ -> 0 < nn -> g < w3.heap.size /\ g ≠ w2.heap.size from fun g off e _=>by
    subst e
    rcases hNr.2 with ⟨e2,_⟩ | ⟨g',cp,cur,e2,h2,h3⟩
    ·cases e2
    ·simp only [Value.slice.injEq,Option.some.injEq,Addr.mk.injEq,and_true] at e2
     obtain ⟨⟨rfl,_⟩,_⟩:=e2
     rw [hsz3] at h2
     rcases Nat.lt_or_ge g w3.heap.size with h' | h'
     ·exact ⟨h',by omega⟩
     ·rw [Array.getElem?_eq_none h'] at h3; cases h3.1)
   have HNl:=Lib.hid hNs.1
   have hn40:nn <= 40:=by have h1:=HNl.out; have h2:=(chk_light (nf_chk HCc.out)).len; rw [nf_lenN] at h2; omega
   have HAl:=Lib.hid HA.out.1
   have hn32:n <= 40:=by have h1:=HLt.out.len; rw [HAl.out] at h1; exact h1
   have hncap:=hNs.2.1
   have hnmx:=hNs.2.2.1
   unfold maxLen at hnmx
   obtain ⟨bs,hbs⟩:∃ x,w3.heap.size=x:=⟨_,rfl⟩
   rw [hb9,hbs] at HI HNfr
   have HBs:=Lib.hid hbs
   clear hb hNs hNr hnn HNm HK3 HB3 k0 k1 hsz3 hb9 hbs hsz
   go_wp2_with fail
   go_loopw [11,12,13,14,15] (fun s11 _ _ _ _ wr=>∃ (i:Nat) (so:Option Addr) (sc:Nat) (U:List Tr),i <= nn /\ s11 = .int .i64 i /\ Hid (RnI T l w b9 bs cl (.cells #[.slice to tn tc, .slice co cn cc] 25) (.cells #[.string en, .slice ao n cap] 37) so sc i U wr) /\ Hid (StrsAt wr no nn nc (names l))) (fun s11 _ _ _ _ _=>nn - (intOf s11).toNat)
   case atStart=>exact ⟨0,none,0,[],Nat.zero_le _,rfl,HI,HNs⟩
   case round =>
    clear HI
    obtain ⟨i,so,sc,U,hi,rfl,HI,HNs⟩:=hrel
    have hbgb:=HI.out.big
    by_cases hlt:i < nn
    ·have g1:decide ((i:Int) < (nn:Int))=true:=decide_eq_true (by omega)
     have g0:(0:Int) <= (i:Int):=by omega
     have g3:(i:Int) < (nn:Int):=by omega
     obtain ⟨nb,noff,rfl,hnb,hns⟩:=HNs.out.2.2.2 (by omega)
     have hnc:=hns i (by rw [HNl.out]; exact hlt)
     clear hns
     have HNS:=Lib.hid hnb
     have HNb9:=Lib.hid (HNfr.out nb noff rfl (by omega))
     have HMn:=Lib.hid (part_mem (names l) i (by rw [HNl.out]; exact hlt))
     have HTk:=Lib.hid (show i < (names l).length by rw [HNl.out]; exact hlt)
     obtain ⟨p,hp⟩:∃ x,partAt (names l) i=x:=⟨_,rfl⟩
     rw [hp] at hnc HMn
     have HP:=Lib.hid hp
     have HNc:=Lib.hid hnc
     have hpz:p.size <= 300:=by
      have h1:(p,vals l p) ∈ nf l:=nf_mem.2 ⟨rfl,names_vals.1 HMn.out⟩
      exact ((chk_light (nf_chk HCc.out)).each _ h1).nm
     clear hp hnc hnb
     obtain ⟨e0,e1⟩:wr.cell? ⟨w.heap.size + 1,0,none⟩=some (.string en) /\ wr.cell? ⟨w.heap.size + 1,1,none⟩=some (.slice ao n cap):=⟨HI.out.kE.cell rfl,HI.out.kE.cell rfl⟩
     obtain ⟨W1,hW1⟩:∃ x,wr=x:=⟨_,rfl⟩
     rw [hW1] at HI HNs HNc HNS e0 e1 ⊢
     clear hW1
     go_wp2_with fail
     go_loopw [12,13] (fun s12 s13 wr=>∃ (k:Nat) (vo:Option Addr) (vn vc:Nat),k <= n /\ s13 = .int .i64 k /\ s12 = .slice vo vn vc /\ Hid (StrsAt wr vo vn vc (orig (l.take k) p)) /\ Hid (Below W1.heap.size W1 wr)) (fun _ s13 _=>n - (intOf s13).toNat)
     case atStart=>exact ⟨0,none,0,0,Nat.zero_le _,rfl,rfl,Lib.hid (strs_nil _),Lib.hid (Below.refl _ _)⟩
     case round =>
      clear e0 e1
      obtain ⟨k,vo,vn,vc,hk,rfl,rfl,HV,HB⟩:=hrel
      have HIk:=Lib.hid (HI.out.below HB.out)
      obtain ⟨e0,e1⟩:wr.cell? ⟨w.heap.size + 1,0,none⟩=some (.string en) /\ wr.cell? ⟨w.heap.size + 1,1,none⟩=some (.slice ao n cap):=⟨HIk.out.kE.cell rfl,HIk.out.kE.cell rfl⟩
      by_cases hkl:k < n
      ·have g4:decide ((k:Int) < (n:Int))=true:=decide_eq_true (by omega)
       have g5:(0:Int) <= (k:Int):=by omega
       have g6:(k:Int) < (n:Int):=by omega
       obtain ⟨ab,aoff,rfl,hab,haa⟩:=(HA.out.below HIk.out.low).2.2.2 (by omega)
       obtain ⟨ha0,uo,un,uc,ha1,hau⟩:=haa k hkl
       clear haa
       have hyz:=(HLt.out.each (atD l k) (by rw [at_get l k (by rw [HAl.out]; exact hkl)]; exact List.getElem_mem _)).nm
       have HSn:=Lib.hid (orig_snoc l k p (by rw [HAl.out]; exact hkl))
       obtain ⟨y,hy⟩:∃ x,(atD l k).1=x:=⟨_,rfl⟩
       rw [hy] at ha0 hyz HSn
       clear hy
       have HLY:=Lib.hid (fun V=>rLower_s y V (by omega))
       obtain ⟨ly,hly⟩:∃ x,lowS y=x:=⟨_,rfl⟩
       rw [hly] at HLY HSn
       clear hly
       have HAU:=Lib.hid hau
       have HC0:=Lib.hid (And.intro ha0 ha1)
       have HSt:=Lib.hid (fun X (hb:Below wr.heap.size wr X)=>show X.cell? ⟨w.heap.size + 1,1,none⟩=some (.slice (some ⟨ab,aoff,none⟩) n cap) /\ X.cell? ⟨ab,aoff + k * 2,none⟩=some (.string y) /\ X.cell? ⟨nb,noff + i,none⟩=some (.string p) /\ Hid (Below wr.heap.size wr X) from
        ⟨(HIk.out.kE.step hb).cell rfl,cell_later hb HC0.out.1,cell_later (HB.out.trans (hb.mono HB.out.size)) HNc.out,Lib.hid hb⟩)
       obtain ⟨z,hz⟩:∃ z,decide (ly=p)=z:=⟨_,rfl⟩
       have q1:(ly.toList == p.toList)=z:=by rw [str_eq]; exact hz
       clear ha0 ha1 hau
       go_wp2_with fail
       have S0:=HSt.out _ (show Below wr.heap.size wr wr.drew from (Below.refl _ _).drew)
       clear e0 e1
       refine wp_region_held_drew (S:=fun X=>X.cell? ⟨w.heap.size + 1,1,none⟩=some (.slice (some ⟨ab,aoff,none⟩) n cap) /\ X.cell? ⟨ab,aoff + k * 2,none⟩=some (.string y) /\ X.cell? ⟨nb,noff + i,none⟩=some (.string p) /\ Hid (Below wr.heap.size wr X)) (by kernel_rfl) (S0) (fun hS => ?_)
       refine rgT 0 (some 55) ?_
       refine rgT 1 (some 56) ?_
       refine rgT 2 (some 57) ?_
       refine rgT 3 (some 58) ?_
       refine rgT 4 (some 59) ?_
       refine rgT 5 (some 60) ?_
       refine rgT 7 (some 62) ?_
       refine rgT 8 (some 63) ?_
       refine rgT 9 (some 64) ?_
       refine rgT 10 (some 65) ?_
       refine rgC 6 (fun K hK => ?_)
       go_simp
       refine (HLY.out _).mono ?_
       rintro e W5 ⟨rfl,hb⟩
       have HB5:=Lib.hid (hS.2.2.2.out.trans (hb.mono hS.2.2.2.out.size))
       go_wp2_with fail
       refine hK.out _ _ ?_ (fun hHeld => ?_)
       ·exact HSt.out _ HB5.out
       clear hK K
       try simp only [Act.put,lsA,lsZ,lsS]
       refine rgT 11 (some 66) ?_
       refine wpAnyH_done (by kernel_rfl) ?_ _
       have HI5:=Lib.hid (HIk.out.below HB5.out)
       have e1:W5.cell? ⟨w.heap.size + 1,1,none⟩=some (.slice (some ⟨ab,aoff,none⟩) n cap):=HI5.out.kE.cell rfl
       have c1:W5.cell? ⟨ab,aoff + k * 2 + 1,none⟩=some (.slice uo un uc):=cell_later HB5.out HC0.out.2
       cases z
       ·have HS2:=Lib.hid (show orig (l.take (k + 1)) p=orig (l.take k) p by rw [HSn.out,if_neg (of_decide_eq_false hz)])
        clear hz
        go_wp2_with fail
        go_roundw
        case rel=>exact ⟨k + 1,vo,vn,vc,by omega,by go_num,rfl,Lib.hid (by rw [HS2.out]; exact HV.out.below HB5.out),Lib.hid (HB.out.trans (HB5.out.mono HB.out.size))⟩
        case measure=>simp [intOf]; omega
       ·have HS2:=Lib.hid (show orig (l.take (k + 1)) p=(atD l k).2 by rw [HSn.out,if_pos (of_decide_eq_true hz)])
        clear hz
        go_wp2_with fail
        go_roundw
        case rel=>exact ⟨k + 1,uo,un,uc,by omega,by go_num,rfl,Lib.hid (by rw [HS2.out]; exact HAU.out.below HB5.out),Lib.hid (HB.out.trans (HB5.out.mono HB.out.size))⟩
        case measure=>simp [intOf]; omega
      ·obtain rfl:k=n:=by omega
       have g4:decide ((k:Int) < (k:Int))=false:=decide_eq_false (by omega)
       have hV:=HV.out
       rw [show l.take k=l by rw [<- HAl.out]; exact List.take_length] at hV
       have HOl:=Lib.hid (orig_light HLt.out p)
       have hvn:vn <= 20:=by have h1:=hV.1; have h2:=HOl.out.1; omega
       have HVl:=Lib.hid hV.1
       have HFt:=Lib.hid (fun (c:Int) (hc:nvE T p (orig l p)=c) (h0:c ≠ 0)=>show nmE T (nf l)=c from by
        rw [<- orig_err HOk.out,firstE_hit HI.out.zero (by show nvE T (partAt (names l) i) (orig l (partAt (names l) i)) ≠ 0; rw [HP.out,hc]; exact h0) HTk.out]
        show nvE T (partAt (names l) i) (orig l (partAt (names l) i))=c
        rw [HP.out]; exact hc)
       obtain ⟨vs,hvs⟩:∃ x,orig l p=x:=⟨_,rfl⟩
       rw [hvs] at hV HOl HVl HFt
       have HVs:=Lib.hid hvs
       have HVV:=Lib.hid hV
       clear hvs hV
       have HNk:=Lib.hid (fun (X:World) (hb:Below wr.heap.size wr X)=>HNv.out X (HIk.out.below hb).low p vo vn vc vs (HVV.out.below hb) (by omega) (fun v hv=>by have:=HOl.out.2 v hv; omega) (by omega))
       unfold NvP at HNk
       obtain ⟨c,hc⟩:∃ c,nvE T p vs=c:=⟨_,rfl⟩
       rw [hc] at HNk
       have HC:=Lib.hid hc
       clear hc
       have HSt:=Lib.hid (fun X (hb:Below wr.heap.size wr X)=>show X.cell? ⟨w.heap.size,0,none⟩=some (.slice to tn tc) /\ X.cell? ⟨w.heap.size,1,none⟩=some (.slice co cn cc) /\ X.cell? ⟨nb,noff + i,none⟩=some (.string p) /\ Hid (Below wr.heap.size wr X) from
        ⟨(HIk.out.kS.step hb).cell rfl,(HIk.out.kS.step hb).cell rfl,cell_later (HB.out.trans (hb.mono HB.out.size)) HNc.out,Lib.hid hb⟩)
       go_wp2_with fail
       have S0:=HSt.out _ (show Below wr.heap.size wr wr.drew from (Below.refl _ _).drew)
       clear e0 e1
       refine wp_region_held_drew (S:=fun X=>X.cell? ⟨w.heap.size,0,none⟩=some (.slice to tn tc) /\ X.cell? ⟨w.heap.size,1,none⟩=some (.slice co cn cc) /\ X.cell? ⟨nb,noff + i,none⟩=some (.string p) /\ Hid (Below wr.heap.size wr X)) (by kernel_rfl) (S0) (fun hS => ?_)
       refine rgT 0 (some 74) ?_
       refine rgT 1 (some 75) ?_
       refine rgT 2 (some 76) ?_
       refine rgT 3 (some 77) ?_
       refine rgT 4 (some 78) ?_
       refine rgT 5 (some 79) ?_
       refine rgC 6 (fun K hK => ?_)
       go_simp
       refine (HNk.out _ hS.2.2.2.out).mono ?_
       rintro e W5 ⟨u,rfl,hrow,hb⟩
       have HBf:=Lib.hid hS.2.2.2.out
       have HB5:=Lib.hid (hS.2.2.2.out.trans (hb.mono hS.2.2.2.out.size))
       go_wp2_with fail
       refine hK.out _ _ ?_ (fun hHeld => ?_)
       ·exact HSt.out _ HB5.out
       clear hK K
       try simp only [Act.put,lsA,lsZ,lsS]
       refine rgT 7 (some 73) ?_
       refine rgT 8 (some 81) ?_
       refine rgT 9 (some 82) ?_
       refine rgT 10 (some 14) ?_
       refine rgT 11 (some 15) ?_
       refine wpAnyH_done (by kernel_rfl) ?_ _
       have HI5:=Lib.hid (HIk.out.below HB5.out)
       by_cases h0:c=0
       ·subst h0
        have d3:((0:Int) != 0)=false:=rfl
        have hnl:nvL T p vs=fmsL T p vs:=if_pos HC.out
        rw [hnl,fms_len,HVl.out] at hrow
        obtain ⟨uo,uc,rfl⟩:=row_slice hrow
        have hwr:=HIk.out.big.2.2
        have hsz5:=HBf.out.size
        have hne:(Value.slice uo vn uc).ownBlock=none ∨ (Value.slice uo vn uc).ownBlock ≠ (Value.slice so i sc).ownBlock:=by
         cases hk:(Value.slice uo vn uc).ownBlock with
         | none=>exact .inl rfl
         | some q =>
          refine .inr fun e => ?_
          have h1:=(hrow.lt q hk).1
          have h2:=(HIk.out.row.lt q e.symm).2
          omega
        have HPu:=Lib.hid (fun (o:Obj) (V:World) (so':Option Addr) (sc':Nat)=>HI5.out.push (w':=V) (so':=so') (sc':=sc') HTk.out HP.out (u := .slice uo vn uc) (fs:=fmsL T p vs) (by rw [HVs.out]) (by rw [fms_len,HVl.out]; exact row_lower hrow (by omega)) hne (by rw [HVs.out]; exact HC.out) o)
        have hk5:=HI5.out.kN.big
        have HNk5:=Lib.hid (fun (V:World) (hV:Below bs W5 V) (u:Value)=>show StrsAt (V.setCell ⟨b9,1,none⟩ u) (some ⟨nb,noff,none⟩) nn nc (names l) from by
         obtain ⟨n1,n2,n3,n4⟩:=HNs.out.below (HB.out.trans (HB5.out.mono HB.out.size))
         refine ⟨n1,n2,n3,fun hn => ?_⟩
         obtain ⟨b',o',e',hbb,hcc⟩:=n4 hn
         refine ⟨b',o',e',by rw [set_size]; exact Nat.lt_of_lt_of_le hbb hV.size,fun j hj => ?_⟩
         rw [<- hcc j hj]
         simp only [Option.some.injEq,Addr.mk.injEq,and_true] at e'
         obtain ⟨rfl,rfl⟩:=e'
         refine World.cell?_of_block (a:=⟨nb,noff + j,none⟩) ?_
         exact (Below.heap_setCell V ⟨b9,1,none⟩ u nb HNb9.out.2).trans (hV.block nb HNb9.out.1))
        obtain ⟨k0,k1⟩:W5.cell? ⟨b9,0,none⟩=some (.string cl) /\ W5.cell? ⟨b9,1,none⟩=some (.slice so i sc):=⟨HI5.out.kN.cell rfl,HI5.out.kN.cell rfl⟩
        have n5:W5.cell? ⟨nb,noff + i,none⟩=some (.string p):=cell_later (HB.out.trans (HB5.out.mono HB.out.size)) HNc.out
        have hi5:i + 1 <= 1000000000:=by omega
        have hb5:=HI5.out.big.2.2
        clear hrow hne hnl
        go_wp2_with fail
        go_region_law (go_loud (refine step_push_attr_g W5.drew (base:=bs) (v := .slice so i sc) (n:=i) (xs:=tcells U) (show World.ownsRow _ _ _ _ _ _ _ from HI5.out.row) _ _ p (.slice uo vn uc) rfl rfl rfl rfl (by simp [Act.eval,Act.put]) hi5 (by simp; exact hb5) ?_; intro v3 w3 q1 q2 q3; obtain ⟨ao3,cap3,rfl⟩:=row_slice q1; obtain ⟨hB3,hK3,hI3⟩:=HPu.out _ _ _ _ q2 q1 q3; have f3:=heap_frozen (i:=1) hK3; have c3':=heap_cell (i:=1) hK3 rfl; have HB3:=Lib.hid hB3; have HI3:=Lib.hid hI3; clear q1 q2 q3 hB3 hI3 hK3))
        all_goals
         have HN3:=Lib.hid (show StrsAt (w3.setCell ⟨b9,1,none⟩ (.slice ao3 (i + 1) cap3)) (some ⟨nb,noff,none⟩) nn nc (names l) from HNk5.out _ HB3.out _)
         clear HPu HB3 f3 c3'
         go_wp2_with fail
         go_roundw
         case rel=>exact ⟨i + 1,ao3,cap3,_,by omega,by go_num,HI3,HN3⟩
         case measure=>simp [intOf]; omega
       ·have d3:(c != 0)=true:=by simpa using h0
        have HE:=Lib.hid (enE_nm (T:=T) (cs:=C) HNb.out HCc.out (HFt.out c HC.out h0) h0)
        obtain ⟨r0,r1⟩:W5.cell? ⟨w.heap.size + 2,0,none⟩=some (.string ⟨#[]⟩) /\ W5.cell? ⟨w.heap.size + 2,1,none⟩=some (.slice none 0 0):=⟨HI5.out.kR.cell rfl,HI5.out.kR.cell rfl⟩
        have f0:W5.frozen? ⟨w.heap.size + 2,0,none⟩=false:=heap_frozen HI5.out.kR
        have f1:W5.frozen? ⟨w.heap.size + 2,1,none⟩=false:=heap_frozen HI5.out.kR
        have HBe:=Lib.hid (below_set1 (below_set1 HI5.out.low (w.heap.size + 2) 0 (by omega) (.string ⟨#[]⟩)) (w.heap.size + 2) 1 (by omega) (.slice none 0 0))
        obtain ⟨uo,uc,rfl⟩:=row_slice hrow
        clear hrow
        go_wp2_with fail
        refine bodyPost_ret (v := .tuple #[.agg #[.string ⟨#[]⟩, .slice none 0 0], .int .i64 c]) (by simp only [results,Tryz.results26]; go_simp) rfl ?_
        exact EnP.no HE.out h0 HBe.out
    ·obtain rfl:i=nn:=by omega
     have g1:decide ((i:Int) < (i:Int))=false:=decide_eq_false (by omega)
     have HE0:=Lib.hid (show nmE T (nf l)=0 by
      rw [<- orig_err HOk.out]
      exact firstE_zero (by rw [HNl.out]; exact HI.out.zero))
     have HDn:=Lib.hid (show tats U=(names l).map fun n=>(n,fmsL T n (orig l n)) by have:=HI.out.done; rwa [<- HNl.out,List.take_length] at this)
     have HSl:=Lib.hid (spec_light (T:=T) HCc.out HE0.out)
     have HOn:=Lib.hid (orig_nm (T:=T) HOk.out)
     have HSo:=Lib.hid (rsorted_s so i sc (tats U) wr (own_atts HI.out.row HI.out.own) (by rw [HDn.out]; exact HSl.out.small) (by rw [HDn.out]; exact HSl.out.few.vals) (by omega))
     rw [HDn.out,HOn.out] at HSo
     obtain ⟨q0,q1⟩:wr.cell? ⟨w.heap.size,0,none⟩=some (.slice to tn tc) /\ wr.cell? ⟨w.heap.size,1,none⟩=some (.slice co cn cc):=⟨HI.out.kS.cell rfl,HI.out.kS.cell rfl⟩
     obtain ⟨k0,k1⟩:wr.cell? ⟨b9,0,none⟩=some (.string cl) /\ wr.cell? ⟨b9,1,none⟩=some (.slice so i sc):=⟨HI.out.kN.cell rfl,HI.out.kN.cell rfl⟩
     go_wp2_with fail
     refine HSo.out.mono ?_
     rintro e w5 ⟨v,V,rfl,hV,hO,hrow,hb⟩
     obtain ⟨vo,vc,rfl⟩:=row_slice hrow
     have HI5:=Lib.hid (HI.out.below hb)
     have HVt:=Lib.hid hV
     obtain ⟨vn,hvn⟩:∃ x,V.length=x:=⟨_,rfl⟩
     rw [hvn] at hrow hO ⊢
     have f9:w5.frozen? ⟨b9,1,none⟩=false:=heap_frozen HI5.out.kN
     clear k0 k1 q0 q1 hV hvn
     obtain ⟨k0,k1⟩:w5.cell? ⟨b9,0,none⟩=some (.string cl) /\ w5.cell? ⟨b9,1,none⟩=some (.slice so i sc):=⟨HI5.out.kN.cell rfl,HI5.out.kN.cell rfl⟩
     have hszw:=hb.size
     have hrow6:=ownsRow_setCell_below hrow (a:=⟨b9,1,none⟩) (by show b9 < wr.heap.size; omega) (.slice vo vn vc)
     have hO6:=hO.set (a:=⟨b9,1,none⟩) (by show b9 < wr.heap.size; omega) (.slice vo vn vc)
     have HR6:=Lib.hid (And.intro hrow6 hO6)
     have hN6:Kb (w5.setCell ⟨b9,1,none⟩ (.slice vo vn vc)) b9 (.cells #[.string cl, .slice vo vn vc] 37):=Lib.heap_setCell_same HI5.out.kN _
     have hS6:Kb (w5.setCell ⟨b9,1,none⟩ (.slice vo vn vc)) w.heap.size (.cells #[.slice to tn tc, .slice co cn cc] 25):=HI5.out.kS.set _ _ (by show w.heap.size ≠ b9; omega)
     have hR6:Kb (w5.setCell ⟨b9,1,none⟩ (.slice vo vn vc)) (w.heap.size + 2) (.cells #[.string ⟨#[]⟩, .slice none 0 0] 37):=HI5.out.kR.set _ _ (by show w.heap.size + 2 ≠ b9; omega)
     have hL6:Below w.heap.size w (w5.setCell ⟨b9,1,none⟩ (.slice vo vn vc)):=HI5.out.low.setCell (p:=⟨b9,1,none⟩) (by show w.heap.size <= b9; omega) _
     have HK6:=Lib.hid (And.intro hN6 (And.intro hS6 (And.intro hR6 hL6)))
     have hs6:(w5.setCell ⟨b9,1,none⟩ (.slice vo vn vc)).heap.size=w5.heap.size:=set_size _ _ _
     have HVk:=Lib.hid (HVd.out (w5.setCell ⟨b9,1,none⟩ (.slice vo vn vc)) hL6 cl vo vn vc (nmL T (nf l)) (by rw [<- HVt.out]; exact own_atts HR6.out.1 HR6.out.2) (nm_light HCc.out HE0.out))
     obtain ⟨c,hc⟩:∃ c,vldE T C (nmL T (nf l))=c:=⟨_,rfl⟩
     rw [hc] at HVk
     have HE:=Lib.hid (enE_vld (c:=c) (T:=T) (cs:=C) HNb.out HCc.out HE0.out hc)
     have hbb:w.heap.size + 3 <= wr.heap.size:=by omega
     obtain ⟨p0,p1⟩:(w5.setCell ⟨b9,1,none⟩ (.slice vo vn vc)).cell? ⟨w.heap.size,0,none⟩=some (.slice to tn tc) /\ (w5.setCell ⟨b9,1,none⟩ (.slice vo vn vc)).cell? ⟨w.heap.size,1,none⟩=some (.slice co cn cc):=⟨hS6.cell rfl,hS6.cell rfl⟩
     obtain ⟨p2,p3⟩:(w5.setCell ⟨b9,1,none⟩ (.slice vo vn vc)).cell? ⟨b9,0,none⟩=some (.string cl) /\ (w5.setCell ⟨b9,1,none⟩ (.slice vo vn vc)).cell? ⟨b9,1,none⟩=some (.slice vo vn vc):=⟨hN6.cell rfl,hN6.cell rfl⟩
     clear hc hb hrow hO hrow6 hO6 hN6 hS6 hR6 hL6
     go_wp2_with fail
     refine HVk.out.mono ?_
     rintro e w7 ⟨rfl,hb⟩
     have HK7:=Lib.hid (And.intro (HK6.out.1.step hb) (And.intro (HK6.out.2.1.step hb) (And.intro (HK6.out.2.2.1.step hb) (HK6.out.2.2.2.trans (hb.mono HK6.out.2.2.2.size)))))
     have HR7:=Lib.hid (And.intro (own_below HR6.out.1 hb) (HR6.out.2.below hb))
     clear hb p0 p1 p2 p3 k0 k1
     obtain ⟨k0,k1⟩:w7.cell? ⟨b9,0,none⟩=some (.string cl) /\ w7.cell? ⟨b9,1,none⟩=some (.slice vo vn vc):=⟨HK7.out.1.cell rfl,HK7.out.1.cell rfl⟩
     obtain ⟨r0,r1⟩:w7.cell? ⟨w.heap.size + 2,0,none⟩=some (.string ⟨#[]⟩) /\ w7.cell? ⟨w.heap.size + 2,1,none⟩=some (.slice none 0 0):=⟨HK7.out.2.2.1.cell rfl,HK7.out.2.2.1.cell rfl⟩
     have f0:w7.frozen? ⟨w.heap.size + 2,0,none⟩=false:=heap_frozen HK7.out.2.2.1
     have f1:w7.frozen? ⟨w.heap.size + 2,1,none⟩=false:=heap_frozen HK7.out.2.2.1
     by_cases h0:c=0
     ·subst h0
      have HBe:=Lib.hid (below_set1 (below_set1 HK7.out.2.2.2 (w.heap.size + 2) 0 (by omega) (.string cl)) (w.heap.size + 2) 1 (by omega) (.slice vo vn vc))
      have HAe:=Lib.hid (show AttrsAt ((w7.setCell ⟨w.heap.size + 2,0,none⟩ (.string cl)).setCell ⟨w.heap.size + 2,1,none⟩ (.slice vo vn vc)) vo vn vc (nmL T (nf l)) by
       rw [<- HVt.out]
       exact own_atts (ownsRow_setCell_below (ownsRow_setCell_below HR7.out.1 (a:=⟨w.heap.size + 2,0,none⟩) (by show w.heap.size + 2 < wr.heap.size; omega) _) (a:=⟨w.heap.size + 2,1,none⟩) (by show w.heap.size + 2 < wr.heap.size; omega) _)
        ((HR7.out.2.set (a:=⟨w.heap.size + 2,0,none⟩) (by show w.heap.size + 2 < wr.heap.size; omega) _).set (a:=⟨w.heap.size + 2,1,none⟩) (by show w.heap.size + 2 < wr.heap.size; omega) _))
      go_wp2_with fail
      refine bodyPost_ret (v := .tuple #[.agg #[.string cl, .slice vo vn vc], .int .i64 0]) (by simp only [results,Tryz.results26]; go_simp) rfl ?_
      exact EnP.yes HE.out HCe.out.1 rfl HAe.out HBe.out
     ·have d3:(c != 0)=true:=by simpa using h0
      have HBe:=Lib.hid (below_set1 (below_set1 HK7.out.2.2.2 (w.heap.size + 2) 0 (by omega) (.string ⟨#[]⟩)) (w.heap.size + 2) 1 (by omega) (.slice none 0 0))
      go_wp2_with fail
      refine bodyPost_ret (v := .tuple #[.agg #[.string ⟨#[]⟩, .slice none 0 0], .int .i64 c]) (by simp only [results,Tryz.results26]; go_simp) rfl ?_
      exact EnP.no HE.out h0 HBe.out
  ·have d3:(c != 0)=true:=by simpa using h0
   have HE:=Lib.hid (enE_chk (T:=T) (cs:=C) HNb.out HCc.out h0)
   obtain ⟨r0,r1⟩:w2.cell? ⟨w.heap.size + 2,0,none⟩=some (.string ⟨#[]⟩) /\ w2.cell? ⟨w.heap.size + 2,1,none⟩=some (.slice none 0 0):=⟨HK2.out.2.2.cell rfl,HK2.out.2.2.cell rfl⟩
   have f0:w2.frozen? ⟨w.heap.size + 2,0,none⟩=false:=heap_frozen HK2.out.2.2
   have f1:w2.frozen? ⟨w.heap.size + 2,1,none⟩=false:=heap_frozen HK2.out.2.2
   have HBe:=Lib.hid (below_set1 (below_set1 HB2.out (w.heap.size + 2) 0 (by omega) (.string ⟨#[]⟩)) (w.heap.size + 2) 1 (by omega) (.slice none 0 0))
   go_wp2_with fail
   refine bodyPost_ret (v := .tuple #[.agg #[.string ⟨#[]⟩, .slice none 0 0], .int .i64 c]) (by simp only [results,Tryz.results26]; go_simp) rfl ?_
   exact EnP.no HE.out h0 HBe.out
structure TxI (w W0:World) (b base:Nat) (v:Value) (U:List Tr) (t:List UInt8) (wr:World):Prop where
 bld:Bld b b t wr
 row:wr.ownsRow base 58 2 v U.length (tcells U)
 own:TOwn wr base v U
 low:Below b W0 wr
 big:b < wr.heap.size
theorem TxI.below {w W0 wr V:World} {b base:Nat} {v:Value} {U:List Tr} {t:List UInt8} (h:TxI w W0 b base v U t wr) (hb:Below wr.heap.size wr V):TxI w W0 b base v U t V:=
 ⟨h.bld.below hb,own_below h.row hb,h.own.below hb,h.low.trans (hb.mono (Nat.le_of_lt h.big)),Nat.lt_of_lt_of_le h.big hb.size⟩
theorem TxI.wrote {w W0 wr V:World} {b base:Nat} {v:Value} {U:List Tr} {t t':List UInt8} (h:TxI w W0 b base v U t wr) (hB:Bld b b t' V) (hb:Below b wr V) (k:EKeep wr V):TxI w W0 b base v U t' V:=
 ⟨hB,k.row (.inl rfl) h.row,k.own h.own,h.low.trans hb,Nat.lt_of_lt_of_le h.big hb.size⟩
set_option maxHeartbeats 16000000 in
theorem text_s (en:ByteArray) (ao:Option Addr) (n cap:Nat) (l:List At) (w:World) (hen:en.size <= 1100000) (ha:AttrsAt w ao n cap l) (hS:SmallA l) (hF:FewV l) :
  Calls Tryz.prog 36 #[.agg #[.string en, .slice ao n cap]] w fun e w'=>e = .returned (.tuple #[.string (txV en l), .int .i64 (enC en l)]) /\ Below w.heap.size w w':=by
 have HA:=Lib.hid ha; clear ha
 have hb0:=below_al w (.cells #[.string en, .slice ao n cap] 37)
 have HK:=Lib.hid (kbl_new w (.cells #[.string en, .slice ao n cap] 37))
 have HCk:=Lib.hid (enCheck_s en ao n cap l _ hen (HA.out.below hb0) hS hF)
 have HB0:=Lib.hid hb0
 obtain ⟨c,hc⟩:∃ c,enC en l=c:=⟨_,rfl⟩
 rw [hc] at HCk ⊢
 have HC:=Lib.hid hc
 obtain ⟨e0,e1⟩:(w.alloc (.cells #[.string en, .slice ao n cap] 37)).cell? ⟨w.heap.size,0,none⟩=some (.string en) /\ (w.alloc (.cells #[.string en, .slice ao n cap] 37)).cell? ⟨w.heap.size,1,none⟩=some (.slice ao n cap):=⟨HK.out.cell rfl,HK.out.cell rfl⟩
 clear hb0 hc
 go_enter Tryz.func36,Tryz.ntmps36
 go_wp2_with fail
 refine HCk.out.mono ?_
 rintro e w1 ⟨rfl,hb⟩
 have HB1:=Lib.hid (HB0.out.trans (hb.mono HB0.out.size))
 have HK1:=Lib.hid (HK.out.step hb)
 clear hb e0 e1 HCk HB0
 by_cases h0:c=0
 ·subst h0
  have HLt:=Lib.hid (show chkA l=0 from by
   have h:=HC.out
   unfold enC at h
   split at h
   ·cases h
   ·exact h)
  have HLi:=Lib.hid (chk_light HLt.out)
  have hbl:=below_al w1 (.cells #[.pointer none, .slice none 0 0] 79)
  have HBd:=Lib.hid (bld_new w1)
  have HK2:=Lib.hid (HK1.out.step hbl)
  have HB2:=Lib.hid (HB1.out.trans (hbl.mono HB1.out.size))
  have hs2:w1.heap.size < (w1.alloc (.cells #[.pointer none, .slice none 0 0] 79)).heap.size:=by simp
  have HLn:=Lib.hid (line_s entW en (w1.alloc (.cells #[.pointer none, .slice none 0 0] 79)) (by decide) hen)
  have hll:=lineB_le entW en
  have hew:entW.size=5:=by decide
  have HRw:=Lib.hid (show entW=⟨#[101,110,116,114,121]⟩ from rfl)
  rw [HRw.out] at HLn
  obtain ⟨e0,e1⟩:(w1.alloc (.cells #[.pointer none, .slice none 0 0] 79)).cell? ⟨w.heap.size,0,none⟩=some (.string en) /\ (w1.alloc (.cells #[.pointer none, .slice none 0 0] 79)).cell? ⟨w.heap.size,1,none⟩=some (.slice ao n cap):=⟨HK2.out.cell rfl,HK2.out.cell rfl⟩
  clear hbl
  go_wp2_with fail
  refine HLn.out.mono ?_
  rintro e w2 ⟨rfl,hb⟩
  have HBd2:=Lib.hid (HBd.out.below hb)
  have HK3:=Lib.hid (HK2.out.step hb)
  have HB3:=Lib.hid (HB2.out.trans (hb.mono HB2.out.size))
  have hlow2:Below w1.heap.size w1 w2:=(below_al w1 _).trans (hb.mono (Nat.le_of_lt hs2))
  have hs3:w1.heap.size < w2.heap.size:=Nat.lt_of_lt_of_le hs2 hb.size
  obtain ⟨ln,hln⟩:∃ s:ByteArray,(⟨(lineB ⟨#[101,110,116,114,121]⟩ en).toArray⟩:ByteArray)=s:=⟨_,rfl⟩
  have hlz:ln.size <= 4000000:=by ((rw [<- hln,Lib.size_mk]; have:=lineB_le ⟨#[101,110,116,114,121]⟩ en; have h5:(⟨#[101,110,116,114,121]⟩:ByteArray).size=5:=by decide); omega)
  have HLn2:=Lib.hid (show ln.data.toList=lineB entW en by rw [<- hln,HRw.out])
  rw [hln]
  clear hb e0 e1 HLn hll hew hln
  go_wp2_with fail
  refine (writeString_e w1.heap.size w1.heap.size [] ln w2 HBd2.out (by simp; omega) (Nat.le_of_lt hs3)).mono ?_
  rintro e w3 ⟨rfl,hbd,hb,hke⟩
  have HBd3:=Lib.hid (show Bld w1.heap.size w1.heap.size (lineB entW en) w3 by rw [<- HLn2.out]; simpa using hbd)
  have HK4:=Lib.hid (show Kb w3 w.heap.size (.cells #[.string en, .slice ao n cap] 37) from (hb.block _ HK1.out.big).trans HK3.out)
  have HB4:=Lib.hid (HB3.out.trans (hb.mono HB1.out.size))
  have hs4:w1.heap.size < w3.heap.size:=Nat.lt_of_lt_of_le hs3 hb.size
  have HL4:=Lib.hid (show Below w1.heap.size w1 w3 from hlow2.trans hb)
  obtain ⟨e0,e1⟩:w3.cell? ⟨w.heap.size,0,none⟩=some (.string en) /\ w3.cell? ⟨w.heap.size,1,none⟩=some (.slice ao n cap):=⟨HK4.out.cell rfl,HK4.out.cell rfl⟩
  have HSo:=Lib.hid (sorted_s ao n cap l w3 (HA.out.below HB4.out) HLi.out.few)
  clear hb hbd hke hlow2
  go_wp2_with fail
  refine HSo.out.mono ?_
  rintro e w4 ⟨v,U,rfl,hU,hO,_,hrow,hb⟩
  obtain ⟨so,sc,rfl⟩:=row_slice hrow
  have HI:=Lib.hid (show TxI w w1 w1.heap.size w3.heap.size (.slice so U.length sc) U (lineB entW en) w4 from
   ⟨HBd3.out.below hb,hrow,hO,HL4.out.trans (hb.mono (Nat.le_of_lt hs4)),Nat.lt_of_lt_of_le hs4 hb.size⟩)
  have HU:=Lib.hid hU
  have HAl:=Lib.hid (chk_light (nf_chk HLt.out))
  obtain ⟨m,hm⟩:∃ m,U.length=m:=⟨_,rfl⟩
  have hrl:(nf l).length=m:=by rw [<- hm, <- hU,tats_len]
  have hm40:m <= 40:=by have:=HAl.out.len; omega
  have HM:=Lib.hid (And.intro hm hrl)
  obtain ⟨b1,hb1⟩:∃ x,w1.heap.size=x:=⟨_,rfl⟩
  have hws:w.heap.size <= w1.heap.size:=HB1.out.size
  have HX1:=Lib.hid HB1.out
  rw [hm] at HI ⊢
  rw [hb1] at HI
  clear hb hU hO hrow HSo e0 e1 hm hrl HL4 HB4 HK4 HBd3
  have hz0:((lineB entW en).length) <= 4000000:=by rw [<- HLn2.out,str_len]; exact hlz
  go_wp2_with fail
  go_loopw [7,9,23,30] (fun _ _ s23 _ wr=>∃ (i:Nat),i <= m /\ s23 = .int .i64 i /\ Hid (TxI w w1 b1 w3.heap.size (.slice so m sc) U (lineB entW en ++ attsB ((nf l).take i)) wr)) (fun _ _ s23 _ _=>m - (intOf s23).toNat)
  case atStart=>exact ⟨0,Nat.zero_le _,rfl,by simpa [attsB] using HI⟩
  case round =>
   clear HI
   obtain ⟨i,hi,rfl,HI⟩:=hrel
   have hbig:=HI.out.big
   by_cases hlt:i < m
   ·have d1:(i:Int) < (m:Int):=by omega
    obtain ⟨g,rfl⟩:∃ g,so=some ⟨g,0,none⟩:=by
     have hr:=HI.out.row
     rw [HM.out.1] at hr
     rcases hr.2 with ⟨e,_⟩ | ⟨g,cp,cur,e,_⟩
     ·simp only [Value.slice.injEq] at e
      omega
     ·simp only [Value.slice.injEq] at e
      exact ⟨g,e.1⟩
    have hiU:i < U.length:=by rw [HM.out.1]; exact hlt
    obtain ⟨s1,s2⟩:(U.getD i default).1=(atD (nf l) i).1 /\ (U.getD i default).2.2=(atD (nf l) i).2:=by
     have:=tats_at hiU; rw [HU.out] at this; rw [this]; exact ⟨rfl,rfl⟩
    have hmem:U.getD i default ∈ U:=by
     rw [List.getD_eq_getElem?_getD,List.getElem?_eq_getElem hiU]; exact List.getElem_mem _
    have hOwn:∃ vo vc,(U.getD i default).2.1 = .slice vo (atD (nf l) i).2.length vc /\ ∀ V,TxI w w1 b1 w3.heap.size (.slice (some ⟨g,0,none⟩) m sc) U (lineB entW en ++ attsB ((nf l).take i)) V ∨ True -> TOwn V w3.heap.size (.slice (some ⟨g,0,none⟩) m sc) U -> StrsAt V vo (atD (nf l) i).2.length vc (atD (nf l) i).2:=by
     obtain ⟨vo,vc,e,_⟩:=strs_own (HI.out.own _ hmem).1 rfl
     rw [s2] at e
     refine ⟨vo,vc,e,fun V _ hV => ?_⟩
     obtain ⟨vo',vc',e',hst'⟩:=strs_own (hV _ hmem).1 rfl
     rw [s2] at e' hst'
     rw [e] at e'
     simp only [Value.slice.injEq] at e'
     obtain ⟨rfl,_,rfl⟩:=e'
     exact hst'
    obtain ⟨vo,vc,ev,hst⟩:=hOwn
    obtain ⟨t1,t2⟩:=etc_at hiU
    have c1:=HI.out.row.cells (g:=g) rfl _ _ t1
    have c2:=HI.out.row.cells (g:=g) rfl _ _ t2
    rw [Go.WideShapes.add_plain,Nat.zero_add] at c1 c2
    rw [s1] at c1
    rw [ev] at c2
    have hTk:=attsB_take (nf l) i (by rw [HM.out.2]; exact hlt)
    have hAt:=HAl.out.each (atD (nf l) i) (by rw [at_get (nf l) i (by rw [HM.out.2]; exact hlt)]; exact List.getElem_mem _)
    have hpre:=attsB_le (L:=(nf l).take i) (fun a h=>HAl.out.each a (List.mem_of_mem_take h))
    rw [List.length_take] at hpre
    have hpre2:(attsB ((nf l).take i)).length <= 1600000:=by ((have:min i (nf l).length <= 40:=by omega); omega)
    obtain ⟨pre,hpr⟩:∃ x,lineB entW en ++ attsB ((nf l).take i)=x:=⟨_,rfl⟩
    have hprl:pre.length <= 5600000:=by rw [<- hpr,List.length_append]; omega
    obtain ⟨nm,hnm⟩:∃ x,(atD (nf l) i).1=x:=⟨_,rfl⟩
    obtain ⟨vs,hvs⟩:∃ x,(atD (nf l) i).2=x:=⟨_,rfl⟩
    have hA1:=hAt.nm
    have hA2:=hAt.len
    have hA3:=hAt.each
    rw [hnm,hvs] at hTk
    rw [hnm] at c1 hA1
    rw [hvs] at c2 hst hA2 hA3
    have HA3:=Lib.hid hA3
    obtain ⟨vn,hvn⟩:∃ x,vs.length=x:=⟨_,rfl⟩
    rw [hvn] at c2 hst hA2
    have HVn:=Lib.hid hvn
    have HSt:=Lib.hid hst
    have HTk:=Lib.hid (show lineB entW en ++ attsB ((nf l).take (i + 1))=pre ++ valsB nm vs by rw [hTk, <- List.append_assoc,hpr])
    rw [hpr] at HI
    have hbl:=below_al wr (.cells #[.string nm, .slice vo vn vc] 58)
    have HI4:=Lib.hid (HI.out.below hbl)
    have HKb:=Lib.hid (kbl_new wr (.cells #[.string nm, .slice vo vn vc] 58))
    clear hnm hvs hAt hA3 hvn hst hTk hpre hpre2 hpr hbl s1 s2 hmem hiU t1 t2 ev
    go_wp2_with fail
    obtain ⟨g7,hg7⟩:∃ x,wr.heap.size=x:=⟨_,rfl⟩
    rw [hg7] at HKb ⊢
    go_loopw [9,30] (fun _ s30 wx=>∃ (k:Nat),k <= vn /\ s30 = .int .i64 k /\ Hid (TxI w w1 b1 w3.heap.size (.slice (some ⟨g,0,none⟩) m sc) U (pre ++ valsB nm (vs.take k)) wx) /\ Hid (Kb wx g7 (.cells #[.string nm, .slice vo vn vc] 58))) (fun _ s30 _=>vn - (intOf s30).toNat)
    case atStart=>exact ⟨0,Nat.zero_le _,rfl,by simpa [valsB] using HI4,HKb⟩
    case round =>
     clear HI4 HKb c1 c2 hg7
     obtain ⟨k,hk,rfl,HIk,HKk⟩:=hrel
     have hbigk:=HIk.out.big
     by_cases hkl:k < vn
     ·have d2:(k:Int) < (vn:Int):=by omega
      have hst:=HSt.out wr (.inr trivial) HIk.out.own
      obtain ⟨vb,voff,rfl,hvb,hvs⟩:=hst.2.2.2 (by omega)
      have hvc:=hvs k (by rw [HVn.out]; exact hkl)
      have hvz:=HA3.out _ (part_mem vs k (by rw [HVn.out]; exact hkl))
      have HTv:=Lib.hid (valsB_take nm vs k (by rw [HVn.out]; exact hkl))
      have hpv:=valsB_le hA1 (vs:=vs.take k) (fun x h=>HA3.out x (List.mem_of_mem_take h))
      rw [List.length_take] at hpv
      have hpv2:(pre ++ valsB nm (vs.take k)).length <= 6000000:=by ((rw [List.length_append]; have:min k vs.length <= 20:=by omega); omega)
      obtain ⟨s,hs⟩:∃ x,partAt vs k=x:=⟨_,rfl⟩
      rw [hs] at hvc hvz HTv
      clear hs hvs hst hpv
      have k0:=HKk.out.cell (i:=0) rfl
      have k1:=HKk.out.cell (i:=1) rfl
      have HLs:=Lib.hid (line_s nm s wr (by omega) (by omega))
      obtain ⟨q,hq⟩:∃ x,pre ++ valsB nm (vs.take k)=x:=⟨_,rfl⟩
      have HQ:=Lib.hid hq
      rw [hq] at HIk hpv2
      obtain ⟨ls,hls⟩:∃ x:ByteArray,(⟨(lineB nm s).toArray⟩:ByteArray)=x:=⟨_,rfl⟩
      have hlz2:ls.size <= 4000000:=by rw [<- hls,Lib.size_mk]; have:=lineB_le nm s; omega
      have HLq:=Lib.hid (show q ++ ls.data.toList=pre ++ valsB nm (vs.take (k + 1)) by rw [HTv.out, <- hq, <- hls,List.append_assoc])
      rw [hls] at HLs
      clear hq hls
      go_wp2_with fail
      refine HLs.out.mono ?_
      rintro e w5 ⟨rfl,hb⟩
      have HI5:=Lib.hid (HIk.out.below hb)
      have HK5:=Lib.hid (HKk.out.step hb)
      clear hb k0 k1 hvc
      go_wp2_with fail
      refine (writeString_e b1 b1 q ls w5 HI5.out.bld (by omega) (Nat.le_of_lt HI5.out.big)).mono ?_
      rintro e w6 ⟨rfl,hbd,hb,hke⟩
      have HI6:=Lib.hid (HI5.out.wrote hbd hb hke)
      have HK6:=Lib.hid (show Kb w6 g7 (.cells #[.string nm, .slice (some ⟨vb,voff,none⟩) vn vc] 58) from (hke g7 _ _ _ (.inl rfl) HK5.out).trans HK5.out)
      clear hbd hb hke
      go_wp2_with fail
      go_roundw
      case rel=>exact ⟨k + 1,by omega,by go_num,by rw [<- HLq.out]; exact HI6,HK6⟩
      case measure=>simp [intOf]; omega
     ·obtain rfl:k=vn:=by omega
      have d2:¬ (k:Int) < (k:Int):=by omega
      have HI7:=Lib.hid (show TxI w w1 b1 w3.heap.size (.slice (some ⟨g,0,none⟩) m sc) U (lineB entW en ++ attsB ((nf l).take (i + 1))) wr by
       have h:=HIk.out
       rw [show vs.take k=vs by rw [<- HVn.out]; exact List.take_length] at h
       rw [HTk.out]; exact h)
      go_wp2_with fail
      go_roundw
      case rel=>exact ⟨i + 1,by omega,by go_num,HI7⟩
      case measure=>simp [intOf]; omega
   ·obtain rfl:i=m:=by omega
    have d1:¬ (i:Int) < (i:Int):=by omega
    have HTx:=Lib.hid (show lineB entW en ++ attsB ((nf l).take i)=entB en l by rw [<- HM.out.2,List.take_length]; rfl)
    have HTv:=Lib.hid (show txV en l=⟨(entB en l).toArray⟩ from if_pos HC.out)
    rw [HTx.out] at HI
    go_wp2_with fail
    refine (string_s b1 b1 (entB en l) wr HI.out.bld (Nat.le_of_lt HI.out.big)).mono ?_
    rintro e w9 ⟨rfl,hb⟩
    have HBe:=Lib.hid (show Below w.heap.size w w9 from HX1.out.trans ((HI.out.low.trans hb).mono (by omega)))
    clear hb
    go_wp2_with fail
    go_ret2
    exact ⟨by rw [HTv.out]; rfl,HBe.out⟩
 ·have d1:(c != 0)=true:=by simpa using h0
  have HE:=Lib.hid (show txV en l=⟨#[]⟩ from if_neg (by rw [HC.out]; exact h0))
  go_wp2_with fail
  go_ret2
  exact ⟨by rw [HE.out]; rfl,HB1.out⟩
end Go.Proofs.YtmmdaegdkikkpaaGreatDoor
end
