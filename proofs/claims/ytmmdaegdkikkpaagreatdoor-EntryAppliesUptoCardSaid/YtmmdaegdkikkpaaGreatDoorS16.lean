/-
  Texts of the schema layer and of those beneath it, joined: SchMst, ShelfS, SchWrd, SchCln, SchTyF, SchTxt, SchTxF, SchRd, SchMay, SchFns, SchVl, SchVal, ShelfJ, SchNrm, SchCon, SchRdL, SchRdC, SchRdT. Conditions stand at each contract.
-/
import Derived.Shelf.Strings.OnBuilder
import Derived.Shelf.Strings.Split
import Derived.Shelf.Small.Wraps
import Derived.Lib.SplitLaws
import Derived.Test.YtmmdaegdkikkpaaGreatDoorS15
set_option linter.unusedVariables false
set_option linter.unusedSimpArgs false
set_option linter.unnecessarySimpa false

section
set_option maxRecDepth 100000
namespace Go.Proofs.YtmmdaegdkikkpaaGreatDoor
open Go.RowKit Go.PlainAid
def FewC (cs:List Cl):Prop := ∀ c ∈ cs,c.must.length <= 64 /\ c.may.length <= 64
theorem fewC_sound (ts:List Ty) (cs:List Cl):FewC (soundC ts cs):=by
 intro c hc
 have hs:chkS ts cs=0:=by
  unfold soundC at hc
  split at hc
  ·assumption
  ·cases hc
 have he:soundC ts cs=cs:=if_pos hs
 rw [he] at hc
 obtain ⟨k,hk,rfl⟩:=mem_cl hc
 have h:=hs
 unfold chkS at h
 split at h
 ·cases h
 ·split at h
  ·exact absurd h ‹_›
  ·split at h
   ·exact absurd h ‹_›
   ·rename_i h3
    have h0:=firstE_none (Classical.not_not.1 h3) k hk
    unfold errC at h0
    split at h0
    ·cases h0
    ·split at h0
     ·cases h0
     ·split at h0
      ·cases h0
      ·split at h0
       ·cases h0
       ·rename_i h4; omega
theorem smC_sound {ts:List Ty} {cs:List Cl} (h:SmC cs):SmC (soundC ts cs):=by
 unfold soundC
 split
 ·exact h
 ·intro c hc; cases hc
def mustL (l:List Cl):List ByteArray:=l.flatMap fun c=>c.must
def mayL (l:List Cl):List ByteArray:=l.flatMap fun c=>c.may
theorem mustL_snoc (l:List Cl) (c:Cl):mustL (l ++ [c])=mustL l ++ c.must:=by simp [mustL]
theorem mayL_snoc (l:List Cl) (c:Cl):mayL (l ++ [c])=mayL l ++ c.may:=by simp [mayL]
theorem flat_few {f:Cl -> List ByteArray}:∀ {l:List Cl},(∀ c ∈ l,(f c).length <= 64) -> (l.flatMap f).length <= l.length * 64
 | [],_=>Nat.zero_le _
 | c :: l,h=>by
  rw [List.flatMap_cons,List.length_append,List.length_cons]
  have h1:=h c (List.mem_cons_self ..)
  have h2:=flat_few (f:=f) (l:=l) (fun d hd=>h d (List.mem_cons_of_mem _ hd))
  omega
theorem cls_at {w:World} {base n:Nat} {g cap:Nat} {l:List Cv} (h:w.ownsRow base 64 4 (.slice (some ⟨g,0,none⟩) n cap) n (ccells l)) (j:Nat) (hj:j < l.length) :
  w.cell? ⟨g,j * 4,none⟩=some (.string (l.getD j default).cl.name) /\ w.cell? ⟨g,j * 4 + 1,none⟩=some (.string (l.getD j default).cl.super) /\ w.cell? ⟨g,j * 4 + 2,none⟩=some (l.getD j default).hm /\ w.cell? ⟨g,j * 4 + 3,none⟩=some (l.getD j default).hy:=by
 have key:∀ i u,i < 4 -> (cvC (l.getD j default))[i]? = some u -> w.cell? ⟨g,j * 4 + i,none⟩=some u:=fun i u hi hu=>by
  have:=h.cells (g:=g) rfl (j * 4 + i) u ((flat_at cvC 4 (fun _=>rfl) default l j i hj hi).trans hu)
  rwa [Go.WideShapes.add_plain,Nat.zero_add] at this
 exact ⟨key 0 _ (by omega) rfl,key 1 _ (by omega) rfl,key 2 _ (by omega) rfl,key 3 _ (by omega) rfl⟩
theorem cv_take (l:List Cv) (k:Nat) (h:k < l.length):l.take (k + 1)=l.take k ++ [l.getD k default]:=by
 rw [List.getD_eq_getElem?_getD,List.getElem?_eq_getElem h]; exact List.take_succ_eq_append_getElem h
theorem cv_mem (l:List Cv) (k:Nat) (h:k < l.length):l.getD k default ∈ l:=by
 rw [List.getD_eq_getElem?_getD,List.getElem?_eq_getElem h]; exact List.getElem_mem h
theorem own_loc {w:World} {base n size:Nat} {e:TypeId} {v:Value} {xs:List Value} (h:w.ownsRow base e size v n xs) (hn:0 < n):∃ g cap,v = .slice (some ⟨g,0,none⟩) n cap /\ base <= g /\ g < w.heap.size:=by
 rcases h.2 with ⟨rfl,h0⟩ | ⟨g,cap,cur,rfl,_⟩
 ·omega
 ·exact ⟨g,cap,rfl,h.lt g rfl⟩
theorem scells_app (a b:List ByteArray):scells (a ++ b)=scells a ++ scells b:=List.map_append
set_option maxHeartbeats 8000000 in
theorem must_s (mt mc:Option Nat) (w0:World) (cs:List Cl) (n:ByteArray) (w:World) (h0:Below w0.heap.size w0 w) (h:CMap w0 w mc cs) (hS:SoundC cs) (hL:cs.length <= 1000) (hZ:SmC cs) (hF:FewC cs) (hn:n.size <= 1000000000) :
  Calls Tryz.prog 113 #[.agg #[.map mt, .map mc], .string n] w fun e w'=>∃ u:Value,e = .returned u /\ w'.ownsRow (w.heap.size + 1) 9 1 u (mustS cs n).length (scells (mustS cs n)) /\ Below w.heap.size w w':=by
 have HZ:=Lib.hid hZ; have HF:=Lib.hid hF; have H0:=Lib.hid h0
 have hB0:Below w.heap.size w (w.alloc (.cells #[.map mt, .map mc] 130)):=(Below.refl _ _).alloc (Nat.le_refl _) _
 have HB0:=Lib.hid hB0
 have HC:=Lib.hid (lineage_s mt mc w0 cs n _ (h.below hB0) hS hL hZ hn)
 have hlen:=lineS_small hS n
 have HS:=Lib.hid hS
 clear h hS hZ hF h0 hB0
 go_enter Tryz.func113,Tryz.ntmps113
 go_wp2_with fail
 refine HC.out.mono ?_
 rintro e w1 ⟨u,l,rfl,hl,hok,hown,hb⟩
 have HM:=Lib.hid (show ∀ c ∈ l,c.cl ∈ cs from fun c hc=>lineS_mem (n:=n) (by rw [<- hl]; exact List.mem_map_of_mem hc))
 have hll:l.length <= 1000:=by rw [<- ccls_len,hl]; omega
 have HE:=Lib.hid (show mustS cs n=sortU ((mustL (ccls l)).map lowS) by rw [mustS_eq,hl]; rfl)
 have HOK:=Lib.hid hok
 have HB1:=Lib.hid (show Below w.heap.size w w1 /\ w.heap.size + 1 <= w1.heap.size from ⟨HB0.out.trans (hb.mono (by simp)),by have:=hb.size; simpa using this⟩)
 have HOW:=Lib.hid hown
 obtain ⟨ao,cap,rfl⟩:=own_slc hown
 clear hb hok hl hown HB0 HC hlen HS
 go_wp2_with fail
 go_loopw [5,7,12] (fun s5 s7 i wr=>∃ (k:Nat),k <= l.length /\ i = .int .i64 k /\ Hid (wr.ownsRow w1.heap.size 9 1 s5 (mustL (ccls (l.take k))).length (scells (mustL (ccls (l.take k))))) /\ Hid (Below w1.heap.size w1 wr)) (fun _ _ i _=>l.length - (intOf i).toNat)
 case atStart=>exact ⟨0,Nat.zero_le _,rfl,Lib.hid (World.ownsRow_nil _ _ _ _),Lib.hid (Below.refl _ _)⟩
 case round =>
  obtain ⟨k,hk,rfl,HO,HB⟩:=hrel
  by_cases hlt:k < l.length
  ·have d1:(k:Int) < (l.length:Int):=by omega
   obtain ⟨g,cap',e,hg1,hg2⟩:=own_loc HOW.out (by omega)
   simp only [Value.slice.injEq] at e
   obtain ⟨rfl,_,rfl⟩:=e
   obtain ⟨c0,c1,c2,c3⟩:=cls_at HOW.out k hlt
   have hmem:=cv_mem l k hlt
   have HT:=Lib.hid (show mustL (ccls (l.take (k + 1)))=mustL (ccls (l.take k)) ++ (l.getD k default).cl.must by rw [cv_take l k hlt,ccls_snoc,mustL_snoc])
   have hcm:=HM.out _ hmem
   have hfw:=(HF.out _ hcm).1
   obtain ⟨hHm,hHy⟩:=HOK.out _ hmem
   have hlen:(mustL (ccls (l.take k))).length <= 64000:=by
    have h1:=flat_few (f:=fun c=>c.must) (l:=ccls (l.take k)) (fun c hc=>by
     obtain ⟨d,hd,rfl⟩:=List.mem_map.1 hc
     exact (HF.out _ (HM.out d (List.mem_of_mem_take hd))).1)
    have h2:(ccls (l.take k)).length <= 1000:=by rw [ccls_len,List.length_take]; omega
    show ((ccls (l.take k)).flatMap fun c=>c.must).length <= 64000
    omega
   obtain ⟨d,hd⟩:∃ d,l.getD k default=d:=⟨_,rfl⟩
   rw [hd] at c0 c1 c2 c3 HT hfw hHm hHy
   clear hd hmem hcm
   obtain ⟨vo,vn,vc,e1,hv⟩:=hHm
   obtain ⟨uo,un,uc,e2,hu⟩:=hHy
   rw [e1] at c2
   rw [e2] at c3
   clear e1 e2 hu
   have c0:=cell_later HB.out c0
   have c1:=cell_later HB.out c1
   have c2:=cell_later HB.out c2
   have c3:=cell_later HB.out c3
   have hvn:=hv.1
   have hal:=(Below.refl wr.heap.size wr).alloc (Nat.le_refl _) (.cells #[.string d.cl.name, .string d.cl.super, .slice vo vn vc, .slice uo un uc] 64)
   have HV:=Lib.hid (show StrsAt (wr.alloc (.cells #[.string d.cl.name, .string d.cl.super, .slice vo vn vc, .slice uo un uc] 64)) vo vn vc d.cl.must from ((hv.below (H0.out.trans (HB1.out.1.mono H0.out.size))).below (HB.out.trans (hal.mono HB.out.size))))
   have hown1:=HO.out.alloc (.cells #[.string d.cl.name, .string d.cl.super, .slice vo vn vc, .slice uo un uc] 64)
   have hsz1:w1.heap.size <= (wr.alloc (.cells #[.string d.cl.name, .string d.cl.super, .slice vo vn vc, .slice uo un uc] 64)).heap.size:=by have:=HB.out.size; simp; omega
   have HAL:=Lib.hid (HB.out.trans (hal.mono HB.out.size))
   clear hv hal
   go_wp2_with (at_builtin; go_must (refine push_strs (wr.alloc (.cells #[.string d.cl.name, .string d.cl.super, .slice vo vn vc, .slice uo un uc] 64)) hown1 (.tmp 16) (.tmp 18) HV.out ?_ ?_ ?_ ?_ ?_ ?_ ?_; exact rfl; exact rfl; exact rfl; exact rfl; omega; exact hsz1; intro v3 w3 hown3 hg3 hl3))
   have HO3:=Lib.hid hown3
   have HB3:=Lib.hid (HAL.out.grown hg3 hsz1 (fun q e=>(hown1.lt q e).1))
   clear hown3 hg3 hl3 hown1
   go_roundw
   case rel =>
    refine ⟨k + 1,by omega,by go_num,Lib.hid ?_,HB3⟩
    rw [HT.out,List.length_append,hvn,scells_app]
    exact HO3.out
   case measure=>simp [intOf]; omega
  ·obtain rfl:k=l.length:=by omega
   have d1:¬ (l.length:Int) < (l.length:Int):=by omega
   rw [List.take_length] at HO
   have hlen:(mustL (ccls l)).length <= 64000:=by
    have h1:=flat_few (f:=fun c=>c.must) (l:=ccls l) (fun c hc=>by
     obtain ⟨d,hd,rfl⟩:=List.mem_map.1 hc
     exact (HF.out _ (HM.out d hd)).1)
    have h2:(ccls l).length <= 1000:=by rw [ccls_len]; omega
    show ((ccls l).flatMap fun c=>c.must).length <= 64000
    omega
   have HC:=Lib.hid (ascendingF_s w1.heap.size _ _ (mustL (ccls l)) wr HO.out rfl (by omega) (fun s hs=>by
    obtain ⟨c,hc,hsc⟩:=List.mem_flatMap.1 hs
    obtain ⟨d,hd,rfl⟩:=List.mem_map.1 hc
    exact (HZ.out _ (HM.out d hd)).2.2.1 s hsc) HB.out.size)
   go_wp2_with fail
   refine HC.out.mono ?_
   rintro e w3 ⟨u,rfl,ho,hb⟩
   have HO3:=Lib.hid ho
   have HB3:=Lib.hid (HB.out.trans hb)
   clear ho hb
   go_wp2_with fail
   go_ret
   exact ⟨_,rfl,by rw [HE.out]; exact HO3.out.mono HB1.out.2,HB1.out.1.trans (HB3.out.mono (by have:=HB1.out.2; omega))⟩
set_option maxHeartbeats 4000000 in
theorem typeF_s (v:Value) (ts:List Ty) (cs:List Cl) (n:ByteArray) (w:World) (h:SchV w v ts cs) (hn:n.size <= 1000000000) :
  Calls Tryz.prog 46 #[v, .string n] w fun e w'=>e = .returned (.tuple #[tyV ((tyOf (soundT ts cs) n).getD zeroTy), .bool (tyOf (soundT ts cs) n).isSome]) /\ Below w.heap.size w w':=by
 have h':=h
 obtain ⟨ao,k,cap,bo,m,dap,rfl,_⟩:=h'
 have hb0:Below w.heap.size w ((w.alloc (.cells #[.slice ao k cap, .slice bo m dap] 25)).alloc (.cells #[.string ⟨#[]⟩, .int .i64 0, .bool false] 62)):=((Below.refl _ _).alloc (Nat.le_refl _) _).alloc (by simp) _
 have HB0:=Lib.hid hb0
 have HC:=Lib.hid (accepted_s _ ts cs _ (h.below hb0))
 clear h hb0
 obtain ⟨u,hu⟩:∃ u,(tyOf (soundT ts cs) n).getD zeroTy=u:=⟨_,rfl⟩
 obtain ⟨ok,hok⟩:∃ b,(tyOf (soundT ts cs) n).isSome=b:=⟨_,rfl⟩
 have HU:=Lib.hid (And.intro hu hok)
 rw [hu,hok]
 unfold tyV
 clear hu hok
 go_enter Tryz.func46,Tryz.ntmps46
 go_wp2_with fail
 refine HC.out.mono ?_
 rintro e w1 ⟨tv,rfl,⟨m1,m2,rfl,hT,_⟩,hb⟩
 have HB1:=Lib.hid (HB0.out.trans (hb.mono (by simp; omega)))
 have HC2:=typeOf_s m1 m2 (soundT ts cs) n w1 hT hn
 rw [HU.out.1,HU.out.2] at HC2
 unfold tyV at HC2
 have HC3:=Lib.hid HC2
 have r0:w1.cell? ⟨w.heap.size + 1,0,none⟩=some (.string ⟨#[]⟩):=cell_later hb (by go_simp)
 have r1:w1.cell? ⟨w.heap.size + 1,1,none⟩=some (.int .i64 0):=cell_later hb (by go_simp)
 have r2:w1.cell? ⟨w.heap.size + 1,2,none⟩=some (.bool false):=cell_later hb (by go_simp)
 have f0:=frozen_later (i:=0) hb (b:=w.heap.size + 1) (by simp) (by go_simp)
 have f1:=frozen_later (i:=1) hb (b:=w.heap.size + 1) (by simp) (by go_simp)
 have f2:=frozen_later (i:=2) hb (b:=w.heap.size + 1) (by simp) (by go_simp)
 have hs1:w.heap.size + 1 < w1.heap.size:=by have:=hb.size; simp at this; omega
 have HR:=Lib.hid (And.intro r0 (And.intro r1 (And.intro r2 (And.intro f0 (And.intro f1 f2)))))
 clear hb hT HC HB0 HC2 r0 r1 r2 f0 f1 f2
 go_wp2_with fail
 refine HC3.out.mono ?_
 rintro e w2 ⟨rfl,hb⟩
 have r0:=cell_later hb HR.out.1
 have r1:=cell_later hb HR.out.2.1
 have r2:=cell_later hb HR.out.2.2.1
 have f0:=frozen_later hb hs1 HR.out.2.2.2.1
 have f1:=frozen_later hb hs1 HR.out.2.2.2.2.1
 have f2:=frozen_later hb hs1 HR.out.2.2.2.2.2
 have HB2:=Lib.hid (HB1.out.trans (hb.mono HB1.out.size))
 have hs0:w.heap.size <= w.heap.size + 1:=Nat.le_succ _
 clear hb HC3 HR
 go_wp2_with fail
 refine bodyPost_ret (v := .tuple #[.agg #[.string u.name, .int .i64 u.syn, .bool u.single], .bool ok]) (by simp only [results,Tryz.results46]; go_simp) rfl ?_
 exact ⟨rfl,below_set1 (below_set1 (below_set1 HB2.out (w.heap.size + 1) 0 hs0 _) (w.heap.size + 1) 1 hs0 _) (w.heap.size + 1) 2 hs0 _⟩
theorem chk_parts {ts:List Ty} {cs:List Cl} (h:chkS ts cs=0):ts.length <= 64 /\ cs.length <= 32 /\ (∀ j,j < ts.length -> errT ts j=0) /\ ∀ j,j < cs.length -> errC ts cs j=0:=by
 unfold chkS at h
 split at h
 ·cases h
 ·split at h
  ·exact absurd h ‹_›
  ·rename_i h1 h2
   split at h
   ·exact absurd h ‹_›
   ·rename_i h3
    exact ⟨by omega,by omega,firstE_none (Classical.not_not.1 h2),firstE_none (Classical.not_not.1 h3)⟩
theorem mustL_few {cs:List Cl} (hF:FewC cs) {l:List Cl} (hl:∀ c ∈ l,c ∈ cs) (hn:l.length <= 1000):(mustL l).length <= 64000:=by
 have:=flat_few (f:=fun c=>c.must) (l:=l) (fun c hc=>(hF c (hl c hc)).1)
 show (l.flatMap fun c=>c.must).length <= 64000
 omega
theorem mayL_few {cs:List Cl} (hF:FewC cs) {l:List Cl} (hl:∀ c ∈ l,c ∈ cs) (hn:l.length <= 1000):(mayL l).length <= 64000:=by
 have:=flat_few (f:=fun c=>c.may) (l:=l) (fun c hc=>(hF c (hl c hc)).2)
 show (l.flatMap fun c=>c.may).length <= 64000
 omega
theorem mustS_few {cs:List Cl} (hS:SoundC cs) (hL:cs.length <= 1000) (hF:FewC cs) (n:ByteArray):(mustS cs n).length <= 64000:=by
 rw [mustS_eq]
 refine Nat.le_trans (sortU_len _) ?_
 rw [List.length_map]
 exact mustL_few hF (fun c hc=>lineS_mem hc) (Nat.le_trans (lineS_small hS n) hL)
theorem mustS_small {cs:List Cl} (hZ:SmC cs) {n s:ByteArray} (h:s ∈ mustS cs n):s.size <= 1000000000:=by
 rw [mustS_eq,sortU_mem] at h
 obtain ⟨t,ht,rfl⟩:=List.mem_map.1 h
 obtain ⟨c,hc,hs⟩:=List.mem_flatMap.1 ht
 rw [lowS_size]
 exact (hZ c (lineS_mem hc)).2.2.1 t hs
set_option maxHeartbeats 8000000 in
theorem may_s (mt mc:Option Nat) (w0:World) (cs:List Cl) (n:ByteArray) (w:World) (h0:Below w0.heap.size w0 w) (h:CMap w0 w mc cs) (hS:SoundC cs) (hL:cs.length <= 1000) (hZ:SmC cs) (hF:FewC cs) (hn:n.size <= 1000000000) :
  Calls Tryz.prog 114 #[.agg #[.map mt, .map mc], .string n] w fun e w'=>∃ u:Value,e = .returned u /\ w'.ownsRow (w.heap.size + 1) 9 1 u (mayS cs n).length (scells (mayS cs n)) /\ Below w.heap.size w w':=by
 have HZ:=Lib.hid hZ; have HF:=Lib.hid hF; have H0:=Lib.hid h0
 have hB0:Below w.heap.size w (w.alloc (.cells #[.map mt, .map mc] 130)):=(Below.refl _ _).alloc (Nat.le_refl _) _
 have HB0:=Lib.hid hB0
 have HC0:=Lib.hid (must_s mt mc w0 cs n _ (h0.trans (hB0.mono h0.size)) (h.below hB0) hS hL hZ hF hn)
 have HC:=Lib.hid (fun (W:World) (hW:Below w.heap.size w W)=>lineage_s mt mc w0 cs n W (h.below hW) hS hL hZ hn)
 have hlen:=lineS_small hS n
 have hms:=mustS_few hS hL hF n
 have HS:=Lib.hid (fun s (hs:s ∈ mustS cs n)=>mustS_small hZ hs)
 clear h hS hZ hF h0 hB0
 go_enter Tryz.func114,Tryz.ntmps114
 go_wp2_with fail
 refine HC0.out.mono ?_
 rintro e w1 ⟨u0,rfl,hown0,hb⟩
 have m0:w1.cell? ⟨w.heap.size,0,none⟩=some (.map mt):=cell_later hb (by go_simp)
 have m1:w1.cell? ⟨w.heap.size,1,none⟩=some (.map mc):=cell_later hb (by go_simp)
 have HB1:=Lib.hid (show Below w.heap.size w w1 /\ w.heap.size + 1 <= w1.heap.size from ⟨HB0.out.trans (hb.mono (by simp)),by have:=hb.size; simpa using this⟩)
 have HO0:=Lib.hid (hown0.mono (base':=w.heap.size + 1) (by simp))
 clear hb HC0 HB0 hown0
 go_wp2_with fail
 refine (HC.out w1 HB1.out.1).mono ?_
 rintro e w2 ⟨u,l,rfl,hl,hok,hown,hb⟩
 have HM:=Lib.hid (show ∀ c ∈ l,c.cl ∈ cs from fun c hc=>lineS_mem (n:=n) (by rw [<- hl]; exact List.mem_map_of_mem hc))
 have hll:l.length <= 1000:=by rw [<- ccls_len,hl]; omega
 have HE:=Lib.hid (show mayS cs n=sortU ((mustS cs n ++ mayL (ccls l)).map lowS) by rw [mayS_eq,hl]; rfl)
 have HOK:=Lib.hid hok
 obtain ⟨ao,cap,rfl⟩:=own_slc hown
 have HN:=Lib.hid (show (Value.slice ao l.length cap).ownBlock=none ∨ (Value.slice ao l.length cap).ownBlock ≠ u0.ownBlock by
  cases e:(Value.slice ao l.length cap).ownBlock with
  | none=>exact .inl rfl
  | some q =>
   refine .inr fun e2 => ?_
   have h1:=(hown.lt q e).1
   have h2:=(HO0.out.lt q e2.symm).2
   omega)
 have HOW:=Lib.hid (hown.mono (base':=w.heap.size + 1) (by have:=HB1.out.2; omega))
 have HO2:=Lib.hid (own_below HO0.out hb)
 have HB2:=Lib.hid (show Below w.heap.size w w2 /\ w.heap.size + 1 <= w2.heap.size from ⟨HB1.out.1.trans (hb.mono HB1.out.1.size),Nat.le_trans HB1.out.2 hb.size⟩)
 clear hb hok hl hown HC HO0 HB1 hlen m0 m1
 obtain ⟨ms,hmse⟩:∃ ms,mustS cs n=ms:=⟨_,rfl⟩
 rw [hmse] at HE HS HO2 hms
 clear hmse
 go_wp2_with fail
 go_loopw [5,7,15] (fun s5 s7 i wr=>∃ (k:Nat),k <= l.length /\ i = .int .i64 k /\ Hid (wr.ownsRow (w.heap.size + 1) 9 1 s5 (ms ++ mayL (ccls (l.take k))).length (scells (ms ++ mayL (ccls (l.take k))))) /\ Hid (wr.ownsRow (w.heap.size + 1) 64 4 (.slice ao l.length cap) l.length (ccells l)) /\ Hid ((Value.slice ao l.length cap).ownBlock=none ∨ (Value.slice ao l.length cap).ownBlock ≠ s5.ownBlock) /\ Hid (Below w.heap.size w wr /\ w.heap.size + 1 <= wr.heap.size)) (fun _ _ i _=>l.length - (intOf i).toNat)
 case atStart=>exact ⟨0,Nat.zero_le _,rfl,Lib.hid (by simpa [mayL,ccls] using HO2.out),HOW,HN,HB2⟩
 case round =>
  clear HO2 HOW HN HB2
  obtain ⟨k,hk,rfl,HO,HOW,HN,HB⟩:=hrel
  have hlen:(mayL (ccls (l.take k))).length <= 64000:=mayL_few HF.out (fun c hc=>by
   obtain ⟨d,hd,rfl⟩:=List.mem_map.1 hc
   exact HM.out d (List.mem_of_mem_take hd)) (by rw [ccls_len,List.length_take]; omega)
  have hlen2:(ms ++ mayL (ccls (l.take k))).length <= 128000:=by rw [List.length_append]; omega
  by_cases hlt:k < l.length
  ·have d1:(k:Int) < (l.length:Int):=by omega
   obtain ⟨g,cap',e,hg1,hg2⟩:=own_loc HOW.out (by omega)
   simp only [Value.slice.injEq] at e
   obtain ⟨rfl,_,rfl⟩:=e
   obtain ⟨c0,c1,c2,c3⟩:=cls_at HOW.out k hlt
   have hmem:=cv_mem l k hlt
   have HT:=Lib.hid (show ms ++ mayL (ccls (l.take (k + 1)))=(ms ++ mayL (ccls (l.take k))) ++ (l.getD k default).cl.may by rw [cv_take l k hlt,ccls_snoc,mayL_snoc,List.append_assoc])
   have hcm:=HM.out _ hmem
   have hfw:=(HF.out _ hcm).2
   obtain ⟨hHm,hHy⟩:=HOK.out _ hmem
   obtain ⟨d,hd⟩:∃ d,l.getD k default=d:=⟨_,rfl⟩
   rw [hd] at c0 c1 c2 c3 HT hfw hHm hHy
   clear hd hmem hcm
   obtain ⟨vo,vn,vc,e1,hv⟩:=hHy
   obtain ⟨uo,un,uc,e2,hu⟩:=hHm
   rw [e1] at c3
   rw [e2] at c2
   clear e1 e2 hu
   have hvn:=hv.1
   have hal:=(Below.refl wr.heap.size wr).alloc (Nat.le_refl _) (.cells #[.string d.cl.name, .string d.cl.super, .slice uo un uc, .slice vo vn vc] 64)
   have HV:=Lib.hid (show StrsAt (wr.alloc (.cells #[.string d.cl.name, .string d.cl.super, .slice uo un uc, .slice vo vn vc] 64)) vo vn vc d.cl.may from ((hv.below (H0.out.trans (HB.out.1.mono H0.out.size))).below hal))
   have hown1:=HO.out.alloc (.cells #[.string d.cl.name, .string d.cl.super, .slice uo un uc, .slice vo vn vc] 64)
   have HW1:=Lib.hid (HOW.out.alloc (.cells #[.string d.cl.name, .string d.cl.super, .slice uo un uc, .slice vo vn vc] 64))
   have hsz1:w.heap.size + 1 <= (wr.alloc (.cells #[.string d.cl.name, .string d.cl.super, .slice uo un uc, .slice vo vn vc] 64)).heap.size:=by have:=HB.out.2; simp; omega
   have HAL:=Lib.hid (HB.out.1.trans (hal.mono (by have:=HB.out.2; omega)))
   clear hv hal
   go_wp2_with (at_builtin; go_must (refine push_strs (wr.alloc (.cells #[.string d.cl.name, .string d.cl.super, .slice uo un uc, .slice vo vn vc] 64)) hown1 (.tmp 19) (.tmp 21) HV.out ?_ ?_ ?_ ?_ ?_ ?_ ?_; exact rfl; exact rfl; exact rfl; exact rfl; omega; exact hsz1; intro v3 w3 hown3 hg3 hl3))
   have HO3:=Lib.hid hown3
   have HB3:=Lib.hid (show Below w.heap.size w w3 /\ w.heap.size + 1 <= w3.heap.size from ⟨HAL.out.grown hg3 (by omega) (fun q e=>by have:=(hown1.lt q e).1; omega),Nat.le_trans hsz1 hg3.size⟩)
   have HW3:=Lib.hid (HW1.out.kept hg3 HN.out)
   have HN3:=Lib.hid (show (Value.slice (some ⟨g,0,none⟩) l.length cap).ownBlock=none ∨ (Value.slice (some ⟨g,0,none⟩) l.length cap).ownBlock ≠ v3.ownBlock by
    rcases hl3 with h1 | h1
    ·rw [h1]; exact HN.out
    ·refine .inr fun e2 => ?_
     rw [h1] at e2
     have:=(HOW.out.lt _ e2).2
     simp at this
     omega)
   clear hown3 hg3 hl3 hown1
   go_roundw
   case rel =>
    refine ⟨k + 1,by omega,by go_num,Lib.hid ?_,HW3,HN3,HB3⟩
    rw [HT.out,List.length_append,hvn,scells_app]
    exact HO3.out
   case measure=>simp [intOf]; omega
  ·obtain rfl:k=l.length:=by omega
   have d1:¬ (l.length:Int) < (l.length:Int):=by omega
   rw [List.take_length] at HO hlen hlen2
   have HC:=Lib.hid (ascendingF_s (w.heap.size + 1) _ _ (ms ++ mayL (ccls l)) wr HO.out rfl (by omega) (fun s hs=>by
    rcases List.mem_append.1 hs with h | h
    ·exact HS.out s h
    ·obtain ⟨c,hc,hsc⟩:=List.mem_flatMap.1 h
     obtain ⟨d,hd,rfl⟩:=List.mem_map.1 hc
     exact (HZ.out _ (HM.out d hd)).2.2.2 s hsc) HB.out.2)
   go_wp2_with fail
   refine HC.out.mono ?_
   rintro e w3 ⟨u,rfl,ho,hb⟩
   have HO3:=Lib.hid ho
   have HB3:=Lib.hid (HB.out.1.trans (hb.mono (Nat.le_succ _)))
   clear ho hb
   go_wp2_with fail
   go_ret
   exact ⟨_,rfl,by rw [HE.out]; exact HO3.out,HB3.out⟩
def digS (l:List UInt8):Bool := !l.isEmpty && l.all digB
theorem mag_all {l:List UInt8} (h:digS l=true):Fair (Lib.parseMag l):=by
 cases l with
 | nil=>cases h
 | cons c r =>
  unfold digS at h
  rw [Bool.and_eq_true] at h
  unfold Lib.parseMag
  rw [if_neg (by simp)]
  exact parse_digits _ _ h.2
theorem digS_atoi {l:List UInt8} (h:digS (stripL l)=true):Fair (Lib.atoiAll l):=by
 cases l with
 | nil=>cases h
 | cons c r =>
  by_cases hc:c=45
  ·subst hc
   rw [strip_minus] at h
   rw [Lib.atoiAll_minus]
   exact signed_fair (mag_all h)
  ·rw [strip_plain c r hc] at h
   have hd:digB c=true:=by
    unfold digS at h
    simp only [Bool.and_eq_true,List.all_cons] at h
    exact h.2.1
   have h2:48 <= c.toNat /\ c.toNat <= 57:=by simpa [digB] using hd
   rw [Lib.atoiAll_plain c r (by omega) (by omega)]
   exact signless_fair (mag_all h)
def numS (s:ByteArray):Option Int:=if digS (stripL s.data.toList) then (match Lib.atoiAll s.data.toList with
 | .ok v=>some v
 | _=>none) else none
def trueS:ByteArray:=⟨#[116,114,117,101]⟩
def falseS:ByteArray:=⟨#[102,97,108,115,101]⟩
def truthS (s:ByteArray):Option ByteArray:=if lowS s=trueS then some ⟨#[84,82,85,69]⟩ else if lowS s=falseS then some ⟨#[70,65,76,83,69]⟩ else none
def formS (x:Int) (v:ByteArray):Option ByteArray:=
 if x=1 then some (foldS v)
 else if x=2 then some v
 else if x=3 then (numS v).map fun n=>ofL (Lib.itoa n)
 else if x=4 then (if Nam.cleanE v=0 then some (Nam.cleanV v) else none)
 else truthS v
def normS (x:Int) (v:ByteArray):Option ByteArray:=(formS x v).bind fun f=>if cleanB v=true /\ cleanB f=true then some f else none
set_option maxHeartbeats 4000000 in
theorem truth_s (s:ByteArray) (w:World) (hs:s.size <= 1000000000) :
  Calls Tryz.prog 233 #[.string s] w fun e w'=>e = .returned (.tuple #[.string ((truthS s).getD ⟨#[]⟩), .bool (truthS s).isSome]) /\ Below w.heap.size w w':=by
 have HE:=Lib.hid (show truthS s=if lowS s=trueS then some ⟨#[84,82,85,69]⟩ else if lowS s=falseS then some ⟨#[70,65,76,83,69]⟩ else none from rfl)
 obtain ⟨b1,h1⟩:∃ b,((lowS s).toList == ([116,114,117,101]:List UInt8))=b:=⟨_,rfl⟩
 obtain ⟨b2,h2⟩:∃ b,((lowS s).toList == ([102,97,108,115,101]:List UInt8))=b:=⟨_,rfl⟩
 have e1:(lowS s=trueS) ↔ b1=true:=by
  have h:=str_eq (lowS s) trueS
  rw [show trueS.toList=([116,114,117,101]:List UInt8) by rw [Lib.toList_data]; rfl,h1] at h
  rw [h]; simp
 have e2:(lowS s=falseS) ↔ b2=true:=by
  have h:=str_eq (lowS s) falseS
  rw [show falseS.toList=([102,97,108,115,101]:List UInt8) by rw [Lib.toList_data]; rfl,h2] at h
  rw [h]; simp
 have HE2:=Lib.hid (show truthS s=if b1=true then some ⟨#[84,82,85,69]⟩ else if b2=true then some ⟨#[70,65,76,83,69]⟩ else none by rw [HE.out]; simp only [e1,e2])
 clear e1 e2 HE
 go_enter Tryz.func233,Tryz.ntmps233
 go_wp2_with fail
 refine (lower_s s _ hs).mono ?_
 rintro e w1 ⟨rfl,hb⟩
 have HB:=Lib.hid hb; clear hb
 cases b1
 ·cases b2
  ·have HE3:=Lib.hid (show truthS s=none from HE2.out.trans (by simp))
   clear HE2
   go_wp2_with fail
   go_ret2
   exact ⟨by rw [HE3.out]; rfl,HB.out⟩
  ·have HE3:=Lib.hid (show truthS s=some ⟨#[70,65,76,83,69]⟩ from HE2.out.trans (by simp))
   clear HE2
   go_wp2_with fail
   go_ret2
   exact ⟨by rw [HE3.out]; rfl,HB.out⟩
 ·have HE3:=Lib.hid (show truthS s=some ⟨#[84,82,85,69]⟩ from HE2.out.trans (by simp))
  clear HE2
  go_wp2_with fail
  go_ret2
  exact ⟨by rw [HE3.out]; rfl,HB.out⟩
theorem digS_all {s:ByteArray} (h:∀ j,j < s.size -> digB (chr s j)=true):digS s.data.toList = !s.toList.isEmpty:=by
 unfold digS
 rw [Lib.toList_data]
 have:s.data.toList.all digB=true:=by
  rw [List.all_eq_true]
  intro c hc
  obtain ⟨j,hj,rfl⟩:=List.mem_iff_getElem.1 hc
  have h2:=h j (by rw [Lib.size_eq]; exact hj)
  unfold chr at h2
  rwa [List.getD_eq_getElem?_getD,List.getElem?_eq_getElem hj] at h2
 rw [this,Bool.and_true]
theorem digS_not {s:ByteArray} {k:Nat} (hk:k < s.size) (h:digB (chr s k)=false):digS s.data.toList=false:=by
 unfold digS
 have:s.data.toList.all digB=false:=by
  rw [Lib.size_eq] at hk
  cases e:s.data.toList.all digB with
  | false=>rfl
  | true =>
   have h2:=List.all_eq_true.1 e _ (List.getElem_mem hk)
   unfold chr at h
   rw [List.getD_eq_getElem?_getD,List.getElem?_eq_getElem hk] at h
   rw [show (some s.data.toList[k]).getD 0=s.data.toList[k] from rfl] at h
   rw [h] at h2; cases h2
 rw [this,Bool.and_false]
theorem digits_s (s:ByteArray) (w:World) (hs:s.size <= 1000000000) :
  Calls Tryz.prog 268 #[.string s] w fun e w'=>e = .returned (.bool (digS s.data.toList)) /\ w=w':=by
 go_enter Tryz.func268,Tryz.ntmps268
 go_wp2
 go_loopw [3,6] (fun s3 i wr=>∃ k:Nat,k <= s.size /\ i = .int .i64 k /\ Hid (∀ j,j < k -> digB (chr s j)=true) /\ w=wr) (fun _ i _=>s.size - (intOf i).toNat)
 case atStart=>exact ⟨0,Nat.zero_le _,rfl,Lib.hid (fun j hj=>absurd hj (Nat.not_lt_zero _)),rfl⟩
 case round =>
  obtain ⟨k,hk,rfl,HA,rfl⟩:=hrel
  by_cases hlt:k < s.size
  ·have d1:(k:Int) < (s.size:Int):=by omega
   obtain ⟨v,hv⟩:∃ v,(s[k]'hlt).toNat=v:=⟨_,rfl⟩
   have hbc:(chr s k).toNat=v:=by
    have:=(byte_chr s k hlt).trans (bt_chr s k)
    omega
   cases hd:digB (chr s k)
   ·have HE:=Lib.hid (digS_not hlt hd)
    have hor:v < 48 ∨ (¬ v < 48 /\ 57 < v):=by
     simp only [digB,Bool.and_eq_false_iff,decide_eq_false_iff_not,hbc] at hd
     omega
    clear hbc hd
    rcases hor with c1 | ⟨c1,c2⟩
    ·have c1':(v:Int) < 48:=by omega
     go_wp2_with fail
     go_ret
     exact ⟨by rw [HE.out]; rfl,rfl⟩
    ·have c1':¬ (v:Int) < 48:=by omega
     have c2':(57:Int) < (v:Int):=by omega
     go_wp2_with fail
     go_ret
     exact ⟨by rw [HE.out]; rfl,rfl⟩
   ·have c1:¬ (v:Int) < 48:=by
     simp only [digB,Bool.and_eq_true,decide_eq_true_eq,hbc] at hd
     omega
    have c2:¬ (57:Int) < (v:Int):=by
     simp only [digB,Bool.and_eq_true,decide_eq_true_eq,hbc] at hd
     omega
    have HD:=Lib.hid hd
    clear hbc hd
    go_wp2_with fail
    go_roundw
    case rel =>
     refine ⟨k + 1,by omega,by go_num,Lib.hid fun j hj => ?_,trivial⟩
     rcases Nat.lt_or_ge j k with h | h
     ·exact HA.out j h
     ·obtain rfl:j=k:=by omega
      exact HD.out
    case measure=>simp [intOf]; omega
  ·obtain rfl:k=s.size:=by omega
   have d1:¬ (s.size:Int) < (s.size:Int):=by omega
   have HE:=Lib.hid (digS_all HA.out)
   go_wp2_with fail
   go_ret
   exact ⟨by rw [HE.out]; rfl,rfl⟩
theorem trim_small (s:ByteArray):(⟨(stripL s.data.toList).toArray⟩:ByteArray).size <= s.size:=by
 rw [Lib.size_mk,Lib.size_eq]
 unfold stripL Lib.trimPrefix
 split
 ·simp
 ·exact Nat.le_refl _
theorem sat_bounds (l:List UInt8) : -9223372036854775808 <= Lib.atoiSat l /\ Lib.atoiSat l <= 9223372036854775807:=by
 unfold Lib.atoiSat
 split
 ·exact ⟨Int.le_refl _,by decide⟩
 ·exact ⟨by decide,Int.le_refl _⟩
set_option maxHeartbeats 4000000 in
theorem number_s (s:ByteArray) (w:World) (hs:s.size <= 1100000) (ho:IntOk w) :
  Calls Tryz.prog 231 #[.string s] w fun e w'=>∃ n:Int, -9223372036854775808 <= n /\ n <= 9223372036854775807 /\ e = .returned (.tuple #[.int .i64 n, .bool (numS s).isSome]) /\ (∀ m,numS s=some m -> n=m) /\ Below w.heap.size w w':=by
 have HO:=Lib.hid ho; clear ho
 have HT:=Lib.hid (fun W=>Tryz.strings_TrimPrefix s ⟨#[45]⟩ W)
 have HD:=Lib.hid (fun W=>digits_s (⟨(stripL s.data.toList).toArray⟩) W (Nat.le_trans (trim_small s) (by omega)))
 obtain ⟨dg,hdg⟩:∃ b,digS (stripL s.data.toList)=b:=⟨_,rfl⟩
 have HDG:=Lib.hid hdg; clear hdg
 go_enter Tryz.func231,Tryz.ntmps231
 go_wp2_with fail
 refine (HT.out _).mono ?_
 rintro e w1 ⟨rfl,rfl⟩
 go_wp2_with fail
 refine (HD.out _).mono ?_
 rintro e w1 ⟨rfl,rfl⟩
 dsimp only
 rw [HDG.out]
 cases dg
 ·have HE:=Lib.hid (show numS s=none by unfold numS; rw [HDG.out]; rfl)
  go_wp2_with fail
  go_ret2
  exact ⟨0,by decide,by decide,by rw [HE.out]; rfl,(fun m hm=>by rw [HE.out] at hm; cases hm),Below.refl _ _⟩
 ·rcases digS_atoi HDG.out with ⟨v,ha⟩ | ha
  ·have HE:=Lib.hid (show numS s=some v by unfold numS; rw [HDG.out,ha]; rfl)
   have HC:=Lib.hid (fun W=>atoi_ok s v W (by omega) ha)
   have hv:=Lib.atoiAll_bounds ha
   clear ha
   go_wp2_with fail
   refine (HC.out _).mono ?_
   rintro e w2 ⟨rfl,hb⟩
   have HB:=Lib.hid hb; clear hb
   go_wp2_with fail
   go_quiet (fail)
   go_wp2_with fail
   go_ret2
   exact ⟨v,hv.1,hv.2,by rw [HE.out]; rfl,(fun m hm=>by rw [HE.out] at hm; exact Option.some.inj hm),HB.out.os,HB.out.tape,HB.out.output,HB.out.size,HB.out.block⟩
  ·have HE:=Lib.hid (show numS s=none by unfold numS; rw [HDG.out,ha]; rfl)
   have HA:=Lib.hid ha
   have hv:=sat_bounds s.data.toList
   obtain ⟨_,tp,p,hvar⟩:=HO.out
   have HC:=Lib.hid (Tryz.strconv_Atoi_range_var s (by omega) ha tp p _ hvar)
   clear ha hvar
   go_wp2_with fail
   refine HC.out.mono ?_
   rintro e w2 ⟨N,rfl,_,_,hb⟩
   have HB:=Lib.hid hb; clear hb
   go_wp2_with fail
   go_quiet (fail)
   go_wp2_with fail
   go_ret2
   exact ⟨_,hv.1,hv.2,by rw [HE.out]; rfl,(fun m hm=>by rw [HE.out] at hm; cases hm),HB.out.os,HB.out.tape,HB.out.output,HB.out.size,HB.out.block⟩
theorem normalForm_s (x:Int) (s:ByteArray) (w:World) (hs:s.size <= 1100000) (ho:IntOk w) :
  Calls Tryz.prog 166 #[.int .i64 x, .string s] w fun e w'=>∃ f:ByteArray,e = .returned (.tuple #[.string f, .bool (formS x s).isSome]) /\ (∀ g,formS x s=some g -> f=g) /\ Below w.heap.size w w':=by
 have HO:=Lib.hid ho; clear ho
 by_cases h1:x=1
 ·subst h1
  have HE:=Lib.hid (show formS 1 s=some (foldS s) from rfl)
  go_enter Tryz.func166,Tryz.ntmps166
  go_wp2_with fail
  refine (fold_s s _ (by omega)).mono ?_
  rintro e w1 ⟨rfl,hb⟩
  have HB:=Lib.hid hb; clear hb
  go_wp2_with fail
  go_ret2
  exact ⟨_,by rw [HE.out]; rfl,(fun g hg=>by rw [HE.out] at hg; exact Option.some.inj hg),HB.out⟩
 ·by_cases h2:x=2
  ·subst h2
   have HE:=Lib.hid (show formS 2 s=some s from rfl)
   go_enter Tryz.func166,Tryz.ntmps166
   go_wp2_with fail
   go_ret2
   exact ⟨_,by rw [HE.out]; rfl,(fun g hg=>by rw [HE.out] at hg; exact Option.some.inj hg),Below.refl _ _⟩
  ·by_cases h3:x=3
   ·subst h3
    have HE:=Lib.hid (show formS 3 s=(numS s).map fun n=>ofL (Lib.itoa n) from rfl)
    go_enter Tryz.func166,Tryz.ntmps166
    go_wp2_with fail
    refine (number_s s _ hs HO.out).mono ?_
    rintro e w1 ⟨n,n1,n2,rfl,hn,hb⟩
    have HO1:=Lib.hid (HO.out.below hb)
    have HB:=Lib.hid hb; clear hb
    go_wp2_with fail
    refine (int_s n _ n1 n2 HO1.out).mono ?_
    rintro e w2 ⟨rfl,hb⟩
    have HB2:=Lib.hid (HB.out.trans (hb.mono HB.out.size)); clear hb
    go_wp2_with fail
    go_ret2
    refine ⟨_,by rw [HE.out,Option.isSome_map]; rfl,(fun g hg => ?_),HB2.out⟩
    rw [HE.out] at hg
    cases e:numS s with
    | none=>rw [e] at hg; cases hg
    | some m=>rw [e] at hg; rw [hn m e]; exact Option.some.inj hg
   ·by_cases h4:x=4
    ·subst h4
     have HE:=Lib.hid (show formS 4 s=if Nam.cleanE s=0 then some (Nam.cleanV s) else none from rfl)
     go_enter Tryz.func166,Tryz.ntmps166
     go_wp2_with fail
     refine (Nam.clean0_s s _ hs).mono ?_
     rintro e w1 ⟨rfl,hb⟩
     have HB:=Lib.hid hb; clear hb
     by_cases hc:Nam.cleanE s=0
     ·have HE2:=Lib.hid (show formS 4 s=some (Nam.cleanV s) from HE.out.trans (if_pos hc))
      rw [hc]
      go_wp2_with fail
      go_ret2
      exact ⟨_,by rw [HE2.out]; rfl,(fun g hg=>by rw [HE2.out] at hg; exact Option.some.inj hg),HB.out⟩
     ·have HE2:=Lib.hid (show formS 4 s=none from HE.out.trans (if_neg hc))
      obtain ⟨ec,hec⟩:∃ e,Nam.cleanE s=e:=⟨_,rfl⟩
      rw [hec] at hc ⊢
      clear hec
      have hq:(ec == 0)=false:=beq_false_of_ne hc
      go_wp2_with fail
      go_ret2
      exact ⟨_,by rw [HE2.out]; rfl,(fun g hg=>by rw [HE2.out] at hg; cases hg),HB.out⟩
    ·have HE:=Lib.hid (show formS x s=truthS s by unfold formS; rw [if_neg h1,if_neg h2,if_neg h3,if_neg h4])
     go_enter Tryz.func166,Tryz.ntmps166
     go_wp2_with fail
     refine (truth_s s _ (by omega)).mono ?_
     rintro e w1 ⟨rfl,hb⟩
     have HB:=Lib.hid hb; clear hb
     go_wp2_with fail
     go_ret2
     exact ⟨_,by rw [HE.out]; rfl,(fun g hg=>by rw [HE.out] at hg; rw [hg]; rfl),HB.out⟩
def normE (x:Int) (s:ByteArray):Int:=if (normS x s).isSome then 0 else 8
theorem normal_s (x:Int) (s:ByteArray) (w:World) (hs:s.size <= 1100000) (ho:IntOk w) (hf:∀ f,formS x s=some f -> f.size <= 1000000000) :
  Calls Tryz.prog 107 #[.int .i64 x, .string s] w fun e w'=>e = .returned (.tuple #[.string ((normS x s).getD ⟨#[]⟩), .int .i64 (normE x s)]) /\ Below w.heap.size w w':=by
 have HF:=Lib.hid hf; clear hf
 have HE:=Lib.hid (show normS x s=(formS x s).bind fun f=>if cleanB s=true /\ cleanB f=true then some f else none from rfl)
 go_enter Tryz.func107,Tryz.ntmps107
 go_wp2_with fail
 refine (normalForm_s x s _ hs ho).mono ?_
 rintro e w1 ⟨f,rfl,hg,hb⟩
 have HB:=Lib.hid hb; clear hb
 cases hq:formS x s with
 | none =>
  have HE2:=Lib.hid (show normS x s=none from HE.out.trans (by rw [hq]; rfl))
  clear hg
  go_wp2_with fail
  go_ret2
  exact ⟨by unfold normE; rw [HE2.out]; rfl,HB.out⟩
 | some g =>
  obtain rfl:=hg g hq
  have hfs:=HF.out f hq
  obtain ⟨c1,hc1⟩:∃ b,cleanB s=b:=⟨_,rfl⟩
  obtain ⟨c2,hc2⟩:∃ b,cleanB f=b:=⟨_,rfl⟩
  have HE2:=Lib.hid (show normS x s=if c1=true /\ c2=true then some f else none from HE.out.trans (by rw [hq]; show (if cleanB s=true /\ cleanB f=true then some f else none)=_; rw [hc1,hc2]))
  have HC:=Lib.hid (And.intro hc1 hc2)
  clear hc1 hc2 hg
  go_wp2_with fail
  refine (clean_s s _ (by omega)).mono ?_
  rintro e w2 ⟨rfl,rfl⟩
  rw [HC.out.1]
  cases c1
  ·have HE3:=Lib.hid (show normS x s=none from HE2.out.trans (by simp))
   go_wp2_with fail
   go_ret2
   exact ⟨by unfold normE; rw [HE3.out]; rfl,HB.out⟩
  ·go_wp2_with fail
   refine (clean_s f _ hfs).mono ?_
   rintro e w2 ⟨rfl,rfl⟩
   rw [HC.out.2]
   cases c2
   ·have HE3:=Lib.hid (show normS x s=none from HE2.out.trans (by simp))
    go_wp2_with fail
    go_ret2
    exact ⟨by unfold normE; rw [HE3.out]; rfl,HB.out⟩
   ·have HE3:=Lib.hid (show normS x s=some f from HE2.out.trans (by simp))
    go_wp2_with fail
    go_ret2
    exact ⟨by unfold normE; rw [HE3.out]; rfl,HB.out⟩
end Go.Proofs.YtmmdaegdkikkpaaGreatDoor
end

section
set_option maxRecDepth 100000
namespace Go.Proofs.YtmmdaegdkikkpaaGreatDoor
open Go.RowKit Go.PlainAid
namespace Nam
theorem fmt_size {l:List Pr} (h:fmtE l=0):(fmtV l).size <= 1100000:=by
 obtain ⟨h1,h2⟩:=fmtE_ok h
 have hb:=barC_len 600 (l.map fmtC) (fun p hq=>by
  obtain ⟨q,hq1,rfl⟩:=List.mem_map.1 hq
  have:=prE_small (h1 q hq1)
  have:=fmtC_len q
  omega)
 rw [List.length_map] at hb
 have:l.length * (600 + 1) <= 8 * 601:=Nat.mul_le_mul_right _ h2
 unfold fmtV
 rw [if_pos h,ofB_size]; omega
theorem clean_size (s:ByteArray):(cleanV s).size <= 1100000:=by
 unfold cleanV
 by_cases h:parseE s=0
 ·rw [if_pos h]; exact fmt_size (fmt_parse_ok h)
 ·rw [if_neg h]; exact Nat.zero_le _
end Nam
theorem formS_small {x:Int} {s f:ByteArray} (hs:s.size <= 1100000) (h:formS x s=some f):f.size <= 1000000000:=by
 unfold formS at h
 split at h
 ·obtain rfl:=Option.some.inj h; have:=foldS_size s; omega
 ·split at h
  ·obtain rfl:=Option.some.inj h; omega
  ·split at h
   ·cases hn:numS s with
    | none=>rw [hn] at h; cases h
    | some n =>
     rw [hn] at h
     obtain rfl:=Option.some.inj h
     have hb : -9223372036854775808 <= n /\ n <= 9223372036854775807:=by
      unfold numS at hn
      split at hn
      ·split at hn
       ·rename_i v hv
        obtain rfl:=Option.some.inj hn
        exact Lib.atoiAll_bounds hv
       ·cases hn
      ·cases hn
     have:=Lib.itoa_length_le n hb.1 hb.2
     have e:(ofL (Lib.itoa n)).size=(Lib.itoa n).length:=by unfold ofL; exact Lib.size_mk _
     show (ofL (Lib.itoa n)).size <= 1000000000
     omega
   ·split at h
    ·split at h
     ·obtain rfl:=Option.some.inj h; have:=Nam.clean_size s; omega
     ·cases h
    ·unfold truthS at h
     split at h
     ·obtain rfl:=Option.some.inj h; decide
     ·split at h
      ·obtain rfl:=Option.some.inj h; decide
      ·cases h
def nrmE (T:List Ty) (n v:ByteArray):Int:=match tyOf T n with
 | none=>6
 | some t=>normE t.syn v
def nrmV (T:List Ty) (n v:ByteArray):ByteArray:=match tyOf T n with
 | none=>⟨#[]⟩
 | some t=>(normS t.syn v).getD ⟨#[]⟩
set_option maxHeartbeats 4000000 in
theorem normalF_s (v:Value) (ts:List Ty) (cs:List Cl) (n s:ByteArray) (w:World) (h:SchV w v ts cs) (hn:n.size <= 1000000000) (hs:s.size <= 1100000) (ho:IntOk w) :
  Calls Tryz.prog 47 #[v, .string n, .string s] w fun e w'=>e = .returned (.tuple #[.string (nrmV (soundT ts cs) n s), .int .i64 (nrmE (soundT ts cs) n s)]) /\ Below w.heap.size w w':=by
 have h':=h
 obtain ⟨ao,k,cap,bo,m,dap,rfl,_⟩:=h'
 have hb0:Below w.heap.size w (w.alloc (.cells #[.slice ao k cap, .slice bo m dap] 25)):=(Below.refl _ _).alloc (Nat.le_refl _) _
 have HB0:=Lib.hid hb0
 have HC:=Lib.hid (typeF_s _ ts cs n _ (h.below hb0) hn)
 have HO:=Lib.hid (ho.below hb0)
 clear h hb0 ho
 go_enter Tryz.func47,Tryz.ntmps47
 go_wp2_with fail
 refine HC.out.mono ?_
 rintro e w1 ⟨rfl,hb⟩
 have hsz1:w.heap.size < w1.heap.size:=by have:=hb.size; simp at this; omega
 have HB1:=Lib.hid (HB0.out.trans (hb.mono (by simp)))
 have HO1:=Lib.hid (HO.out.below hb)
 clear hb HC HB0 HO
 unfold tyV
 cases ht:tyOf (soundT ts cs) n with
 | none =>
  have HE:=Lib.hid (show nrmV (soundT ts cs) n s=⟨#[]⟩ /\ nrmE (soundT ts cs) n s=6 by unfold nrmV nrmE; rw [ht]; exact ⟨rfl,rfl⟩)
  clear ht
  dsimp only [Option.getD,Option.isSome,zeroTy]
  go_wp2_with fail
  go_ret2
  exact ⟨by rw [HE.out.1,HE.out.2]; rfl,HB1.out.alloc (by omega) _⟩
 | some t =>
  have HE:=Lib.hid (show nrmV (soundT ts cs) n s=(normS t.syn s).getD ⟨#[]⟩ /\ nrmE (soundT ts cs) n s=normE t.syn s by unfold nrmV nrmE; rw [ht]; exact ⟨rfl,rfl⟩)
  clear ht
  dsimp only [Option.getD,Option.isSome]
  have hal:=(Below.refl w1.heap.size w1).alloc (Nat.le_refl _) (.cells #[.string t.name, .int .i64 t.syn, .bool t.single] 62)
  have HC2:=Lib.hid (normal_s t.syn s _ hs (HO1.out.below hal) (fun f hf=>formS_small hs hf))
  have HAL:=Lib.hid (HB1.out.trans (hal.mono (Nat.le_of_lt hsz1)))
  clear hal
  go_wp2_with fail
  refine HC2.out.mono ?_
  rintro e w2 ⟨rfl,hb⟩
  have HB2:=Lib.hid (HAL.out.trans (hb.mono HAL.out.size))
  clear hb
  go_wp2_with fail
  go_ret2
  exact ⟨by rw [HE.out.1,HE.out.2]; rfl,HB2.out⟩
end Go.Proofs.YtmmdaegdkikkpaaGreatDoor
end

section
set_option maxRecDepth 100000
namespace Go.Proofs.YtmmdaegdkikkpaaGreatDoor
open Go.RowKit Go.PlainAid
theorem all_take {f:ByteArray -> Bool} {ns:List ByteArray} {k:Nat} (h:(ns.take k).all f=true) (hk:k < ns.length) (h1:f (partAt ns k)=true):(ns.take (k + 1)).all f=true:=by
 rw [take_snoc ns k hk,List.all_append,h]
 simpa using h1
theorem all_false {f:ByteArray -> Bool} {ns:List ByteArray} {k:Nat} (hk:k < ns.length) (h1:f (partAt ns k)=false):ns.all f=false:=by
 cases e:ns.all f
 ·rfl
 ·have:=(List.all_eq_true.1 e) _ (part_mem ns k hk)
  rw [h1] at this; cases this
theorem contains_s (b m:Nat) (D:DataW Unit) (ks:List ByteArray) (ao:Option Addr) (n cap:Nat) (ns:List ByteArray) (w:World) (hG:SetM w b m D ks) (hs:StrsAt w ao n cap ns) (hz:∀ s ∈ ns,s.size <= 1000000000) :
  Calls Tryz.prog 178 #[.map (some b), .slice ao n cap] w fun e w'=>e = .returned (.bool (ns.all (memB ks))) /\ w=w':=by
 obtain ⟨h1,h2,h3,h4⟩:=hs
 subst h1
 unfold maxLen at h3
 have H4:=Lib.hid h4; clear h4
 have HZ:=Lib.hid hz; clear hz
 have HG:=Lib.hid hG; clear hG
 go_enter Tryz.func178,Tryz.ntmps178
 go_wp2
 go_loopw [6,9] (fun s6 i wr=>∃ k:Nat,k <= ns.length /\ i = .int .i64 k /\ Hid ((ns.take k).all (memB ks)=true) /\ w=wr) (fun _ i _=>ns.length - (intOf i).toNat)
 case atStart=>exact ⟨0,Nat.zero_le _,rfl,Lib.hid rfl,rfl⟩
 case round =>
  obtain ⟨k,hk,rfl,HA,rfl⟩:=hrel
  by_cases hlt:k < ns.length
  ·obtain ⟨g,off,rfl,hs⟩:=H4.out (by omega)
   have hcell:=hs.2 k hlt
   clear hs
   obtain ⟨p,hp⟩:∃ x,partAt ns k=x:=⟨_,rfl⟩
   have hps:p.size <= 1000000000:=by rw [<- hp]; exact HZ.out _ (part_mem ns k hlt)
   have hlook:=HG.out.look p (by unfold maxLen; omega)
   have d1:(k:Int) < (ns.length:Int):=by omega
   rw [hp] at hcell
   cases ht:memB ks p
   ·have HE:=Lib.hid (show ns.all (memB ks)=false from all_false hlt (by rw [hp]; exact ht))
    rw [ht] at hlook
    clear ht hp
    go_wp2_with fail
    go_ret
    exact ⟨by rw [HE.out]; rfl,rfl⟩
   ·have HA2:=Lib.hid (all_take HA.out hlt (by rw [hp]; exact ht))
    rw [ht] at hlook
    clear ht hp
    go_wp2_with fail
    go_roundw
    case rel=>exact ⟨k + 1,by omega,by go_num,HA2,trivial⟩
    case measure=>simp [intOf]; omega
  ·have hk2:k=ns.length:=by omega
   have HE:=Lib.hid (show ns.all (memB ks)=true by have:=HA.out; rw [hk2,List.take_length] at this; exact this)
   have d1:¬ (k:Int) < (ns.length:Int):=by omega
   go_wp2_with fail
   go_ret
   exact ⟨by rw [HE.out]; rfl,rfl⟩
def valE (x:Int) (vs:List ByteArray):Int:=firstE (fun j=>normE x (partAt vs j)) vs.length
def chkAt (T:List Ty) (a:At):Int:=match tyOf T a.1 with
 | none=>6
 | some t=>if valE t.syn a.2 ≠ 0 then valE t.syn a.2 else if t.single=true /\ 1 < a.2.length then 9 else 0
set_option maxHeartbeats 8000000 in
theorem checkAttr_s (mt mc:Option Nat) (ts:List Ty) (a:At) (vo:Option Addr) (vn vc:Nat) (w:World) (h:TMap w mt ts) (hv:StrsAt w vo vn vc a.2) (hn:a.1.size <= 1100000) (hz:SmallS a.2) (ho:IntOk w) :
  Calls Tryz.prog 110 #[.agg #[.map mt, .map mc], .agg #[.string a.1, .slice vo vn vc]] w fun e w'=>e = .returned (.int .i64 (chkAt ts a)) /\ Below w.heap.size w w':=by
 obtain ⟨nm,vs⟩:=a
 simp only at hv hn hz ⊢
 have hb0:Below w.heap.size w ((w.alloc (.cells #[.map mt, .map mc] 130)).alloc (.cells #[.string nm, .slice vo vn vc] 58)):=((Below.refl _ _).alloc (Nat.le_refl _) _).alloc (by simp) _
 have HB0:=Lib.hid hb0
 have HC:=Lib.hid (typeOf_s mt mc ts nm _ (h.below hb0) (by omega))
 have HO:=Lib.hid (ho.below hb0)
 have HV:=Lib.hid hv
 have HZ:=Lib.hid hz
 have hvl:=hv.1
 have hvm:=hv.2.2.1
 unfold maxLen at hvm
 have hvc:=hv.2.1
 clear h hb0 ho hv hz
 go_enter Tryz.func110,Tryz.ntmps110
 go_wp2_with fail
 refine HC.out.mono ?_
 rintro e w1 ⟨rfl,hb⟩
 have hsz1:w.heap.size + 1 < w1.heap.size:=by have:=hb.size; simp at this; omega
 have q0:w1.cell? ⟨w.heap.size + 1,0,none⟩=some (.string nm):=cell_later hb (by go_simp)
 have q1:w1.cell? ⟨w.heap.size + 1,1,none⟩=some (.slice vo vn vc):=cell_later hb (by go_simp)
 have HB1:=Lib.hid (HB0.out.trans (hb.mono (by simp; omega)))
 have HO1:=Lib.hid (HO.out.below hb)
 clear hb HC HB0 HO
 unfold tyV
 cases ht:tyOf ts nm with
 | none =>
  have HE:=Lib.hid (show chkAt ts (nm,vs)=6 by unfold chkAt; simp only; rw [ht])
  clear ht
  dsimp only [Option.getD,Option.isSome,zeroTy]
  go_wp2_with fail
  go_ret
  exact ⟨by rw [HE.out]; rfl,HB1.out.alloc (by omega) _⟩
 | some t =>
  have HE:=Lib.hid (show chkAt ts (nm,vs)=if valE t.syn vs ≠ 0 then valE t.syn vs else if t.single=true /\ 1 < vs.length then 9 else 0 by unfold chkAt; simp only; rw [ht])
  clear ht
  dsimp only [Option.getD,Option.isSome]
  obtain ⟨tn,syn,sg⟩:=t
  dsimp only at HE ⊢
  have hal:=(Below.refl w1.heap.size w1).alloc (Nat.le_refl _) (.cells #[.string tn, .int .i64 syn, .bool sg] 62)
  have HI:=Lib.hid (show (w1.alloc (.cells #[.string tn, .int .i64 syn, .bool sg] 62)).cell? ⟨w1.heap.size,1,none⟩=some (.int .i64 syn) /\ (w1.alloc (.cells #[.string tn, .int .i64 syn, .bool sg] 62)).cell? ⟨w1.heap.size,2,none⟩=some (.bool sg) /\ (w1.alloc (.cells #[.string tn, .int .i64 syn, .bool sg] 62)).cell? ⟨w.heap.size + 1,1,none⟩=some (.slice vo vn vc) from ⟨by go_simp,by go_simp,cell_later hal q1⟩)
  have HB2:=Lib.hid (HB1.out.trans (hal.mono (by omega)))
  have HO2:=Lib.hid (HO1.out.below hal)
  clear hal
  go_wp2_with fail
  go_loopw [8,9,10,23] (fun s8 s9 s10 i wr=>∃ k:Nat,k <= vn /\ i = .int .i64 k /\ Hid (∀ q,q < k -> normE syn (partAt vs q)=0) /\ Hid (wr.cell? ⟨w1.heap.size,1,none⟩=some (.int .i64 syn) /\ wr.cell? ⟨w1.heap.size,2,none⟩=some (.bool sg) /\ wr.cell? ⟨w.heap.size + 1,1,none⟩=some (.slice vo vn vc)) /\ Hid (IntOk wr) /\ Hid (Below w.heap.size w wr)) (fun _ _ _ i _=>vn - (intOf i).toNat)
  case atStart=>exact ⟨0,Nat.zero_le _,rfl,Lib.hid (fun q hq=>absurd hq (Nat.not_lt_zero _)),HI,HO2,HB2⟩
  case round =>
   clear HI HO2 HB2
   obtain ⟨k,hk,rfl,HA,HI,HO,HB⟩:=hrel
   obtain ⟨i0,i1,i2⟩:=HI.out
   by_cases hlt:k < vn
   ·obtain ⟨b,off,rfl,hs⟩:=HV.out.2.2.2 (by omega)
    have hcell:=(hs.below HB.out hs.1).2 k (by omega)
    clear hs
    have hps:=HZ.out _ (part_mem vs k (by omega))
    obtain ⟨p,hp⟩:∃ x,partAt vs k=x:=⟨_,rfl⟩
    rw [hp] at hcell hps
    have HC:=Lib.hid (normal_s syn p wr hps HO.out (fun f hf=>formS_small hps hf))
    obtain ⟨fv,hfv⟩:∃ f,(normS syn p).getD ⟨#[]⟩=f:=⟨_,rfl⟩
    obtain ⟨ev,hev⟩:∃ e,normE syn p=e:=⟨_,rfl⟩
    rw [hfv,hev] at HC
    have d1:(k:Int) < (vn:Int):=by omega
    have HP:=Lib.hid (And.intro hp hev)
    clear hp hfv hev
    go_wp2_with fail
    refine HC.out.mono ?_
    rintro e w2 ⟨rfl,hb⟩
    have HI2:=Lib.hid (And.intro (cell_later hb i0) (And.intro (cell_later hb i1) (cell_later hb i2)))
    have HO3:=Lib.hid (HO.out.below hb)
    have HB3:=Lib.hid (HB.out.trans (hb.mono HB.out.size))
    clear hb i0 i1 i2 HC
    by_cases he:ev=0
    ·subst he
     go_wp2_with fail
     go_roundw
     case rel =>
      refine ⟨k + 1,by omega,by go_num,Lib.hid fun q hq => ?_,HI2,HO3,HB3⟩
      rcases Nat.lt_or_ge q k with h | h
      ·exact HA.out q h
      ·obtain rfl:q=k:=by omega
       rw [HP.out.1]; exact HP.out.2
     case measure=>simp [intOf]; omega
    ·have hve:valE syn vs=ev:=by
      unfold valE
      rw [firstE_hit (k:=k) HA.out (by rw [HP.out.1,HP.out.2]; exact he) (by omega),HP.out.1,HP.out.2]
     have HE2:=Lib.hid (show chkAt ts (nm,vs)=ev from HE.out.trans (by rw [hve,if_pos he]))
     clear hve
     go_wp2_with fail
     go_ret
     exact ⟨by rw [HE2.out]; rfl,HB3.out⟩
   ·obtain rfl:k=vn:=by omega
    have d1:¬ (k:Int) < (k:Int):=by omega
    have hve:valE syn vs=0:=firstE_zero (fun j hj=>HA.out j (by omega))
    have HE2:=Lib.hid (show chkAt ts (nm,vs)=if sg=true /\ 1 < k then 9 else 0 from HE.out.trans (by rw [hve,hvl]; simp))
    clear hve
    cases sg
    ·have HE3:=Lib.hid (show chkAt ts (nm,vs)=0 from HE2.out.trans (by simp))
     go_wp2_with fail
     go_ret
     exact ⟨by rw [HE3.out]; rfl,HB.out⟩
    ·by_cases h1:1 < k
     ·have d2:(1:Int) < (k:Int):=by omega
      have HE3:=Lib.hid (show chkAt ts (nm,vs)=9 from HE2.out.trans (by simp [h1]))
      go_wp2_with fail
      go_ret
      exact ⟨by rw [HE3.out]; rfl,HB.out⟩
     ·have d2:¬ (1:Int) < (k:Int):=by omega
      have HE3:=Lib.hid (show chkAt ts (nm,vs)=0 from HE2.out.trans (by simp [h1]))
      go_wp2_with fail
      go_ret
      exact ⟨by rw [HE3.out]; rfl,HB.out⟩
end Go.Proofs.YtmmdaegdkikkpaaGreatDoor
end
