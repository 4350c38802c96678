/-
  Texts of the schema layer and of those beneath it, joined: SchBox, SchAln, SchPar, SchKl, SchFew, SchSml. Conditions stand at each contract.
-/
import Derived.Test.YtmmdaegdkikkpaaGreatDoorS16
set_option linter.unusedVariables false
set_option linter.unusedSimpArgs false
set_option linter.unnecessarySimpa false

section
set_option maxRecDepth 100000
namespace Go.Proofs.YtmmdaegdkikkpaaGreatDoor
open Go.RowKit Go.PlainAid
def FarV (b:Nat) (v vt vc:Value):Prop := ∀ g off n c,v = .slice (some ⟨g,off,none⟩) n c -> 0 < n -> b < g /\ vt.ownBlock ≠ some g /\ vc.ownBlock ≠ some g
structure SB (W:World) (b:Nat) (ts:List Ty) (cvs:List Cv) (vt vc:Value):Prop where
 blk:W.heap[b]? = some (.cells #[vt,vc] 25)
 rowT:W.ownsRow (b + 1) 62 3 vt ts.length (ycells ts)
 rowC:W.ownsRow (b + 1) 64 4 vc cvs.length (ccells cvs)
 apart:vt.ownBlock=none ∨ vt.ownBlock ≠ vc.ownBlock
 ok:∀ d ∈ cvs,CvOk W d
 far:∀ d ∈ cvs,FarV b d.hm vt vc /\ FarV b d.hy vt vc
theorem SB.lt {W:World} {b:Nat} {ts:List Ty} {cvs:List Cv} {vt vc:Value} (h:SB W b ts cvs vt vc):b < W.heap.size:=(Array.getElem?_eq_some_iff.1 h.blk).1
theorem SB.below {W V:World} {b:Nat} {ts:List Ty} {cvs:List Cv} {vt vc:Value} (h:SB W b ts cvs vt vc) (hb:Below W.heap.size W V):SB V b ts cvs vt vc:=
 ⟨(hb.block _ h.lt).trans h.blk,own_below h.rowT hb,own_below h.rowC hb,h.apart,fun d hd=>(h.ok d hd).below hb,h.far⟩
theorem Hdr.keepP {w w':World} {v:Value} {l:List ByteArray} (h:Hdr w v l) (hs:w.heap.size <= w'.heap.size) (hk:∀ g off n c,v = .slice (some ⟨g,off,none⟩) n c -> 0 < n -> g < w.heap.size -> w'.heap[g]? = w.heap[g]?):Hdr w' v l:=by
 obtain ⟨ao,n,cap,rfl,h1,h2,h3,h4⟩:=h
 refine ⟨ao,n,cap,rfl,h1,h2,h3,fun hn => ?_⟩
 obtain ⟨g,off,rfl,hi⟩:=h4 hn
 refine ⟨g,off,rfl,Nat.lt_of_lt_of_le hi.1 hs,fun j hj => ?_⟩
 rw [<- hi.2 j hj]
 exact World.cell?_of_block (a:=⟨g,off + j,none⟩) (hk g off n cap rfl hn hi.1)
theorem step_append_own_at {ops:Array Oper} {o:Oper} {a:Act} {w:World} {K:Act -> World -> Prop} {Q:Exit -> Act -> World -> Prop} {E:Prop} (hgd:o.guard=none) (s x:Operand) (t:TypeId)
  (ho:o.op = .call { callee := .builtin .append,args := #[s,x],argTypes := #[t,t] })
  (base:Nat) (e:TypeId) (i:TypeInfo) (z:Value) (size bytes:Nat) (ht:Tryz.prog.underlying t=some (.slice e)) (hi:Tryz.prog.info? e=some i) (hz:i.zero=some z)
  (hsize:i.size=size) (hby:i.bytes=bytes) (hzs:z.cells.size=size) (hsz:0 < size)
  (v:Value) (n:Nat) (xs:List Value) (hs:a.eval s=v) (hown:w.ownsRow base e size v n xs)
  (ad:Addr) (m c:Nat) (news:List Value) (hx:a.eval x = .slice (some ad) m c) (hl:news.length=m * size) (hnews:∀ j u,news[j]? = some u -> w.cell? (ad.add j)=some u) (h1:∀ u ∈ news,u.oneCell'=true)
  (h63:n + m <= maxLen) (hbytes:(n + m) * bytes <= 140737488355328) (hbase:base <= w.heap.size)
  (h:∀ v' w',w'.ownsRow base e size v' (n + m) (xs ++ news) -> w.grownBy w' v.ownBlock -> (v'.ownBlock=v.ownBlock ∨ v'.ownBlock=some w.heap.size) -> K (a.put o.dst v') w') :
  if Region.wanted o (yielded ops a.tmps)=true then Oper.wp Tryz.prog o a w K Q else E:=by
 have hw:Region.wanted o (yielded ops a.tmps)=true:=by simp [Region.wanted,hgd]
 rw [if_pos hw]
 obtain ⟨v',w',hr,h2,h3,_,h5⟩:=run_append_own_at (P:=Tryz.prog) w base t o.type e i z size bytes ht hi hz hsize hby hzs hsz v n xs hown ad m c news hl hnews h1 h63 hbytes hbase
 unfold Oper.wp execOp
 simp only [ho,resolve,invoke,builtin,Sem.run_bind,Sem.run_pure,Result.andThen_ok,List.map_toArray,List.map_cons,List.map_nil,hs,hx,hr]
 exact h v' w' h2 h3 h5
theorem row_slice {w:World} {base:Nat} {e:TypeId} {size:Nat} {v:Value} {n:Nat} {xs:List Value} (h:w.ownsRow base e size v n xs):∃ ao cap,v = .slice ao n cap:=by
 rcases h.2 with ⟨rfl,rfl⟩ | ⟨g,cap,cur,rfl,_⟩
 ·exact ⟨_,_,rfl⟩
 ·exact ⟨_,_,rfl⟩
theorem FarV.fresh {W:World} {b:Nat} {ts:List Ty} {cvs:List Cv} {vt vc:Value} (h:SB W b ts cvs vt vc) {ao:Option Addr} {n c:Nat} (hf:FreshA W.heap.size ao):FarV b (.slice ao n c) vt vc:=fun g off n' c' e hn=>by
 simp only [Value.slice.injEq] at e
 obtain ⟨rfl,_,_⟩:=e
 have hg:=hf g off rfl
 refine ⟨by have:=h.lt; omega,fun e=>by have:=(h.rowT.lt g e).2; omega,fun e=>by have:=(h.rowC.lt g e).2; omega⟩
theorem SB.other {W:World} {b:Nat} {ts:List Ty} {cvs:List Cv} {vt vc:Value} (h:SB W b ts cvs vt vc) (a:Addr) (ha:a.block < b) (u:Value):SB (W.setCell a u) b ts cvs vt vc:=by
 have hsz:W.heap.size <= (W.setCell a u).heap.size:=by simp [World.setCell]
 have hk:∀ {v:Value} {l:List ByteArray},Hdr W v l -> FarV b v vt vc -> Hdr (W.setCell a u) v l:=fun hh hf=>hh.keepP hsz fun g off n c e hn hgl=>Below.heap_setCell W a u g (by have:=(hf g off n c e hn).1; omega)
 exact ⟨(Below.heap_setCell W a u b (by omega)).trans h.blk,ownsRow_setCell_below h.rowT (by omega) u,ownsRow_setCell_below h.rowC (by omega) u,h.apart,fun d hd=>⟨hk (h.ok d hd).1 (h.far d hd).1,hk (h.ok d hd).2 (h.far d hd).2⟩,h.far⟩
theorem StrsAt.tail {w:World} {b off n cap:Nat} {l:List ByteArray} (h:StrsAt w (some ⟨b,off,none⟩) n cap l) (hn:0 < n):StrsAt w (some ⟨b,off + 1,none⟩) (n - 1) (cap - 1) l.tail:=by
 cases l with
 | nil=>have:=h.1; simp at this; omega
 | cons p r=>exact h.drop
theorem emp_false {s:ByteArray} (h:s ≠ ⟨#[]⟩):s.toList.isEmpty=false:=by
 rw [Lib.toList_data]
 rcases s with ⟨⟨l⟩⟩
 cases l with
 | nil=>exact absurd rfl h
 | cons=>rfl
theorem cl_takeAt (l:List Cl) {k j:Nat} (h:j < k):clAt (l.take k) j=clAt l j:=by
 unfold clAt; rw [List.getD_eq_getElem?_getD,List.getElem?_take_of_lt h,List.getD_eq_getElem?_getD]
theorem ty_takeAt (l:List Ty) {k j:Nat} (h:j < k):tyAt (l.take k) j=tyAt l j:=by
 unfold tyAt; rw [List.getD_eq_getElem?_getD,List.getElem?_take_of_lt h,List.getD_eq_getElem?_getD]
theorem ClsAt.cut {w:World} {ao:Option Addr} {n cap:Nat} {l:List Cl} (h:ClsAt w ao n cap l) {k:Nat} (hk:k <= n):ClsAt w ao k cap (l.take k):=by
 obtain ⟨h1,h2,h3,h4⟩:=h
 refine ⟨by rw [List.length_take]; omega,by omega,h3,fun hn => ?_⟩
 obtain ⟨b,off,e,hb,hs⟩:=h4 (by omega)
 exact ⟨b,off,e,hb,fun j hj=>by rw [cl_takeAt l hj]; exact hs j (by omega)⟩
theorem TysAt.cut {w:World} {ao:Option Addr} {n cap:Nat} {l:List Ty} (h:TysAt w ao n cap l) {k:Nat} (hk:k <= n):TysAt w ao k cap (l.take k):=by
 obtain ⟨h1,h2,h3,h4⟩:=h
 refine ⟨by rw [List.length_take]; omega,by omega,h3,fun hn => ?_⟩
 obtain ⟨b,off,e,hb,hs⟩:=h4 (by omega)
 exact ⟨b,off,e,hb,fun j hj=>by rw [ty_takeAt l hj]; exact hs j (by omega)⟩
theorem TyIx.pos {l:List Ty} {n:ByteArray} {r:Int} (h:TyIx l n r):(0 <= r /\ (tyOf l n).isSome=true) ∨ (r < 0 /\ (tyOf l n).isSome=false):=by
 rcases h with ⟨k,rfl,_,e⟩ | ⟨rfl,e⟩
 ·exact .inl ⟨by omega,by rw [e]; rfl⟩
 ·exact .inr ⟨by omega,by rw [e]; rfl⟩
theorem ClIx.pos {l:List Cl} {n:ByteArray} {r:Int} (h:ClIx l n r):(0 <= r /\ (clOf l n).isSome=true) ∨ (r < 0 /\ (clOf l n).isSome=false):=by
 rcases h with ⟨k,rfl,_,e⟩ | ⟨rfl,e⟩
 ·exact .inl ⟨by omega,by rw [e]; rfl⟩
 ·exact .inr ⟨by omega,by rw [e]; rfl⟩
structure KB (w W:World) (ao:Option Addr) (n cap:Nat) (bo:Option Addr) (m dap:Nat) (d:Cv):Prop where
 box:W.heap[w.heap.size]? = some (.cells #[.slice ao n cap, .slice bo m dap] 25)
 cls:W.heap[w.heap.size + 1]? = some (.cells #[.string d.cl.name, .string d.cl.super,d.hm,d.hy] 64)
 low:Below w.heap.size w W
 big:w.heap.size + 1 < W.heap.size
theorem KB.step {w W V:World} {ao:Option Addr} {n cap:Nat} {bo:Option Addr} {m dap:Nat} {d:Cv} (h:KB w W ao n cap bo m dap d) (hb:Below W.heap.size W V):KB w V ao n cap bo m dap d:=
 ⟨(hb.block _ (by have:=h.big; omega)).trans h.box,(hb.block _ h.big).trans h.cls,h.low.trans (hb.mono (by have:=h.big; omega)),Nat.lt_of_lt_of_le h.big hb.size⟩
theorem KB.cells {w W:World} {ao:Option Addr} {n cap:Nat} {bo:Option Addr} {m dap:Nat} {d:Cv} (h:KB w W ao n cap bo m dap d) :
  W.cell? ⟨w.heap.size,0,none⟩=some (.slice ao n cap) /\ W.cell? ⟨w.heap.size,1,none⟩=some (.slice bo m dap) /\ W.cell? ⟨w.heap.size + 1,0,none⟩=some (.string d.cl.name) /\ W.cell? ⟨w.heap.size + 1,1,none⟩=some (.string d.cl.super) /\ W.cell? ⟨w.heap.size + 1,2,none⟩=some d.hm /\ W.cell? ⟨w.heap.size + 1,3,none⟩=some d.hy:=
 ⟨heap_cell h.box rfl,heap_cell h.box rfl,heap_cell h.cls rfl,heap_cell h.cls rfl,heap_cell h.cls rfl,heap_cell h.cls rfl⟩
theorem kb_new (w:World) (ao:Option Addr) (n cap:Nat) (bo:Option Addr) (m dap:Nat) (d:Cv):KB w ((w.alloc (.cells #[.slice ao n cap, .slice bo m dap] 25)).alloc (.cells #[.string d.cl.name, .string d.cl.super,d.hm,d.hy] 64)) ao n cap bo m dap d:=
 ⟨(Below.heap_alloc _ _ _ (by simp)).trans (heap_alloc_new w _),by have:=heap_alloc_new (w.alloc (.cells #[.slice ao n cap, .slice bo m dap] 25)) (.cells #[.string d.cl.name, .string d.cl.super,d.hm,d.hy] 64); simpa using this,((Below.refl _ _).alloc (Nat.le_refl _) _).alloc (by simp) _,by simp⟩
theorem kbS {w W:World} {ao:Option Addr} {n cap:Nat} {bo:Option Addr} {m dap:Nat} {d:Cv} (h:KB w W ao n cap bo m dap d):W.cell? ⟨w.heap.size,1,none⟩=some (.slice bo m dap) /\ W.cell? ⟨w.heap.size + 1,1,none⟩=some (.string d.cl.super) /\ Hid (KB w W ao n cap bo m dap d):=
 ⟨h.cells.2.1,h.cells.2.2.2.1,Lib.hid h⟩
set_option maxHeartbeats 8000000 in
theorem classR_s (v:Value) (ts:List Ty) (cs:List Cl) (k:Nat) (w:World) (h:SchV w v ts cs) (hk:k < cs.length) :
  Calls Tryz.prog 120 #[v, .int .i64 k] w fun e w'=>e = .returned (.int .i64 (errC ts cs k)) /\ Below w.heap.size w w':=by
 obtain ⟨ao,n,cap,bo,m,dap,rfl,hT,hC,hsT,hsC⟩:=h
 obtain ⟨hm1,hm2,hm3,hm4⟩:=id hC
 have htl:=hT.1
 have htc:=hT.2.1
 have htx:=hT.2.2.1
 unfold maxLen at hm3 htx
 obtain ⟨b,off,rfl,hbl,hat⟩:=hm4 (by omega)
 obtain ⟨d,hd,hdk,y0,y1,y2,y3⟩:=cl_val (hat k (by omega))
 obtain ⟨hn0,hn1,hn2,hn3⟩:=hsC _ (cl_mem cs k hk)
 have hal:Below w.heap.size w (w.alloc (.cells #[.slice ao n cap, .slice (some ⟨b,off,none⟩) m dap] 25)):=(Below.refl _ _).alloc (Nat.le_refl _) _
 have y0:=cell_later hal y0
 have y1:=cell_later hal y1
 have y2:=cell_later hal y2
 have y3:=cell_later hal y3
 have HK0:=Lib.hid (kb_new w ao n cap (some ⟨b,off,none⟩) m dap d)
 have HIn:=Lib.hid (And.intro hT (And.intro hC (And.intro hsT hsC)))
 have HDk:=Lib.hid hdk
 have hE:errC ts cs k=errCl ts (cs.take k) d.cl:=by rw [errC_take,hd]
 rw [hE]
 rw [<- hd] at hn0 hn1 hn2 hn3 y0 y1
 obtain ⟨⟨cn,sup,mu,ma⟩,dm,dy⟩:=d
 simp only at hn0 hn1 hn2 hn3 y0 y1 y2 y3
 obtain ⟨⟨a1,p1,q1,rfl,hS1⟩,a2,p2,q2,rfl,hS2⟩:=hdk
 have HS:=Lib.hid (And.intro hS1 hS2)
 obtain ⟨nb,hnb⟩:∃ x,nameB cn=x:=⟨_,rfl⟩
 have HNb:=Lib.hid hnb
 have k0:(0:Int) <= (k:Int):=by omega
 have k1:(k:Int) < (m:Int):=by omega
 have hal2:w.heap.size <= w.heap.size + 1:=Nat.le_succ _
 clear hT hC hm4 hat hsT hsC hd hE hS1 hS2 hnb hal
 go_enter Tryz.func120,Tryz.ntmps120
 go_wp2_with fail
 refine (rName_s cn _ hn0).mono ?_
 rintro e w1 ⟨rfl,rfl⟩
 rw [HNb.out]
 cases nb
 ·go_wp2_with fail
  go_ret
  exact ⟨by unfold errCl; rw [HNb.out]; rfl,HK0.out.low⟩
 ·go_wp2_with fail
  have HC1:=Lib.hid (fun W (hb:Below w.heap.size w W)=>classAt_s (some ⟨b,off,none⟩) k dap (cs.take k) cn W ((HIn.out.2.1.below hb).cut (by omega)) (fun t ht=>(HIn.out.2.2.2 t (List.mem_of_mem_take ht)).1) hn0)
  have HC2:=Lib.hid (fun W (hb:Below w.heap.size w W)=>classAt_s (some ⟨b,off,none⟩) k dap (cs.take k) sup W ((HIn.out.2.1.below hb).cut (by omega)) (fun t ht=>(HIn.out.2.2.2 t (List.mem_of_mem_take ht)).1) hn1)
  generalize (w.alloc (.cells #[.slice ao n cap, .slice (some ⟨b,off,none⟩) m dap] 25)).alloc (.cells #[.string cn, .string sup, .slice a1 p1 q1, .slice a2 p2 q2] 64)=W1 at HK0 ⊢
  obtain ⟨c0,c1,x0,x1,x2,x3⟩:=HK0.out.cells
  simp only at x0 x1 x2 x3
  have k2:(k:Int) <= (dap:Int):=by omega
  refine wp_region_still_tail 6 (by kernel_rfl) (by kernel_rfl) ?_
  simp only [List.take_succ_cons,List.take_zero,List.drop_succ_cons,List.drop_zero]
  change wpStill _ _ (World.drew _) _ _ _
  still_step
  still_step
  still_step
  still_step
  still_step
  still_step
  refine wpStill_nil ?_
  change wpList _ _ _ _ _ (World.drew _)
  have HK1:=Lib.hid (HK0.out.step (Below.refl _ _).drew)
  clear c0 c1 x0 x1 x2 x3
  generalize World.drew _=W2 at HK1 ⊢
  obtain ⟨c0,c1,x0,x1,x2,x3⟩:=HK1.out.cells
  simp only at x0 x1 x2 x3
  go_wp2_with fail
  refine (HC1.out _ HK1.out.low).mono ?_
  rintro e W3 ⟨r,rfl,hix,hb⟩
  have HK2:=Lib.hid (HK1.out.step hb)
  have HIx:=Lib.hid hix.pos
  clear c0 c1 x0 x1 x2 x3 hb hix HC1
  obtain ⟨c0,c1,x0,x1,x2,x3⟩:=HK2.out.cells
  simp only at x0 x1 x2 x3
  by_cases hr:0 <= r
  ·have hq:(clOf (cs.take k) cn).isSome=true:=by rcases HIx.out with h | h; exact h.2; omega
   have HE:=Lib.hid (show errCl ts (cs.take k) ⟨cn,sup,mu,ma⟩=7 by unfold errCl; simp only; rw [if_neg (by rw [HNb.out]; decide),if_pos hq])
   clear hq
   go_wp2_with fail
   go_ret
   exact ⟨by rw [HE.out]; rfl,HK2.out.low⟩
  ·have hq:(clOf (cs.take k) cn).isSome=false:=by rcases HIx.out with h | h; omega; exact h.2
   have HE:=Lib.hid (show errCl ts (cs.take k) ⟨cn,sup,mu,ma⟩=if sup.size ≠ 0 /\ (clOf (cs.take k) sup).isSome=false then 6 else if 64 < mu.length ∨ 64 < ma.length then 3 else if typedB ts mu=false ∨ typedB ts ma=false then 6 else 0 by unfold errCl; simp only; rw [if_neg (by rw [HNb.out]; decide),if_neg (by rw [hq]; decide)])
   clear hq
   go_wp2_with fail
   have S0:=kbS (HK2.out.step (Below.refl _ _).drew)
   clear c0 c1 x0 x1 x2 x3
   by_cases hz:sup.size=0
   ·have z0:sup.toList.isEmpty=true:=by rw [str_none]; exact decide_eq_true hz
    refine wp_region_held_drew (S:=fun W=>W.cell? ⟨w.heap.size,1,none⟩=some (.slice (some ⟨b,off,none⟩) m dap) /\ W.cell? ⟨w.heap.size + 1,1,none⟩=some (.string sup) /\ Hid (KB w W ao n cap (some ⟨b,off,none⟩) m dap ⟨⟨cn,sup,mu,ma⟩, .slice a1 p1 q1, .slice a2 p2 q2⟩)) (by kernel_rfl) (S0) (fun hS => ?_)
    refine rgT 0 (some 25) ?_
    refine rgT 1 (some 26) ?_
    refine rgT 2 (some 27) ?_
    refine rgT 3 (some 28) ?_
    refine rgS 4 (some 29) ?_
    refine rgS 5 (some 30) ?_
    refine rgS 6 (some 31) ?_
    refine rgS 7 (some 32) ?_
    refine rgS 8 (some 33) ?_
    refine rgS 9 (some 34) ?_
    refine rgS 10 (some 35) ?_
    refine rgS 11 (some 36) ?_
    refine rgT 12 (some 37) ?_
    refine wpAnyH_done (by kernel_rfl) ?_ _
    have HK3:=S0.2.2
    clear S0
    generalize World.drew W3=W4 at HK3 ⊢
    obtain ⟨c0,c1,x0,x1,x2,x3⟩:=HK3.out.cells
    simp only at x0 x1 x2 x3
    have hl1:=HS.out.1.1
    have hl2:=HS.out.2.1
    by_cases hp:64 < p1
    ·have d1:(p1:Int) > 64:=by omega
     go_wp2_with fail
     go_ret
     exact ⟨by rw [HE.out,if_neg (fun h=>h.1 hz),if_pos (.inl (by omega))]; rfl,HK3.out.low⟩
    ·have d1:¬ (p1:Int) > 64:=by omega
     by_cases hp2:64 < p2
     ·have d2:(p2:Int) > 64:=by omega
      go_wp2_with fail
      go_ret
      exact ⟨by rw [HE.out,if_neg (fun h=>h.1 hz),if_pos (.inr (by omega))]; rfl,HK3.out.low⟩
     ·have d2:¬ (p2:Int) > 64:=by omega
      have HE2:=Lib.hid (show errCl ts (cs.take k) ⟨cn,sup,mu,ma⟩=if typedB ts mu=false ∨ typedB ts ma=false then 6 else 0 by rw [HE.out,if_neg (fun h=>h.1 hz),if_neg (by omega)])
      have HS1:=Lib.hid HS.out.1
      have HS2:=Lib.hid HS.out.2
      clear HE d1
      go_wp2_with fail
      go_loopw [6] (fun i wr=>∃ j:Nat,j <= p1 /\ i = .int .i64 j /\ Hid (typedB ts (mu.take j)=true) /\ Hid (KB w wr ao n cap (some ⟨b,off,none⟩) m dap ⟨⟨cn,sup,mu,ma⟩, .slice a1 p1 q1, .slice a2 p2 q2⟩)) (fun i _=>p1 - (intOf i).toNat)
      case atStart=>exact ⟨0,Nat.zero_le _,rfl,Lib.hid rfl,HK3⟩
      case round =>
       clear c0 c1 x0 x1 x2 x3
       obtain ⟨j,hj,rfl,HA,HKj⟩:=hrel
       obtain ⟨c0,c1,x0,x1,x2,x3⟩:=HKj.out.cells
       simp only at x0 x1 x2 x3
       by_cases hlt:j < p1
       ·obtain ⟨g,o,rfl,hgl,hcs⟩:=(HS1.out.below HKj.out.low).2.2.2 (by omega)
        have hcell:=hcs j (by rw [HS1.out.1]; exact hlt)
        obtain ⟨x,hx⟩:∃ x,partAt mu j=x:=⟨_,rfl⟩
        have hxs:x.size <= 1000000000:=by rw [<- hx]; exact hn2 _ (part_mem mu j (by rw [HS1.out.1]; exact hlt))
        rw [hx] at hcell
        have HX:=Lib.hid hx
        have e1:(0:Int) <= (j:Int):=by omega
        have e2:(j:Int) < (p1:Int):=by omega
        clear hcs hx
        go_wp2_with fail
        refine wp_region_still_tail 7 (by kernel_rfl) (by kernel_rfl) ?_
        simp only [List.take_succ_cons,List.take_zero,List.drop_succ_cons,List.drop_zero]
        change wpStill _ _ (World.drew _) _ _ _
        still_step
        still_step
        still_step
        still_step
        still_step
        still_step
        still_step
        refine wpStill_nil ?_
        change wpList _ _ _ _ _ (World.drew _)
        have HKd:=Lib.hid (HKj.out.step (Below.refl _ _).drew)
        clear c0 c1 x0 x1 x2 x3 hcell
        generalize World.drew _=Wd at HKd ⊢
        obtain ⟨c0,c1,x0,x1,x2,x3⟩:=HKd.out.cells
        simp only at x0 x1 x2 x3
        have HCt:=Lib.hid (typeAt_s ao n cap ts x Wd (HIn.out.1.below HKd.out.low) HIn.out.2.2.1 hxs)
        go_wp2_with fail
        refine HCt.out.mono ?_
        rintro e We ⟨r',rfl,hix,hb⟩
        have HKe:=Lib.hid (HKd.out.step hb)
        have HIx':=Lib.hid hix.pos
        clear c0 c1 x0 x1 x2 x3 hb hix HCt
        obtain ⟨c0,c1,x0,x1,x2,x3⟩:=HKe.out.cells
        simp only at x0 x1 x2 x3
        by_cases hr':r' < 0
        ·have hq:(tyOf ts x).isSome=false:=by rcases HIx'.out with h | h; omega; exact h.2
         have HF:=Lib.hid (show typedB ts mu=false from all_false (by rw [HS1.out.1]; exact hlt) (by rw [HX.out]; exact hq))
         clear hq
         go_wp2_with fail
         go_ret
         exact ⟨by rw [HE2.out,if_pos (.inl HF.out)]; rfl,HKe.out.low⟩
        ·have hq:(tyOf ts x).isSome=true:=by rcases HIx'.out with h | h; exact h.2; omega
         have HA2:=Lib.hid (show typedB ts (mu.take (j + 1))=true from all_take HA.out (by rw [HS1.out.1]; exact hlt) (by rw [HX.out]; exact hq))
         clear hq
         go_wp2_with fail
         go_roundw
         case rel=>exact ⟨j + 1,by omega,by go_num,HA2,HKe⟩
         case measure=>simp [intOf]; omega
       ·obtain rfl:p1=j:=by omega
        have e3:¬ (p1:Int) < (p1:Int):=by omega
        have HAll:=Lib.hid (show typedB ts mu=true by have:=HA.out; rwa [List.take_of_length_le (by have:=HS1.out.1; omega)] at this)
        go_wp2_with fail
        have HM:=Lib.hid HAll.out
        clear HAll HA
        go_loopw [7] (fun i wr=>∃ j:Nat,j <= p2 /\ i = .int .i64 j /\ Hid (typedB ts (ma.take j)=true) /\ Hid (KB w wr ao n cap (some ⟨b,off,none⟩) m dap ⟨⟨cn,sup,mu,ma⟩, .slice a1 p1 q1, .slice a2 p2 q2⟩)) (fun i _=>p2 - (intOf i).toNat)
        case atStart=>exact ⟨0,Nat.zero_le _,rfl,Lib.hid rfl,HKj⟩
        case round =>
         clear c0 c1 x0 x1 x2 x3
         obtain ⟨j,hj,rfl,HA,HKj⟩:=hrel
         obtain ⟨c0,c1,x0,x1,x2,x3⟩:=HKj.out.cells
         simp only at x0 x1 x2 x3
         by_cases hlt:j < p2
         ·obtain ⟨g,o,rfl,hgl,hcs⟩:=(HS2.out.below HKj.out.low).2.2.2 (by omega)
          have hcell:=hcs j (by rw [HS2.out.1]; exact hlt)
          obtain ⟨x,hx⟩:∃ x,partAt ma j=x:=⟨_,rfl⟩
          have hxs:x.size <= 1000000000:=by rw [<- hx]; exact hn3 _ (part_mem ma j (by rw [HS2.out.1]; exact hlt))
          rw [hx] at hcell
          have HX:=Lib.hid hx
          have e1:(0:Int) <= (j:Int):=by omega
          have e2:(j:Int) < (p2:Int):=by omega
          clear hcs hx
          go_wp2_with fail
          refine wp_region_still_tail 7 (by kernel_rfl) (by kernel_rfl) ?_
          simp only [List.take_succ_cons,List.take_zero,List.drop_succ_cons,List.drop_zero]
          change wpStill _ _ (World.drew _) _ _ _
          still_step
          still_step
          still_step
          still_step
          still_step
          still_step
          still_step
          refine wpStill_nil ?_
          change wpList _ _ _ _ _ (World.drew _)
          have HKd:=Lib.hid (HKj.out.step (Below.refl _ _).drew)
          clear c0 c1 x0 x1 x2 x3 hcell
          generalize World.drew _=Wd at HKd ⊢
          obtain ⟨c0,c1,x0,x1,x2,x3⟩:=HKd.out.cells
          simp only at x0 x1 x2 x3
          have HCt:=Lib.hid (typeAt_s ao n cap ts x Wd (HIn.out.1.below HKd.out.low) HIn.out.2.2.1 hxs)
          go_wp2_with fail
          refine HCt.out.mono ?_
          rintro e We ⟨r',rfl,hix,hb⟩
          have HKe:=Lib.hid (HKd.out.step hb)
          have HIx':=Lib.hid hix.pos
          clear c0 c1 x0 x1 x2 x3 hb hix HCt
          obtain ⟨c0,c1,x0,x1,x2,x3⟩:=HKe.out.cells
          simp only at x0 x1 x2 x3
          by_cases hr':r' < 0
          ·have hq:(tyOf ts x).isSome=false:=by rcases HIx'.out with h | h; omega; exact h.2
           have HF:=Lib.hid (show typedB ts ma=false from all_false (by rw [HS2.out.1]; exact hlt) (by rw [HX.out]; exact hq))
           clear hq
           go_wp2_with fail
           go_ret
           exact ⟨by rw [HE2.out,if_pos (.inr HF.out)]; rfl,HKe.out.low⟩
          ·have hq:(tyOf ts x).isSome=true:=by rcases HIx'.out with h | h; exact h.2; omega
           have HA2:=Lib.hid (show typedB ts (ma.take (j + 1))=true from all_take HA.out (by rw [HS2.out.1]; exact hlt) (by rw [HX.out]; exact hq))
           clear hq
           go_wp2_with fail
           go_roundw
           case rel=>exact ⟨j + 1,by omega,by go_num,HA2,HKe⟩
           case measure=>simp [intOf]; omega
         ·obtain rfl:p2=j:=by omega
          have e3:¬ (p2:Int) < (p2:Int):=by omega
          have HAll:=Lib.hid (show typedB ts ma=true by have:=HA.out; rwa [List.take_of_length_le (by have:=HS2.out.1; omega)] at this)
          go_wp2_with fail
          go_ret
          exact ⟨by rw [HE2.out,if_neg (by rw [HM.out,HAll.out]; simp)]; rfl,HKj.out.low⟩
   ·have z0:sup.toList.isEmpty=false:=by rw [str_none]; exact decide_eq_false hz
    have HKd:=S0.2.2
    refine wp_region_held_drew (S:=fun W=>W.cell? ⟨w.heap.size,1,none⟩=some (.slice (some ⟨b,off,none⟩) m dap) /\ W.cell? ⟨w.heap.size + 1,1,none⟩=some (.string sup) /\ Hid (KB w W ao n cap (some ⟨b,off,none⟩) m dap ⟨⟨cn,sup,mu,ma⟩, .slice a1 p1 q1, .slice a2 p2 q2⟩)) (by kernel_rfl) (S0) (fun hS => ?_)
    refine rgT 0 (some 25) ?_
    refine rgT 1 (some 26) ?_
    refine rgT 2 (some 27) ?_
    refine rgT 3 (some 28) ?_
    refine rgT 4 (some 29) ?_
    refine rgT 5 (some 30) ?_
    refine rgT 6 (some 31) ?_
    refine rgT 7 (some 32) ?_
    refine rgT 8 (some 33) ?_
    refine rgT 9 (some 34) ?_
    refine rgC 10 (fun K hK => ?_)
    go_simp
    refine (HC2.out _ HKd.out.low).mono ?_
    rintro e W4 ⟨r2,rfl,hix,hb⟩
    go_wp2_with fail
    refine hK.out _ _ ?_ (fun hHeld => ?_)
    ·exact kbS (HKd.out.step hb)
    clear hK K
    try simp only [Act.put,lsA,lsZ,lsS]
    refine rgT 11 (some 36) ?_
    refine rgT 12 (some 37) ?_
    refine wpAnyH_done (by kernel_rfl) ?_ _
    have HK3:=Lib.hid (HKd.out.step hb)
    have HIx2:=Lib.hid hix.pos
    clear S0 hix hb
    obtain ⟨c0,c1,x0,x1,x2,x3⟩:=HK3.out.cells
    simp only at x0 x1 x2 x3
    by_cases hr2:r2 < 0
    ·have hq2:(clOf (cs.take k) sup).isSome=false:=by rcases HIx2.out with h | h; omega; exact h.2
     have HE6:=Lib.hid (HE.out.trans (if_pos ⟨hz,hq2⟩))
     clear hq2
     go_wp2_with fail
     go_ret
     exact ⟨by rw [HE6.out]; rfl,HK3.out.low⟩
    ·have hq2:(clOf (cs.take k) sup).isSome=true:=by rcases HIx2.out with h | h; exact h.2; omega
     have hl1:=HS.out.1.1
     have hl2:=HS.out.2.1
     by_cases hp:64 < p1
     ·have d1:(p1:Int) > 64:=by omega
      go_wp2_with fail
      go_ret
      exact ⟨by rw [HE.out,if_neg (fun h=>by have:=h.2; rw [hq2] at this; cases this),if_pos (.inl (by omega))]; rfl,HK3.out.low⟩
     ·have d1:¬ (p1:Int) > 64:=by omega
      by_cases hp2:64 < p2
      ·have d2:(p2:Int) > 64:=by omega
       go_wp2_with fail
       go_ret
       exact ⟨by rw [HE.out,if_neg (fun h=>by have:=h.2; rw [hq2] at this; cases this),if_pos (.inr (by omega))]; rfl,HK3.out.low⟩
      ·have d2:¬ (p2:Int) > 64:=by omega
       have HE2:=Lib.hid (show errCl ts (cs.take k) ⟨cn,sup,mu,ma⟩=if typedB ts mu=false ∨ typedB ts ma=false then 6 else 0 by rw [HE.out,if_neg (fun h=>by have:=h.2; rw [hq2] at this; cases this),if_neg (by omega)])
       have HS1:=Lib.hid HS.out.1
       have HS2:=Lib.hid HS.out.2
       clear HE d1
       go_wp2_with fail
       go_loopw [6] (fun i wr=>∃ j:Nat,j <= p1 /\ i = .int .i64 j /\ Hid (typedB ts (mu.take j)=true) /\ Hid (KB w wr ao n cap (some ⟨b,off,none⟩) m dap ⟨⟨cn,sup,mu,ma⟩, .slice a1 p1 q1, .slice a2 p2 q2⟩)) (fun i _=>p1 - (intOf i).toNat)
       case atStart=>exact ⟨0,Nat.zero_le _,rfl,Lib.hid rfl,HK3⟩
       case round =>
        clear c0 c1 x0 x1 x2 x3
        obtain ⟨j,hj,rfl,HA,HKj⟩:=hrel
        obtain ⟨c0,c1,x0,x1,x2,x3⟩:=HKj.out.cells
        simp only at x0 x1 x2 x3
        by_cases hlt:j < p1
        ·obtain ⟨g,o,rfl,hgl,hcs⟩:=(HS1.out.below HKj.out.low).2.2.2 (by omega)
         have hcell:=hcs j (by rw [HS1.out.1]; exact hlt)
         obtain ⟨x,hx⟩:∃ x,partAt mu j=x:=⟨_,rfl⟩
         have hxs:x.size <= 1000000000:=by rw [<- hx]; exact hn2 _ (part_mem mu j (by rw [HS1.out.1]; exact hlt))
         rw [hx] at hcell
         have HX:=Lib.hid hx
         have e1:(0:Int) <= (j:Int):=by omega
         have e2:(j:Int) < (p1:Int):=by omega
         clear hcs hx
         go_wp2_with fail
         refine wp_region_still_tail 7 (by kernel_rfl) (by kernel_rfl) ?_
         simp only [List.take_succ_cons,List.take_zero,List.drop_succ_cons,List.drop_zero]
         change wpStill _ _ (World.drew _) _ _ _
         still_step
         still_step
         still_step
         still_step
         still_step
         still_step
         still_step
         refine wpStill_nil ?_
         change wpList _ _ _ _ _ (World.drew _)
         have HKd:=Lib.hid (HKj.out.step (Below.refl _ _).drew)
         clear c0 c1 x0 x1 x2 x3 hcell
         generalize World.drew _=Wd at HKd ⊢
         obtain ⟨c0,c1,x0,x1,x2,x3⟩:=HKd.out.cells
         simp only at x0 x1 x2 x3
         have HCt:=Lib.hid (typeAt_s ao n cap ts x Wd (HIn.out.1.below HKd.out.low) HIn.out.2.2.1 hxs)
         go_wp2_with fail
         refine HCt.out.mono ?_
         rintro e We ⟨r',rfl,hix,hb⟩
         have HKe:=Lib.hid (HKd.out.step hb)
         have HIx':=Lib.hid hix.pos
         clear c0 c1 x0 x1 x2 x3 hb hix HCt
         obtain ⟨c0,c1,x0,x1,x2,x3⟩:=HKe.out.cells
         simp only at x0 x1 x2 x3
         by_cases hr':r' < 0
         ·have hq:(tyOf ts x).isSome=false:=by rcases HIx'.out with h | h; omega; exact h.2
          have HF:=Lib.hid (show typedB ts mu=false from all_false (by rw [HS1.out.1]; exact hlt) (by rw [HX.out]; exact hq))
          clear hq
          go_wp2_with fail
          go_ret
          exact ⟨by rw [HE2.out,if_pos (.inl HF.out)]; rfl,HKe.out.low⟩
         ·have hq:(tyOf ts x).isSome=true:=by rcases HIx'.out with h | h; exact h.2; omega
          have HA2:=Lib.hid (show typedB ts (mu.take (j + 1))=true from all_take HA.out (by rw [HS1.out.1]; exact hlt) (by rw [HX.out]; exact hq))
          clear hq
          go_wp2_with fail
          go_roundw
          case rel=>exact ⟨j + 1,by omega,by go_num,HA2,HKe⟩
          case measure=>simp [intOf]; omega
        ·obtain rfl:p1=j:=by omega
         have e3:¬ (p1:Int) < (p1:Int):=by omega
         have HAll:=Lib.hid (show typedB ts mu=true by have:=HA.out; rwa [List.take_of_length_le (by have:=HS1.out.1; omega)] at this)
         go_wp2_with fail
         have HM:=Lib.hid HAll.out
         clear HAll HA
         go_loopw [7] (fun i wr=>∃ j:Nat,j <= p2 /\ i = .int .i64 j /\ Hid (typedB ts (ma.take j)=true) /\ Hid (KB w wr ao n cap (some ⟨b,off,none⟩) m dap ⟨⟨cn,sup,mu,ma⟩, .slice a1 p1 q1, .slice a2 p2 q2⟩)) (fun i _=>p2 - (intOf i).toNat)
         case atStart=>exact ⟨0,Nat.zero_le _,rfl,Lib.hid rfl,HKj⟩
         case round =>
          clear c0 c1 x0 x1 x2 x3
          obtain ⟨j,hj,rfl,HA,HKj⟩:=hrel
          obtain ⟨c0,c1,x0,x1,x2,x3⟩:=HKj.out.cells
          simp only at x0 x1 x2 x3
          by_cases hlt:j < p2
          ·obtain ⟨g,o,rfl,hgl,hcs⟩:=(HS2.out.below HKj.out.low).2.2.2 (by omega)
           have hcell:=hcs j (by rw [HS2.out.1]; exact hlt)
           obtain ⟨x,hx⟩:∃ x,partAt ma j=x:=⟨_,rfl⟩
           have hxs:x.size <= 1000000000:=by rw [<- hx]; exact hn3 _ (part_mem ma j (by rw [HS2.out.1]; exact hlt))
           rw [hx] at hcell
           have HX:=Lib.hid hx
           have e1:(0:Int) <= (j:Int):=by omega
           have e2:(j:Int) < (p2:Int):=by omega
           clear hcs hx
           go_wp2_with fail
           refine wp_region_still_tail 7 (by kernel_rfl) (by kernel_rfl) ?_
           simp only [List.take_succ_cons,List.take_zero,List.drop_succ_cons,List.drop_zero]
           change wpStill _ _ (World.drew _) _ _ _
           still_step
           still_step
           still_step
           still_step
           still_step
           still_step
           still_step
           refine wpStill_nil ?_
           change wpList _ _ _ _ _ (World.drew _)
           have HKd:=Lib.hid (HKj.out.step (Below.refl _ _).drew)
           clear c0 c1 x0 x1 x2 x3 hcell
           generalize World.drew _=Wd at HKd ⊢
           obtain ⟨c0,c1,x0,x1,x2,x3⟩:=HKd.out.cells
           simp only at x0 x1 x2 x3
           have HCt:=Lib.hid (typeAt_s ao n cap ts x Wd (HIn.out.1.below HKd.out.low) HIn.out.2.2.1 hxs)
           go_wp2_with fail
           refine HCt.out.mono ?_
           rintro e We ⟨r',rfl,hix,hb⟩
           have HKe:=Lib.hid (HKd.out.step hb)
           have HIx':=Lib.hid hix.pos
           clear c0 c1 x0 x1 x2 x3 hb hix HCt
           obtain ⟨c0,c1,x0,x1,x2,x3⟩:=HKe.out.cells
           simp only at x0 x1 x2 x3
           by_cases hr':r' < 0
           ·have hq:(tyOf ts x).isSome=false:=by rcases HIx'.out with h | h; omega; exact h.2
            have HF:=Lib.hid (show typedB ts ma=false from all_false (by rw [HS2.out.1]; exact hlt) (by rw [HX.out]; exact hq))
            clear hq
            go_wp2_with fail
            go_ret
            exact ⟨by rw [HE2.out,if_pos (.inr HF.out)]; rfl,HKe.out.low⟩
           ·have hq:(tyOf ts x).isSome=true:=by rcases HIx'.out with h | h; exact h.2; omega
            have HA2:=Lib.hid (show typedB ts (ma.take (j + 1))=true from all_take HA.out (by rw [HS2.out.1]; exact hlt) (by rw [HX.out]; exact hq))
            clear hq
            go_wp2_with fail
            go_roundw
            case rel=>exact ⟨j + 1,by omega,by go_num,HA2,HKe⟩
            case measure=>simp [intOf]; omega
          ·obtain rfl:p2=j:=by omega
           have e3:¬ (p2:Int) < (p2:Int):=by omega
           have HAll:=Lib.hid (show typedB ts ma=true by have:=HA.out; rwa [List.take_of_length_le (by have:=HS2.out.1; omega)] at this)
           go_wp2_with fail
           go_ret
           exact ⟨by rw [HE2.out,if_neg (by rw [HM.out,HAll.out]; simp)]; rfl,HKj.out.low⟩
structure GuardB (G:Prop) (w:World) (e:Ending) (w':World):Prop where
 ans:∃ b:Bool,e = .returned (.bool b) /\ (b=true -> G) /\ Below w.heap.size w w'
theorem guardB_no {G:Prop} {w w':World} (h:Below w.heap.size w w'):GuardB G w (.returned (.bool false)) w':=⟨⟨false,rfl,(fun e=>by cases e),h⟩⟩
theorem guardB_yes {G:Prop} {w w':World} (g:G) (h:Below w.heap.size w w'):GuardB G w (.returned (.bool true)) w':=⟨⟨true,rfl,fun _=>g,h⟩⟩
structure FB (w W:World) (ao:Option Addr) (n cap:Nat) (bo:Option Addr) (m dap:Nat):Prop where
 box:W.heap[w.heap.size]? = some (.cells #[.slice ao n cap, .slice bo m dap] 25)
 low:Below w.heap.size w W
 big:w.heap.size < W.heap.size
theorem FB.step {w W V:World} {ao:Option Addr} {n cap:Nat} {bo:Option Addr} {m dap:Nat} (h:FB w W ao n cap bo m dap) (hb:Below W.heap.size W V):FB w V ao n cap bo m dap:=
 ⟨(hb.block _ h.big).trans h.box,h.low.trans (hb.mono h.low.size),Nat.lt_of_lt_of_le h.big hb.size⟩
theorem FB.cells {w W:World} {ao:Option Addr} {n cap:Nat} {bo:Option Addr} {m dap:Nat} (h:FB w W ao n cap bo m dap):W.cell? ⟨w.heap.size,0,none⟩=some (.slice ao n cap) /\ W.cell? ⟨w.heap.size,1,none⟩=some (.slice bo m dap):=
 ⟨heap_cell h.box rfl,heap_cell h.box rfl⟩
theorem fb_new (w:World) (ao:Option Addr) (n cap:Nat) (bo:Option Addr) (m dap:Nat):FB w (w.alloc (.cells #[.slice ao n cap, .slice bo m dap] 25)) ao n cap bo m dap:=
 ⟨heap_alloc_new w _,(Below.refl _ _).alloc (Nat.le_refl _) _,by simp⟩
theorem cells_new (w:World) (cs:List Value) (e:TypeId) (j:Nat) (u:Value) (h:cs[j]? = some u):(w.alloc (.cells cs.toArray e)).cell? ⟨w.heap.size,j,none⟩=some u:=by
 have hb:=heap_alloc_new w (.cells cs.toArray e)
 unfold World.cell?
 simp only [hb]
 simpa using h
theorem strs_new (w:World) (l:List ByteArray) (h:l.length <= maxLen):StrsAt (w.alloc (.cells (scells l).toArray 9)) (some ⟨w.heap.size,0,none⟩) l.length l.length l:=
 ⟨rfl,Nat.le_refl _,h,fun _=>⟨w.heap.size,0,rfl,by simp,fun j hj=>by
  rw [Nat.zero_add]
  refine cells_new w _ _ _ _ ?_
  unfold scells partAt
  rw [List.getElem?_map,List.getD_eq_getElem?_getD,List.getElem?_eq_getElem hj]; rfl⟩⟩
def Kb (W:World) (b:Nat) (o:Obj):Prop:=W.heap[b]? = some o
theorem Kb.big {W:World} {b:Nat} {o:Obj} (h:Kb W b o):b < W.heap.size:=by
 rcases Nat.lt_or_ge b W.heap.size with k | k
 ·exact k
 ·unfold Kb at h; rw [Array.getElem?_eq_none k] at h; cases h
theorem Kb.step {W V:World} {b:Nat} {o:Obj} (h:Kb W b o) (hb:Below W.heap.size W V):Kb V b o:=(hb.block b h.big).trans h
theorem kbl_new (W:World) (o:Obj):Kb (W.alloc o) W.heap.size o:=heap_alloc_new W o
theorem Kb.cell {W:World} {b i:Nat} {c:Array Value} {t:TypeId} {v:Value} (h:Kb W b (.cells c t)) (hv:c[i]? = some v):W.cell? ⟨b,i,none⟩=some v:=heap_cell h hv
theorem Kb.set {W:World} {b:Nat} {o:Obj} (h:Kb W b o) (a:Addr) (u:Value) (hn:b ≠ a.block):Kb (W.setCell a u) b o:=(heap_setCell_other W a b u hn).trans h
theorem strs_kb {W:World} {b n:Nat} {l:List ByteArray} (h:Kb W b (.cells (scells l).toArray 9)) (hn:l.length=n) (hl:n <= maxLen):StrsAt W (some ⟨b,0,none⟩) n n l:=
 ⟨hn,Nat.le_refl _,hl,fun _=>⟨b,0,rfl,h.big,fun j hj=>by
  rw [Nat.zero_add]
  refine h.cell ?_
  unfold scells partAt
  rw [List.getElem?_toArray,List.getElem?_map,List.getD_eq_getElem?_getD,List.getElem?_eq_getElem (by omega)]; rfl⟩⟩
theorem smT_dec {ts:List Ty} (h:ts.all (fun t=>decide (t.name.size <= 1000))=true):SmT ts:=fun t ht=>by
 have:=of_decide_eq_true (List.all_eq_true.1 h t ht); omega
theorem smC_dec {cs:List Cl} (h:cs.all (fun c=>decide (c.name.size <= 1000) && decide (c.super.size <= 1000) && c.must.all (fun s=>decide (s.size <= 1000)) && c.may.all (fun s=>decide (s.size <= 1000)))=true):SmC cs:=fun c hc=>by
 have h:=List.all_eq_true.1 h c hc
 simp only [Bool.and_eq_true,List.all_eq_true,decide_eq_true_eq] at h
 obtain ⟨⟨⟨h1,h2⟩,h3⟩,h4⟩:=h
 exact ⟨by omega,by omega,fun s hs=>by have:=h3 s hs; omega,fun s hs=>by have:=h4 s hs; omega⟩
theorem below_al (W:World) (o:Obj):Below W.heap.size W (W.alloc o):=(Below.refl _ _).alloc (Nat.le_refl _) o
theorem kb_at {W:World} {b:Nat} (o:Obj) (h:W.heap.size=b):Kb (W.alloc o) b o:=by subst h; exact kbl_new W o
end Go.Proofs.YtmmdaegdkikkpaaGreatDoor
end
