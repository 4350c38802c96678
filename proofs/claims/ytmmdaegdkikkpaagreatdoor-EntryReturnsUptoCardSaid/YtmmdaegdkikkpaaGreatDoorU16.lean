/-
  Texts of the schema layer and of those beneath it, joined: EntSml, EntLaw, EntEqu, EntLw3, SchPc, EntPp, EntPr0, EntPr1, EntPr, EntPl, EntGd, EntUp. Conditions stand at each contract.
-/
import Derived.Lib.MinMax
import Derived.Test.YtmmdaegdkikkpaaGreatDoorU15
set_option linter.unusedVariables false
set_option linter.unusedSimpArgs false
set_option linter.unnecessarySimpa false

section
set_option maxRecDepth 100000
namespace Go.Proofs.YtmmdaegdkikkpaaGreatDoor
open Go.ChangeShapes Go.WideShapes Go.ChangeAt Go.RowKit Go.PlainAid
structure EOk (w:World):Prop where
 io:IntOk w
 mo:MaxOk w
theorem EOk.below {w w':World} (h:EOk w) (hb:Below w.heap.size w w'):EOk w':=⟨h.io.below hb,h.mo.below hb h.mo.lt⟩
theorem eok {W : World} (hL : laidMetH Tryz.prog [("math/bits.deBruijn32tab", Rows.laid_math_bits_deBruijn32tab), ("math/bits.deBruijn64tab", Rows.laid_math_bits_deBruijn64tab), ("internal/strconv.uint64pow10", Rows.laid_internal_strconv_uint64pow10), ("unicode/utf8.acceptRanges", Rows.laid_unicode_utf8_acceptRanges), ("strconv.ErrRange", Rows.laid_strconv_ErrRange), ("strconv.ErrSyntax", Rows.laid_strconv_ErrSyntax), ("unicode/utf8.first", Rows.laid_unicode_utf8_first)] W)
  (hsh:W.ShapedOpen Tryz.prog):EOk W:=by
 rw [MakeChecks.laidMetH_plain _ _ _ (by kernel_rfl)] at hL
 refine ⟨⟨?_, ?_⟩,max_ok hsh⟩
 ·exact Lib.tabIs_of_head (g:=6) (by kernel_rfl) (by kernel_rfl) Tryz.underlying284 Tryz.underlying208 (by kernel_rfl) (by kernel_rfl) hL.tail.tail
 ·obtain ⟨a,s,h,_⟩:=laid_sentinel hL.tail.tail.tail.tail (g:=3) (by kernel_rfl) (by kernel_rfl) Tryz.underlying81 tp_row Tryz.underlying279 Tryz.underlying281 rfl rfl Tryz.underlying9 (by kernel_rfl) (by kernel_rfl)
  exact ⟨_,_,h⟩
theorem LightE.fewV {l:List At} (h:LightE l):FewV l:=fun a ha=>by have:=(h.each a ha).len; omega
end Go.Proofs.YtmmdaegdkikkpaaGreatDoor
end

section
set_option maxRecDepth 100000
namespace Go.Proofs.YtmmdaegdkikkpaaGreatDoor
open Go.RowKit Go.PlainAid
theorem enEqual_s (en fn:ByteArray) (ao bo:Option Addr) (n m cap dap:Nat) (l k:List At) (w:World) (h:AttrsAt w ao n cap l) (h':AttrsAt w bo m dap k) (hF:Few l) (hG:Few k) :
  Calls Tryz.prog 34 #[.agg #[.string en, .slice ao n cap], .agg #[.string fn, .slice bo m dap]] w fun e w'=>e = .returned (.bool (decide (en=fn /\ nf l=nf k))) /\ Below w.heap.size w w':=by
 have b0:=below_al w (.cells #[.string en, .slice ao n cap] 37)
 have b1:=below_al (w.alloc (.cells #[.string en, .slice ao n cap] 37)) (.cells #[.string fn, .slice bo m dap] 37)
 have HB:=Lib.hid (b0.trans (b1.mono b0.size))
 have HS:=Lib.hid (equal_s ao bo n m cap dap l k _ (h.below HB.out) (h'.below HB.out) hF hG)
 clear b0 b1 h h'
 obtain ⟨z,hz⟩:∃ z,decide (en=fn)=z:=⟨_,rfl⟩
 have q1:(en.toList == fn.toList)=z:=by rw [str_eq]; exact hz
 obtain ⟨y,hy⟩:∃ y,decide (nf l=nf k)=y:=⟨_,rfl⟩
 rw [hy] at HS
 have HD:=Lib.hid (show decide (en=fn /\ nf l=nf k)=(z && y) by rw [<- hz, <- hy]; exact Bool.decide_and _ _)
 clear hz hy
 go_enter Tryz.func34,Tryz.ntmps34
 cases z
 ·go_wp2_with fail
  go_ret
  exact ⟨by rw [HD.out]; rfl,HB.out⟩
 ·go_wp2_with fail
  refine HS.out.mono ?_
  rintro e w1 ⟨rfl,hb⟩
  go_wp2_with fail
  go_ret
  exact ⟨by rw [HD.out]; rfl,HB.out.trans (hb.mono HB.out.size)⟩
theorem same_atts {W:World} {ao so:Option Addr} {n m mc sc:Nat} {l:List At} (h:AttrsAt W ao n mc l) (k:AttrsAt W so m sc l) :
  Calls Tryz.prog 40 #[.slice ao n mc, .slice so m sc] W fun e w'=>e = .returned (.bool true) /\ Below W.heap.size W w':=by
 have:=sameA8_s ao so n m mc sc l l W h k
 rwa [decide_eq_true rfl] at this
theorem nf_few {l:List At} (h:Few l):Few (nf l):=by
 have h1:=sumV_nf l
 have h2:=nf_len l
 have h3:=h.vals
 have h4:=h.len
 exact ⟨nf_small h.small,by omega,by omega⟩
theorem equal_nf {W:World} (en:ByteArray) {ao so:Option Addr} {n m mc sc:Nat} {l:List At} (h:AttrsAt W ao n mc (nf l)) (k:AttrsAt W so m sc l) (hF:Few l) :
  Calls Tryz.prog 34 #[.agg #[.string en, .slice ao n mc], .agg #[.string en, .slice so m sc]] W fun e w'=>e = .returned (.bool true) /\ Below W.heap.size W w':=by
 have:=enEqual_s en en ao so n m mc sc (nf l) l W h k (nf_few hF) hF
 rwa [decide_eq_true ⟨rfl,nf_nf l⟩] at this
theorem pc_ne (c:UInt8) (l:List UInt8):pieces c l ≠ []:=by
 cases l with
 | nil=>simp [pieces]
 | cons x r =>
  unfold pieces
  split
  ·simp
  ·split <;> simp
theorem pc_app (c:UInt8) (y:List UInt8):∀ x:List UInt8,c ∉ x -> pieces c (x ++ c :: y)=x :: pieces c y
 | [],_=>by show pieces c (c :: y)=_; conv=>lhs; unfold pieces; rw [if_pos rfl]
 | a :: x,h=>by
  have ha:a ≠ c:=fun e=>h (by rw [e]; simp)
  have ih:=pc_app c y x (fun k=>h (by simp [k]))
  show pieces c (a :: (x ++ c :: y))=_
  conv=>lhs; unfold pieces
  rw [if_neg ha,ih]
theorem join_two (x y:List UInt8) (r:List (List UInt8)) (c:UInt8):Lib.join (x :: y :: r) [c]=x ++ c :: Lib.join (y :: r) [c]:=by
 rw [Lib.join_cons,Lib.join_cons]; simp [Lib.joinTail]
theorem join_pc (c:UInt8):∀ l:List UInt8,Lib.join (pieces c l) [c]=l
 | []=>by simp [pieces,Lib.join_one]
 | a :: r=>by
  have ih:=join_pc c r
  unfold pieces
  split
  ·rename_i e
   cases hp:pieces c r with
   | nil=>exact absurd hp (pc_ne c r)
   | cons q qs=>rw [hp] at ih; rw [join_two,ih,e]; rfl
  ·split
   ·rename_i q qs e
    rw [e] at ih
    rw [Lib.join_cons] at ih ⊢
    rw [List.cons_append,ih]
   ·rename_i e; exact absurd e (pc_ne c r)
theorem name_clear {s:ByteArray} (h:nameB s=true):(44:UInt8) ∉ s.data.toList /\ (32:UInt8) ∉ s.data.toList /\ (10:UInt8) ∉ s.data.toList:=by
 have hall:allB nameP s=true:=by
  unfold nameB at h
  simp only [Bool.and_eq_true] at h
  exact h.2
 rw [Nam.allB_list,List.all_eq_true] at hall
 refine ⟨fun k => ?_,fun k => ?_,fun k => ?_⟩
 ·have:=hall _ k; revert this; decide
 ·have:=hall _ k; revert this; decide
 ·have:=hall _ k; revert this; decide
theorem cut_mk (x y:List UInt8) (b:UInt8) (hx:b ∉ x):cutOk (ofL (x ++ b :: y)) ⟨#[b]⟩=true /\ cutBef (ofL (x ++ b :: y)) ⟨#[b]⟩=ofL x /\ cutAft (ofL (x ++ b :: y)) ⟨#[b]⟩=ofL y:=by
 have e0:(ofL (x ++ b :: y)).data.toList=x ++ b :: y:=rfl
 have hp:=pc_app b y x hx
 rcases cut_one (ofL (x ++ b :: y)) b with k | k
 ·have k2:=k.2.1
  rw [e0,hp] at k2
  injection k2 with h1 h2
  refine ⟨k.1, ?_, ?_⟩
  ·exact (Lib.mk_data _).symm.trans (congrArg ofL h1.symm)
  ·have h3:=(join_pc b (cutAft (ofL (x ++ b :: y)) ⟨#[b]⟩).data.toList).symm.trans ((congrArg (fun p=>Lib.join p [b]) h2.symm).trans (join_pc b y))
   exact (Lib.mk_data _).symm.trans (congrArg ofL h3)
 ·have k2:=k.2.1
  rw [e0,hp] at k2
  injection k2 with h1 h2
  exact absurd h2 (pc_ne b y)
def trimP:List (List UInt8) -> List (List UInt8)
 | []=>[]
 | [p]=>if p = [] then [] else [p]
 | p :: q :: r=>p :: trimP (q :: r)
theorem trim_cons (p:List UInt8) {r:List (List UInt8)} (h:r ≠ []):trimP (p :: r)=p :: trimP r:=by
 cases r with
 | nil=>exact absurd rfl h
 | cons q r=>rfl
theorem trim_end:∀ ps:List (List UInt8),trimP (ps ++ [[]])=ps
 | []=>rfl
 | p :: r=>by rw [List.cons_append,trim_cons p (by simp),trim_end r]
def wordS (s:ByteArray):ByteArray:=cutBef s ⟨#[32]⟩
def valS (s:ByteArray):ByteArray:=unS (cutAft s ⟨#[32]⟩)
def lnOk (s:ByteArray):Bool:=cutOk s ⟨#[32]⟩ && decide (unE (cutAft s ⟨#[32]⟩)=0)
def atP (p:List UInt8):At:=(wordS (ofL p),[valS (ofL p)])
def rdA (t:ByteArray):List At:=(trimP (pieces 10 t.data.toList)).map atP
def rdE (s:ByteArray):ByteArray × List At:=(valS (cutBef s ⟨#[10]⟩),nf (rdA (cutAft s ⟨#[10]⟩)))
def addP (l:List At) (a v:ByteArray):List At:=match l.getLast? with
 | some b=>if b.1=a then l.dropLast ++ [(b.1,b.2 ++ [v])] else l ++ [(a,[v])]
 | none=>l ++ [(a,[v])]
def grpP:List At -> List (List UInt8) -> Option (List At)
 | l,[]=>some l
 | l,p :: r=>if lnOk (ofL p)=true then grpP (addP l (wordS (ofL p)) (valS (ofL p))) r else none
def rsE (s:ByteArray):Option (ByteArray × List At):=match (pieces 10 s.data.toList).dropLast with
 | []=>some (⟨#[]⟩,[])
 | p :: r=>if lnOk (ofL p)=true then (grpP [] r).map fun l=>(valS (ofL p),l) else none
theorem add_none {l:List At} {a v:ByteArray} (h:l.getLast? = none):addP l a v=l ++ [(a,[v])]:=by unfold addP; rw [h]
theorem add_new {l:List At} {a v:ByteArray} {b:At} (h:l.getLast? = some b) (hb:b.1 ≠ a):addP l a v=l ++ [(a,[v])]:=by
 unfold addP; rw [h]; exact if_neg hb
theorem add_old {l:List At} {a v:ByteArray} {b:At} (h:l.getLast? = some b) (hb:b.1=a):addP l a v=l.dropLast ++ [(b.1,b.2 ++ [v])]:=by
 unfold addP; rw [h]; exact if_pos hb
theorem add_more (l:List At) (a v:ByteArray) (us:List ByteArray):addP (l ++ [(a,us)]) a v=l ++ [(a,us ++ [v])]:=by
 rw [add_old (b:=(a,us)) (by simp) rfl]; simp
/-! ### escaped strings,lines -/
theorem esc_free_t:∀ n:Nat,n < 256 -> (32:UInt8) ∉ escC (UInt8.ofNat n) /\ (10:UInt8) ∉ escC (UInt8.ofNat n):=by decide +kernel
theorem esc_free (l:List UInt8):(32:UInt8) ∉ escL l /\ (10:UInt8) ∉ escL l:=by
 have key:∀ c:UInt8,(32:UInt8) ∉ escC c /\ (10:UInt8) ∉ escC c:=fun c=>by
  have:=esc_free_t c.toNat (UInt8.toNat_lt c)
  rwa [UInt8.ofNat_toNat] at this
 unfold escL
 constructor
 ·intro h
  obtain ⟨c,_,hm⟩:=List.mem_flatMap.1 h
  exact (key c).1 hm
 ·intro h
  obtain ⟨c,_,hm⟩:=List.mem_flatMap.1 h
  exact (key c).2 hm
def bodyB (wd s:ByteArray):List UInt8:=wd.data.toList ++ 32 :: escL s.data.toList
theorem body_line (wd s:ByteArray):lineB wd s=bodyB wd s ++ [10]:=by unfold lineB bodyB; simp
theorem body_free {wd s:ByteArray} (h:(10:UInt8) ∉ wd.data.toList):(10:UInt8) ∉ bodyB wd s:=by
 unfold bodyB
 intro k
 rcases List.mem_append.1 k with k | k
 ·exact h k
 ·rcases List.mem_cons.1 k with k | k
  ·exact absurd k (by decide)
  ·exact (esc_free _).2 k
theorem ofL_data (s:ByteArray):ofL s.data.toList=s:=Lib.mk_data s
theorem unS_esc (s:ByteArray):unS (ofL (escL s.data.toList))=s /\ unE (ofL (escL s.data.toList))=0:=by
 have h:unesc (ofL (escL s.data.toList)).data.toList=some s.data.toList:=unesc_esc _
 unfold unS unE
 rw [h]
 exact ⟨Lib.mk_data s,rfl⟩
theorem body_rd {wd s:ByteArray} (h:(32:UInt8) ∉ wd.data.toList):wordS (ofL (bodyB wd s))=wd /\ valS (ofL (bodyB wd s))=s /\ lnOk (ofL (bodyB wd s))=true:=by
 obtain ⟨h1,h2,h3⟩:=cut_mk wd.data.toList (escL s.data.toList) 32 h
 have e:=unS_esc s
 unfold wordS valS lnOk bodyB
 rw [h1,h2,h3,e.1,e.2,ofL_data]
 exact ⟨rfl,rfl,rfl⟩
def linesA (L:List At):List (List UInt8):=L.flatMap fun a=>a.2.map (bodyB a.1)
theorem lines_atts (L:List At):attsB L=(linesA L).flatMap (· ++ [10]):=by
 unfold attsB linesA valsB
 rw [List.flatMap_assoc]
 congr 1
 funext a
 rw [List.flatMap_map]
 congr 1
 funext v
 exact body_line a.1 v
theorem pc_lines:∀ ps:List (List UInt8),(∀ p ∈ ps,(10:UInt8) ∉ p) -> pieces 10 (ps.flatMap (· ++ [10]))=ps ++ [[]]
 | [],_=>rfl
 | p :: r,h=>by
  rw [List.flatMap_cons,List.append_assoc]
  show pieces 10 (p ++ 10 :: r.flatMap (· ++ [10]))=_
  rw [pc_app 10 _ p (h p (by simp)),pc_lines r (fun q hq=>h q (by simp [hq]))]; rfl
theorem ent_split (en:ByteArray) (l:List At):entB en l=bodyB entW en ++ 10 :: attsB (nf l):=by unfold entB; rw [body_line]; simp
def NmB (L:List At):Prop := ∀ a ∈ L,(32:UInt8) ∉ a.1.data.toList /\ (10:UInt8) ∉ a.1.data.toList
theorem lines_free {L:List At} (h:NmB L):∀ p ∈ linesA L,(10:UInt8) ∉ p:=fun p hp=>by
 obtain ⟨a,ha,hm⟩:=List.mem_flatMap.1 hp
 obtain ⟨v,_,rfl⟩:=List.mem_map.1 hm
 exact body_free (h a ha).2
theorem grp_vals {a:ByteArray} (ha:(32:UInt8) ∉ a.data.toList) (acc:List At) (rest:List (List UInt8)):∀ (vs us:List ByteArray),grpP (acc ++ [(a,us)]) (vs.map (bodyB a) ++ rest)=grpP (acc ++ [(a,us ++ vs)]) rest
 | [],us=>by simp
 | v :: vs,us=>by
  obtain ⟨h1,h2,h3⟩:=body_rd (s:=v) ha
  rw [List.map_cons,List.cons_append]
  conv=>lhs; unfold grpP
  rw [if_pos h3,h1,h2,add_more,grp_vals ha acc rest vs (us ++ [v])]
  simp
theorem grp_lines:∀ (L acc:List At),NmB L -> (L.map (·.1)).Nodup -> (∀ a ∈ L,a.2 ≠ []) -> (∀ b,acc.getLast? = some b -> b.1 ∉ L.map (·.1)) -> grpP acc (linesA L)=some (acc ++ L)
 | [],acc,_,_,_,_=>by simp [linesA,grpP]
 | (a,vs) :: L,acc,hN,hD,hV,hA=>by
  have hd:=List.nodup_cons.1 hD
  obtain ⟨v,r,rfl⟩:∃ v r,vs=v :: r:=by
   cases vs with
   | nil=>exact absurd rfl (hV (a,[]) (by simp))
   | cons v r=>exact ⟨v,r,rfl⟩
  have ha:=(hN (a,v :: r) (by simp)).1
  obtain ⟨h1,h2,h3⟩:=body_rd (s:=v) ha
  have hl:linesA ((a,v :: r) :: L)=bodyB a v :: (r.map (bodyB a) ++ linesA L):=by unfold linesA; rw [List.flatMap_cons]; rfl
  have hadd:addP acc a v=acc ++ [(a,[v])]:=by
   cases e:acc.getLast? with
   | none=>exact add_none e
   | some b=>exact add_new e fun k=>hA b e (by simp [k])
  rw [hl]
  conv=>lhs; unfold grpP
  rw [if_pos h3,h1,h2,hadd,grp_vals ha acc _ r [v],grp_lines L _ (fun x hx=>hN x (by simp [hx])) hd.2 (fun x hx=>hV x (by simp [hx])) ?_]
  ·simp
  ·intro b hb
   simp at hb
   rw [<- hb]
   exact hd.1
theorem nf_nmB {l:List At} (h:chkA l=0):NmB (nf l):=fun a ha=>by
 have h1:=(chk_ok (nf_chk h)).each a ha
 exact ⟨(name_clear h1.1).2.1,(name_clear h1.1).2.2⟩
theorem enC_chk {en:ByteArray} {l:List At} (h:enC en l=0):chkA l=0:=by
 unfold enC at h
 split at h
 ·cases h
 ·exact h
theorem enC_nf {en:ByteArray} {l:List At} (h:enC en l=0):enC en (nf l)=0:=by
 have hc:=nf_chk (enC_chk h)
 unfold enC at h ⊢
 split at h
 ·cases h
 ·rename_i k; rw [if_neg k]; exact hc
theorem entW_free:(32:UInt8) ∉ entW.data.toList /\ (10:UInt8) ∉ entW.data.toList:=by decide
theorem fm_congr {α β:Type} {f g:α -> List β}:∀ {l:List α},(∀ x ∈ l,f x=g x) -> l.flatMap f=l.flatMap g
 | [],_=>rfl
 | x :: l,h=>by rw [List.flatMap_cons,List.flatMap_cons,h x (List.mem_cons_self ..),fm_congr fun y hy=>h y (List.mem_cons_of_mem _ hy)]
theorem atP_lines {L:List At} (h:NmB L):(linesA L).map atP=L.flatMap fun a=>a.2.map fun v=>(a.1,[v]):=by
 unfold linesA
 rw [List.map_flatMap]
 refine fm_congr fun a ha => ?_
 rw [List.map_map]
 refine List.map_congr_left fun v _ => ?_
 obtain ⟨h1,h2,_⟩:=body_rd (s:=v) (h a ha).1
 show (wordS (ofL (bodyB a.1 v)),[valS (ofL (bodyB a.1 v))])=_
 rw [h1,h2]
theorem nf_flat {L:List At} (h:NF L):nf (L.flatMap fun a=>a.2.map fun v=>(a.1,[v]))=L:=by
 refine nf_ext (nf_NF _) h fun n v => ?_
 rw [hs_nf, <- hl_low h.low]
 unfold Hl
 constructor
 ·rintro ⟨b,hb,e,hv⟩
  obtain ⟨a,ha,hm⟩:=List.mem_flatMap.1 hb
  obtain ⟨x,hx,rfl⟩:=List.mem_map.1 hm
  rw [List.mem_singleton.1 hv]
  exact ⟨a,ha,e,hx⟩
 ·rintro ⟨a,ha,e,hv⟩
  exact ⟨(a.1,[v]),List.mem_flatMap.2 ⟨a,ha,List.mem_map.2 ⟨v,hv,rfl⟩⟩,e,by simp⟩
theorem tx_rd {en:ByteArray} {l:List At} (h:enC en l=0):rdE (ofL (entB en l))=(en,nf l) /\ rsE (ofL (entB en l))=some (en,nf l):=by
 have hN:=nf_nmB (enC_chk h)
 have hF:=nf_NF l
 have hb:=body_free (s:=en) entW_free.2
 obtain ⟨w1,w2,w3⟩:=body_rd (s:=en) entW_free.1
 obtain ⟨_,c2,c3⟩:=cut_mk (bodyB entW en) (attsB (nf l)) 10 hb
 rw [ent_split]
 have hp:=pc_lines (linesA (nf l)) (lines_free hN)
 rw [<- lines_atts] at hp
 constructor
 ·unfold rdE
  rw [c2,c3,w2]
  unfold rdA
  rw [show (ofL (attsB (nf l))).data.toList=attsB (nf l) from rfl,hp,trim_end,atP_lines hN,nf_flat hF]
 ·unfold rsE
  rw [show (ofL (bodyB entW en ++ 10 :: attsB (nf l))).data.toList=bodyB entW en ++ 10 :: attsB (nf l) from rfl,pc_app 10 _ _ hb,hp, <- List.cons_append,List.dropLast_concat]
  simp only [w3,if_true,w2]
  rw [grp_lines (nf l) [] hN (asc_nodup hF.asc) hF.ne (fun b hb=>by simp at hb)]
  rfl
/-! ### what Parse returns -/
def paOk (s:ByteArray) (x:ByteArray × List At):Bool:=decide (enC x.1 x.2=0) && decide (entB x.1 x.2=s.data.toList)
def prR (s:ByteArray):Option (ByteArray × List At):=if paOk s (rdE s)=true then some (rdE s) else none
theorem pa_ok {s:ByteArray} {x:ByteArray × List At} (h:paOk s x=true):enC x.1 x.2=0 /\ ofL (entB x.1 x.2)=s:=by
 unfold paOk at h
 simp only [Bool.and_eq_true,decide_eq_true_eq] at h
 exact ⟨h.1,by rw [h.2]; exact Lib.mk_data s⟩
theorem pa_mk {s:ByteArray} {x:ByteArray × List At} (h1:enC x.1 x.2=0) (h2:ofL (entB x.1 x.2)=s):paOk s x=true:=by
 unfold paOk
 simp only [Bool.and_eq_true,decide_eq_true_eq]
 exact ⟨h1,by rw [<- h2]; rfl⟩
theorem ent_nf (en:ByteArray) (l:List At):entB en (nf l)=entB en l:=by unfold entB; rw [nf_nf]
theorem pr_some {s:ByteArray} {x:ByteArray × List At} (h:rsE s=some x) (hx:paOk s x=true):prR s=some x:=by
 obtain ⟨h1,h2⟩:=pa_ok hx
 obtain ⟨k1,k2⟩:=tx_rd h1
 rw [h2] at k1 k2
 have e:x=(x.1,nf x.2):=Option.some.inj (h.symm.trans k2)
 unfold prR
 rw [k1,if_pos (pa_mk (enC_nf h1) (by rw [<- h2]; exact congrArg ofL (ent_nf _ _))), <- e]
theorem pr_text {en:ByteArray} {l:List At} (h:enC en l=0):prR (ofL (entB en l))=some (en,nf l):=
 pr_some (tx_rd h).2 (pa_mk (enC_nf h) (congrArg ofL (ent_nf en l)))
def paN (s:ByteArray):ByteArray:=((prR s).map (·.1)).getD ⟨#[]⟩
def paL (s:ByteArray):List At:=((prR s).map (·.2)).getD []
def paE (s:ByteArray):Int:=if (prR s).isSome=true then 0 else 4
theorem pa_none {s:ByteArray} (h:prR s=none):paN s=⟨#[]⟩ /\ paL s = [] /\ paE s=4:=by unfold paN paL paE; rw [h]; exact ⟨rfl,rfl,rfl⟩
theorem pa_some {s:ByteArray} {x:ByteArray × List At} (h:prR s=some x):paN s=x.1 /\ paL s=x.2 /\ paE s=0:=by unfold paN paL paE; rw [h]; exact ⟨rfl,rfl,rfl⟩
def PaP (s:ByteArray) (w:World) (e:Ending) (w':World):Prop:=
 ∃ ao n cap,e = .returned (.tuple #[.agg #[.string (paN s), .slice ao n cap], .int .i64 (paE s)]) /\ AttrsAt w' ao n cap (paL s) /\ Below w.heap.size w w'
/-! ### sizes -/
theorem pc_len (c:UInt8):∀ l:List UInt8, ∀ p ∈ pieces c l,p.length <= l.length
 | [],p,hp=>by simp [pieces] at hp; rw [hp]; exact Nat.le_refl _
 | a :: r,p,hp=>by
  have ih:=pc_len c r
  unfold pieces at hp
  rw [List.length_cons]
  split at hp
  ·rcases List.mem_cons.1 hp with h | h
   ·rw [h]; exact Nat.zero_le _
   ·have:=ih p h; omega
  ·split at hp
   ·rename_i q qs e
    rw [e] at ih
    rcases List.mem_cons.1 hp with h | h
    ·have:=ih q (by simp); rw [h,List.length_cons]; omega
    ·have:=ih p (by simp [h]); omega
   ·rename_i e; exact absurd e (pc_ne c r)
theorem trim_mem:∀ {ps:List (List UInt8)} {p:List UInt8},p ∈ trimP ps -> p ∈ ps
 | [q],p,h=>by
  unfold trimP at h
  split at h
  ·cases h
  ·exact h
 | q :: r :: t,p,h=>by
  have h':p ∈ q :: trimP (r :: t):=h
  rcases List.mem_cons.1 h' with k | k
  ·rw [k]; simp
  ·exact List.mem_cons_of_mem _ (trim_mem k)
theorem trim_len:∀ ps:List (List UInt8),(trimP ps).length <= ps.length
 | []=>Nat.le_refl _
 | [q]=>by unfold trimP; split <;> simp
 | q :: r :: t=>by
  have:=trim_len (r :: t)
  show (q :: trimP (r :: t)).length <= _
  simp only [List.length_cons] at this ⊢
  omega
theorem cut_szs (s:ByteArray) (b:UInt8):(cutBef s ⟨#[b]⟩).size <= s.size /\ (cutAft s ⟨#[b]⟩).size <= s.size:=by
 rcases cut_one s b with h | h
 ·exact ⟨h.2.2.2.1,Nat.le_of_lt h.2.2.1⟩
 ·rw [h.2.2.1,h.2.2.2]; exact ⟨Nat.le_refl _,Nat.zero_le _⟩
theorem wordS_size (s:ByteArray):(wordS s).size <= s.size:=(cut_szs s 32).1
theorem unS_size (s:ByteArray):(unS s).size <= s.size:=by
 unfold unS
 cases h:unesc s.data.toList with
 | none=>exact Nat.zero_le _
 | some l =>
  have h1:=unesc_le _ _ h
  rw [str_len] at h1
  show (⟨l.toArray⟩:ByteArray).size <= _
  rw [Lib.size_mk]; exact h1
theorem valS_size (s:ByteArray):(valS s).size <= s.size:=Nat.le_trans (unS_size _) (cut_szs s 32).2
theorem ofL_size (p:List UInt8):(ofL p).size=p.length:=Lib.size_mk _
theorem sumV_one:∀ {l:List At},(∀ a ∈ l,a.2.length <= 1) -> sumV l <= l.length
 | [],_=>by simp [sumV]
 | a :: l,h=>by
  have h1:=h a (by simp)
  have h2:=sumV_one (l:=l) (fun x hx=>h x (by simp [hx]))
  rw [sumV_cons,List.length_cons]; omega
theorem rd_small {t:ByteArray} (ht:t.size <= 1000000) (hl:(trimP (pieces 10 t.data.toList)).length <= 2900):Few (rdA t):=by
 refine ⟨fun a ha => ?_, ?_, ?_⟩
 ·obtain ⟨p,hp,rfl⟩:=List.mem_map.1 ha
  have h1:=pc_len 10 _ p (trim_mem hp)
  rw [str_len] at h1
  have h2:=wordS_size (ofL p)
  have h3:=valS_size (ofL p)
  rw [ofL_size] at h2 h3
  refine ⟨by show (wordS (ofL p)).size <= _; omega,fun v hv => ?_⟩
  rw [List.mem_singleton.1 hv]; omega
 ·refine Nat.le_trans (sumV_one fun a ha => ?_) ?_
  ·obtain ⟨p,_,rfl⟩:=List.mem_map.1 ha; exact Nat.le_refl _
  ·unfold rdA; rw [List.length_map]; omega
 ·unfold rdA; rw [List.length_map]; omega
theorem nf_smallA {l:List At} (h:SmallA l):SmallA (nf l):=fun a ha=>by
 obtain ⟨h1,h2⟩:=nf_mem.1 ha
 refine ⟨?_,fun v hv => ?_⟩
 ·rw [h1] at h2
  obtain ⟨v,b,hb,e,_⟩:=names_mem.1 (names_vals.2 h2)
  rw [<- e,lowS_size]; exact (h b hb).1
 ·rw [h1,vals_mem] at hv
  obtain ⟨b,hb,_,hv⟩:=hv
  exact (h b hb).2 v hv
theorem nf_fewV {l:List At} (h:sumV l <= 100000):FewV (nf l):=fun a ha=>by
 rw [(nf_mem.1 ha).1]
 have h1:=sortU_len (allV l a.1)
 have h2:=allV_len a.1 l
 show (sortU (allV l a.1)).length <= _
 omega
set_option maxHeartbeats 4000000 in
theorem readLine_s (s:ByteArray) (w:World) (hs:s.size <= 1000000) (hm:MaxOk w) :
  Calls Tryz.prog 162 #[.string s] w fun e w'=>e = .returned (.tuple #[.string (wordS s), .string (valS s)]) /\ Below w.heap.size w w':=by
 have HC:=Lib.hid (cutF_s s 32 w (by omega) hm)
 have HU:=Lib.hid (fun V=>unescape_s (cutAft s ⟨#[32]⟩) V (by have:=(cut_szs s 32).2; omega))
 have HW:=Lib.hid (show wordS s=cutBef s ⟨#[32]⟩ /\ valS s=unS (cutAft s ⟨#[32]⟩) from ⟨rfl,rfl⟩)
 rw [HW.out.1,HW.out.2]
 clear hm
 go_enter Tryz.func162,Tryz.ntmps162
 go_wp2_with fail
 refine HC.out.mono ?_
 rintro e w1 ⟨rfl,hb⟩
 have HB:=Lib.hid hb
 clear hb
 go_wp2_with fail
 refine (HU.out w1).mono ?_
 rintro e w2 ⟨rfl,hb⟩
 have HB:=Lib.hid (HB.out.trans (hb.mono HB.out.size))
 clear hb
 go_wp2_with fail
 go_ret2
 exact ⟨rfl,HB.out⟩
theorem norm_clean {N:ByteArray} (h:Nam.normB N=true):Nam.cleanV N=N:=by
 unfold Nam.normB at h
 simp only [Bool.and_eq_true,decide_eq_true_eq] at h
 unfold Nam.cleanV
 rw [if_pos h.1]; exact h.2
structure RdL (base:Nat) (W0:World) (v:Value) (T:List Tr) (W:World):Prop where
 row:W.ownsRow base 58 2 v T.length (tcells T)
 own:TOwn W base v T
 low:Below base W0 W
 big:base <= W.heap.size
theorem RdL.below {base:Nat} {W0 W V:World} {v:Value} {T:List Tr} (h:RdL base W0 v T W) (hb:Below W.heap.size W V):RdL base W0 v T V:=
 ⟨own_below h.row hb,h.own.below hb,h.low.trans (hb.mono h.big),Nat.le_trans h.big hb.size⟩
theorem attr_one (W:World) (s:ByteArray):(W.alloc (.cells #[.string s] 9)).ownsRow W.heap.size 9 1 (.slice (some ⟨W.heap.size,0,none⟩) 1 1) 1 [.string s]:=
 ⟨rfl, .inr ⟨W.heap.size,1, #[.string s],rfl,Nat.le_refl _,heap_alloc_new W _,Nat.le_refl _,by unfold maxLen; omega,rfl,rfl⟩⟩
set_option maxHeartbeats 16000000 in
theorem read_s (s:ByteArray) (w:World) (hs:s.size <= 1000000) (hl:(pieces 10 s.data.toList).length <= 2900) (hm:MaxOk w) :
  Calls Tryz.prog 98 #[.string s] w fun e w'=>∃ ao n cap,e = .returned (.agg #[.string (rdE s).1, .slice ao n cap]) /\ AttrsAt w' ao n cap (rdE s).2 /\ Below w.heap.size w w':=by
 have hbx:=below_al w (.cells #[.string ⟨#[]⟩, .slice none 0 0] 37)
 have hsz0:(w.alloc (.cells #[.string ⟨#[]⟩, .slice none 0 0] 37)).heap.size=w.heap.size + 1:=by simp
 have HK0:=Lib.hid (kbl_new w (.cells #[.string ⟨#[]⟩, .slice none 0 0] 37))
 have HMx:=Lib.hid (And.intro hm hm.lt)
 have HB0:=Lib.hid hbx
 have hcs:=cut_szs s 10
 have HPc:=Lib.hid (show (trimP (pieces 10 (cutAft s ⟨#[10]⟩).data.toList)).length <= 2900 from by
  have h2:=trim_len (pieces 10 (cutAft s ⟨#[10]⟩).data.toList)
  rcases cut_one s 10 with h | h
  ·rw [h.2.1,List.length_cons] at hl; omega
  ·rw [h.2.2.2] at h2 ⊢
   refine Nat.le_trans h2 ?_
   show ([[]]:List (List UInt8)).length <= _
   simp)
 have HC:=Lib.hid (cutF_s s 10 (w.alloc (.cells #[.string ⟨#[]⟩, .slice none 0 0] 37)) (by omega) (HMx.out.1.below hbx HMx.out.2))
 have HE:=Lib.hid (show (rdE s).1=valS (cutBef s ⟨#[10]⟩) /\ (rdE s).2=nf (rdA (cutAft s ⟨#[10]⟩)) from ⟨rfl,rfl⟩)
 obtain ⟨fi,hfi⟩:∃ x,cutBef s ⟨#[10]⟩=x:=⟨_,rfl⟩
 obtain ⟨re,hre⟩:∃ x,cutAft s ⟨#[10]⟩=x:=⟨_,rfl⟩
 rw [hfi,hre] at HE HC hcs
 rw [hre] at HPc
 obtain ⟨hc1,hc2⟩:=hcs
 obtain ⟨N,hN⟩:∃ x,(rdE s).1=x:=⟨_,rfl⟩
 obtain ⟨A,hA⟩:∃ x,(rdE s).2=x:=⟨_,rfl⟩
 rw [hN,hA] at HE ⊢
 clear hfi hre hN hA hbx hm hl
 go_enter Tryz.func98,Tryz.ntmps98
 go_wp2_with fail
 refine HC.out.mono ?_
 rintro e w1 ⟨rfl,hb⟩
 have HB1:=Lib.hid (HB0.out.trans (hb.mono HB0.out.size))
 have HK1:=Lib.hid (HK0.out.step hb)
 have hz1:=hb.size
 rw [hsz0] at hz1
 have HR:=Lib.hid (readLine_s fi w1 (by omega) (HMx.out.1.below HB1.out HMx.out.2))
 obtain ⟨wd,hwd⟩:∃ x,wordS fi=x:=⟨_,rfl⟩
 rw [hwd, <- HE.out.1] at HR
 clear hb HB0 HK0 hwd hsz0
 go_wp2_with fail
 refine HR.out.mono ?_
 rintro e w2 ⟨rfl,hb⟩
 have HB2:=Lib.hid (HB1.out.trans (hb.mono HB1.out.size))
 have HK2:=Lib.hid (HK1.out.step hb)
 have hz2:w.heap.size + 1 <= w2.heap.size:=Nat.le_trans hz1 hb.size
 clear hb HB1 HK1 HR HC hz1
 obtain ⟨L,hL⟩:∃ x,trimP (pieces 10 re.data.toList)=x:=⟨_,rfl⟩
 have HFw:=Lib.hid (rd_small (t:=re) (by omega) HPc.out)
 have HRd:=Lib.hid (show rdA re=L.map atP by rw [<- hL]; rfl)
 rw [hL] at HPc
 have HL:=Lib.hid hL
 obtain ⟨b0,hb0⟩:∃ x,w2.heap.size=x:=⟨_,rfl⟩
 have HI0:=Lib.hid (show RdL b0 w2 (.slice none 0 0) [] w2 from ⟨World.ownsRow_nil _ _ _ _,(fun t ht=>by cases ht),Below.refl _ _,Nat.le_of_eq hb0.symm⟩)
 have hlt0:w.heap.size < b0:=by omega
 have hb02:b0 <= w2.heap.size:=by omega
 clear hL hb0
 go_wp2_with fail
 go_loopw [4,8,9,10,11] (fun s4 s8 _ _ _ wr=>∃ (cur:ByteArray) (T:List Tr) (P:List (List UInt8)),s4 = .string cur /\ cur.size <= 1000000 /\ T.length <= 2900 /\ Hid (T.length=P.length) /\ Hid (L=P ++ trimP (pieces 10 cur.data.toList)) /\ Hid (tats T=P.map atP) /\ Hid (RdL b0 w2 s8 T wr)) (fun s4 _ _ _ _ _=>strN s4)
 case atStart=>exact ⟨re,[],[],rfl,by omega,Nat.zero_le _,Lib.hid rfl,Lib.hid (by rw [HL.out]; rfl),Lib.hid rfl,HI0⟩
 case round =>
  clear HI0
  obtain ⟨cur,T,P,rfl,hcz,hT29,HTl,HLP,HT,HI⟩:=hrel
  obtain ⟨lo,lc,rfl⟩:∃ lo lc,_=Value.slice lo T.length lc:=row_slice HI.out.row
  have hbig:=HI.out.big
  have HBw:=Lib.hid (show Below w.heap.size w wr from HB2.out.trans ((HI.out.low).mono (by omega)))
  by_cases hz:cur=⟨#[]⟩
  ·have d2:=emp_true hz
   have HLe:=Lib.hid (show L=P by rw [HLP.out,hz]; simp [pieces,trimP])
   have HTr:=Lib.hid (show tats T=rdA re by rw [HT.out, <- HLe.out,HRd.out])
   have HSo:=Lib.hid (sorted_s lo T.length lc (tats T) wr (own_atts HI.out.row HI.out.own) (by rw [HTr.out]; exact HFw.out))
   have HKr:=Lib.hid (show Kb wr w.heap.size (.cells #[.string ⟨#[]⟩, .slice none 0 0] 37) from ((HI.out.low.block _ hlt0).trans HK2.out))
   clear hz
   go_wp2_with fail
   refine HSo.out.mono ?_
   rintro e w5 ⟨v5,U,rfl,hU,hO,_,hrow,hb⟩
   obtain ⟨so,sc,rfl⟩:=row_slice hrow
   have HB5:=Lib.hid (HBw.out.trans (hb.mono HBw.out.size))
   have HK5:=Lib.hid (HKr.out.step hb)
   have HR5:=Lib.hid (And.intro hrow hO)
   have HU:=Lib.hid (show tats U=A by rw [hU,HTr.out,HE.out.2])
   clear hU hO hrow hb HSo HKr
   obtain ⟨r0,r1⟩:w5.cell? ⟨w.heap.size,0,none⟩=some (.string ⟨#[]⟩) /\ w5.cell? ⟨w.heap.size,1,none⟩=some (.slice none 0 0):=⟨HK5.out.cell rfl,HK5.out.cell rfl⟩
   have f0:w5.frozen? ⟨w.heap.size,0,none⟩=false:=heap_frozen HK5.out
   have f1:w5.frozen? ⟨w.heap.size,1,none⟩=false:=heap_frozen HK5.out
   have HBe:=Lib.hid (below_set1 (below_set1 HB5.out w.heap.size 0 (Nat.le_refl _) (.string N)) w.heap.size 1 (Nat.le_refl _) (.slice so U.length sc))
   have HAe:=Lib.hid (show AttrsAt ((w5.setCell ⟨w.heap.size,0,none⟩ (.string N)).setCell ⟨w.heap.size,1,none⟩ (.slice so U.length sc)) so U.length sc A by
    rw [<- HU.out]
    exact own_atts (ownsRow_setCell_below (ownsRow_setCell_below HR5.out.1 (a:=⟨w.heap.size,0,none⟩) (by show w.heap.size < wr.heap.size; omega) _) (a:=⟨w.heap.size,1,none⟩) (by show w.heap.size < wr.heap.size; omega) _)
     ((HR5.out.2.set (a:=⟨w.heap.size,0,none⟩) (by show w.heap.size < wr.heap.size; omega) _).set (a:=⟨w.heap.size,1,none⟩) (by show w.heap.size < wr.heap.size; omega) _))
   go_wp2_with fail
   refine bodyPost_ret (v := .agg #[.string N, .slice so U.length sc]) (by simp only [results,Tryz.results98]; go_simp) rfl ?_
   exact ⟨so,_,sc,rfl,HAe.out,HBe.out⟩
  ·have d2:=emp_false hz
   have HMw:=Lib.hid (HMx.out.1.below HBw.out HMx.out.2)
   have HC:=Lib.hid (cutF_s cur 10 wr (by omega) HMw.out)
   have hcs:=cut_szs cur 10
   have HStp:=Lib.hid (show (cutAft cur ⟨#[10]⟩).size < cur.size /\ trimP (pieces 10 cur.data.toList)=(cutBef cur ⟨#[10]⟩).data.toList :: trimP (pieces 10 (cutAft cur ⟨#[10]⟩).data.toList) from by
    rcases cut_one cur 10 with h | h
    ·exact ⟨h.2.2.1,by rw [h.2.1,trim_cons _ (pc_ne _ _)]⟩
    ·have h0:0 < cur.size:=Nat.pos_of_ne_zero fun e=>hz (ba_ext (by rw [List.length_eq_zero_iff.1 (show cur.data.toList.length=0 by rw [str_len]; exact e)]))
     rw [h.2.1,h.2.2.1,h.2.2.2]
     refine ⟨h0, ?_⟩
     have hne:cur.data.toList ≠ []:=fun e=>by have:=str_len cur; rw [e] at this; simp at this; omega
     show trimP [cur.data.toList]=cur.data.toList :: trimP [[]]
     unfold trimP
     rw [if_neg hne,if_pos rfl])
   obtain ⟨ln,hln⟩:∃ x,cutBef cur ⟨#[10]⟩=x:=⟨_,rfl⟩
   obtain ⟨nx,hnx⟩:∃ x,cutAft cur ⟨#[10]⟩=x:=⟨_,rfl⟩
   rw [hln,hnx] at HC hcs HStp
   have hdec:=HStp.out.1
   have HLn2:=Lib.hid (show L=(P ++ [ln.data.toList]) ++ trimP (pieces 10 nx.data.toList) by rw [HLP.out,HStp.out.2]; simp)
   have HPn:=Lib.hid (show (T ++ [((⟨#[]⟩:ByteArray),Value.slice none 0 0,([]:List ByteArray))]).length <= 2900 from by have h1:=congrArg List.length HLn2.out; rw [List.length_append,List.length_append] at h1; have h2:=HPc.out; have h3:=HTl.out; rw [List.length_append]; simp at h1 ⊢; omega)
   have HAt:=Lib.hid (show atP ln.data.toList=(wordS ln,[valS ln]) by unfold atP; rw [ofL_data])
   obtain ⟨hc3,hc4⟩:=hcs
   clear hz hln hnx HLP
   go_wp2_with fail
   refine HC.out.mono ?_
   rintro e w5 ⟨rfl,hb⟩
   have HI5:=Lib.hid (HI.out.below hb)
   have HB5:=Lib.hid (HBw.out.trans (hb.mono HBw.out.size))
   have HR:=Lib.hid (readLine_s ln w5 (by omega) (HMw.out.below hb HMw.out.lt))
   obtain ⟨wd,hwd⟩:∃ x,wordS ln=x:=⟨_,rfl⟩
   obtain ⟨vl,hvl⟩:∃ x,valS ln=x:=⟨_,rfl⟩
   rw [hwd,hvl] at HR HAt
   clear hb hwd hvl HC HI HBw HMw
   go_wp2_with fail
   refine HR.out.mono ?_
   rintro e w6 ⟨rfl,hb⟩
   have HI6:=Lib.hid (HI5.out.below hb)
   have HB6:=Lib.hid (HB5.out.trans (hb.mono HB5.out.size))
   clear hb HR HI5 HB5
   have hal:=below_al w6 (.cells #[.string vl] 9)
   have HI7:=Lib.hid (HI6.out.below hal)
   have HB7:=Lib.hid (HB6.out.trans (hal.mono HB6.out.size))
   have hbig6:=HI6.out.big
   have hown5:=HI7.out.row
   have hHv:=attr_one w6 vl
   have hap:(Value.slice (some ⟨w6.heap.size,0,none⟩) 1 1).ownBlock=none ∨ (Value.slice (some ⟨w6.heap.size,0,none⟩) 1 1).ownBlock ≠ (Value.slice lo T.length lc).ownBlock:=own_apart hHv HI6.out.row (Nat.le_refl _)
   have HTO5:=Lib.hid (HI7.out.own.snoc (t:=(wd, .slice (some ⟨w6.heap.size,0,none⟩) 1 1,[vl])) (hHv.mono hbig6) hap)
   have HHv:=Lib.hid (hdr_owns (vs:=[vl]) hHv)
   have hsz7:=HI7.out.big
   go_wp2_with (at_builtin; go_must (refine app_attrs ((w6.alloc (.cells #[.string vl] 9)).alloc (.cells #[.string wd, .slice (some ⟨w6.heap.size,0,none⟩) 1 1] 58)) (hown5.alloc _) (.tmp 36) (.tmp 41) _ 1 1 [(wd, .slice (some ⟨w6.heap.size,0,none⟩) 1 1,[vl])] ?_ ?_ ?_ ?_ (ts_new1 (w6.alloc (.cells #[.string vl] 9)) (wd, .slice (some ⟨w6.heap.size,0,none⟩) 1 1,[vl])) ?_ ?_ ?_ ?_; exact rfl; exact rfl; exact rfl; (simp [Act.eval,Act.put]); exact (fun t ht=>by rw [List.mem_singleton.1 ht]; exact HHv.out.below (below_al (w6.alloc (.cells #[.string vl] 9)) _)); omega; (simp; omega); intro v7 w7 hown7 hg7 hl7))
   have HTO7:=Lib.hid ((HTO5.out.below (below_al (w6.alloc (.cells #[.string vl] 9)) (.cells #[.string wd, .slice (some ⟨w6.heap.size,0,none⟩) 1 1] 58))).grown hg7 hl7)
   have hb7:Below b0 w2 w7:=(HI7.out.low.alloc hsz7 _).grown hg7 (by simp; omega) (fun q hq=>(hown5.lt q hq).1)
   have hbig7:b0 <= w7.heap.size:=Nat.le_trans (Nat.le_trans hsz7 (below_al _ _).size) hg7.size
   go_roundw
   case rel=>exact ⟨nx,T ++ [(wd, .slice (some ⟨w6.heap.size,0,none⟩) 1 1,[vl])],P ++ [ln.data.toList],rfl,by omega,by have h:=HPn.out; rw [List.length_append] at h ⊢; exact h,Lib.hid (by rw [List.length_append,List.length_append,HTl.out]; rfl),HLn2,Lib.hid (by rw [tats_append,HT.out,List.map_append,List.map_singleton,HAt.out]; rfl),Lib.hid ⟨by rw [List.length_append,tcells_append]; exact hown7,HTO7.out,hb7,hbig7⟩⟩
   case measure=>simp [strN]; omega
set_option maxHeartbeats 16000000 in
theorem parse8_s (s:ByteArray) (w:World) (hs:s.size <= 1000000) (hl:(pieces 10 s.data.toList).length <= 2900) (hm:MaxOk w) :
  Calls Tryz.prog 38 #[.string s] w fun e w'=>PaP s w e w':=by
 have hbx:=below_al w (.cells #[.string ⟨#[]⟩, .slice none 0 0] 37)
 have HK0:=Lib.hid (kbl_new w (.cells #[.string ⟨#[]⟩, .slice none 0 0] 37))
 have HB0:=Lib.hid hbx
 have HR:=Lib.hid (read_s s (w.alloc (.cells #[.string ⟨#[]⟩, .slice none 0 0] 37)) hs hl (hm.below hbx hm.lt))
 have HSm:=Lib.hid (show (rdE s).1.size <= 1100000 /\ SmallA (rdE s).2 /\ FewV (rdE s).2 from by
  have hcs:=cut_szs s 10
  have h2:=trim_len (pieces 10 (cutAft s ⟨#[10]⟩).data.toList)
  have hc:(trimP (pieces 10 (cutAft s ⟨#[10]⟩).data.toList)).length <= 2900:=by
   rcases cut_one s 10 with h | h
   ·rw [h.2.1,List.length_cons] at hl; omega
   ·rw [h.2.2.2] at h2 ⊢
    refine Nat.le_trans h2 ?_
    show ([[]]:List (List UInt8)).length <= _
    simp
  have hf:=rd_small (t:=cutAft s ⟨#[10]⟩) (by omega) hc
  refine ⟨?_,nf_smallA hf.small,nf_fewV hf.vals⟩
  have:=valS_size (cutBef s ⟨#[10]⟩)
  show (valS (cutBef s ⟨#[10]⟩)).size <= _
  omega)
 have HP:=Lib.hid (show prR s=if paOk s (rdE s)=true then some (rdE s) else none from rfl)
 obtain ⟨E,hE⟩:∃ x,rdE s=x:=⟨_,rfl⟩
 rw [hE] at HR HSm HP
 obtain ⟨N,A⟩:=E
 dsimp only at HR HSm HP
 clear hbx hm hl hE
 go_enter Tryz.func38,Tryz.ntmps38
 go_wp2_with fail
 refine HR.out.mono ?_
 rintro e w1 ⟨ao,n,cap,rfl,hat,hb⟩
 have HB1:=Lib.hid (HB0.out.trans (hb.mono HB0.out.size))
 have HK1:=Lib.hid (HK0.out.step hb)
 have hal:=below_al w1 (.cells #[.string N, .slice ao n cap] 37)
 have HB2:=Lib.hid (HB1.out.trans (hal.mono HB1.out.size))
 have HK2:=Lib.hid (HK1.out.step hal)
 have HQ2:=Lib.hid (kbl_new w1 (.cells #[.string N, .slice ao n cap] 37))
 have HA2:=Lib.hid (hat.below hal)
 have HT:=Lib.hid (text_s N ao n cap A _ HSm.out.1 HA2.out HSm.out.2.1 HSm.out.2.2)
 obtain ⟨b4,hb4⟩:∃ x,w1.heap.size=x:=⟨_,rfl⟩
 have hlt:w.heap.size < w1.heap.size:=HK1.out.big
 obtain ⟨q0,q1⟩:(w1.alloc (.cells #[.string N, .slice ao n cap] 37)).cell? ⟨w1.heap.size,0,none⟩=some (.string N) /\ (w1.alloc (.cells #[.string N, .slice ao n cap] 37)).cell? ⟨w1.heap.size,1,none⟩=some (.slice ao n cap):=⟨HQ2.out.cell rfl,HQ2.out.cell rfl⟩
 obtain ⟨c,hc⟩:∃ c,enC N A=c:=⟨_,rfl⟩
 obtain ⟨t,ht⟩:∃ t,txV N A=t:=⟨_,rfl⟩
 rw [hc,ht] at HT
 have HCT:=Lib.hid (And.intro hc ht)
 clear hb hat hal hc ht HR HB0 HK0 HB1 HK1
 go_wp2_with fail
 refine HT.out.mono ?_
 rintro e w2 ⟨rfl,hb⟩
 have HB3:=Lib.hid (HB2.out.trans (hb.mono HB2.out.size))
 have HK3:=Lib.hid (HK2.out.step hb)
 have HQ3:=Lib.hid (HQ2.out.step hb)
 have HA3:=Lib.hid (HA2.out.below hb)
 rw [hb4] at HQ3 hlt
 clear hb q0 q1 HT HB2 HK2 HQ2 HA2 hb4
 obtain ⟨q0,q1⟩:w2.cell? ⟨b4,0,none⟩=some (.string N) /\ w2.cell? ⟨b4,1,none⟩=some (.slice ao n cap):=⟨HQ3.out.cell rfl,HQ3.out.cell rfl⟩
 obtain ⟨r0,r1⟩:w2.cell? ⟨w.heap.size,0,none⟩=some (.string ⟨#[]⟩) /\ w2.cell? ⟨w.heap.size,1,none⟩=some (.slice none 0 0):=⟨HK3.out.cell rfl,HK3.out.cell rfl⟩
 have f0:w2.frozen? ⟨w.heap.size,0,none⟩=false:=heap_frozen HK3.out
 have f1:w2.frozen? ⟨w.heap.size,1,none⟩=false:=heap_frozen HK3.out
 have HNo:=Lib.hid (show paOk s (N,A)=false -> PaP s w (.returned (.tuple #[.agg #[.string ⟨#[]⟩, .slice none 0 0], .int .i64 4])) ((w2.setCell ⟨w.heap.size,0,none⟩ (.string ⟨#[]⟩)).setCell ⟨w.heap.size,1,none⟩ (.slice none 0 0)) from fun hf=>by
  obtain ⟨k1,k2,k3⟩:=pa_none (s:=s) (by rw [HP.out,if_neg (by rw [hf]; decide)])
  unfold PaP
  rw [k1,k2,k3]
  exact ⟨none,0,0,rfl,⟨rfl,Nat.le_refl _,by unfold maxLen; omega,fun h=>absurd h (Nat.lt_irrefl _)⟩,below_set1 (below_set1 HB3.out w.heap.size 0 (Nat.le_refl _) _) w.heap.size 1 (Nat.le_refl _) _⟩)
 by_cases h0:c=0
 ·subst h0
  by_cases h1:t=s
  ·subst h1
   have e1:(t.toList != t.toList)=false:=by simp
   have HOk:=Lib.hid (show paOk t (N,A)=true from pa_mk HCT.out.1 (by have h:=HCT.out.2; unfold txV at h; rw [if_pos HCT.out.1] at h; exact h))
   have HYes:=Lib.hid (show PaP t w (.returned (.tuple #[.agg #[.string N, .slice ao n cap], .int .i64 0])) ((w2.setCell ⟨w.heap.size,0,none⟩ (.string N)).setCell ⟨w.heap.size,1,none⟩ (.slice ao n cap)) from by
    obtain ⟨k1,k2,k3⟩:=pa_some (s:=t) (x:=(N,A)) (by rw [HP.out,if_pos HOk.out])
    unfold PaP
    rw [k1,k2,k3]
    have hch:=enC_chk HCT.out.1
    have hnN:nameB N=false:=by
     have h:=HCT.out.1
     unfold enC at h
     split at h
     ·cases h
     ·rename_i k
      have kn:Nam.normB N=true:=by
       cases e:Nam.normB N
       ·exact absurd (.inr e) k
       ·rfl
      have kc:=norm_clean kn
      have:=clean_no_name (s:=N) (by rw [kc]; exact fun e=>k (.inl e))
      rwa [kc] at this
    exact ⟨ao,n,cap,rfl,atts_res HK3.out HA3.out hch hnN _,below_set1 (below_set1 HB3.out w.heap.size 0 (Nat.le_refl _) _) w.heap.size 1 (Nat.le_refl _) _⟩)
   clear HNo
   go_wp2_with fail
   refine bodyPost_ret (v := .tuple #[.agg #[.string N, .slice ao n cap], .int .i64 0]) (by simp only [results,Tryz.results38]; go_simp) rfl ?_
   exact HYes.out
  ·have e2:(t.toList == s.toList)=false:=by rw [str_eq]; exact decide_eq_false h1
   have e1:(t.toList != s.toList)=true:=by unfold bne; rw [e2]; rfl
   have HOk:=Lib.hid (HNo.out (by
    unfold paOk
    rw [decide_eq_true HCT.out.1,Bool.true_and]
    refine decide_eq_false fun e=>h1 ?_
    have h:=HCT.out.2
    unfold txV at h
    rw [if_pos HCT.out.1] at h
    rw [<- h]
    exact (congrArg ofL e).trans (ofL_data s)))
   clear HNo h1
   go_wp2_with fail
   refine bodyPost_ret (v := .tuple #[.agg #[.string ⟨#[]⟩, .slice none 0 0], .int .i64 4]) (by simp only [results,Tryz.results38]; go_simp) rfl ?_
   exact HOk.out
 ·have d1:(c != 0)=true:=by simpa using h0
  have HOk:=Lib.hid (HNo.out (by unfold paOk; rw [decide_eq_false (by rw [HCT.out.1]; exact h0),Bool.false_and]))
  clear HNo h0
  go_wp2_with fail
  refine bodyPost_ret (v := .tuple #[.agg #[.string ⟨#[]⟩, .slice none 0 0], .int .i64 4]) (by simp only [results,Tryz.results38]; go_simp) rfl ?_
  exact HOk.out
end Go.Proofs.YtmmdaegdkikkpaaGreatDoor
end

section
set_option maxRecDepth 100000
namespace Go.Proofs.YtmmdaegdkikkpaaGreatDoor
open Go.RowKit Go.PlainAid
namespace Nam
theorem fmt_short {l:List Pr} (h:fmtE l=0):(fmtV l).size <= 5000:=by
 obtain ⟨h1,h2⟩:=fmtE_ok h
 have hb:=barC_len 600 (l.map fmtC) (fun p hq=>by
  obtain ⟨q,hq1,rfl⟩:=List.mem_map.1 hq
  have:=prE_small (h1 q hq1)
  have:=fmtC_len q
  omega)
 rw [List.length_map] at hb
 have:l.length * (600 + 1) <= 8 * 601:=Nat.mul_le_mul_right _ h2
 unfold fmtV
 rw [if_pos h,ofB_size]; omega
theorem norm_short {s:ByteArray} (h:normB s=true):s.size <= 5000:=by
 unfold normB at h
 simp only [Bool.and_eq_true,decide_eq_true_eq] at h
 rw [<- h.2]
 by_cases hf:fmtE (parseV s)=0
 ·exact fmt_short hf
 ·unfold fmtV; rw [if_neg hf]; exact Nat.zero_le _
end Nam
theorem ok_light {l:List At} (h:chkA l=0):LightE l /\ l.length <= 32:=by
 have hk:=chk_ok h
 refine ⟨⟨by have:=hk.len; omega,fun a ha => ?_⟩,hk.len⟩
 obtain ⟨h1,h2,h3⟩:=hk.each a ha
 exact ⟨by have:=name_sz h1; omega,by omega,fun v hv=>by have:=clean_sz (h3.clean v hv); omega⟩
theorem vals_short {nm:ByteArray} (hn:nm.size <= 64):∀ {vs:List ByteArray},(∀ v ∈ vs,v.size <= 256) -> (valsB nm vs).length <= vs.length * 834
 | [],_=>Nat.zero_le _
 | v :: vs,h=>by
  have ih:=vals_short hn (vs:=vs) fun x hx=>h x (List.mem_cons_of_mem _ hx)
  have h1:=lineB_le nm v
  have h2:=h v List.mem_cons_self
  unfold valsB at ih ⊢
  rw [List.flatMap_cons,List.length_append,List.length_cons]
  omega
theorem atts_short:∀ {L:List At},(∀ a ∈ L,a.1.size <= 64 /\ a.2.length <= 16 /\ ∀ v ∈ a.2,v.size <= 256) -> (attsB L).length <= L.length * 14000
 | [],_=>Nat.zero_le _
 | a :: L,h=>by
  have ih:=atts_short (L:=L) fun x hx=>h x (List.mem_cons_of_mem _ hx)
  obtain ⟨h1,h2,h3⟩:=h a List.mem_cons_self
  have h4:=vals_short h1 h3
  unfold attsB at ih ⊢
  rw [List.flatMap_cons,List.length_append,List.length_cons]
  omega
theorem lines_sum:∀ L:List At,(linesA L).length=sumV L
 | []=>rfl
 | a :: L=>by
  have ih:=lines_sum L
  unfold linesA at ih ⊢
  rw [List.flatMap_cons,List.length_append,List.length_map,ih,sumV_cons]
theorem sum_short:∀ {L:List At},(∀ a ∈ L,a.2.length <= 16) -> sumV L <= L.length * 16
 | [],_=>by simp [sumV]
 | a :: L,h=>by
  have h1:=h a (by simp)
  have h2:=sum_short (L:=L) fun x hx=>h x (by simp [hx])
  rw [sumV_cons,List.length_cons]; omega
theorem plain_short {en:ByteArray} {l:List At} (h:enC en l=0):en.size <= 5000 /\ (ofL (entB en l)).size <= 1000000 /\ (pieces 10 (ofL (entB en l)).data.toList).length <= 2900:=by
 have hc:=enC_chk h
 have hn:Nam.normB en=true:=by
  unfold enC at h
  split at h
  ·cases h
  ·rename_i k
   cases e:Nam.normB en
   ·exact absurd (.inr e) k
   ·rfl
 have hk:=chk_ok (nf_chk hc)
 have hes:=Nam.norm_short hn
 have ha:=atts_short (L:=nf l) fun a ha=>by
  obtain ⟨h1,h2,h3⟩:=hk.each a ha
  exact ⟨name_sz h1,h2,fun v hv=>clean_sz (h3.clean v hv)⟩
 have hs:=sum_short (L:=nf l) fun a ha=>(hk.each a ha).2.1
 have hl:=hk.len
 have hb:=lineB_le entW en
 have hew:entW.size=5:=by decide
 refine ⟨hes, ?_, ?_⟩
 ·rw [ofL_size]
  unfold entB
  rw [List.length_append]
  omega
 ·rw [show (ofL (entB en l)).data.toList=entB en l from rfl,ent_split,pc_app 10 _ _ (body_free (s:=en) entW_free.2)]
  have hp:=pc_lines (linesA (nf l)) (lines_free (nf_nmB hc))
  rw [<- lines_atts] at hp
  rw [hp,List.length_cons,List.length_append,lines_sum,List.length_singleton]
  omega
end Go.Proofs.YtmmdaegdkikkpaaGreatDoor
end

section
set_option maxRecDepth 100000
namespace Go.Proofs.YtmmdaegdkikkpaaGreatDoor
open Go.ChangeShapes Go.WideShapes Go.ChangeAt Go.RowKit Go.PlainAid
theorem bk_one {H:Type} (d:DataW H):1 <= Rows.uptoBulk d:=by
 cases d with
 | lit l=>cases l <;> simp [Rows.uptoBulk]
 | nil=>simp [Rows.uptoBulk]
 | ptr d=>simp [Rows.uptoBulk]
 | slice elems spare=>simp [Rows.uptoBulk]
 | agg parts=>simp [Rows.uptoBulk]
 | iface t d=>simp [Rows.uptoBulk]
 | map entries=>simp [Rows.uptoBulk]
 | held h=>simp [Rows.uptoBulk]
theorem bk_part {H:Type} {d:DataW H}:∀ {l:List (DataW H)},d ∈ l -> Rows.uptoBulk d <= Rows.uptoBulkAll l
 | x :: r,h=>by
  simp only [Rows.uptoBulkAll]
  rcases List.mem_cons.1 h with e | e
  ·rw [e]; omega
  ·have:=bk_part e; omega
theorem bk_len {H:Type}:∀ l:List (DataW H),l.length <= Rows.uptoBulkAll l
 | []=>Nat.zero_le _
 | x :: r=>by
  have h1:=bk_one x
  have h2:=bk_len r
  simp only [Rows.uptoBulkAll,List.length_cons]; omega
theorem bk_slice {H:Type} {d:DataW H} {el sp:List (DataW H)} (h:d ∈ el):Rows.uptoBulk d <= Rows.uptoBulk (.slice el sp):=by
 have:=bk_part h
 simp only [Rows.uptoBulk]; omega
theorem bk_slice_len {H:Type} {el sp:List (DataW H)} {K:Nat} (h:Rows.uptoBulk (.slice el sp) <= K):el.length <= K:=by
 have:=bk_len el
 simp only [Rows.uptoBulk] at h; omega
theorem bk_agg {H:Type} {d:DataW H} {l:List (DataW H)} (h:d ∈ l):Rows.uptoBulk d <= Rows.uptoBulk (.agg l):=by
 have:=bk_part h
 simp only [Rows.uptoBulk]; omega
theorem bk_str {H:Type} (bytes:List UInt8):Rows.uptoBulk (DataW.lit (H:=H) (.string bytes))=bytes.length + 1:=by simp [Rows.uptoBulk]
theorem bk_bound {H:Type} {l:List (DataW H)} (hk:Rows.uptoSmall H l=true):Rows.uptoBulkAll l <= 1048576:=of_decide_eq_true hk
def SBk (K:Nat) (l:List ByteArray):Prop:=l.length <= K /\ ∀ v ∈ l,v.size <= K
def RAU (K:Nat) (l:List At):Prop:=l.length <= K /\ ∀ a ∈ l,a.1.size <= K /\ SBk K a.2
theorem strs_bulk {H:Type} {ss:List ByteArray} {sp:List (DataW H)} {K:Nat} (hz:Rows.uptoBulk (DataW.slice (strs ss) sp) <= K):SBk K ss:=by
 refine ⟨?_,fun v hv => ?_⟩
 ·have h:=bk_slice_len hz
  simpa [strs] using h
 ·have h:=Nat.le_trans (bk_slice (sp:=sp) (d:=DataW.lit (H:=H) (.string v.data.toList)) (el:=strs ss) (List.mem_map.2 ⟨v,hv,rfl⟩)) hz
  rw [bk_str,str_len] at h
  omega
theorem RAU.sm {K:Nat} {l:List At} (h:RAU K l) (hK:K <= 1048576):SmallA l:=fun a ha=>⟨by have:=(h.2 a ha).1; omega,fun v hv=>by have:=(h.2 a ha).2.2 v hv; omega⟩
theorem RAU.fv {K:Nat} {l:List At} (h:RAU K l) (hK:K <= 1048576):FewV l:=fun a ha=>by have:=(h.2 a ha).2.1; omega
theorem trod_strU {K:Nat} {H:Type} {enc:TypeId × Value -> H} {W:World} {v:Value} {y:DataW H × List MemPlace} {fuel:Nat}
  (hf:DataW.trod enc Tryz.prog W 0 (fun _=>true) true fuel 9 [v]=some y) (hz:Rows.uptoBulk y.1 <= K):∃ s,v = .string s /\ s.size <= K:=by
 obtain ⟨s0,e0,ed,_⟩:=DataW.trod_string Tryz.underlying9 hf
 simp only [List.cons.injEq,and_true] at e0
 refine ⟨s0,e0, ?_⟩
 rw [ed] at hz
 have h:Rows.uptoBulk (DataW.lit (H:=H) (.string s0.data.toList)) <= K:=hz
 rw [bk_str,str_len] at h
 omega
set_option maxRecDepth 100000 in
theorem trod_strsU {K:Nat} {H:Type} {enc:TypeId × Value -> H} {W:World} {v:Value} {x:DataW H × List MemPlace} {fuel:Nat}
  (hf:DataW.trod enc Tryz.prog W 0 (fun _=>true) true fuel 55 [v]=some x) (hz:Rows.uptoBulk x.1 <= K):∃ ao n cap ps,v = .slice ao n cap /\ StrsAt W ao n cap ps /\ SBk K ps:=by
 rcases open_strings Tryz.underlying55 Tryz.underlying9 cells_string hf with ⟨hcs,hx⟩ | ⟨a,len,cap,ss,hcs,_,hl,hm,hzz,hx,hcell,hws⟩
 ·injection hcs with h1 _
  exact ⟨none,0,0,[],h1,⟨rfl,Nat.le_refl _,by unfold maxLen; omega,fun h=>absurd h (by omega)⟩,⟨Nat.zero_le _,fun v hv=>(List.not_mem_nil hv).elim⟩⟩
 ·injection hcs with h1 _
  simp only [if_true] at hzz
  subst hx
  refine ⟨_,len,cap,ss.take len,h1,⟨by rw [List.length_take]; omega,hl,hm,fun hn => ?_⟩,strs_bulk hz⟩
  obtain ⟨b,off,spot⟩:=a
  have hspot:spot=none:=by simpa [Addr.add] using World.cell?_spot (hcell 0 (by omega))
  subst hspot
  have h1:=hcell 0 (by omega)
  rw [add_plain] at h1
  refine ⟨b,off,rfl,World.block_lt_of_cell? W _ h1,fun j hj => ?_⟩
  rw [List.length_take] at hj
  rw [<- add_plain,hcell j (by omega)]
  unfold partAt
  rw [List.getD_eq_getElem?_getD,List.getD_eq_getElem?_getD,List.getElem?_take,if_pos (by omega)]
theorem trod_attrsU {K:Nat} {H:Type} {enc:TypeId × Value -> H} {W:World} {v:Value} {y:DataW H × List MemPlace} {fuel:Nat}
  (hf:DataW.trod enc Tryz.prog W 0 (fun _=>true) true fuel 35 [v]=some y) (hz:Rows.uptoBulk y.1 <= K):∃ ao n cap l,v = .slice ao n cap /\ AttrsAt W ao n cap l /\ RAU K l:=by
 rcases Go.Deep.open_slice_pairs Tryz.underlying35 Tryz.underlying58 cells_attr rfl rfl (by kernel_rfl) (by kernel_rfl) hf with ⟨hcs,hx⟩ | ⟨a,len',cap',m,n,V0,V1,D0,D1,P0,P1,hcs,_,hl,hm,hmm,hx,hcell⟩
 ·simp only [List.cons.injEq,and_true] at hcs
  exact ⟨none,0,0,[],hcs,⟨rfl,Nat.le_refl _,by unfold maxLen; omega,fun h=>absurd h (by omega)⟩,⟨Nat.zero_le _,fun a ha=>(List.not_mem_nil ha).elim⟩⟩
 ·simp only [List.cons.injEq,and_true] at hcs
  subst hcs
  simp only [if_true] at hmm
  rw [hmm] at hcell
  by_cases hn:0 < len'
  ·obtain ⟨b,off,spot⟩:=a
   have h1:=(hcell 0 (by omega)).1
   have hspot:spot=none:=by simpa [Addr.add] using World.cell?_spot h1
   subst hspot
   have hb:b < W.heap.size:=by
    rw [add_plain] at h1
    exact World.block_lt_of_cell? W _ h1
   have hd:y.1 = .slice ((List.range len').map fun i => .agg [D0 i,D1 i]) ((List.range (m - len')).map fun j => .agg [D0 (len' + j),D1 (len' + j)]):=congrArg Prod.fst hx
   obtain ⟨l,hpl,hps,hq⟩:=choose_attrsR (w:=W) (b:=b) (off:=off) (len:=len') (Q:=fun a=>a.1.size <= K /\ SBk K a.2) (fun i hi=>by
    obtain ⟨c0,c1,t0,t1⟩:=hcell i (by omega)
    rw [add_plain] at c0 c1
    have hw:Rows.uptoBulk (DataW.agg [D0 i,D1 i]) <= K:=by
     rw [hd] at hz
     exact Nat.le_trans (bk_slice (List.mem_map.2 ⟨i,List.mem_range.2 hi,rfl⟩)) hz
    have hw0:Rows.uptoBulk (D0 i) <= K:=Nat.le_trans (bk_agg (by simp)) hw
    have hw1:Rows.uptoBulk (D1 i) <= K:=Nat.le_trans (bk_agg (by simp)) hw
    obtain ⟨s0,e0,ed,_⟩:=DataW.trod_string Tryz.underlying9 t0
    simp only [List.cons.injEq,and_true] at e0
    have ed0:D0 i = .lit (.string s0.data.toList):=congrArg Prod.fst ed
    obtain ⟨aj,nj,cj,ps,e1,hs,hr⟩:=trod_strsU (K:=K) t1 hw1
    rw [e0] at c0
    rw [e1, <- Nat.add_assoc] at c1
    refine ⟨(s0,ps),⟨c0,aj,nj,cj,c1,hs⟩, ?_,hr⟩
    rw [ed0,bk_str,str_len] at hw0
    show s0.size <= K
    omega)
   have hlk:len' <= K:=by
    rw [hd] at hz
    have h:=bk_slice_len hz
    simp at h; omega
   exact ⟨_,len',cap',l,rfl,⟨hpl,hl,hm,fun _=>⟨b,off,rfl,hb,hps⟩⟩,by omega,hq⟩
  ·exact ⟨_,len',cap',[],rfl,⟨by simp; omega,hl,hm,fun h=>absurd h hn⟩,⟨Nat.zero_le _,fun a ha=>(List.not_mem_nil ha).elim⟩⟩
theorem open_entryU {K:Nat} {H:Type} {enc:TypeId × Value -> H} {W:World} {base:Nat} {v:Value} {d:DataW H} {p:List MemPlace} (hval:Value.okWide Tryz.prog W .any base 37 v)
  (h0:DataW.Trod enc Tryz.prog W 0 (fun _=>true) true 37 v d p) (hz:Rows.uptoBulk d <= K) :
  ∃ en ao n cap l,v = .agg #[.string en, .slice ao n cap] /\ en.size <= K /\ AttrsAt W ao n cap l /\ RAU K l:=by
 obtain ⟨v0,v1,y0,y1,n,rfl,rfl,_,h1,h2⟩:=Go.Joins.open_agg2 Tryz.underlying37 (by kernel_rfl) (by kernel_rfl) hval h0
 obtain ⟨s0,rfl,z0⟩:=trod_strU (K:=K) h1 (Nat.le_trans (bk_agg (by simp)) hz)
 obtain ⟨ao,m,cap,l,rfl,hl,rl⟩:=trod_attrsU (K:=K) h2 (Nat.le_trans (bk_agg (by simp)) hz)
 exact ⟨s0,ao,m,cap,l,rfl,z0,hl,rl⟩
end Go.Proofs.YtmmdaegdkikkpaaGreatDoor
end
