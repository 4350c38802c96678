/-
  Texts of the schema layer and of those beneath it, joined: EntSml, EntLaw, SchPc, EntPp, EntPr0, EntPr1, EntPr, EntPrI, EntSo, SchTwR, SchTxR. Conditions stand at each contract.
-/
import Derived.Test.YtmmdaegdkikkpaaGreatDoorT22
set_option linter.unusedVariables false
set_option linter.unusedSimpArgs false
set_option linter.unnecessarySimpa false

section
set_option maxRecDepth 100000
namespace Go.Proofs.YtmmdaegdkikkpaaGreatDoor
open Go.ChangeShapes Go.WideShapes Go.ChangeAt Go.RowKit Go.PlainAid
structure EOk (w:World):Prop where
 io:IntOk w
 mo:MaxOk w
theorem EOk.below {w w':World} (h:EOk w) (hb:Below w.heap.size w w'):EOk w':=⟨h.io.below hb,h.mo.below hb h.mo.lt⟩
theorem eok {W : World} (hL : laidMetH Tryz.prog [("math/bits.deBruijn32tab", Rows.laid_math_bits_deBruijn32tab), ("math/bits.deBruijn64tab", Rows.laid_math_bits_deBruijn64tab), ("internal/strconv.uint64pow10", Rows.laid_internal_strconv_uint64pow10), ("unicode/utf8.acceptRanges", Rows.laid_unicode_utf8_acceptRanges), ("strconv.ErrRange", Rows.laid_strconv_ErrRange), ("strconv.ErrSyntax", Rows.laid_strconv_ErrSyntax), ("unicode/utf8.first", Rows.laid_unicode_utf8_first)] W)
  (hsh:W.ShapedOpen Tryz.prog):EOk W:=by
 rw [MakeChecks.laidMetH_plain _ _ _ (by kernel_rfl)] at hL
 refine ⟨⟨?_, ?_⟩,max_ok hsh⟩
 ·exact Lib.tabIs_of_head (g:=6) (by kernel_rfl) (by kernel_rfl) Tryz.underlying284 Tryz.underlying208 (by kernel_rfl) (by kernel_rfl) hL.tail.tail
 ·obtain ⟨a,s,h,_⟩:=laid_sentinel hL.tail.tail.tail.tail (g:=3) (by kernel_rfl) (by kernel_rfl) Tryz.underlying81 tp_row Tryz.underlying279 Tryz.underlying281 rfl rfl Tryz.underlying9 (by kernel_rfl) (by kernel_rfl)
  exact ⟨_,_,h⟩
theorem LightE.fewV {l:List At} (h:LightE l):FewV l:=fun a ha=>by have:=(h.each a ha).len; omega
end Go.Proofs.YtmmdaegdkikkpaaGreatDoor
end

section
set_option maxRecDepth 100000
namespace Go.Proofs.YtmmdaegdkikkpaaGreatDoor
open Go.RowKit Go.PlainAid
theorem pc_ne (c:UInt8) (l:List UInt8):pieces c l ≠ []:=by
 cases l with
 | nil=>simp [pieces]
 | cons x r =>
  unfold pieces
  split
  ·simp
  ·split <;> simp
theorem pc_app (c:UInt8) (y:List UInt8):∀ x:List UInt8,c ∉ x -> pieces c (x ++ c :: y)=x :: pieces c y
 | [],_=>by show pieces c (c :: y)=_; conv=>lhs; unfold pieces; rw [if_pos rfl]
 | a :: x,h=>by
  have ha:a ≠ c:=fun e=>h (by rw [e]; simp)
  have ih:=pc_app c y x (fun k=>h (by simp [k]))
  show pieces c (a :: (x ++ c :: y))=_
  conv=>lhs; unfold pieces
  rw [if_neg ha,ih]
theorem join_two (x y:List UInt8) (r:List (List UInt8)) (c:UInt8):Lib.join (x :: y :: r) [c]=x ++ c :: Lib.join (y :: r) [c]:=by
 rw [Lib.join_cons,Lib.join_cons]; simp [Lib.joinTail]
theorem join_pc (c:UInt8):∀ l:List UInt8,Lib.join (pieces c l) [c]=l
 | []=>by simp [pieces,Lib.join_one]
 | a :: r=>by
  have ih:=join_pc c r
  unfold pieces
  split
  ·rename_i e
   cases hp:pieces c r with
   | nil=>exact absurd hp (pc_ne c r)
   | cons q qs=>rw [hp] at ih; rw [join_two,ih,e]; rfl
  ·split
   ·rename_i q qs e
    rw [e] at ih
    rw [Lib.join_cons] at ih ⊢
    rw [List.cons_append,ih]
   ·rename_i e; exact absurd e (pc_ne c r)
theorem name_clear {s:ByteArray} (h:nameB s=true):(44:UInt8) ∉ s.data.toList /\ (32:UInt8) ∉ s.data.toList /\ (10:UInt8) ∉ s.data.toList:=by
 have hall:allB nameP s=true:=by
  unfold nameB at h
  simp only [Bool.and_eq_true] at h
  exact h.2
 rw [Nam.allB_list,List.all_eq_true] at hall
 refine ⟨fun k => ?_,fun k => ?_,fun k => ?_⟩
 ·have:=hall _ k; revert this; decide
 ·have:=hall _ k; revert this; decide
 ·have:=hall _ k; revert this; decide
theorem cut_mk (x y:List UInt8) (b:UInt8) (hx:b ∉ x):cutOk (ofL (x ++ b :: y)) ⟨#[b]⟩=true /\ cutBef (ofL (x ++ b :: y)) ⟨#[b]⟩=ofL x /\ cutAft (ofL (x ++ b :: y)) ⟨#[b]⟩=ofL y:=by
 have e0:(ofL (x ++ b :: y)).data.toList=x ++ b :: y:=rfl
 have hp:=pc_app b y x hx
 rcases cut_one (ofL (x ++ b :: y)) b with k | k
 ·have k2:=k.2.1
  rw [e0,hp] at k2
  injection k2 with h1 h2
  refine ⟨k.1, ?_, ?_⟩
  ·exact (Lib.mk_data _).symm.trans (congrArg ofL h1.symm)
  ·have h3:=(join_pc b (cutAft (ofL (x ++ b :: y)) ⟨#[b]⟩).data.toList).symm.trans ((congrArg (fun p=>Lib.join p [b]) h2.symm).trans (join_pc b y))
   exact (Lib.mk_data _).symm.trans (congrArg ofL h3)
 ·have k2:=k.2.1
  rw [e0,hp] at k2
  injection k2 with h1 h2
  exact absurd h2 (pc_ne b y)
def trimP:List (List UInt8) -> List (List UInt8)
 | []=>[]
 | [p]=>if p = [] then [] else [p]
 | p :: q :: r=>p :: trimP (q :: r)
theorem trim_cons (p:List UInt8) {r:List (List UInt8)} (h:r ≠ []):trimP (p :: r)=p :: trimP r:=by
 cases r with
 | nil=>exact absurd rfl h
 | cons q r=>rfl
theorem trim_end:∀ ps:List (List UInt8),trimP (ps ++ [[]])=ps
 | []=>rfl
 | p :: r=>by rw [List.cons_append,trim_cons p (by simp),trim_end r]
def wordS (s:ByteArray):ByteArray:=cutBef s ⟨#[32]⟩
def valS (s:ByteArray):ByteArray:=unS (cutAft s ⟨#[32]⟩)
def lnOk (s:ByteArray):Bool:=cutOk s ⟨#[32]⟩ && decide (unE (cutAft s ⟨#[32]⟩)=0)
def atP (p:List UInt8):At:=(wordS (ofL p),[valS (ofL p)])
def rdA (t:ByteArray):List At:=(trimP (pieces 10 t.data.toList)).map atP
def rdE (s:ByteArray):ByteArray × List At:=(valS (cutBef s ⟨#[10]⟩),nf (rdA (cutAft s ⟨#[10]⟩)))
def addP (l:List At) (a v:ByteArray):List At:=match l.getLast? with
 | some b=>if b.1=a then l.dropLast ++ [(b.1,b.2 ++ [v])] else l ++ [(a,[v])]
 | none=>l ++ [(a,[v])]
def grpP:List At -> List (List UInt8) -> Option (List At)
 | l,[]=>some l
 | l,p :: r=>if lnOk (ofL p)=true then grpP (addP l (wordS (ofL p)) (valS (ofL p))) r else none
def rsE (s:ByteArray):Option (ByteArray × List At):=match (pieces 10 s.data.toList).dropLast with
 | []=>some (⟨#[]⟩,[])
 | p :: r=>if lnOk (ofL p)=true then (grpP [] r).map fun l=>(valS (ofL p),l) else none
theorem add_none {l:List At} {a v:ByteArray} (h:l.getLast? = none):addP l a v=l ++ [(a,[v])]:=by unfold addP; rw [h]
theorem add_new {l:List At} {a v:ByteArray} {b:At} (h:l.getLast? = some b) (hb:b.1 ≠ a):addP l a v=l ++ [(a,[v])]:=by
 unfold addP; rw [h]; exact if_neg hb
theorem add_old {l:List At} {a v:ByteArray} {b:At} (h:l.getLast? = some b) (hb:b.1=a):addP l a v=l.dropLast ++ [(b.1,b.2 ++ [v])]:=by
 unfold addP; rw [h]; exact if_pos hb
theorem add_more (l:List At) (a v:ByteArray) (us:List ByteArray):addP (l ++ [(a,us)]) a v=l ++ [(a,us ++ [v])]:=by
 rw [add_old (b:=(a,us)) (by simp) rfl]; simp
/-! ### escaped strings,lines -/
theorem esc_free_t:∀ n:Nat,n < 256 -> (32:UInt8) ∉ escC (UInt8.ofNat n) /\ (10:UInt8) ∉ escC (UInt8.ofNat n):=by decide +kernel
theorem esc_free (l:List UInt8):(32:UInt8) ∉ escL l /\ (10:UInt8) ∉ escL l:=by
 have key:∀ c:UInt8,(32:UInt8) ∉ escC c /\ (10:UInt8) ∉ escC c:=fun c=>by
  have:=esc_free_t c.toNat (UInt8.toNat_lt c)
  rwa [UInt8.ofNat_toNat] at this
 unfold escL
 constructor
 ·intro h
  obtain ⟨c,_,hm⟩:=List.mem_flatMap.1 h
  exact (key c).1 hm
 ·intro h
  obtain ⟨c,_,hm⟩:=List.mem_flatMap.1 h
  exact (key c).2 hm
def bodyB (wd s:ByteArray):List UInt8:=wd.data.toList ++ 32 :: escL s.data.toList
theorem body_line (wd s:ByteArray):lineB wd s=bodyB wd s ++ [10]:=by unfold lineB bodyB; simp
theorem body_free {wd s:ByteArray} (h:(10:UInt8) ∉ wd.data.toList):(10:UInt8) ∉ bodyB wd s:=by
 unfold bodyB
 intro k
 rcases List.mem_append.1 k with k | k
 ·exact h k
 ·rcases List.mem_cons.1 k with k | k
  ·exact absurd k (by decide)
  ·exact (esc_free _).2 k
theorem ofL_data (s:ByteArray):ofL s.data.toList=s:=Lib.mk_data s
theorem unS_esc (s:ByteArray):unS (ofL (escL s.data.toList))=s /\ unE (ofL (escL s.data.toList))=0:=by
 have h:unesc (ofL (escL s.data.toList)).data.toList=some s.data.toList:=unesc_esc _
 unfold unS unE
 rw [h]
 exact ⟨Lib.mk_data s,rfl⟩
theorem body_rd {wd s:ByteArray} (h:(32:UInt8) ∉ wd.data.toList):wordS (ofL (bodyB wd s))=wd /\ valS (ofL (bodyB wd s))=s /\ lnOk (ofL (bodyB wd s))=true:=by
 obtain ⟨h1,h2,h3⟩:=cut_mk wd.data.toList (escL s.data.toList) 32 h
 have e:=unS_esc s
 unfold wordS valS lnOk bodyB
 rw [h1,h2,h3,e.1,e.2,ofL_data]
 exact ⟨rfl,rfl,rfl⟩
def linesA (L:List At):List (List UInt8):=L.flatMap fun a=>a.2.map (bodyB a.1)
theorem lines_atts (L:List At):attsB L=(linesA L).flatMap (· ++ [10]):=by
 unfold attsB linesA valsB
 rw [List.flatMap_assoc]
 congr 1
 funext a
 rw [List.flatMap_map]
 congr 1
 funext v
 exact body_line a.1 v
theorem pc_lines:∀ ps:List (List UInt8),(∀ p ∈ ps,(10:UInt8) ∉ p) -> pieces 10 (ps.flatMap (· ++ [10]))=ps ++ [[]]
 | [],_=>rfl
 | p :: r,h=>by
  rw [List.flatMap_cons,List.append_assoc]
  show pieces 10 (p ++ 10 :: r.flatMap (· ++ [10]))=_
  rw [pc_app 10 _ p (h p (by simp)),pc_lines r (fun q hq=>h q (by simp [hq]))]; rfl
theorem ent_split (en:ByteArray) (l:List At):entB en l=bodyB entW en ++ 10 :: attsB (nf l):=by unfold entB; rw [body_line]; simp
def NmB (L:List At):Prop := ∀ a ∈ L,(32:UInt8) ∉ a.1.data.toList /\ (10:UInt8) ∉ a.1.data.toList
theorem lines_free {L:List At} (h:NmB L):∀ p ∈ linesA L,(10:UInt8) ∉ p:=fun p hp=>by
 obtain ⟨a,ha,hm⟩:=List.mem_flatMap.1 hp
 obtain ⟨v,_,rfl⟩:=List.mem_map.1 hm
 exact body_free (h a ha).2
theorem grp_vals {a:ByteArray} (ha:(32:UInt8) ∉ a.data.toList) (acc:List At) (rest:List (List UInt8)):∀ (vs us:List ByteArray),grpP (acc ++ [(a,us)]) (vs.map (bodyB a) ++ rest)=grpP (acc ++ [(a,us ++ vs)]) rest
 | [],us=>by simp
 | v :: vs,us=>by
  obtain ⟨h1,h2,h3⟩:=body_rd (s:=v) ha
  rw [List.map_cons,List.cons_append]
  conv=>lhs; unfold grpP
  rw [if_pos h3,h1,h2,add_more,grp_vals ha acc rest vs (us ++ [v])]
  simp
theorem grp_lines:∀ (L acc:List At),NmB L -> (L.map (·.1)).Nodup -> (∀ a ∈ L,a.2 ≠ []) -> (∀ b,acc.getLast? = some b -> b.1 ∉ L.map (·.1)) -> grpP acc (linesA L)=some (acc ++ L)
 | [],acc,_,_,_,_=>by simp [linesA,grpP]
 | (a,vs) :: L,acc,hN,hD,hV,hA=>by
  have hd:=List.nodup_cons.1 hD
  obtain ⟨v,r,rfl⟩:∃ v r,vs=v :: r:=by
   cases vs with
   | nil=>exact absurd rfl (hV (a,[]) (by simp))
   | cons v r=>exact ⟨v,r,rfl⟩
  have ha:=(hN (a,v :: r) (by simp)).1
  obtain ⟨h1,h2,h3⟩:=body_rd (s:=v) ha
  have hl:linesA ((a,v :: r) :: L)=bodyB a v :: (r.map (bodyB a) ++ linesA L):=by unfold linesA; rw [List.flatMap_cons]; rfl
  have hadd:addP acc a v=acc ++ [(a,[v])]:=by
   cases e:acc.getLast? with
   | none=>exact add_none e
   | some b=>exact add_new e fun k=>hA b e (by simp [k])
  rw [hl]
  conv=>lhs; unfold grpP
  rw [if_pos h3,h1,h2,hadd,grp_vals ha acc _ r [v],grp_lines L _ (fun x hx=>hN x (by simp [hx])) hd.2 (fun x hx=>hV x (by simp [hx])) ?_]
  ·simp
  ·intro b hb
   simp at hb
   rw [<- hb]
   exact hd.1
theorem nf_nmB {l:List At} (h:chkA l=0):NmB (nf l):=fun a ha=>by
 have h1:=(chk_ok (nf_chk h)).each a ha
 exact ⟨(name_clear h1.1).2.1,(name_clear h1.1).2.2⟩
theorem enC_chk {en:ByteArray} {l:List At} (h:enC en l=0):chkA l=0:=by
 unfold enC at h
 split at h
 ·cases h
 ·exact h
theorem enC_nf {en:ByteArray} {l:List At} (h:enC en l=0):enC en (nf l)=0:=by
 have hc:=nf_chk (enC_chk h)
 unfold enC at h ⊢
 split at h
 ·cases h
 ·rename_i k; rw [if_neg k]; exact hc
theorem entW_free:(32:UInt8) ∉ entW.data.toList /\ (10:UInt8) ∉ entW.data.toList:=by decide
theorem fm_congr {α β:Type} {f g:α -> List β}:∀ {l:List α},(∀ x ∈ l,f x=g x) -> l.flatMap f=l.flatMap g
 | [],_=>rfl
 | x :: l,h=>by rw [List.flatMap_cons,List.flatMap_cons,h x (List.mem_cons_self ..),fm_congr fun y hy=>h y (List.mem_cons_of_mem _ hy)]
theorem atP_lines {L:List At} (h:NmB L):(linesA L).map atP=L.flatMap fun a=>a.2.map fun v=>(a.1,[v]):=by
 unfold linesA
 rw [List.map_flatMap]
 refine fm_congr fun a ha => ?_
 rw [List.map_map]
 refine List.map_congr_left fun v _ => ?_
 obtain ⟨h1,h2,_⟩:=body_rd (s:=v) (h a ha).1
 show (wordS (ofL (bodyB a.1 v)),[valS (ofL (bodyB a.1 v))])=_
 rw [h1,h2]
theorem nf_flat {L:List At} (h:NF L):nf (L.flatMap fun a=>a.2.map fun v=>(a.1,[v]))=L:=by
 refine nf_ext (nf_NF _) h fun n v => ?_
 rw [hs_nf, <- hl_low h.low]
 unfold Hl
 constructor
 ·rintro ⟨b,hb,e,hv⟩
  obtain ⟨a,ha,hm⟩:=List.mem_flatMap.1 hb
  obtain ⟨x,hx,rfl⟩:=List.mem_map.1 hm
  rw [List.mem_singleton.1 hv]
  exact ⟨a,ha,e,hx⟩
 ·rintro ⟨a,ha,e,hv⟩
  exact ⟨(a.1,[v]),List.mem_flatMap.2 ⟨a,ha,List.mem_map.2 ⟨v,hv,rfl⟩⟩,e,by simp⟩
theorem tx_rd {en:ByteArray} {l:List At} (h:enC en l=0):rdE (ofL (entB en l))=(en,nf l) /\ rsE (ofL (entB en l))=some (en,nf l):=by
 have hN:=nf_nmB (enC_chk h)
 have hF:=nf_NF l
 have hb:=body_free (s:=en) entW_free.2
 obtain ⟨w1,w2,w3⟩:=body_rd (s:=en) entW_free.1
 obtain ⟨_,c2,c3⟩:=cut_mk (bodyB entW en) (attsB (nf l)) 10 hb
 rw [ent_split]
 have hp:=pc_lines (linesA (nf l)) (lines_free hN)
 rw [<- lines_atts] at hp
 constructor
 ·unfold rdE
  rw [c2,c3,w2]
  unfold rdA
  rw [show (ofL (attsB (nf l))).data.toList=attsB (nf l) from rfl,hp,trim_end,atP_lines hN,nf_flat hF]
 ·unfold rsE
  rw [show (ofL (bodyB entW en ++ 10 :: attsB (nf l))).data.toList=bodyB entW en ++ 10 :: attsB (nf l) from rfl,pc_app 10 _ _ hb,hp, <- List.cons_append,List.dropLast_concat]
  simp only [w3,if_true,w2]
  rw [grp_lines (nf l) [] hN (asc_nodup hF.asc) hF.ne (fun b hb=>by simp at hb)]
  rfl
/-! ### what Parse returns -/
def paOk (s:ByteArray) (x:ByteArray × List At):Bool:=decide (enC x.1 x.2=0) && decide (entB x.1 x.2=s.data.toList)
def prR (s:ByteArray):Option (ByteArray × List At):=if paOk s (rdE s)=true then some (rdE s) else none
theorem pa_ok {s:ByteArray} {x:ByteArray × List At} (h:paOk s x=true):enC x.1 x.2=0 /\ ofL (entB x.1 x.2)=s:=by
 unfold paOk at h
 simp only [Bool.and_eq_true,decide_eq_true_eq] at h
 exact ⟨h.1,by rw [h.2]; exact Lib.mk_data s⟩
theorem pa_mk {s:ByteArray} {x:ByteArray × List At} (h1:enC x.1 x.2=0) (h2:ofL (entB x.1 x.2)=s):paOk s x=true:=by
 unfold paOk
 simp only [Bool.and_eq_true,decide_eq_true_eq]
 exact ⟨h1,by rw [<- h2]; rfl⟩
theorem ent_nf (en:ByteArray) (l:List At):entB en (nf l)=entB en l:=by unfold entB; rw [nf_nf]
theorem pr_some {s:ByteArray} {x:ByteArray × List At} (h:rsE s=some x) (hx:paOk s x=true):prR s=some x:=by
 obtain ⟨h1,h2⟩:=pa_ok hx
 obtain ⟨k1,k2⟩:=tx_rd h1
 rw [h2] at k1 k2
 have e:x=(x.1,nf x.2):=Option.some.inj (h.symm.trans k2)
 unfold prR
 rw [k1,if_pos (pa_mk (enC_nf h1) (by rw [<- h2]; exact congrArg ofL (ent_nf _ _))), <- e]
theorem pr_none {s:ByteArray} (h:∀ x,rsE s=some x -> paOk s x=false):prR s=none:=by
 unfold prR
 by_cases hx:paOk s (rdE s)=true
 ·exfalso
  obtain ⟨h1,h2⟩:=pa_ok hx
  obtain ⟨k1,k2⟩:=tx_rd h1
  rw [h2] at k1 k2
  have:=h _ k2
  rw [<- k1,hx] at this
  cases this
 ·exact if_neg hx
def paN (s:ByteArray):ByteArray:=((prR s).map (·.1)).getD ⟨#[]⟩
def paL (s:ByteArray):List At:=((prR s).map (·.2)).getD []
def paE (s:ByteArray):Int:=if (prR s).isSome=true then 0 else 4
theorem pa_none {s:ByteArray} (h:prR s=none):paN s=⟨#[]⟩ /\ paL s = [] /\ paE s=4:=by unfold paN paL paE; rw [h]; exact ⟨rfl,rfl,rfl⟩
theorem pa_some {s:ByteArray} {x:ByteArray × List At} (h:prR s=some x):paN s=x.1 /\ paL s=x.2 /\ paE s=0:=by unfold paN paL paE; rw [h]; exact ⟨rfl,rfl,rfl⟩
def PaP (s:ByteArray) (w:World) (e:Ending) (w':World):Prop:=
 ∃ ao n cap,e = .returned (.tuple #[.agg #[.string (paN s), .slice ao n cap], .int .i64 (paE s)]) /\ AttrsAt w' ao n cap (paL s) /\ Below w.heap.size w w'
/-! ### sizes -/
theorem pc_count (c:UInt8):∀ l:List UInt8,(pieces c l).length <= l.length + 1
 | []=>Nat.le_refl _
 | a :: r=>by
  have ih:=pc_count c r
  unfold pieces
  split
  ·simp only [List.length_cons]; omega
  ·split
   ·rename_i q qs e; rw [e] at ih; simp only [List.length_cons] at ih ⊢; omega
   ·simp
theorem pc_len (c:UInt8):∀ l:List UInt8, ∀ p ∈ pieces c l,p.length <= l.length
 | [],p,hp=>by simp [pieces] at hp; rw [hp]; exact Nat.le_refl _
 | a :: r,p,hp=>by
  have ih:=pc_len c r
  unfold pieces at hp
  rw [List.length_cons]
  split at hp
  ·rcases List.mem_cons.1 hp with h | h
   ·rw [h]; exact Nat.zero_le _
   ·have:=ih p h; omega
  ·split at hp
   ·rename_i q qs e
    rw [e] at ih
    rcases List.mem_cons.1 hp with h | h
    ·have:=ih q (by simp); rw [h,List.length_cons]; omega
    ·have:=ih p (by simp [h]); omega
   ·rename_i e; exact absurd e (pc_ne c r)
theorem trim_mem:∀ {ps:List (List UInt8)} {p:List UInt8},p ∈ trimP ps -> p ∈ ps
 | [q],p,h=>by
  unfold trimP at h
  split at h
  ·cases h
  ·exact h
 | q :: r :: t,p,h=>by
  have h':p ∈ q :: trimP (r :: t):=h
  rcases List.mem_cons.1 h' with k | k
  ·rw [k]; simp
  ·exact List.mem_cons_of_mem _ (trim_mem k)
theorem trim_len:∀ ps:List (List UInt8),(trimP ps).length <= ps.length
 | []=>Nat.le_refl _
 | [q]=>by unfold trimP; split <;> simp
 | q :: r :: t=>by
  have:=trim_len (r :: t)
  show (q :: trimP (r :: t)).length <= _
  simp only [List.length_cons] at this ⊢
  omega
theorem cut_szs (s:ByteArray) (b:UInt8):(cutBef s ⟨#[b]⟩).size <= s.size /\ (cutAft s ⟨#[b]⟩).size <= s.size:=by
 rcases cut_one s b with h | h
 ·exact ⟨h.2.2.2.1,Nat.le_of_lt h.2.2.1⟩
 ·rw [h.2.2.1,h.2.2.2]; exact ⟨Nat.le_refl _,Nat.zero_le _⟩
theorem wordS_size (s:ByteArray):(wordS s).size <= s.size:=(cut_szs s 32).1
theorem unS_size (s:ByteArray):(unS s).size <= s.size:=by
 unfold unS
 cases h:unesc s.data.toList with
 | none=>exact Nat.zero_le _
 | some l =>
  have h1:=unesc_le _ _ h
  rw [str_len] at h1
  show (⟨l.toArray⟩:ByteArray).size <= _
  rw [Lib.size_mk]; exact h1
theorem valS_size (s:ByteArray):(valS s).size <= s.size:=Nat.le_trans (unS_size _) (cut_szs s 32).2
theorem ofL_size (p:List UInt8):(ofL p).size=p.length:=Lib.size_mk _
theorem sumV_one:∀ {l:List At},(∀ a ∈ l,a.2.length <= 1) -> sumV l <= l.length
 | [],_=>by simp [sumV]
 | a :: l,h=>by
  have h1:=h a (by simp)
  have h2:=sumV_one (l:=l) (fun x hx=>h x (by simp [hx]))
  rw [sumV_cons,List.length_cons]; omega
theorem rd_small {t:ByteArray} (ht:t.size <= 1000000) (hl:(trimP (pieces 10 t.data.toList)).length <= 2900):Few (rdA t):=by
 refine ⟨fun a ha => ?_, ?_, ?_⟩
 ·obtain ⟨p,hp,rfl⟩:=List.mem_map.1 ha
  have h1:=pc_len 10 _ p (trim_mem hp)
  rw [str_len] at h1
  have h2:=wordS_size (ofL p)
  have h3:=valS_size (ofL p)
  rw [ofL_size] at h2 h3
  refine ⟨by show (wordS (ofL p)).size <= _; omega,fun v hv => ?_⟩
  rw [List.mem_singleton.1 hv]; omega
 ·refine Nat.le_trans (sumV_one fun a ha => ?_) ?_
  ·obtain ⟨p,_,rfl⟩:=List.mem_map.1 ha; exact Nat.le_refl _
  ·unfold rdA; rw [List.length_map]; omega
 ·unfold rdA; rw [List.length_map]; omega
theorem nf_smallA {l:List At} (h:SmallA l):SmallA (nf l):=fun a ha=>by
 obtain ⟨h1,h2⟩:=nf_mem.1 ha
 refine ⟨?_,fun v hv => ?_⟩
 ·rw [h1] at h2
  obtain ⟨v,b,hb,e,_⟩:=names_mem.1 (names_vals.2 h2)
  rw [<- e,lowS_size]; exact (h b hb).1
 ·rw [h1,vals_mem] at hv
  obtain ⟨b,hb,_,hv⟩:=hv
  exact (h b hb).2 v hv
theorem nf_fewV {l:List At} (h:sumV l <= 100000):FewV (nf l):=fun a ha=>by
 rw [(nf_mem.1 ha).1]
 have h1:=sortU_len (allV l a.1)
 have h2:=allV_len a.1 l
 show (sortU (allV l a.1)).length <= _
 omega
set_option maxHeartbeats 4000000 in
theorem readLine_s (s:ByteArray) (w:World) (hs:s.size <= 1000000) (hm:MaxOk w) :
  Calls Tryz.prog 162 #[.string s] w fun e w'=>e = .returned (.tuple #[.string (wordS s), .string (valS s)]) /\ Below w.heap.size w w':=by
 have HC:=Lib.hid (cutF_s s 32 w (by omega) hm)
 have HU:=Lib.hid (fun V=>unescape_s (cutAft s ⟨#[32]⟩) V (by have:=(cut_szs s 32).2; omega))
 have HW:=Lib.hid (show wordS s=cutBef s ⟨#[32]⟩ /\ valS s=unS (cutAft s ⟨#[32]⟩) from ⟨rfl,rfl⟩)
 rw [HW.out.1,HW.out.2]
 clear hm
 go_enter Tryz.func162,Tryz.ntmps162
 go_wp2_with fail
 refine HC.out.mono ?_
 rintro e w1 ⟨rfl,hb⟩
 have HB:=Lib.hid hb
 clear hb
 go_wp2_with fail
 refine (HU.out w1).mono ?_
 rintro e w2 ⟨rfl,hb⟩
 have HB:=Lib.hid (HB.out.trans (hb.mono HB.out.size))
 clear hb
 go_wp2_with fail
 go_ret2
 exact ⟨rfl,HB.out⟩
theorem norm_clean {N:ByteArray} (h:Nam.normB N=true):Nam.cleanV N=N:=by
 unfold Nam.normB at h
 simp only [Bool.and_eq_true,decide_eq_true_eq] at h
 unfold Nam.cleanV
 rw [if_pos h.1]; exact h.2
structure RdL (base:Nat) (W0:World) (v:Value) (T:List Tr) (W:World):Prop where
 row:W.ownsRow base 58 2 v T.length (tcells T)
 own:TOwn W base v T
 low:Below base W0 W
 big:base <= W.heap.size
theorem RdL.below {base:Nat} {W0 W V:World} {v:Value} {T:List Tr} (h:RdL base W0 v T W) (hb:Below W.heap.size W V):RdL base W0 v T V:=
 ⟨own_below h.row hb,h.own.below hb,h.low.trans (hb.mono h.big),Nat.le_trans h.big hb.size⟩
theorem attr_one (W:World) (s:ByteArray):(W.alloc (.cells #[.string s] 9)).ownsRow W.heap.size 9 1 (.slice (some ⟨W.heap.size,0,none⟩) 1 1) 1 [.string s]:=
 ⟨rfl, .inr ⟨W.heap.size,1, #[.string s],rfl,Nat.le_refl _,heap_alloc_new W _,Nat.le_refl _,by unfold maxLen; omega,rfl,rfl⟩⟩
set_option maxHeartbeats 16000000 in
theorem read_s (s:ByteArray) (w:World) (hs:s.size <= 1000000) (hl:(pieces 10 s.data.toList).length <= 2900) (hm:MaxOk w) :
  Calls Tryz.prog 98 #[.string s] w fun e w'=>∃ ao n cap,e = .returned (.agg #[.string (rdE s).1, .slice ao n cap]) /\ AttrsAt w' ao n cap (rdE s).2 /\ Below w.heap.size w w':=by
 have hbx:=below_al w (.cells #[.string ⟨#[]⟩, .slice none 0 0] 37)
 have hsz0:(w.alloc (.cells #[.string ⟨#[]⟩, .slice none 0 0] 37)).heap.size=w.heap.size + 1:=by simp
 have HK0:=Lib.hid (kbl_new w (.cells #[.string ⟨#[]⟩, .slice none 0 0] 37))
 have HMx:=Lib.hid (And.intro hm hm.lt)
 have HB0:=Lib.hid hbx
 have hcs:=cut_szs s 10
 have HPc:=Lib.hid (show (trimP (pieces 10 (cutAft s ⟨#[10]⟩).data.toList)).length <= 2900 from by
  have h2:=trim_len (pieces 10 (cutAft s ⟨#[10]⟩).data.toList)
  rcases cut_one s 10 with h | h
  ·rw [h.2.1,List.length_cons] at hl; omega
  ·rw [h.2.2.2] at h2 ⊢
   refine Nat.le_trans h2 ?_
   show ([[]]:List (List UInt8)).length <= _
   simp)
 have HC:=Lib.hid (cutF_s s 10 (w.alloc (.cells #[.string ⟨#[]⟩, .slice none 0 0] 37)) (by omega) (HMx.out.1.below hbx HMx.out.2))
 have HE:=Lib.hid (show (rdE s).1=valS (cutBef s ⟨#[10]⟩) /\ (rdE s).2=nf (rdA (cutAft s ⟨#[10]⟩)) from ⟨rfl,rfl⟩)
 obtain ⟨fi,hfi⟩:∃ x,cutBef s ⟨#[10]⟩=x:=⟨_,rfl⟩
 obtain ⟨re,hre⟩:∃ x,cutAft s ⟨#[10]⟩=x:=⟨_,rfl⟩
 rw [hfi,hre] at HE HC hcs
 rw [hre] at HPc
 obtain ⟨hc1,hc2⟩:=hcs
 obtain ⟨N,hN⟩:∃ x,(rdE s).1=x:=⟨_,rfl⟩
 obtain ⟨A,hA⟩:∃ x,(rdE s).2=x:=⟨_,rfl⟩
 rw [hN,hA] at HE ⊢
 clear hfi hre hN hA hbx hm hl
 go_enter Tryz.func98,Tryz.ntmps98
 go_wp2_with fail
 refine HC.out.mono ?_
 rintro e w1 ⟨rfl,hb⟩
 have HB1:=Lib.hid (HB0.out.trans (hb.mono HB0.out.size))
 have HK1:=Lib.hid (HK0.out.step hb)
 have hz1:=hb.size
 rw [hsz0] at hz1
 have HR:=Lib.hid (readLine_s fi w1 (by omega) (HMx.out.1.below HB1.out HMx.out.2))
 obtain ⟨wd,hwd⟩:∃ x,wordS fi=x:=⟨_,rfl⟩
 rw [hwd, <- HE.out.1] at HR
 clear hb HB0 HK0 hwd hsz0
 go_wp2_with fail
 refine HR.out.mono ?_
 rintro e w2 ⟨rfl,hb⟩
 have HB2:=Lib.hid (HB1.out.trans (hb.mono HB1.out.size))
 have HK2:=Lib.hid (HK1.out.step hb)
 have hz2:w.heap.size + 1 <= w2.heap.size:=Nat.le_trans hz1 hb.size
 clear hb HB1 HK1 HR HC hz1
 obtain ⟨L,hL⟩:∃ x,trimP (pieces 10 re.data.toList)=x:=⟨_,rfl⟩
 have HFw:=Lib.hid (rd_small (t:=re) (by omega) HPc.out)
 have HRd:=Lib.hid (show rdA re=L.map atP by rw [<- hL]; rfl)
 rw [hL] at HPc
 have HL:=Lib.hid hL
 obtain ⟨b0,hb0⟩:∃ x,w2.heap.size=x:=⟨_,rfl⟩
 have HI0:=Lib.hid (show RdL b0 w2 (.slice none 0 0) [] w2 from ⟨World.ownsRow_nil _ _ _ _,(fun t ht=>by cases ht),Below.refl _ _,Nat.le_of_eq hb0.symm⟩)
 have hlt0:w.heap.size < b0:=by omega
 have hb02:b0 <= w2.heap.size:=by omega
 clear hL hb0
 go_wp2_with fail
 go_loopw [4,8,9,10,11] (fun s4 s8 _ _ _ wr=>∃ (cur:ByteArray) (T:List Tr) (P:List (List UInt8)),s4 = .string cur /\ cur.size <= 1000000 /\ T.length <= 2900 /\ Hid (T.length=P.length) /\ Hid (L=P ++ trimP (pieces 10 cur.data.toList)) /\ Hid (tats T=P.map atP) /\ Hid (RdL b0 w2 s8 T wr)) (fun s4 _ _ _ _ _=>strN s4)
 case atStart=>exact ⟨re,[],[],rfl,by omega,Nat.zero_le _,Lib.hid rfl,Lib.hid (by rw [HL.out]; rfl),Lib.hid rfl,HI0⟩
 case round =>
  clear HI0
  obtain ⟨cur,T,P,rfl,hcz,hT29,HTl,HLP,HT,HI⟩:=hrel
  obtain ⟨lo,lc,rfl⟩:∃ lo lc,_=Value.slice lo T.length lc:=row_slice HI.out.row
  have hbig:=HI.out.big
  have HBw:=Lib.hid (show Below w.heap.size w wr from HB2.out.trans ((HI.out.low).mono (by omega)))
  by_cases hz:cur=⟨#[]⟩
  ·have d2:=emp_true hz
   have HLe:=Lib.hid (show L=P by rw [HLP.out,hz]; simp [pieces,trimP])
   have HTr:=Lib.hid (show tats T=rdA re by rw [HT.out, <- HLe.out,HRd.out])
   have HSo:=Lib.hid (sorted_s lo T.length lc (tats T) wr (own_atts HI.out.row HI.out.own) (by rw [HTr.out]; exact HFw.out))
   have HKr:=Lib.hid (show Kb wr w.heap.size (.cells #[.string ⟨#[]⟩, .slice none 0 0] 37) from ((HI.out.low.block _ hlt0).trans HK2.out))
   clear hz
   go_wp2_with fail
   refine HSo.out.mono ?_
   rintro e w5 ⟨v5,U,rfl,hU,hO,_,hrow,hb⟩
   obtain ⟨so,sc,rfl⟩:=row_slice hrow
   have HB5:=Lib.hid (HBw.out.trans (hb.mono HBw.out.size))
   have HK5:=Lib.hid (HKr.out.step hb)
   have HR5:=Lib.hid (And.intro hrow hO)
   have HU:=Lib.hid (show tats U=A by rw [hU,HTr.out,HE.out.2])
   clear hU hO hrow hb HSo HKr
   obtain ⟨r0,r1⟩:w5.cell? ⟨w.heap.size,0,none⟩=some (.string ⟨#[]⟩) /\ w5.cell? ⟨w.heap.size,1,none⟩=some (.slice none 0 0):=⟨HK5.out.cell rfl,HK5.out.cell rfl⟩
   have f0:w5.frozen? ⟨w.heap.size,0,none⟩=false:=heap_frozen HK5.out
   have f1:w5.frozen? ⟨w.heap.size,1,none⟩=false:=heap_frozen HK5.out
   have HBe:=Lib.hid (below_set1 (below_set1 HB5.out w.heap.size 0 (Nat.le_refl _) (.string N)) w.heap.size 1 (Nat.le_refl _) (.slice so U.length sc))
   have HAe:=Lib.hid (show AttrsAt ((w5.setCell ⟨w.heap.size,0,none⟩ (.string N)).setCell ⟨w.heap.size,1,none⟩ (.slice so U.length sc)) so U.length sc A by
    rw [<- HU.out]
    exact own_atts (ownsRow_setCell_below (ownsRow_setCell_below HR5.out.1 (a:=⟨w.heap.size,0,none⟩) (by show w.heap.size < wr.heap.size; omega) _) (a:=⟨w.heap.size,1,none⟩) (by show w.heap.size < wr.heap.size; omega) _)
     ((HR5.out.2.set (a:=⟨w.heap.size,0,none⟩) (by show w.heap.size < wr.heap.size; omega) _).set (a:=⟨w.heap.size,1,none⟩) (by show w.heap.size < wr.heap.size; omega) _))
   go_wp2_with fail
   refine bodyPost_ret (v := .agg #[.string N, .slice so U.length sc]) (by simp only [results,Tryz.results98]; go_simp) rfl ?_
   exact ⟨so,_,sc,rfl,HAe.out,HBe.out⟩
  ·have d2:=emp_false hz
   have HMw:=Lib.hid (HMx.out.1.below HBw.out HMx.out.2)
   have HC:=Lib.hid (cutF_s cur 10 wr (by omega) HMw.out)
   have hcs:=cut_szs cur 10
   have HStp:=Lib.hid (show (cutAft cur ⟨#[10]⟩).size < cur.size /\ trimP (pieces 10 cur.data.toList)=(cutBef cur ⟨#[10]⟩).data.toList :: trimP (pieces 10 (cutAft cur ⟨#[10]⟩).data.toList) from by
    rcases cut_one cur 10 with h | h
    ·exact ⟨h.2.2.1,by rw [h.2.1,trim_cons _ (pc_ne _ _)]⟩
    ·have h0:0 < cur.size:=Nat.pos_of_ne_zero fun e=>hz (ba_ext (by rw [List.length_eq_zero_iff.1 (show cur.data.toList.length=0 by rw [str_len]; exact e)]))
     rw [h.2.1,h.2.2.1,h.2.2.2]
     refine ⟨h0, ?_⟩
     have hne:cur.data.toList ≠ []:=fun e=>by have:=str_len cur; rw [e] at this; simp at this; omega
     show trimP [cur.data.toList]=cur.data.toList :: trimP [[]]
     unfold trimP
     rw [if_neg hne,if_pos rfl])
   obtain ⟨ln,hln⟩:∃ x,cutBef cur ⟨#[10]⟩=x:=⟨_,rfl⟩
   obtain ⟨nx,hnx⟩:∃ x,cutAft cur ⟨#[10]⟩=x:=⟨_,rfl⟩
   rw [hln,hnx] at HC hcs HStp
   have hdec:=HStp.out.1
   have HLn2:=Lib.hid (show L=(P ++ [ln.data.toList]) ++ trimP (pieces 10 nx.data.toList) by rw [HLP.out,HStp.out.2]; simp)
   have HPn:=Lib.hid (show (T ++ [((⟨#[]⟩:ByteArray),Value.slice none 0 0,([]:List ByteArray))]).length <= 2900 from by have h1:=congrArg List.length HLn2.out; rw [List.length_append,List.length_append] at h1; have h2:=HPc.out; have h3:=HTl.out; rw [List.length_append]; simp at h1 ⊢; omega)
   have HAt:=Lib.hid (show atP ln.data.toList=(wordS ln,[valS ln]) by unfold atP; rw [ofL_data])
   obtain ⟨hc3,hc4⟩:=hcs
   clear hz hln hnx HLP
   go_wp2_with fail
   refine HC.out.mono ?_
   rintro e w5 ⟨rfl,hb⟩
   have HI5:=Lib.hid (HI.out.below hb)
   have HB5:=Lib.hid (HBw.out.trans (hb.mono HBw.out.size))
   have HR:=Lib.hid (readLine_s ln w5 (by omega) (HMw.out.below hb HMw.out.lt))
   obtain ⟨wd,hwd⟩:∃ x,wordS ln=x:=⟨_,rfl⟩
   obtain ⟨vl,hvl⟩:∃ x,valS ln=x:=⟨_,rfl⟩
   rw [hwd,hvl] at HR HAt
   clear hb hwd hvl HC HI HBw HMw
   go_wp2_with fail
   refine HR.out.mono ?_
   rintro e w6 ⟨rfl,hb⟩
   have HI6:=Lib.hid (HI5.out.below hb)
   have HB6:=Lib.hid (HB5.out.trans (hb.mono HB5.out.size))
   clear hb HR HI5 HB5
   have hal:=below_al w6 (.cells #[.string vl] 9)
   have HI7:=Lib.hid (HI6.out.below hal)
   have HB7:=Lib.hid (HB6.out.trans (hal.mono HB6.out.size))
   have hbig6:=HI6.out.big
   have hown5:=HI7.out.row
   have hHv:=attr_one w6 vl
   have hap:(Value.slice (some ⟨w6.heap.size,0,none⟩) 1 1).ownBlock=none ∨ (Value.slice (some ⟨w6.heap.size,0,none⟩) 1 1).ownBlock ≠ (Value.slice lo T.length lc).ownBlock:=own_apart hHv HI6.out.row (Nat.le_refl _)
   have HTO5:=Lib.hid (HI7.out.own.snoc (t:=(wd, .slice (some ⟨w6.heap.size,0,none⟩) 1 1,[vl])) (hHv.mono hbig6) hap)
   have HHv:=Lib.hid (hdr_owns (vs:=[vl]) hHv)
   have hsz7:=HI7.out.big
   go_wp2_with (at_builtin; go_must (refine app_attrs ((w6.alloc (.cells #[.string vl] 9)).alloc (.cells #[.string wd, .slice (some ⟨w6.heap.size,0,none⟩) 1 1] 58)) (hown5.alloc _) (.tmp 36) (.tmp 41) _ 1 1 [(wd, .slice (some ⟨w6.heap.size,0,none⟩) 1 1,[vl])] ?_ ?_ ?_ ?_ (ts_new1 (w6.alloc (.cells #[.string vl] 9)) (wd, .slice (some ⟨w6.heap.size,0,none⟩) 1 1,[vl])) ?_ ?_ ?_ ?_; exact rfl; exact rfl; exact rfl; (simp [Act.eval,Act.put]); exact (fun t ht=>by rw [List.mem_singleton.1 ht]; exact HHv.out.below (below_al (w6.alloc (.cells #[.string vl] 9)) _)); omega; (simp; omega); intro v7 w7 hown7 hg7 hl7))
   have HTO7:=Lib.hid ((HTO5.out.below (below_al (w6.alloc (.cells #[.string vl] 9)) (.cells #[.string wd, .slice (some ⟨w6.heap.size,0,none⟩) 1 1] 58))).grown hg7 hl7)
   have hb7:Below b0 w2 w7:=(HI7.out.low.alloc hsz7 _).grown hg7 (by simp; omega) (fun q hq=>(hown5.lt q hq).1)
   have hbig7:b0 <= w7.heap.size:=Nat.le_trans (Nat.le_trans hsz7 (below_al _ _).size) hg7.size
   go_roundw
   case rel=>exact ⟨nx,T ++ [(wd, .slice (some ⟨w6.heap.size,0,none⟩) 1 1,[vl])],P ++ [ln.data.toList],rfl,by omega,by have h:=HPn.out; rw [List.length_append] at h ⊢; exact h,Lib.hid (by rw [List.length_append,List.length_append,HTl.out]; rfl),HLn2,Lib.hid (by rw [tats_append,HT.out,List.map_append,List.map_singleton,HAt.out]; rfl),Lib.hid ⟨by rw [List.length_append,tcells_append]; exact hown7,HTO7.out,hb7,hbig7⟩⟩
   case measure=>simp [strN]; omega
set_option maxHeartbeats 16000000 in
theorem parse8_s (s:ByteArray) (w:World) (hs:s.size <= 1000000) (hl:(pieces 10 s.data.toList).length <= 2900) (hm:MaxOk w) :
  Calls Tryz.prog 38 #[.string s] w fun e w'=>PaP s w e w':=by
 have hbx:=below_al w (.cells #[.string ⟨#[]⟩, .slice none 0 0] 37)
 have HK0:=Lib.hid (kbl_new w (.cells #[.string ⟨#[]⟩, .slice none 0 0] 37))
 have HB0:=Lib.hid hbx
 have HR:=Lib.hid (read_s s (w.alloc (.cells #[.string ⟨#[]⟩, .slice none 0 0] 37)) hs hl (hm.below hbx hm.lt))
 have HSm:=Lib.hid (show (rdE s).1.size <= 1100000 /\ SmallA (rdE s).2 /\ FewV (rdE s).2 from by
  have hcs:=cut_szs s 10
  have h2:=trim_len (pieces 10 (cutAft s ⟨#[10]⟩).data.toList)
  have hc:(trimP (pieces 10 (cutAft s ⟨#[10]⟩).data.toList)).length <= 2900:=by
   rcases cut_one s 10 with h | h
   ·rw [h.2.1,List.length_cons] at hl; omega
   ·rw [h.2.2.2] at h2 ⊢
    refine Nat.le_trans h2 ?_
    show ([[]]:List (List UInt8)).length <= _
    simp
  have hf:=rd_small (t:=cutAft s ⟨#[10]⟩) (by omega) hc
  refine ⟨?_,nf_smallA hf.small,nf_fewV hf.vals⟩
  have:=valS_size (cutBef s ⟨#[10]⟩)
  show (valS (cutBef s ⟨#[10]⟩)).size <= _
  omega)
 have HP:=Lib.hid (show prR s=if paOk s (rdE s)=true then some (rdE s) else none from rfl)
 obtain ⟨E,hE⟩:∃ x,rdE s=x:=⟨_,rfl⟩
 rw [hE] at HR HSm HP
 obtain ⟨N,A⟩:=E
 dsimp only at HR HSm HP
 clear hbx hm hl hE
 go_enter Tryz.func38,Tryz.ntmps38
 go_wp2_with fail
 refine HR.out.mono ?_
 rintro e w1 ⟨ao,n,cap,rfl,hat,hb⟩
 have HB1:=Lib.hid (HB0.out.trans (hb.mono HB0.out.size))
 have HK1:=Lib.hid (HK0.out.step hb)
 have hal:=below_al w1 (.cells #[.string N, .slice ao n cap] 37)
 have HB2:=Lib.hid (HB1.out.trans (hal.mono HB1.out.size))
 have HK2:=Lib.hid (HK1.out.step hal)
 have HQ2:=Lib.hid (kbl_new w1 (.cells #[.string N, .slice ao n cap] 37))
 have HA2:=Lib.hid (hat.below hal)
 have HT:=Lib.hid (text_s N ao n cap A _ HSm.out.1 HA2.out HSm.out.2.1 HSm.out.2.2)
 obtain ⟨b4,hb4⟩:∃ x,w1.heap.size=x:=⟨_,rfl⟩
 have hlt:w.heap.size < w1.heap.size:=HK1.out.big
 obtain ⟨q0,q1⟩:(w1.alloc (.cells #[.string N, .slice ao n cap] 37)).cell? ⟨w1.heap.size,0,none⟩=some (.string N) /\ (w1.alloc (.cells #[.string N, .slice ao n cap] 37)).cell? ⟨w1.heap.size,1,none⟩=some (.slice ao n cap):=⟨HQ2.out.cell rfl,HQ2.out.cell rfl⟩
 obtain ⟨c,hc⟩:∃ c,enC N A=c:=⟨_,rfl⟩
 obtain ⟨t,ht⟩:∃ t,txV N A=t:=⟨_,rfl⟩
 rw [hc,ht] at HT
 have HCT:=Lib.hid (And.intro hc ht)
 clear hb hat hal hc ht HR HB0 HK0 HB1 HK1
 go_wp2_with fail
 refine HT.out.mono ?_
 rintro e w2 ⟨rfl,hb⟩
 have HB3:=Lib.hid (HB2.out.trans (hb.mono HB2.out.size))
 have HK3:=Lib.hid (HK2.out.step hb)
 have HQ3:=Lib.hid (HQ2.out.step hb)
 have HA3:=Lib.hid (HA2.out.below hb)
 rw [hb4] at HQ3 hlt
 clear hb q0 q1 HT HB2 HK2 HQ2 HA2 hb4
 obtain ⟨q0,q1⟩:w2.cell? ⟨b4,0,none⟩=some (.string N) /\ w2.cell? ⟨b4,1,none⟩=some (.slice ao n cap):=⟨HQ3.out.cell rfl,HQ3.out.cell rfl⟩
 obtain ⟨r0,r1⟩:w2.cell? ⟨w.heap.size,0,none⟩=some (.string ⟨#[]⟩) /\ w2.cell? ⟨w.heap.size,1,none⟩=some (.slice none 0 0):=⟨HK3.out.cell rfl,HK3.out.cell rfl⟩
 have f0:w2.frozen? ⟨w.heap.size,0,none⟩=false:=heap_frozen HK3.out
 have f1:w2.frozen? ⟨w.heap.size,1,none⟩=false:=heap_frozen HK3.out
 have HNo:=Lib.hid (show paOk s (N,A)=false -> PaP s w (.returned (.tuple #[.agg #[.string ⟨#[]⟩, .slice none 0 0], .int .i64 4])) ((w2.setCell ⟨w.heap.size,0,none⟩ (.string ⟨#[]⟩)).setCell ⟨w.heap.size,1,none⟩ (.slice none 0 0)) from fun hf=>by
  obtain ⟨k1,k2,k3⟩:=pa_none (s:=s) (by rw [HP.out,if_neg (by rw [hf]; decide)])
  unfold PaP
  rw [k1,k2,k3]
  exact ⟨none,0,0,rfl,⟨rfl,Nat.le_refl _,by unfold maxLen; omega,fun h=>absurd h (Nat.lt_irrefl _)⟩,below_set1 (below_set1 HB3.out w.heap.size 0 (Nat.le_refl _) _) w.heap.size 1 (Nat.le_refl _) _⟩)
 by_cases h0:c=0
 ·subst h0
  by_cases h1:t=s
  ·subst h1
   have e1:(t.toList != t.toList)=false:=by simp
   have HOk:=Lib.hid (show paOk t (N,A)=true from pa_mk HCT.out.1 (by have h:=HCT.out.2; unfold txV at h; rw [if_pos HCT.out.1] at h; exact h))
   have HYes:=Lib.hid (show PaP t w (.returned (.tuple #[.agg #[.string N, .slice ao n cap], .int .i64 0])) ((w2.setCell ⟨w.heap.size,0,none⟩ (.string N)).setCell ⟨w.heap.size,1,none⟩ (.slice ao n cap)) from by
    obtain ⟨k1,k2,k3⟩:=pa_some (s:=t) (x:=(N,A)) (by rw [HP.out,if_pos HOk.out])
    unfold PaP
    rw [k1,k2,k3]
    have hch:=enC_chk HCT.out.1
    have hnN:nameB N=false:=by
     have h:=HCT.out.1
     unfold enC at h
     split at h
     ·cases h
     ·rename_i k
      have kn:Nam.normB N=true:=by
       cases e:Nam.normB N
       ·exact absurd (.inr e) k
       ·rfl
      have kc:=norm_clean kn
      have:=clean_no_name (s:=N) (by rw [kc]; exact fun e=>k (.inl e))
      rwa [kc] at this
    exact ⟨ao,n,cap,rfl,atts_res HK3.out HA3.out hch hnN _,below_set1 (below_set1 HB3.out w.heap.size 0 (Nat.le_refl _) _) w.heap.size 1 (Nat.le_refl _) _⟩)
   clear HNo
   go_wp2_with fail
   refine bodyPost_ret (v := .tuple #[.agg #[.string N, .slice ao n cap], .int .i64 0]) (by simp only [results,Tryz.results38]; go_simp) rfl ?_
   exact HYes.out
  ·have e2:(t.toList == s.toList)=false:=by rw [str_eq]; exact decide_eq_false h1
   have e1:(t.toList != s.toList)=true:=by unfold bne; rw [e2]; rfl
   have HOk:=Lib.hid (HNo.out (by
    unfold paOk
    rw [decide_eq_true HCT.out.1,Bool.true_and]
    refine decide_eq_false fun e=>h1 ?_
    have h:=HCT.out.2
    unfold txV at h
    rw [if_pos HCT.out.1] at h
    rw [<- h]
    exact (congrArg ofL e).trans (ofL_data s)))
   clear HNo h1
   go_wp2_with fail
   refine bodyPost_ret (v := .tuple #[.agg #[.string ⟨#[]⟩, .slice none 0 0], .int .i64 4]) (by simp only [results,Tryz.results38]; go_simp) rfl ?_
   exact HOk.out
 ·have d1:(c != 0)=true:=by simpa using h0
  have HOk:=Lib.hid (HNo.out (by unfold paOk; rw [decide_eq_false (by rw [HCT.out.1]; exact h0),Bool.false_and]))
  clear HNo h0
  go_wp2_with fail
  refine bodyPost_ret (v := .tuple #[.agg #[.string ⟨#[]⟩, .slice none 0 0], .int .i64 4]) (by simp only [results,Tryz.results38]; go_simp) rfl ?_
  exact HOk.out
theorem step_push_str_g {ops:Array Oper} {o:Oper} {a:Act} {K:Act -> World -> Prop} {Q:Exit -> Act -> World -> Prop} {E:Prop} (wr:World) {base:Nat} {v:Value} {n:Nat} {xs:List Value} (hown:wr.ownsRow base 9 1 v n xs) (s x:Operand)
  (p:ByteArray) (hgd:o.guard=none)
  (ho:o.op = .call { callee := .builtin .append,args := #[s,x],argTypes := #[55,55] })
  (hs:a.eval s=v) (hx:a.eval x = .slice (some ⟨wr.heap.size,0,none⟩) 1 1) (hn:n + 1 <= 1000000000) (hbase:base <= wr.heap.size)
  (h:∀ v' w',w'.ownsRow base 9 1 v' (n + 1) (xs ++ [.string p]) -> (wr.alloc (.cells #[.string p] 9)).grownBy w' v.ownBlock -> (v'.ownBlock=v.ownBlock ∨ v'.ownBlock=some (wr.heap.size + 1)) -> K (a.put o.dst v') w') :
  if Region.wanted o (yielded ops a.tmps)=true then Oper.wp Tryz.prog o a (wr.alloc (.cells #[.string p] 9)) K Q else E:=by
 obtain ⟨i0,hi,hz0,hz1,hz2⟩:=info_parts info_string
 refine step_append_own_at hgd s x 55 ho base 9 i0 (.string ⟨#[]⟩) 1 16 Tryz.underlying55 hi hz0 hz1 hz2 rfl (by decide) v n xs hs (hown.alloc _) ⟨wr.heap.size,0,none⟩ 1 1 [.string p] hx rfl
  (cell_one_new _ _ _) (by intro u hu; simp at hu; subst hu; rfl) (by unfold maxLen; omega) (by omega) (by simp; omega) ?_
 intro v' w' h1 h2 h3
 exact h v' w' h1 h2 (by simpa using h3)
structure PrI (w w2:World) (base:Nat) (N:ByteArray) (so:Option Addr) (sc n:Nat) (U:List Tr) (wr:World):Prop where
 len:U.length=n
 kR:Kb wr w.heap.size (.cells #[.string ⟨#[]⟩, .slice none 0 0] 37)
 kE:Kb wr (w.heap.size + 1) (.cells #[.string N, .slice so n sc] 37)
 row:wr.ownsRow base 58 2 (.slice so n sc) n (tcells U)
 own:TOwn wr base (.slice so n sc) U
 ap:TApart U
 low:Below w.heap.size w wr
 keep:∀ b,w.heap.size + 2 <= b -> b < base -> wr.heap[b]? = w2.heap[b]?
 big:w.heap.size + 2 <= base /\ base <= wr.heap.size
theorem PrI.below {w w2:World} {base:Nat} {N:ByteArray} {so:Option Addr} {sc n:Nat} {U:List Tr} {wr V:World} (h:PrI w w2 base N so sc n U wr) (hb:Below wr.heap.size wr V):PrI w w2 base N so sc n U V:=
 ⟨h.len,h.kR.step hb,h.kE.step hb,own_below h.row hb,h.own.below hb,h.ap,h.low.trans (hb.mono h.low.size),fun b h1 h2=>(hb.block b (Nat.lt_of_lt_of_le h2 h.big.2)).trans (h.keep b h1 h2),h.big.1,Nat.le_trans h.big.2 hb.size⟩
theorem PrI.name {w w2:World} {base:Nat} {N:ByteArray} {so:Option Addr} {sc n:Nat} {U:List Tr} {wr:World} (h:PrI w w2 base N so sc n U wr) (N':ByteArray):PrI w w2 base N' so sc n U (wr.setCell ⟨w.heap.size + 1,0,none⟩ (.string N')):=by
 have hb:=h.big
 refine ⟨h.len,h.kR.set _ _ (by show w.heap.size ≠ w.heap.size + 1; omega),Lib.heap_setCell_same h.kE _,ownsRow_setCell_below h.row (a:=⟨w.heap.size + 1,0,none⟩) (by show w.heap.size + 1 < base; omega) _,h.own.set (a:=⟨w.heap.size + 1,0,none⟩) (by show w.heap.size + 1 < base; omega) _,h.ap,h.low.setCell (p:=⟨w.heap.size + 1,0,none⟩) (by show w.heap.size <= w.heap.size + 1; omega) _,fun b h1 h2=>(heap_setCell_other wr ⟨w.heap.size + 1,0,none⟩ b _ (by show b ≠ w.heap.size + 1; omega)).trans (h.keep b h1 h2),hb.1,by rw [set_size]; exact hb.2⟩
theorem PrI.push {w w2:World} {base:Nat} {N:ByteArray} {so:Option Addr} {sc n:Nat} {U:List Tr} {wr:World} (h:PrI w w2 base N so sc n U wr) (a v:ByteArray) {w7:World} {so':Option Addr} {sc':Nat}
  (hrow:w7.ownsRow base 58 2 (.slice so' (n + 1) sc') (n + 1) (tcells U ++ tcells [(a, .slice (some ⟨wr.heap.size,0,none⟩) 1 1,[v])]))
  (hg:((wr.alloc (.cells #[.string v] 9)).alloc (.cells #[.string a, .slice (some ⟨wr.heap.size,0,none⟩) 1 1] 58)).grownBy w7 (Value.slice so n sc).ownBlock)
  (hl:(Value.slice so' (n + 1) sc').ownBlock=(Value.slice so n sc).ownBlock ∨ (Value.slice so' (n + 1) sc').ownBlock=some ((wr.alloc (.cells #[.string v] 9)).alloc (.cells #[.string a, .slice (some ⟨wr.heap.size,0,none⟩) 1 1] 58)).heap.size) :
  Kb w7 (w.heap.size + 1) (.cells #[.string N, .slice so n sc] 37) /\ PrI w w2 base N so' sc' (n + 1) (U ++ [(a, .slice (some ⟨wr.heap.size,0,none⟩) 1 1,[v])]) (w7.setCell ⟨w.heap.size + 1,1,none⟩ (.slice so' (n + 1) sc')):=by
 have hbg:=h.big
 have hal:=below_al wr (.cells #[.string v] 9)
 have h1:=h.below hal
 have hHv:=attr_one wr v
 have hap:(Value.slice (some ⟨wr.heap.size,0,none⟩) 1 1).ownBlock=none ∨ (Value.slice (some ⟨wr.heap.size,0,none⟩) 1 1).ownBlock ≠ (Value.slice so n sc).ownBlock:=own_apart hHv h.row (Nat.le_refl _)
 have hT1:=h1.own.snoc (t:=(a, .slice (some ⟨wr.heap.size,0,none⟩) 1 1,[v])) (hHv.mono hbg.2) hap
 have hal2:=below_al (wr.alloc (.cells #[.string v] 9)) (.cells #[.string a, .slice (some ⟨wr.heap.size,0,none⟩) 1 1] 58)
 have hT7:=(hT1.below hal2).grown hg hl
 have hB:Below base wr w7:=((hal.mono hbg.2).trans (hal2.mono h1.big.2)).grown hg (Nat.le_trans h1.big.2 hal2.size) (fun k hk=>(h.row.lt k hk).1)
 have e:∀ {b ob},b < base -> Kb wr b ob -> Kb w7 b ob:=fun hlt hk=>(hB.block _ hlt).trans hk
 have hE7:=e (by omega) h.kE
 refine ⟨hE7,by rw [List.length_append,h.len]; rfl,(e (by omega) h.kR).set _ _ (by show w.heap.size ≠ w.heap.size + 1; omega),Lib.heap_setCell_same hE7 _, ?_,hT7.set (a:=⟨w.heap.size + 1,1,none⟩) (by show w.heap.size + 1 < base; omega) _, ?_,(h.low.trans (hB.mono (by omega))).setCell (p:=⟨w.heap.size + 1,1,none⟩) (by show w.heap.size <= w.heap.size + 1; omega) _,fun b h1 h2=>((heap_setCell_other w7 ⟨w.heap.size + 1,1,none⟩ b _ (by show b ≠ w.heap.size + 1; omega)).trans (hB.block b h2)).trans (h.keep b h1 h2),hbg.1,by rw [set_size]; exact Nat.le_trans hbg.2 hB.size⟩
 ·rw [tcells_append]
  exact ownsRow_setCell_below hrow (a:=⟨w.heap.size + 1,1,none⟩) (by show w.heap.size + 1 < base; omega) _
 ·unfold TApart
  rw [List.pairwise_append]
  refine ⟨h.ap,List.pairwise_singleton _ _,fun s hs t ht => ?_⟩
  rw [List.mem_singleton.1 ht]
  cases hk:s.2.1.ownBlock with
  | none=>exact .inl rfl
  | some g =>
   refine .inr fun e => ?_
   have h1:=((h.own s hs).1.lt g hk).2
   have h2:g=wr.heap.size:=Option.some.inj e
   omega
theorem PrI.cell {w w2:World} {base g:Nat} {N:ByteArray} {sc m:Nat} {D:List Tr} {t:Tr} {wr:World} (h:PrI w w2 base N (some ⟨g,0,none⟩) sc (m + 1) (D ++ [t]) wr) :
  wr.cell? ⟨g,m * 2,none⟩=some (.string t.1) /\ wr.cell? ⟨g,m * 2 + 1,none⟩=some t.2.1:=by
 have hm:D.length=m:=by have:=h.len; rw [List.length_append] at this; simpa using this
 obtain ⟨c1,c2⟩:=etc_at (U:=D ++ [t]) (i:=m) (by rw [h.len]; omega)
 have e:(D ++ [t]).getD m default=t:=by rw [<- hm]; simp [List.getD]
 rw [e] at c1 c2
 have k1:=h.row.cells (g:=g) rfl _ _ c1
 have k2:=h.row.cells (g:=g) rfl _ _ c2
 rw [Go.WideShapes.add_plain,Nat.zero_add] at k1 k2
 exact ⟨k1,k2⟩
theorem PrI.ext {w w2:World} {base g:Nat} {N:ByteArray} {sc m:Nat} {D:List Tr} {a:ByteArray} {x:Value} {vs:List ByteArray} {wr:World} (h:PrI w w2 base N (some ⟨g,0,none⟩) sc (m + 1) (D ++ [(a,x,vs)]) wr) (v:ByteArray) {W w7:World} (hW:Below wr.heap.size wr W) {u:Value}
  (hrow:w7.ownsRow base 9 1 u (vs.length + 1) (scells vs ++ [.string v])) (hg:W.grownBy w7 x.ownBlock) (hl:u.ownBlock=x.ownBlock ∨ u.ownBlock=some W.heap.size) :
  Kb w7 (w.heap.size + 1) (.cells #[.string N, .slice (some ⟨g,0,none⟩) (m + 1) sc] 37) /\ w7.cell? ⟨g,m * 2 + 1,none⟩=some x /\ w7.frozen? ⟨g,m * 2 + 1,none⟩=false /\
  PrI w w2 base N (some ⟨g,0,none⟩) sc (m + 1) (D ++ [(a,u,vs ++ [v])]) (w7.setCell ⟨g,m * 2 + 1,none⟩ u):=by
 have hbg:=h.big
 have hWl:=h.below hW
 have hm:D.length=m:=by have:=h.len; rw [List.length_append] at this; simpa using this
 have hx:=h.own (a,x,vs) (by simp)
 have hxne:x.ownBlock=none ∨ x.ownBlock ≠ some g:=hx.2
 have hgb:base <= g /\ g < wr.heap.size:=h.row.lt g rfl
 have hB:Below base wr w7:=(hW.mono hbg.2).grown hg (Nat.le_trans hbg.2 hW.size) (fun k hk=>(hx.1.lt k hk).1)
 have e:∀ {b ob},b < base -> Kb wr b ob -> Kb w7 b ob:=fun hlt hk=>(hB.block _ hlt).trans hk
 have hE7:=e (by omega) h.kE
 have hrow7:=hWl.row.kept hg (.inr (by
  show some g ≠ _
  rcases hxne with k | k
  ·rw [k]; intro e; cases e
  ·exact fun e=>k e.symm))
 have hune:u.ownBlock ≠ some g:=by
  rcases hl with k | k
  ·rw [k]
   rcases hxne with q | q
   ·rw [q]; intro e; cases e
   ·exact q
  ·rw [k]
   intro e
   have:=Option.some.inj e
   have:=hW.size
   omega
 have hD:∀ s ∈ D,s.2.1.ownBlock=none ∨ s.2.1.ownBlock ≠ x.ownBlock:=fun s hs=>(List.pairwise_append.1 h.ap).2.2 s hs (a,x,vs) (by simp)
 have hset:(tcells (D ++ [(a,x,vs)])).set (m * 2 + 1) u=tcells (D ++ [(a,u,vs ++ [v])]):=by
  rw [tcells_set (U:=D ++ [(a,x,vs)]) (i:=m) (by rw [h.len]; omega) a (by rw [<- hm]; simp [List.getD]) u (vs ++ [v])]
  congr 1
  rw [<- hm]; simp
 have hcell:w7.cell? ⟨g,m * 2 + 1,none⟩=some x:=by
  obtain ⟨c1,c2⟩:=etc_at (U:=D ++ [(a,x,vs)]) (i:=m) (by rw [h.len]; omega)
  rw [show (D ++ [(a,x,vs)]).getD m default=(a,x,vs) by rw [<- hm]; simp [List.getD]] at c2
  have k2:=hrow7.cells (g:=g) rfl _ _ c2
  rwa [Go.WideShapes.add_plain,Nat.zero_add] at k2
 refine ⟨hE7,hcell,hrow7.frozenAt _,by rw [List.length_append,hm]; rfl,(e (by omega) h.kR).set _ _ (by show w.heap.size ≠ g; omega),hE7.set _ _ (by show w.heap.size + 1 ≠ g; omega), ?_, ?_, ?_,(h.low.trans (hB.mono (by omega))).setCell (p:=⟨g,m * 2 + 1,none⟩) (by show w.heap.size <= g; omega) _,fun b h1 h2=>((heap_setCell_other w7 ⟨g,m * 2 + 1,none⟩ b _ (by show b ≠ g; omega)).trans (hB.block b h2)).trans (h.keep b h1 h2),hbg.1,by rw [set_size]; exact Nat.le_trans hbg.2 hB.size⟩
 ·have:=(hrow7.stored (m * 2 + 1) u).1
  rwa [hset] at this
 ·intro t ht
  rcases List.mem_append.1 ht with ht | ht
  ·have h1:=hWl.own t (by simp [ht])
   have h2:=h1.1.kept hg (hD t ht)
   refine ⟨ownsRow_setCell_other h2 ?_ u,h1.2⟩
   rcases h1.2 with k | k
   ·rw [k]; intro e; cases e
   ·exact k
  ·rw [List.mem_singleton.1 ht]
   refine ⟨ownsRow_setCell_other (a:=⟨g,m * 2 + 1,none⟩) (by
    show w7.ownsRow _ _ _ u (vs ++ [v]).length (scells (vs ++ [v]))
    rw [List.length_append,scells_app]; exact hrow) hune u, .inr hune⟩
 ·unfold TApart
  rw [List.pairwise_append]
  refine ⟨(List.pairwise_append.1 h.ap).1,List.pairwise_singleton _ _,fun s hs t ht => ?_⟩
  rw [List.mem_singleton.1 ht]
  rcases hD s hs with k | k
  ·exact .inl k
  ·cases hk:s.2.1.ownBlock with
   | none=>exact .inl rfl
   | some q =>
    refine .inr fun e => ?_
    rcases hl with z | z
    ·exact k (by rw [hk]; exact e.trans z)
    ·have h1:=((h.own s (by simp [hs])).1.lt q hk).2
     have h2:=Option.some.inj (e.trans z)
     have:=hW.size
     omega
/-! ### what is read -/
def rs0:List (List UInt8) -> Option (ByteArray × List At)
 | []=>some (⟨#[]⟩,[])
 | p :: r=>if lnOk (ofL p)=true then (grpP [] r).map fun l=>(valS (ofL p),l) else none
def rsI (LL:List (List UInt8)) (i:Nat) (N:ByteArray) (l:List At):Option (ByteArray × List At):=if i=0 then rs0 LL else (grpP l (LL.drop i)).map fun l=>(N,l)
theorem rsI_zero (s:ByteArray) (N:ByteArray) (l:List At):rsE s=rsI ((pieces 10 s.data.toList).dropLast) 0 N l:=by
 unfold rsI rs0 rsE; first | exact (if_pos rfl).symm | (rw [if_pos rfl])
theorem ll_drop {LL:List (List UInt8)} {i:Nat} (h:i < LL.length):LL.drop i=LL.getD i [] :: LL.drop (i + 1):=by
 rw [List.drop_eq_getElem_cons h,List.getD_eq_getElem?_getD,List.getElem?_eq_getElem h]; rfl
theorem rsI_bad {LL:List (List UInt8)} {i:Nat} {N:ByteArray} {l:List At} (h:i < LL.length) (hb:lnOk (ofL (LL.getD i []))=false):rsI LL i N l=none:=by
 have hne:¬ lnOk (ofL (LL.getD i []))=true:=by rw [hb]; decide
 unfold rsI
 split
 ·rename_i e
  subst e
  have hd:=ll_drop h
  rw [List.drop_zero] at hd
  rw [hd]
  exact if_neg hne
 ·rw [ll_drop h]
  unfold grpP
  rw [if_neg hne]; rfl
theorem rsI_name {LL:List (List UInt8)} {N:ByteArray} (h:0 < LL.length) (hb:lnOk (ofL (LL.getD 0 []))=true):rsI LL 0 N []=rsI LL (0 + 1) (valS (ofL (LL.getD 0 []))) []:=by
 unfold rsI
 rw [if_pos rfl,if_neg (by omega)]
 have hd:=ll_drop h
 rw [List.drop_zero] at hd
 conv=>lhs; rw [hd]
 exact if_pos hb
theorem rsI_add {LL:List (List UInt8)} {i:Nat} {N:ByteArray} {l:List At} (h:i < LL.length) (h0:i ≠ 0) (hb:lnOk (ofL (LL.getD i []))=true):rsI LL i N l=rsI LL (i + 1) N (addP l (wordS (ofL (LL.getD i []))) (valS (ofL (LL.getD i [])))):=by
 unfold rsI
 rw [if_neg h0,if_neg (by omega),ll_drop h]
 conv=>lhs; unfold grpP
 rw [if_pos hb]
theorem rsI_end {LL:List (List UInt8)} {N:ByteArray} {l:List At} (h:LL.length=0 -> N=⟨#[]⟩ /\ l = []):rsI LL LL.length N l=some (N,l):=by
 unfold rsI
 split
 ·rename_i e
  obtain ⟨rfl,rfl⟩:=h e
  rw [List.length_eq_zero_iff.1 e]; rfl
 ·rw [List.drop_length]; rfl
theorem ll_at {LL:List (List UInt8)} {i:Nat} (h:i < LL.length):partAt (LL.map ofL) i=ofL (LL.getD i []):=by
 unfold partAt
 rw [List.getD_eq_getElem?_getD,List.getD_eq_getElem?_getD,List.getElem?_map,List.getElem?_eq_getElem h]; rfl
theorem ll_size {s:ByteArray} {i:Nat} (h:i < ((pieces 10 s.data.toList).dropLast).length):(ofL (((pieces 10 s.data.toList).dropLast).getD i [])).size <= s.size:=by
 rw [ofL_size,List.getD_eq_getElem?_getD,List.getElem?_eq_getElem h]
 have:=pc_len 10 _ _ (List.dropLast_subset _ (List.getElem_mem h))
 rw [str_len] at this
 exact this
theorem snoc_small {l:List At} {a v:ByteArray} (h:SmallA l) (ha:a.size <= 1100000) (hv:v.size <= 1100000):SmallA (l ++ [(a,[v])]):=fun x hx=>by
 rcases List.mem_append.1 hx with hx | hx
 ·exact h x hx
 ·rw [List.mem_singleton.1 hx]
  exact ⟨ha,fun y hy=>by rw [List.mem_singleton.1 hy]; exact hv⟩
theorem more_small {l:List At} {a v:ByteArray} {vs:List ByteArray} (h:SmallA (l ++ [(a,vs)])) (hv:v.size <= 1100000):SmallA (l ++ [(a,vs ++ [v])]):=fun x hx=>by
 rcases List.mem_append.1 hx with hx | hx
 ·exact h x (by simp [hx])
 ·rw [List.mem_singleton.1 hx]
  have:=h (a,vs) (by simp)
  refine ⟨this.1,fun y hy => ?_⟩
  rcases List.mem_append.1 hy with hy | hy
  ·exact this.2 y hy
  ·rw [List.mem_singleton.1 hy]; exact hv
structure SoA (base:Nat) (u:Value) (T:List Tr) (X:List At) (W:World):Prop where
 row:W.ownsRow base 58 2 u T.length (tcells T)
 own:TOwn W base u T
 is:tats T=X
theorem SoA.below {base:Nat} {u:Value} {T:List Tr} {X:List At} {W V:World} (h:SoA base u T X W) (hb:Below W.heap.size W V):SoA base u T X V:=⟨own_below h.row hb,h.own.below hb,h.is⟩
theorem SoA.at {base:Nat} {ao:Option Addr} {n cap i:Nat} {T:List Tr} {X:List At} {W:World} (h:SoA base (.slice ao n cap) T X W) (hX:X.length=n) (hi:i < n) :
  ∃ g vo vc,ao=some ⟨g,0,none⟩ /\ W.cell? ⟨g,i * 2,none⟩=some (.string (atD X i).1) /\ W.cell? ⟨g,i * 2 + 1,none⟩=some (.slice vo (atD X i).2.length vc) /\ StrsAt W vo (atD X i).2.length vc (atD X i).2 /\
   W.ownsRow base 9 1 (.slice vo (atD X i).2.length vc) (atD X i).2.length (scells (atD X i).2):=by
 have hT:T.length=n:=by rw [<- hX, <- h.is,tats_len]
 have hiU:i < T.length:=by rw [hT]; exact hi
 obtain ⟨g,rfl⟩:∃ g,ao=some ⟨g,0,none⟩:=by
  have hr:=h.row
  rcases hr.2 with ⟨e,_⟩ | ⟨g,cp,cur,e,_⟩
  ·simp only [Value.slice.injEq] at e
   omega
  ·simp only [Value.slice.injEq] at e
   exact ⟨g,e.1⟩
 obtain ⟨s1,s2⟩:(T.getD i default).1=(atD X i).1 /\ (T.getD i default).2.2=(atD X i).2:=by
  have:=tats_at hiU; rw [h.is] at this; rw [this]; exact ⟨rfl,rfl⟩
 have hmem:T.getD i default ∈ T:=by
  rw [List.getD_eq_getElem?_getD,List.getElem?_eq_getElem hiU]; exact List.getElem_mem _
 obtain ⟨vo,vc,e,hst⟩:=strs_own (h.own _ hmem).1 rfl
 obtain ⟨t1,t2⟩:=etc_at hiU
 have c1:=h.row.cells (g:=g) rfl _ _ t1
 have c2:=h.row.cells (g:=g) rfl _ _ t2
 rw [Go.WideShapes.add_plain,Nat.zero_add] at c1 c2
 have hr:=(h.own _ hmem).1
 rw [s1] at c1
 rw [e] at c2 hr
 rw [s2] at c2 hst hr
 exact ⟨g,vo,vc,rfl,c1,c2,hst,hr⟩
theorem app_list (a b:ByteArray):(a ++ b).data.toList=a.data.toList ++ b.data.toList:=by rw [ByteArray.data_append]; simp
end Go.Proofs.YtmmdaegdkikkpaaGreatDoor
end
