/-
  Texts of the schema layer and of those beneath it, joined: AttL, AttFrame, AttStrs, AttIns, AttMem, AttTw, AttChk, OpenR, ShelfK, AttKeys, AttMap, AttGrp, AttApp, AttT, ShelfE. Conditions stand at each contract.
-/
import Derived.ProofKit
import Derived.OpenShut
import Derived.SliceStrings
import Derived.Deep.RegionHeld3
import Derived.Deep.AppendLies
import Derived.Deep.SlicePairs
import Derived.SizedLaws
import Derived.Shelf.SlIter.Nil
import Derived.Shelf.SortM.Plain
import Derived.Shelf.SortM.SortNone
import Derived.Maps.OwnSet
import Derived.Sort.KeysCollected
import Derived.Maps.AppendAt
import Derived.Deep.Upon
import Derived.Laws.AppendOwnNone
import Derived.ArgAppend
import Derived.Deep.AppendSrc
import Derived.Shelf.SlicesG.Equal
import Derived.Shelf.SlicesG.Turned
import Derived.Shelf.SlicesG.CompactS
import Derived.Shelf.SlicesE.DeleteFunc
import Derived.Shelf.SlicesE.Clone
import Derived.Test.YtmmdaegdkikkpaaGreatDoorU01
set_option linter.unusedVariables false
set_option linter.unusedSimpArgs false
set_option linter.unnecessarySimpa false

section
set_option maxRecDepth 100000
namespace Go.Proofs.YtmmdaegdkikkpaaGreatDoor
open Go.RowKit Go.PlainAid
structure Ord3 {α:Type} (f:α -> α -> Int):Prop where
 range:∀ a b,f a b = -1 ∨ f a b=0 ∨ f a b=1
 anti:∀ a b,f b a = - f a b
 zero:∀ a b,f a b=0 ↔ a=b
 trans:∀ a b c,f a b <= 0 -> f b c <= 0 -> f a c <= 0
theorem cmpS_ord:Ord3 cmpS:=
 ⟨fun a b=>cb_range _ _,fun a b=>cb_anti _ _,fun a b=>by unfold cmpS; rw [cb_zero]; exact ⟨ba_ext,fun e=>by rw [e]⟩,fun a b c h1 h2=>cb_trans _ _ _ h1 h2⟩
theorem cs_irrefl (a:ByteArray):¬ cmpS a a < 0:=by have:=(cmpS_ord.zero a a).2 rfl; omega
theorem cs_trans {a b c:ByteArray} (h1:cmpS a b < 0) (h2:cmpS b c < 0):cmpS a c < 0:=by
 have h:=cmpS_ord.trans a b c (by omega) (by omega)
 by_cases e:cmpS a c=0
 ·have k:=(cmpS_ord.zero a c).1 e
  subst k
  have:=cmpS_ord.anti a b
  omega
 ·omega
theorem cs_asymm {a b:ByteArray} (h:cmpS a b < 0):¬ cmpS b a < 0:=by have:=cmpS_ord.anti a b; omega
theorem cs_tri (a b:ByteArray):cmpS a b < 0 ∨ a=b ∨ cmpS b a < 0:=by
 have h1:=cmpS_ord.range a b
 have h2:=cmpS_ord.anti a b
 have h3:=cmpS_ord.zero a b
 by_cases h:cmpS a b=0
 ·exact .inr (.inl (h3.1 h))
 ·omega
theorem cs_ne {a b:ByteArray} (h:cmpS a b < 0):a ≠ b:=fun e=>by subst e; exact cs_irrefl _ h
/-! ### ascending lists without doubles -/
def Asc (l:List ByteArray):Prop:=l.Pairwise fun a b=>cmpS a b < 0
def insS:List ByteArray -> ByteArray -> List ByteArray
 | [],s=>[s]
 | x :: r,s=>if cmpS x s < 0 then x :: insS r s else if x=s then x :: r else s :: x :: r
theorem insS_mem {x s:ByteArray}:∀ {l:List ByteArray},x ∈ insS l s ↔ x ∈ l ∨ x=s
 | []=>by simp [insS]
 | y :: r=>by
  unfold insS
  by_cases h:cmpS y s < 0
  ·rw [if_pos h,List.mem_cons,List.mem_cons,insS_mem,or_assoc]
  ·rw [if_neg h]
   by_cases e:y=s
   ·rw [if_pos e]
    subst e
    simp only [List.mem_cons]
    exact ⟨fun k=>k.elim (fun k => .inr k) (fun k => .inl (.inr k)),fun k=>k.elim id .inl⟩
   ·rw [if_neg e]
    simp only [List.mem_cons]
    exact ⟨fun k=>k.elim .inr .inl,fun k=>k.elim .inr .inl⟩
theorem insS_asc {s:ByteArray}:∀ {l:List ByteArray},Asc l -> Asc (insS l s)
 | [],_=>List.pairwise_singleton _ _
 | y :: r,h=>by
  have h':=List.pairwise_cons.1 h
  unfold insS
  by_cases hy:cmpS y s < 0
  ·rw [if_pos hy]
   refine List.pairwise_cons.2 ⟨fun x hx => ?_,insS_asc h'.2⟩
   rcases insS_mem.1 hx with k | k
   ·exact h'.1 x k
   ·rw [k]; exact hy
  ·rw [if_neg hy]
   by_cases e:y=s
   ·rw [if_pos e]; exact h
   ·rw [if_neg e]
    have hs:cmpS s y < 0:=(cs_tri y s).elim (fun k=>absurd k hy) fun k=>k.elim (fun k=>absurd k e) id
    refine List.pairwise_cons.2 ⟨fun x hx => ?_,h⟩
    rcases List.mem_cons.1 hx with k | k
    ·rw [k]; exact hs
    ·exact cs_trans hs (h'.1 x k)
theorem asc_ext:∀ {a b:List ByteArray},Asc a -> Asc b -> (∀ x,x ∈ a ↔ x ∈ b) -> a=b
 | [],[],_,_,_=>rfl
 | [],y :: r,_,_,h=>absurd ((h y).2 (List.mem_cons_self ..)) (List.not_mem_nil)
 | x :: r,[],_,_,h=>absurd ((h x).1 (List.mem_cons_self ..)) (List.not_mem_nil)
 | x :: a,y :: b,ha,hb,h=>by
  have ha':=List.pairwise_cons.1 ha
  have hb':=List.pairwise_cons.1 hb
  have e:x=y:=by
   rcases List.mem_cons.1 ((h x).1 (List.mem_cons_self ..)) with k | k
   ·exact k
   ·rcases List.mem_cons.1 ((h y).2 (List.mem_cons_self ..)) with j | j
    ·exact j.symm
    ·exact absurd (ha'.1 y j) (cs_asymm (hb'.1 x k))
  subst e
  rw [asc_ext ha'.2 hb'.2 fun z => ?_]
  constructor
  ·intro hz
   rcases List.mem_cons.1 ((h z).1 (List.mem_cons_of_mem _ hz)) with k | k
   ·exact absurd k.symm (cs_ne (ha'.1 z hz))
   ·exact k
  ·intro hz
   rcases List.mem_cons.1 ((h z).2 (List.mem_cons_of_mem _ hz)) with k | k
   ·exact absurd k.symm (cs_ne (hb'.1 z hz))
   ·exact k
def sortU (l:List ByteArray):List ByteArray:=l.foldl insS []
theorem foldl_mem {x:ByteArray}:∀ (l a:List ByteArray),x ∈ l.foldl insS a ↔ x ∈ a ∨ x ∈ l
 | [],a=>by simp
 | y :: r,a=>by
  rw [List.foldl_cons,foldl_mem r,insS_mem,List.mem_cons,or_assoc]
theorem foldl_asc:∀ (l a:List ByteArray),Asc a -> Asc (l.foldl insS a)
 | [],_,h=>h
 | _ :: r,_,h=>by rw [List.foldl_cons]; exact foldl_asc r _ (insS_asc h)
theorem sortU_mem {x:ByteArray} {l:List ByteArray}:x ∈ sortU l ↔ x ∈ l:=by unfold sortU; rw [foldl_mem]; simp
theorem sortU_asc (l:List ByteArray):Asc (sortU l):=foldl_asc l [] List.Pairwise.nil
theorem sortU_snoc (l:List ByteArray) (s:ByteArray):sortU (l ++ [s])=insS (sortU l) s:=by unfold sortU; rw [List.foldl_append]; rfl
theorem sortU_nil {l:List ByteArray}:sortU l = [] ↔ l = []:=by
 constructor
 ·intro h
  cases l with
  | nil=>rfl
  | cons x r=>exact absurd (h ▸ sortU_mem.2 (List.mem_cons_self ..):x ∈ ([]:List ByteArray)) List.not_mem_nil
 ·intro h; rw [h]; rfl
theorem insS_len:∀ (l:List ByteArray) (s:ByteArray),(insS l s).length <= l.length + 1
 | [],_=>Nat.le_refl _
 | x :: r,s=>by
  unfold insS
  have:=insS_len r s
  split
  ·simpa using this
  ·split <;> simp
theorem foldl_len:∀ (l a:List ByteArray),(l.foldl insS a).length <= a.length + l.length
 | [],_=>Nat.le_refl _
 | y :: r,a=>by
  rw [List.foldl_cons,List.length_cons]
  have h1:=foldl_len r (insS a y)
  have h2:=insS_len a y
  omega
theorem sortU_len (l:List ByteArray):(sortU l).length <= l.length:=by have:=foldl_len l []; simpa [sortU] using this
theorem asc_nodup {l:List ByteArray} (h:Asc l):l.Nodup:=h.imp cs_ne
theorem insS_len_new:∀ {l:List ByteArray} {s:ByteArray},Asc l -> s ∉ l -> (insS l s).length=l.length + 1
 | [],_,_,_=>rfl
 | x :: r,s,h,hn=>by
  unfold insS
  have hr:=insS_len_new (List.pairwise_cons.1 h).2 (fun k=>hn (List.mem_cons_of_mem _ k))
  by_cases h1:cmpS x s < 0
  ·rw [if_pos h1]; simpa using hr
  ·rw [if_neg h1,if_neg (fun e=>hn (by rw [e]; exact List.mem_cons_self ..))]; simp
theorem foldl_len_new:∀ (l a:List ByteArray),Asc a -> l.Nodup -> (∀ x ∈ l,x ∉ a) -> (l.foldl insS a).length=a.length + l.length
 | [],_,_,_,_=>rfl
 | y :: r,a,ha,hl,hd=>by
  have hl':=List.nodup_cons.1 hl
  rw [List.foldl_cons,foldl_len_new r _ (insS_asc ha) hl'.2 (fun x hx k => ?_),insS_len_new ha (hd y (List.mem_cons_self ..)),List.length_cons]
  ·omega
  ·rcases insS_mem.1 k with k | k
   ·exact hd x (List.mem_cons_of_mem _ hx) k
   ·exact hl'.1 (k ▸ hx)
theorem sortU_len_new {l:List ByteArray} (h:l.Nodup):(sortU l).length=l.length:=by
 have:=foldl_len_new l [] List.Pairwise.nil h (fun _ _=>List.not_mem_nil)
 simpa [sortU] using this
/-! ### attributes -/
abbrev At:=ByteArray × List ByteArray
def Hs (l:List At) (n v:ByteArray):Prop := ∃ a ∈ l,a.1=n /\ v ∈ a.2
def Hl (l:List At) (n v:ByteArray):Prop := ∃ a ∈ l,lowS a.1=n /\ v ∈ a.2
structure NF (l:List At):Prop where
 asc:Asc (l.map (·.1))
 low:∀ a ∈ l,lowS a.1=a.1
 vasc:∀ a ∈ l,Asc a.2
 ne:∀ a ∈ l,a.2 ≠ []
def allV (l:List At) (n:ByteArray):List ByteArray:=(l.filter fun a=>decide (lowS a.1=n)).flatMap (·.2)
def vals (l:List At) (n:ByteArray):List ByteArray:=sortU (allV l n)
def names (l:List At):List ByteArray:=sortU ((l.filter fun a => !a.2.isEmpty).map fun a=>lowS a.1)
def nf (l:List At):List At:=(names l).map fun n=>(n,vals l n)
theorem allV_mem {l:List At} {n v:ByteArray}:v ∈ allV l n ↔ Hl l n v:=by
 unfold allV Hl
 simp only [List.mem_flatMap,List.mem_filter,decide_eq_true_eq]
 exact ⟨fun ⟨a,⟨h1,h2⟩,h3⟩=>⟨a,h1,h2,h3⟩,fun ⟨a,h1,h2,h3⟩=>⟨a,⟨h1,h2⟩,h3⟩⟩
theorem vals_mem {l:List At} {n v:ByteArray}:v ∈ vals l n ↔ Hl l n v:=by unfold vals; rw [sortU_mem,allV_mem]
theorem vals_asc (l:List At) (n:ByteArray):Asc (vals l n):=sortU_asc _
theorem names_mem {l:List At} {n:ByteArray}:n ∈ names l ↔ ∃ v,Hl l n v:=by
 unfold names Hl
 rw [sortU_mem,List.mem_map]
 constructor
 ·rintro ⟨a,ha,e⟩
  rw [List.mem_filter] at ha
  cases h:a.2 with
  | nil=>rw [h] at ha; simp at ha
  | cons v r=>exact ⟨v,a,ha.1,e,by rw [h]; exact List.mem_cons_self ..⟩
 ·rintro ⟨v,a,ha,e,hv⟩
  refine ⟨a,List.mem_filter.2 ⟨ha, ?_⟩,e⟩
  cases h:a.2 with
  | nil=>rw [h] at hv; exact absurd hv List.not_mem_nil
  | cons v r=>rfl
theorem names_vals {l:List At} {n:ByteArray}:n ∈ names l ↔ vals l n ≠ []:=by
 rw [names_mem]
 constructor
 ·rintro ⟨v,hv⟩ e
  have:=vals_mem.2 hv
  rw [e] at this
  exact absurd this List.not_mem_nil
 ·intro h
  obtain ⟨v,hv⟩:=List.exists_mem_of_ne_nil _ h
  exact ⟨v,vals_mem.1 hv⟩
theorem nf_names (l:List At):(nf l).map (·.1)=names l:=by unfold nf; rw [List.map_map]; exact List.map_id _
theorem nf_mem {l:List At} {a:At}:a ∈ nf l ↔ a.2=vals l a.1 /\ a.2 ≠ []:=by
 unfold nf
 rw [List.mem_map]
 constructor
 ·rintro ⟨n,hn,rfl⟩; exact ⟨rfl,names_vals.1 hn⟩
 ·rintro ⟨h1,h2⟩
  refine ⟨a.1,names_vals.2 (h1 ▸ h2), ?_⟩
  rw [<- h1]
theorem nf_NF (l:List At):NF (nf l) where
 asc:=by rw [nf_names]; exact sortU_asc _
 low a ha:=by
  obtain ⟨h1,h2⟩:=nf_mem.1 ha
  rw [h1] at h2
  obtain ⟨v,hv⟩:=names_mem.1 (names_vals.2 h2)
  obtain ⟨b,_,e,_⟩:=hv
  rw [<- e,lowS_low]
 vasc a ha:=by rw [(nf_mem.1 ha).1]; exact vals_asc _ _
 ne a ha:=(nf_mem.1 ha).2
theorem hs_nf {l:List At} {n v:ByteArray}:Hs (nf l) n v ↔ Hl l n v:=by
 unfold Hs
 constructor
 ·rintro ⟨a,ha,rfl,hv⟩
  rw [(nf_mem.1 ha).1,vals_mem] at hv
  exact hv
 ·intro h
  have hv:=vals_mem.2 h
  exact ⟨(n,vals l n),nf_mem.2 ⟨rfl,fun e=>by simp only [] at e; rw [e] at hv; exact absurd hv List.not_mem_nil⟩,rfl,hv⟩
theorem hl_low {l:List At} (h:∀ a ∈ l,lowS a.1=a.1) {n v:ByteArray}:Hl l n v ↔ Hs l n v:=
 ⟨fun ⟨a,ha,e,hv⟩=>⟨a,ha,(h a ha).symm.trans e,hv⟩,fun ⟨a,ha,e,hv⟩=>⟨a,ha,(h a ha).trans e,hv⟩⟩
theorem hl_nf {l:List At} {n v:ByteArray}:Hl (nf l) n v ↔ Hl l n v:=(hl_low (nf_NF l).low).trans hs_nf
theorem nf_one {l:List At} (h:Asc (l.map (·.1))) {a b:At} (ha:a ∈ l) (hb:b ∈ l) (e:a.1=b.1):a=b:=by
 unfold Asc at h
 rw [List.pairwise_map] at h
 rcases List.pairwise_iff_getElem.1 h with h'
 obtain ⟨i,hi,rfl⟩:=List.getElem_of_mem ha
 obtain ⟨j,hj,rfl⟩:=List.getElem_of_mem hb
 rcases Nat.lt_trichotomy i j with k | k | k
 ·exact absurd e (cs_ne (h' i j hi hj k))
 ·subst k; rfl
 ·exact absurd e.symm (cs_ne (h' j i hj hi k))
theorem nf_ext {a b:List At} (ha:NF a) (hb:NF b) (h:∀ n v,Hs a n v ↔ Hs b n v):a=b:=by
 have key:∀ {a b:List At},NF a -> NF b -> (∀ n v,Hs a n v ↔ Hs b n v) -> ∀ x ∈ a,x ∈ b:=by
  intro a b ha hb h x hx
  obtain ⟨v,hv⟩:=List.exists_mem_of_ne_nil _ (ha.ne x hx)
  obtain ⟨y,hy,e,_⟩:=(h x.1 v).1 ⟨x,hx,rfl,hv⟩
  have:x.2=y.2:=asc_ext (ha.vasc x hx) (hb.vasc y hy) fun z=>by
   constructor
   ·intro hz
    obtain ⟨y',hy',e',hz'⟩:=(h x.1 z).1 ⟨x,hx,rfl,hz⟩
    rw [nf_one hb.asc hy hy' (e.trans e'.symm)]; exact hz'
   ·intro hz
    obtain ⟨x',hx',e',hz'⟩:=(h x.1 z).2 ⟨y,hy,e,hz⟩
    rw [nf_one ha.asc hx hx' e'.symm]; exact hz'
  rw [show x=y from Prod.ext e.symm this]; exact hy
 have hm:a.map (·.1)=b.map (·.1):=asc_ext ha.asc hb.asc fun n=>by
  rw [List.mem_map,List.mem_map]
  exact ⟨fun ⟨x,hx,e⟩=>⟨x,key ha hb h x hx,e⟩,fun ⟨x,hx,e⟩=>⟨x,key hb ha (fun n v=>(h n v).symm) x hx,e⟩⟩
 have hlen:a.length=b.length:=by simpa using congrArg List.length hm
 apply List.ext_getElem hlen
 intro i h1 h2
 refine nf_one hb.asc (key ha hb h _ (List.getElem_mem h1)) (List.getElem_mem h2) ?_
 have:=congrArg (fun l=>l[i]?) hm
 simpa [List.getElem?_map,List.getElem?_eq_getElem h1,List.getElem?_eq_getElem h2] using this
theorem nf_id {l:List At} (h:NF l):nf l=l:=nf_ext (nf_NF l) h fun n v=>hs_nf.trans (hl_low h.low)
theorem nf_nf (l:List At):nf (nf l)=nf l:=nf_id (nf_NF l)
theorem vals_nf (l:List At) (n:ByteArray):vals (nf l) n=vals l n:=asc_ext (vals_asc _ _) (vals_asc _ _) fun v=>by rw [vals_mem,vals_mem,hl_nf]
end Go.Proofs.YtmmdaegdkikkpaaGreatDoor
end

section
set_option maxRecDepth 100000
namespace Go.Proofs.YtmmdaegdkikkpaaGreatDoor
open Go.ChangeShapes Go.WideShapes Go.ChangeAt Go.RowKit
theorem own:ownKnob Tryz.prog.godebug=none:=by kernel_rfl
theorem laidOut:laidOutB Tryz.prog=true:=by kernel_rfl
theorem trodAll_below {H:Type} {enc:TypeId × Value -> H} {W W':World} (hb:Below W.heap.size W W'):∀ (ts:List TypeId) (vs:List Value) (ds:List (DataW H)) (ps:List MemPlace),
  (∀ t ∈ ts,Tryz.prog.readableRec t=true /\ t < Tryz.prog.types.size) -> DataW.TrodAll enc Tryz.prog W 0 (fun _=>true) true ts vs ds ps -> (∀ x ∈ ps,x.block < W.heap.size) ->
  DataW.TrodAll enc Tryz.prog W' 0 (fun b=>decide (b < W.heap.size)) true ts vs ds ps
 | [],vs,ds,ps,_,h,_=>by
  obtain ⟨rfl,rfl,rfl⟩:=trodAll_nil h
  exact trodAll_mk0
 | t :: ts,vs,ds,ps,hr,h,hl=>by
  obtain ⟨v,vs',d,ds',p,q,rfl,rfl,rfl,h0,r0⟩:=trodAll_cons h
  exact trodAll_cons_mk (Below.trod laidOut (hr t (by simp)).1 (hr t (by simp)).2 h0 hb (fun x hx=>hl x (by simp [hx])))
   (trodAll_below hb ts vs' ds' q (fun t ht=>hr t (by simp [ht])) r0 (fun x hx=>hl x (by simp [hx])))
def StrsAt (w:World) (ao:Option Addr) (n cap:Nat) (ps:List ByteArray):Prop:=
 ps.length=n /\ n <= cap /\ cap <= maxLen /\ (0 < n -> ∃ b off,ao=some ⟨b,off,none⟩ /\ IsStrs w b off ps)
theorem StrsAt.below {w w':World} {ao:Option Addr} {n cap:Nat} {ps:List ByteArray} (h:StrsAt w ao n cap ps) (hb:Below w.heap.size w w'):StrsAt w' ao n cap ps:=
 ⟨h.1,h.2.1,h.2.2.1,fun hn=>by
  obtain ⟨b,off,e,hi⟩:=h.2.2.2 hn
  exact ⟨b,off,e,hi.below hb hi.1⟩⟩
theorem cells_string:Tryz.prog.cellsOf 9=1:=by kernel_rfl
end Go.Proofs.YtmmdaegdkikkpaaGreatDoor
end

section
set_option maxRecDepth 100000
namespace Go.Proofs.YtmmdaegdkikkpaaGreatDoor
open Go.RowKit Go.PlainAid
def scells (l:List ByteArray):List Value:=l.map Value.string
theorem scells_snoc (l:List ByteArray) (p:ByteArray):scells (l ++ [p])=scells l ++ [.string p]:=by simp [scells]
theorem info_string:(Tryz.prog.info? 9).map (fun i=>(i.zero,i.size,i.bytes))=some (some (.string ⟨#[]⟩),1,16):=by kernel_rfl
theorem push_str {ops:Array Oper} {rest:List Oper} {o:Oper} {a:Act} {Q:Exit -> Act -> World -> Prop} (wr:World) {base:Nat} {v:Value} {n:Nat} {xs:List Value} (hown:wr.ownsRow base 9 1 v n xs) (s x:Operand)
  (p:ByteArray) (hgd:o.guard=none)
  (ho:o.op = .call { callee := .builtin .append,args := #[s,x],argTypes := #[55,55] })
  (hs:a.eval s=v) (hx:a.eval x = .slice (some ⟨wr.heap.size,0,none⟩) 1 1) (hn:n + 1 <= 1000000000) (hbase:base <= wr.heap.size)
  (h:∀ v' w',w'.ownsRow base 9 1 v' (n + 1) (xs ++ [.string p]) -> Below base wr w' -> wpList Tryz.prog ops Q rest (a.put o.dst v') w') :
  wpList Tryz.prog ops Q (o :: rest) a (wr.alloc (.cells #[.string p] 9)):=by
 obtain ⟨i0,hi,hz0,hz1,hz2⟩:=info_parts info_string
 refine wpList_append_own _ hgd s x 55 ho base 9 i0 (.string ⟨#[]⟩) 1 16 Tryz.underlying55 hi hz0 hz1 hz2 rfl (by decide) v n xs hs (hown.alloc _) ⟨wr.heap.size,0,none⟩ 1 1 [.string p] hx rfl
  (cell_one_new _ _ _) (by intro u hu; simp at hu; subst hu; rfl) (by unfold maxLen; omega) (by omega) (by simp; omega) ?_
 intro v' w' h1 h2 _
 refine h v' w' h1 ?_
 exact ((Below.refl base wr).alloc hbase _).grown h2 (by simp; omega) (fun k hk=>(hown.lt k hk).1)
theorem own_below {w w':World} {base:Nat} {e:TypeId} {size:Nat} {v:Value} {n:Nat} {xs:List Value} (h:w.ownsRow base e size v n xs) (hb:Below w.heap.size w w'):w'.ownsRow base e size v n xs:=
 h.kept (row:=none) ⟨hb.os,hb.tape,hb.output,hb.size,fun k hk _=>hb.block k hk⟩ (by
  cases h:v.ownBlock
  ·exact .inl rfl
  ·exact .inr (by simp))
theorem strs_own {w:World} {base n:Nat} {v:Value} {l:List ByteArray} (h:w.ownsRow base 9 1 v n (scells l)) (hn:l.length=n):∃ ao cap,v = .slice ao n cap /\ StrsAt w ao n cap l:=by
 have h0:=h
 rcases h.2 with ⟨rfl,rfl⟩ | ⟨g,cap,cur,rfl,hb,hg,hc,hm,hcs,ht⟩
 ·exact ⟨none,0,rfl,hn,Nat.le_refl _,by unfold maxLen; omega,fun h=>absurd h (Nat.lt_irrefl _)⟩
 ·refine ⟨_,cap,rfl,hn,hc,hm,fun h1=>⟨g,0,rfl, ?_,fun j hj => ?_⟩⟩
  ·rcases Nat.lt_or_ge g w.heap.size with h' | h'
   ·exact h'
   ·simp [Array.getElem?_eq_none h'] at hg
  ·have:=h0.cells (g:=g) rfl j (.string (partAt l j)) (by
    unfold scells partAt
    rw [List.getElem?_map,List.getD_eq_getElem?_getD,List.getElem?_eq_getElem hj]; rfl)
   rw [Go.WideShapes.add_plain] at this
   exact this
def FreshA (B:Nat) (bo:Option Addr):Prop := ∀ b off,bo=some ⟨b,off,none⟩ -> B <= b
theorem StrsAt.keep {w w':World} {ao:Option Addr} {n cap:Nat} {ps:List ByteArray} (h:StrsAt w ao n cap ps) (hs:w.heap.size <= w'.heap.size) (hk:∀ b off,ao=some ⟨b,off,none⟩ -> b < w.heap.size -> w'.heap[b]? = w.heap[b]?):StrsAt w' ao n cap ps:=
 ⟨h.1,h.2.1,h.2.2.1,fun hn=>by
  obtain ⟨b,off,e,hi⟩:=h.2.2.2 hn
  refine ⟨b,off,e,Nat.lt_of_lt_of_le hi.1 hs,fun j hj => ?_⟩
  rw [<- hi.2 j hj]
  exact World.cell?_of_block (a:=⟨b,off + j,none⟩) (hk b off e hi.1)⟩
theorem StrsAt.at {w:World} {ao:Option Addr} {n cap:Nat} {ps:List ByteArray} (h:StrsAt w ao n cap ps) (hn:0 < n):∃ b off,ao=some ⟨b,off,none⟩ /\ b < w.heap.size /\
  ∀ w',Below w.heap.size w w' -> ∀ j,j < n -> w'.cell? ⟨b,off + j,none⟩=some (.string (partAt ps j)):=by
 obtain ⟨b,off,e,hi⟩:=h.2.2.2 hn
 exact ⟨b,off,e,hi.1,fun w' hb j hj=>(hi.below hb hi.1).2 j (by rw [h.1]; exact hj)⟩
theorem StrsAt.drop {w:World} {b off n cap:Nat} {p:ByteArray} {r:List ByteArray} (h:StrsAt w (some ⟨b,off,none⟩) n cap (p :: r)):StrsAt w (some ⟨b,off + 1,none⟩) (n - 1) (cap - 1) r:=by
 obtain ⟨h1,h2,h3,h4⟩:=h
 have hl:r.length + 1=n:=h1
 refine ⟨by omega,by omega,by omega,fun hn => ?_⟩
 obtain ⟨b',off',e,hi⟩:=h4 (by omega)
 cases e
 refine ⟨b,off + 1,rfl,hi.1,fun j hj => ?_⟩
 have:=hi.2 (j + 1) (by simpa using hj)
 rw [show off + 1 + j=off + (j + 1) by omega]
 exact this
theorem strs_ext {ps qs:List ByteArray} (h:ps.length=qs.length) (k:∀ j,j < ps.length -> partAt ps j=partAt qs j):ps=qs:=by
 apply List.ext_getElem h
 intro i h1 h2
 have:=k i h1
 unfold partAt at this
 rwa [List.getD_eq_getElem?_getD,List.getD_eq_getElem?_getD,List.getElem?_eq_getElem h1,List.getElem?_eq_getElem h2] at this
theorem str_eq (a b:ByteArray):(a.toList == b.toList)=decide (a=b):=by
 rw [Lib.toList_data,Lib.toList_data,Bool.eq_iff_iff,beq_iff_eq,decide_eq_true_eq]
 exact ⟨fun h=>by rw [<- Lib.mk_data a, <- Lib.mk_data b,h],fun h=>by rw [h]⟩
def memB (l:List ByteArray) (s:ByteArray):Bool:=l.any fun x=>decide (x=s)
theorem memB_iff {l:List ByteArray} {s:ByteArray}:memB l s=true ↔ s ∈ l:=by
 unfold memB
 rw [List.any_eq_true]
 exact ⟨fun ⟨x,h,e⟩=>by rw [<- of_decide_eq_true e]; exact h,fun h=>⟨s,h,decide_eq_true rfl⟩⟩
/-! ### Insert -/
theorem take_snoc (l:List ByteArray) (k:Nat) (h:k < l.length):l.take (k + 1)=l.take k ++ [partAt l k]:=by
 unfold partAt
 rw [List.take_succ_eq_append_getElem h,List.getD_eq_getElem?_getD,List.getElem?_eq_getElem h]; rfl
theorem part_mem (l:List ByteArray) (k:Nat) (h:k < l.length):partAt l k ∈ l:=by
 unfold partAt
 rw [List.getD_eq_getElem?_getD,List.getElem?_eq_getElem h]; exact List.getElem_mem h
end Go.Proofs.YtmmdaegdkikkpaaGreatDoor
end

section
set_option maxRecDepth 100000
namespace Go.Proofs.YtmmdaegdkikkpaaGreatDoor
open Go.ChangeShapes Go.WideShapes Go.ChangeAt Go.RowKit
def atD (l:List At) (j:Nat):At:=l.getD j (⟨#[]⟩,[])
theorem at_get (l:List At) (j:Nat) (h:j < l.length):atD l j=l[j]:=by
 unfold atD; rw [List.getD_eq_getElem?_getD,List.getElem?_eq_getElem h]; rfl
theorem at_mem (l:List At) (j:Nat) (h:j < l.length):atD l j ∈ l:=by rw [at_get l j h]; exact List.getElem_mem h
theorem at_take (l:List At) (k:Nat) (h:k < l.length):l.take (k + 1)=l.take k ++ [atD l k]:=by
 rw [at_get l k h]; exact List.take_succ_eq_append_getElem h
def AttAt (w:World) (b off:Nat) (a:At):Prop:=
 w.cell? ⟨b,off,none⟩=some (.string a.1) /\ ∃ vo vn vc,w.cell? ⟨b,off + 1,none⟩=some (.slice vo vn vc) /\ StrsAt w vo vn vc a.2
theorem AttAt.below {w w':World} {b off:Nat} {a:At} (h:AttAt w b off a) (hb:Below w.heap.size w w'):AttAt w' b off a:=by
 obtain ⟨h0,vo,vn,vc,h1,h2⟩:=h
 exact ⟨cell_later hb h0,vo,vn,vc,cell_later hb h1,h2.below hb⟩
def AttrsAt (w:World) (ao:Option Addr) (n cap:Nat) (l:List At):Prop:=
 l.length=n /\ n <= cap /\ cap <= maxLen /\ (0 < n -> ∃ b off,ao=some ⟨b,off,none⟩ /\ b < w.heap.size /\ ∀ j,j < n -> AttAt w b (off + j * 2) (atD l j))
theorem AttrsAt.below {w w':World} {ao:Option Addr} {n cap:Nat} {l:List At} (h:AttrsAt w ao n cap l) (hb:Below w.heap.size w w'):AttrsAt w' ao n cap l:=
 ⟨h.1,h.2.1,h.2.2.1,fun hn=>by
  obtain ⟨b,off,e,hi,ha⟩:=h.2.2.2 hn
  exact ⟨b,off,e,Nat.lt_of_lt_of_le hi hb.size,fun j hj=>(ha j hj).below hb⟩⟩
theorem cells_attr:Tryz.prog.cellsOf 58=2:=by kernel_rfl
end Go.Proofs.YtmmdaegdkikkpaaGreatDoor
end

section
set_option maxRecDepth 100000
namespace Go.Proofs.YtmmdaegdkikkpaaGreatDoor
open Go.RowKit Go.PlainAid
def SmallS (l:List ByteArray):Prop := ∀ v ∈ l,v.size <= 1100000
def SmallA (l:List At):Prop := ∀ a ∈ l,a.1.size <= 1100000 /\ SmallS a.2
def twiceB (l:List At) (i:Nat):Bool:=(l.take i).any fun a=>decide (lowS a.1=lowS (atD l i).1)
theorem twice_true {l:List At} {i k:Nat} (hi:i < l.length) (hk:k < i) (h:lowS (atD l k).1=lowS (atD l i).1):twiceB l i=true:=by
 unfold twiceB
 rw [List.any_eq_true]
 refine ⟨atD l k, ?_,decide_eq_true h⟩
 rw [at_get l k (by omega)]
 exact List.mem_take_iff_getElem.2 ⟨k,by omega,rfl⟩
theorem twice_false {l:List At} {i:Nat} (hi:i < l.length) (h:∀ k,k < i -> lowS (atD l k).1 ≠ lowS (atD l i).1):twiceB l i=false:=by
 rw [Bool.eq_false_iff]
 intro e
 unfold twiceB at e
 rw [List.any_eq_true] at e
 obtain ⟨a,ha,e⟩:=e
 obtain ⟨k,hk,rfl⟩:=List.mem_take_iff_getElem.1 ha
 refine h k (by omega) ?_
 rw [at_get l k (by omega)]
 exact of_decide_eq_true e
def firstE (f:Nat -> Int):Nat -> Int
 | 0=>0
 | n + 1=>if firstE f n=0 then f n else firstE f n
theorem firstE_zero {f:Nat -> Int}:∀ {n:Nat},(∀ j,j < n -> f j=0) -> firstE f n=0
 | 0,_=>rfl
 | n + 1,h=>by
  unfold firstE
  rw [if_pos (firstE_zero fun j hj=>h j (by omega))]
  exact h n (by omega)
theorem firstE_hit {f:Nat -> Int} {k:Nat} (h:∀ j,j < k -> f j=0) (hk:f k ≠ 0):∀ {n:Nat},k < n -> firstE f n=f k
 | 0,hn=>absurd hn (Nat.not_lt_zero _)
 | n + 1,hn=>by
  unfold firstE
  by_cases e:k=n
  ·subst e; rw [if_pos (firstE_zero h)]
  ·have:=firstE_hit h hk (n:=n) (by omega)
   rw [if_neg (by rw [this]; exact hk)]; exact this
def errV (vs old:List ByteArray) (j:Nat):Int:=if cleanB (partAt vs j)=false then 4 else if memB old (partAt vs j)=true ∨ memB (vs.take j) (partAt vs j)=true then 7 else 0
def chkV (vs old:List ByteArray):Int:=firstE (errV vs old) vs.length
theorem StrsAt.cut {w:World} {ao:Option Addr} {n cap:Nat} {ps:List ByteArray} (h:StrsAt w ao n cap ps) (i:Nat) (hi:i <= n):StrsAt w ao i cap (ps.take i):=by
 obtain ⟨h1,h2,h3,h4⟩:=h
 refine ⟨by rw [List.length_take]; omega,by omega,h3,fun hn => ?_⟩
 obtain ⟨b,off,e,hb,hs⟩:=h4 (by omega)
 refine ⟨b,off,e,hb,fun j hj => ?_⟩
 rw [List.length_take] at hj
 rw [hs j (by omega)]
 unfold partAt
 rw [List.getD_eq_getElem?_getD,List.getD_eq_getElem?_getD,List.getElem?_take,if_pos (by omega)]
end Go.Proofs.YtmmdaegdkikkpaaGreatDoor
end

section
set_option maxRecDepth 100000
namespace Go.Proofs.YtmmdaegdkikkpaaGreatDoor
open Go.ChangeShapes Go.WideShapes Go.ChangeAt Go.RowKit Go.PlainAid
theorem str_len (s:ByteArray):s.data.toList.length=s.size:=by rw [Array.length_toList]; rfl
theorem choose_attrsR {w:World} {b off len:Nat} {Q:At -> Prop} (h:∀ i,i < len -> ∃ a:At,AttAt w b (off + i * 2) a /\ Q a):∃ l:List At,l.length=len /\ (∀ i,i < len -> AttAt w b (off + i * 2) (atD l i)) /\ ∀ a ∈ l,Q a:=by
 induction len with
 | zero=>exact ⟨[],rfl,fun i hi=>absurd hi (Nat.not_lt_zero _),fun a ha=>(List.not_mem_nil ha).elim⟩
 | succ n ih =>
  obtain ⟨l,hl,hp,hq⟩:=ih (fun i hi=>h i (by omega))
  obtain ⟨a,ha,hqa⟩:=h n (by omega)
  refine ⟨l ++ [a],by simp [hl],fun i hi => ?_,fun x hx=>(List.mem_append.1 hx).elim (hq x) fun k=>by rw [List.mem_singleton.1 k]; exact hqa⟩
  by_cases e:i=n
  ·subst e
   have e2:atD (l ++ [a]) i=a:=by
    unfold atD
    rw [List.getD_eq_getElem?_getD,List.getElem?_append_right (by omega),hl]; simp
   rw [e2]; exact ha
  ·have e2:atD (l ++ [a]) i=atD l i:=by
    unfold atD
    rw [List.getD_eq_getElem?_getD,List.getD_eq_getElem?_getD,List.getElem?_append_left (by omega)]
   rw [e2]; exact hp i (by omega)
end Go.Proofs.YtmmdaegdkikkpaaGreatDoor
end

section
set_option maxRecDepth 100000
namespace Go.Proofs
open Go.Shelf
def Tryz.keys_ren:Go.Shelf.Ren:=⟨fun | 7=>92 | 10=>156 | n=>n,fun | 23=>112 | 26=>9 | 3=>55 | 28=>118 | 0=>0 | 27=>117 | 33=>52 | 4=>4 | n=>n,fun | n=>n⟩
theorem Tryz.keys:Go.Proofs.SlLaysZ.n7 Tryz.prog Tryz.keys_ren:={
 mixed:=by kernel_rfl
 f7:=⟨Tryz.f92.name,by decide,Tryz.func92.trans (congrArg some (by kernel_rfl))⟩
 f10:=⟨Tryz.f156.name,by decide,Tryz.func156.trans (congrArg some (by kernel_rfl))⟩
 t0:=Tryz.underlying0
 a0:=Tryz.isAgg0
 z0:=Tryz.sizeOf0
 v0:=Tryz.zeroValue0
 t4:=Tryz.underlying4
 a4:=Tryz.isAgg4
 z4:=Tryz.sizeOf4
 v4:=Tryz.zeroValue4
 t23:=Tryz.underlying112
 a23:=Tryz.isAgg112
 z23:=Tryz.sizeOf112
 v23:=Tryz.zeroValue112
 t26:=Tryz.underlying9
 a26:=Tryz.isAgg9
 z26:=Tryz.sizeOf9
 v26:=Tryz.zeroValue9
 t27:=Tryz.underlying117
 a27:=Tryz.isAgg117
 z27:=Tryz.sizeOf117
 v27:=Tryz.zeroValue117
 t28:=Tryz.underlying118
 a28:=Tryz.isAgg118
 z28:=Tryz.sizeOf118
 v28:=Tryz.zeroValue118
 t33:=Tryz.underlying52
 a33:=Tryz.isAgg52
 z33:=Tryz.sizeOf52
 v33:=Tryz.zeroValue52 }
def Tryz.sorted_ren:Go.Shelf.Ren:=⟨fun | 6=>91 | 8=>155 | 9=>78 | 11=>227 | 13=>134 | 12=>133 | 23=>210 | 24=>211 | 14=>201 | 15=>202 | 16=>203 | 17=>204 | 18=>205 | 19=>206 | 20=>207 | 21=>208 | 22=>209 | 25=>254 | 26=>255 | 27=>256 | 28=>257 | 29=>258 | 30=>259 | 31=>283 | n=>n,fun | 26=>9 | 28=>118 | 24=>55 | 0=>0 | 3=>3 | 37=>158 | 48=>206 | 50=>208 | 4=>4 | 40=>199 | 39=>198 | 45=>203 | 5=>5 | 9=>9 | 51=>226 | 55=>230 | 57=>246 | 58=>247 | 33=>52 | n=>n,fun | n=>n⟩
theorem Tryz.sorted:Go.Proofs.SlLaysZ.n6 Tryz.prog Tryz.sorted_ren:={
 mixed:=by kernel_rfl
 f6:=⟨Tryz.f91.name,by decide,Tryz.func91.trans (congrArg some (by kernel_rfl))⟩
 f8:=⟨Tryz.f155.name,by decide,Tryz.func155.trans (congrArg some (by kernel_rfl))⟩
 f11:=⟨Tryz.f227.name,by decide,Tryz.func227.trans (congrArg some (by kernel_rfl))⟩
 t0:=Tryz.underlying0
 a0:=Tryz.isAgg0
 z0:=Tryz.sizeOf0
 v0:=Tryz.zeroValue0
 t24:=Tryz.underlying55
 a24:=Tryz.isAgg55
 z24:=Tryz.sizeOf55
 v24:=Tryz.zeroValue55
 t26:=Tryz.underlying9
 a26:=Tryz.isAgg9
 z26:=Tryz.sizeOf9
 v26:=Tryz.zeroValue9
 t28:=Tryz.underlying118
 a28:=Tryz.isAgg118
 z28:=Tryz.sizeOf118
 v28:=Tryz.zeroValue118
 i26:=by kernel_rfl }
def Tryz.sort_ren:Go.Shelf.Ren:=⟨fun | 6=>78 | 8=>134 | 9=>133 | 19=>210 | 20=>211 | 21=>201 | 22=>202 | 23=>203 | 24=>204 | 25=>205 | 26=>206 | 27=>207 | 28=>208 | 29=>209 | 36=>254 | 31=>255 | 32=>256 | 37=>257 | 38=>258 | 39=>259 | 41=>283 | n=>n,fun | 27=>55 | 29=>9 | 3=>3 | 32=>158 | 26=>55 | 0=>0 | 44=>206 | 46=>208 | 4=>4 | 36=>199 | 35=>198 | 41=>203 | 5=>5 | 9=>9 | 53=>226 | 57=>230 | 63=>246 | 64=>247 | n=>n,fun | n=>n⟩
theorem Tryz.sort:Go.Proofs.SlLaysM.n6 Tryz.prog Tryz.sort_ren:={
 mixed:=by kernel_rfl
 f6:=⟨Tryz.f78.name,by decide,Tryz.func78.trans (congrArg some (by kernel_rfl))⟩
 f8:=Tryz.func134.trans (congrArg some (by kernel_rfl))
 f9:=⟨Tryz.f133.name,by decide,Tryz.func133.trans (congrArg some (by kernel_rfl))⟩
 f19:=Tryz.func210.trans (congrArg some (by kernel_rfl))
 f20:=Tryz.func211.trans (congrArg some (by kernel_rfl))
 f21:=⟨Tryz.f201.name,by decide,Tryz.func201.trans (congrArg some (by kernel_rfl))⟩
 f22:=⟨Tryz.f202.name,by decide,Tryz.func202.trans (congrArg some (by kernel_rfl))⟩
 f23:=⟨Tryz.f203.name,by decide,Tryz.func203.trans (congrArg some (by kernel_rfl))⟩
 f24:=⟨Tryz.f204.name,by decide,Tryz.func204.trans (congrArg some (by kernel_rfl))⟩
 f25:=⟨Tryz.f205.name,by decide,Tryz.func205.trans (congrArg some (by kernel_rfl))⟩
 f26:=⟨Tryz.f206.name,by decide,Tryz.func206.trans (congrArg some (by kernel_rfl))⟩
 f27:=⟨Tryz.f207.name,by decide,Tryz.func207.trans (congrArg some (by kernel_rfl))⟩
 f28:=⟨Tryz.f208.name,by decide,Tryz.func208.trans (congrArg some (by kernel_rfl))⟩
 f29:=⟨Tryz.f209.name,by decide,Tryz.func209.trans (congrArg some (by kernel_rfl))⟩
 f31:=Tryz.func255.trans (congrArg some (by kernel_rfl))
 f32:=Tryz.func256.trans (congrArg some (by kernel_rfl))
 f36:=⟨Tryz.f254.name,by decide,Tryz.func254.trans (congrArg some (by kernel_rfl))⟩
 f37:=⟨Tryz.f257.name,by decide,Tryz.func257.trans (congrArg some (by kernel_rfl))⟩
 f38:=⟨Tryz.f258.name,by decide,Tryz.func258.trans (congrArg some (by kernel_rfl))⟩
 f39:=⟨Tryz.f259.name,by decide,Tryz.func259.trans (congrArg some (by kernel_rfl))⟩
 f41:=⟨Tryz.f283.name,by decide,Tryz.func283.trans (congrArg some (by kernel_rfl))⟩
 t0:=Tryz.underlying0
 a0:=Tryz.isAgg0
 z0:=Tryz.sizeOf0
 v0:=Tryz.zeroValue0
 t3:=Tryz.underlying3
 a3:=Tryz.isAgg3
 z3:=Tryz.sizeOf3
 v3:=Tryz.zeroValue3
 t4:=Tryz.underlying4
 a4:=Tryz.isAgg4
 z4:=Tryz.sizeOf4
 v4:=Tryz.zeroValue4
 t5:=Tryz.underlying5
 a5:=Tryz.isAgg5
 z5:=Tryz.sizeOf5
 v5:=Tryz.zeroValue5
 t9:=Tryz.underlying9
 a9:=Tryz.isAgg9
 z9:=Tryz.sizeOf9
 v9:=Tryz.zeroValue9
 t26:=Tryz.underlying55
 a26:=Tryz.isAgg55
 z26:=Tryz.sizeOf55
 v26:=Tryz.zeroValue55
 t27:=Tryz.underlying55
 a27:=Tryz.isAgg55
 z27:=Tryz.sizeOf55
 v27:=Tryz.zeroValue55
 t29:=Tryz.underlying9
 a29:=Tryz.isAgg9
 z29:=Tryz.sizeOf9
 v29:=Tryz.zeroValue9
 t32:=Tryz.underlying158
 a32:=Tryz.isAgg158
 z32:=Tryz.sizeOf158
 v32:=Tryz.zeroValue158
 t35:=Tryz.underlying198
 a35:=Tryz.isAgg198
 z35:=Tryz.sizeOf198
 v35:=Tryz.zeroValue198
 t36:=Tryz.underlying199
 a36:=Tryz.isAgg199
 z36:=Tryz.sizeOf199
 v36:=Tryz.zeroValue199
 t41:=Tryz.underlying203
 a41:=Tryz.isAgg203
 z41:=Tryz.sizeOf203
 v41:=Tryz.zeroValue203
 t44:=Tryz.underlying206
 a44:=Tryz.isAgg206
 z44:=Tryz.sizeOf206
 v44:=Tryz.zeroValue206
 t46:=Tryz.underlying208
 a46:=Tryz.isAgg208
 z46:=Tryz.sizeOf208
 v46:=Tryz.zeroValue208
 t53:=Tryz.underlying226
 a53:=Tryz.isAgg226
 z53:=Tryz.sizeOf226
 v53:=Tryz.zeroValue226
 t57:=Tryz.underlying230
 a57:=Tryz.isAgg230
 z57:=Tryz.sizeOf230
 v57:=Tryz.zeroValue230
 t63:=Tryz.underlying246
 a63:=Tryz.isAgg246
 z63:=Tryz.sizeOf246
 v63:=Tryz.zeroValue246
 t64:=Tryz.underlying247
 a64:=Tryz.isAgg247
 z64:=Tryz.sizeOf247
 v64:=Tryz.zeroValue247 }
end Go.Proofs
end

section
set_option maxRecDepth 100000
namespace Go.Proofs.YtmmdaegdkikkpaaGreatDoor
open Go.RowKit Go.PlainAid Go.Maps Go.Sort Go.Shelf
theorem sorts_in (m:Nat):AnyZ.SortsIn Tryz.prog Tryz.sorted_ren Fence.wide m:=
  ⟨fun blk off cap ss W hH hblk hsz=>callsIn_wide.2 (AnyM.slices_Sort_string Tryz.sort blk off cap ss W hH hblk hsz),
   fun p cap W=>callsIn_wide.2 (AnyM.slices_Sort_string_none Tryz.sort p cap W)⟩
theorem keys_s (mb:Option Nat) (W:World) :
    Calls Tryz.prog 92 #[.map mb] W fun e w' =>
      e = .returned (.func (.func 156) #[] #[.pointer (some ⟨W.heap.size,0,none⟩)]) /\ w'=W.alloc (.cells #[.map mb] 112):=
  (callsIn_wide (n:=5)).1 (AnyZ.keys_in Tryz.keys Fence.wide 5 trivial rfl mb W)
set_option maxHeartbeats 1000000 in
theorem sorted_keys {H:Type} (b nn:Nat) (D0:DataW H) (R:Value -> Option (DataW H × List MemPlace)) (w:World) (hown:w.ownsMap Tryz.prog 9 R b nn D0) (hmax:Maps.size D0 <= 1100000) :
    Calls Tryz.prog 91 #[.func (.func 156) #[] #[.pointer (some ⟨w.heap.size,0,none⟩)]] (w.alloc (.cells #[.map (some b)] 112)) fun e w' =>
      ∃ (v:Value) (ss:List (List UInt8)),e = .returned v /\ ss.Perm (strKeys D0) /\
      w'.ownsRow (w.heap.size + 1) 9 1 v ss.length (scells ((ss.mergeSort (fun x y=>decide (x <= y))).map fun x=>⟨x.toArray⟩)) /\ Below (w.heap.size + 1) (w.alloc (.cells #[.map (some b)] 112)) w':=by
  have hbl:=hown.lt
  have hseq:SeqGives Fence.wide 2 Tryz.prog 156 #[.pointer (some ⟨w.heap.size,0,none⟩)] encStr (fun ss=>ss.Perm (strKeys D0)) (Maps.size D0) (w.alloc (.cells #[.map (some b)] 112)):=
    AnyZ.keys_gives (ρ:=Tryz.keys_ren) { Tryz.keys with } Fence.wide _ trivial rfl (by omega) w.heap.size b nn D0 _ (by simp) (by simp) (by
      obtain ⟨es,clock,hb,Ft,hs,hD⟩:=hown
      exact ⟨es,clock,(Below.heap_alloc _ _ b hbl).trans hb,Ft,hs,hD⟩)
  refine ((callsIn_wide (n:=5)).1 (AnyZ.sorted_in Tryz.sorted Fence.wide 5 trivial trivial trivial trivial rfl (by omega) (sorts_in _) (enters_of Tryz.func78 (by kernel_rfl) rfl) 156 #[.pointer (some ⟨w.heap.size,0,none⟩)] trivial
    (enters_of Tryz.func156 (by kernel_rfl) rfl) _ _ (by unfold maxLen; omega) (by omega) _ hseq)).mono ?_
  rintro e w' ⟨v,ss,he,hS,hrow,hnil,hb⟩
  rw [World.size_alloc] at hrow hb
  refine ⟨v,ss,he,hS, ?_,hb⟩
  have e1:scells ((ss.mergeSort (fun x y=>decide (x <= y))).map fun x=>⟨x.toArray⟩)=(ss.mergeSort (fun x y=>decide (x <= y))).map encStr:=by
    unfold scells; rw [List.map_map]; rfl
  rw [e1]; exact hrow
end Go.Proofs.YtmmdaegdkikkpaaGreatDoor
end

section
set_option maxRecDepth 100000
namespace Go.Proofs.YtmmdaegdkikkpaaGreatDoor
open Go.RowKit Go.PlainAid Go.Maps
variable {H:Type}
def hdrE (v:Value):Option (DataW H × List MemPlace):=
 match v with
 | .slice none 0 0=>some (.nil,[])
 | .slice (some ⟨g,0,none⟩) n c=>some (.agg [.lit (.int .i64 g), .lit (.int .i64 n), .lit (.int .i64 c)],[])
 | _=>none
theorem hdrE_nil:hdrE (H:=H) (.slice none 0 0)=some (.nil,[]):=rfl
theorem hdrE_some (g n c:Nat):hdrE (H:=H) (.slice (some ⟨g,0,none⟩) n c)=some (.agg [.lit (.int .i64 g), .lit (.int .i64 n), .lit (.int .i64 c)],[]):=rfl
theorem hdrE_one {u v:Value} {d:DataW H} {ps qs:List MemPlace} (h:hdrE u=some (d,ps)) (k:hdrE v=some (d,qs)):u=v:=by
 unfold hdrE at h k
 split at h <;> split at k <;> simp only [Option.some.injEq,Prod.mk.injEq,reduceCtorEq] at h k
 ·rfl
 ·obtain ⟨rfl,_⟩:=h; simp at k
 ·obtain ⟨rfl,_⟩:=h; simp at k
 ·obtain ⟨rfl,_⟩:=h
  simp only [DataW.agg.injEq,List.cons.injEq,DataW.lit.injEq,Lit.int.injEq,Int.ofNat.injEq,and_true,true_and,Int.ofNat_inj] at k
  obtain ⟨⟨h1,h2,h3⟩,_⟩:=k
  subst h1; subst h2; subst h3; rfl
theorem lt_cmp:∀ a b:List UInt8,a < b ↔ Lib.compareBytes a b < 0
 | [],[]=>by simp [Lib.compareBytes]
 | [],_ :: _=>by simp [Lib.compareBytes]
 | _ :: _,[]=>by simp [Lib.compareBytes]
 | x :: a,y :: b=>by
  rw [List.cons_lt_cons_iff,lt_cmp a b]
  show _ ↔ (if x < y then (-1:Int) else if y < x then 1 else Lib.compareBytes a b) < 0
  by_cases h:x < y
  ·simp [h]
  ·by_cases g:y < x
   ·have hne:¬ x=y:=fun e=>by subst e; exact h g
    simp [h,g,hne]
   ·have he:x=y:=by
     have h1:¬ x.toNat < y.toNat:=fun k=>h (UInt8.lt_iff_toNat_lt.2 k)
     have h2:¬ y.toNat < x.toNat:=fun k=>g (UInt8.lt_iff_toNat_lt.2 k)
     exact UInt8.toNat_inj.1 (by omega)
    simp [h,g,he]
theorem sort_keys {ss:List (List UInt8)} {ks:List ByteArray} (hn:ss.Nodup) (h:∀ x:ByteArray,x.data.toList ∈ ss ↔ x ∈ ks) :
  (ss.mergeSort (fun x y=>decide (x <= y))).map (fun x=>(⟨x.toArray⟩:ByteArray))=sortU ks:=by
 have hs:=List.pairwise_mergeSort (le:=fun (x y:List UInt8)=>decide (x <= y)) (fun a b c h1 h2=>decide_eq_true (List.le_trans (of_decide_eq_true h1) (of_decide_eq_true h2))) (fun a b=>by
  rcases List.le_total a b with k | k
  ·simp [k]
  ·simp [k]) ss
 have hp:=List.mergeSort_perm ss (fun x y=>decide (x <= y))
 refine asc_ext ?_ (sortU_asc ks) fun x => ?_
 ·unfold Asc
  rw [List.pairwise_map]
  have hd:=hp.symm.nodup hn
  refine (hs.and hd).imp fun {a b} k => ?_
  have k1:¬ b < a:=List.not_lt.2 (of_decide_eq_true k.1)
  rw [lt_cmp] at k1
  rcases cs_tri ⟨a.toArray⟩ ⟨b.toArray⟩ with j | j | j
  ·exact j
  ·exact absurd (by simpa using congrArg (fun s:ByteArray=>s.data.toList) j) k.2
  ·exact absurd (by simpa [cmpS] using j) k1
 ·rw [sortU_mem, <- h x,List.mem_map]
  constructor
  ·rintro ⟨y,hy,rfl⟩
   exact hp.mem_iff.1 (by simpa using hy)
  ·intro hx
   exact ⟨x.data.toList,hp.mem_iff.2 hx,by simp⟩
end Go.Proofs.YtmmdaegdkikkpaaGreatDoor
end

section
set_option maxRecDepth 100000
namespace Go.Proofs.YtmmdaegdkikkpaaGreatDoor
open Go.RowKit Go.PlainAid Go.Maps Go.ChangeMaps
variable {H:Type}
def klit (k:ByteArray):Lit := .string k.data.toList
theorem klit_one {a b:ByteArray} (h:klit a=klit b):a=b:=by
 unfold klit at h
 injection h with h
 exact ba_ext h
theorem klit_key (k:ByteArray) (h:k.size <= maxLen):keyOf Tryz.prog 9 (.string k)=some (klit k):=by
 simp [keyOf,Tryz.underlying9,mapKey,klit,h]
theorem hdr_own {w:World} {base n:Nat} {v:Value} {xs:List Value} (h:w.ownsRow base 9 1 v n xs):∃ d,hdrE (H:=H) v=some (d,[]):=by
 rcases h.2 with ⟨rfl,_⟩ | ⟨g,cap,cur,rfl,_⟩
 ·exact ⟨_,hdrE_nil⟩
 ·exact ⟨_,hdrE_some _ _ _⟩
def setK {α:Type} (f:ByteArray -> α) (k:ByteArray) (x:α) (j:ByteArray):α:=if j.data.toList=k.data.toList then x else f j
theorem setK_same {α:Type} (f:ByteArray -> α) (k:ByteArray) (x:α):setK f k x k=x:=if_pos rfl
theorem setK_other {α:Type} (f:ByteArray -> α) {k j:ByteArray} (x:α) (h:j ≠ k):setK f k x j=f j:=if_neg fun e=>h (ba_ext e)
structure Groups (w:World) (base b n:Nat) (D:DataW H) (gv:ByteArray -> List ByteArray) (hv:ByteArray -> Value):Prop where
 map:w.ownsMap Tryz.prog 9 hdrE b n D
 low:b < base
 reads:∀ k,hdrE (H:=H) (hv k)=some (D.atKey (klit k) .nil,[])
 own:∀ k,w.ownsRow base 9 1 (hv k) (gv k).length (scells (gv k))
 apart:∀ k k',k ≠ k' -> (hv k).ownBlock=none ∨ (hv k).ownBlock ≠ (hv k').ownBlock
theorem groups_made (w:World):Groups (H:=H) (w.alloc (.map #[] 0)) (w.heap.size + 1) w.heap.size 0 (.map []) (fun _=>[]) (fun _ => .slice none 0 0) where
 map:=World.ownsMap_made w _ _ _
 low:=Nat.lt_succ_self _
 reads k:=hdrE_nil
 own k:=World.ownsRow_nil _ _ _ _
 apart _ _ _ := .inl rfl
theorem Groups.look {w:World} {base b n:Nat} {D:DataW H} {gv:ByteArray -> List ByteArray} {hv:ByteArray -> Value} (G:Groups w base b n D gv hv) (k:ByteArray) (hk:k.size <= maxLen) :
  (Instr.lookup 112 (.map (some b)) (.string k) false).run Tryz.prog w = .ok (hv k) w:=by
 obtain ⟨v,ps,hrun,hv'⟩:=G.map.lookup (t:=112) (e:=55) (string_keyed Tryz.underlying9) Tryz.underlying112 (z := .slice none 0 0) (Tryz.zeroValue55 _) hdrE_nil (klit_key k hk)
 rw [hrun,hdrE_one hv' (G.reads k)]
theorem Groups.store {w w1:World} {base b n:Nat} {D:DataW H} {gv:ByteArray -> List ByteArray} {hv:ByteArray -> Value} (G:Groups w base b n D gv hv) (k:ByteArray) (hk:k.size <= maxLen) (hn:n < maxLen) {v':Value} {vs:List ByteArray}
  (hg:w.grownBy w1 (hv k).ownBlock) (hown:w1.ownsRow base 9 1 v' vs.length (scells vs)) (hl:v'.ownBlock=(hv k).ownBlock ∨ ∃ g,v'.ownBlock=some g /\ w.heap.size <= g) :
  ∃ w2 d,(Instr.mapUpdate 112 (.map (some b)) (.string k) v').run Tryz.prog w1 = .ok () w2 /\ Groups w2 base b (n + 1) (D.put (klit k) d) (setK gv k vs) (setK hv k v') /\ w1.grownBy w2 (some b):=by
 obtain ⟨d,hd⟩:=hdr_own (H:=H) hown
 have hbl:=G.map.lt
 have hne:some b ≠ (hv k).ownBlock:=fun e=>by
  have:=((G.own k).lt b e.symm).1
  have:=G.low
  omega
 have hm1:=G.map.kept hg hne
 obtain ⟨w2,hrun,hm2,hg2⟩:=hm1.update (t:=112) (e:=55) (string_keyed Tryz.underlying9) Tryz.underlying112 hn (klit_key k hk) hd
 have okept:∀ {u:Value} {xs:List ByteArray},w1.ownsRow base 9 1 u xs.length (scells xs) -> w2.ownsRow base 9 1 u xs.length (scells xs):=fun {u xs} ho=>ho.kept hg2 (by
  cases hu:u.ownBlock with
  | none=>exact .inl rfl
  | some g =>
   refine .inr fun e => ?_
   have:=(ho.lt g hu).1
   have:=G.low
   cases e
   omega)
 have old1:∀ j,j ≠ k -> w1.ownsRow base 9 1 (hv j) (gv j).length (scells (gv j)):=fun j hj=>(G.own j).kept hg (G.apart j k hj)
 refine ⟨w2,d,hrun,⟨hm2,G.low,fun j => ?_,fun j => ?_,fun i j hij => ?_⟩,hg2⟩
 ·by_cases e:j=k
  ·subst e
   rw [setK_same,atKey_put_same G.map.isMap (k:=klit j) (by unfold klit; trivial)]; exact hd
  ·rw [setK_other _ _ e,atKey_put_other (fun h=>e (klit_one h))]; exact G.reads j
 ·by_cases e:j=k
  ·subst e
   rw [setK_same,setK_same]; exact okept hown
  ·rw [setK_other _ _ e,setK_other _ _ e]; exact okept (old1 j e)
 ·have old_new:∀ j,j ≠ k -> (hv j).ownBlock=none ∨ (hv j).ownBlock ≠ v'.ownBlock:=fun j hj=>by
   rcases hl with h1 | ⟨g,h1,h2⟩
   ·rw [h1]; exact G.apart j k hj
   ·cases hu:(hv j).ownBlock with
    | none=>exact .inl rfl
    | some q =>
     refine .inr fun e => ?_
     have:=((G.own j).lt q hu).2
     rw [h1] at e
     cases e
     omega
  by_cases ei:i=k
  ·subst ei
   have ej:j ≠ i:=fun e=>hij e.symm
   rw [setK_same,setK_other _ _ ej]
   cases hu:v'.ownBlock with
   | none=>exact .inl rfl
   | some q =>
    refine .inr fun e => ?_
    rcases old_new j ej with h | h
    ·rw [h] at e; cases e
    ·exact h (by rw [hu,e])
  ·rw [setK_other _ _ ei]
   by_cases ej:j=k
   ·subst ej; rw [setK_same]; exact old_new i ei
   ·rw [setK_other _ _ ej]; exact G.apart i j hij
theorem keys_sorted {w:World} {b n:Nat} {D:DataW H} {R:Value -> Option (DataW H × List MemPlace)} {ks:List ByteArray} {ss:List (List UInt8)} (hown:w.ownsMap Tryz.prog 9 R b n D)
  (hk:∀ k:ByteArray,Maps.has D (klit k)=true ↔ k ∈ ks) (hp:ss.Perm (Go.strKeys D)):(ss.mergeSort (fun x y=>decide (x <= y))).map (fun x=>(⟨x.toArray⟩:ByteArray))=sortU ks:=by
 have hC:Go.Collected D (fun _=>false) ((sortU ks).map fun s=>s.data.toList):=by
  refine ⟨?_,fun x => ?_⟩
  ·refine List.pairwise_map.2 ((asc_nodup (sortU_asc ks)).imp fun {a b} h e=>h (ba_ext e))
  ·rw [List.mem_map]
   have e:(Lit.string x)=klit ⟨x.toArray⟩:=by unfold klit; simp
   constructor
   ·rintro ⟨s,hs,rfl⟩
    exact ⟨(hk s).2 (sortU_mem.1 hs),rfl⟩
   ·rintro ⟨h,_⟩
    rw [e] at h
    exact ⟨⟨x.toArray⟩,sortU_mem.2 ((hk _).1 h),by simp⟩
 have hS:=hp.trans (hC.perm hown (string_keyed Tryz.underlying9) Tryz.underlying9 (fun _=>rfl)).symm
 refine sort_keys (hS.symm.nodup hC.1) fun x => ?_
 rw [hS.mem_iff,List.mem_map]
 constructor
 ·rintro ⟨s,hs,e⟩
  rw [<- ba_ext e]; exact sortU_mem.1 hs
 ·intro hx
  exact ⟨x,sortU_mem.2 hx,rfl⟩
end Go.Proofs.YtmmdaegdkikkpaaGreatDoor
end

section
set_option maxRecDepth 100000
namespace Go.Proofs.YtmmdaegdkikkpaaGreatDoor
open Go.RowKit Go.PlainAid
theorem push_strs {ops:Array Oper} {rest:List Oper} {o:Oper} {a:Act} {Q:Exit -> Act -> World -> Prop} (wr:World) {base:Nat} {v:Value} {n:Nat} {xs:List Value} (hown:wr.ownsRow base 9 1 v n xs) (s x:Operand)
  {vo:Option Addr} {vn vc:Nat} {vs:List ByteArray} (hv:StrsAt wr vo vn vc vs) (hgd:o.guard=none)
  (ho:o.op = .call { callee := .builtin .append,args := #[s,x],argTypes := #[55,55] })
  (hs:a.eval s=v) (hx:a.eval x = .slice vo vn vc) (hn:n + vn <= 1000000000) (hbase:base <= wr.heap.size)
  (h:∀ v' w',w'.ownsRow base 9 1 v' (n + vn) (xs ++ scells vs) -> wr.grownBy w' v.ownBlock -> (v'.ownBlock=v.ownBlock ∨ v'.ownBlock=some wr.heap.size) -> wpList Tryz.prog ops Q rest (a.put o.dst v') w') :
  wpList Tryz.prog ops Q (o :: rest) a wr:=by
 obtain ⟨i0,hi,hz0,hz1,hz2⟩:=info_parts info_string
 obtain ⟨h1,h2,h3,h4⟩:=hv
 have key:∀ ad:Addr,vo=some ad -> (∀ j u,(scells vs)[j]? = some u -> wr.cell? (ad.add j)=some u) -> wpList Tryz.prog ops Q (o :: rest) a wr:=fun ad e hc =>
  wpList_append_own_at _ hgd s x 55 ho base 9 i0 (.string ⟨#[]⟩) 1 16 Tryz.underlying55 hi hz0 hz1 hz2 rfl (by decide) v n xs hs hown ad vn vc (scells vs) (by rw [hx,e]) (by unfold scells; rw [List.length_map]; omega)
   hc (by intro u hu; unfold scells at hu; obtain ⟨y,_,rfl⟩:=List.mem_map.1 hu; rfl) (by unfold maxLen; omega) (by omega) hbase (fun v' w' k1 k2 _ k4=>h v' w' k1 k2 k4)
 by_cases hp:0 < vn
 ·obtain ⟨b,off,e,hb,hc⟩:=h4 hp
  refine key _ e fun j u hu => ?_
  unfold scells at hu
  rw [List.getElem?_map] at hu
  cases hj:vs[j]? with
  | none=>rw [hj] at hu; cases hu
  | some y =>
   rw [hj] at hu
   obtain rfl:=(Option.some.inj hu).symm
   have hjl:j < vs.length:=(List.getElem?_eq_some_iff.1 hj).1
   have:=hc j hjl
   rw [Go.WideShapes.add_plain]
   rw [this]; unfold partAt
   rw [List.getD_eq_getElem?_getD,hj]; rfl
 ·have hvn:vn=0:=by omega
  subst hvn
  have hvs:vs = []:=List.length_eq_zero_iff.1 h1
  subst hvs
  cases vo with
  | some ad=>exact key ad rfl (fun j u hu=>by simp [scells] at hu)
  | none =>
   have hrun:(Builtin.append_ #[55,55] o.type #[v, .slice none 0 vc]).run Tryz.prog wr = .ok v wr:=by
    rcases hown.2 with ⟨rfl,_⟩ | ⟨g,cap,cur,rfl,_,_,hc,_⟩
    ·exact run_append_nothing wr 55 55 o.type 9 i0 Tryz.underlying55 hi none 0 0 (Nat.le_refl _) _ (Src.ofNil wr Tryz.underlying55 vc)
    ·exact run_append_nothing wr 55 55 o.type 9 i0 Tryz.underlying55 hi _ _ _ hc _ (Src.ofNil wr Tryz.underlying55 vc)
   refine wpList_plain hgd fun K hK => ?_
   unfold Oper.wp execOp
   simp only [ho,resolve,invoke,builtin,Sem.run_bind,Sem.run_pure,Result.andThen_ok,List.map_toArray,List.map_cons,List.map_nil,hs,hx,hrun]
   refine hK _ _ (h v wr ?_ ⟨rfl,rfl,rfl,Nat.le_refl _,fun _ _ _=>rfl⟩ (.inl rfl))
   simpa [scells] using hown
abbrev Tr:=ByteArray × Value × List ByteArray
def tcells (T:List Tr):List Value:=T.flatMap fun t=>[.string t.1,t.2.1]
def tats (T:List Tr):List At:=T.map fun t=>(t.1,t.2.2)
theorem tcells_cons (t:Tr) (T:List Tr):tcells (t :: T) = .string t.1 :: t.2.1 :: tcells T:=rfl
theorem tcells_append (T U:List Tr):tcells (T ++ U)=tcells T ++ tcells U:=by simp [tcells]
theorem tats_append (T U:List Tr):tats (T ++ U)=tats T ++ tats U:=by simp [tats]
theorem tats_len (T:List Tr):(tats T).length=T.length:=by simp [tats]
theorem tcells_len:∀ T:List Tr,(tcells T).length=T.length * 2
 | []=>rfl
 | t :: T=>by
  have h:=tcells_len T
  rw [tcells_cons,List.length_cons,List.length_cons,h,List.length_cons]; omega
def trD (T:List Tr) (j:Nat):Tr:=T.getD j (⟨#[]⟩, .slice none 0 0,[])
theorem tr_get (T:List Tr) (j:Nat) (h:j < T.length):trD T j=T[j]:=by
 unfold trD; rw [List.getD_eq_getElem?_getD,List.getElem?_eq_getElem h]; rfl
theorem tr_mem (T:List Tr) (j:Nat) (h:j < T.length):trD T j ∈ T:=by rw [tr_get T j h]; exact List.getElem_mem h
theorem tr_take (T:List Tr) (k:Nat) (h:k < T.length):T.take (k + 1)=T.take k ++ [trD T k]:=by
 rw [tr_get T k h]; exact List.take_succ_eq_append_getElem h
theorem atD_tats (T:List Tr) (j:Nat):atD (tats T) j=((trD T j).1,(trD T j).2.2):=by
 unfold atD trD tats
 rw [List.getD_eq_getElem?_getD,List.getD_eq_getElem?_getD,List.getElem?_map]
 cases T[j]? <;> rfl
theorem tcells_at:∀ (T:List Tr) (j:Nat),j < T.length -> (tcells T)[j * 2]? = some (.string (trD T j).1) /\ (tcells T)[j * 2 + 1]? = some (trD T j).2.1
 | [],j,h=>absurd h (Nat.not_lt_zero _)
 | t :: T,0,h=>⟨rfl,rfl⟩
 | t :: T,j + 1,h=>by
  have:=tcells_at T j (by simpa using h)
  rw [tcells_cons,show (j + 1) * 2=j * 2 + 1 + 1 by omega,show j * 2 + 1 + 1 + 1=(j * 2 + 1) + 1 + 1 by omega,List.getElem?_cons_succ,List.getElem?_cons_succ,List.getElem?_cons_succ,List.getElem?_cons_succ]
  exact this
theorem tcells_take:∀ (T:List Tr) (i:Nat),(tcells T).take (i * 2)=tcells (T.take i)
 | [],i=>by simp [tcells]
 | x :: T,0=>rfl
 | x :: T,i + 1=>by
  have ih:=tcells_take T i
  rw [show (i + 1) * 2=i * 2 + 1 + 1 by omega,List.take_succ_cons,tcells_cons,tcells_cons,List.take_succ_cons,List.take_succ_cons,ih]
theorem tcells_drop (T:List Tr) (i:Nat) (h:i <= T.length):(tcells T).drop (i * 2)=tcells (T.drop i):=by
 have e:tcells T=tcells (T.take i) ++ tcells (T.drop i):=by rw [<- tcells_append,List.take_append_drop]
 rw [e,List.drop_append_of_le_length (by rw [tcells_len,List.length_take]; omega),List.drop_of_length_le (by rw [tcells_len,List.length_take]; omega),List.nil_append]
def Hdr (w:World) (v:Value) (vs:List ByteArray):Prop := ∃ ao n cap,v = .slice ao n cap /\ StrsAt w ao n cap vs
theorem Hdr.below {w w':World} {v:Value} {vs:List ByteArray} (h:Hdr w v vs) (hb:Below w.heap.size w w'):Hdr w' v vs:=by
 obtain ⟨ao,n,cap,e,hs⟩:=h
 exact ⟨ao,n,cap,e,hs.below hb⟩
theorem Hdr.one {w:World} {v:Value} {vs:List ByteArray} (h:Hdr w v vs):v.oneCell'=true:=by
 obtain ⟨ao,n,cap,rfl,_⟩:=h; rfl
theorem hdr_nil (w:World):Hdr w (.slice none 0 0) []:=⟨none,0,0,rfl,rfl,Nat.le_refl _,by unfold maxLen; omega,fun h=>absurd h (Nat.lt_irrefl _)⟩
theorem hdr_owns {w:World} {base:Nat} {v:Value} {vs:List ByteArray} (h:w.ownsRow base 9 1 v vs.length (scells vs)):Hdr w v vs:=by
 obtain ⟨ao,cap,e,hs⟩:=strs_own h rfl
 exact ⟨ao,_,cap,e,hs⟩
def TOk (w:World) (T:List Tr):Prop := ∀ t ∈ T,Hdr w t.2.1 t.2.2
theorem TOk.below {w w':World} {T:List Tr} (h:TOk w T) (hb:Below w.heap.size w w'):TOk w' T:=fun t ht=>(h t ht).below hb
theorem TOk.app {w:World} {T U:List Tr} (h:TOk w T) (k:TOk w U):TOk w (T ++ U):=fun t ht=>(List.mem_append.1 ht).elim (h t) (k t)
theorem tcells_one {w:World} {T:List Tr} (h:TOk w T):∀ u ∈ tcells T,u.oneCell'=true:=by
 intro u hu
 obtain ⟨p,hp,hu⟩:=List.mem_flatMap.1 hu
 simp at hu
 rcases hu with rfl | rfl
 ·rfl
 ·exact (h p hp).one
def TsAt (w:World) (ao:Option Addr) (n cap:Nat) (T:List Tr):Prop:=
 T.length=n /\ n <= cap /\ cap <= maxLen /\ (0 < n -> ∃ b off,ao=some ⟨b,off,none⟩ /\ b < w.heap.size /\ ∀ j u,(tcells T)[j]? = some u -> w.cell? ⟨b,off + j,none⟩=some u)
theorem TsAt.below {w w':World} {ao:Option Addr} {n cap:Nat} {T:List Tr} (h:TsAt w ao n cap T) (hb:Below w.heap.size w w'):TsAt w' ao n cap T:=
 ⟨h.1,h.2.1,h.2.2.1,fun hn=>by
  obtain ⟨b,off,e,hi,ha⟩:=h.2.2.2 hn
  exact ⟨b,off,e,Nat.lt_of_lt_of_le hi hb.size,fun j u hj=>cell_later hb (ha j u hj)⟩⟩
theorem TsAt.keep {w w':World} {ao:Option Addr} {n cap:Nat} {T:List Tr} (h:TsAt w ao n cap T) (hs:w.heap.size <= w'.heap.size) (hk:∀ b off,ao=some ⟨b,off,none⟩ -> b < w.heap.size -> w'.heap[b]? = w.heap[b]?):TsAt w' ao n cap T:=
 ⟨h.1,h.2.1,h.2.2.1,fun hn=>by
  obtain ⟨b,off,e,hi,ha⟩:=h.2.2.2 hn
  refine ⟨b,off,e,Nat.lt_of_lt_of_le hi hs,fun j u hj => ?_⟩
  rw [<- ha j u hj]
  exact World.cell?_of_block (a:=⟨b,off + j,none⟩) (hk b off e hi)⟩
theorem ts_nil (w:World) (ao:Option Addr) (cap:Nat) (h:cap <= maxLen):TsAt w ao 0 cap []:=⟨rfl,Nat.zero_le _,h,fun h=>absurd h (Nat.lt_irrefl _)⟩
theorem ts_at {w:World} {b off n cap:Nat} {T:List Tr} (h:TsAt w (some ⟨b,off,none⟩) n cap T) (j:Nat) (hj:j < n) :
  w.cell? ⟨b,off + j * 2,none⟩=some (.string (trD T j).1) /\ w.cell? ⟨b,off + j * 2 + 1,none⟩=some (trD T j).2.1:=by
 obtain ⟨b',off',e,_,ha⟩:=h.2.2.2 (by omega)
 cases e
 have:=tcells_at T j (by rw [h.1]; exact hj)
 exact ⟨ha _ _ this.1,by rw [Nat.add_assoc]; exact ha _ _ this.2⟩
theorem ts_ats {w:World} {ao:Option Addr} {n cap:Nat} {T:List Tr} (h:TsAt w ao n cap T) (hT:TOk w T):AttrsAt w ao n cap (tats T):=by
 refine ⟨by rw [tats_len]; exact h.1,h.2.1,h.2.2.1,fun hn => ?_⟩
 obtain ⟨b,off,e,hi,ha⟩:=h.2.2.2 hn
 subst e
 refine ⟨b,off,rfl,hi,fun j hj => ?_⟩
 rw [atD_tats]
 obtain ⟨c0,c1⟩:=ts_at h j hj
 obtain ⟨vo,vn,vc,e,hs⟩:=hT _ (tr_mem T j (by rw [h.1]; exact hj))
 exact ⟨c0,vo,vn,vc,by rw [<- e]; exact c1,hs⟩
theorem ats_ts {w:World} {ao:Option Addr} {n cap:Nat} {l:List At} (h:AttrsAt w ao n cap l):∃ T,tats T=l /\ TOk w T /\ TsAt w ao n cap T:=by
 obtain ⟨h1,h2,h3,h4⟩:=h
 by_cases hn:0 < n
 ·obtain ⟨b,off,e,hi,ha⟩:=h4 hn
  have key:∀ k,k <= n -> ∃ T:List Tr,tats T=l.take k /\ TOk w T /\ ∀ j u,(tcells T)[j]? = some u -> w.cell? ⟨b,off + j,none⟩=some u:=by
   intro k
   induction k with
   | zero=>exact fun _=>⟨[],by simp [tats],fun t ht=>(List.not_mem_nil ht).elim,fun j u hj=>by simp [tcells] at hj⟩
   | succ k ih =>
    intro hk
    obtain ⟨T,e1,hT,hc⟩:=ih (by omega)
    obtain ⟨c0,vo,vn,vc,c1,hs⟩:=ha k (by omega)
    have hTl:T.length=k:=by rw [<- tats_len,e1,List.length_take]; omega
    refine ⟨T ++ [((atD l k).1, .slice vo vn vc,(atD l k).2)], ?_,hT.app fun t ht => ?_,fun j u hj => ?_⟩
    ·rw [tats_append,e1,at_take l k (by omega)]; rfl
    ·rw [List.mem_singleton.1 ht]; exact ⟨vo,vn,vc,rfl,hs⟩
    ·rw [tcells_append] at hj
     by_cases hlt:j < (tcells T).length
     ·rw [List.getElem?_append_left hlt] at hj; exact hc j u hj
     ·rw [List.getElem?_append_right (by omega),tcells_len,hTl] at hj
      rw [tcells_len,hTl] at hlt
      obtain ⟨d,rfl⟩:∃ d,j=k * 2 + d:=⟨j - k * 2,by omega⟩
      rw [Nat.add_sub_cancel_left] at hj
      match d,hj with
      | 0,hj =>
       obtain rfl:=(Option.some.inj hj)
       exact c0
      | 1,hj =>
       obtain rfl:=(Option.some.inj hj)
       rw [show off + (k * 2 + 1)=off + k * 2 + 1 by omega]; exact c1
      | d + 2,hj=>simp [tcells] at hj
  obtain ⟨T,e1,hT,hc⟩:=key n (Nat.le_refl _)
  rw [List.take_of_length_le (by omega)] at e1
  exact ⟨T,e1,hT,by rw [<- tats_len,e1]; exact h1,h2,h3,fun _=>⟨b,off,e,hi,hc⟩⟩
 ·have hn0:n=0:=by omega
  subst hn0
  have:l = []:=List.length_eq_zero_iff.1 h1
  subst this
  exact ⟨[],rfl,fun t ht=>(List.not_mem_nil ht).elim,ts_nil w ao cap h3⟩
theorem info_attr:(Tryz.prog.info? 58).map (fun i=>(i.zero,i.size,i.bytes))=some (some (.agg #[.string ⟨#[]⟩, .slice none 0 0]),2,40):=by kernel_rfl
theorem ts_news {w:World} {ad:Addr} {m c:Nat} {T:List Tr} (h:TsAt w (some ad) m c T):∀ j u,(tcells T)[j]? = some u -> w.cell? (ad.add j)=some u:=by
 intro j u hj
 rcases Nat.eq_zero_or_pos m with e | e
 ·have hnil:T = []:=List.length_eq_zero_iff.1 (by rw [h.1]; exact e)
  subst hnil; simp [tcells] at hj
 ·obtain ⟨b,off,e2,_,ha⟩:=h.2.2.2 e
  cases e2
  rw [Go.WideShapes.add_plain]; exact ha j u hj
theorem app_attrs {ops:Array Oper} {rest:List Oper} {o:Oper} {a:Act} {Q:Exit -> Act -> World -> Prop} (wr:World) {base:Nat} {v:Value} {n:Nat} {xs:List Value} (hown:wr.ownsRow base 58 2 v n xs) (s x:Operand)
  (ao:Option Addr) (m c:Nat) (news:List Tr) (hgd:o.guard=none)
  (ho:o.op = .call { callee := .builtin .append,args := #[s,x],argTypes := #[35,35] })
  (hs:a.eval s=v) (hx:a.eval x = .slice ao m c) (hw:TsAt wr ao m c news) (hT:TOk wr news) (hn:n + m <= 1000000000) (hbase:base <= wr.heap.size)
  (h:∀ v' w',w'.ownsRow base 58 2 v' (n + m) (xs ++ tcells news) -> wr.grownBy w' v.ownBlock -> (v'.ownBlock=v.ownBlock ∨ v'.ownBlock=some wr.heap.size) -> wpList Tryz.prog ops Q rest (a.put o.dst v') w') :
  wpList Tryz.prog ops Q (o :: rest) a wr:=by
 obtain ⟨i0,hi,hz0,hz1,hz2⟩:=info_parts info_attr
 cases ao with
 | some ad =>
  refine wpList_append_own_at _ hgd s x 35 ho base 58 i0 (.agg #[.string ⟨#[]⟩, .slice none 0 0]) 2 40 Tryz.underlying35 hi hz0 hz1 hz2 rfl (by decide) v n xs hs hown ad m c (tcells news) hx (by rw [tcells_len,hw.1]) (ts_news hw)
   (tcells_one hT) (by unfold maxLen; omega) (by omega) hbase ?_
  intro v' w' k1 k2 _ k4
  exact h v' w' k1 k2 k4
 | none =>
  have hm:m=0:=by
   rcases Nat.eq_zero_or_pos m with e | e
   ·exact e
   ·obtain ⟨_,_,e2,_⟩:=hw.2.2.2 e; cases e2
  subst hm
  have hnil:news = []:=List.length_eq_zero_iff.1 hw.1
  subst hnil
  have hrun:(Builtin.append_ #[35,35] o.type #[v, .slice none 0 c]).run Tryz.prog wr = .ok v wr:=by
   rcases hown.2 with ⟨rfl,_⟩ | ⟨g,cap,cur,rfl,_,_,hc,_⟩
   ·exact run_append_nothing wr 35 35 o.type 58 i0 Tryz.underlying35 hi none 0 0 (Nat.le_refl _) _ (Src.ofNil wr Tryz.underlying35 c)
   ·exact run_append_nothing wr 35 35 o.type 58 i0 Tryz.underlying35 hi _ _ _ hc _ (Src.ofNil wr Tryz.underlying35 c)
  refine wpList_plain hgd fun K hK => ?_
  unfold Oper.wp execOp
  simp only [ho,resolve,invoke,builtin,Sem.run_bind,Sem.run_pure,Result.andThen_ok,List.map_toArray,List.map_cons,List.map_nil,hs,hx,hrun]
  refine hK _ _ (h v wr ?_ ⟨rfl,rfl,rfl,Nat.le_refl _,fun _ _ _=>rfl⟩ (.inl rfl))
  simpa [tcells] using hown
theorem ts_owns {w:World} {base n:Nat} {v:Value} {T:List Tr} (h:w.ownsRow base 58 2 v n (tcells T)):T.length=n /\ ∃ ao cap,v = .slice ao n cap /\ TsAt w ao n cap T /\ FreshA base ao /\ (ao=none -> cap=0) /\ (∀ ad,ao=some ad -> ad.spot=none):=by
 have h0:=h
 have hlen:T.length=n:=by have:=h.1; rw [tcells_len] at this; omega
 refine ⟨hlen, ?_⟩
 rcases h.2 with ⟨rfl,rfl⟩ | ⟨g,cap,cur,rfl,hb,hg,hc,hm,hcs,ht⟩
 ·exact ⟨none,0,rfl,⟨hlen,Nat.le_refl _,by unfold maxLen; omega,fun h=>absurd h (Nat.lt_irrefl _)⟩,fun _ _ e=>by (cases e),fun _=>rfl,fun _ e=>by cases e⟩
 ·refine ⟨_,cap,rfl,⟨hlen,hc,hm,fun h1=>⟨g,0,rfl, ?_,fun j u hj => ?_⟩⟩,fun b off e=>by (cases e; exact hb),fun e=>(by cases e),fun ad e=>by cases e; rfl⟩
  ·rcases Nat.lt_or_ge g w.heap.size with h' | h'
   ·exact h'
   ·simp [Array.getElem?_eq_none h'] at hg
  ·have:=h0.cells (g:=g) rfl j u hj
   rw [Go.WideShapes.add_plain] at this
   exact this
theorem ts_new1 (w:World) (t:Tr):TsAt (w.alloc (.cells #[.string t.1,t.2.1] 58)) (some ⟨w.heap.size,0,none⟩) 1 1 [t]:=by
 refine ⟨rfl,Nat.le_refl _,by unfold maxLen; omega,fun _=>⟨w.heap.size,0,rfl,by simp,fun j u hj => ?_⟩⟩
 have hb:=heap_alloc_new w (.cells #[.string t.1,t.2.1] 58)
 match j,hj with
 | 0,hj=>obtain rfl:=Option.some.inj hj; unfold World.cell?; simp only [hb]; rfl
 | 1,hj=>obtain rfl:=Option.some.inj hj; unfold World.cell?; simp only [hb]; rfl
 | j + 2,hj=>simp [tcells] at hj
theorem app_onto {ops:Array Oper} {rest:List Oper} {o:Oper} {a:Act} {Q:Exit -> Act -> World -> Prop} (wr:World) (s x:Operand) (ao bo:Option Addr) (n m c:Nat) (olds news:List Tr) (hgd:o.guard=none)
  (ho:o.op = .call { callee := .builtin .append,args := #[s,x],argTypes := #[35,35] })
  (hs:a.eval s = .slice ao n n) (hx:a.eval x = .slice bo m c) (hold:TsAt wr ao n n olds) (hnone:ao=none -> n=0) (hplain:∀ ad,ao=some ad -> ad.spot=none) (hw:TsAt wr bo m c news) (hO:TOk wr olds) (hT:TOk wr news) (hn:n + m <= 1100000)
  (h:∀ xo cap w',TsAt w' xo (n + m) cap (olds ++ news) -> Below wr.heap.size wr w' -> (∀ ad,xo=some ad -> ad.spot=none) -> (xo=none -> cap=0) -> (FreshA wr.heap.size xo ∨ (xo=ao /\ w'=wr /\ cap=n)) -> wpList Tryz.prog ops Q rest (a.put o.dst (.slice xo (n + m) cap)) w') :
  wpList Tryz.prog ops Q (o :: rest) a wr:=by
 obtain ⟨i0,hi,hz0,hz1,hz2⟩:=info_parts info_attr
 cases ao with
 | none =>
  have e0:=hnone rfl
  subst e0
  have e1:olds = []:=List.length_eq_zero_iff.1 hold.1
  subst e1
  refine app_attrs wr (World.ownsRow_nil wr wr.heap.size 58 2) s x bo m c news hgd ho hs hx hw hT (by omega) (Nat.le_refl _) ?_
  intro v' w' h1 h2 _
  rw [List.nil_append] at h1
  have h1':w'.ownsRow wr.heap.size 58 2 v' (0 + m) (tcells ([] ++ news)):=h1
  obtain ⟨_,xo,cap,rfl,hat,hfr,hz,hsp⟩:=ts_owns h1'
  exact h xo cap w' hat ((Below.refl _ wr).grown h2 (Nat.le_refl _) (fun k hk=>by cases hk)) hsp hz (.inl hfr)
 | some ad =>
  have hsp:=hplain ad rfl
  obtain ⟨b,off,spot⟩:=ad
  simp only at hsp
  subst hsp
  rcases Nat.eq_zero_or_pos m with e | e
  ·subst e
   have e1:news = []:=List.length_eq_zero_iff.1 hw.1
   subst e1
   have hsrc:Src Tryz.prog i0.size 35 (.slice bo 0 c) 0 [] wr:=by
    cases bo with
    | none=>exact Src.ofNil wr Tryz.underlying35 c
    | some a2=>exact Src.ofSlice wr Tryz.underlying35 a2 0 c [] (by simp) (fun j u hj=>by simp at hj) (fun u hu=>by cases hu)
   refine wpList_plain hgd fun K hK => ?_
   have hrun:=run_append_room_src (P:=Tryz.prog) (w:=wr) 35 35 o.type 58 i0 Tryz.underlying35 hi b off n n (.slice bo 0 c) 0 [] hsrc (by omega) (fun j hj=>by simp at hj) (fun j hj=>by simp at hj)
   unfold Oper.wp
   simp [execOp,ho,resolve,invoke,builtin,hs,hx,hrun,Result.andThen]
   refine hK _ _ (h (some ⟨b,off,none⟩) n wr (by rw [List.append_nil]; exact hold) (Below.refl _ _) (fun ad e=>by cases e; rfl) (fun e=>by cases e) (.inr ⟨rfl,rfl,rfl⟩))
  ·obtain ⟨b2,off2,e2,_⟩:=hw.2.2.2 e
   subst e2
   refine wpList_append_grows wr hgd s x 35 ho 58 i0 (.agg #[.string ⟨#[]⟩, .slice none 0 0]) 2 40 Tryz.underlying35 hi hz0 hz1 hz2 rfl (by decide) (some ⟨b,off,none⟩) n n (tcells olds) hs (fun e=>by cases e) (by rw [tcells_len,hold.1])
    (fun ad had j u hj=>by cases had; exact ts_news hold j u hj) ⟨b2,off2,none⟩ m c (tcells news) hx (by rw [tcells_len,hw.1]) (ts_news hw) (tcells_one hT) (by omega) (by unfold maxLen; omega) (by omega) ?_
   intro v' w' h1 h2
   have h1':w'.ownsRow wr.heap.size 58 2 v' (n + m) (tcells (olds ++ news)):=by rw [tcells_append]; exact h1
   obtain ⟨_,xo,cap,rfl,hat,hfr,hz,hsp2⟩:=ts_owns h1'
   exact h xo cap w' hat ((Below.refl _ wr).grown h2 (Nat.le_refl _) (fun k hk=>by cases hk)) hsp2 hz (.inl hfr)
end Go.Proofs.YtmmdaegdkikkpaaGreatDoor
end

section
set_option maxRecDepth 100000
namespace Go.Proofs
open Go.Shelf
def Tryz.equal_ren:Go.Shelf.Ren:=⟨fun | 34=>147 | n=>n,fun | 25=>55 | 26=>9 | 4=>4 | 3=>3 | 0=>0 | n=>n,fun | n=>n⟩
theorem Tryz.equal:Go.Proofs.SlLaysN.n34 Tryz.prog Tryz.equal_ren:={
 mixed:=by kernel_rfl
 f34:=⟨Tryz.f147.name,by decide,Tryz.func147.trans (congrArg some (by kernel_rfl))⟩
 t0:=Tryz.underlying0
 a0:=Tryz.isAgg0
 z0:=Tryz.sizeOf0
 v0:=Tryz.zeroValue0
 t3:=Tryz.underlying3
 a3:=Tryz.isAgg3
 z3:=Tryz.sizeOf3
 v3:=Tryz.zeroValue3
 t4:=Tryz.underlying4
 a4:=Tryz.isAgg4
 z4:=Tryz.sizeOf4
 v4:=Tryz.zeroValue4
 t25:=Tryz.underlying55
 a25:=Tryz.isAgg55
 z25:=Tryz.sizeOf55
 v25:=Tryz.zeroValue55
 t26:=Tryz.underlying9
 a26:=Tryz.isAgg9
 z26:=Tryz.sizeOf9
 v26:=Tryz.zeroValue9 }
def Tryz.contains_ren:Go.Shelf.Ren:=⟨fun | 32=>228 | 30=>266 | n=>n,fun | 25=>55 | 26=>9 | 4=>4 | 3=>3 | 0=>0 | n=>n,fun | n=>n⟩
theorem Tryz.contains:Go.Proofs.SlLaysN.n32 Tryz.prog Tryz.contains_ren:={
 mixed:=by kernel_rfl
 f30:=⟨Tryz.f266.name,by decide,Tryz.func266.trans (congrArg some (by kernel_rfl))⟩
 f32:=⟨Tryz.f228.name,by decide,Tryz.func228.trans (congrArg some (by kernel_rfl))⟩
 t0:=Tryz.underlying0
 a0:=Tryz.isAgg0
 z0:=Tryz.sizeOf0
 v0:=Tryz.zeroValue0
 t3:=Tryz.underlying3
 a3:=Tryz.isAgg3
 z3:=Tryz.sizeOf3
 v3:=Tryz.zeroValue3
 t4:=Tryz.underlying4
 a4:=Tryz.isAgg4
 z4:=Tryz.sizeOf4
 v4:=Tryz.zeroValue4
 t25:=Tryz.underlying55
 a25:=Tryz.isAgg55
 z25:=Tryz.sizeOf55
 v25:=Tryz.zeroValue55
 t26:=Tryz.underlying9
 a26:=Tryz.isAgg9
 z26:=Tryz.sizeOf9
 v26:=Tryz.zeroValue9 }
def Tryz.compact_ren:Go.Shelf.Ren:=⟨fun | 44=>164 | n=>n,fun | 25=>55 | 26=>9 | 3=>3 | 4=>4 | 0=>0 | n=>n,fun | n=>n⟩
theorem Tryz.compact:Go.Proofs.SlLaysN.n44 Tryz.prog Tryz.compact_ren:={
 mixed:=by kernel_rfl
 f44:=⟨Tryz.f164.name,by decide,Tryz.func164.trans (congrArg some (by kernel_rfl))⟩
 t0:=Tryz.underlying0
 a0:=Tryz.isAgg0
 z0:=Tryz.sizeOf0
 v0:=Tryz.zeroValue0
 t3:=Tryz.underlying3
 a3:=Tryz.isAgg3
 z3:=Tryz.sizeOf3
 v3:=Tryz.zeroValue3
 t4:=Tryz.underlying4
 a4:=Tryz.isAgg4
 z4:=Tryz.sizeOf4
 v4:=Tryz.zeroValue4
 t25:=Tryz.underlying55
 a25:=Tryz.isAgg55
 z25:=Tryz.sizeOf55
 v25:=Tryz.zeroValue55
 t26:=Tryz.underlying9
 a26:=Tryz.isAgg9
 z26:=Tryz.sizeOf9
 v26:=Tryz.zeroValue9
 i26:=by kernel_rfl }
def Tryz.deletef_ren:Go.Shelf.Ren:=⟨fun | 10=>221 | 6=>265 | n=>n,fun | 22=>55 | 23=>9 | 25=>52 | 3=>3 | 4=>4 | 0=>0 | n=>n,fun | n=>n⟩
theorem Tryz.deletef:Go.Proofs.SlLaysH.n10 Tryz.prog Tryz.deletef_ren:={
 mixed:=by kernel_rfl
 f6:=⟨Tryz.f265.name,by decide,Tryz.func265.trans (congrArg some (by kernel_rfl))⟩
 f10:=⟨Tryz.f221.name,by decide,Tryz.func221.trans (congrArg some (by kernel_rfl))⟩
 t0:=Tryz.underlying0
 a0:=Tryz.isAgg0
 z0:=Tryz.sizeOf0
 v0:=Tryz.zeroValue0
 t3:=Tryz.underlying3
 a3:=Tryz.isAgg3
 z3:=Tryz.sizeOf3
 v3:=Tryz.zeroValue3
 t4:=Tryz.underlying4
 a4:=Tryz.isAgg4
 z4:=Tryz.sizeOf4
 v4:=Tryz.zeroValue4
 t22:=Tryz.underlying55
 a22:=Tryz.isAgg55
 z22:=Tryz.sizeOf55
 v22:=Tryz.zeroValue55
 a23:=Tryz.isAgg9
 z23:=Tryz.sizeOf9
 t25:=Tryz.underlying52
 a25:=Tryz.isAgg52
 z25:=Tryz.sizeOf52
 v25:=Tryz.zeroValue52 }
end Go.Proofs
end
