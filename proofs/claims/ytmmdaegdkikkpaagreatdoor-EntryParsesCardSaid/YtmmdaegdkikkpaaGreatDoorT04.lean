/-
  Texts of the schema layer and of those beneath it, joined: AttT, ShelfE, AttAsc, AttSet, AttNew, AttCk, AttSrt, CodecA. Conditions stand at each contract.
-/
import Derived.Laws.AppendOwnNone
import Derived.ArgAppend
import Derived.Deep.AppendSrc
import Derived.Shelf.SlicesG.Equal
import Derived.Shelf.SlicesG.Turned
import Derived.Shelf.SlicesG.CompactS
import Derived.Shelf.SlicesE.DeleteFunc
import Derived.Shelf.SlicesE.Clone
import Derived.Sort.OwnSorted
import Derived.Test.YtmmdaegdkikkpaaGreatDoorT03
set_option linter.unusedVariables false
set_option linter.unusedSimpArgs false
set_option linter.unnecessarySimpa false

section
set_option maxRecDepth 100000
namespace Go.Proofs.YtmmdaegdkikkpaaGreatDoor
open Go.RowKit Go.PlainAid
abbrev Tr:=ByteArray × Value × List ByteArray
def tcells (T:List Tr):List Value:=T.flatMap fun t=>[.string t.1,t.2.1]
def tats (T:List Tr):List At:=T.map fun t=>(t.1,t.2.2)
theorem tcells_cons (t:Tr) (T:List Tr):tcells (t :: T) = .string t.1 :: t.2.1 :: tcells T:=rfl
theorem tcells_append (T U:List Tr):tcells (T ++ U)=tcells T ++ tcells U:=by simp [tcells]
theorem tats_append (T U:List Tr):tats (T ++ U)=tats T ++ tats U:=by simp [tats]
theorem tats_len (T:List Tr):(tats T).length=T.length:=by simp [tats]
theorem tcells_len:∀ T:List Tr,(tcells T).length=T.length * 2
 | []=>rfl
 | t :: T=>by
  have h:=tcells_len T
  rw [tcells_cons,List.length_cons,List.length_cons,h,List.length_cons]; omega
def trD (T:List Tr) (j:Nat):Tr:=T.getD j (⟨#[]⟩, .slice none 0 0,[])
theorem tr_get (T:List Tr) (j:Nat) (h:j < T.length):trD T j=T[j]:=by
 unfold trD; rw [List.getD_eq_getElem?_getD,List.getElem?_eq_getElem h]; rfl
theorem tr_mem (T:List Tr) (j:Nat) (h:j < T.length):trD T j ∈ T:=by rw [tr_get T j h]; exact List.getElem_mem h
theorem tr_take (T:List Tr) (k:Nat) (h:k < T.length):T.take (k + 1)=T.take k ++ [trD T k]:=by
 rw [tr_get T k h]; exact List.take_succ_eq_append_getElem h
theorem atD_tats (T:List Tr) (j:Nat):atD (tats T) j=((trD T j).1,(trD T j).2.2):=by
 unfold atD trD tats
 rw [List.getD_eq_getElem?_getD,List.getD_eq_getElem?_getD,List.getElem?_map]
 cases T[j]? <;> rfl
theorem tcells_at:∀ (T:List Tr) (j:Nat),j < T.length -> (tcells T)[j * 2]? = some (.string (trD T j).1) /\ (tcells T)[j * 2 + 1]? = some (trD T j).2.1
 | [],j,h=>absurd h (Nat.not_lt_zero _)
 | t :: T,0,h=>⟨rfl,rfl⟩
 | t :: T,j + 1,h=>by
  have:=tcells_at T j (by simpa using h)
  rw [tcells_cons,show (j + 1) * 2=j * 2 + 1 + 1 by omega,show j * 2 + 1 + 1 + 1=(j * 2 + 1) + 1 + 1 by omega,List.getElem?_cons_succ,List.getElem?_cons_succ,List.getElem?_cons_succ,List.getElem?_cons_succ]
  exact this
theorem tcells_take:∀ (T:List Tr) (i:Nat),(tcells T).take (i * 2)=tcells (T.take i)
 | [],i=>by simp [tcells]
 | x :: T,0=>rfl
 | x :: T,i + 1=>by
  have ih:=tcells_take T i
  rw [show (i + 1) * 2=i * 2 + 1 + 1 by omega,List.take_succ_cons,tcells_cons,tcells_cons,List.take_succ_cons,List.take_succ_cons,ih]
theorem tcells_drop (T:List Tr) (i:Nat) (h:i <= T.length):(tcells T).drop (i * 2)=tcells (T.drop i):=by
 have e:tcells T=tcells (T.take i) ++ tcells (T.drop i):=by rw [<- tcells_append,List.take_append_drop]
 rw [e,List.drop_append_of_le_length (by rw [tcells_len,List.length_take]; omega),List.drop_of_length_le (by rw [tcells_len,List.length_take]; omega),List.nil_append]
def Hdr (w:World) (v:Value) (vs:List ByteArray):Prop := ∃ ao n cap,v = .slice ao n cap /\ StrsAt w ao n cap vs
theorem Hdr.below {w w':World} {v:Value} {vs:List ByteArray} (h:Hdr w v vs) (hb:Below w.heap.size w w'):Hdr w' v vs:=by
 obtain ⟨ao,n,cap,e,hs⟩:=h
 exact ⟨ao,n,cap,e,hs.below hb⟩
theorem Hdr.one {w:World} {v:Value} {vs:List ByteArray} (h:Hdr w v vs):v.oneCell'=true:=by
 obtain ⟨ao,n,cap,rfl,_⟩:=h; rfl
theorem hdr_nil (w:World):Hdr w (.slice none 0 0) []:=⟨none,0,0,rfl,rfl,Nat.le_refl _,by unfold maxLen; omega,fun h=>absurd h (Nat.lt_irrefl _)⟩
theorem hdr_owns {w:World} {base:Nat} {v:Value} {vs:List ByteArray} (h:w.ownsRow base 9 1 v vs.length (scells vs)):Hdr w v vs:=by
 obtain ⟨ao,cap,e,hs⟩:=strs_own h rfl
 exact ⟨ao,_,cap,e,hs⟩
def TOk (w:World) (T:List Tr):Prop := ∀ t ∈ T,Hdr w t.2.1 t.2.2
theorem TOk.below {w w':World} {T:List Tr} (h:TOk w T) (hb:Below w.heap.size w w'):TOk w' T:=fun t ht=>(h t ht).below hb
theorem TOk.app {w:World} {T U:List Tr} (h:TOk w T) (k:TOk w U):TOk w (T ++ U):=fun t ht=>(List.mem_append.1 ht).elim (h t) (k t)
theorem tcells_one {w:World} {T:List Tr} (h:TOk w T):∀ u ∈ tcells T,u.oneCell'=true:=by
 intro u hu
 obtain ⟨p,hp,hu⟩:=List.mem_flatMap.1 hu
 simp at hu
 rcases hu with rfl | rfl
 ·rfl
 ·exact (h p hp).one
def TsAt (w:World) (ao:Option Addr) (n cap:Nat) (T:List Tr):Prop:=
 T.length=n /\ n <= cap /\ cap <= maxLen /\ (0 < n -> ∃ b off,ao=some ⟨b,off,none⟩ /\ b < w.heap.size /\ ∀ j u,(tcells T)[j]? = some u -> w.cell? ⟨b,off + j,none⟩=some u)
theorem TsAt.below {w w':World} {ao:Option Addr} {n cap:Nat} {T:List Tr} (h:TsAt w ao n cap T) (hb:Below w.heap.size w w'):TsAt w' ao n cap T:=
 ⟨h.1,h.2.1,h.2.2.1,fun hn=>by
  obtain ⟨b,off,e,hi,ha⟩:=h.2.2.2 hn
  exact ⟨b,off,e,Nat.lt_of_lt_of_le hi hb.size,fun j u hj=>cell_later hb (ha j u hj)⟩⟩
theorem TsAt.keep {w w':World} {ao:Option Addr} {n cap:Nat} {T:List Tr} (h:TsAt w ao n cap T) (hs:w.heap.size <= w'.heap.size) (hk:∀ b off,ao=some ⟨b,off,none⟩ -> b < w.heap.size -> w'.heap[b]? = w.heap[b]?):TsAt w' ao n cap T:=
 ⟨h.1,h.2.1,h.2.2.1,fun hn=>by
  obtain ⟨b,off,e,hi,ha⟩:=h.2.2.2 hn
  refine ⟨b,off,e,Nat.lt_of_lt_of_le hi hs,fun j u hj => ?_⟩
  rw [<- ha j u hj]
  exact World.cell?_of_block (a:=⟨b,off + j,none⟩) (hk b off e hi)⟩
theorem ts_nil (w:World) (ao:Option Addr) (cap:Nat) (h:cap <= maxLen):TsAt w ao 0 cap []:=⟨rfl,Nat.zero_le _,h,fun h=>absurd h (Nat.lt_irrefl _)⟩
theorem ts_at {w:World} {b off n cap:Nat} {T:List Tr} (h:TsAt w (some ⟨b,off,none⟩) n cap T) (j:Nat) (hj:j < n) :
  w.cell? ⟨b,off + j * 2,none⟩=some (.string (trD T j).1) /\ w.cell? ⟨b,off + j * 2 + 1,none⟩=some (trD T j).2.1:=by
 obtain ⟨b',off',e,_,ha⟩:=h.2.2.2 (by omega)
 cases e
 have:=tcells_at T j (by rw [h.1]; exact hj)
 exact ⟨ha _ _ this.1,by rw [Nat.add_assoc]; exact ha _ _ this.2⟩
theorem ts_ats {w:World} {ao:Option Addr} {n cap:Nat} {T:List Tr} (h:TsAt w ao n cap T) (hT:TOk w T):AttrsAt w ao n cap (tats T):=by
 refine ⟨by rw [tats_len]; exact h.1,h.2.1,h.2.2.1,fun hn => ?_⟩
 obtain ⟨b,off,e,hi,ha⟩:=h.2.2.2 hn
 subst e
 refine ⟨b,off,rfl,hi,fun j hj => ?_⟩
 rw [atD_tats]
 obtain ⟨c0,c1⟩:=ts_at h j hj
 obtain ⟨vo,vn,vc,e,hs⟩:=hT _ (tr_mem T j (by rw [h.1]; exact hj))
 exact ⟨c0,vo,vn,vc,by rw [<- e]; exact c1,hs⟩
theorem ats_ts {w:World} {ao:Option Addr} {n cap:Nat} {l:List At} (h:AttrsAt w ao n cap l):∃ T,tats T=l /\ TOk w T /\ TsAt w ao n cap T:=by
 obtain ⟨h1,h2,h3,h4⟩:=h
 by_cases hn:0 < n
 ·obtain ⟨b,off,e,hi,ha⟩:=h4 hn
  have key:∀ k,k <= n -> ∃ T:List Tr,tats T=l.take k /\ TOk w T /\ ∀ j u,(tcells T)[j]? = some u -> w.cell? ⟨b,off + j,none⟩=some u:=by
   intro k
   induction k with
   | zero=>exact fun _=>⟨[],by simp [tats],fun t ht=>(List.not_mem_nil ht).elim,fun j u hj=>by simp [tcells] at hj⟩
   | succ k ih =>
    intro hk
    obtain ⟨T,e1,hT,hc⟩:=ih (by omega)
    obtain ⟨c0,vo,vn,vc,c1,hs⟩:=ha k (by omega)
    have hTl:T.length=k:=by rw [<- tats_len,e1,List.length_take]; omega
    refine ⟨T ++ [((atD l k).1, .slice vo vn vc,(atD l k).2)], ?_,hT.app fun t ht => ?_,fun j u hj => ?_⟩
    ·rw [tats_append,e1,at_take l k (by omega)]; rfl
    ·rw [List.mem_singleton.1 ht]; exact ⟨vo,vn,vc,rfl,hs⟩
    ·rw [tcells_append] at hj
     by_cases hlt:j < (tcells T).length
     ·rw [List.getElem?_append_left hlt] at hj; exact hc j u hj
     ·rw [List.getElem?_append_right (by omega),tcells_len,hTl] at hj
      rw [tcells_len,hTl] at hlt
      obtain ⟨d,rfl⟩:∃ d,j=k * 2 + d:=⟨j - k * 2,by omega⟩
      rw [Nat.add_sub_cancel_left] at hj
      match d,hj with
      | 0,hj =>
       obtain rfl:=(Option.some.inj hj)
       exact c0
      | 1,hj =>
       obtain rfl:=(Option.some.inj hj)
       rw [show off + (k * 2 + 1)=off + k * 2 + 1 by omega]; exact c1
      | d + 2,hj=>simp [tcells] at hj
  obtain ⟨T,e1,hT,hc⟩:=key n (Nat.le_refl _)
  rw [List.take_of_length_le (by omega)] at e1
  exact ⟨T,e1,hT,by rw [<- tats_len,e1]; exact h1,h2,h3,fun _=>⟨b,off,e,hi,hc⟩⟩
 ·have hn0:n=0:=by omega
  subst hn0
  have:l = []:=List.length_eq_zero_iff.1 h1
  subst this
  exact ⟨[],rfl,fun t ht=>(List.not_mem_nil ht).elim,ts_nil w ao cap h3⟩
theorem info_attr:(Tryz.prog.info? 58).map (fun i=>(i.zero,i.size,i.bytes))=some (some (.agg #[.string ⟨#[]⟩, .slice none 0 0]),2,40):=by kernel_rfl
theorem ts_news {w:World} {ad:Addr} {m c:Nat} {T:List Tr} (h:TsAt w (some ad) m c T):∀ j u,(tcells T)[j]? = some u -> w.cell? (ad.add j)=some u:=by
 intro j u hj
 rcases Nat.eq_zero_or_pos m with e | e
 ·have hnil:T = []:=List.length_eq_zero_iff.1 (by rw [h.1]; exact e)
  subst hnil; simp [tcells] at hj
 ·obtain ⟨b,off,e2,_,ha⟩:=h.2.2.2 e
  cases e2
  rw [Go.WideShapes.add_plain]; exact ha j u hj
theorem app_attrs {ops:Array Oper} {rest:List Oper} {o:Oper} {a:Act} {Q:Exit -> Act -> World -> Prop} (wr:World) {base:Nat} {v:Value} {n:Nat} {xs:List Value} (hown:wr.ownsRow base 58 2 v n xs) (s x:Operand)
  (ao:Option Addr) (m c:Nat) (news:List Tr) (hgd:o.guard=none)
  (ho:o.op = .call { callee := .builtin .append,args := #[s,x],argTypes := #[35,35] })
  (hs:a.eval s=v) (hx:a.eval x = .slice ao m c) (hw:TsAt wr ao m c news) (hT:TOk wr news) (hn:n + m <= 1000000000) (hbase:base <= wr.heap.size)
  (h:∀ v' w',w'.ownsRow base 58 2 v' (n + m) (xs ++ tcells news) -> wr.grownBy w' v.ownBlock -> (v'.ownBlock=v.ownBlock ∨ v'.ownBlock=some wr.heap.size) -> wpList Tryz.prog ops Q rest (a.put o.dst v') w') :
  wpList Tryz.prog ops Q (o :: rest) a wr:=by
 obtain ⟨i0,hi,hz0,hz1,hz2⟩:=info_parts info_attr
 cases ao with
 | some ad =>
  refine wpList_append_own_at _ hgd s x 35 ho base 58 i0 (.agg #[.string ⟨#[]⟩, .slice none 0 0]) 2 40 Tryz.underlying35 hi hz0 hz1 hz2 rfl (by decide) v n xs hs hown ad m c (tcells news) hx (by rw [tcells_len,hw.1]) (ts_news hw)
   (tcells_one hT) (by unfold maxLen; omega) (by omega) hbase ?_
  intro v' w' k1 k2 _ k4
  exact h v' w' k1 k2 k4
 | none =>
  have hm:m=0:=by
   rcases Nat.eq_zero_or_pos m with e | e
   ·exact e
   ·obtain ⟨_,_,e2,_⟩:=hw.2.2.2 e; cases e2
  subst hm
  have hnil:news = []:=List.length_eq_zero_iff.1 hw.1
  subst hnil
  have hrun:(Builtin.append_ #[35,35] o.type #[v, .slice none 0 c]).run Tryz.prog wr = .ok v wr:=by
   rcases hown.2 with ⟨rfl,_⟩ | ⟨g,cap,cur,rfl,_,_,hc,_⟩
   ·exact run_append_nothing wr 35 35 o.type 58 i0 Tryz.underlying35 hi none 0 0 (Nat.le_refl _) _ (Src.ofNil wr Tryz.underlying35 c)
   ·exact run_append_nothing wr 35 35 o.type 58 i0 Tryz.underlying35 hi _ _ _ hc _ (Src.ofNil wr Tryz.underlying35 c)
  refine wpList_plain hgd fun K hK => ?_
  unfold Oper.wp execOp
  simp only [ho,resolve,invoke,builtin,Sem.run_bind,Sem.run_pure,Result.andThen_ok,List.map_toArray,List.map_cons,List.map_nil,hs,hx,hrun]
  refine hK _ _ (h v wr ?_ ⟨rfl,rfl,rfl,Nat.le_refl _,fun _ _ _=>rfl⟩ (.inl rfl))
  simpa [tcells] using hown
theorem ts_owns {w:World} {base n:Nat} {v:Value} {T:List Tr} (h:w.ownsRow base 58 2 v n (tcells T)):T.length=n /\ ∃ ao cap,v = .slice ao n cap /\ TsAt w ao n cap T /\ FreshA base ao /\ (ao=none -> cap=0) /\ (∀ ad,ao=some ad -> ad.spot=none):=by
 have h0:=h
 have hlen:T.length=n:=by have:=h.1; rw [tcells_len] at this; omega
 refine ⟨hlen, ?_⟩
 rcases h.2 with ⟨rfl,rfl⟩ | ⟨g,cap,cur,rfl,hb,hg,hc,hm,hcs,ht⟩
 ·exact ⟨none,0,rfl,⟨hlen,Nat.le_refl _,by unfold maxLen; omega,fun h=>absurd h (Nat.lt_irrefl _)⟩,fun _ _ e=>by (cases e),fun _=>rfl,fun _ e=>by cases e⟩
 ·refine ⟨_,cap,rfl,⟨hlen,hc,hm,fun h1=>⟨g,0,rfl, ?_,fun j u hj => ?_⟩⟩,fun b off e=>by (cases e; exact hb),fun e=>(by cases e),fun ad e=>by cases e; rfl⟩
  ·rcases Nat.lt_or_ge g w.heap.size with h' | h'
   ·exact h'
   ·simp [Array.getElem?_eq_none h'] at hg
  ·have:=h0.cells (g:=g) rfl j u hj
   rw [Go.WideShapes.add_plain] at this
   exact this
theorem ts_new1 (w:World) (t:Tr):TsAt (w.alloc (.cells #[.string t.1,t.2.1] 58)) (some ⟨w.heap.size,0,none⟩) 1 1 [t]:=by
 refine ⟨rfl,Nat.le_refl _,by unfold maxLen; omega,fun _=>⟨w.heap.size,0,rfl,by simp,fun j u hj => ?_⟩⟩
 have hb:=heap_alloc_new w (.cells #[.string t.1,t.2.1] 58)
 match j,hj with
 | 0,hj=>obtain rfl:=Option.some.inj hj; unfold World.cell?; simp only [hb]; rfl
 | 1,hj=>obtain rfl:=Option.some.inj hj; unfold World.cell?; simp only [hb]; rfl
 | j + 2,hj=>simp [tcells] at hj
theorem app_onto {ops:Array Oper} {rest:List Oper} {o:Oper} {a:Act} {Q:Exit -> Act -> World -> Prop} (wr:World) (s x:Operand) (ao bo:Option Addr) (n m c:Nat) (olds news:List Tr) (hgd:o.guard=none)
  (ho:o.op = .call { callee := .builtin .append,args := #[s,x],argTypes := #[35,35] })
  (hs:a.eval s = .slice ao n n) (hx:a.eval x = .slice bo m c) (hold:TsAt wr ao n n olds) (hnone:ao=none -> n=0) (hplain:∀ ad,ao=some ad -> ad.spot=none) (hw:TsAt wr bo m c news) (hO:TOk wr olds) (hT:TOk wr news) (hn:n + m <= 1100000)
  (h:∀ xo cap w',TsAt w' xo (n + m) cap (olds ++ news) -> Below wr.heap.size wr w' -> (∀ ad,xo=some ad -> ad.spot=none) -> (xo=none -> cap=0) -> (FreshA wr.heap.size xo ∨ (xo=ao /\ w'=wr /\ cap=n)) -> wpList Tryz.prog ops Q rest (a.put o.dst (.slice xo (n + m) cap)) w') :
  wpList Tryz.prog ops Q (o :: rest) a wr:=by
 obtain ⟨i0,hi,hz0,hz1,hz2⟩:=info_parts info_attr
 cases ao with
 | none =>
  have e0:=hnone rfl
  subst e0
  have e1:olds = []:=List.length_eq_zero_iff.1 hold.1
  subst e1
  refine app_attrs wr (World.ownsRow_nil wr wr.heap.size 58 2) s x bo m c news hgd ho hs hx hw hT (by omega) (Nat.le_refl _) ?_
  intro v' w' h1 h2 _
  rw [List.nil_append] at h1
  have h1':w'.ownsRow wr.heap.size 58 2 v' (0 + m) (tcells ([] ++ news)):=h1
  obtain ⟨_,xo,cap,rfl,hat,hfr,hz,hsp⟩:=ts_owns h1'
  exact h xo cap w' hat ((Below.refl _ wr).grown h2 (Nat.le_refl _) (fun k hk=>by cases hk)) hsp hz (.inl hfr)
 | some ad =>
  have hsp:=hplain ad rfl
  obtain ⟨b,off,spot⟩:=ad
  simp only at hsp
  subst hsp
  rcases Nat.eq_zero_or_pos m with e | e
  ·subst e
   have e1:news = []:=List.length_eq_zero_iff.1 hw.1
   subst e1
   have hsrc:Src Tryz.prog i0.size 35 (.slice bo 0 c) 0 [] wr:=by
    cases bo with
    | none=>exact Src.ofNil wr Tryz.underlying35 c
    | some a2=>exact Src.ofSlice wr Tryz.underlying35 a2 0 c [] (by simp) (fun j u hj=>by simp at hj) (fun u hu=>by cases hu)
   refine wpList_plain hgd fun K hK => ?_
   have hrun:=run_append_room_src (P:=Tryz.prog) (w:=wr) 35 35 o.type 58 i0 Tryz.underlying35 hi b off n n (.slice bo 0 c) 0 [] hsrc (by omega) (fun j hj=>by simp at hj) (fun j hj=>by simp at hj)
   unfold Oper.wp
   simp [execOp,ho,resolve,invoke,builtin,hs,hx,hrun,Result.andThen]
   refine hK _ _ (h (some ⟨b,off,none⟩) n wr (by rw [List.append_nil]; exact hold) (Below.refl _ _) (fun ad e=>by cases e; rfl) (fun e=>by cases e) (.inr ⟨rfl,rfl,rfl⟩))
  ·obtain ⟨b2,off2,e2,_⟩:=hw.2.2.2 e
   subst e2
   refine wpList_append_grows wr hgd s x 35 ho 58 i0 (.agg #[.string ⟨#[]⟩, .slice none 0 0]) 2 40 Tryz.underlying35 hi hz0 hz1 hz2 rfl (by decide) (some ⟨b,off,none⟩) n n (tcells olds) hs (fun e=>by cases e) (by rw [tcells_len,hold.1])
    (fun ad had j u hj=>by cases had; exact ts_news hold j u hj) ⟨b2,off2,none⟩ m c (tcells news) hx (by rw [tcells_len,hw.1]) (ts_news hw) (tcells_one hT) (by omega) (by unfold maxLen; omega) (by omega) ?_
   intro v' w' h1 h2
   have h1':w'.ownsRow wr.heap.size 58 2 v' (n + m) (tcells (olds ++ news)):=by rw [tcells_append]; exact h1
   obtain ⟨_,xo,cap,rfl,hat,hfr,hz,hsp2⟩:=ts_owns h1'
   exact h xo cap w' hat ((Below.refl _ wr).grown h2 (Nat.le_refl _) (fun k hk=>by cases hk)) hsp2 hz (.inl hfr)
end Go.Proofs.YtmmdaegdkikkpaaGreatDoor
end

section
set_option maxRecDepth 100000
namespace Go.Proofs
open Go.Shelf
def Tryz.equal_ren:Go.Shelf.Ren:=⟨fun | 34=>147 | n=>n,fun | 25=>55 | 26=>9 | 4=>4 | 3=>3 | 0=>0 | n=>n,fun | n=>n⟩
theorem Tryz.equal:Go.Proofs.SlLaysN.n34 Tryz.prog Tryz.equal_ren:={
 mixed:=by kernel_rfl
 f34:=⟨Tryz.f147.name,by decide,Tryz.func147.trans (congrArg some (by kernel_rfl))⟩
 t0:=Tryz.underlying0
 a0:=Tryz.isAgg0
 z0:=Tryz.sizeOf0
 v0:=Tryz.zeroValue0
 t3:=Tryz.underlying3
 a3:=Tryz.isAgg3
 z3:=Tryz.sizeOf3
 v3:=Tryz.zeroValue3
 t4:=Tryz.underlying4
 a4:=Tryz.isAgg4
 z4:=Tryz.sizeOf4
 v4:=Tryz.zeroValue4
 t25:=Tryz.underlying55
 a25:=Tryz.isAgg55
 z25:=Tryz.sizeOf55
 v25:=Tryz.zeroValue55
 t26:=Tryz.underlying9
 a26:=Tryz.isAgg9
 z26:=Tryz.sizeOf9
 v26:=Tryz.zeroValue9 }
def Tryz.contains_ren:Go.Shelf.Ren:=⟨fun | 32=>228 | 30=>266 | n=>n,fun | 25=>55 | 26=>9 | 4=>4 | 3=>3 | 0=>0 | n=>n,fun | n=>n⟩
theorem Tryz.contains:Go.Proofs.SlLaysN.n32 Tryz.prog Tryz.contains_ren:={
 mixed:=by kernel_rfl
 f30:=⟨Tryz.f266.name,by decide,Tryz.func266.trans (congrArg some (by kernel_rfl))⟩
 f32:=⟨Tryz.f228.name,by decide,Tryz.func228.trans (congrArg some (by kernel_rfl))⟩
 t0:=Tryz.underlying0
 a0:=Tryz.isAgg0
 z0:=Tryz.sizeOf0
 v0:=Tryz.zeroValue0
 t3:=Tryz.underlying3
 a3:=Tryz.isAgg3
 z3:=Tryz.sizeOf3
 v3:=Tryz.zeroValue3
 t4:=Tryz.underlying4
 a4:=Tryz.isAgg4
 z4:=Tryz.sizeOf4
 v4:=Tryz.zeroValue4
 t25:=Tryz.underlying55
 a25:=Tryz.isAgg55
 z25:=Tryz.sizeOf55
 v25:=Tryz.zeroValue55
 t26:=Tryz.underlying9
 a26:=Tryz.isAgg9
 z26:=Tryz.sizeOf9
 v26:=Tryz.zeroValue9 }
def Tryz.compact_ren:Go.Shelf.Ren:=⟨fun | 44=>164 | n=>n,fun | 25=>55 | 26=>9 | 3=>3 | 4=>4 | 0=>0 | n=>n,fun | n=>n⟩
theorem Tryz.compact:Go.Proofs.SlLaysN.n44 Tryz.prog Tryz.compact_ren:={
 mixed:=by kernel_rfl
 f44:=⟨Tryz.f164.name,by decide,Tryz.func164.trans (congrArg some (by kernel_rfl))⟩
 t0:=Tryz.underlying0
 a0:=Tryz.isAgg0
 z0:=Tryz.sizeOf0
 v0:=Tryz.zeroValue0
 t3:=Tryz.underlying3
 a3:=Tryz.isAgg3
 z3:=Tryz.sizeOf3
 v3:=Tryz.zeroValue3
 t4:=Tryz.underlying4
 a4:=Tryz.isAgg4
 z4:=Tryz.sizeOf4
 v4:=Tryz.zeroValue4
 t25:=Tryz.underlying55
 a25:=Tryz.isAgg55
 z25:=Tryz.sizeOf55
 v25:=Tryz.zeroValue55
 t26:=Tryz.underlying9
 a26:=Tryz.isAgg9
 z26:=Tryz.sizeOf9
 v26:=Tryz.zeroValue9
 i26:=by kernel_rfl }
def Tryz.deletef_ren:Go.Shelf.Ren:=⟨fun | 10=>221 | 6=>265 | n=>n,fun | 22=>55 | 23=>9 | 25=>52 | 3=>3 | 4=>4 | 0=>0 | n=>n,fun | n=>n⟩
theorem Tryz.deletef:Go.Proofs.SlLaysH.n10 Tryz.prog Tryz.deletef_ren:={
 mixed:=by kernel_rfl
 f6:=⟨Tryz.f265.name,by decide,Tryz.func265.trans (congrArg some (by kernel_rfl))⟩
 f10:=⟨Tryz.f221.name,by decide,Tryz.func221.trans (congrArg some (by kernel_rfl))⟩
 t0:=Tryz.underlying0
 a0:=Tryz.isAgg0
 z0:=Tryz.sizeOf0
 v0:=Tryz.zeroValue0
 t3:=Tryz.underlying3
 a3:=Tryz.isAgg3
 z3:=Tryz.sizeOf3
 v3:=Tryz.zeroValue3
 t4:=Tryz.underlying4
 a4:=Tryz.isAgg4
 z4:=Tryz.sizeOf4
 v4:=Tryz.zeroValue4
 t22:=Tryz.underlying55
 a22:=Tryz.isAgg55
 z22:=Tryz.sizeOf55
 v22:=Tryz.zeroValue55
 a23:=Tryz.isAgg9
 z23:=Tryz.sizeOf9
 t25:=Tryz.underlying52
 a25:=Tryz.isAgg52
 z25:=Tryz.sizeOf52
 v25:=Tryz.zeroValue52 }
end Go.Proofs
end

section
set_option maxRecDepth 100000
namespace Go.Proofs.YtmmdaegdkikkpaaGreatDoor
open Go.RowKit Go.PlainAid Go.Sort Go.Lib
def toB (x:List UInt8):ByteArray:=⟨x.toArray⟩
theorem toB_list (s:ByteArray):toB s.data.toList=s:=Lib.mk_data s
theorem enc_cells (ss:List (List UInt8)):ss.map encStr=scells (ss.map toB):=by unfold scells; rw [List.map_map]; rfl
theorem cells_enc (l:List ByteArray):scells l=(l.map fun s=>s.data.toList).map encStr:=by
 rw [enc_cells,List.map_map]; congr 1
 exact ((List.map_congr_left fun s _=>toB_list s).trans (List.map_id _)).symm
theorem comp_inv (d:Array (List UInt8)) (hs:∀ i j,i <= j -> j < d.size -> d[i]! <= d[j]!):∀ m,m <= d.size -> (compactUpTo d m).Pairwise (· < ·) /\ ∀ x,x ∈ compactUpTo d m ↔ ∃ j,j < m /\ d[j]! = x
 | 0,_=>⟨by simp [compactUpTo],fun x=>by simp [compactUpTo]⟩
 | m + 1,hm=>by
  obtain ⟨h1,h2⟩:=comp_inv d hs m (by omega)
  rw [compactUpTo_succ]
  by_cases hk:keeps d m=true
  ·rw [if_pos hk]
   have hk':m=0 ∨ d[m]! ≠ d[m - 1]!:=of_decide_eq_true hk
   refine ⟨List.pairwise_append.2 ⟨h1,List.pairwise_singleton _ _,fun x hx y hy => ?_⟩,fun x => ?_⟩
   ·rw [List.mem_singleton.1 hy]
    obtain ⟨j,hj,rfl⟩:=(h2 x).1 hx
    refine List.not_le.1 fun hle => ?_
    rcases hk' with e | e
    ·omega
    ·have a1:=hs j (m - 1) (by omega) (by omega)
     have a2:=hs (m - 1) m (by omega) (by omega)
     exact e (List.le_antisymm (List.le_trans hle a1) a2)
   ·rw [List.mem_append,h2 x,List.mem_singleton]
    constructor
    ·rintro (⟨j,hj,e⟩ | e)
     ·exact ⟨j,by omega,e⟩
     ·exact ⟨m,by omega,e.symm⟩
    ·rintro ⟨j,hj,e⟩
     by_cases ej:j=m
     ·subst ej; exact .inr e.symm
     ·exact .inl ⟨j,by omega,e⟩
  ·rw [if_neg hk,List.append_nil]
   refine ⟨h1,fun x => ?_⟩
   rw [h2 x]
   have hk':¬ (m=0 ∨ d[m]! ≠ d[m - 1]!):=fun h=>hk (decide_eq_true h)
   constructor
   ·rintro ⟨j,hj,e⟩; exact ⟨j,by omega,e⟩
   ·rintro ⟨j,hj,e⟩
    by_cases ej:j=m
    ·subst ej
     refine ⟨j - 1,by omega, ?_⟩
     rw [<- e]
     exact (Classical.not_not.1 fun h=>hk' (.inr h)).symm
    ·exact ⟨j,by omega,e⟩
theorem compact_sorted (l:List ByteArray):(compact ((l.map fun s=>s.data.toList).mergeSort fun x y=>decide (x <= y))).map toB=sortU l:=by
 obtain ⟨ss,hss⟩:∃ ss,(l.map fun s=>s.data.toList)=ss:=⟨_,rfl⟩
 rw [hss]
 have hs:=List.pairwise_mergeSort (le:=fun (x y:List UInt8)=>decide (x <= y)) (fun a b c h1 h2=>decide_eq_true (List.le_trans (of_decide_eq_true h1) (of_decide_eq_true h2))) (fun a b=>by
  rcases List.le_total a b with k | k
  ·simp [k]
  ·simp [k]) ss
 have hp:=List.mergeSort_perm ss (fun x y=>decide (x <= y))
 obtain ⟨zs,hz⟩:∃ zs,(ss.mergeSort fun x y=>decide (x <= y))=zs:=⟨_,rfl⟩
 rw [hz] at hs hp ⊢
 have hg:∀ i j,i <= j -> j < zs.toArray.size -> zs.toArray[i]! <= zs.toArray[j]!:=fun i j hij hj=>by
  have hj':j < zs.length:=by simpa using hj
  rw [getElem!_pos zs.toArray i (by omega),getElem!_pos zs.toArray j hj]
  rcases Nat.lt_or_ge i j with k | k
  ·exact of_decide_eq_true (List.pairwise_iff_getElem.1 hs i j (by omega) hj' k)
  ·have e:i=j:=by omega
   subst e; exact List.le_refl _
 obtain ⟨h1,h2⟩:=comp_inv zs.toArray hg zs.length (by simp)
 refine asc_ext ?_ (sortU_asc l) fun x => ?_
 ·unfold Asc
  rw [List.pairwise_map]
  refine h1.imp fun {a b} h => ?_
  have:=(lt_cmp a b).1 h
  simpa [cmpS,toB] using this
 ·rw [List.mem_map,sortU_mem]
  have hm:∀ y,y ∈ compact zs ↔ y ∈ ss:=fun y=>by
   unfold compact
   rw [h2 y, <- hp.mem_iff]
   constructor
   ·rintro ⟨j,hj,e⟩
    rw [getElem!_pos zs.toArray j (by simpa using hj)] at e
    rw [<- e]; simp
   ·intro hy
    obtain ⟨j,hj,e⟩:=List.getElem_of_mem hy
    exact ⟨j,hj,by rw [getElem!_pos zs.toArray j (by simpa using hj)]; simpa using e⟩
  constructor
  ·rintro ⟨y,hy,rfl⟩
   rw [hm y, <- hss,List.mem_map] at hy
   obtain ⟨s,hs',rfl⟩:=hy
   rw [toB_list]; exact hs'
  ·intro hx
   exact ⟨x.data.toList,(hm _).2 (by rw [<- hss]; exact List.mem_map_of_mem hx),toB_list x⟩
theorem comp_le (zs:List (List UInt8)):(compact zs).length <= zs.length:=by
 unfold compact compactUpTo
 rw [List.length_map]
 exact Nat.le_trans (List.length_filter_le _ _) (by simp)
theorem grow_none (w:World):grow w #[]=w:=by unfold grow; simp
theorem grown_two {w w1 w2:World} {row:Option Nat} (h:w.grownBy w1 row) (k:w1.grownBy w2 row):w.grownBy w2 row:=
 ⟨k.os.trans h.os,k.tape.trans h.tape,k.output.trans h.output,Nat.le_trans h.size k.size,fun j hj hne=>(k.block j (Nat.lt_of_lt_of_le hj h.size) hne).trans (h.block j hj hne)⟩
theorem sort_len (ss:List (List UInt8)):(ss.mergeSort fun x y=>decide (x <= y)).length=ss.length:=(List.mergeSort_perm ss _).length_eq
set_option maxHeartbeats 1000000 in
theorem ascending_s (base n:Nat) (v:Value) (l:List ByteArray) (w:World) (hown:w.ownsRow base 9 1 v n (scells l)) (hl:l.length=n) (hn:n <= 1100000) :
  Calls Tryz.prog 103 #[v] w fun e w'=>∃ u,e = .returned u /\ w'.ownsRow base 9 1 u (sortU l).length (scells (sortU l)) /\ w.grownBy w' v.ownBlock /\ u.ownBlock=v.ownBlock:=by
 rcases hown.2 with ⟨rfl,h0⟩ | ⟨g,cap,cur,rfl,hg,hb,hc,hm,hcs,ht⟩
 ·subst h0
  have hl0:l = []:=List.length_eq_zero_iff.1 hl
  subst hl0
  go_enter Tryz.func103,Tryz.ntmps103
  go_wp2_with fail
  refine (AnyM.slices_Sort_string_none Tryz.sort none 0 _).mono ?_
  rintro e w1 ⟨rfl,rfl⟩
  go_wp2_with fail
  refine (AnyG.slices_Compact_string_empty Tryz.compact none 0 _).mono ?_
  rintro e w1 ⟨rfl,rfl⟩
  go_wp2_with fail
  go_ret
  exact ⟨_,rfl,World.ownsRow_nil _ _ _ _,⟨rfl,rfl,rfl,Nat.le_refl _,fun _ _ _=>rfl⟩,rfl⟩
 ·subst hl
  obtain ⟨ss,hss⟩:∃ ss,(l.map fun s=>s.data.toList)=ss:=⟨_,rfl⟩
  have hsl:ss.length=l.length:=by rw [<- hss,List.length_map]
  have hgl:g < w.heap.size:=by
   rcases Nat.lt_or_ge g w.heap.size with h' | h'
   ·exact h'
   ·simp [Array.getElem?_eq_none h'] at hb
  have hH:Holds encStr w g 0 ss.toArray:=holds_of_block hb (by rw [hsl, <- hss, <- cells_enc]; simpa using ht)
  obtain ⟨ts,hts⟩:∃ ts,(ss.mergeSort fun x y=>decide (x <= y))=ts:=⟨_,rfl⟩
  have htl:ts.length=ss.length:=by rw [<- hts]; exact sort_len ss
  obtain ⟨cs,hcs'⟩:∃ cs,compact ts=cs:=⟨_,rfl⟩
  have hcl:cs.length <= ts.length:=by rw [<- hcs']; exact comp_le ts
  have HE:=Lib.hid (show cs.map toB=sortU l by rw [<- hcs', <- hts, <- hss]; exact compact_sorted l)
  have hS:=AnyM.slices_Sort_string Tryz.sort g 0 cap ss w hH hgl (by omega)
  rw [hsl,hts] at hS
  have HS:=Lib.hid hS
  have hC:∀ (m:Nat) (os:Array Obj),Calls Tryz.prog 164 #[.slice (some ⟨g,0,none⟩) l.length cap] (grow (putRow encStr (Sort.ahead w m) g 0 ts.toArray) os) fun e w' =>
    e = .returned (.slice (some ⟨g,0,none⟩) cs.length cap) /\ w'.ownsRow base 9 1 (.slice (some ⟨g,0,none⟩) cs.length cap) cs.length (scells (cs.map toB)) /\ w.grownBy w' (some g):=by
   intro m os
   have ho1:=ownsRow_sorted (w:=w) (n:=m) (os:=os) (ss:=ss) (ts:=ts) htl hg hb (by omega) hm (by omega)
   obtain ⟨_,h2⟩:=ho1
   rcases h2 with ⟨h2,_⟩ | ⟨g',cap',cur',h2,_,hb',_,_,hcs2,ht'⟩
   ·cases h2
   ·simp only [Value.slice.injEq,Option.some.injEq,Addr.mk.injEq,and_true] at h2
    obtain ⟨rfl,_,rfl⟩:=h2
    have hH2:=holds_of_block (ss:=ts) hb' (by rw [htl]; simpa using ht')
    have h:=AnyG.slices_Compact_string Tryz.compact g 0 cap ts _ hH2 (by omega) (by omega)
    rw [hcs',show ts.length=l.length by omega] at h
    refine h.mono ?_
    rintro e w' ⟨rfl,q,rfl⟩
    refine ⟨rfl, ?_, ?_⟩
    ·obtain ⟨W1,hW1⟩:∃ W1,grow (putRow encStr (Sort.ahead w m) g 0 ts.toArray) os=W1:=⟨_,rfl⟩
     rw [hW1] at hb' ⊢
     have ho2:=ownsRow_sorted (n:=q) (os := #[]) (ss:=ts) (ts:=cs ++ List.replicate (l.length - cs.length) []) (by rw [List.length_append,List.length_replicate]; omega) hg hb' (by omega) hm (by omega)
     rw [grow_none] at ho2
     rcases ho2.2 with ⟨h2,_⟩ | ⟨g',cap',cur'',h2,_,hb'',_,_,hcs3,ht''⟩
     ·cases h2
     ·simp only [Value.slice.injEq,Option.some.injEq,Addr.mk.injEq,and_true] at h2
      obtain ⟨rfl,_,rfl⟩:=h2
      refine ⟨by simp [scells], .inr ⟨g,cap,cur'',rfl,hg,hb'',by omega,hm,hcs3, ?_⟩⟩
      rw [<- enc_cells,Nat.mul_one]
      rw [Nat.mul_one] at ht''
      have h3:=congrArg (List.take cs.length) ht''
      rw [List.take_take,Nat.min_eq_left (by omega),List.map_append,List.take_append_of_le_length (by simp), <- List.map_take,List.take_length] at h3
      exact h3
    ·have h1:=grownBy_sorted (w:=w) (g:=g) (n:=m) (os:=os) ts.toArray
     have h2:=grownBy_sorted (w:=grow (putRow encStr (Sort.ahead w m) g 0 ts.toArray) os) (g:=g) (n:=q) (os := #[]) (cs ++ List.replicate (l.length - cs.length) []).toArray
     rw [grow_none] at h2
     exact grown_two h1 h2
  go_enter Tryz.func103,Tryz.ntmps103
  go_wp2_with fail
  refine HS.out.mono ?_
  rintro e w1 ⟨rfl,m,os,rfl⟩
  go_wp2_with fail
  refine (hC m os).mono ?_
  rintro e w1 ⟨rfl,ho,hg2⟩
  go_wp2_with fail
  go_ret
  have he:=HE.out
  exact ⟨_,rfl,by rw [<- he,List.length_map]; exact ho,hg2,rfl⟩
end Go.Proofs.YtmmdaegdkikkpaaGreatDoor
end

section
set_option maxRecDepth 100000
namespace Go.Proofs.YtmmdaegdkikkpaaGreatDoor
open Go.RowKit Go.PlainAid Go.Maps Go.ChangeMaps
variable {H:Type}
structure SetM (w:World) (b n:Nat) (D:DataW H) (ks:List ByteArray):Prop where
 map:w.ownsMap Tryz.prog 9 (plainElem Tryz.prog 4) b n D
 reads:∀ k:ByteArray,D.atKey (klit k) (.lit (.bool false)) = .lit (.bool (memB ks k))
theorem plain_bool {P:Program} {e:TypeId} {v:Value} {x:Bool} {ps:List MemPlace} (he:P.underlying e=some .bool) (h:plainElem (H:=H) P e v=some (.lit (.bool x),ps)):v = .bool x:=by
 unfold plainElem at h
 rw [he] at h
 cases v <;> simp at h
 rw [h.1]
theorem memB_snoc (ks:List ByteArray) (s k:ByteArray):memB (ks ++ [s]) k=(memB ks k || decide (s=k)):=by
 unfold memB; rw [List.any_append]; simp
theorem setM_made (w:World):SetM (H:=H) (w.alloc (.map #[] 0)) w.heap.size 0 (.map []) [] where
 map:=World.ownsMap_made w _ _ _
 reads k:=rfl
theorem SetM.look {w:World} {b n:Nat} {D:DataW H} {ks:List ByteArray} (G:SetM w b n D ks) (k:ByteArray) (hk:k.size <= maxLen) :
  (Instr.lookup 150 (.map (some b)) (.string k) false).run Tryz.prog w = .ok (.bool (memB ks k)) w:=by
 obtain ⟨v,ps,hrun,hv⟩:=G.map.lookup (t:=150) (e:=4) (string_keyed Tryz.underlying9) Tryz.underlying150 (z := .bool false) (Tryz.zeroValue4 _) (plainElem_bool Tryz.underlying4 false) (klit_key k hk)
 rw [G.reads k] at hv
 have hv':v = .bool (memB ks k):=plain_bool Tryz.underlying4 hv
 rw [hrun,hv']
theorem SetM.store {w:World} {b n:Nat} {D:DataW H} {ks:List ByteArray} (G:SetM w b n D ks) (k:ByteArray) (hk:k.size <= maxLen) (hn:n < maxLen) :
  ∃ w',(Instr.mapUpdate 150 (.map (some b)) (.string k) (.bool true)).run Tryz.prog w = .ok () w' /\ SetM w' b (n + 1) (D.put (klit k) (.lit (.bool true))) (ks ++ [k]) /\ w.grownBy w' (some b):=by
 obtain ⟨w',hrun,hm,hg⟩:=G.map.update (t:=150) (e:=4) (string_keyed Tryz.underlying9) Tryz.underlying150 hn (klit_key k hk) (plainElem_bool Tryz.underlying4 true)
 refine ⟨w',hrun,⟨hm,fun j => ?_⟩,hg⟩
 rw [memB_snoc]
 by_cases e:k=j
 ·subst e
  rw [atKey_put_same G.map.isMap (by unfold klit; trivial)]; simp
 ·rw [atKey_put_other (fun h=>e (klit_one h).symm),G.reads j]
  simp [e]
theorem SetM.kept {w w':World} {b n:Nat} {D:DataW H} {ks:List ByteArray} {row:Option Nat} (G:SetM w b n D ks) (hg:w.grownBy w' row) (hne:some b ≠ row):SetM w' b n D ks:=⟨G.map.kept hg hne,G.reads⟩
set_option maxRecDepth 100000 in
set_option maxHeartbeats 2000000 in
theorem setOf_s (ao:Option Addr) (n cap:Nat) (ps:List ByteArray) (w:World) (h:StrsAt w ao n cap ps) (hn:n <= 1100000) (hS:SmallS ps) :
  Calls Tryz.prog 193 #[.slice ao n cap] w fun e w'=>e = .returned (.map (some w.heap.size)) /\ (∃ D,SetM (H:=Unit) w' w.heap.size n D ps) /\ Below w.heap.size w w':=by
 obtain ⟨h1,h2,h3,h4⟩:=h
 subst h1
 unfold maxLen at h3
 have H4:=Lib.hid h4; clear h4
 have HS:=Lib.hid hS; clear hS
 have hB0:Below w.heap.size w (w.alloc (.map #[] 0)):=(Below.refl _ _).alloc (Nat.le_refl _) _
 have G0:=setM_made (H:=Unit) w
 have hmm := @run_makeMap Tryz.prog
 go_enter Tryz.func193,Tryz.ntmps193
 go_wp2
 clear hmm
 go_loopw [5,9] (fun s i wr=>∃ (k:Nat) (D:DataW Unit),k <= ps.length /\ i = .int .i64 k /\ Hid (SetM wr w.heap.size k D (ps.take k)) /\ Hid (Below w.heap.size w wr)) (fun _ i _=>ps.length - (intOf i).toNat)
 case atStart=>exact ⟨0,_,Nat.zero_le _,rfl,Lib.hid G0,Lib.hid hB0⟩
 case round =>
  obtain ⟨k,D,hk,rfl,HG,HB⟩:=hrel
  by_cases hlt:k < ps.length
  ·obtain ⟨b,off,rfl,hs⟩:=H4.out (by omega)
   have hcell:=(hs.below HB.out hs.1).2 k hlt
   clear hs
   obtain ⟨p,hpe⟩:∃ p,partAt ps k=p:=⟨_,rfl⟩
   have hps:p.size <= 1100000:=by rw [<- hpe]; exact HS.out _ (part_mem ps k hlt)
   rw [hpe] at hcell
   have HT:=Lib.hid (show ps.take (k + 1)=ps.take k ++ [p] by rw [<- hpe]; exact take_snoc ps k hlt)
   clear hpe
   obtain ⟨w',hrun,HG',hgr⟩:=HG.out.store p (by unfold maxLen; omega) (by unfold maxLen; omega)
   have HG2:=Lib.hid HG'
   have HB2:=Lib.hid (HB.out.grown hgr (HB.out.size) (fun j hj=>by cases hj; exact Nat.le_refl _))
   clear HG' hgr
   have d1:(k:Int) < (ps.length:Int):=by omega
   go_wp2_with fail
   go_roundw
   case rel=>exact ⟨k + 1,_,by omega,by go_num,by rw [HT.out]; exact HG2,HB2⟩
   case measure=>simp [intOf]; omega
  ·have hke:k=ps.length:=by omega
   subst hke
   go_wp2_with fail
   go_ret
   have hg:=HG.out
   rw [List.take_length] at hg
   exact ⟨rfl,⟨D,hg⟩,HB.out⟩
theorem memB_app (a b:List ByteArray) (s:ByteArray):memB (a ++ b) s=(memB a s || memB b s):=by unfold memB; rw [List.any_append]
theorem errV_form {vs old:List ByteArray} {j:Nat} {p:ByteArray} (hp:partAt vs j=p):errV vs old j=if cleanB p=false then 4 else if memB (old ++ vs.take j) p=true then 7 else 0:=by
 unfold errV
 rw [hp,memB_app]
 cases cleanB p <;> cases memB old p <;> cases memB (vs.take j) p <;> simp
set_option maxRecDepth 100000 in
set_option maxHeartbeats 2000000 in
theorem checkNew_s (ao bo:Option Addr) (n m cap dap:Nat) (old vs:List ByteArray) (w:World) (h:StrsAt w ao n cap old) (k:StrsAt w bo m dap vs) (hn:n <= 1100000) (hm:m <= 1100000) (hS:SmallS old) (hV:SmallS vs) :
  Calls Tryz.prog 128 #[.slice ao n cap, .slice bo m dap] w fun e w'=>e = .returned (.int .i64 (chkV vs old)) /\ Below w.heap.size w w':=by
 have HO:=Lib.hid (setOf_s ao n cap old w h hn hS)
 obtain ⟨k1,k2,k3,k4⟩:=k
 subst k1
 unfold maxLen at k3
 have K4:=Lib.hid k4; clear k4
 have HV:=Lib.hid hV; clear hV
 go_enter Tryz.func128,Tryz.ntmps128
 go_wp2_with fail
 refine HO.out.mono ?_
 rintro e w1 ⟨rfl,⟨D0,hG⟩,hb⟩
 have HG0:=Lib.hid hG
 have HB0:=Lib.hid hb
 clear hG hb HO
 go_wp2
 go_loopw [7,12,16,20] (fun s i u v wr=>∃ (j:Nat) (D:DataW Unit),j <= vs.length /\ i = .int .i64 j /\ Hid (∀ q,q < j -> errV vs old q=0) /\ Hid (SetM wr w.heap.size (n + j) D (old ++ vs.take j)) /\ Hid (Below w.heap.size w wr)) (fun _ i _ _ _=>vs.length - (intOf i).toNat)
 case atStart=>exact ⟨0,D0,Nat.zero_le _,rfl,Lib.hid (fun q hq=>absurd hq (Nat.not_lt_zero _)),Lib.hid (by simpa using HG0.out),HB0⟩
 case round =>
  obtain ⟨j,D,hj,rfl,HA,HG,HB⟩:=hrel
  by_cases hlt:j < vs.length
  ·obtain ⟨b,off,rfl,hs⟩:=K4.out (by omega)
   have hcell:=(hs.below HB.out hs.1).2 j hlt
   clear hs
   obtain ⟨p,hpe⟩:∃ p,partAt vs j=p:=⟨_,rfl⟩
   have hps:p.size <= 1100000:=by rw [<- hpe]; exact HV.out _ (part_mem vs j hlt)
   rw [hpe] at hcell
   have HF:=Lib.hid (errV_form (vs:=vs) (old:=old) (j:=j) hpe)
   have HT:=Lib.hid (show old ++ vs.take (j + 1)=(old ++ vs.take j) ++ [p] by rw [<- hpe,take_snoc vs j hlt,List.append_assoc])
   clear hpe
   have d1:(j:Int) < (vs.length:Int):=by omega
   cases hc:cleanB p
   ·have HR:=Lib.hid (show chkV vs old=4 by
     have e:errV vs old j=4:=by rw [HF.out,if_pos hc]
     unfold chkV; rw [firstE_hit HA.out (by rw [e]; decide) hlt,e])
    have HCL:=Lib.hid hc
    clear hc
    go_wp2_with (go_at_call 167; refine (clean_s p _ (by omega)).mono ?_; rintro e w' ⟨rfl,rfl⟩; rw [HCL.out])
    go_ret
    exact ⟨by rw [HR.out]; rfl,HB.out⟩
   ·have HCL:=Lib.hid hc
    clear hc
    have hlook:=HG.out.look p (by unfold maxLen; omega)
    cases hm2:memB (old ++ vs.take j) p
    ·have HZ:=Lib.hid (show errV vs old j=0 by rw [HF.out,HCL.out,hm2]; simp)
     rw [hm2] at hlook
     clear hm2
     obtain ⟨w',hrun,HG',hgr⟩:=HG.out.store p (by unfold maxLen; omega) (by unfold maxLen; omega)
     have HG2:=Lib.hid HG'
     have HB2:=Lib.hid (HB.out.grown hgr (HB.out.size) (fun j hj=>by cases hj; exact Nat.le_refl _))
     clear HG' hgr
     go_wp2_with (go_at_call 167; refine (clean_s p _ (by omega)).mono ?_; rintro e w' ⟨rfl,rfl⟩; rw [HCL.out])
     go_roundw
     case rel =>
      refine ⟨j + 1,_,by omega,by go_num,Lib.hid fun q hq => ?_,by rw [HT.out]; exact HG2,HB2⟩
      by_cases e:q=j
      ·rw [e]; exact HZ.out
      ·exact HA.out q (by omega)
     case measure=>simp [intOf]; omega
    ·have HR:=Lib.hid (show chkV vs old=7 by
      have e:errV vs old j=7:=by rw [HF.out,HCL.out,hm2]; simp
      unfold chkV; rw [firstE_hit HA.out (by rw [e]; decide) hlt,e])
     rw [hm2] at hlook
     clear hm2
     go_wp2_with (go_at_call 167; refine (clean_s p _ (by omega)).mono ?_; rintro e w' ⟨rfl,rfl⟩; rw [HCL.out])
     go_ret
     exact ⟨by rw [HR.out]; rfl,HB.out⟩
  ·have hke:j=vs.length:=by omega
   subst hke
   have HR:=Lib.hid (show chkV vs old=0 from firstE_zero HA.out)
   go_wp2_with fail
   go_ret
   exact ⟨by rw [HR.out]; rfl,HB.out⟩
def errA (l:List At) (j:Nat):Int:=
 if nameB (atD l j).1=false then 5 else if twiceB l j=true then 7 else if (atD l j).2.length=0 then 6 else if 16 < (atD l j).2.length then 3 else chkV (atD l j).2 []
def chkA (l:List At):Int:=if 32 < l.length then 3 else firstE (errA l) l.length
def lowN (l:List At):List ByteArray:=l.map fun a=>lowS a.1
theorem twice_mem (l:List At) (j:Nat):memB (lowN (l.take j)) (lowS (atD l j).1)=twiceB l j:=by
 unfold memB lowN twiceB
 rw [List.any_map]; rfl
theorem SetM.below {H:Type} {w w':World} {b n:Nat} {D:DataW H} {ks:List ByteArray} (G:SetM w b n D ks) (hb:Below w.heap.size w w'):SetM w' b n D ks:=
 G.kept (row:=none) ⟨hb.os,hb.tape,hb.output,hb.size,fun k hk _=>hb.block k hk⟩ (by simp)
def ABox (w:World) (b:Nat) (nm:ByteArray) (v:Value):Prop:=w.heap[b]? = some (.cells #[.string nm,v] 58)
theorem abox_new (w:World) (nm:ByteArray) (v:Value):ABox (w.alloc (.cells #[.string nm,v] 58)) w.heap.size nm v:=heap_alloc_new w _
theorem ABox.cells {w:World} {b:Nat} {nm:ByteArray} {v:Value} (h:ABox w b nm v):w.cell? ⟨b,0,none⟩=some (.string nm) /\ w.cell? ⟨b,1,none⟩=some v:=by
 unfold ABox at h
 exact ⟨by simp [World.cell?,h],by simp [World.cell?,h]⟩
theorem ABox.lt {w:World} {b:Nat} {nm:ByteArray} {v:Value} (h:ABox w b nm v):b < w.heap.size:=(Array.getElem?_eq_some_iff.1 h).1
theorem ABox.below {w w':World} {b:Nat} {nm:ByteArray} {v:Value} (h:ABox w b nm v) (hb:Below w.heap.size w w'):ABox w' b nm v:=(hb.block b h.lt).trans h
theorem ABox.grown {w w':World} {b:Nat} {nm:ByteArray} {v:Value} {row:Option Nat} (h:ABox w b nm v) (hg:w.grownBy w' row) (hne:some b ≠ row):ABox w' b nm v:=(hg.block b h.lt hne).trans h
def FewV (l:List At):Prop := ∀ a ∈ l,a.2.length <= 1100000
set_option maxRecDepth 100000 in
set_option maxHeartbeats 4000000 in
theorem check_s (ao:Option Addr) (n cap:Nat) (l:List At) (w:World) (h:AttrsAt w ao n cap l) (hS:SmallA l) (hF:FewV l) :
  Calls Tryz.prog 73 #[.slice ao n cap] w fun e w'=>e = .returned (.int .i64 (chkA l)) /\ Below w.heap.size w w':=by
 obtain ⟨h1,h2,h3,h4⟩:=h
 subst h1
 unfold maxLen at h3
 have H4:=Lib.hid h4; clear h4
 have HS:=Lib.hid hS; clear hS
 have HF:=Lib.hid hF; clear hF
 by_cases h32:32 < l.length
 ·have HR:=Lib.hid (show chkA l=3 from if_pos h32)
  have d0:decide ((32:Int) < (l.length:Int))=true:=decide_eq_true (by omega)
  go_enter Tryz.func73,Tryz.ntmps73
  go_wp2_with fail
  go_ret
  exact ⟨by rw [HR.out]; rfl,Below.refl _ _⟩
 ·have HR:=Lib.hid (show chkA l=firstE (errA l) l.length from if_neg h32)
  have d0:decide ((32:Int) < (l.length:Int))=false:=decide_eq_false (by omega)
  have hB0:Below w.heap.size w (w.alloc (.map #[] 0)):=(Below.refl _ _).alloc (Nat.le_refl _) _
  have G0:=setM_made (H:=Unit) w
  have hmm := @run_makeMap Tryz.prog
  go_enter Tryz.func73,Tryz.ntmps73
  go_wp2
  clear hmm d0
  go_loopw [5,6,7,14,21,26,30,35] (fun s5 s6 s7 i u21 u26 u30 u35 wr=>∃ (j:Nat) (D:DataW Unit),j <= l.length /\ i = .int .i64 j /\ Hid (∀ q,q < j -> errA l q=0) /\ Hid (SetM wr w.heap.size j D (lowN (l.take j))) /\ Hid (Below w.heap.size w wr)) (fun _ _ _ i _ _ _ _ _=>l.length - (intOf i).toNat)
  case atStart=>exact ⟨0,_,Nat.zero_le _,rfl,Lib.hid (fun q hq=>absurd hq (Nat.not_lt_zero _)),Lib.hid G0,Lib.hid hB0⟩
  case round =>
   obtain ⟨j,D,hj,rfl,HA,HG,HB⟩:=hrel
   by_cases hlt:j < l.length
   ·obtain ⟨b,off,rfl,hblt,hat⟩:=H4.out (by omega)
    obtain ⟨c0,vo,vn,vc,c1,hv⟩:=hat j hlt
    have c0:=cell_later HB.out c0
    have c1:=cell_later HB.out c1
    obtain ⟨nm,hnm⟩:∃ x,(atD l j).1=x:=⟨_,rfl⟩
    obtain ⟨vs,hvs⟩:∃ x,(atD l j).2=x:=⟨_,rfl⟩
    have hsz:=HS.out _ (at_mem l j hlt)
    have hfw:=HF.out _ (at_mem l j hlt)
    have HE:=Lib.hid (show errA l j=if nameB nm=false then 5 else if memB (lowN (l.take j)) (lowS nm)=true then 7 else if vs.length=0 then 6 else if 16 < vs.length then 3 else chkV vs [] by rw [<- hnm, <- hvs,twice_mem]; rfl)
    have HT:=Lib.hid (show lowN (l.take (j + 1))=lowN (l.take j) ++ [lowS nm] by rw [at_take l j hlt, <- hnm]; unfold lowN; rw [List.map_append]; rfl)
    rw [hnm] at c0 hsz
    rw [hvs] at hv hsz hfw
    clear hnm hvs hat
    have hns:=hsz.1
    have HVS:=Lib.hid hsz.2
    have HV:=Lib.hid hv
    have d1:(j:Int) < (l.length:Int):=by omega
    clear hsz hv
    go_wp2_with fail
    obtain ⟨W1,hW1⟩:∃ W1,wr.alloc (.cells #[.string nm, .slice vo vn vc] 58)=W1:=⟨_,rfl⟩
    have hbl1:Below wr.heap.size wr W1:=by rw [<- hW1]; exact (Below.refl _ wr).alloc (Nat.le_refl _) _
    have X1:ABox W1 wr.heap.size nm (.slice vo vn vc):=by rw [<- hW1]; exact abox_new wr nm _
    have HB1:=Lib.hid (HB.out.trans (hbl1.mono HB.out.size))
    have HG1:=Lib.hid (HG.out.below hbl1)
    rw [hW1]
    clear hW1
    refine (lower_s nm W1 (by omega)).mono ?_
    rintro e W2 ⟨rfl,hb⟩
    obtain ⟨b0,b1⟩:=(X1.below hb).cells
    have HX2:=Lib.hid (X1.below hb)
    have HB2:=Lib.hid (HB1.out.trans (hb.mono HB1.out.size))
    have HG2:=Lib.hid (HG1.out.below hb)
    have hwb:w.heap.size < wr.heap.size:=HG.out.map.lt
    have hls:(lowS nm).size <= 1100000:=by rw [lowS_size]; omega
    obtain ⟨lw,hlw⟩:∃ x,lowS nm=x:=⟨_,rfl⟩
    rw [hlw] at hls ⊢
    have HE2:=HE
    have HT2:=HT
    rw [hlw] at HE2 HT2
    clear hlw HE HT hb X1 HG1 HB1 hbl1
    have hvl:vs.length=vn:=HV.out.1
    cases hnb:nameB nm
    ·have HR2:=Lib.hid (show chkA l=5 by
      have e:errA l j=5:=by rw [HE2.out,if_pos hnb]
      rw [HR.out,firstE_hit HA.out (by rw [e]; decide) hlt,e])
     have HNB:=Lib.hid hnb
     clear hnb
     go_wp2_with (go_at_call 127; refine (name_s nm _ (by omega)).mono ?_; rintro e w' ⟨rfl,rfl⟩; rw [HNB.out])
     go_ret
     exact ⟨by rw [HR2.out]; rfl,HB2.out⟩
    ·have HNB:=Lib.hid hnb
     clear hnb
     have hlook:=HG2.out.look lw (by unfold maxLen; omega)
     cases hm2:memB (lowN (l.take j)) lw
     ·rw [hm2] at hlook
      have HM:=Lib.hid hm2
      clear hm2
      by_cases hz:vs.length=0
      ·have HR2:=Lib.hid (show chkA l=6 by
        have e:errA l j=6:=by rw [HE2.out,HNB.out,HM.out,if_neg (by decide),if_neg (by decide),if_pos hz]
        rw [HR.out,firstE_hit HA.out (by rw [e]; decide) hlt,e])
       have d2:((vn:Int) == 0)=true:=beq_iff_eq.2 (by omega)
       go_wp2_with (go_at_call 127; refine (name_s nm _ (by omega)).mono ?_; rintro e w' ⟨rfl,rfl⟩; rw [HNB.out])
       go_ret
       exact ⟨by rw [HR2.out]; rfl,HB2.out⟩
      ·have d2:((vn:Int) == 0)=false:=beq_eq_false_iff_ne.2 (by omega)
       by_cases h16:16 < vs.length
       ·have HR2:=Lib.hid (show chkA l=3 by
         have e:errA l j=3:=by rw [HE2.out,HNB.out,HM.out,if_neg (by decide),if_neg (by decide),if_neg hz,if_pos h16]
         rw [HR.out,firstE_hit HA.out (by rw [e]; decide) hlt,e])
        have d3:decide ((16:Int) < (vn:Int))=true:=decide_eq_true (by omega)
        go_wp2_with (go_at_call 127; refine (name_s nm _ (by omega)).mono ?_; rintro e w' ⟨rfl,rfl⟩; rw [HNB.out])
        go_ret
        exact ⟨by rw [HR2.out]; rfl,HB2.out⟩
       ·have d3:decide ((16:Int) < (vn:Int))=false:=decide_eq_false (by omega)
        have HC:=Lib.hid (show errA l j=chkV vs [] by rw [HE2.out,HNB.out,HM.out,if_neg (by decide),if_neg (by decide),if_neg hz,if_neg h16])
        obtain ⟨W3,hrun,HG',hgr⟩:=HG2.out.store lw (by unfold maxLen; omega) (by unfold maxLen; omega)
        have HG3:=Lib.hid HG'
        have HB3:=Lib.hid (HB2.out.grown hgr (HB2.out.size) (fun j hj=>by cases hj; exact Nat.le_refl _))
        have HX3:=Lib.hid (HX2.out.grown hgr (by intro e; have:=Option.some.inj e; omega))
        obtain ⟨b2,b3⟩:=HX3.out.cells
        have HV3:=Lib.hid (HV.out.below HB3.out)
        have HN3:=Lib.hid (show StrsAt W3 none 0 0 [] from ⟨rfl,Nat.le_refl _,by unfold maxLen; omega,fun h=>absurd h (Nat.lt_irrefl _)⟩)
        clear HG' hgr
        obtain ⟨r,hr⟩:∃ r,chkV vs []=r:=⟨_,rfl⟩
        have HRR:=Lib.hid hr
        clear hr
        by_cases hr0:r=0
        ·subst hr0
         go_wp2_with (first
          | (go_at_call 127; refine (name_s nm _ (by omega)).mono ?_; rintro e w' ⟨rfl,rfl⟩; rw [HNB.out])
          | (go_at_call 128; refine (checkNew_s none vo 0 vn 0 vc [] vs W3 HN3.out HV3.out (by omega) (by omega) (by intro v hv; cases hv) HVS.out).mono ?_; rintro e W4 ⟨rfl,hb⟩; rw [HRR.out]; have HB4:=Lib.hid (HB3.out.trans (hb.mono HB3.out.size)); have HG4:=Lib.hid (HG3.out.below hb)))
         go_roundw
         case rel =>
          refine ⟨j + 1,_,by omega,by go_num,Lib.hid fun q hq => ?_,by rw [HT2.out]; exact HG4,HB4⟩
          by_cases e:q=j
          ·rw [e,HC.out,HRR.out]
          ·exact HA.out q (by omega)
         case measure=>simp [intOf]; omega
        ·have HR2:=Lib.hid (show chkA l=r by
          have e:errA l j=r:=by rw [HC.out,HRR.out]
          rw [HR.out,firstE_hit HA.out (by rw [e]; exact hr0) hlt,e])
         have d4:(r == 0)=false:=beq_eq_false_iff_ne.2 hr0
         have d5:(r != 0)=true:=by unfold bne; rw [d4]; rfl
         clear hr0
         go_wp2_with (first
          | (go_at_call 127; refine (name_s nm _ (by omega)).mono ?_; rintro e w' ⟨rfl,rfl⟩; rw [HNB.out])
          | (go_at_call 128; refine (checkNew_s none vo 0 vn 0 vc [] vs W3 HN3.out HV3.out (by omega) (by omega) (by intro v hv; cases hv) HVS.out).mono ?_; rintro e W4 ⟨rfl,hb⟩; rw [HRR.out]; have HB4:=Lib.hid (HB3.out.trans (hb.mono HB3.out.size))))
         go_ret
         exact ⟨by rw [HR2.out]; rfl,HB4.out⟩
     ·have HR2:=Lib.hid (show chkA l=7 by
       have e:errA l j=7:=by rw [HE2.out,HNB.out,hm2,if_neg (by decide),if_pos rfl]
       rw [HR.out,firstE_hit HA.out (by rw [e]; decide) hlt,e])
      rw [hm2] at hlook
      clear hm2
      go_wp2_with (go_at_call 127; refine (name_s nm _ (by omega)).mono ?_; rintro e w' ⟨rfl,rfl⟩; rw [HNB.out])
      go_ret
      exact ⟨by rw [HR2.out]; rfl,HB2.out⟩
   ·have hke:j=l.length:=by omega
    subst hke
    have HR2:=Lib.hid (show chkA l=0 by rw [HR.out]; exact firstE_zero HA.out)
    go_wp2_with fail
    go_ret
    exact ⟨by rw [HR2.out]; rfl,HB.out⟩
theorem allV_snoc (l:List At) (a:At) (n:ByteArray):allV (l ++ [a]) n=allV l n ++ (if lowS a.1=n then a.2 else []):=by
 unfold allV
 rw [List.filter_append,List.flatMap_append]
 congr 1
 by_cases h:lowS a.1=n <;> simp [h]
structure United (w:World) (b k:Nat) (D:DataW Unit) (l:List At) (hv:ByteArray -> Value):Prop where
 grp:Groups w (b + 1) b k D (allV l) hv
 keys:∀ x:ByteArray,Maps.has D (klit x)=true ↔ x ∈ lowN l
theorem united_made (w:World):United (w.alloc (.map #[] 0)) w.heap.size 0 (.map []) [] (fun _ => .slice none 0 0) where
 grp:=groups_made w
 keys x:=by simp [lowN,Maps.has]
theorem Groups.below {H:Type} {w w':World} {base b n:Nat} {D:DataW H} {gv:ByteArray -> List ByteArray} {hv:ByteArray -> Value} (G:Groups w base b n D gv hv) (hb:Below w.heap.size w w'):Groups w' base b n D gv hv where
 map:=G.map.kept (row:=none) ⟨hb.os,hb.tape,hb.output,hb.size,fun k hk _=>hb.block k hk⟩ (by simp)
 low:=G.low
 reads:=G.reads
 own k:=own_below (G.own k) hb
 apart:=G.apart
theorem United.below {w w':World} {b k:Nat} {D:DataW Unit} {l:List At} {hv:ByteArray -> Value} (U:United w b k D l hv) (hb:Below w.heap.size w w'):United w' b k D l hv:=⟨U.grp.below hb,U.keys⟩
theorem United.store {w w1:World} {b k:Nat} {D:DataW Unit} {l:List At} {hv:ByteArray -> Value} (U:United w b k D l hv) (a:At) {lw:ByteArray} (hlw:lowS a.1=lw) (hk:lw.size <= maxLen) (hn:k < maxLen) {v':Value}
  (hg:w.grownBy w1 (hv lw).ownBlock) (hown:w1.ownsRow (b + 1) 9 1 v' ((allV l lw).length + a.2.length) (scells (allV l lw) ++ scells a.2)) (hl:v'.ownBlock=(hv lw).ownBlock ∨ v'.ownBlock=some w.heap.size) :
  ∃ w2 D2 hv2,(Instr.mapUpdate 112 (.map (some b)) (.string lw) v').run Tryz.prog w1 = .ok () w2 /\ United w2 b (k + 1) D2 (l ++ [a]) hv2 /\ w1.grownBy w2 (some b):=by
 have hown':w1.ownsRow (b + 1) 9 1 v' (allV l lw ++ a.2).length (scells (allV l lw ++ a.2)):=by
  rw [List.length_append]
  have:scells (allV l lw ++ a.2)=scells (allV l lw) ++ scells a.2:=by unfold scells; rw [List.map_append]
  rw [this]; exact hown
 obtain ⟨w2,d,hrun,G,hg2⟩:=U.grp.store lw hk hn hg hown' (hl.imp id fun e=>⟨_,e,Nat.le_refl _⟩)
 have e:setK (allV l) lw (allV l lw ++ a.2)=allV (l ++ [a]):=by
  funext n
  rw [allV_snoc,hlw]
  by_cases h:lw=n
  ·subst h; rw [setK_same,if_pos rfl]
  ·rw [setK_other _ _ (fun e=>h e.symm),if_neg h,List.append_nil]
 rw [e] at G
 refine ⟨w2,_,_,hrun,⟨G,fun x => ?_⟩,hg2⟩
 have hm:lowN (l ++ [a])=lowN l ++ [lw]:=by unfold lowN; rw [List.map_append, <- hlw]; rfl
 rw [hm,List.mem_append,List.mem_singleton]
 by_cases h:x=lw
 ·subst h
  rw [has_put_same U.grp.map.isMap (by unfold klit; trivial)]
  simp
 ·rw [has_put_other (fun e=>h (klit_one e)),U.keys x]
  simp [h]
def sumV (l:List At):Nat:=(l.map fun a=>a.2.length).sum
theorem sumV_cons (a:At) (l:List At):sumV (a :: l)=a.2.length + sumV l:=by unfold sumV; rw [List.map_cons,List.sum_cons]
theorem allV_cons (a:At) (l:List At) (n:ByteArray):allV (a :: l) n=(if lowS a.1=n then a.2 else []) ++ allV l n:=by
 unfold allV
 by_cases h:lowS a.1=n
 ·rw [List.filter_cons_of_pos (by simpa using h),List.flatMap_cons,if_pos h]
 ·rw [List.filter_cons_of_neg (by simpa using h),if_neg h]; rfl
theorem allV_len (n:ByteArray):∀ l:List At,(allV l n).length <= sumV l
 | []=>Nat.le_refl _
 | a :: l=>by
  rw [allV_cons,sumV_cons,List.length_append]
  have:=allV_len n l
  split
  ·omega
  ·simp; omega
theorem sumV_take:∀ (l:List At) (j:Nat),sumV (l.take j) <= sumV l
 | [],j=>by simp
 | a :: l,0=>by simp [sumV]
 | a :: l,j + 1=>by
  rw [List.take_succ_cons,sumV_cons,sumV_cons]
  have:=sumV_take l j
  omega
end Go.Proofs.YtmmdaegdkikkpaaGreatDoor
end

section
set_option maxRecDepth 100000
namespace Go.Proofs.YtmmdaegdkikkpaaGreatDoor
open Go.PlainAid
def plainI (c:Int):Bool:=decide (33 <= c) && decide (c <= 126) && !(c == 37) && !(c == 124) && !(c == 44) && !(c == 61) && !(c == 59) && !(c == 34)
def plainC (c:UInt8):Bool:=plainI (c.toNat:Int)
def hexC (d:Nat):UInt8:=if d < 10 then UInt8.ofNat (48 + d) else UInt8.ofNat (55 + d)
def escC (c:UInt8):List UInt8:=if plainC c then [c] else [37,hexC (c.toNat / 16),hexC (c.toNat % 16)]
def escL (l:List UInt8):List UInt8:=l.flatMap escC
def hexS:ByteArray:=⟨#[48,49,50,51,52,53,54,55,56,57,65,66,67,68,69,70]⟩
theorem hexC_table:∀ d:Nat,d < 16 -> bt hexS d=((hexC d).toNat:Int):=by decide +kernel
theorem escL_snoc (l:List UInt8) (c:UInt8):escL (l ++ [c])=escL l ++ escC c:=by simp [escL]
theorem escC_length (c:UInt8):(escC c).length <= 3:=by unfold escC; split <;> simp
theorem escL_length (l:List UInt8):(escL l).length <= 3 * l.length:=by
 induction l with
 | nil=>simp [escL]
 | cons c l ih =>
  have e:escL (c :: l)=escC c ++ escL l:=by simp [escL]
  rw [e,List.length_append,List.length_cons]
  have:=escC_length c
  omega
theorem escC_plain (c:UInt8) (h:plainC c=true):escC c = [c]:=by unfold escC; rw [if_pos h]
theorem escC_other (c:UInt8) (h:plainC c=false):escC c = [37,hexC (c.toNat / 16),hexC (c.toNat % 16)]:=by unfold escC; rw [if_neg (by simp [h])]
theorem hex_hi (x:Int) (c:UInt8) (h:x=(c.toNat:Int)):bt (⟨#[48,49,50,51,52,53,54,55,56,57,65,66,67,68,69,70]⟩:ByteArray) (x / 16).toNat=((hexC (c.toNat / 16)).toNat:Int):=by
 have hc:=c.toNat_lt
 have e:(x / 16).toNat=c.toNat / 16:=by omega
 rw [e]
 exact hexC_table _ (by omega)
theorem hex_lo (x:Int) (c:UInt8) (h:x=(c.toNat:Int)):bt (⟨#[48,49,50,51,52,53,54,55,56,57,65,66,67,68,69,70]⟩:ByteArray) (x % 16).toNat=((hexC (c.toNat % 16)).toNat:Int):=by
 have e:(x % 16).toNat=c.toNat % 16:=by omega
 rw [e]
 exact hexC_table _ (by omega)
def chr (s:ByteArray) (k:Nat):UInt8:=s.data.toList.getD k 0
theorem bt_chr (s:ByteArray) (k:Nat):bt s k=((chr s k).toNat:Int):=by
 unfold chr
 by_cases h:k < s.size
 ·rw [bt_at s k h,List.getD_eq_getElem?_getD,List.getElem?_eq_getElem (by simpa using h)]; rfl
 ·rw [bt_end s (by omega),List.getD_eq_getElem?_getD,List.getElem?_eq_none (by rw [<- Lib.size_eq]; omega)]; rfl
theorem take_chr (s:ByteArray) (k:Nat) (h:k < s.size):s.data.toList.take (k + 1)=s.data.toList.take k ++ [chr s k]:=by
 rw [take_succ s k h]; unfold chr; rw [List.getD_eq_getElem?_getD,List.getElem?_eq_getElem (by simpa using h)]; rfl
theorem esc_step (s:ByteArray) (k:Nat) (h:k < s.size):escL (s.data.toList.take (k + 1))=escL (s.data.toList.take k) ++ escC (chr s k):=by rw [take_chr s k h,escL_snoc]
theorem plain_chr (s:ByteArray) (k:Nat):plainC (chr s k)=plainI (bt s k):=by unfold plainC; rw [bt_chr]
end Go.Proofs.YtmmdaegdkikkpaaGreatDoor
end
