/-
  Texts of the schema layer and of those beneath it, joined: SchT, EntRt, AttRS, AttR2, AttR3, AttR4, AttR5, AttR6, AttR7. Conditions stand at each contract.
-/
import Derived.Deep.RegionHeld
import Derived.KernelRfl
import Derived.Test.YtmmdaegdkikkpaaGreatDoorT08
set_option linter.unusedVariables false
set_option linter.unusedSimpArgs false
set_option linter.unnecessarySimpa false

section
set_option maxRecDepth 100000
namespace Go.Proofs.YtmmdaegdkikkpaaGreatDoor
open Go.RowKit Go.PlainAid Go.Maps
def zeroTy:Ty:=⟨⟨#[]⟩,0,false⟩
def zeroCv:Cv:=⟨⟨⟨#[]⟩,⟨#[]⟩,[],[]⟩, .slice none 0 0, .slice none 0 0⟩
def zeroTyV:Value := .agg #[.string ⟨#[]⟩, .int .i64 0, .bool false]
def zeroClV:Value := .agg #[.string ⟨#[]⟩, .string ⟨#[]⟩, .slice none 0 0, .slice none 0 0]
def TMap (w:World) (mv:Option Nat) (ts:List Ty):Prop := ∃ f,MapVal w mv f /\ ∀ n,f (lowS n)=(tyOf ts n).map tyV
def CMap (w0 w:World) (mv:Option Nat) (cs:List Cl):Prop:=
 ∃ f,MapVal w mv f /\ ∀ n,(clOf cs n=none -> f (lowS n)=none) /\ ∀ c,clOf cs n=some c -> ∃ d:Cv,d.cl=c /\ CvOk w0 d /\ f (lowS n)=some (cvV d)
theorem TMap.below {w w':World} {mv:Option Nat} {ts:List Ty} (h:TMap w mv ts) (hb:Below w.heap.size w w'):TMap w' mv ts:=by
 obtain ⟨f,h,k⟩:=h; exact ⟨f,h.below hb,k⟩
theorem CMap.below {w0 w w':World} {mv:Option Nat} {cs:List Cl} (h:CMap w0 w mv cs) (hb:Below w.heap.size w w'):CMap w0 w' mv cs:=by
 obtain ⟨f,h,k⟩:=h; exact ⟨f,h.below hb,k⟩
theorem CMap.base {w0 w1 w:World} {mv:Option Nat} {cs:List Cl} (h:CMap w0 w mv cs) (hb:Below w0.heap.size w0 w1):CMap w1 w mv cs:=by
 obtain ⟨f,h,k⟩:=h
 refine ⟨f,h,fun n=>⟨(k n).1,fun c hc => ?_⟩⟩
 obtain ⟨d,e,ho,hf⟩:=(k n).2 c hc
 exact ⟨d,e,ho.below hb,hf⟩
theorem TMap.kept {w w':World} {mv:Option Nat} {ts:List Ty} {row:Option Nat} (h:TMap w mv ts) (hg:w.grownBy w' row) (hne:∀ b,mv=some b -> some b ≠ row):TMap w' mv ts:=by
 obtain ⟨f,h,k⟩:=h; exact ⟨f,h.kept hg hne,k⟩
theorem CMap.kept {w0 w w':World} {mv:Option Nat} {cs:List Cl} {row:Option Nat} (h:CMap w0 w mv cs) (hg:w.grownBy w' row) (hne:∀ b,mv=some b -> some b ≠ row):CMap w0 w' mv cs:=by
 obtain ⟨f,h,k⟩:=h; exact ⟨f,h.kept hg hne,k⟩
theorem tmap_nil (w:World):TMap w none []:=⟨fun _=>none, .inl ⟨rfl,fun _=>rfl⟩,fun _=>rfl⟩
theorem cmap_nil (w0 w:World):CMap w0 w none []:=⟨fun _=>none, .inl ⟨rfl,fun _=>rfl⟩,fun _=>⟨fun _=>rfl,fun c hc=>by cases hc⟩⟩
theorem TMap.look {w:World} {mv:Option Nat} {ts:List Ty} (h:TMap w mv ts) (n:ByteArray) (hn:n.size <= 1000000000) :
  (Instr.lookup 127 (.map mv) (.string (lowS n)) true).run Tryz.prog w = .ok (.tuple #[((tyOf ts n).map tyV).getD zeroTyV, .bool (tyOf ts n).isSome]) w:=by
 obtain ⟨f,h,k⟩:=h
 rw [h.look_ok Tryz.underlying127 (Tryz.zeroValue62 _) (lowS n) (by rw [lowS_size]; unfold maxLen; omega),k n]
 cases tyOf ts n <;> rfl
theorem CMap.look {w0 w:World} {mv:Option Nat} {cs:List Cl} (h:CMap w0 w mv cs) (n:ByteArray) (hn:n.size <= 1000000000) :
  ∃ v,(Instr.lookup 128 (.map mv) (.string (lowS n)) true).run Tryz.prog w = .ok (.tuple #[v, .bool (clOf cs n).isSome]) w /\ (clOf cs n=none -> v=zeroClV) /\ ∀ c,clOf cs n=some c -> ∃ d:Cv,d.cl=c /\ CvOk w0 d /\ v=cvV d:=by
 obtain ⟨f,h,k⟩:=h
 refine ⟨(f (lowS n)).getD zeroClV, ?_,fun hc=>by rw [(k n).1 hc]; rfl,fun c hc => ?_⟩
 ·rw [h.look_ok Tryz.underlying128 (Tryz.zeroValue64 _) (lowS n) (by rw [lowS_size]; unfold maxLen; omega)]
  cases hc:clOf cs n with
  | none=>rw [(k n).1 hc]; rfl
  | some c =>
   obtain ⟨d,e,ho,hf⟩:=(k n).2 c hc
   rw [hf]; rfl
 ·obtain ⟨d,e,ho,hf⟩:=(k n).2 c hc
  exact ⟨d,e,ho,by rw [hf]; rfl⟩
def TOpen (w:World) (b n:Nat) (ts:List Ty):Prop := ∃ f,RawMap w b n f /\ ∀ m,f (lowS m)=(tyOf ts m).map tyV
def COpen (w0 w:World) (b n:Nat) (cs:List Cl):Prop:=
 ∃ f,RawMap w b n f /\ ∀ n,(clOf cs n=none -> f (lowS n)=none) /\ ∀ c,clOf cs n=some c -> ∃ d:Cv,d.cl=c /\ CvOk w0 d /\ f (lowS n)=some (cvV d)
theorem TOpen.map {w:World} {b n:Nat} {ts:List Ty} (h:TOpen w b n ts):TMap w (some b) ts:=by
 obtain ⟨f,h,k⟩:=h; exact ⟨f, .inr ⟨b,n,rfl,h⟩,k⟩
theorem COpen.map {w0 w:World} {b n:Nat} {cs:List Cl} (h:COpen w0 w b n cs):CMap w0 w (some b) cs:=by
 obtain ⟨f,h,k⟩:=h; exact ⟨f, .inr ⟨b,n,rfl,h⟩,k⟩
theorem TOpen.lt {w:World} {b n:Nat} {ts:List Ty} (h:TOpen w b n ts):b < w.heap.size:=by obtain ⟨f,h,_⟩:=h; exact h.lt
theorem COpen.lt {w0 w:World} {b n:Nat} {ts:List Cl} (h:COpen w0 w b n ts):b < w.heap.size:=by obtain ⟨f,h,_⟩:=h; exact h.lt
theorem TOpen.below {w w':World} {b n:Nat} {ts:List Ty} {B:Nat} (h:TOpen w b n ts) (hb:Below B w w') (hB:b < B):TOpen w' b n ts:=by
 obtain ⟨f,h,k⟩:=h; exact ⟨f,h.below hb hB,k⟩
theorem COpen.below {w0 w w':World} {b n:Nat} {cs:List Cl} {B:Nat} (h:COpen w0 w b n cs) (hb:Below B w w') (hB:b < B):COpen w0 w' b n cs:=by
 obtain ⟨f,h,k⟩:=h; exact ⟨f,h.below hb hB,k⟩
theorem TOpen.kept {w w':World} {b n:Nat} {ts:List Ty} {row:Option Nat} (h:TOpen w b n ts) (hg:w.grownBy w' row) (hne:some b ≠ row):TOpen w' b n ts:=by
 obtain ⟨f,h,k⟩:=h; exact ⟨f,h.kept hg hne,k⟩
theorem COpen.kept {w0 w w':World} {b n:Nat} {cs:List Cl} {row:Option Nat} (h:COpen w0 w b n cs) (hg:w.grownBy w' row) (hne:some b ≠ row):COpen w0 w' b n cs:=by
 obtain ⟨f,h,k⟩:=h; exact ⟨f,h.kept hg hne,k⟩
theorem topen_made (w:World):TOpen (w.alloc (.map #[] 0)) w.heap.size 0 []:=⟨_,raw_made w,fun m=>rfl⟩
theorem copen_made (w0 w:World):COpen w0 (w.alloc (.map #[] 0)) w.heap.size 0 []:=⟨_,raw_made w,fun m=>⟨fun _=>rfl,fun c hc=>by cases hc⟩⟩
theorem TOpen.store {w:World} {b n:Nat} {ts:List Ty} (h:TOpen w b n ts) (t:Ty) (hn:n < 1100000) (hz:t.name.size <= 1000000000) (hT:tyOf ts t.name=none) :
  ∃ w',(Instr.mapUpdate 127 (.map (some b)) (.string (lowS t.name)) (tyV t)).run Tryz.prog w = .ok () w' /\ TOpen w' b (n + 1) (ts ++ [t]) /\ w.grownBy w' (some b):=by
 obtain ⟨f,h,k⟩:=h
 obtain ⟨w',hrun,hm,hg⟩:=h.store Tryz.underlying127 (by unfold maxLen; omega) (lowS t.name) (by rw [lowS_size]; unfold maxLen; omega) (tyV t)
 refine ⟨w',hrun,⟨_,hm,fun m => ?_⟩,hg⟩
 rw [tyOf_snoc]
 unfold setO
 by_cases e:lowS m=lowS t.name
 ·have:tyOf ts m=none:=by rw [<- tyOf_low,e,tyOf_low]; exact hT
  rw [if_pos e,this,if_pos e.symm]; rfl
 ·rw [if_neg e,k m,if_neg (fun h=>e h.symm),Option.or_none]
theorem COpen.store {w0 w:World} {b n:Nat} {cs:List Cl} (h:COpen w0 w b n cs) (d:Cv) (hd:CvOk w0 d) (hn:n < 1100000) (hz:d.cl.name.size <= 1000000000) (hT:clOf cs d.cl.name=none) :
  ∃ w',(Instr.mapUpdate 128 (.map (some b)) (.string (lowS d.cl.name)) (cvV d)).run Tryz.prog w = .ok () w' /\ COpen w0 w' b (n + 1) (cs ++ [d.cl]) /\ w.grownBy w' (some b):=by
 obtain ⟨f,h,k⟩:=h
 obtain ⟨w',hrun,hm,hg⟩:=h.store Tryz.underlying128 (by unfold maxLen; omega) (lowS d.cl.name) (by rw [lowS_size]; unfold maxLen; omega) (cvV d)
 refine ⟨w',hrun,⟨_,hm,fun m => ?_⟩,hg⟩
 rw [clOf_snoc]
 unfold setO
 by_cases e:lowS m=lowS d.cl.name
 ·have:clOf cs m=none:=by rw [<- clOf_low,e,clOf_low]; exact hT
  rw [if_pos e,this,if_pos e.symm]
  refine ⟨(fun h=>by cases h),fun c hc=>⟨d, ?_,hd,rfl⟩⟩
  simpa using hc
 ·rw [if_neg e,if_neg (fun h=>e h.symm),Option.or_none]
  exact k m
end Go.Proofs.YtmmdaegdkikkpaaGreatDoor
end

section
set_option maxRecDepth 100000
namespace Go.Proofs.YtmmdaegdkikkpaaGreatDoor
open Go.RowKit Go.PlainAid
theorem rgT {P:Program} {md:Region.Mode} {ops:Array Oper} {Q:Exit -> Act -> World -> Prop} {S:World -> Prop} (i:Nat) (d:Option Nat) {op:Op} {ty:_} {ps:_} {af:_} {g:_} {v:Value} {fuel:Nat} {listed l':Array Bool} {a a':Act} {w:World}
  (h:wpAnyH P md ops Q S fuel l' a' w)
  (hi:ops[i]? = some { dst:=d,op:=op,type:=ty,pos:=ps,after:=af,guard:=g }:=by rfl)
  (hs:Region.noSelect ops=true:=by kernel_rfl) (hf:Region.free md ops listed i=true:=by kernel_rfl) (hr:(Region.ready md ops listed).contains i=true:=by kernel_rfl)
  (hQ:∀ c a w,Q (.panic c) (a.put d v) w -> Q (.panic c) a w:=by exact fun _ _ _ h=>h)
  (hy:YieldsIf P ops S { dst:=d,op:=op,type:=ty,pos:=ps,after:=af,guard:=g } v a:=by
   refine Or.inl ⟨by rfl, ?_⟩
   intro w hSw
   try dsimp only at hSw
   go_simp
   try with_reducible rfl)
  (hS:S w:=by assumption)
  (ha:a.put d v=a':=by first | (simp only [Act.put,List.setIfInBounds_toArray,List.set_cons_zero,List.set_cons_succ]; done) | (simp only [Act.put,List.setIfInBounds_toArray,List.set_cons_zero,List.set_cons_succ]; rfl) | rfl)
  (hl:listed.setIfInBounds i true=l':=by first | (simp only [List.setIfInBounds_toArray,List.set_cons_zero,List.set_cons_succ]; done) | (simp only [List.setIfInBounds_toArray,List.set_cons_zero,List.set_cons_succ]; rfl) | rfl) :
  wpAnyH P md ops Q S (fuel + 1) listed a w:=by
 subst ha
 subst hl
 exact wpAnyH_take hi hs hf hr hQ hy hS h
theorem lsA {α:Type} (l:List α) (i:Nat) (a:α):l.toArray.setIfInBounds i a=(l.set i a).toArray:=List.setIfInBounds_toArray ..
theorem lsZ {α:Type} {a b:α} {l:List α}:(a :: l).set 0 b=b :: l:=List.set_cons_zero ..
theorem lsS {α:Type} {a b:α} {l:List α} {i:Nat}:(a :: l).set (i + 1) b=a :: l.set i b:=List.set_cons_succ ..
theorem rgS {P:Program} {md:Region.Mode} {ops:Array Oper} {Q:Exit -> Act -> World -> Prop} {S:World -> Prop} (i:Nat) (d:Option Nat) {op:Op} {ty:_} {ps:_} {af:_} {g:_} {fuel:Nat} {listed l':Array Bool} {a a':Act} {w:World}
  (h:wpAnyH P md ops Q S fuel l' a' w)
  (hi:ops[i]? = some { dst:=d,op:=op,type:=ty,pos:=ps,after:=af,guard:=g }:=by rfl)
  (hs:Region.noSelect ops=true:=by kernel_rfl) (hf:Region.free md ops listed i=true:=by kernel_rfl) (hr:(Region.ready md ops listed).contains i=true:=by kernel_rfl)
  (hQ:∀ c a w,Q (.panic c) (a.put d undef) w -> Q (.panic c) a w:=by exact fun _ _ _ h=>h)
  (hy:YieldsIf P ops S { dst:=d,op:=op,type:=ty,pos:=ps,after:=af,guard:=g } undef a:=by exact Or.inr ⟨by rfl,rfl⟩)
  (hS:S w:=by assumption)
  (ha:a.put d undef=a':=by first | (simp only [Act.put,List.setIfInBounds_toArray,List.set_cons_zero,List.set_cons_succ]; done) | (simp only [Act.put,List.setIfInBounds_toArray,List.set_cons_zero,List.set_cons_succ]; rfl) | rfl)
  (hl:listed.setIfInBounds i true=l':=by first | (simp only [List.setIfInBounds_toArray,List.set_cons_zero,List.set_cons_succ]; done) | (simp only [List.setIfInBounds_toArray,List.set_cons_zero,List.set_cons_succ]; rfl) | rfl) :
  wpAnyH P md ops Q S (fuel + 1) listed a w:=by
 subst ha
 subst hl
 exact wpAnyH_take hi hs hf hr hQ hy hS h
theorem rgC {P:Program} {md:Region.Mode} {ops:Array Oper} {Q:Exit -> Act -> World -> Prop} {S:World -> Prop} (i:Nat) {o:Oper} {fuel:Nat} {listed:Array Bool} {a:Act} {w:World}
  (h:∀ K':Act -> World -> Prop,Shut (∀ a w,S w -> (S w -> wpAnyH P md ops Q S fuel (listed.setIfInBounds i true) a w) -> K' a w) -> if Region.wanted o (yielded ops a.tmps)=true then Oper.wp P o a w K' Q else K' (a.put o.dst undef) w)
  (hr:Region.ready md ops listed = [i]:=by kernel_rfl) (ho:ops[i]? = some o:=by rfl) :
  wpAnyH P md ops Q S (fuel + 1) listed a w:=wpAnyH_ready hr (by simp) (AllReadyH.cons ho h AllReadyH.nil)
theorem names_snoc (l:List At) (a:At):names (l ++ [a])=if a.2.length=0 then names l else insS (names l) (lowS a.1):=by
 unfold names
 rw [List.filter_append,List.map_append]
 by_cases h:a.2.length=0
 ·have e:a.2 = []:=List.length_eq_zero_iff.1 h
  rw [if_pos h]
  have : [a].filter (fun a => !a.2.isEmpty) = []:=by simp [e]
  rw [this]; simp
 ·have e:a.2 ≠ []:=fun e=>h (by rw [e]; rfl)
  rw [if_neg h]
  have : [a].filter (fun a => !a.2.isEmpty) = [a]:=by simp [e]
  rw [this]; exact sortU_snoc _ _
theorem names_len (l:List At):(names l).length <= l.length:=by
 unfold names
 refine Nat.le_trans (sortU_len _) ?_
 rw [List.length_map]; exact List.length_filter_le _ _
theorem names_asc (l:List At):Asc (names l):=sortU_asc _
theorem lowS_small {s:ByteArray} {m:Nat} (h:s.size <= m):(lowS s).size <= m:=by rw [lowS_size]; exact h
theorem vals_small {l:List At} (h:SmallA l) (n:ByteArray):SmallS (vals l n):=by
 intro v hv
 obtain ⟨a,ha,_,hx⟩:=vals_mem.1 hv
 exact (h a ha).2 v hx
theorem vals_len (l:List At) (n:ByteArray):(vals l n).length <= sumV l:=Nat.le_trans (sortU_len _) (allV_len n l)
theorem nf_len (l:List At):(nf l).length <= l.length:=by unfold nf; rw [List.length_map]; exact names_len l
theorem sortU_app {X:List ByteArray} {vs:List ByteArray} {j:Nat} (h:j < vs.length):sortU (X ++ vs.take (j + 1))=insS (sortU (X ++ vs.take j)) (partAt vs j):=by
 rw [take_snoc vs j h, <- List.append_assoc,sortU_snoc]
theorem map_take_snoc {l:List At} {ns:List ByteArray} {i:Nat} (h:i < ns.length) {T:List Tr} (hT:tats T=(ns.take i).map fun n=>(n,vals l n)) {v:Value} :
  tats (T ++ [(partAt ns i,v,vals l (partAt ns i))])=(ns.take (i + 1)).map fun n=>(n,vals l n):=by
 rw [tats_append,hT,take_snoc ns i h,List.map_append]; rfl
theorem abox_set {w:World} {b:Nat} {nm:ByteArray} {v u:Value} (h:ABox w b nm v):ABox (w.setCell ⟨b,1,none⟩ u) b nm u:=heap_setCell_same w b 1 #[.string nm,v] 58 u h
theorem grown_set (w:World) (b i:Nat) (u:Value):w.grownBy (w.setCell ⟨b,i,none⟩ u) (some b):=
 ⟨rfl,rfl,rfl,by simp,fun k hk hne=>heap_setCell_other w ⟨b,i,none⟩ k u (fun e=>hne (by rw [e]))⟩
theorem own_set {w:World} {base b i:Nat} {v u:Value} {n:Nat} {xs:List Value} (h:w.ownsRow base 9 1 v n xs) (hb:b < base):(w.setCell ⟨b,i,none⟩ u).ownsRow base 9 1 v n xs:=
 h.kept (grown_set w b i u) (by
  cases hv:v.ownBlock with
  | none=>exact .inl rfl
  | some g=>exact .inr fun e=>by cases e; have:=(h.lt b hv).1; omega)
def TOwn (w:World) (base:Nat) (v:Value) (T:List Tr):Prop := ∀ t ∈ T,w.ownsRow base 9 1 t.2.1 t.2.2.length (scells t.2.2) /\ (t.2.1.ownBlock=none ∨ t.2.1.ownBlock ≠ v.ownBlock)
theorem TOwn.ok {w:World} {base:Nat} {v:Value} {T:List Tr} (h:TOwn w base v T):TOk w T:=fun t ht=>hdr_owns (h t ht).1
theorem TOwn.below {w w':World} {base:Nat} {v:Value} {T:List Tr} (h:TOwn w base v T) (hb:Below w.heap.size w w'):TOwn w' base v T:=fun t ht=>⟨own_below (h t ht).1 hb,(h t ht).2⟩
theorem TOwn.mono {w:World} {base base':Nat} {v:Value} {T:List Tr} (h:TOwn w base v T) (hb:base' <= base):TOwn w base' v T:=fun t ht=>⟨(h t ht).1.mono hb,(h t ht).2⟩
theorem TOwn.snoc {w:World} {base:Nat} {v:Value} {T:List Tr} (h:TOwn w base v T) {t:Tr} (ht:w.ownsRow base 9 1 t.2.1 t.2.2.length (scells t.2.2)) (hv:t.2.1.ownBlock=none ∨ t.2.1.ownBlock ≠ v.ownBlock):TOwn w base v (T ++ [t]):=
 fun u hu=>(List.mem_append.1 hu).elim (h u) fun k=>by rw [List.mem_singleton.1 k]; exact ⟨ht,hv⟩
theorem TOwn.grown {w w':World} {base:Nat} {v v':Value} {T:List Tr} (h:TOwn w base v T) (hg:w.grownBy w' v.ownBlock) (hl:v'.ownBlock=v.ownBlock ∨ v'.ownBlock=some w.heap.size):TOwn w' base v' T:=fun t ht=>by
 obtain ⟨h1,h2⟩:=h t ht
 refine ⟨h1.kept hg h2, ?_⟩
 cases hb:t.2.1.ownBlock with
 | none=>exact .inl rfl
 | some g =>
  refine .inr fun e => ?_
  rcases hl with k | k
  ·rcases h2 with h2 | h2
   ·rw [hb] at h2; cases h2
   ·exact h2 (by rw [hb,e,k])
  ·rw [k] at e
   cases e
   have:=(h1.lt _ hb).2
   omega
theorem own_apart {w:World} {base:Nat} {e:TypeId} {size n m:Nat} {v u:Value} {xs ys:List Value} {e':TypeId} {size' b0:Nat} (h:w.ownsRow base e size v n xs) {w0:World} (k:w0.ownsRow b0 e' size' u m ys) (hb:w0.heap.size <= base):v.ownBlock=none ∨ v.ownBlock ≠ u.ownBlock:=by
 cases hv:v.ownBlock with
 | none=>exact .inl rfl
 | some g =>
  refine .inr fun e => ?_
  have h1:=(h.lt g hv).1
  have h2:=(k.lt g e.symm).2
  omega
theorem keep2b {w w1 w2:World} {f:Nat} {A B:Addr} {x y:Value} (h:w1.cell? A=some x /\ w1.cell? B=some y /\ Hid (Below f w w1 /\ f <= w1.heap.size)) (hb:Below w1.heap.size w1 w2):w2.cell? A=some x /\ w2.cell? B=some y /\ Hid (Below f w w2 /\ f <= w2.heap.size):=
 ⟨cell_later hb h.1,cell_later hb h.2.1,Lib.hid ⟨h.2.2.out.1.trans (hb.mono h.2.2.out.2),Nat.le_trans h.2.2.out.2 hb.size⟩⟩
theorem keep2s {w w1:World} {f g i:Nat} {A B:Addr} {x y u:Value} (h:w1.cell? A=some x /\ w1.cell? B=some y /\ Hid (Below f w w1 /\ f <= w1.heap.size)) (hA:A.block < g) (hB:B.block < g) (hg:f <= g):(w1.setCell ⟨g,i,none⟩ u).cell? A=some x /\ (w1.setCell ⟨g,i,none⟩ u).cell? B=some y /\ Hid (Below f w (w1.setCell ⟨g,i,none⟩ u) /\ f <= (w1.setCell ⟨g,i,none⟩ u).heap.size):=
 ⟨(World.cell?_of_block (heap_setCell_other w1 ⟨g,i,none⟩ A.block u (Nat.ne_of_lt hA))).trans h.1,(World.cell?_of_block (heap_setCell_other w1 ⟨g,i,none⟩ B.block u (Nat.ne_of_lt hB))).trans h.2.1,Lib.hid ⟨h.2.2.out.1.setCell (p:=⟨g,i,none⟩) hg _,by simpa using h.2.2.out.2⟩⟩
theorem keep3b {w w1 w2:World} {f:Nat} {A B C:Addr} {x y z:Value} (h:w1.cell? A=some x /\ w1.cell? B=some y /\ w1.cell? C=some z /\ Hid (Below f w w1 /\ f <= w1.heap.size)) (hb:Below w1.heap.size w1 w2):w2.cell? A=some x /\ w2.cell? B=some y /\ w2.cell? C=some z /\ Hid (Below f w w2 /\ f <= w2.heap.size):=
 ⟨cell_later hb h.1,cell_later hb h.2.1,cell_later hb h.2.2.1,Lib.hid ⟨h.2.2.2.out.1.trans (hb.mono h.2.2.2.out.2),Nat.le_trans h.2.2.2.out.2 hb.size⟩⟩
theorem allV_small (l:List At) (k:Nat) (n:ByteArray):(allV (l.take k) n).length <= sumV l:=Nat.le_trans (allV_len n _) (sumV_take l k)
theorem abox_frozen {w:World} {b:Nat} {nm:ByteArray} {v:Value} (h:ABox w b nm v) (a:Nat):w.frozen? ⟨b,a,none⟩=false:=by
 unfold ABox at h
 simp [World.frozen?,h]
set_option maxRecDepth 100000 in
set_option maxHeartbeats 4000000 in
theorem rsorted_s (ao:Option Addr) (n cap:Nat) (l:List At) (w:World) (h:AttrsAt w ao n cap l) (hS:SmallA l) (hV:sumV l <= 100000) (hn:n <= 3000) :
  Calls Tryz.prog 83 #[.slice ao n cap] w fun e w'=>∃ v T,e = .returned v /\ tats T=nf l /\ TOwn w' w.heap.size v T /\ w'.ownsRow w.heap.size 58 2 v T.length (tcells T) /\ Below w.heap.size w w':=by
 obtain ⟨h1,h2,h3,h4⟩:=h
 subst h1
 unfold maxLen at h3
 have H4:=Lib.hid h4; clear h4
 have HS:=Lib.hid hS; clear hS
 have HV:=Lib.hid hV; clear hV
 go_enter Tryz.func83,Tryz.ntmps83
 go_wp2
 go_loopw [3,4] (fun s3 i wr=>∃ (j:Nat),j <= l.length /\ i = .int .i64 j /\ wr.ownsRow w.heap.size 9 1 s3 (names (l.take j)).length (scells (names (l.take j))) /\ Hid (Below w.heap.size w wr)) (fun _ i _=>l.length - (intOf i).toNat)
 case atStart=>exact ⟨0,Nat.zero_le _,rfl,World.ownsRow_nil _ _ _ _,Lib.hid (Below.refl _ _)⟩
 case round =>
  obtain ⟨j,hj,rfl,hown,HB⟩:=hrel
  by_cases hlt:j < l.length
  ·obtain ⟨b,off,rfl,hblt,hat⟩:=H4.out (by omega)
   obtain ⟨c0,vo,vn,vc,c1,hvs0⟩:=hat j hlt
   have c0:=cell_later HB.out c0
   have c1:=cell_later HB.out c1
   obtain ⟨a,ha⟩:∃ x,atD l j=x:=⟨_,rfl⟩
   have hsz:=(HS.out _ (at_mem l j hlt)).1
   have HT:=Lib.hid (names_snoc (l.take j) (atD l j))
   rw [<- at_take l j hlt] at HT
   rw [ha] at c0 hsz hvs0 HT
   have hvl:a.2.length=vn:=hvs0.1
   clear ha hat hvs0
   obtain ⟨nm,hnm⟩:∃ x,a.1=x:=⟨_,rfl⟩
   rw [hnm] at c0 hsz HT
   clear hnm
   obtain ⟨o,ho⟩:∃ x,names (l.take j)=x:=⟨_,rfl⟩
   have HOA:=Lib.hid (show Asc o by rw [<- ho]; exact names_asc _)
   have hol:o.length <= 3000:=by rw [<- ho]; have:=names_len (l.take j); rw [List.length_take] at this; omega
   rw [ho] at hown HT
   clear ho
   have d1:(j:Int) < (l.length:Int):=by omega
   by_cases hv0:vn=0
   ·have d2:decide ((0:Int) < (vn:Int))=false:=decide_eq_false (by omega)
    have HT2:=Lib.hid (show names (l.take (j + 1))=o by rw [HT.out,if_pos (by omega)])
    go_wp2_with fail
    go_roundw
    case rel=>exact ⟨j + 1,by omega,by go_num,by rw [HT2.out]; exact hown,HB⟩
    case measure=>simp [intOf]; omega
   ·have d2:decide ((0:Int) < (vn:Int))=true:=decide_eq_true (by omega)
    have HT2:=Lib.hid (show names (l.take (j + 1))=insS o (lowS nm) by rw [HT.out,if_neg (by omega)])
    obtain ⟨so,scap,rfl,hso⟩:=strs_own hown rfl
    have HSO:=Lib.hid hso
    clear hso HT
    go_wp2_with fail
    refine (rLower_s nm _ (by omega)).mono ?_
    rintro e w1 ⟨rfl,hb1⟩
    have HB1:=Lib.hid (HB.out.trans (hb1.mono HB.out.size))
    have HSO1:=Lib.hid (HSO.out.below hb1)
    clear hb1
    go_wp2_with fail
    refine (insert_s _ _ _ o (lowS nm) w1 HSO1.out (by omega) HOA.out).mono ?_
    rintro e w2 ⟨v2,rfl,hown2,hb2⟩
    have HB2:=Lib.hid (HB1.out.trans (hb2.mono HB1.out.size))
    have hown3:=hown2.mono HB1.out.size
    clear hb2 hown2
    go_wp2_with fail
    go_roundw
    case rel=>exact ⟨j + 1,by omega,by go_num,by rw [HT2.out]; exact hown3,HB2⟩
    case measure=>simp [intOf]; omega
  ·obtain rfl:j=l.length:=by omega
   rw [List.take_length] at hown
   obtain ⟨ns,hns⟩:∃ x,names l=x:=⟨_,rfl⟩
   have hnl:ns.length <= 3000:=by rw [<- hns]; have:=names_len l; omega
   rw [hns] at hown
   have HNF:=Lib.hid (show nf l=ns.map fun n=>(n,vals l n) by rw [<- hns]; rfl)
   clear hns
   obtain ⟨so,scap,rfl,hso⟩:=strs_own hown rfl
   have HSO:=Lib.hid hso
   clear hso hown
   obtain ⟨wa,hwa⟩:∃ x,x=wr:=⟨_,rfl⟩
   subst hwa
   go_wp2
   go_loopw [5,6,7,8,9] (fun v iv s7 s8 s9 wr=>∃ (i:Nat) (T:List Tr),i <= ns.length /\ iv = .int .i64 i /\ T.length=i /\ Hid (tats T=(ns.take i).map fun n=>(n,vals l n)) /\ Hid (TOwn wr wa.heap.size v T) /\ wr.ownsRow wa.heap.size 58 2 v T.length (tcells T) /\ Hid (Below wa.heap.size wa wr)) (fun _ iv _ _ _ _=>ns.length - (intOf iv).toNat)
   case atStart=>exact ⟨0,[],Nat.zero_le _,rfl,rfl,Lib.hid (by simp [tats]),Lib.hid (fun t ht=>(List.not_mem_nil ht).elim),World.ownsRow_nil _ _ _ _,Lib.hid (Below.refl _ _)⟩
   case round =>
    obtain ⟨i,T,hi,rfl,hTl,HTT,HTK,hownT,HB2⟩:=hrel
    by_cases hli:i < ns.length
    ·obtain ⟨sb,soff,rfl,hs⟩:=HSO.out.2.2.2 (by omega)
     have hcell:=(hs.below HB2.out hs.1).2 i hli
     have hsb:=hs.1
     obtain ⟨nm,hnm⟩:∃ x,partAt ns i=x:=⟨_,rfl⟩
     rw [hnm] at hcell
     have HMT:=Lib.hid (fun (v:Value)=>map_take_snoc hli HTT.out (v:=v))
     rw [hnm] at HMT
     clear hs hnm
     have e1:(i:Int) < (ns.length:Int):=by omega
     have HB2w:=Lib.hid (HB.out.trans (HB2.out.mono HB.out.size))
     go_wp2_with fail
     obtain ⟨wb,hwb⟩:∃ x,x=wr:=⟨_,rfl⟩
     subst hwb
     have hsb2:sb < wb.heap.size:=Nat.lt_of_lt_of_le hsb HB2.out.size
     obtain ⟨W1,hW1⟩:∃ W1,wb.alloc (.cells #[.string nm, .slice none 0 0] 58)=W1:=⟨_,rfl⟩
     have X1:ABox W1 wb.heap.size nm (.slice none 0 0):=by rw [<- hW1]; exact abox_new wb nm _
     have HBb:=Lib.hid (show Below wb.heap.size wb W1 by rw [<- hW1]; exact (Below.refl _ wb).alloc (Nat.le_refl _) _)
     have HZ:=Lib.hid (World.ownsRow_nil W1 wb.heap.size 9 1)
     rw [hW1]
     clear hW1
     go_loopw [8,9] (fun kv jv wr=>∃ (k:Nat) (hd:Value),k <= l.length /\ kv = .int .i64 k /\ Hid (ABox wr wb.heap.size nm hd) /\ Hid (wr.ownsRow wb.heap.size 9 1 hd (sortU (allV (l.take k) nm)).length (scells (sortU (allV (l.take k) nm)))) /\ Hid (Below wb.heap.size wb wr)) (fun kv _ _=>l.length - (intOf kv).toNat)
     case atStart=>exact ⟨0,_,Nat.zero_le _,rfl,Lib.hid X1,HZ,HBb⟩
     case round =>
      obtain ⟨k,hd,hk,rfl,HX,HH,HB3⟩:=hrel
      by_cases hlk:k < l.length
      ·obtain ⟨b,off,rfl,hblt,hat⟩:=H4.out (by omega)
       obtain ⟨c0,vo,vn,vc,c1,hvs0⟩:=hat k hlk
       have HB3w:=Lib.hid (HB2w.out.trans (HB3.out.mono HB2w.out.size))
       have hblt2:b < wb.heap.size:=Nat.lt_of_lt_of_le hblt HB2w.out.size
       have hcn:=(HB3.out.cell (p:=⟨sb,soff + i,none⟩) hsb2).trans hcell
       have c0:=cell_later HB3w.out c0
       have c1:=cell_later HB3w.out c1
       obtain ⟨a,ha⟩:∃ x,atD l k=x:=⟨_,rfl⟩
       have hsz:=(HS.out _ (at_mem l k hlk)).1
       have HTV:=Lib.hid (show allV (l.take (k + 1)) nm=allV (l.take k) nm ++ (if lowS (atD l k).1=nm then (atD l k).2 else []) by rw [at_take l k hlk]; exact allV_snoc _ _ _)
       have HAL:=Lib.hid (allV_small l (k + 1) nm)
       rw [ha] at c0 hsz hvs0 HTV
       have hvl:a.2.length=vn:=hvs0.1
       have HVS:=Lib.hid (hvs0.2.2.2)
       have HVW:=Lib.hid hvs0
       clear ha hat hvs0
       obtain ⟨p,hp⟩:∃ x,a.1=x:=⟨_,rfl⟩
       obtain ⟨vs,hvs⟩:∃ x,a.2=x:=⟨_,rfl⟩
       rw [hp] at c0 hsz HTV
       rw [hvs] at HTV HVS hvl HVW
       clear hp hvs
       obtain ⟨X,hX⟩:∃ x,allV (l.take k) nm=x:=⟨_,rfl⟩
       rw [hX] at HH HTV
       clear hX
       obtain ⟨lw,hlw⟩:∃ x,lowS p=x:=⟨_,rfl⟩
       rw [hlw] at HTV
       have HLW:=Lib.hid hlw
       clear hlw
       have e2:(k:Int) < (l.length:Int):=by omega
       have hvm:vn <= 9223372036854775807:=Nat.le_trans HVW.out.2.1 HVW.out.2.2.1
       go_wp2_with fail
       obtain ⟨wc,hwc⟩:∃ x,x=wr:=⟨_,rfl⟩
       subst hwc
       go_loopw [9] (fun jv wr=>∃ (j:Nat) (hd:Value),j <= vs.length /\ (lw ≠ nm -> j=0) /\ jv = .int .i64 j /\ Hid (ABox wr wb.heap.size nm hd) /\ Hid (wr.ownsRow wb.heap.size 9 1 hd (sortU (X ++ vs.take j)).length (scells (sortU (X ++ vs.take j)))) /\ Hid (Below wb.heap.size wb wr)) (fun jv _=>vs.length - (intOf jv).toNat)
       case atStart=>exact ⟨0,hd,Nat.zero_le _,fun _=>rfl,rfl,HX,by rw [List.take_zero,List.append_nil]; exact HH,HB3⟩
       case round =>
        obtain ⟨j,hd,hj,hj0,rfl,HX,HH,HB4⟩:=hrel
        have HB4w:=Lib.hid (HB2w.out.trans (HB4.out.mono HB2w.out.size))
        have c0:=(HB4.out.cell (p:=⟨b,off + k * 2,none⟩) hblt2).trans ((HB3.out.cell (p:=⟨b,off + k * 2,none⟩) hblt2).symm.trans c0)
        have c1:=(HB4.out.cell (p:=⟨b,off + k * 2 + 1,none⟩) hblt2).trans ((HB3.out.cell (p:=⟨b,off + k * 2 + 1,none⟩) hblt2).symm.trans c1)
        have hcn:=(HB4.out.cell (p:=⟨sb,soff + i,none⟩) hsb2).trans ((HB3.out.cell (p:=⟨sb,soff + i,none⟩) hsb2).symm.trans hcn)
        have HBd:Hid (Below wr.heap.size wr wr.drew /\ wr.heap.size <= wr.drew.heap.size):=Lib.hid ⟨(Below.refl _ wr).drew,Nat.le_refl _⟩
        have HBe:Hid (Below wb.heap.size wb wr.drew /\ wb.heap.size <= wr.drew.heap.size):=Lib.hid ⟨HB4.out.drew,HB4.out.size⟩
        by_cases hlw:lw=nm
        ·have q1:(lw.toList == nm.toList)=true:=by rw [str_eq]; exact decide_eq_true hlw
         rw [if_pos hlw] at HTV
         by_cases hlj:j < vs.length
         ·have d3:(j:Int) < (vn:Int):=by omega
          obtain ⟨vb,voff,rfl,hvb,hvc⟩:=HVS.out (by omega)
          have hvb2:vb < wb.heap.size:=Nat.lt_of_lt_of_le hvb HB2w.out.size
          have hcv:=cell_later HB4w.out (hvc j hlj)
          clear hvc
          have HIN:=Lib.hid (sortU_app (X:=X) hlj)
          obtain ⟨y,hy⟩:∃ x,partAt vs j=x:=⟨_,rfl⟩
          rw [hy] at hcv HIN
          clear hy
          obtain ⟨hnn,hhn⟩:∃ x,(sortU (X ++ vs.take j)).length=x:=⟨_,rfl⟩
          have HHN:=HH.out
          rw [hhn] at HHN
          obtain ⟨ho,hcap,rfl,hHS⟩:=strs_own HHN hhn
          clear HHN
          have hle:hnn <= 100000:=by
           have h5:=HAL.out
           have h6:=HV.out
           rw [HTV.out,List.length_append] at h5
           have h7:=sortU_len (X ++ vs.take j)
           rw [hhn,List.length_append,List.length_take] at h7
           omega
          have HHS:=Lib.hid hHS
          clear hHS
          go_wp2_with fail
          go_region_held3 (fun W=>W.cell? ⟨b,off + k * 2,none⟩=some (.string p) /\ W.cell? ⟨b,off + k * 2 + 1,none⟩=some (.slice (some ⟨vb,voff,none⟩) vn vc) /\ W.cell? ⟨sb,soff + i,none⟩=some (.string nm) /\ Hid (Below wb.heap.size wb W /\ wb.heap.size <= W.heap.size))
           (first | exact ⟨c0,c1,hcn,HBe⟩ | exact keep3b (by assumption) hb | go_keep)
           ((go_at_call 81; with_reducible refine (rLower_s p _ (by omega)).mono ?_; rintro e w5 ⟨rfl,hb⟩; rw [HLW.out]))
          have HB5:Hid (Below wr.heap.size wr w5):=Lib.hid ((Below.refl wr.heap.size wr).drew.trans hb)
          have HX5:=HX.out.below HB5.out
          have HHd:Hid (StrsAt w5.drew ho hnn hcap (sortU (X ++ vs.take j))):=Lib.hid ((HHS.out.below HB5.out).below (Below.refl _ w5).drew)
          have c15:=(HB5.out.cell (p:=⟨b,off + k * 2 + 1,none⟩) (Nat.lt_of_lt_of_le hblt2 HB4.out.size)).trans c1
          have hcv5:=(HB5.out.cell (p:=⟨vb,voff + j,none⟩) (Nat.lt_of_lt_of_le hvb2 HB4.out.size)).trans hcv
          have HB5d:Hid (Below wb.heap.size wb w5.drew /\ wb.heap.size <= w5.drew.heap.size):=Lib.hid ⟨(HB4.out.trans (HB5.out.mono HB4.out.size)).drew,Nat.le_trans HB4.out.size HB5.out.size⟩
          have cxd:w5.drew.cell? ⟨wb.heap.size,1,none⟩=some (.slice ho hnn hcap):=HX5.cells.2
          have hXlt:wb.heap.size < w5.heap.size:=HX5.lt
          go_wp2_with fail
          refine wp_region_held_drew (S:=fun W=>W.cell? ⟨b,off + k * 2 + 1,none⟩=some (.slice (some ⟨vb,voff,none⟩) vn vc) /\ W.cell? ⟨vb,voff + j,none⟩=some (.string y) /\ Hid (Below wb.heap.size wb W /\ wb.heap.size <= W.heap.size)) (by kernel_rfl) (⟨c15,hcv5,HB5d⟩) (fun hS => ?_)
          refine rgT 0 (some 71) ?_
          refine rgT 2 (some 73) ?_
          refine rgT 3 (some 74) ?_
          refine rgT 4 (some 75) ?_
          refine rgT 5 (some 76) ?_
          refine rgT 6 (some 77) ?_
          refine rgT 7 (some 78) ?_
          refine rgT 8 (some 79) ?_
          refine rgT 9 (some 80) ?_
          refine rgC 1 (fun K hK => ?_)
          go_simp
          refine hK.out _ _ ?_ (fun hHeld => ?_)
          ·exact hS
          clear hK K
          try simp only [Act.put,lsA,lsZ,lsS]
          refine rgC 10 (fun K hK => ?_)
          go_simp
          refine (insert_s ho hnn hcap _ y _ HHd.out (by omega) (sortU_asc _)).mono ?_
          rintro e w6 ⟨v6,rfl,hown6,hb2⟩
          obtain ⟨o6,p6,rfl,hs6⟩:=strs_own hown6 rfl
          clear hs6
          have HX6:ABox w6 wb.heap.size nm (.slice ho hnn hcap):=(HX5.below (Below.refl _ w5).drew).below hb2
          have cx6:=HX6.cells.2
          have fx6:=abox_frozen HX6 1
          go_wp2_with fail
          refine hK.out _ _ ?_ (fun hHeld => ?_)
          ·exact keep2b (by assumption) hb2
          clear hK K
          try simp only [Act.put,lsA,lsZ,lsS]
          refine rgT 11 (some 82) ?_
          refine rgC 12 (fun K hK => ?_)
          go_simp
          refine hK.out _ _ ?_ (fun hHeld => ?_)
          ·exact keep2s (by assumption) hblt2 hvb2 (Nat.le_refl _)
          clear hK K
          try simp only [Act.put,lsA,lsZ,lsS]
          refine wpAnyH_done (by kernel_rfl) ?_ _
          have HS7:Hid (Below wb.heap.size wb (w6.setCell ⟨wb.heap.size,1,none⟩ (Value.slice o6 (insS (sortU (X ++ List.take j vs)) y).length p6))):=Lib.hid ((And.right (And.right (by assumption:(w6.setCell ⟨wb.heap.size,1,none⟩ (Value.slice o6 (insS (sortU (X ++ List.take j vs)) y).length p6)).cell? ⟨b,off + k * 2 + 1,none⟩=some (.slice (some ⟨vb,voff,none⟩) vn vc) /\ (w6.setCell ⟨wb.heap.size,1,none⟩ (Value.slice o6 (insS (sortU (X ++ List.take j vs)) y).length p6)).cell? ⟨vb,voff + j,none⟩=some (.string y) /\ Hid (Below wb.heap.size wb (w6.setCell ⟨wb.heap.size,1,none⟩ (Value.slice o6 (insS (sortU (X ++ List.take j vs)) y).length p6)) /\ wb.heap.size <= (w6.setCell ⟨wb.heap.size,1,none⟩ (Value.slice o6 (insS (sortU (X ++ List.take j vs)) y).length p6)).heap.size)))).out.1)
          have HX7:=Lib.hid (abox_set (u:=(Value.slice o6 (insS (sortU (X ++ List.take j vs)) y).length p6)) HX6)
          have HH7:=Lib.hid (own_set (b:=wb.heap.size) (i:=1) (u:=(Value.slice o6 (insS (sortU (X ++ List.take j vs)) y).length p6)) hown6 hXlt)
          clear cx6 fx6 HX6
          go_wp2_with fail
          go_roundw
          case rel=>exact ⟨j + 1,(Value.slice o6 (insS (sortU (X ++ List.take j vs)) y).length p6),by omega,fun e=>absurd hlw e,by go_num,HX7,by rw [HIN.out]; exact Lib.hid (HH7.out.mono (Nat.le_of_lt hXlt)),HS7⟩
          case measure=>simp [intOf]; omega
         ·have d3:decide ((j:Int) < (vn:Int))=false:=decide_eq_false (by omega)
          have HE:Hid (sortU (X ++ vs.take j)=sortU (allV (l.take (k + 1)) nm)):=Lib.hid (by rw [HTV.out,List.take_of_length_le (by omega)])
          go_wp2_with fail
          go_region_held3 (fun W=>W.cell? ⟨b,off + k * 2,none⟩=some (.string p) /\ W.cell? ⟨b,off + k * 2 + 1,none⟩=some (.slice vo vn vc) /\ W.cell? ⟨sb,soff + i,none⟩=some (.string nm) /\ Hid (Below wb.heap.size wb W /\ wb.heap.size <= W.heap.size))
           (first | exact ⟨c0,c1,hcn,HBe⟩ | exact keep3b (by assumption) hb | go_keep)
           ((go_at_call 81; with_reducible refine (rLower_s p _ (by omega)).mono ?_; rintro e w5 ⟨rfl,hb⟩; rw [HLW.out]))
          have HB5:Hid (Below wr.heap.size wr w5):=Lib.hid ((Below.refl wr.heap.size wr).drew.trans hb)
          have HX5:=Lib.hid (HX.out.below HB5.out)
          have HH5:=Lib.hid (own_below HH.out HB5.out)
          rw [HE.out] at HH5
          have HB6:=Lib.hid (HB4.out.trans (HB5.out.mono HB4.out.size))
          go_wp2_with fail
          go_roundw
          case rel=>exact ⟨k + 1,hd,by omega,by go_num,HX5,HH5,HB6⟩
          case measure=>simp [intOf]; omega
        ·have q1:(lw.toList == nm.toList)=false:=by rw [str_eq]; exact decide_eq_false hlw
         rw [if_neg hlw,List.append_nil] at HTV
         obtain rfl:j=0:=hj0 hlw
         rw [List.take_zero,List.append_nil] at HH
         go_wp2_with fail
         refine wp_region_held_drew (S:=fun W=>W.cell? ⟨b,off + k * 2,none⟩=some (.string p) /\ W.cell? ⟨sb,soff + i,none⟩=some (.string nm) /\ Hid (Below wb.heap.size wb W /\ wb.heap.size <= W.heap.size)) (by kernel_rfl) (⟨c0,hcn,HBe⟩) (fun hS => ?_)
         refine rgT 0 (some 48) ?_
         refine rgT 1 (some 49) ?_
         refine rgT 2 (some 50) ?_
         refine rgT 3 (some 51) ?_
         refine rgT 4 (some 52) ?_
         refine rgT 6 (some 54) ?_
         refine rgT 7 (some 55) ?_
         refine rgT 8 (some 56) ?_
         refine rgT 9 (some 57) ?_
         refine rgC 5 (fun K hK => ?_)
         go_simp
         refine (rLower_s p _ (by omega)).mono ?_
         rintro e w5 ⟨rfl,hb⟩
         rw [HLW.out]
         go_wp2_with fail
         refine hK.out _ _ ?_ (fun hHeld => ?_)
         ·exact keep2b (by assumption) hb
         clear hK K
         try simp only [Act.put,lsA,lsZ,lsS]
         refine rgT 10 (some 58) ?_
         refine rgT 11 (some 59) ?_
         refine rgS 12 (some 60) ?_
         refine rgS 13 (some 61) ?_
         refine rgS 14 (some 62) ?_
         refine rgS 15 (some 63) ?_
         refine rgS 16 (some 64) ?_
         refine rgS 17 (some 65) ?_
         refine rgS 18 (some 66) ?_
         refine rgS 19 (some 67) ?_
         refine rgT 20 (some 68) ?_
         refine wpAnyH_done (by kernel_rfl) ?_ _
         have HB5:Hid (Below wr.heap.size wr w5):=Lib.hid ((Below.refl wr.heap.size wr).drew.trans hb)
         have HX5:=Lib.hid (HX.out.below HB5.out)
         have HH5:=Lib.hid (own_below HH.out HB5.out)
         rw [<- HTV.out] at HH5
         have HB6:=Lib.hid (HB4.out.trans (HB5.out.mono HB4.out.size))
         go_wp2_with fail
         go_roundw
         case rel=>exact ⟨k + 1,hd,by omega,by go_num,HX5,HH5,HB6⟩
         case measure=>simp [intOf]; omega
      ·obtain rfl:k=l.length:=by omega
       rw [List.take_length] at HH
       have HX2:=HX.out.cells
       obtain ⟨cx0,cx1⟩:=HX2
       have hown5:=own_below hownT (HB3.out)
       have hHv:wr.ownsRow wb.heap.size 9 1 hd (vals l nm).length (scells (vals l nm)):=HH.out
       have hap:=own_apart hHv hownT (Nat.le_refl _)
       have HTO5:=Lib.hid ((HTK.out.below HB3.out).snoc (t:=(nm,hd,vals l nm)) (hHv.mono HB2.out.size) hap)
       have HHv:=Lib.hid (hdr_owns hHv)
       clear hHv hap HTK
       have HB5:=Lib.hid (HB2.out.trans (HB3.out.mono HB2.out.size))
       have hsz5:=HB5.out.size
       have hsz3:=HB3.out.size
       go_wp2_with (at_builtin; go_must (refine app_attrs (wr.alloc (.cells #[.string nm,hd] 58)) (hown5.alloc _) (.tmp 83) (.tmp 85) _ 1 1 [(nm,hd,vals l nm)] ?_ ?_ ?_ ?_ (ts_new1 wr (nm,hd,vals l nm)) ?_ ?_ ?_ ?_; exact rfl; exact rfl; exact rfl; exact rfl; exact (fun t ht=>by rw [List.mem_singleton.1 ht]; exact HHv.out.below ((Below.refl _ wr).alloc (Nat.le_refl _) _)); omega; (simp; omega); intro v7 w7 hown7 hg7 hl7))
       have HT7:=Lib.hid (HMT.out hd)
       have HTO7:=Lib.hid ((HTO5.out.below ((Below.refl _ wr).alloc (Nat.le_refl _) _)).grown hg7 hl7)
       have hb7:Below wa.heap.size wa w7:=(HB5.out.alloc hsz5 _).grown hg7 (by simp; omega) (fun q hq=>(hown5.lt q hq).1)
       go_roundw
       case rel=>exact ⟨i + 1,T ++ [(nm,hd,vals l nm)],by omega,by go_num,by simp [hTl],HT7,HTO7,by rw [List.length_append,tcells_append]; exact hown7,Lib.hid hb7⟩
       case measure=>simp [intOf]; omega
    ·obtain rfl:i=ns.length:=by omega
     have HE:=Lib.hid (show tats T=nf l by rw [HTT.out,List.take_length,HNF.out])
     go_wp2_with fail
     go_ret
     exact ⟨_,T,rfl,HE.out,HTK.out.mono HB.out.size,hownT.mono HB.out.size,HB.out.trans (HB2.out.mono HB.out.size)⟩
theorem keep4b {w w1 w2:World} {f:Nat} {A B C D:Addr} {x y z u:Value} (h:w1.cell? A=some x /\ w1.cell? B=some y /\ w1.cell? C=some z /\ w1.cell? D=some u /\ Hid (Below f w w1 /\ f <= w1.heap.size)) (hb:Below w1.heap.size w1 w2):w2.cell? A=some x /\ w2.cell? B=some y /\ w2.cell? C=some z /\ w2.cell? D=some u /\ Hid (Below f w w2 /\ f <= w2.heap.size):=
 ⟨cell_later hb h.1,cell_later hb h.2.1,cell_later hb h.2.2.1,cell_later hb h.2.2.2.1,Lib.hid ⟨h.2.2.2.2.out.1.trans (hb.mono h.2.2.2.2.out.2),Nat.le_trans h.2.2.2.2.out.2 hb.size⟩⟩
theorem ats_ext {l k:List At} (h:l.length=k.length) (hj:∀ j,j < l.length -> atD l j=atD k j):l=k:=by
 apply List.ext_getElem h
 intro i h1 h2
 have:=hj i h1
 rwa [at_get l i h1,at_get k i h2] at this
def AttsR (w:World) (v:Value) (l:List At):Prop := ∃ ao n cap,v = .slice ao n cap /\ AttrsAt w ao n cap l
theorem AttsR.below {w w':World} {v:Value} {l:List At} (h:AttsR w v l) (hb:Below w.heap.size w w'):AttsR w' v l:=by
 obtain ⟨ao,n,cap,e,hs⟩:=h
 exact ⟨ao,n,cap,e,hs.below hb⟩
theorem atts_nil (w:World):AttsR w (.slice none 0 0) []:=⟨none,0,0,rfl,rfl,Nat.le_refl _,by unfold maxLen; omega,fun h=>absurd h (Nat.lt_irrefl _)⟩
theorem atts_own {w:World} {base n:Nat} {v:Value} {T:List Tr} (h:w.ownsRow base 58 2 v n (tcells T)) (hT:TOk w T):AttsR w v (tats T):=by
 obtain ⟨_,ao,cap,rfl,hat,_⟩:=ts_owns h
 exact ⟨ao,n,cap,rfl,ts_ats hat hT⟩
structure Few (l:List At):Prop where
 small:SmallA l
 vals:sumV l <= 100000
 len:l.length <= 3000
theorem names_part {l:List At} {T:List Tr} (hT:tats T=nf l) (q:Nat) (h:q < T.length):(trD T q).1=partAt (names l) q:=by
 have h1:=nf_names l
 rw [<- hT] at h1
 have h2:=atD_tats T q
 unfold partAt
 rw [<- h1,List.getD_eq_getElem?_getD,List.getElem?_map,List.getElem?_eq_getElem (by rw [tats_len]; exact h)]
 show _=((tats T)[q]'_).1
 rw [<- at_get (tats T) q (by rw [tats_len]; exact h),h2]
theorem names_tlen {l:List At} {T:List Tr} (hT:tats T=nf l):(names l).length=T.length:=by
 rw [<- nf_names,List.length_map, <- hT,tats_len]
theorem apart_symm {a b:Option Nat} (h:a=none ∨ a ≠ b):b=none ∨ b ≠ a:=by
 cases b with
 | none=>exact .inl rfl
 | some g =>
  refine .inr fun e => ?_
  rcases h with h | h
  ·rw [h] at e; cases e
  ·exact h e.symm
def wthL (l:List At) (lw:ByteArray):List At:=(nf l).filter fun a=>decide (a.1 ≠ lw)
theorem sumV_append (l k:List At):sumV (l ++ k)=sumV l + sumV k:=by unfold sumV; rw [List.map_append,List.sum_append]
structure Room (l:List At) (vs:List ByteArray):Prop where
 small:SmallA l
 vals:sumV l + vs.length <= 100000
 len:l.length <= 999
 vsmall:SmallS vs
theorem Room.few {l:List At} {vs:List ByteArray} (h:Room l vs):Few l:=⟨h.small,by have:=h.vals; omega,by have:=h.len; omega⟩
def withL (l:List At) (name:ByteArray) (vs:List ByteArray):List At:=nf (wthL l (lowS name) ++ [(name,vs)])
def limR (l:List At) (m:Nat):List At × Int:=if 32 < l.length ∨ 16 < m then ([],3) else (l,0)
set_option maxRecDepth 100000 in
set_option maxHeartbeats 4000000 in
theorem rcheckV_s (ao bo:Option Addr) (n m cap dap:Nat) (vs old:List ByteArray) (w:World) (h:StrsAt w ao n cap vs) (k:StrsAt w bo m dap old) (hS:SmallS vs) :
  Calls Tryz.prog 130 #[.slice ao n cap, .slice bo m dap] w fun e w'=>e = .returned (.int .i64 (chkV vs old)) /\ Below w.heap.size w w':=by
 have HVS:=Lib.hid h
 have HOL:=Lib.hid k
 obtain ⟨h1,h2,h3,h4⟩:=h
 subst h1
 unfold maxLen at h3
 have H4:=Lib.hid h4; clear h4
 have HS:=Lib.hid hS; clear hS k
 go_enter Tryz.func130,Tryz.ntmps130
 go_wp2
 go_loopw [5] (fun i wr=>∃ j:Nat,j <= vs.length /\ i = .int .i64 j /\ Hid (∀ q,q < j -> errV vs old q=0) /\ Hid (Below w.heap.size w wr)) (fun i _=>vs.length - (intOf i).toNat)
 case atStart=>exact ⟨0,Nat.zero_le _,rfl,Lib.hid (fun q hq=>absurd hq (Nat.not_lt_zero _)),Lib.hid (Below.refl _ _)⟩
 case round =>
  obtain ⟨j,hj,rfl,HA,HB⟩:=hrel
  by_cases hlt:j < vs.length
  ·obtain ⟨b,off,rfl,hs⟩:=H4.out (by omega)
   have hcell:=(hs.below HB.out hs.1).2 j hlt
   clear hs
   have HE:=Lib.hid (show errV vs old j=if cleanB (partAt vs j)=false then 4 else if memB old (partAt vs j)=true ∨ memB (vs.take j) (partAt vs j)=true then 7 else 0 from rfl)
   obtain ⟨p,hp⟩:∃ x,partAt vs j=x:=⟨_,rfl⟩
   have hps:p.size <= 1100000:=by rw [<- hp]; exact HS.out _ (part_mem vs j hlt)
   rw [hp] at hcell HE
   clear hp
   have d0:(0:Int) <= (j:Int):=by omega
   have d1:(j:Int) < (vs.length:Int):=by omega
   have d2:(j:Int) <= (cap:Int):=by omega
   have HVd:Hid (StrsAt wr.drew (some ⟨b,off,none⟩) vs.length cap vs):=Lib.hid ((HVS.out.below HB.out).below (Below.refl _ wr).drew)
   have HCd:Hid (StrsAt wr.drew (some ⟨b,off,none⟩) j cap (vs.take j)):=Lib.hid (HVd.out.cut j hj)
   have HOd:Hid (StrsAt wr.drew bo m dap old):=Lib.hid ((HOL.out.below HB.out).below (Below.refl _ wr).drew)
   obtain ⟨cl,hcl⟩:∃ x,cleanB p=x:=⟨_,rfl⟩
   obtain ⟨m1,hm1⟩:∃ x,memB old p=x:=⟨_,rfl⟩
   obtain ⟨m2,hm2⟩:∃ x,memB (vs.take j) p=x:=⟨_,rfl⟩
   rw [hcl,hm1,hm2] at HE
   have HCL:=Lib.hid hcl
   have HM1:=Lib.hid hm1
   have HM2:=Lib.hid hm2
   clear hcl hm1 hm2
   have HF:=Lib.hid (fun (e:errV vs old j ≠ 0)=>firstE_hit (f:=errV vs old) HA.out e hlt)
   cases cl with
   | false =>
    have HR:=Lib.hid (show chkV vs old=4 by rw [if_pos rfl] at HE; unfold chkV; rw [HF.out (by rw [HE.out]; decide),HE.out])
    go_wp2_with (go_at_call 194; refine (rClean_s p _ (by omega)).mono ?_; rintro e w' ⟨rfl,rfl⟩; rw [HCL.out])
    go_ret
    exact ⟨by rw [HR.out]; rfl,HB.out⟩
   | true =>
    rw [if_neg (by simp)] at HE
    cases m1 with
    | true =>
     have HR:=Lib.hid (show chkV vs old=7 by rw [if_pos (.inl rfl)] at HE; unfold chkV; rw [HF.out (by rw [HE.out]; decide),HE.out])
     go_wp2_with (go_at_call 194; refine (rClean_s p _ (by omega)).mono ?_; rintro e w' ⟨rfl,rfl⟩; rw [HCL.out])
     refine wp_region_held_drew (S:=fun W=>W.cell? ⟨b,off + j,none⟩=some (.string p)) (by kernel_rfl) (hcell) (fun hS => ?_)
     refine rgT 0 (some 18) ?_
     refine rgT 1 (some 19) ?_
     refine rgT 2 (some 20) ?_
     refine rgT 3 (some 21) ?_
     refine rgT 4 (some 22) ?_
     refine rgC 5 (fun K hK => ?_)
     go_simp
     refine (has_s bo m dap old p _ HOd.out).mono ?_
     rintro e w5 ⟨rfl,rfl⟩
     rw [HM1.out]
     go_wp2_with fail
     refine hK.out _ _ ?_ (fun hHeld => ?_)
     ·assumption
     clear hK K
     try simp only [Act.put,lsA,lsZ,lsS]
     refine rgT 6 (some 24) ?_
     refine rgS 7 (some 25) ?_
     refine rgS 8 (some 26) ?_
     refine rgS 9 (some 27) ?_
     refine rgS 10 (some 28) ?_
     refine rgS 11 (some 29) ?_
     refine rgS 12 (some 30) ?_
     refine rgS 13 (some 31) ?_
     refine rgS 14 (some 32) ?_
     refine rgT 15 (some 33) ?_
     refine wpAnyH_done (by kernel_rfl) ?_ _
     go_wp2_with fail
     go_ret
     exact ⟨by rw [HR.out]; rfl,HB.out.drew⟩
    | false =>
     cases m2 with
     | true =>
      have HR:=Lib.hid (show chkV vs old=7 by rw [if_pos (.inr rfl)] at HE; unfold chkV; rw [HF.out (by rw [HE.out]; decide),HE.out])
      go_wp2_with (go_at_call 194; refine (rClean_s p _ (by omega)).mono ?_; rintro e w' ⟨rfl,rfl⟩; rw [HCL.out])
      refine wp_region_held_drew (S:=fun W=>W.cell? ⟨b,off + j,none⟩=some (.string p)) (by kernel_rfl) (hcell) (fun hS => ?_)
      refine rgT 0 (some 18) ?_
      refine rgT 1 (some 19) ?_
      refine rgT 2 (some 20) ?_
      refine rgT 3 (some 21) ?_
      refine rgT 4 (some 22) ?_
      refine rgC 5 (fun K hK => ?_)
      go_simp
      refine (has_s bo m dap old p _ HOd.out).mono ?_
      rintro e w5 ⟨rfl,rfl⟩
      rw [HM1.out]
      go_wp2_with fail
      refine hK.out _ _ ?_ (fun hHeld => ?_)
      ·assumption
      clear hK K
      try simp only [Act.put,lsA,lsZ,lsS]
      refine rgT 6 (some 24) ?_
      refine rgT 7 (some 25) ?_
      refine rgT 8 (some 26) ?_
      refine rgT 9 (some 27) ?_
      refine rgT 10 (some 28) ?_
      refine rgT 11 (some 29) ?_
      refine rgT 12 (some 30) ?_
      refine rgT 13 (some 31) ?_
      refine rgC 14 (fun K hK => ?_)
      go_simp
      refine (has_s _ j cap (vs.take j) p _ HCd.out).mono ?_
      rintro e w5 ⟨rfl,rfl⟩
      rw [HM2.out]
      go_wp2_with fail
      refine hK.out _ _ ?_ (fun hHeld => ?_)
      ·assumption
      clear hK K
      try simp only [Act.put,lsA,lsZ,lsS]
      refine rgT 15 (some 33) ?_
      refine wpAnyH_done (by kernel_rfl) ?_ _
      go_wp2_with fail
      go_ret
      exact ⟨by rw [HR.out]; rfl,HB.out.drew⟩
     | false =>
      have HZ:=Lib.hid (show errV vs old j=0 by rw [HE.out]; simp)
      have HB2:=Lib.hid HB.out.drew
      go_wp2_with (go_at_call 194; refine (rClean_s p _ (by omega)).mono ?_; rintro e w' ⟨rfl,rfl⟩; rw [HCL.out])
      refine wp_region_held_drew (S:=fun W=>W.cell? ⟨b,off + j,none⟩=some (.string p)) (by kernel_rfl) (hcell) (fun hS => ?_)
      refine rgT 0 (some 18) ?_
      refine rgT 1 (some 19) ?_
      refine rgT 2 (some 20) ?_
      refine rgT 3 (some 21) ?_
      refine rgT 4 (some 22) ?_
      refine rgC 5 (fun K hK => ?_)
      go_simp
      refine (has_s bo m dap old p _ HOd.out).mono ?_
      rintro e w5 ⟨rfl,rfl⟩
      rw [HM1.out]
      go_wp2_with fail
      refine hK.out _ _ ?_ (fun hHeld => ?_)
      ·assumption
      clear hK K
      try simp only [Act.put,lsA,lsZ,lsS]
      refine rgT 6 (some 24) ?_
      refine rgT 7 (some 25) ?_
      refine rgT 8 (some 26) ?_
      refine rgT 9 (some 27) ?_
      refine rgT 10 (some 28) ?_
      refine rgT 11 (some 29) ?_
      refine rgT 12 (some 30) ?_
      refine rgT 13 (some 31) ?_
      refine rgC 14 (fun K hK => ?_)
      go_simp
      refine (has_s _ j cap (vs.take j) p _ HCd.out).mono ?_
      rintro e w5 ⟨rfl,rfl⟩
      rw [HM2.out]
      go_wp2_with fail
      refine hK.out _ _ ?_ (fun hHeld => ?_)
      ·assumption
      clear hK K
      try simp only [Act.put,lsA,lsZ,lsS]
      refine rgT 15 (some 33) ?_
      refine wpAnyH_done (by kernel_rfl) ?_ _
      go_wp2_with fail
      go_roundw
      case rel =>
       refine ⟨j + 1,by omega,by go_num,Lib.hid fun q hq => ?_,HB2⟩
       by_cases e:q=j
       ·rw [e]; exact HZ.out
       ·exact HA.out q (by omega)
      case measure=>simp [intOf]; omega
  ·obtain rfl:j=vs.length:=by omega
   have HR:=Lib.hid (show chkV vs old=0 from firstE_zero HA.out)
   go_wp2_with fail
   go_ret
   exact ⟨by rw [HR.out]; rfl,HB.out⟩
structure Edit (l:List At) (vs:List ByteArray):Prop where
 small:SmallA l
 tot:sumV l <= 40000
 len:l.length <= 900
 vsmall:SmallS vs
 vlen:vs.length <= 10000
theorem Edit.few {l:List At} {vs:List ByteArray} (h:Edit l vs):Few l:=⟨h.small,by have:=h.tot; omega,by have:=h.len; omega⟩
theorem Edit.room {l:List At} {vs:List ByteArray} (h:Edit l vs):Room l vs:=⟨h.small,by have:=h.tot; have:=h.vlen; omega,by have:=h.len; omega,h.vsmall⟩
theorem small_app {a b:List ByteArray} (h:SmallS a) (k:SmallS b):SmallS (a ++ b):=fun v hv=>(List.mem_append.1 hv).elim (h v) (k v)
theorem Edit.more {l:List At} {vs:List ByteArray} (h:Edit l vs) (lw:ByteArray):Room l (vals l lw ++ vs):=
 ⟨h.small,by have h1:=h.tot; have h2:=h.vlen; have h3:=vals_len l lw; rw [List.length_append]; omega,by have:=h.len; omega,small_app (vals_small h.small lw) h.vsmall⟩
def addR (l:List At) (name:ByteArray) (vs:List ByteArray):List At × Int:=
 if nameB name=false then ([],5) else if vs.length=0 then ([],6) else if chkV vs (vals l (lowS name)) ≠ 0 then ([],chkV vs (vals l (lowS name))) else limR (withL l name (vals l (lowS name) ++ vs)) (vals l (lowS name) ++ vs).length
def repR (l:List At) (name:ByteArray) (vs:List ByteArray):List At × Int:=
 if nameB name=false then ([],5) else if chkV vs [] ≠ 0 then ([],chkV vs []) else limR (withL l name vs) vs.length
theorem strs_nil (w:World):StrsAt w none 0 0 []:=⟨rfl,Nat.le_refl _,by unfold maxLen; omega,fun h=>absurd h (Nat.lt_irrefl _)⟩
def errR (vs old:List ByteArray) (j:Nat):Int:=if memB old (partAt vs j)=false ∨ memB (vs.take j) (partAt vs j)=true then 6 else 0
def remE (vs old:List ByteArray):Int:=firstE (errR vs old) vs.length
def leftV (old vs:List ByteArray):List ByteArray:=old.filter fun v=>decide (0 < vs.length) && !memB vs v
def remR (l:List At) (name:ByteArray) (vs:List ByteArray):List At × Int:=
 if nameB name=false then ([],5) else if (vals l (lowS name)).length=0 then ([],6) else if remE vs (vals l (lowS name)) ≠ 0 then ([],6) else (withL l name (leftV (vals l (lowS name)) vs),0)
theorem left_len (old vs:List ByteArray):(leftV old vs).length <= old.length:=List.length_filter_le _ _
end Go.Proofs.YtmmdaegdkikkpaaGreatDoor
end
