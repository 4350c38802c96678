/-
  Texts of the schema layer and of those beneath it, joined: SchC, MapRaw, SchT, EntRt, AttRS, AttR2. Conditions stand at each contract.
-/
import Derived.Deep.RegionHeld
import Derived.KernelRfl
import Derived.Test.YtmmdaegdkikkpaaGreatDoorS04
import Derived.Test.YtmmdaegdkikkpaaGreatDoorS08
set_option linter.unusedVariables false
set_option linter.unusedSimpArgs false
set_option linter.unnecessarySimpa false

section
set_option maxRecDepth 100000
namespace Go.Proofs.YtmmdaegdkikkpaaGreatDoor
open Go.RowKit Go.PlainAid
/-! ### lists of records of k cells -/
theorem flat_len {α β:Type} (f:α -> List β) (k:Nat) (hf:∀ x,(f x).length=k):∀ l:List α,(l.flatMap f).length=l.length * k
 | []=>by simp
 | x :: l=>by rw [List.flatMap_cons,List.length_append,hf,flat_len f k hf l,List.length_cons,Nat.succ_mul]; omega
theorem flat_at {α β:Type} (f:α -> List β) (k:Nat) (hf:∀ x,(f x).length=k) (d:α):∀ (l:List α) (j i:Nat),j < l.length -> i < k -> (l.flatMap f)[j * k + i]? = (f (l.getD j d))[i]?
 | [],j,i,h,_=>absurd h (Nat.not_lt_zero _)
 | x :: l,0,i,_,hi=>by
  rw [List.flatMap_cons,List.getElem?_append_left (by rw [hf]; omega),Nat.zero_mul,Nat.zero_add]; rfl
 | x :: l,j + 1,i,h,hi=>by
  rw [List.flatMap_cons,List.getElem?_append_right (by rw [hf,Nat.succ_mul]; omega),hf,show (j + 1) * k + i - k=j * k + i by rw [Nat.succ_mul]; omega]
  exact flat_at f k hf d l j i (by simpa using h) hi
/-! ### classes -/
structure Cv where
 cl:Cl
 hm:Value
 hy:Value
instance:Inhabited Cv:=⟨⟨default, .slice none 0 0, .slice none 0 0⟩⟩
def cvC (c:Cv):List Value:=[.string c.cl.name, .string c.cl.super,c.hm,c.hy]
def cvV (c:Cv):Value := .agg #[.string c.cl.name, .string c.cl.super,c.hm,c.hy]
def CvOk (w:World) (c:Cv):Prop:=Hdr w c.hm c.cl.must /\ Hdr w c.hy c.cl.may
theorem CvOk.below {w w':World} {c:Cv} (h:CvOk w c) (hb:Below w.heap.size w w'):CvOk w' c:=⟨h.1.below hb,h.2.below hb⟩
def ccells (l:List Cv):List Value:=l.flatMap cvC
def ccls (l:List Cv):List Cl:=l.map (·.cl)
theorem ccells_snoc (l:List Cv) (c:Cv):ccells (l ++ [c])=ccells l ++ cvC c:=by simp [ccells]
theorem ccls_snoc (l:List Cv) (c:Cv):ccls (l ++ [c])=ccls l ++ [c.cl]:=by simp [ccls]
theorem ccls_len (l:List Cv):(ccls l).length=l.length:=by simp [ccls]
theorem ccells_one {w:World} {l:List Cv} (h:∀ c ∈ l,CvOk w c):∀ u ∈ ccells l,u.oneCell'=true:=by
 intro u hu
 obtain ⟨c,hc,hu⟩:=List.mem_flatMap.1 hu
 simp only [cvC,List.mem_cons,List.not_mem_nil,or_false] at hu
 rcases hu with rfl | rfl | rfl | rfl
 ·rfl
 ·rfl
 ·exact (h c hc).1.one
 ·exact (h c hc).2.one
theorem info_class:(Tryz.prog.info? 64).map (fun i=>(i.zero,i.size,i.bytes))=some (some (.agg #[.string ⟨#[]⟩, .string ⟨#[]⟩, .slice none 0 0, .slice none 0 0]),4,80):=by kernel_rfl
theorem cells_four_new (w:World) (x y z u:Value) (t:TypeId):∀ j v,[x,y,z,u][j]? = some v -> (w.alloc (.cells #[x,y,z,u] t)).cell? ((⟨w.heap.size,0,none⟩:Addr).add j)=some v:=by
 intro j v hj
 have h:(w.alloc (.cells #[x,y,z,u] t)).heap[w.heap.size]? = some (.cells #[x,y,z,u] t (0,0)):=heap_alloc_new w _
 rw [show (⟨w.heap.size,0,none⟩:Addr).add j=⟨w.heap.size,j,none⟩ by rw [Go.WideShapes.add_plain,Nat.zero_add],Lib.cell_of_heap h]
 match j,hj with
 | 0,hj=>simpa using hj
 | 1,hj=>simpa using hj
 | 2,hj=>simpa using hj
 | 3,hj=>simpa using hj
 | j + 4,hj=>simp at hj
theorem cells_three_new (w:World) (x y z:Value) (t:TypeId):∀ j v,[x,y,z][j]? = some v -> (w.alloc (.cells #[x,y,z] t)).cell? ((⟨w.heap.size,0,none⟩:Addr).add j)=some v:=by
 intro j v hj
 have h:(w.alloc (.cells #[x,y,z] t)).heap[w.heap.size]? = some (.cells #[x,y,z] t (0,0)):=heap_alloc_new w _
 rw [show (⟨w.heap.size,0,none⟩:Addr).add j=⟨w.heap.size,j,none⟩ by rw [Go.WideShapes.add_plain,Nat.zero_add],Lib.cell_of_heap h]
 match j,hj with
 | 0,hj=>simpa using hj
 | 1,hj=>simpa using hj
 | 2,hj=>simpa using hj
 | j + 3,hj=>simp at hj
theorem push_class {ops:Array Oper} {rest:List Oper} {o:Oper} {a:Act} {Q:Exit -> Act -> World -> Prop} (wr:World) {base:Nat} {v:Value} {n:Nat} {xs:List Value} (hown:wr.ownsRow base 64 4 v n xs) (s x:Operand)
  (c:Cv) {w0:World} (hc:CvOk w0 c) (hgd:o.guard=none)
  (ho:o.op = .call { callee := .builtin .append,args := #[s,x],argTypes := #[23,23] })
  (hs:a.eval s=v) (hx:a.eval x = .slice (some ⟨wr.heap.size,0,none⟩) 1 1) (hn:n + 1 <= 1000000000) (hbase:base <= wr.heap.size)
  (h:∀ v' w',w'.ownsRow base 64 4 v' (n + 1) (xs ++ cvC c) -> (wr.alloc (.cells #[.string c.cl.name, .string c.cl.super,c.hm,c.hy] 64)).grownBy w' v.ownBlock -> (v'.ownBlock=v.ownBlock ∨ ∃ g,v'.ownBlock=some g /\ wr.heap.size < g) -> wpList Tryz.prog ops Q rest (a.put o.dst v') w') :
  wpList Tryz.prog ops Q (o :: rest) a (wr.alloc (.cells #[.string c.cl.name, .string c.cl.super,c.hm,c.hy] 64)):=by
 obtain ⟨i0,hi,hz0,hz1,hz2⟩:=info_parts info_class
 refine wpList_append_own_at _ hgd s x 23 ho base 64 i0 (.agg #[.string ⟨#[]⟩, .string ⟨#[]⟩, .slice none 0 0, .slice none 0 0]) 4 80 Tryz.underlying23 hi hz0 hz1 hz2 rfl (by decide) v n xs hs (hown.alloc _) ⟨wr.heap.size,0,none⟩ 1 1 (cvC c) hx rfl
  (cells_four_new _ _ _ _ _ _) (by
   have:=ccells_one (w:=w0) (l:=[c]) (fun d hd=>by rw [List.mem_singleton.1 hd]; exact hc)
   simpa [ccells] using this) (by unfold maxLen; omega) (by omega) (by simp; omega) ?_
 intro v' w' h1 h2 _ h4
 refine h v' w' h1 h2 ?_
 rcases h4 with h4 | h4
 ·exact .inl h4
 ·exact .inr ⟨_,h4,by simp⟩
theorem cl_val {w:World} {b off:Nat} {c:Cl} (h:ClAt w b off c):∃ d:Cv,d.cl=c /\ CvOk w d /\ w.cell? ⟨b,off,none⟩=some (.string c.name) /\ w.cell? ⟨b,off + 1,none⟩=some (.string c.super) /\ w.cell? ⟨b,off + 2,none⟩=some d.hm /\ w.cell? ⟨b,off + 3,none⟩=some d.hy:=by
 obtain ⟨h0,h1,⟨vo,vn,vc,h2,s2⟩,uo,un,uc,h3,s3⟩:=h
 exact ⟨⟨c, .slice vo vn vc, .slice uo un uc⟩,rfl,⟨⟨vo,vn,vc,rfl,s2⟩,uo,un,uc,rfl,s3⟩,h0,h1,h2,h3⟩
/-! ### types -/
def tyC (t:Ty):List Value:=[.string t.name, .int .i64 t.syn, .bool t.single]
def tyV (t:Ty):Value := .agg #[.string t.name, .int .i64 t.syn, .bool t.single]
def ycells (l:List Ty):List Value:=l.flatMap tyC
end Go.Proofs.YtmmdaegdkikkpaaGreatDoor
end

section
set_option maxRecDepth 100000
namespace Go.Proofs.YtmmdaegdkikkpaaGreatDoor
open Go.RowKit Go.PlainAid Go.Maps
def rawE (v:Value):Option (DataW Value × List MemPlace):=some (.held v,[])
def RawMap (w:World) (b n:Nat) (f:ByteArray -> Option Value):Prop:=
 ∃ D,w.ownsMap Tryz.prog 9 rawE b n D /\ ∀ k,Maps.has D (klit k)=(f k).isSome /\ ∀ v,f k=some v -> ∀ z,D.atKey (klit k) z = .held v
theorem raw_made (w:World):RawMap (w.alloc (.map #[] 0)) w.heap.size 0 fun _=>none:=
 ⟨.map [],World.ownsMap_made w _ _ _,fun k=>⟨rfl,fun v h=>by cases h⟩⟩
theorem RawMap.lt {w:World} {b n:Nat} {f:ByteArray -> Option Value} (h:RawMap w b n f):b < w.heap.size:=by
 obtain ⟨D,h,_⟩:=h; exact h.lt
theorem RawMap.kept {w w':World} {b n:Nat} {f:ByteArray -> Option Value} {row:Option Nat} (h:RawMap w b n f) (hg:w.grownBy w' row) (hne:some b ≠ row):RawMap w' b n f:=by
 obtain ⟨D,h,hf⟩:=h; exact ⟨D,h.kept hg hne,hf⟩
theorem RawMap.below {w w':World} {b n:Nat} {f:ByteArray -> Option Value} {B:Nat} (h:RawMap w b n f) (hb:Below B w w') (hB:b < B):RawMap w' b n f:=by
 obtain ⟨D,⟨es,clock,he,h1,h2⟩,hf⟩:=h
 exact ⟨D,⟨es,clock,by rw [hb.block b hB]; exact he,h1,h2⟩,hf⟩
theorem RawMap.mono {w:World} {b n m:Nat} {f:ByteArray -> Option Value} (h:RawMap w b n f) (hm:n <= m):RawMap w b m f:=by
 obtain ⟨D,h,hf⟩:=h; exact ⟨D,h.mono hm,hf⟩
def MapVal (w:World) (mv:Option Nat) (f:ByteArray -> Option Value):Prop:=(mv=none /\ ∀ k,f k=none) ∨ ∃ b n,mv=some b /\ RawMap w b n f
theorem MapVal.below {w w':World} {mv:Option Nat} {f:ByteArray -> Option Value} (h:MapVal w mv f) (hb:Below w.heap.size w w'):MapVal w' mv f:=by
 rcases h with h | ⟨b,n,e,h⟩
 ·exact .inl h
 ·exact .inr ⟨b,n,e,h.below hb h.lt⟩
theorem MapVal.kept {w w':World} {mv:Option Nat} {f:ByteArray -> Option Value} {row:Option Nat} (h:MapVal w mv f) (hg:w.grownBy w' row) (hne:∀ b,mv=some b -> some b ≠ row):MapVal w' mv f:=by
 rcases h with h | ⟨b,n,e,h⟩
 ·exact .inl h
 ·exact .inr ⟨b,n,e,h.kept hg (hne b e)⟩
theorem MapVal.look_ok {w:World} {mv:Option Nat} {f:ByteArray -> Option Value} {t e:TypeId} {z:Value} (h:MapVal w mv f) (ht:Tryz.prog.underlying t=some (.map 9 e)) (hz:(zeroValue e).run Tryz.prog w = .ok z w) (k:ByteArray) (hk:k.size <= maxLen) :
  (Instr.lookup t (.map mv) (.string k) true).run Tryz.prog w = .ok (.tuple #[(f k).getD z, .bool (f k).isSome]) w:=by
 rcases h with ⟨rfl,hn⟩ | ⟨b,n,rfl,D,hm,hf⟩
 ·rw [Maps.look_nil true (string_keyed Tryz.underlying9) ht hz (klit_key k hk),hn k]; rfl
 ·obtain ⟨v,ps,hrun,hv⟩:=hm.look_ok (string_keyed Tryz.underlying9) ht hz (zd := .held z) rfl (klit_key k hk)
  rw [hrun,(hf k).1]
  have hv2:DataW.held v=D.atKey (klit k) (.held z):=by
   unfold rawE at hv
   simp only [Option.some.injEq,Prod.mk.injEq] at hv
   exact hv.1
  cases hfk:f k with
  | none =>
   have h0:=(hf k).1
   rw [hfk] at h0
   rw [atKey_of_not_has h0] at hv2
   injection hv2 with hv2
   rw [hv2]; rfl
  | some u =>
   rw [(hf k).2 u hfk] at hv2
   injection hv2 with hv2
   rw [hv2]; rfl
theorem MapVal.look {w:World} {mv:Option Nat} {f:ByteArray -> Option Value} {t e:TypeId} {z:Value} (h:MapVal w mv f) (ht:Tryz.prog.underlying t=some (.map 9 e)) (hz:(zeroValue e).run Tryz.prog w = .ok z w) (k:ByteArray) (hk:k.size <= maxLen) :
  (Instr.lookup t (.map mv) (.string k) false).run Tryz.prog w = .ok ((f k).getD z) w:=by
 rcases h with ⟨rfl,hn⟩ | ⟨b,n,rfl,D,hm,hf⟩
 ·rw [Maps.look_nil false (string_keyed Tryz.underlying9) ht hz (klit_key k hk),hn k]; rfl
 ·obtain ⟨v,ps,hrun,hv⟩:=hm.lookup (string_keyed Tryz.underlying9) ht hz (zd := .held z) rfl (klit_key k hk)
  rw [hrun]
  have hv2:DataW.held v=D.atKey (klit k) (.held z):=by
   unfold rawE at hv
   simp only [Option.some.injEq,Prod.mk.injEq] at hv
   exact hv.1
  cases hfk:f k with
  | none =>
   have h0:=(hf k).1
   rw [hfk] at h0
   rw [atKey_of_not_has h0] at hv2
   injection hv2 with hv2
   rw [hv2]; rfl
  | some u =>
   rw [(hf k).2 u hfk] at hv2
   injection hv2 with hv2
   rw [hv2]; rfl
def setO (f:ByteArray -> Option Value) (k:ByteArray) (v:Value) (j:ByteArray):Option Value:=if j=k then some v else f j
theorem RawMap.store {w:World} {b n:Nat} {f:ByteArray -> Option Value} {t e:TypeId} (h:RawMap w b n f) (ht:Tryz.prog.underlying t=some (.map 9 e)) (hn:n < maxLen) (k:ByteArray) (hk:k.size <= maxLen) (v:Value) :
  ∃ w',(Instr.mapUpdate t (.map (some b)) (.string k) v).run Tryz.prog w = .ok () w' /\ RawMap w' b (n + 1) (setO f k v) /\ w.grownBy w' (some b):=by
 obtain ⟨D,hm,hf⟩:=h
 obtain ⟨w',hrun,hm',hg⟩:=hm.update (string_keyed Tryz.underlying9) ht hn (klit_key k hk) (val:=v) (d := .held v) (ps:=[]) rfl
 refine ⟨w',hrun,⟨_,hm',fun j => ?_⟩,hg⟩
 unfold setO
 by_cases e:j=k
 ·subst e
  rw [if_pos rfl]
  refine ⟨has_put_same hm.isMap (by unfold klit; trivial) _,fun u hu z => ?_⟩
  obtain rfl:=Option.some.inj hu
  exact atKey_put_same hm.isMap (by unfold klit; trivial) _ _
 ·rw [if_neg e]
  have hne:klit j ≠ klit k:=fun h=>e (klit_one h)
  exact ⟨by rw [has_put_other hne]; exact (hf j).1,fun u hu z=>by rw [atKey_put_other hne]; exact (hf j).2 u hu z⟩
def zeroTy:Ty:=⟨⟨#[]⟩,0,false⟩
def zeroCv:Cv:=⟨⟨⟨#[]⟩,⟨#[]⟩,[],[]⟩, .slice none 0 0, .slice none 0 0⟩
def zeroTyV:Value := .agg #[.string ⟨#[]⟩, .int .i64 0, .bool false]
def zeroClV:Value := .agg #[.string ⟨#[]⟩, .string ⟨#[]⟩, .slice none 0 0, .slice none 0 0]
def TMap (w:World) (mv:Option Nat) (ts:List Ty):Prop := ∃ f,MapVal w mv f /\ ∀ n,f (lowS n)=(tyOf ts n).map tyV
def CMap (w0 w:World) (mv:Option Nat) (cs:List Cl):Prop:=
 ∃ f,MapVal w mv f /\ ∀ n,(clOf cs n=none -> f (lowS n)=none) /\ ∀ c,clOf cs n=some c -> ∃ d:Cv,d.cl=c /\ CvOk w0 d /\ f (lowS n)=some (cvV d)
theorem TMap.below {w w':World} {mv:Option Nat} {ts:List Ty} (h:TMap w mv ts) (hb:Below w.heap.size w w'):TMap w' mv ts:=by
 obtain ⟨f,h,k⟩:=h; exact ⟨f,h.below hb,k⟩
theorem CMap.below {w0 w w':World} {mv:Option Nat} {cs:List Cl} (h:CMap w0 w mv cs) (hb:Below w.heap.size w w'):CMap w0 w' mv cs:=by
 obtain ⟨f,h,k⟩:=h; exact ⟨f,h.below hb,k⟩
theorem CMap.base {w0 w1 w:World} {mv:Option Nat} {cs:List Cl} (h:CMap w0 w mv cs) (hb:Below w0.heap.size w0 w1):CMap w1 w mv cs:=by
 obtain ⟨f,h,k⟩:=h
 refine ⟨f,h,fun n=>⟨(k n).1,fun c hc => ?_⟩⟩
 obtain ⟨d,e,ho,hf⟩:=(k n).2 c hc
 exact ⟨d,e,ho.below hb,hf⟩
theorem TMap.kept {w w':World} {mv:Option Nat} {ts:List Ty} {row:Option Nat} (h:TMap w mv ts) (hg:w.grownBy w' row) (hne:∀ b,mv=some b -> some b ≠ row):TMap w' mv ts:=by
 obtain ⟨f,h,k⟩:=h; exact ⟨f,h.kept hg hne,k⟩
theorem CMap.kept {w0 w w':World} {mv:Option Nat} {cs:List Cl} {row:Option Nat} (h:CMap w0 w mv cs) (hg:w.grownBy w' row) (hne:∀ b,mv=some b -> some b ≠ row):CMap w0 w' mv cs:=by
 obtain ⟨f,h,k⟩:=h; exact ⟨f,h.kept hg hne,k⟩
theorem tmap_nil (w:World):TMap w none []:=⟨fun _=>none, .inl ⟨rfl,fun _=>rfl⟩,fun _=>rfl⟩
theorem cmap_nil (w0 w:World):CMap w0 w none []:=⟨fun _=>none, .inl ⟨rfl,fun _=>rfl⟩,fun _=>⟨fun _=>rfl,fun c hc=>by cases hc⟩⟩
theorem TMap.look {w:World} {mv:Option Nat} {ts:List Ty} (h:TMap w mv ts) (n:ByteArray) (hn:n.size <= 1000000000) :
  (Instr.lookup 127 (.map mv) (.string (lowS n)) true).run Tryz.prog w = .ok (.tuple #[((tyOf ts n).map tyV).getD zeroTyV, .bool (tyOf ts n).isSome]) w:=by
 obtain ⟨f,h,k⟩:=h
 rw [h.look_ok Tryz.underlying127 (Tryz.zeroValue62 _) (lowS n) (by rw [lowS_size]; unfold maxLen; omega),k n]
 cases tyOf ts n <;> rfl
theorem CMap.look {w0 w:World} {mv:Option Nat} {cs:List Cl} (h:CMap w0 w mv cs) (n:ByteArray) (hn:n.size <= 1000000000) :
  ∃ v,(Instr.lookup 128 (.map mv) (.string (lowS n)) true).run Tryz.prog w = .ok (.tuple #[v, .bool (clOf cs n).isSome]) w /\ (clOf cs n=none -> v=zeroClV) /\ ∀ c,clOf cs n=some c -> ∃ d:Cv,d.cl=c /\ CvOk w0 d /\ v=cvV d:=by
 obtain ⟨f,h,k⟩:=h
 refine ⟨(f (lowS n)).getD zeroClV, ?_,fun hc=>by rw [(k n).1 hc]; rfl,fun c hc => ?_⟩
 ·rw [h.look_ok Tryz.underlying128 (Tryz.zeroValue64 _) (lowS n) (by rw [lowS_size]; unfold maxLen; omega)]
  cases hc:clOf cs n with
  | none=>rw [(k n).1 hc]; rfl
  | some c =>
   obtain ⟨d,e,ho,hf⟩:=(k n).2 c hc
   rw [hf]; rfl
 ·obtain ⟨d,e,ho,hf⟩:=(k n).2 c hc
  exact ⟨d,e,ho,by rw [hf]; rfl⟩
def TOpen (w:World) (b n:Nat) (ts:List Ty):Prop := ∃ f,RawMap w b n f /\ ∀ m,f (lowS m)=(tyOf ts m).map tyV
def COpen (w0 w:World) (b n:Nat) (cs:List Cl):Prop:=
 ∃ f,RawMap w b n f /\ ∀ n,(clOf cs n=none -> f (lowS n)=none) /\ ∀ c,clOf cs n=some c -> ∃ d:Cv,d.cl=c /\ CvOk w0 d /\ f (lowS n)=some (cvV d)
theorem TOpen.map {w:World} {b n:Nat} {ts:List Ty} (h:TOpen w b n ts):TMap w (some b) ts:=by
 obtain ⟨f,h,k⟩:=h; exact ⟨f, .inr ⟨b,n,rfl,h⟩,k⟩
theorem COpen.map {w0 w:World} {b n:Nat} {cs:List Cl} (h:COpen w0 w b n cs):CMap w0 w (some b) cs:=by
 obtain ⟨f,h,k⟩:=h; exact ⟨f, .inr ⟨b,n,rfl,h⟩,k⟩
theorem TOpen.lt {w:World} {b n:Nat} {ts:List Ty} (h:TOpen w b n ts):b < w.heap.size:=by obtain ⟨f,h,_⟩:=h; exact h.lt
theorem COpen.lt {w0 w:World} {b n:Nat} {ts:List Cl} (h:COpen w0 w b n ts):b < w.heap.size:=by obtain ⟨f,h,_⟩:=h; exact h.lt
theorem TOpen.below {w w':World} {b n:Nat} {ts:List Ty} {B:Nat} (h:TOpen w b n ts) (hb:Below B w w') (hB:b < B):TOpen w' b n ts:=by
 obtain ⟨f,h,k⟩:=h; exact ⟨f,h.below hb hB,k⟩
theorem COpen.below {w0 w w':World} {b n:Nat} {cs:List Cl} {B:Nat} (h:COpen w0 w b n cs) (hb:Below B w w') (hB:b < B):COpen w0 w' b n cs:=by
 obtain ⟨f,h,k⟩:=h; exact ⟨f,h.below hb hB,k⟩
theorem TOpen.kept {w w':World} {b n:Nat} {ts:List Ty} {row:Option Nat} (h:TOpen w b n ts) (hg:w.grownBy w' row) (hne:some b ≠ row):TOpen w' b n ts:=by
 obtain ⟨f,h,k⟩:=h; exact ⟨f,h.kept hg hne,k⟩
theorem COpen.kept {w0 w w':World} {b n:Nat} {cs:List Cl} {row:Option Nat} (h:COpen w0 w b n cs) (hg:w.grownBy w' row) (hne:some b ≠ row):COpen w0 w' b n cs:=by
 obtain ⟨f,h,k⟩:=h; exact ⟨f,h.kept hg hne,k⟩
theorem topen_made (w:World):TOpen (w.alloc (.map #[] 0)) w.heap.size 0 []:=⟨_,raw_made w,fun m=>rfl⟩
theorem copen_made (w0 w:World):COpen w0 (w.alloc (.map #[] 0)) w.heap.size 0 []:=⟨_,raw_made w,fun m=>⟨fun _=>rfl,fun c hc=>by cases hc⟩⟩
theorem TOpen.store {w:World} {b n:Nat} {ts:List Ty} (h:TOpen w b n ts) (t:Ty) (hn:n < 1100000) (hz:t.name.size <= 1000000000) (hT:tyOf ts t.name=none) :
  ∃ w',(Instr.mapUpdate 127 (.map (some b)) (.string (lowS t.name)) (tyV t)).run Tryz.prog w = .ok () w' /\ TOpen w' b (n + 1) (ts ++ [t]) /\ w.grownBy w' (some b):=by
 obtain ⟨f,h,k⟩:=h
 obtain ⟨w',hrun,hm,hg⟩:=h.store Tryz.underlying127 (by unfold maxLen; omega) (lowS t.name) (by rw [lowS_size]; unfold maxLen; omega) (tyV t)
 refine ⟨w',hrun,⟨_,hm,fun m => ?_⟩,hg⟩
 rw [tyOf_snoc]
 unfold setO
 by_cases e:lowS m=lowS t.name
 ·have:tyOf ts m=none:=by rw [<- tyOf_low,e,tyOf_low]; exact hT
  rw [if_pos e,this,if_pos e.symm]; rfl
 ·rw [if_neg e,k m,if_neg (fun h=>e h.symm),Option.or_none]
theorem COpen.store {w0 w:World} {b n:Nat} {cs:List Cl} (h:COpen w0 w b n cs) (d:Cv) (hd:CvOk w0 d) (hn:n < 1100000) (hz:d.cl.name.size <= 1000000000) (hT:clOf cs d.cl.name=none) :
  ∃ w',(Instr.mapUpdate 128 (.map (some b)) (.string (lowS d.cl.name)) (cvV d)).run Tryz.prog w = .ok () w' /\ COpen w0 w' b (n + 1) (cs ++ [d.cl]) /\ w.grownBy w' (some b):=by
 obtain ⟨f,h,k⟩:=h
 obtain ⟨w',hrun,hm,hg⟩:=h.store Tryz.underlying128 (by unfold maxLen; omega) (lowS d.cl.name) (by rw [lowS_size]; unfold maxLen; omega) (cvV d)
 refine ⟨w',hrun,⟨_,hm,fun m => ?_⟩,hg⟩
 rw [clOf_snoc]
 unfold setO
 by_cases e:lowS m=lowS d.cl.name
 ·have:clOf cs m=none:=by rw [<- clOf_low,e,clOf_low]; exact hT
  rw [if_pos e,this,if_pos e.symm]
  refine ⟨(fun h=>by cases h),fun c hc=>⟨d, ?_,hd,rfl⟩⟩
  simpa using hc
 ·rw [if_neg e,if_neg (fun h=>e h.symm),Option.or_none]
  exact k m
end Go.Proofs.YtmmdaegdkikkpaaGreatDoor
end

section
set_option maxRecDepth 100000
namespace Go.Proofs.YtmmdaegdkikkpaaGreatDoor
open Go.RowKit Go.PlainAid
theorem rgT {P:Program} {md:Region.Mode} {ops:Array Oper} {Q:Exit -> Act -> World -> Prop} {S:World -> Prop} (i:Nat) (d:Option Nat) {op:Op} {ty:_} {ps:_} {af:_} {g:_} {v:Value} {fuel:Nat} {listed l':Array Bool} {a a':Act} {w:World}
  (h:wpAnyH P md ops Q S fuel l' a' w)
  (hi:ops[i]? = some { dst:=d,op:=op,type:=ty,pos:=ps,after:=af,guard:=g }:=by rfl)
  (hs:Region.noSelect ops=true:=by kernel_rfl) (hf:Region.free md ops listed i=true:=by kernel_rfl) (hr:(Region.ready md ops listed).contains i=true:=by kernel_rfl)
  (hQ:∀ c a w,Q (.panic c) (a.put d v) w -> Q (.panic c) a w:=by exact fun _ _ _ h=>h)
  (hy:YieldsIf P ops S { dst:=d,op:=op,type:=ty,pos:=ps,after:=af,guard:=g } v a:=by
   refine Or.inl ⟨by rfl, ?_⟩
   intro w hSw
   try dsimp only at hSw
   go_simp
   try with_reducible rfl)
  (hS:S w:=by assumption)
  (ha:a.put d v=a':=by first | (simp only [Act.put,List.setIfInBounds_toArray,List.set_cons_zero,List.set_cons_succ]; done) | (simp only [Act.put,List.setIfInBounds_toArray,List.set_cons_zero,List.set_cons_succ]; rfl) | rfl)
  (hl:listed.setIfInBounds i true=l':=by first | (simp only [List.setIfInBounds_toArray,List.set_cons_zero,List.set_cons_succ]; done) | (simp only [List.setIfInBounds_toArray,List.set_cons_zero,List.set_cons_succ]; rfl) | rfl) :
  wpAnyH P md ops Q S (fuel + 1) listed a w:=by
 subst ha
 subst hl
 exact wpAnyH_take hi hs hf hr hQ hy hS h
theorem lsA {α:Type} (l:List α) (i:Nat) (a:α):l.toArray.setIfInBounds i a=(l.set i a).toArray:=List.setIfInBounds_toArray ..
theorem lsZ {α:Type} {a b:α} {l:List α}:(a :: l).set 0 b=b :: l:=List.set_cons_zero ..
theorem lsS {α:Type} {a b:α} {l:List α} {i:Nat}:(a :: l).set (i + 1) b=a :: l.set i b:=List.set_cons_succ ..
theorem rgS {P:Program} {md:Region.Mode} {ops:Array Oper} {Q:Exit -> Act -> World -> Prop} {S:World -> Prop} (i:Nat) (d:Option Nat) {op:Op} {ty:_} {ps:_} {af:_} {g:_} {fuel:Nat} {listed l':Array Bool} {a a':Act} {w:World}
  (h:wpAnyH P md ops Q S fuel l' a' w)
  (hi:ops[i]? = some { dst:=d,op:=op,type:=ty,pos:=ps,after:=af,guard:=g }:=by rfl)
  (hs:Region.noSelect ops=true:=by kernel_rfl) (hf:Region.free md ops listed i=true:=by kernel_rfl) (hr:(Region.ready md ops listed).contains i=true:=by kernel_rfl)
  (hQ:∀ c a w,Q (.panic c) (a.put d undef) w -> Q (.panic c) a w:=by exact fun _ _ _ h=>h)
  (hy:YieldsIf P ops S { dst:=d,op:=op,type:=ty,pos:=ps,after:=af,guard:=g } undef a:=by exact Or.inr ⟨by rfl,rfl⟩)
  (hS:S w:=by assumption)
  (ha:a.put d undef=a':=by first | (simp only [Act.put,List.setIfInBounds_toArray,List.set_cons_zero,List.set_cons_succ]; done) | (simp only [Act.put,List.setIfInBounds_toArray,List.set_cons_zero,List.set_cons_succ]; rfl) | rfl)
  (hl:listed.setIfInBounds i true=l':=by first | (simp only [List.setIfInBounds_toArray,List.set_cons_zero,List.set_cons_succ]; done) | (simp only [List.setIfInBounds_toArray,List.set_cons_zero,List.set_cons_succ]; rfl) | rfl) :
  wpAnyH P md ops Q S (fuel + 1) listed a w:=by
 subst ha
 subst hl
 exact wpAnyH_take hi hs hf hr hQ hy hS h
theorem rgC {P:Program} {md:Region.Mode} {ops:Array Oper} {Q:Exit -> Act -> World -> Prop} {S:World -> Prop} (i:Nat) {o:Oper} {fuel:Nat} {listed:Array Bool} {a:Act} {w:World}
  (h:∀ K':Act -> World -> Prop,Shut (∀ a w,S w -> (S w -> wpAnyH P md ops Q S fuel (listed.setIfInBounds i true) a w) -> K' a w) -> if Region.wanted o (yielded ops a.tmps)=true then Oper.wp P o a w K' Q else K' (a.put o.dst undef) w)
  (hr:Region.ready md ops listed = [i]:=by kernel_rfl) (ho:ops[i]? = some o:=by rfl) :
  wpAnyH P md ops Q S (fuel + 1) listed a w:=wpAnyH_ready hr (by simp) (AllReadyH.cons ho h AllReadyH.nil)
theorem names_snoc (l:List At) (a:At):names (l ++ [a])=if a.2.length=0 then names l else insS (names l) (lowS a.1):=by
 unfold names
 rw [List.filter_append,List.map_append]
 by_cases h:a.2.length=0
 ·have e:a.2 = []:=List.length_eq_zero_iff.1 h
  rw [if_pos h]
  have : [a].filter (fun a => !a.2.isEmpty) = []:=by simp [e]
  rw [this]; simp
 ·have e:a.2 ≠ []:=fun e=>h (by rw [e]; rfl)
  rw [if_neg h]
  have : [a].filter (fun a => !a.2.isEmpty) = [a]:=by simp [e]
  rw [this]; exact sortU_snoc _ _
theorem names_len (l:List At):(names l).length <= l.length:=by
 unfold names
 refine Nat.le_trans (sortU_len _) ?_
 rw [List.length_map]; exact List.length_filter_le _ _
theorem names_asc (l:List At):Asc (names l):=sortU_asc _
theorem lowS_small {s:ByteArray} {m:Nat} (h:s.size <= m):(lowS s).size <= m:=by rw [lowS_size]; exact h
theorem names_small {l:List At} (h:SmallA l):SmallS (names l):=by
 intro v hv
 obtain ⟨u,a,ha,rfl,_⟩:=names_mem.1 hv
 exact lowS_small (h a ha).1
theorem vals_small {l:List At} (h:SmallA l) (n:ByteArray):SmallS (vals l n):=by
 intro v hv
 obtain ⟨a,ha,_,hx⟩:=vals_mem.1 hv
 exact (h a ha).2 v hx
theorem vals_len (l:List At) (n:ByteArray):(vals l n).length <= sumV l:=Nat.le_trans (sortU_len _) (allV_len n l)
theorem nf_len (l:List At):(nf l).length <= l.length:=by unfold nf; rw [List.length_map]; exact names_len l
theorem nf_small {l:List At} (h:SmallA l):SmallA (nf l):=by
 intro a ha
 unfold nf at ha
 obtain ⟨n,hn,rfl⟩:=List.mem_map.1 ha
 exact ⟨names_small h n hn,vals_small h n⟩
theorem sortU_app {X:List ByteArray} {vs:List ByteArray} {j:Nat} (h:j < vs.length):sortU (X ++ vs.take (j + 1))=insS (sortU (X ++ vs.take j)) (partAt vs j):=by
 rw [take_snoc vs j h, <- List.append_assoc,sortU_snoc]
theorem map_take_snoc {l:List At} {ns:List ByteArray} {i:Nat} (h:i < ns.length) {T:List Tr} (hT:tats T=(ns.take i).map fun n=>(n,vals l n)) {v:Value} :
  tats (T ++ [(partAt ns i,v,vals l (partAt ns i))])=(ns.take (i + 1)).map fun n=>(n,vals l n):=by
 rw [tats_append,hT,take_snoc ns i h,List.map_append]; rfl
theorem abox_set {w:World} {b:Nat} {nm:ByteArray} {v u:Value} (h:ABox w b nm v):ABox (w.setCell ⟨b,1,none⟩ u) b nm u:=heap_setCell_same w b 1 #[.string nm,v] 58 u h
theorem grown_set (w:World) (b i:Nat) (u:Value):w.grownBy (w.setCell ⟨b,i,none⟩ u) (some b):=
 ⟨rfl,rfl,rfl,by simp,fun k hk hne=>heap_setCell_other w ⟨b,i,none⟩ k u (fun e=>hne (by rw [e]))⟩
theorem own_set {w:World} {base b i:Nat} {v u:Value} {n:Nat} {xs:List Value} (h:w.ownsRow base 9 1 v n xs) (hb:b < base):(w.setCell ⟨b,i,none⟩ u).ownsRow base 9 1 v n xs:=
 h.kept (grown_set w b i u) (by
  cases hv:v.ownBlock with
  | none=>exact .inl rfl
  | some g=>exact .inr fun e=>by cases e; have:=(h.lt b hv).1; omega)
def TOwn (w:World) (base:Nat) (v:Value) (T:List Tr):Prop := ∀ t ∈ T,w.ownsRow base 9 1 t.2.1 t.2.2.length (scells t.2.2) /\ (t.2.1.ownBlock=none ∨ t.2.1.ownBlock ≠ v.ownBlock)
theorem TOwn.ok {w:World} {base:Nat} {v:Value} {T:List Tr} (h:TOwn w base v T):TOk w T:=fun t ht=>hdr_owns (h t ht).1
theorem TOwn.below {w w':World} {base:Nat} {v:Value} {T:List Tr} (h:TOwn w base v T) (hb:Below w.heap.size w w'):TOwn w' base v T:=fun t ht=>⟨own_below (h t ht).1 hb,(h t ht).2⟩
theorem TOwn.mono {w:World} {base base':Nat} {v:Value} {T:List Tr} (h:TOwn w base v T) (hb:base' <= base):TOwn w base' v T:=fun t ht=>⟨(h t ht).1.mono hb,(h t ht).2⟩
theorem TOwn.snoc {w:World} {base:Nat} {v:Value} {T:List Tr} (h:TOwn w base v T) {t:Tr} (ht:w.ownsRow base 9 1 t.2.1 t.2.2.length (scells t.2.2)) (hv:t.2.1.ownBlock=none ∨ t.2.1.ownBlock ≠ v.ownBlock):TOwn w base v (T ++ [t]):=
 fun u hu=>(List.mem_append.1 hu).elim (h u) fun k=>by rw [List.mem_singleton.1 k]; exact ⟨ht,hv⟩
theorem TOwn.grown {w w':World} {base:Nat} {v v':Value} {T:List Tr} (h:TOwn w base v T) (hg:w.grownBy w' v.ownBlock) (hl:v'.ownBlock=v.ownBlock ∨ v'.ownBlock=some w.heap.size):TOwn w' base v' T:=fun t ht=>by
 obtain ⟨h1,h2⟩:=h t ht
 refine ⟨h1.kept hg h2, ?_⟩
 cases hb:t.2.1.ownBlock with
 | none=>exact .inl rfl
 | some g =>
  refine .inr fun e => ?_
  rcases hl with k | k
  ·rcases h2 with h2 | h2
   ·rw [hb] at h2; cases h2
   ·exact h2 (by rw [hb,e,k])
  ·rw [k] at e
   cases e
   have:=(h1.lt _ hb).2
   omega
theorem own_apart {w:World} {base:Nat} {e:TypeId} {size n m:Nat} {v u:Value} {xs ys:List Value} {e':TypeId} {size' b0:Nat} (h:w.ownsRow base e size v n xs) {w0:World} (k:w0.ownsRow b0 e' size' u m ys) (hb:w0.heap.size <= base):v.ownBlock=none ∨ v.ownBlock ≠ u.ownBlock:=by
 cases hv:v.ownBlock with
 | none=>exact .inl rfl
 | some g =>
  refine .inr fun e => ?_
  have h1:=(h.lt g hv).1
  have h2:=(k.lt g e.symm).2
  omega
theorem keep2b {w w1 w2:World} {f:Nat} {A B:Addr} {x y:Value} (h:w1.cell? A=some x /\ w1.cell? B=some y /\ Hid (Below f w w1 /\ f <= w1.heap.size)) (hb:Below w1.heap.size w1 w2):w2.cell? A=some x /\ w2.cell? B=some y /\ Hid (Below f w w2 /\ f <= w2.heap.size):=
 ⟨cell_later hb h.1,cell_later hb h.2.1,Lib.hid ⟨h.2.2.out.1.trans (hb.mono h.2.2.out.2),Nat.le_trans h.2.2.out.2 hb.size⟩⟩
theorem keep2s {w w1:World} {f g i:Nat} {A B:Addr} {x y u:Value} (h:w1.cell? A=some x /\ w1.cell? B=some y /\ Hid (Below f w w1 /\ f <= w1.heap.size)) (hA:A.block < g) (hB:B.block < g) (hg:f <= g):(w1.setCell ⟨g,i,none⟩ u).cell? A=some x /\ (w1.setCell ⟨g,i,none⟩ u).cell? B=some y /\ Hid (Below f w (w1.setCell ⟨g,i,none⟩ u) /\ f <= (w1.setCell ⟨g,i,none⟩ u).heap.size):=
 ⟨(World.cell?_of_block (heap_setCell_other w1 ⟨g,i,none⟩ A.block u (Nat.ne_of_lt hA))).trans h.1,(World.cell?_of_block (heap_setCell_other w1 ⟨g,i,none⟩ B.block u (Nat.ne_of_lt hB))).trans h.2.1,Lib.hid ⟨h.2.2.out.1.setCell (p:=⟨g,i,none⟩) hg _,by simpa using h.2.2.out.2⟩⟩
theorem keep3b {w w1 w2:World} {f:Nat} {A B C:Addr} {x y z:Value} (h:w1.cell? A=some x /\ w1.cell? B=some y /\ w1.cell? C=some z /\ Hid (Below f w w1 /\ f <= w1.heap.size)) (hb:Below w1.heap.size w1 w2):w2.cell? A=some x /\ w2.cell? B=some y /\ w2.cell? C=some z /\ Hid (Below f w w2 /\ f <= w2.heap.size):=
 ⟨cell_later hb h.1,cell_later hb h.2.1,cell_later hb h.2.2.1,Lib.hid ⟨h.2.2.2.out.1.trans (hb.mono h.2.2.2.out.2),Nat.le_trans h.2.2.2.out.2 hb.size⟩⟩
theorem allV_small (l:List At) (k:Nat) (n:ByteArray):(allV (l.take k) n).length <= sumV l:=Nat.le_trans (allV_len n _) (sumV_take l k)
theorem abox_frozen {w:World} {b:Nat} {nm:ByteArray} {v:Value} (h:ABox w b nm v) (a:Nat):w.frozen? ⟨b,a,none⟩=false:=by
 unfold ABox at h
 simp [World.frozen?,h]
set_option maxRecDepth 100000 in
set_option maxHeartbeats 4000000 in
theorem rsorted_s (ao:Option Addr) (n cap:Nat) (l:List At) (w:World) (h:AttrsAt w ao n cap l) (hS:SmallA l) (hV:sumV l <= 100000) (hn:n <= 3000) :
  Calls Tryz.prog 83 #[.slice ao n cap] w fun e w'=>∃ v T,e = .returned v /\ tats T=nf l /\ TOwn w' w.heap.size v T /\ w'.ownsRow w.heap.size 58 2 v T.length (tcells T) /\ Below w.heap.size w w':=by
 obtain ⟨h1,h2,h3,h4⟩:=h
 subst h1
 unfold maxLen at h3
 have H4:=Lib.hid h4; clear h4
 have HS:=Lib.hid hS; clear hS
 have HV:=Lib.hid hV; clear hV
 go_enter Tryz.func83,Tryz.ntmps83
 go_wp2
 go_loopw [3,4] (fun s3 i wr=>∃ (j:Nat),j <= l.length /\ i = .int .i64 j /\ wr.ownsRow w.heap.size 9 1 s3 (names (l.take j)).length (scells (names (l.take j))) /\ Hid (Below w.heap.size w wr)) (fun _ i _=>l.length - (intOf i).toNat)
 case atStart=>exact ⟨0,Nat.zero_le _,rfl,World.ownsRow_nil _ _ _ _,Lib.hid (Below.refl _ _)⟩
 case round =>
  obtain ⟨j,hj,rfl,hown,HB⟩:=hrel
  by_cases hlt:j < l.length
  ·obtain ⟨b,off,rfl,hblt,hat⟩:=H4.out (by omega)
   obtain ⟨c0,vo,vn,vc,c1,hvs0⟩:=hat j hlt
   have c0:=cell_later HB.out c0
   have c1:=cell_later HB.out c1
   obtain ⟨a,ha⟩:∃ x,atD l j=x:=⟨_,rfl⟩
   have hsz:=(HS.out _ (at_mem l j hlt)).1
   have HT:=Lib.hid (names_snoc (l.take j) (atD l j))
   rw [<- at_take l j hlt] at HT
   rw [ha] at c0 hsz hvs0 HT
   have hvl:a.2.length=vn:=hvs0.1
   clear ha hat hvs0
   obtain ⟨nm,hnm⟩:∃ x,a.1=x:=⟨_,rfl⟩
   rw [hnm] at c0 hsz HT
   clear hnm
   obtain ⟨o,ho⟩:∃ x,names (l.take j)=x:=⟨_,rfl⟩
   have HOA:=Lib.hid (show Asc o by rw [<- ho]; exact names_asc _)
   have hol:o.length <= 3000:=by rw [<- ho]; have:=names_len (l.take j); rw [List.length_take] at this; omega
   rw [ho] at hown HT
   clear ho
   have d1:(j:Int) < (l.length:Int):=by omega
   by_cases hv0:vn=0
   ·have d2:decide ((0:Int) < (vn:Int))=false:=decide_eq_false (by omega)
    have HT2:=Lib.hid (show names (l.take (j + 1))=o by rw [HT.out,if_pos (by omega)])
    go_wp2_with fail
    go_roundw
    case rel=>exact ⟨j + 1,by omega,by go_num,by rw [HT2.out]; exact hown,HB⟩
    case measure=>simp [intOf]; omega
   ·have d2:decide ((0:Int) < (vn:Int))=true:=decide_eq_true (by omega)
    have HT2:=Lib.hid (show names (l.take (j + 1))=insS o (lowS nm) by rw [HT.out,if_neg (by omega)])
    obtain ⟨so,scap,rfl,hso⟩:=strs_own hown rfl
    have HSO:=Lib.hid hso
    clear hso HT
    go_wp2_with fail
    refine (rLower_s nm _ (by omega)).mono ?_
    rintro e w1 ⟨rfl,hb1⟩
    have HB1:=Lib.hid (HB.out.trans (hb1.mono HB.out.size))
    have HSO1:=Lib.hid (HSO.out.below hb1)
    clear hb1
    go_wp2_with fail
    refine (insert_s _ _ _ o (lowS nm) w1 HSO1.out (by omega) HOA.out).mono ?_
    rintro e w2 ⟨v2,rfl,hown2,hb2⟩
    have HB2:=Lib.hid (HB1.out.trans (hb2.mono HB1.out.size))
    have hown3:=hown2.mono HB1.out.size
    clear hb2 hown2
    go_wp2_with fail
    go_roundw
    case rel=>exact ⟨j + 1,by omega,by go_num,by rw [HT2.out]; exact hown3,HB2⟩
    case measure=>simp [intOf]; omega
  ·obtain rfl:j=l.length:=by omega
   rw [List.take_length] at hown
   obtain ⟨ns,hns⟩:∃ x,names l=x:=⟨_,rfl⟩
   have hnl:ns.length <= 3000:=by rw [<- hns]; have:=names_len l; omega
   rw [hns] at hown
   have HNF:=Lib.hid (show nf l=ns.map fun n=>(n,vals l n) by rw [<- hns]; rfl)
   clear hns
   obtain ⟨so,scap,rfl,hso⟩:=strs_own hown rfl
   have HSO:=Lib.hid hso
   clear hso hown
   obtain ⟨wa,hwa⟩:∃ x,x=wr:=⟨_,rfl⟩
   subst hwa
   go_wp2
   go_loopw [5,6,7,8,9] (fun v iv s7 s8 s9 wr=>∃ (i:Nat) (T:List Tr),i <= ns.length /\ iv = .int .i64 i /\ T.length=i /\ Hid (tats T=(ns.take i).map fun n=>(n,vals l n)) /\ Hid (TOwn wr wa.heap.size v T) /\ wr.ownsRow wa.heap.size 58 2 v T.length (tcells T) /\ Hid (Below wa.heap.size wa wr)) (fun _ iv _ _ _ _=>ns.length - (intOf iv).toNat)
   case atStart=>exact ⟨0,[],Nat.zero_le _,rfl,rfl,Lib.hid (by simp [tats]),Lib.hid (fun t ht=>(List.not_mem_nil ht).elim),World.ownsRow_nil _ _ _ _,Lib.hid (Below.refl _ _)⟩
   case round =>
    obtain ⟨i,T,hi,rfl,hTl,HTT,HTK,hownT,HB2⟩:=hrel
    by_cases hli:i < ns.length
    ·obtain ⟨sb,soff,rfl,hs⟩:=HSO.out.2.2.2 (by omega)
     have hcell:=(hs.below HB2.out hs.1).2 i hli
     have hsb:=hs.1
     obtain ⟨nm,hnm⟩:∃ x,partAt ns i=x:=⟨_,rfl⟩
     rw [hnm] at hcell
     have HMT:=Lib.hid (fun (v:Value)=>map_take_snoc hli HTT.out (v:=v))
     rw [hnm] at HMT
     clear hs hnm
     have e1:(i:Int) < (ns.length:Int):=by omega
     have HB2w:=Lib.hid (HB.out.trans (HB2.out.mono HB.out.size))
     go_wp2_with fail
     obtain ⟨wb,hwb⟩:∃ x,x=wr:=⟨_,rfl⟩
     subst hwb
     have hsb2:sb < wb.heap.size:=Nat.lt_of_lt_of_le hsb HB2.out.size
     obtain ⟨W1,hW1⟩:∃ W1,wb.alloc (.cells #[.string nm, .slice none 0 0] 58)=W1:=⟨_,rfl⟩
     have X1:ABox W1 wb.heap.size nm (.slice none 0 0):=by rw [<- hW1]; exact abox_new wb nm _
     have HBb:=Lib.hid (show Below wb.heap.size wb W1 by rw [<- hW1]; exact (Below.refl _ wb).alloc (Nat.le_refl _) _)
     have HZ:=Lib.hid (World.ownsRow_nil W1 wb.heap.size 9 1)
     rw [hW1]
     clear hW1
     go_loopw [8,9] (fun kv jv wr=>∃ (k:Nat) (hd:Value),k <= l.length /\ kv = .int .i64 k /\ Hid (ABox wr wb.heap.size nm hd) /\ Hid (wr.ownsRow wb.heap.size 9 1 hd (sortU (allV (l.take k) nm)).length (scells (sortU (allV (l.take k) nm)))) /\ Hid (Below wb.heap.size wb wr)) (fun kv _ _=>l.length - (intOf kv).toNat)
     case atStart=>exact ⟨0,_,Nat.zero_le _,rfl,Lib.hid X1,HZ,HBb⟩
     case round =>
      obtain ⟨k,hd,hk,rfl,HX,HH,HB3⟩:=hrel
      by_cases hlk:k < l.length
      ·obtain ⟨b,off,rfl,hblt,hat⟩:=H4.out (by omega)
       obtain ⟨c0,vo,vn,vc,c1,hvs0⟩:=hat k hlk
       have HB3w:=Lib.hid (HB2w.out.trans (HB3.out.mono HB2w.out.size))
       have hblt2:b < wb.heap.size:=Nat.lt_of_lt_of_le hblt HB2w.out.size
       have hcn:=(HB3.out.cell (p:=⟨sb,soff + i,none⟩) hsb2).trans hcell
       have c0:=cell_later HB3w.out c0
       have c1:=cell_later HB3w.out c1
       obtain ⟨a,ha⟩:∃ x,atD l k=x:=⟨_,rfl⟩
       have hsz:=(HS.out _ (at_mem l k hlk)).1
       have HTV:=Lib.hid (show allV (l.take (k + 1)) nm=allV (l.take k) nm ++ (if lowS (atD l k).1=nm then (atD l k).2 else []) by rw [at_take l k hlk]; exact allV_snoc _ _ _)
       have HAL:=Lib.hid (allV_small l (k + 1) nm)
       rw [ha] at c0 hsz hvs0 HTV
       have hvl:a.2.length=vn:=hvs0.1
       have HVS:=Lib.hid (hvs0.2.2.2)
       have HVW:=Lib.hid hvs0
       clear ha hat hvs0
       obtain ⟨p,hp⟩:∃ x,a.1=x:=⟨_,rfl⟩
       obtain ⟨vs,hvs⟩:∃ x,a.2=x:=⟨_,rfl⟩
       rw [hp] at c0 hsz HTV
       rw [hvs] at HTV HVS hvl HVW
       clear hp hvs
       obtain ⟨X,hX⟩:∃ x,allV (l.take k) nm=x:=⟨_,rfl⟩
       rw [hX] at HH HTV
       clear hX
       obtain ⟨lw,hlw⟩:∃ x,lowS p=x:=⟨_,rfl⟩
       rw [hlw] at HTV
       have HLW:=Lib.hid hlw
       clear hlw
       have e2:(k:Int) < (l.length:Int):=by omega
       have hvm:vn <= 9223372036854775807:=Nat.le_trans HVW.out.2.1 HVW.out.2.2.1
       go_wp2_with fail
       obtain ⟨wc,hwc⟩:∃ x,x=wr:=⟨_,rfl⟩
       subst hwc
       go_loopw [9] (fun jv wr=>∃ (j:Nat) (hd:Value),j <= vs.length /\ (lw ≠ nm -> j=0) /\ jv = .int .i64 j /\ Hid (ABox wr wb.heap.size nm hd) /\ Hid (wr.ownsRow wb.heap.size 9 1 hd (sortU (X ++ vs.take j)).length (scells (sortU (X ++ vs.take j)))) /\ Hid (Below wb.heap.size wb wr)) (fun jv _=>vs.length - (intOf jv).toNat)
       case atStart=>exact ⟨0,hd,Nat.zero_le _,fun _=>rfl,rfl,HX,by rw [List.take_zero,List.append_nil]; exact HH,HB3⟩
       case round =>
        obtain ⟨j,hd,hj,hj0,rfl,HX,HH,HB4⟩:=hrel
        have HB4w:=Lib.hid (HB2w.out.trans (HB4.out.mono HB2w.out.size))
        have c0:=(HB4.out.cell (p:=⟨b,off + k * 2,none⟩) hblt2).trans ((HB3.out.cell (p:=⟨b,off + k * 2,none⟩) hblt2).symm.trans c0)
        have c1:=(HB4.out.cell (p:=⟨b,off + k * 2 + 1,none⟩) hblt2).trans ((HB3.out.cell (p:=⟨b,off + k * 2 + 1,none⟩) hblt2).symm.trans c1)
        have hcn:=(HB4.out.cell (p:=⟨sb,soff + i,none⟩) hsb2).trans ((HB3.out.cell (p:=⟨sb,soff + i,none⟩) hsb2).symm.trans hcn)
        have HBd:Hid (Below wr.heap.size wr wr.drew /\ wr.heap.size <= wr.drew.heap.size):=Lib.hid ⟨(Below.refl _ wr).drew,Nat.le_refl _⟩
        have HBe:Hid (Below wb.heap.size wb wr.drew /\ wb.heap.size <= wr.drew.heap.size):=Lib.hid ⟨HB4.out.drew,HB4.out.size⟩
        by_cases hlw:lw=nm
        ·have q1:(lw.toList == nm.toList)=true:=by rw [str_eq]; exact decide_eq_true hlw
         rw [if_pos hlw] at HTV
         by_cases hlj:j < vs.length
         ·have d3:(j:Int) < (vn:Int):=by omega
          obtain ⟨vb,voff,rfl,hvb,hvc⟩:=HVS.out (by omega)
          have hvb2:vb < wb.heap.size:=Nat.lt_of_lt_of_le hvb HB2w.out.size
          have hcv:=cell_later HB4w.out (hvc j hlj)
          clear hvc
          have HIN:=Lib.hid (sortU_app (X:=X) hlj)
          obtain ⟨y,hy⟩:∃ x,partAt vs j=x:=⟨_,rfl⟩
          rw [hy] at hcv HIN
          clear hy
          obtain ⟨hnn,hhn⟩:∃ x,(sortU (X ++ vs.take j)).length=x:=⟨_,rfl⟩
          have HHN:=HH.out
          rw [hhn] at HHN
          obtain ⟨ho,hcap,rfl,hHS⟩:=strs_own HHN hhn
          clear HHN
          have hle:hnn <= 100000:=by
           have h5:=HAL.out
           have h6:=HV.out
           rw [HTV.out,List.length_append] at h5
           have h7:=sortU_len (X ++ vs.take j)
           rw [hhn,List.length_append,List.length_take] at h7
           omega
          have HHS:=Lib.hid hHS
          clear hHS
          go_wp2_with fail
          go_region_held3 (fun W=>W.cell? ⟨b,off + k * 2,none⟩=some (.string p) /\ W.cell? ⟨b,off + k * 2 + 1,none⟩=some (.slice (some ⟨vb,voff,none⟩) vn vc) /\ W.cell? ⟨sb,soff + i,none⟩=some (.string nm) /\ Hid (Below wb.heap.size wb W /\ wb.heap.size <= W.heap.size))
           (first | exact ⟨c0,c1,hcn,HBe⟩ | exact keep3b (by assumption) hb | go_keep)
           ((go_at_call 81; with_reducible refine (rLower_s p _ (by omega)).mono ?_; rintro e w5 ⟨rfl,hb⟩; rw [HLW.out]))
          have HB5:Hid (Below wr.heap.size wr w5):=Lib.hid ((Below.refl wr.heap.size wr).drew.trans hb)
          have HX5:=HX.out.below HB5.out
          have HHd:Hid (StrsAt w5.drew ho hnn hcap (sortU (X ++ vs.take j))):=Lib.hid ((HHS.out.below HB5.out).below (Below.refl _ w5).drew)
          have c15:=(HB5.out.cell (p:=⟨b,off + k * 2 + 1,none⟩) (Nat.lt_of_lt_of_le hblt2 HB4.out.size)).trans c1
          have hcv5:=(HB5.out.cell (p:=⟨vb,voff + j,none⟩) (Nat.lt_of_lt_of_le hvb2 HB4.out.size)).trans hcv
          have HB5d:Hid (Below wb.heap.size wb w5.drew /\ wb.heap.size <= w5.drew.heap.size):=Lib.hid ⟨(HB4.out.trans (HB5.out.mono HB4.out.size)).drew,Nat.le_trans HB4.out.size HB5.out.size⟩
          have cxd:w5.drew.cell? ⟨wb.heap.size,1,none⟩=some (.slice ho hnn hcap):=HX5.cells.2
          have hXlt:wb.heap.size < w5.heap.size:=HX5.lt
          go_wp2_with fail
          refine wp_region_held_drew (S:=fun W=>W.cell? ⟨b,off + k * 2 + 1,none⟩=some (.slice (some ⟨vb,voff,none⟩) vn vc) /\ W.cell? ⟨vb,voff + j,none⟩=some (.string y) /\ Hid (Below wb.heap.size wb W /\ wb.heap.size <= W.heap.size)) (by kernel_rfl) (⟨c15,hcv5,HB5d⟩) (fun hS => ?_)
          refine rgT 0 (some 71) ?_
          refine rgT 2 (some 73) ?_
          refine rgT 3 (some 74) ?_
          refine rgT 4 (some 75) ?_
          refine rgT 5 (some 76) ?_
          refine rgT 6 (some 77) ?_
          refine rgT 7 (some 78) ?_
          refine rgT 8 (some 79) ?_
          refine rgT 9 (some 80) ?_
          refine rgC 1 (fun K hK => ?_)
          go_simp
          refine hK.out _ _ ?_ (fun hHeld => ?_)
          ·exact hS
          clear hK K
          try simp only [Act.put,lsA,lsZ,lsS]
          refine rgC 10 (fun K hK => ?_)
          go_simp
          refine (insert_s ho hnn hcap _ y _ HHd.out (by omega) (sortU_asc _)).mono ?_
          rintro e w6 ⟨v6,rfl,hown6,hb2⟩
          obtain ⟨o6,p6,rfl,hs6⟩:=strs_own hown6 rfl
          clear hs6
          have HX6:ABox w6 wb.heap.size nm (.slice ho hnn hcap):=(HX5.below (Below.refl _ w5).drew).below hb2
          have cx6:=HX6.cells.2
          have fx6:=abox_frozen HX6 1
          go_wp2_with fail
          refine hK.out _ _ ?_ (fun hHeld => ?_)
          ·exact keep2b (by assumption) hb2
          clear hK K
          try simp only [Act.put,lsA,lsZ,lsS]
          refine rgT 11 (some 82) ?_
          refine rgC 12 (fun K hK => ?_)
          go_simp
          refine hK.out _ _ ?_ (fun hHeld => ?_)
          ·exact keep2s (by assumption) hblt2 hvb2 (Nat.le_refl _)
          clear hK K
          try simp only [Act.put,lsA,lsZ,lsS]
          refine wpAnyH_done (by kernel_rfl) ?_ _
          have HS7:Hid (Below wb.heap.size wb (w6.setCell ⟨wb.heap.size,1,none⟩ (Value.slice o6 (insS (sortU (X ++ List.take j vs)) y).length p6))):=Lib.hid ((And.right (And.right (by assumption:(w6.setCell ⟨wb.heap.size,1,none⟩ (Value.slice o6 (insS (sortU (X ++ List.take j vs)) y).length p6)).cell? ⟨b,off + k * 2 + 1,none⟩=some (.slice (some ⟨vb,voff,none⟩) vn vc) /\ (w6.setCell ⟨wb.heap.size,1,none⟩ (Value.slice o6 (insS (sortU (X ++ List.take j vs)) y).length p6)).cell? ⟨vb,voff + j,none⟩=some (.string y) /\ Hid (Below wb.heap.size wb (w6.setCell ⟨wb.heap.size,1,none⟩ (Value.slice o6 (insS (sortU (X ++ List.take j vs)) y).length p6)) /\ wb.heap.size <= (w6.setCell ⟨wb.heap.size,1,none⟩ (Value.slice o6 (insS (sortU (X ++ List.take j vs)) y).length p6)).heap.size)))).out.1)
          have HX7:=Lib.hid (abox_set (u:=(Value.slice o6 (insS (sortU (X ++ List.take j vs)) y).length p6)) HX6)
          have HH7:=Lib.hid (own_set (b:=wb.heap.size) (i:=1) (u:=(Value.slice o6 (insS (sortU (X ++ List.take j vs)) y).length p6)) hown6 hXlt)
          clear cx6 fx6 HX6
          go_wp2_with fail
          go_roundw
          case rel=>exact ⟨j + 1,(Value.slice o6 (insS (sortU (X ++ List.take j vs)) y).length p6),by omega,fun e=>absurd hlw e,by go_num,HX7,by rw [HIN.out]; exact Lib.hid (HH7.out.mono (Nat.le_of_lt hXlt)),HS7⟩
          case measure=>simp [intOf]; omega
         ·have d3:decide ((j:Int) < (vn:Int))=false:=decide_eq_false (by omega)
          have HE:Hid (sortU (X ++ vs.take j)=sortU (allV (l.take (k + 1)) nm)):=Lib.hid (by rw [HTV.out,List.take_of_length_le (by omega)])
          go_wp2_with fail
          go_region_held3 (fun W=>W.cell? ⟨b,off + k * 2,none⟩=some (.string p) /\ W.cell? ⟨b,off + k * 2 + 1,none⟩=some (.slice vo vn vc) /\ W.cell? ⟨sb,soff + i,none⟩=some (.string nm) /\ Hid (Below wb.heap.size wb W /\ wb.heap.size <= W.heap.size))
           (first | exact ⟨c0,c1,hcn,HBe⟩ | exact keep3b (by assumption) hb | go_keep)
           ((go_at_call 81; with_reducible refine (rLower_s p _ (by omega)).mono ?_; rintro e w5 ⟨rfl,hb⟩; rw [HLW.out]))
          have HB5:Hid (Below wr.heap.size wr w5):=Lib.hid ((Below.refl wr.heap.size wr).drew.trans hb)
          have HX5:=Lib.hid (HX.out.below HB5.out)
          have HH5:=Lib.hid (own_below HH.out HB5.out)
          rw [HE.out] at HH5
          have HB6:=Lib.hid (HB4.out.trans (HB5.out.mono HB4.out.size))
          go_wp2_with fail
          go_roundw
          case rel=>exact ⟨k + 1,hd,by omega,by go_num,HX5,HH5,HB6⟩
          case measure=>simp [intOf]; omega
        ·have q1:(lw.toList == nm.toList)=false:=by rw [str_eq]; exact decide_eq_false hlw
         rw [if_neg hlw,List.append_nil] at HTV
         obtain rfl:j=0:=hj0 hlw
         rw [List.take_zero,List.append_nil] at HH
         go_wp2_with fail
         refine wp_region_held_drew (S:=fun W=>W.cell? ⟨b,off + k * 2,none⟩=some (.string p) /\ W.cell? ⟨sb,soff + i,none⟩=some (.string nm) /\ Hid (Below wb.heap.size wb W /\ wb.heap.size <= W.heap.size)) (by kernel_rfl) (⟨c0,hcn,HBe⟩) (fun hS => ?_)
         refine rgT 0 (some 48) ?_
         refine rgT 1 (some 49) ?_
         refine rgT 2 (some 50) ?_
         refine rgT 3 (some 51) ?_
         refine rgT 4 (some 52) ?_
         refine rgT 6 (some 54) ?_
         refine rgT 7 (some 55) ?_
         refine rgT 8 (some 56) ?_
         refine rgT 9 (some 57) ?_
         refine rgC 5 (fun K hK => ?_)
         go_simp
         refine (rLower_s p _ (by omega)).mono ?_
         rintro e w5 ⟨rfl,hb⟩
         rw [HLW.out]
         go_wp2_with fail
         refine hK.out _ _ ?_ (fun hHeld => ?_)
         ·exact keep2b (by assumption) hb
         clear hK K
         try simp only [Act.put,lsA,lsZ,lsS]
         refine rgT 10 (some 58) ?_
         refine rgT 11 (some 59) ?_
         refine rgS 12 (some 60) ?_
         refine rgS 13 (some 61) ?_
         refine rgS 14 (some 62) ?_
         refine rgS 15 (some 63) ?_
         refine rgS 16 (some 64) ?_
         refine rgS 17 (some 65) ?_
         refine rgS 18 (some 66) ?_
         refine rgS 19 (some 67) ?_
         refine rgT 20 (some 68) ?_
         refine wpAnyH_done (by kernel_rfl) ?_ _
         have HB5:Hid (Below wr.heap.size wr w5):=Lib.hid ((Below.refl wr.heap.size wr).drew.trans hb)
         have HX5:=Lib.hid (HX.out.below HB5.out)
         have HH5:=Lib.hid (own_below HH.out HB5.out)
         rw [<- HTV.out] at HH5
         have HB6:=Lib.hid (HB4.out.trans (HB5.out.mono HB4.out.size))
         go_wp2_with fail
         go_roundw
         case rel=>exact ⟨k + 1,hd,by omega,by go_num,HX5,HH5,HB6⟩
         case measure=>simp [intOf]; omega
      ·obtain rfl:k=l.length:=by omega
       rw [List.take_length] at HH
       have HX2:=HX.out.cells
       obtain ⟨cx0,cx1⟩:=HX2
       have hown5:=own_below hownT (HB3.out)
       have hHv:wr.ownsRow wb.heap.size 9 1 hd (vals l nm).length (scells (vals l nm)):=HH.out
       have hap:=own_apart hHv hownT (Nat.le_refl _)
       have HTO5:=Lib.hid ((HTK.out.below HB3.out).snoc (t:=(nm,hd,vals l nm)) (hHv.mono HB2.out.size) hap)
       have HHv:=Lib.hid (hdr_owns hHv)
       clear hHv hap HTK
       have HB5:=Lib.hid (HB2.out.trans (HB3.out.mono HB2.out.size))
       have hsz5:=HB5.out.size
       have hsz3:=HB3.out.size
       go_wp2_with (at_builtin; go_must (refine app_attrs (wr.alloc (.cells #[.string nm,hd] 58)) (hown5.alloc _) (.tmp 83) (.tmp 85) _ 1 1 [(nm,hd,vals l nm)] ?_ ?_ ?_ ?_ (ts_new1 wr (nm,hd,vals l nm)) ?_ ?_ ?_ ?_; exact rfl; exact rfl; exact rfl; exact rfl; exact (fun t ht=>by rw [List.mem_singleton.1 ht]; exact HHv.out.below ((Below.refl _ wr).alloc (Nat.le_refl _) _)); omega; (simp; omega); intro v7 w7 hown7 hg7 hl7))
       have HT7:=Lib.hid (HMT.out hd)
       have HTO7:=Lib.hid ((HTO5.out.below ((Below.refl _ wr).alloc (Nat.le_refl _) _)).grown hg7 hl7)
       have hb7:Below wa.heap.size wa w7:=(HB5.out.alloc hsz5 _).grown hg7 (by simp; omega) (fun q hq=>(hown5.lt q hq).1)
       go_roundw
       case rel=>exact ⟨i + 1,T ++ [(nm,hd,vals l nm)],by omega,by go_num,by simp [hTl],HT7,HTO7,by rw [List.length_append,tcells_append]; exact hown7,Lib.hid hb7⟩
       case measure=>simp [intOf]; omega
    ·obtain rfl:i=ns.length:=by omega
     have HE:=Lib.hid (show tats T=nf l by rw [HTT.out,List.take_length,HNF.out])
     go_wp2_with fail
     go_ret
     exact ⟨_,T,rfl,HE.out,HTK.out.mono HB.out.size,hownT.mono HB.out.size,HB.out.trans (HB2.out.mono HB.out.size)⟩
theorem keep4b {w w1 w2:World} {f:Nat} {A B C D:Addr} {x y z u:Value} (h:w1.cell? A=some x /\ w1.cell? B=some y /\ w1.cell? C=some z /\ w1.cell? D=some u /\ Hid (Below f w w1 /\ f <= w1.heap.size)) (hb:Below w1.heap.size w1 w2):w2.cell? A=some x /\ w2.cell? B=some y /\ w2.cell? C=some z /\ w2.cell? D=some u /\ Hid (Below f w w2 /\ f <= w2.heap.size):=
 ⟨cell_later hb h.1,cell_later hb h.2.1,cell_later hb h.2.2.1,cell_later hb h.2.2.2.1,Lib.hid ⟨h.2.2.2.2.out.1.trans (hb.mono h.2.2.2.2.out.2),Nat.le_trans h.2.2.2.2.out.2 hb.size⟩⟩
theorem ats_ext {l k:List At} (h:l.length=k.length) (hj:∀ j,j < l.length -> atD l j=atD k j):l=k:=by
 apply List.ext_getElem h
 intro i h1 h2
 have:=hj i h1
 rwa [at_get l i h1,at_get k i h2] at this
def AttsR (w:World) (v:Value) (l:List At):Prop := ∃ ao n cap,v = .slice ao n cap /\ AttrsAt w ao n cap l
theorem AttsR.below {w w':World} {v:Value} {l:List At} (h:AttsR w v l) (hb:Below w.heap.size w w'):AttsR w' v l:=by
 obtain ⟨ao,n,cap,e,hs⟩:=h
 exact ⟨ao,n,cap,e,hs.below hb⟩
theorem atts_nil (w:World):AttsR w (.slice none 0 0) []:=⟨none,0,0,rfl,rfl,Nat.le_refl _,by unfold maxLen; omega,fun h=>absurd h (Nat.lt_irrefl _)⟩
theorem atts_own {w:World} {base n:Nat} {v:Value} {T:List Tr} (h:w.ownsRow base 58 2 v n (tcells T)) (hT:TOk w T):AttsR w v (tats T):=by
 obtain ⟨_,ao,cap,rfl,hat,_⟩:=ts_owns h
 exact ⟨ao,n,cap,rfl,ts_ats hat hT⟩
theorem nf_at {l:List At} {i:Nat} (h:i < (nf l).length):(atD (nf l) i).2=vals l (atD (nf l) i).1:=(nf_mem.1 (at_mem _ i h)).1
theorem nf_none {l:List At} {n:ByteArray} (h:∀ j,j < (nf l).length -> (atD (nf l) j).1 ≠ n):vals l n = []:=by
 refine Classical.not_not.1 fun e => ?_
 have:=nf_mem.2 ⟨(rfl:((n,vals l n):At).2=vals l (n,vals l n).1),e⟩
 obtain ⟨j,hj,e2⟩:=List.getElem_of_mem this
 refine h j hj ?_
 rw [at_get _ j hj,e2]
end Go.Proofs.YtmmdaegdkikkpaaGreatDoor
end
