/-
  Texts of the schema layer and of those beneath it, joined: CodecB, ShelfB, CodecBuild, CodecStr, CodecC, CodecDec, CodecInt, CodecIntP, CodecEsc, CodecREsc, CodecRInt, CodecRInt2, CodecUn, CodecP, CodecSplit, CodecRUn. Conditions stand at each contract.
-/
import Derived.Lib.Builder
import Derived.Lib.AppendStr
import Derived.Laws.Externs
import Derived.Laws.RangeAny
import Derived.Laws.RangeString
import Derived.Lib.RuneCount
import Derived.Lib.AtoiAllCases
import Derived.Lib.LaidTab
import Derived.Lib.ItoaLen
import Derived.Test.YtmmdaegdkikkpaaGreatDoorT04
set_option linter.unusedVariables false
set_option linter.unusedSimpArgs false
set_option linter.unnecessarySimpa false

section
set_option maxRecDepth 100000
namespace Go.Proofs.YtmmdaegdkikkpaaGreatDoor
open Go.PlainAid
def hexV (c:UInt8):Int:=Lib.indexByte hexS.data.toList c
theorem hexV_range:∀ n:Nat,n < 256 -> -1 <= hexV (UInt8.ofNat n) /\ hexV (UInt8.ofNat n) <= 15:=by decide +kernel
theorem hexV_le (c:UInt8) : -1 <= hexV c /\ hexV c <= 15:=by
 have:=hexV_range c.toNat c.toNat_lt
 rwa [UInt8.ofNat_toNat] at this
def decC (a b:UInt8):Option UInt8:=
 if hexV a < 0 ∨ hexV b < 0 then none else if plainI (16 * hexV a + hexV b) then none else some (UInt8.ofNat (16 * hexV a + hexV b).toNat)
def unesc:List UInt8 -> Option (List UInt8)
 | []=>some []
 | c :: r=>if c=37 then (match r with
   | a :: b :: r'=>match decC a b with
    | some d=>(unesc r').map (d :: ·)
    | none=>none
   | _=>none) else if plainC c then (unesc r).map (c :: ·) else none
def escO (t:ByteArray):Option UInt8:=if t.size < 2 then none else decC (chr t 0) (chr t 1)
theorem drop_chr (s:ByteArray) (i:Nat) (h:i < s.size):s.data.toList.drop i=chr s i :: s.data.toList.drop (i + 1):=by
 unfold chr
 rw [List.getD_eq_getElem?_getD,List.getElem?_eq_getElem (by simpa using h)]
 exact List.drop_eq_getElem_cons (by simpa using h)
theorem chr_dr (s:ByteArray) (i j:Nat):chr (dr s i) j=chr s (i + j):=by
 unfold chr dr
 rw [List.toList_toArray,List.getD_eq_getElem?_getD,List.getD_eq_getElem?_getD,List.getElem?_drop]
theorem unesc_pct (s:ByteArray) (i:Nat) (h:i < s.size) (h37:chr s i=37):unesc (s.data.toList.drop i)=match escO (dr s (i + 1)) with
  | some d=>(unesc (s.data.toList.drop (i + 3))).map (d :: ·)
  | none=>none:=by
 rw [drop_chr s i h]
 conv=>lhs; unfold unesc
 rw [if_pos h37]
 unfold escO
 rw [dr_size]
 by_cases h2:s.size - (i + 1) < 2
 ·rw [if_pos h2]
  have hl:(s.data.toList.drop (i + 1)).length < 2:=by rw [List.length_drop, <- Lib.size_eq]; exact h2
  match e:s.data.toList.drop (i + 1),hl with
  | [],_=>rfl
  | [x],_=>rfl
 ·rw [if_neg h2,drop_chr s (i + 1) (by omega),drop_chr s (i + 1 + 1) (by omega),chr_dr,chr_dr]
end Go.Proofs.YtmmdaegdkikkpaaGreatDoor
end

section
set_option maxRecDepth 100000
namespace Go.Proofs.YtmmdaegdkikkpaaGreatDoor
open Go.RowKit Go.PlainAid
theorem bsize:(Tryz.prog.info? 79).map (·.size)=some 2:=by kernel_rfl
theorem blies:liesAt Tryz.prog Tryz.prog.depth 79 (2 / Tryz.prog.cellsOf 79) 0 79 1=true:=by kernel_rfl
set_option maxHeartbeats 1000000 in
set_option maxRecDepth 100000 in
theorem check_used (b:Nat) (w:World) (h0:w.cell? ⟨b,0,none⟩=some (.pointer (some ⟨b,0,none⟩))) :
  Calls Tryz.prog 115 #[.pointer (some ⟨b,0,none⟩)] w fun e w'=>e = .returned (.tuple #[]) /\ w'=w:=by
 obtain ⟨j,hj,_⟩:=Option.map_eq_some_iff.1 bsize
 go_enter Tryz.func115,Tryz.ntmps115
 go_wp2
 rw [Lib.run_neq_ptr_same w _ Tryz.underlying76 hj]
 go_wp2
 go_end0
 exact ⟨rfl,rfl⟩
set_option maxHeartbeats 1000000 in
set_option maxRecDepth 100000 in
theorem check_fresh (b:Nat) (w:World) (h0:w.cell? ⟨b,0,none⟩=some (.pointer none)) (hsh:w.shape? b=some (79,2)) (hfz:w.frozen? ⟨b,0,none⟩=false) :
  Calls Tryz.prog 115 #[.pointer (some ⟨b,0,none⟩)] w fun e w'=>e = .returned (.tuple #[]) /\ w'=w.setCell ⟨b,0,none⟩ (.pointer (some ⟨b,0,none⟩)):=by
 obtain ⟨j,hj,hjs⟩:=Option.map_eq_some_iff.1 bsize
 go_enter Tryz.func115,Tryz.ntmps115
 go_wp2
 rw [Lib.run_to_unsafe w ⟨b,0,none⟩ Tryz.underlying76 Tryz.underlying180 hj (by rw [hjs]; decide) hsh (Nat.zero_lt_succ 1)]
 simp only [Result.andThen]
 rw [Oper.upon_value]
 go_wp2
 rw [run_callFunc_extern Tryz.func180 (by kernel_rfl) (by kernel_rfl) (by kernel_rfl) (e:=Extern.AbiNoEscape.same) (by kernel_rfl)]
 rw [Lib.run_noEscape]
 simp only [Result.andThen]
 rw [Oper.upon_value]
 go_wp2
 rw [Lib.run_from_unsafe w ⟨b,0,none⟩ Tryz.underlying180 Tryz.underlying76 hj hsh blies]
 simp only [Result.andThen]
 rw [Oper.upon_value]
 go_wp2
 go_end0
 exact ⟨rfl,rfl⟩
def Bld (B b:Nat) (l:List UInt8) (w:World):Prop:=Lib.IsBuilder 79 5 B b (bcells l) w
theorem check_any (B b:Nat) (bs:List Value) (w:World) (h:Lib.IsBuilder 79 5 B b bs w) :
  Calls Tryz.prog 115 #[.pointer (some ⟨b,0,none⟩)] w fun e w'=>e = .returned (.tuple #[]) /\ (Lib.BuilderAt 79 5 B b (.pointer (some ⟨b,0,none⟩)) bs w' /\ Below B w w'):=by
 rcases h with h | h
 ·refine (check_fresh b w h.cell0 h.shape h.frozen0).mono ?_
  rintro e w' ⟨rfl,rfl⟩
  exact ⟨rfl,h.used _,(Below.refl B w).setCell (p:=⟨b,0,none⟩) h.1 _⟩
 ·refine (check_used b w h.cell0).mono ?_
  rintro e w' ⟨rfl,rfl⟩
  exact ⟨rfl,h,Below.refl B _⟩
theorem push_byte_g {ops:Array Oper} {rest:List Oper} {o:Oper} {a:Act} {Q:Exit -> Act -> World -> Prop} (wr:World) {base:Nat} {v:Value} {n:Nat} {xs:List Value} (hown:wr.ownsRow base 5 1 v n xs) (s x:Operand)
  (c:Int) (hgd:o.guard=none)
  (ho:o.op = .call { callee := .builtin .append,args := #[s,x],argTypes := #[77,77] })
  (hs:a.eval s=v) (hx:a.eval x = .slice (some ⟨wr.heap.size,0,none⟩) 1 1) (hn:n + 1 <= 140737488355328) (hbase:base <= wr.heap.size)
  (h:∀ v' w',w'.ownsRow base 5 1 v' (n + 1) (xs ++ [.int .u8 c]) -> (wr.alloc (.cells #[.int .u8 c] 5)).grownBy w' v.ownBlock -> wpList Tryz.prog ops Q rest (a.put o.dst v') w') :
  wpList Tryz.prog ops Q (o :: rest) a (wr.alloc (.cells #[.int .u8 c] 5)):=by
 obtain ⟨i0,hi,hz0,hz1,hz2⟩:=info_parts info5
 refine wpList_append_own _ hgd s x 77 ho base 5 i0 (.int .u8 0) 1 1 Tryz.underlying77 hi hz0 hz1 hz2 rfl (by decide) v n xs hs (hown.alloc _) ⟨wr.heap.size,0,none⟩ 1 1 [.int .u8 c] hx rfl
  (cell_one_new _ _ _) (by intro u hu; simp at hu; subst hu; rfl) (by unfold maxLen; omega) (by omega) (by simp; omega) ?_
 intro v' w' h1 h2 _
 exact h v' w' h1 h2
set_option maxHeartbeats 2000000 in
set_option maxRecDepth 100000 in
theorem writeByte_cells (B b:Nat) (bs:List Value) (c:Int) (w:World) (h:Lib.IsBuilder 79 5 B b bs w) (hlen:bs.length + 1 <= 140737488355328) (hBw:B <= w.heap.size) :
  Calls Tryz.prog 199 #[.pointer (some ⟨b,0,none⟩), .int .u8 c] w fun e w'=>e = .returned .nilIface /\ (Lib.BuilderAt 79 5 B b (.pointer (some ⟨b,0,none⟩)) (bs ++ [.int .u8 c]) w' /\ Below B w w'):=by
 go_enter Tryz.func199,Tryz.ntmps199
 go_wp2_with (go_at_call 115; refine (check_any B b bs _ h).mono ?_)
 rintro e w1 ⟨rfl,h1,hb1⟩
 obtain ⟨hB,v,hbk,hown,hne⟩:=h1
 have c1:w1.cell? ⟨b,1,none⟩=some v:=by rw [Lib.cell_of_heap hbk]; rfl
 have HZ:=hb1.size
 go_wp2_with (at_builtin; refine push_byte_g w1 hown (.tmp 11) (.tmp 13) _ ?_ ?_ ?_ ?_ ?_ ?_ ?_; exact rfl; exact rfl; exact rfl; exact rfl; omega; omega)
 intro v' w2 hown' hgrow
 have hlt:b < w1.heap.size:=by
  rcases Nat.lt_or_ge b w1.heap.size with h' | h'
  ·exact h'
  ·simp [Array.getElem?_eq_none h'] at hbk
 have hb2:w2.heap[b]? = some (.cells #[.pointer (some ⟨b,0,none⟩),v] 79 (0,0)):=by
  rw [hgrow.block b (by simp; omega) (fun e=>hne e.symm),Lib.alloc_old w1 _ b hlt]
  exact hbk
 have d1:w2.cell? ⟨b,1,none⟩=some v:=by rw [Lib.cell_of_heap hb2]; rfl
 have f1:w2.frozen? ⟨b,1,none⟩=false:=Lib.frozen_of_heap hb2 1
 obtain ⟨g,cap,rfl⟩:∃ g cap,v' = .slice (some ⟨g,0,none⟩) (bs.length + 1) cap:=by
  rcases hown'.2 with ⟨_,h0⟩ | ⟨g,cap,cur,hv,_⟩
  ·omega
  ·exact ⟨g,cap,hv⟩
 go_wp2
 go_ret
 refine ⟨rfl, ?_, ?_⟩
 ·exact Lib.BuilderAt.put (T:=79) (e:=5) hB hb2 (bs':=bs ++ [.int .u8 c]) (by simpa using hown') (by decide)
 ·exact ((hb1.alloc (by omega) _).grown hgrow (by simp; omega) (fun k hk=>(hown.lt k hk).1)).setCell (p:=⟨b,1,none⟩) hB _
theorem writeByte_s (B b:Nat) (l:List UInt8) (c:UInt8) (x:Int) (w:World) (h:Bld B b l w) (hx:x=(c.toNat:Int)) (hlen:l.length <= 100000000000) (hBw:B <= w.heap.size) :
  Calls Tryz.prog 199 #[.pointer (some ⟨b,0,none⟩), .int .u8 x] w fun e w'=>e = .returned .nilIface /\ Bld B b (l ++ [c]) w' /\ Below B w w':=by
 subst hx
 refine (writeByte_cells B b (bcells l) c.toNat w h (by rw [bcells_length]; omega) hBw).mono fun e w' h=>⟨h.1, ?_,h.2.2⟩
 unfold Bld
 rw [bcells_append]
 exact .inr h.2.1
theorem string_s (B b:Nat) (l:List UInt8) (w:World) (h:Bld B b l w) (hBw:B <= w.heap.size) :
  Calls Tryz.prog 59 #[.pointer (some ⟨b,0,none⟩)] w fun e w'=>e = .returned (.string ⟨l.toArray⟩) /\ Below B w w':=
 (Tryz.Builder_String_any B b l w h hBw).mono fun e w' h=>⟨h.1,h.2⟩
theorem bld_new (w:World):Bld w.heap.size w.heap.size [] (w.alloc (.cells #[.pointer none, .slice none 0 0] 79)):=Lib.fresh_isBuilder _ _ w
theorem Bld.below {B b:Nat} {l:List UInt8} {w w':World} (h:Bld B b l w) (hb:Below w.heap.size w w'):Bld B b l w':=by
 have one:∀ p,Lib.BuilderAt 79 5 B b p (bcells l) w -> Lib.BuilderAt 79 5 B b p (bcells l) w':=fun p h=>by
  have hl:=h.lt
  obtain ⟨hB,v,hbk,hown,hne⟩:=h
  refine ⟨hB,v,by rw [hb.block b hl]; exact hbk, ?_,hne⟩
  exact hown.kept (row:=none) ⟨hb.os,hb.tape,hb.output,hb.size,fun k hk _=>hb.block k hk⟩ (by
   cases h:v.ownBlock
   ·exact .inl rfl
   ·exact .inr (by simp))
 rcases h with h | h
 ·exact .inl (one _ h)
 ·exact .inr (one _ h)
theorem strCells_b (s:ByteArray):Lib.strCells s=bcells s.data.toList:=rfl
end Go.Proofs.YtmmdaegdkikkpaaGreatDoor
end

section
set_option maxRecDepth 100000
namespace Go.Proofs.YtmmdaegdkikkpaaGreatDoor
open Go.PlainAid
def pieces (b:UInt8):List UInt8 -> List (List UInt8)
 | []=>[[]]
 | c :: l=>if c=b then [] :: pieces b l else match pieces b l with
  | p :: r=>(c :: p) :: r
  | []=>[[c]]
theorem occ_one (l:List UInt8) (b:UInt8) (i:Nat):Lib.occAt l [b] i=true ↔ l[i]? = some b:=by
 unfold Lib.occAt
 rw [<- List.head?_drop]
 cases l.drop i with
 | nil=>simp
 | cons c m =>
  simp only [List.isPrefixOf,Bool.and_true,List.head?_cons,Option.some.injEq,beq_iff_eq]
  exact eq_comm
theorem pieces_hit (b:UInt8):∀ (l:List UInt8) (i:Nat),l[i]? = some b -> (∀ j,j < i -> l[j]? ≠ some b) -> pieces b l=l.take i :: pieces b (l.drop (i + 1))
 | [],i,h,_=>by simp at h
 | c :: l,0,h,_=>by
  have:c=b:=by simpa using h
  conv=>lhs; unfold pieces
  rw [if_pos this]; rfl
 | c :: l,i + 1,h,hn=>by
  have hc:c ≠ b:=fun e=>hn 0 (by omega) (by rw [e]; rfl)
  have ih:=pieces_hit b l i (by simpa using h) (fun j hj=>by have:=hn (j + 1) (by omega); simpa using this)
  conv=>lhs; unfold pieces
  rw [if_neg hc,ih]
  rfl
theorem pieces_miss (b:UInt8):∀ (l:List UInt8),(∀ j:Nat,l[j]? ≠ some b) -> pieces b l = [l]
 | [],_=>rfl
 | c :: l,hn=>by
  have hc:c ≠ b:=fun e=>hn 0 (by rw [e]; rfl)
  have ih:=pieces_miss b l (fun j=>by have:=hn (j + 1); simpa using this)
  unfold pieces
  rw [if_neg hc,ih]
theorem cut_one (t:ByteArray) (b:UInt8):(cutOk t ⟨#[b]⟩=true /\ pieces b t.data.toList=(cutBef t ⟨#[b]⟩).data.toList :: pieces b (cutAft t ⟨#[b]⟩).data.toList /\ (cutAft t ⟨#[b]⟩).size < t.size /\ (cutBef t ⟨#[b]⟩).size <= t.size /\
   (∀ j:Nat,(cutBef t ⟨#[b]⟩).data.toList[j]? ≠ some b)) ∨
  (cutOk t ⟨#[b]⟩=false /\ pieces b t.data.toList = [t.data.toList] /\ cutBef t ⟨#[b]⟩=t /\ cutAft t ⟨#[b]⟩=⟨#[]⟩):=by
 have e:(⟨#[b]⟩:ByteArray).data.toList = [b]:=rfl
 rcases Lib.index_spec t.data.toList [b] with ⟨hi,hn⟩ | ⟨i,hi,hle,ho,hno⟩
 ·refine .inr ?_
  have hcut:Lib.cut t.data.toList (⟨#[b]⟩:ByteArray).data.toList=(t.data.toList,[],false):=by
   unfold Lib.cut; rw [e,hi]; rfl
  refine ⟨by unfold cutOk; rw [hcut], ?_, ?_, ?_⟩
  ·refine pieces_miss b _ (fun j hj => ?_)
   have hlt:j < t.data.toList.length:=(List.getElem?_eq_some_iff.1 hj).1
   have:=hn j (by omega)
   rw [(occ_one _ _ _).2 hj] at this
   cases this
  ·unfold cutBef; rw [hcut]
  ·unfold cutAft; rw [hcut]
 ·refine .inl ?_
  have hget:=(occ_one _ _ _).1 ho
  have hlt:i < t.data.toList.length:=(List.getElem?_eq_some_iff.1 hget).1
  have hcut:Lib.cut t.data.toList (⟨#[b]⟩:ByteArray).data.toList=(t.data.toList.take i,t.data.toList.drop (i + 1),true):=by
   unfold Lib.cut; rw [e,hi,if_pos (by omega)]; simp
  have hno':∀ j,j < i -> t.data.toList[j]? ≠ some b:=fun j hj h=>by
   have:=hno j hj
   rw [(occ_one _ _ _).2 h] at this
   cases this
  have eb:(cutBef t ⟨#[b]⟩).data.toList=t.data.toList.take i:=by unfold cutBef; rw [hcut]
  have ea:(cutAft t ⟨#[b]⟩).data.toList=t.data.toList.drop (i + 1):=by unfold cutAft; rw [hcut]
  refine ⟨by unfold cutOk; rw [hcut], ?_, ?_, ?_, ?_⟩
  ·rw [eb,ea]; exact pieces_hit b _ i hget hno'
  ·rw [Lib.size_eq,Lib.size_eq t,ea,List.length_drop]; omega
  ·rw [Lib.size_eq,Lib.size_eq t,eb,List.length_take]; omega
  ·intro j hj
   rw [eb,List.getElem?_take] at hj
   by_cases h:j < i
   ·rw [if_pos h] at hj; exact hno' j h hj
   ·rw [if_neg h] at hj; cases hj
def ofL (l:List UInt8):ByteArray:=⟨l.toArray⟩
theorem unesc_le (l:List UInt8):∀ m,unesc l=some m -> m.length <= l.length:=by
 intro m h
 induction hn:l.length using Nat.strongRecOn generalizing l m with
 | ind n ih =>
  cases l with
  | nil=>unfold unesc at h; cases h; simp
  | cons c r =>
   unfold unesc at h
   by_cases hc:c=37
   ·rw [if_pos hc] at h
    match r,h,hn with
    | a :: b :: r',h,hn =>
     simp only [] at h
     split at h
     ·obtain ⟨x,hx,rfl⟩:=Option.map_eq_some_iff.1 h
      have:=ih r'.length (by simp at hn; omega) r' x hx rfl
      simp at hn ⊢; omega
     ·cases h
    | [a],h,_=>cases h
    | [],h,_=>cases h
   ·rw [if_neg hc] at h
    split at h
    ·obtain ⟨x,hx,rfl⟩:=Option.map_eq_some_iff.1 h
     have:=ih r.length (by simp at hn; omega) r x hx rfl
     simp at hn ⊢; omega
    ·cases h
end Go.Proofs.YtmmdaegdkikkpaaGreatDoor
end

section
set_option maxRecDepth 100000
namespace Go.Proofs.YtmmdaegdkikkpaaGreatDoor
open Go.RowKit Go.PlainAid
def digB (c:UInt8):Bool:=decide (48 <= c.toNat) && decide (c.toNat <= 57)
def stripL (l:List UInt8):List UInt8:=Lib.trimPrefix l [45]
theorem byte_chr (t:ByteArray) (k:Nat) (h:k < t.size):((t[k]'h).toNat:Int)=bt t k:=by unfold bt; rw [dif_pos h]
def IntOk (w : World) : Prop := Lib.TabIs Tryz.prog w "internal/strconv.uint64pow10" .u64 Lib.pow10Tab ∧ ∃ tp p, w.var? Tryz.prog "strconv.ErrRange" = some #[.iface tp p]
theorem var_below {w w':World} {B:Nat} {n:String} {cs:Array Value} (h:w.var? Tryz.prog n=some cs) (hb:Below B w w') (hB:w.heap.size <= B):w'.var? Tryz.prog n=some cs:=by
 unfold World.var? at h ⊢
 cases hg:Tryz.prog.globalNamed n with
 | none=>rw [hg] at h; cases h
 | some g =>
  rw [hg] at h
  simp only [Option.bind_some] at h ⊢
  have hlt:g < w.heap.size:=by
   rcases Nat.lt_or_ge g w.heap.size with k | k
   ·exact k
   ·rw [Array.getElem?_eq_none k] at h; cases h
  rw [hb.block g (by omega)]
  exact h
theorem IntOk.below {w w':World} (h:IntOk w) (hb:Below w.heap.size w w'):IntOk w':=
 ⟨var_below h.1 hb (Nat.le_refl _),by obtain ⟨tp,p,e⟩:=h.2; exact ⟨tp,p,var_below e hb (Nat.le_refl _)⟩⟩
theorem below_bw (w:World) (e:TypeId) (s:ByteArray):Below w.heap.size w (Lib.bytesWorld w e s):=
 ⟨rfl,rfl,rfl,by rw [Lib.bytesWorld_size]; omega,fun j hj=>Lib.bytesWorld_at_old w e s j hj⟩
theorem below_grow (w:World) (k:Nat) (os:Array Obj):Below w.heap.size w (Go.Sort.grow (w.drewN k) os):=
 ⟨rfl,rfl,rfl,by simp [Go.Sort.grow],fun j hj=>by simp [Go.Sort.grow,Array.getElem?_append,hj]⟩
theorem atoi_ok (s:ByteArray) (v:Int) (w:World) (hs:s.size <= 1000000000) (h:Lib.atoiAll s.data.toList = .ok v) :
  Calls Tryz.prog 235 #[.string s] w fun e w'=>e = .returned (.tuple #[.int .i64 v, .nilIface]) /\ Below w.heap.size w w':=
 (Tryz.strconv_Atoi_ok s (by omega) v h w).mono fun e w' k=>⟨k.1,by
  rcases k.2 with rfl | ⟨t,rfl⟩
  ·exact Below.refl _ _
  ·exact below_bw _ _ _⟩
theorem itoa_s (n:Int) (w:World) (h0 : -9223372036854775808 <= n) (h1:n <= 9223372036854775807) (ho:IntOk w) :
  Calls Tryz.prog 270 #[.int .i64 n] w fun e w'=>e = .returned (.string (ofL (Lib.itoa n))) /\ Below w.heap.size w w':=
 (Tryz.strconv_Itoa n h0 h1 w ho.1).mono fun e w' ⟨k1,k,os,k2⟩=>⟨k1,by rw [k2]; exact below_grow w k os⟩
def Fair {α:Type} (x:Lib.NumEnd α):Prop:=(∃ v,x = .ok v) ∨ x = .range
theorem parse_digits:∀ (l:List UInt8) (acc:Nat),l.all digB=true -> Fair (Lib.parseUint10 acc l)
 | [],acc,_ => .inl ⟨acc,rfl⟩
 | c :: r,acc,h=>by
  rw [List.all_cons,Bool.and_eq_true] at h
  have hc:48 <= c.toNat /\ c.toNat <= 57:=by simpa [digB] using h.1
  unfold Lib.parseUint10
  rw [if_pos hc]
  split
  ·exact .inr rfl
  ·split
   ·exact .inr rfl
   ·exact parse_digits r _ h.2
theorem signless_fair {x:Lib.NumEnd Nat} (h:Fair x):Fair (Lib.signless x):=by
 rcases h with ⟨v,rfl⟩ | rfl
 ·unfold Lib.signless; dsimp only; split
  ·exact .inr rfl
  ·exact .inl ⟨_,rfl⟩
 ·exact .inr rfl
theorem signed_fair {x:Lib.NumEnd Nat} (h:Fair x):Fair (Lib.signed x):=by
 rcases h with ⟨v,rfl⟩ | rfl
 ·unfold Lib.signed; dsimp only; split
  ·exact .inr rfl
  ·exact .inl ⟨_,rfl⟩
 ·exact .inr rfl
theorem strip_minus (r:List UInt8):stripL (45 :: r)=r:=by simp [stripL,Lib.trimPrefix,Lib.hasPrefix]
theorem strip_plain (c:UInt8) (r:List UInt8) (h:c ≠ 45):stripL (c :: r)=c :: r:=by
 unfold stripL Lib.trimPrefix Lib.hasPrefix
 rw [if_neg]
 simp only [List.isPrefixOf,Bool.and_eq_true,beq_iff_eq]
 rintro ⟨e,_⟩; exact h e.symm
set_option maxRecDepth 100000 in
theorem int_s (n:Int) (w:World) (h0 : -9223372036854775808 <= n) (h1:n <= 9223372036854775807) (ho:IntOk w) :
  Calls Tryz.prog 232 #[.int .i64 n] w fun e w'=>e = .returned (.string (ofL (Lib.itoa n))) /\ Below w.heap.size w w':=by
 have HO:=Lib.hid ho; clear ho
 go_enter Tryz.func232,Tryz.ntmps232
 go_wp2_with (go_at_call 270; refine (itoa_s n _ h0 h1 HO.out).mono ?_; rintro e w1 ⟨rfl,hb1⟩)
 go_ret
 exact ⟨rfl,hb1⟩
set_option maxHeartbeats 1000000 in
theorem plain_any (c:Int) (w:World) (h0:0 <= c) (h1:c <= 255) :
  Calls Tryz.prog 229 #[.int .u8 c] w fun e w'=>e = .returned (.bool (plainI c)) /\ w=w':=by
 cases a1:(c == 37)
 ·cases a2:(c == 124)
  ·cases a3:(c == 44)
   ·cases a4:(c == 61)
    ·cases a5:(c == 59)
     ·cases a6:(c == 34)
      ·by_cases b1:33 <= c
       ·by_cases b2:c <= 126
        ·have HE:=Lib.hid (show plainI c=true by unfold plainI; rw [a1,a2,a3,a4,a5,a6]; simp [b1,b2])
         have d2:decide (c <= 126)=true:=by simp [b2]
         go_enter Tryz.func229,Tryz.ntmps229
         go_wp2
         go_ret
         exact ⟨by rw [HE.out]; rfl,rfl⟩
        ·have HE:=Lib.hid (show plainI c=false by unfold plainI; simp [b2])
         have d2:decide (c <= 126)=false:=by simp [b2]
         go_enter Tryz.func229,Tryz.ntmps229
         go_wp2
         go_ret
         exact ⟨by rw [HE.out]; rfl,rfl⟩
       ·have HE:=Lib.hid (show plainI c=false by unfold plainI; simp [b1])
        go_enter Tryz.func229,Tryz.ntmps229
        go_wp2
        go_ret
        exact ⟨by rw [HE.out]; rfl,rfl⟩
      ·have HE:=Lib.hid (show plainI c=false by unfold plainI; rw [a6]; simp)
       go_enter Tryz.func229,Tryz.ntmps229
       go_wp2
       go_ret
       exact ⟨by rw [HE.out]; rfl,rfl⟩
     ·have HE:=Lib.hid (show plainI c=false by unfold plainI; rw [a5]; simp)
      go_enter Tryz.func229,Tryz.ntmps229
      go_wp2
      go_ret
      exact ⟨by rw [HE.out]; rfl,rfl⟩
    ·have HE:=Lib.hid (show plainI c=false by unfold plainI; rw [a4]; simp)
     go_enter Tryz.func229,Tryz.ntmps229
     go_wp2
     go_ret
     exact ⟨by rw [HE.out]; rfl,rfl⟩
   ·have HE:=Lib.hid (show plainI c=false by unfold plainI; rw [a3]; simp)
    go_enter Tryz.func229,Tryz.ntmps229
    go_wp2
    go_ret
    exact ⟨by rw [HE.out]; rfl,rfl⟩
  ·have HE:=Lib.hid (show plainI c=false by unfold plainI; rw [a2]; simp)
   go_enter Tryz.func229,Tryz.ntmps229
   go_wp2
   go_ret
   exact ⟨by rw [HE.out]; rfl,rfl⟩
 ·have HE:=Lib.hid (show plainI c=false by unfold plainI; rw [a1]; simp)
  go_enter Tryz.func229,Tryz.ntmps229
  go_wp2
  go_ret
  exact ⟨by rw [HE.out]; rfl,rfl⟩
set_option maxRecDepth 100000 in
set_option maxHeartbeats 2000000 in
theorem escape_any (s:ByteArray) (w:World) (hs:s.size <= 1000000000) :
  Calls Tryz.prog 160 #[.string s] w fun e w'=>e = .returned (.string ⟨(escL s.data.toList).toArray⟩) /\ Below w.heap.size w w':=by
 have hb:=get_bt s
 have hx:=get_bt (⟨#[48,49,50,51,52,53,54,55,56,57,65,66,67,68,69,70]⟩:ByteArray)
 have HN:=Lib.hid (bld_new w)
 go_enter Tryz.func160,Tryz.ntmps160
 go_wp2
 go_loopw [7] (fun i wr=>∃ k:Nat,k <= s.size /\ i = .int .i64 k /\ Bld w.heap.size w.heap.size (escL (s.data.toList.take k)) wr /\ Below w.heap.size w wr /\ w.heap.size < wr.heap.size)
  (fun i _=>s.size - (intOf i).toNat)
 case atStart=>exact ⟨0,Nat.zero_le _,rfl,HN.out,(Below.refl _ _).alloc (Nat.le_refl _) _,by simp⟩
 case round =>
  obtain ⟨k,hk,rfl,HB,hbel,hsz⟩:=hrel
  have h0:=bt_nonneg s k
  have h255:=bt_le s k
  have hl3:=escL_length (s.data.toList.take k)
  have hl4:(s.data.toList.take k).length <= k:=List.length_take_le _ _
  have HC:=Lib.hid (bt_chr s k)
  by_cases hlt:k < s.size
  ·have HST:=Lib.hid (esc_step s k hlt)
   have HP:=Lib.hid (plain_chr s k)
   cases c1:plainI (bt s k)
   ·have HST2:=Lib.hid (show escL (s.data.toList.take (k + 1))=((escL (s.data.toList.take k) ++ [37]) ++ [hexC ((chr s k).toNat / 16)]) ++ [hexC ((chr s k).toNat % 16)] by
     rw [HST.out,escC_other _ (by rw [HP.out,c1])]; simp)
    go_wp2_with (go_at_call 229; refine (plain_any _ _ h0 h255).mono ?_; rintro e w' ⟨rfl,rfl⟩)
    refine (writeByte_s w.heap.size w.heap.size _ 37 37 _ HB rfl (by omega) hbel.size).mono ?_
    rintro e w1 ⟨rfl,HB1,hb1⟩
    go_wp2_with fail
    refine (writeByte_s w.heap.size w.heap.size _ (hexC ((chr s k).toNat / 16)) _ _ HB1 (hex_hi _ _ HC.out) (by simp; omega) (Nat.le_trans hbel.size hb1.size)).mono ?_
    rintro e w2 ⟨rfl,HB2,hb2⟩
    go_wp2_with fail
    refine (writeByte_s w.heap.size w.heap.size _ (hexC ((chr s k).toNat % 16)) _ _ HB2 (hex_lo _ _ HC.out) (by simp; omega) (Nat.le_trans hbel.size (Nat.le_trans hb1.size hb2.size))).mono ?_
    rintro e w3 ⟨rfl,HB3,hb3⟩
    have hbel3:=hbel.trans (hb1.trans (hb2.trans hb3))
    go_wp2
    go_roundw
    case rel=>exact ⟨k + 1,by omega,by go_num,by rw [HST2.out]; exact HB3,hbel3,Nat.lt_of_lt_of_le hsz (Nat.le_trans hb1.size (Nat.le_trans hb2.size hb3.size))⟩
    case measure=>simp [intOf]; omega
   ·have HST2:=Lib.hid (show escL (s.data.toList.take (k + 1))=escL (s.data.toList.take k) ++ [chr s k] by
     rw [HST.out,escC_plain _ (by rw [HP.out,c1])])
    go_wp2_with (go_at_call 229; refine (plain_any _ _ h0 h255).mono ?_; rintro e w' ⟨rfl,rfl⟩)
    refine (writeByte_s w.heap.size w.heap.size _ (chr s k) _ _ HB HC.out (by omega) hbel.size).mono ?_
    rintro e w1 ⟨rfl,HB1,hb1⟩
    go_wp2
    go_roundw
    case rel=>exact ⟨k + 1,by omega,by go_num,by rw [HST2.out]; exact HB1,hbel.trans hb1,Nat.lt_of_lt_of_le hsz hb1.size⟩
    case measure=>simp [intOf]; omega
  ·have HT:=Lib.hid (show s.data.toList.take k=s.data.toList by rw [List.take_of_length_le]; simp; omega)
   rw [HT.out] at HB
   go_wp2_with (go_at_call 59; refine (string_s w.heap.size w.heap.size _ _ HB hbel.size).mono ?_; rintro e w1 ⟨rfl,hb1⟩)
   go_ret
   exact ⟨rfl,hbel.trans hb1⟩
set_option maxHeartbeats 1000000 in
theorem rplain_any (c:Int) (w:World) (h0:0 <= c) (h1:c <= 255) :
  Calls Tryz.prog 161 #[.int .u8 c] w fun e w'=>e = .returned (.bool (plainI c)) /\ w=w':=by
 by_cases b1:33 <= c
 ·by_cases b2:c <= 126
  ·by_cases n0:c=37
   ·subst n0
    have HE:=Lib.hid (show plainI 37=false by decide)
    go_enter Tryz.func161,Tryz.ntmps161
    go_wp2
    go_ret
    exact ⟨by rw [HE.out]; rfl,rfl⟩
   ·have m0:(c == 37)=false:=by simpa using n0
    have q0:(c != 37)=true:=by simpa using n0
    by_cases n1:c=124
    ·subst n1
     have HE:=Lib.hid (show plainI 124=false by decide)
     go_enter Tryz.func161,Tryz.ntmps161
     go_wp2
     go_ret
     exact ⟨by rw [HE.out]; rfl,rfl⟩
    ·have m1:(c == 124)=false:=by simpa using n1
     have q1:(c != 124)=true:=by simpa using n1
     by_cases n2:c=44
     ·subst n2
      have HE:=Lib.hid (show plainI 44=false by decide)
      go_enter Tryz.func161,Tryz.ntmps161
      go_wp2
      go_ret
      exact ⟨by rw [HE.out]; rfl,rfl⟩
     ·have m2:(c == 44)=false:=by simpa using n2
      have q2:(c != 44)=true:=by simpa using n2
      by_cases n3:c=61
      ·subst n3
       have HE:=Lib.hid (show plainI 61=false by decide)
       go_enter Tryz.func161,Tryz.ntmps161
       go_wp2
       go_ret
       exact ⟨by rw [HE.out]; rfl,rfl⟩
      ·have m3:(c == 61)=false:=by simpa using n3
       have q3:(c != 61)=true:=by simpa using n3
       by_cases n4:c=59
       ·subst n4
        have HE:=Lib.hid (show plainI 59=false by decide)
        go_enter Tryz.func161,Tryz.ntmps161
        go_wp2
        go_ret
        exact ⟨by rw [HE.out]; rfl,rfl⟩
       ·have m4:(c == 59)=false:=by simpa using n4
        have q4:(c != 59)=true:=by simpa using n4
        by_cases n5:c=34
        ·subst n5
         have HE:=Lib.hid (show plainI 34=false by decide)
         go_enter Tryz.func161,Tryz.ntmps161
         go_wp2
         go_ret
         exact ⟨by rw [HE.out]; rfl,rfl⟩
        ·have m5:(c == 34)=false:=by simpa using n5
         have q5:(c != 34)=true:=by simpa using n5
         have HE:=Lib.hid (show plainI c=true by unfold plainI; rw [m0,m1,m2,m3,m4,m5]; simp [b1,b2])
         go_enter Tryz.func161,Tryz.ntmps161
         go_wp2
         go_ret
         exact ⟨by rw [HE.out]; rfl,rfl⟩
  ·have HE:=Lib.hid (show plainI c=false by unfold plainI; simp [b2])
   go_enter Tryz.func161,Tryz.ntmps161
   go_wp2
   go_ret
   exact ⟨by rw [HE.out]; rfl,rfl⟩
 ·have HE:=Lib.hid (show plainI c=false by unfold plainI; simp [b1])
  go_enter Tryz.func161,Tryz.ntmps161
  go_wp2
  go_ret
  exact ⟨by rw [HE.out]; rfl,rfl⟩
set_option maxRecDepth 100000 in
set_option maxHeartbeats 2000000 in
theorem rescape_any (s:ByteArray) (w:World) (hs:s.size <= 1000000000) :
  Calls Tryz.prog 97 #[.string s] w fun e w'=>e = .returned (.string ⟨(escL s.data.toList).toArray⟩) /\ Below w.heap.size w w':=by
 have hb:=get_bt s
 have hx:=get_bt (⟨#[48,49,50,51,52,53,54,55,56,57,65,66,67,68,69,70]⟩:ByteArray)
 go_enter Tryz.func97,Tryz.ntmps97
 go_wp2
 go_loopw [3,4] (fun b i wr=>∃ k:Nat,k <= s.size /\ i = .int .i64 k /\ wr.ownsRow w.heap.size 5 1 b (escL (s.data.toList.take k)).length (bcells (escL (s.data.toList.take k))) /\ Below w.heap.size w wr)
  (fun _ i _=>s.size - (intOf i).toNat)
 case atStart=>exact ⟨0,Nat.zero_le _,rfl,World.ownsRow_nil _ _ _ _,Below.refl _ _⟩
 case round =>
  obtain ⟨k,hk,rfl,hown,hbel⟩:=hrel
  have h0:=bt_nonneg s k
  have h255:=bt_le s k
  have hl3:=escL_length (s.data.toList.take k)
  have hl4:(s.data.toList.take k).length <= k:=List.length_take_le _ _
  have HC:=Lib.hid (bt_chr s k)
  by_cases hlt:k < s.size
  ·have HST:=Lib.hid (esc_step s k hlt)
   have HP:=Lib.hid (plain_chr s k)
   cases c1:plainI (bt s k)
   ·go_wp2_with (go_at_call 161; refine (rplain_any _ _ h0 h255).mono ?_; rintro e w' ⟨rfl,rfl⟩)
    obtain ⟨i0,hi0,hz0,hz1,hz2⟩:=info_parts info5
    have k1:(0:Int) <= (k:Int):=by omega
    have k2:(k:Int) < (s.size:Int):=by omega
    have t1:IntKind.u8.wrap ((bt s k).tdiv 16)=bt s k / 16:=by rw [Int.tdiv_eq_ediv_of_nonneg h0]; exact IntWalk.u8_in _ (by omega)
    have t2:IntKind.u8.wrap ((bt s k).tmod 16)=bt s k % 16:=by rw [Int.tmod_eq_emod_of_nonneg h0]; exact IntWalk.u8_in _ (by omega)
    have t3:(bt s k).tmod 16=bt s k % 16:=Int.tmod_eq_emod_of_nonneg h0
    have t4:IntKind.u8.wrap (bt s k % 16)=bt s k % 16:=IntWalk.u8_in _ (by omega)
    have q1:(0:Int) <= bt s k / 16:=by omega
    have q2:bt s k / 16 < 16:=by omega
    have q3:(0:Int) <= bt s k % 16:=by omega
    have q4:bt s k % 16 < 16:=by omega
    go_region_held3 (fun _=>True) (trivial)
     ((refine step_append_lies _ (by rfl) _ _ _ (by rfl) w.heap.size 5 i0 _ 1 1 Tryz.underlying77 hi0 hz0 hz1 hz2 rfl (by omega) _ _ _ (by rfl) ((hown.alloc _).drew)
        ⟨wr.heap.size,0,none⟩ 3 3 _ (by rfl) (by rfl) (World.news_of_block (heap_alloc_new wr _)) (by simp [Value.oneCell'])
        (by omega) (by unfold maxLen; omega) (by omega) (by have:=hbel.size; simp; omega) (wr.heap.size + 1) (by simp) ?_; intro gg cap w1 hown1 hgrow hat hlt))
    all_goals
     go_wp2
     have hbel1:Below w.heap.size w w1:=(((hbel.alloc hbel.size _).drew).grown hgrow (by have:=hbel.size; simp; omega) (fun j hj=>(hown.lt j hj).1))
     have HST2:=Lib.hid (show escL (s.data.toList.take (k + 1))=escL (s.data.toList.take k) ++ [37,hexC ((chr s k).toNat / 16),hexC ((chr s k).toNat % 16)] by
      rw [HST.out,escC_other _ (by rw [HP.out,c1])])
     go_roundw
     case rel =>
      refine ⟨k + 1,by omega,by go_num, ?_,hbel1⟩
      rw [HST2.out,List.length_append,bcells_append]
      rw [hex_hi _ _ HC.out,hex_lo _ _ HC.out] at hown1
      exact hown1
     case measure=>simp [intOf]; omega
   ·have HST2:=Lib.hid (show escL (s.data.toList.take (k + 1))=escL (s.data.toList.take k) ++ [chr s k] by
     rw [HST.out,escC_plain _ (by rw [HP.out,c1])])
    go_wp2_with (first
     | (go_at_call 161; refine (rplain_any _ _ h0 h255).mono ?_; rintro e w' ⟨rfl,rfl⟩)
     | (at_builtin; go_must (refine push_byte wr hown (.tmp 15) (.tmp 19) _ ?_ ?_ ?_ ?_ ?_ ?_ ?_; exact rfl; exact rfl; exact rfl; exact rfl; omega; exact hbel.size; intro v' w1 hown1 hb1)))
    go_roundw
    case rel=>exact ⟨k + 1,by omega,by go_num,by rw [HST2.out,List.length_append,bcells_append]; rw [HC.out] at hown1; exact hown1,hbel.trans hb1⟩
    case measure=>simp [intOf]; omega
  ·have HT:=Lib.hid (show s.data.toList.take k=s.data.toList by rw [List.take_of_length_le]; simp; omega)
   have hbk:=back (l:=escL s.data.toList) (by rw [HT.out] at hown; exact hown)
   go_wp2
   go_ret
   exact ⟨rfl,hbel⟩
theorem hex_index (x:Int) (c:UInt8) (w:World) (hx:x=(c.toNat:Int)) :
  Calls Tryz.prog 282 #[.string ⟨#[48,49,50,51,52,53,54,55,56,57,65,66,67,68,69,70]⟩, .int .u8 x] w fun e w'=>e = .returned (.int .i64 (hexV c)) /\ w=w':=by
 refine (Tryz.strings_IndexByte ⟨#[48,49,50,51,52,53,54,55,56,57,65,66,67,68,69,70]⟩ x w).mono fun e w' h=>⟨?_,h.2.symm⟩
 rw [h.1]
 have e1:x.toNat.toUInt8=c:=by subst hx; simp
 rw [e1]; rfl
theorem or_table:∀ a:Nat,a < 16 -> ∀ b:Nat,b < 16 -> bits BinOp.or IntKind.i64 ((a:Int) * 16) (b:Int) % 256=16 * (a:Int) + (b:Int):=by decide +kernel
theorem or_hex (a b:Int) (a0:0 <= a) (a1:a <= 15) (b0:0 <= b) (b1:b <= 15):bits BinOp.or IntKind.i64 (a * 16) b % 256=16 * a + b:=by
 have:=or_table a.toNat (by omega) b.toNat (by omega)
 rw [Int.toNat_of_nonneg a0,Int.toNat_of_nonneg b0] at this
 exact this
def escVal (o:Option UInt8):Int:=match o with
 | some d=>(d.toNat:Int)
 | none=>0
set_option maxRecDepth 100000 in
set_option maxHeartbeats 2000000 in
theorem escaped_s (t:ByteArray) (w:World) (ht:t.size <= 1000000000) :
  Calls Tryz.prog 267 #[.string t] w fun e w'=>e = .returned (.tuple #[.int .u8 (escVal (escO t)), .bool (escO t).isSome]) /\ w=w':=by
 have hb:=get_bt t
 by_cases h2:t.size < 2
 ·have HE:=Lib.hid (show escO t=none by unfold escO; rw [if_pos h2])
  go_enter Tryz.func267,Tryz.ntmps267
  go_wp2
  go_ret2
  exact ⟨by rw [HE.out]; rfl,rfl⟩
 ·have HE:=Lib.hid (show escO t=decC (chr t 0) (chr t 1) by unfold escO; rw [if_neg h2])
  have r0:=hexV_le (chr t 0)
  have r1:=hexV_le (chr t 1)
  have H0:=Lib.hid (bt_chr t 0)
  have H1:=Lib.hid (bt_chr t 1)
  go_enter Tryz.func267,Tryz.ntmps267
  go_wp2_with fail
  refine (hex_index _ (chr t 0) _ H0.out).mono ?_
  rintro e w' ⟨rfl,rfl⟩
  go_wp2_with fail
  refine (hex_index _ (chr t 1) _ H1.out).mono ?_
  rintro e w' ⟨rfl,rfl⟩
  obtain ⟨v0,hv0⟩:∃ v,v=hexV (chr t 0):=⟨_,rfl⟩
  obtain ⟨v1,hv1⟩:∃ v,v=hexV (chr t 1):=⟨_,rfl⟩
  rw [<- hv0] at r0 ⊢
  rw [<- hv1] at r1 ⊢
  have HV0:=Lib.hid hv0; have HV1:=Lib.hid hv1; clear hv0 hv1
  by_cases n0:v0 < 0
  ·have HF:=Lib.hid (show escO t=none by rw [HE.out]; unfold decC; rw [if_pos (.inl (by rw [<- HV0.out]; exact n0))])
   go_wp2
   go_ret2
   exact ⟨by rw [HF.out]; rfl,rfl⟩
  ·by_cases n1:v1 < 0
   ·have HF:=Lib.hid (show escO t=none by rw [HE.out]; unfold decC; rw [if_pos (.inr (by rw [<- HV1.out]; exact n1))])
    go_wp2
    go_ret2
    exact ⟨by rw [HF.out]; rfl,rfl⟩
   ·go_wp2_with fail
    have hor:=or_hex v0 v1 (by omega) r0.2 (by omega) r1.2
    rw [hor]
    obtain ⟨x,hxe⟩:∃ x,x=16 * v0 + v1:=⟨_,rfl⟩
    have hx0:0 <= x /\ x <= 255:=by omega
    rw [<- hxe]
    have HX:=Lib.hid hxe; clear hxe hor
    have HD:=Lib.hid (show escO t=if plainI x then none else some (UInt8.ofNat x.toNat) by
     rw [HE.out]; unfold decC; rw [if_neg (by rw [<- HV0.out, <- HV1.out]; omega), <- HV0.out, <- HV1.out, <- HX.out])
    cases c:plainI x
    ·have HF:=Lib.hid (show escO t=some (UInt8.ofNat x.toNat) by rw [HD.out,c]; rfl)
     have HN:=Lib.hid (show x=((UInt8.ofNat x.toNat).toNat:Int) by rw [UInt8.toNat_ofNat']; omega)
     go_wp2_with (go_at_call 229; refine (plain_any _ _ hx0.1 hx0.2).mono ?_; rintro e w' ⟨rfl,rfl⟩)
     go_ret2
     refine ⟨?_,rfl⟩
     rw [HF.out]
     show Ending.returned (.tuple #[.int .u8 x, .bool true])=Ending.returned (.tuple #[.int .u8 ((UInt8.ofNat x.toNat).toNat:Int), .bool true])
     rw [<- HN.out]
    ·have HF:=Lib.hid (show escO t=none by rw [HD.out,c]; rfl)
     go_wp2_with (go_at_call 229; refine (plain_any _ _ hx0.1 hx0.2).mono ?_; rintro e w' ⟨rfl,rfl⟩)
     go_ret2
     exact ⟨by rw [HF.out]; rfl,rfl⟩
def unS (s:ByteArray):ByteArray:=match unesc s.data.toList with
 | some l=>⟨l.toArray⟩
 | none=>⟨#[]⟩
def unE (s:ByteArray):Int:=match unesc s.data.toList with
 | some _=>0
 | none=>4
set_option maxRecDepth 100000 in
set_option maxHeartbeats 4000000 in
theorem unescape_s (s:ByteArray) (w:World) (hs:s.size <= 1000000000) :
  Calls Tryz.prog 230 #[.string s] w fun e w'=>e = .returned (.tuple #[.string (unS s), .int .i64 (unE s)]) /\ Below w.heap.size w w':=by
 have hb:=get_bt s
 have HN:=Lib.hid (bld_new w)
 go_enter Tryz.func230,Tryz.ntmps230
 go_wp2
 go_loopw [5] (fun iv wr=>∃ (i:Nat) (out:List UInt8),i <= s.size /\ iv = .int .i64 i /\ out.length <= i /\ Hid (unesc s.data.toList=(unesc (s.data.toList.drop i)).map (out ++ ·)) /\ Bld w.heap.size w.heap.size out wr /\ Below w.heap.size w wr)
  (fun iv _=>s.size - (intOf iv).toNat)
 case atStart=>exact ⟨0,[],Nat.zero_le _,rfl,by simp,Lib.hid (by simp),HN.out,(Below.refl _ _).alloc (Nat.le_refl _) _⟩
 case round =>
  obtain ⟨i,out,hi,rfl,hol,HU,HB,hbel⟩:=hrel
  have h0:=bt_nonneg s i
  have h255:=bt_le s i
  by_cases hlt:i < s.size
  ·have HD:=Lib.hid (drop_chr s i hlt)
   have HC:=Lib.hid (bt_chr s i)
   cases c0:(bt s i == 37)
   ·have H37:=Lib.hid (show chr s i ≠ 37 from fun e=>by rw [HC.out,e] at c0; simp at c0)
    cases c1:plainI (bt s i)
    ·have HF:=Lib.hid (show unesc s.data.toList=none by
      rw [HU.out,HD.out]; unfold unesc; rw [if_neg H37.out,plain_chr,c1]; rfl)
     go_wp2_with (go_at_call 229; refine (plain_any _ _ h0 h255).mono ?_; rintro e w' ⟨rfl,rfl⟩)
     go_ret2
     exact ⟨by unfold unS unE; rw [HF.out]; rfl,hbel⟩
    ·have HF:=Lib.hid (show unesc s.data.toList=(unesc (s.data.toList.drop (i + 1))).map ((out ++ [chr s i]) ++ ·) by
      rw [HU.out,HD.out]; conv=>lhs; arg 2; unfold unesc
      rw [if_neg H37.out,plain_chr,c1,if_pos rfl,Option.map_map]; congr 1; funext l; simp)
     go_wp2_with (go_at_call 229; refine (plain_any _ _ h0 h255).mono ?_; rintro e w' ⟨rfl,rfl⟩)
     refine (writeByte_s w.heap.size w.heap.size _ (chr s i) _ _ HB HC.out (by omega) hbel.size).mono ?_
     rintro e w1 ⟨rfl,HB1,hb1⟩
     go_wp2
     go_roundw
     case rel=>exact ⟨i + 1,_,by omega,by go_num,by simp; omega,HF,HB1,hbel.trans hb1⟩
     case measure=>simp [intOf]; omega
   ·have H37:=Lib.hid (show chr s i=37 from by
     have:bt s i=37:=by simpa using c0
     rw [HC.out] at this; exact UInt8.toNat_inj.1 (by have h3:(37:UInt8).toNat=37:=rfl; omega))
    have hse:(s.extract (i + 1) s.size)=dr s (i + 1):=Lib.extract_from s (i + 1)
    have hds:=dr_size s (i + 1)
    have HE:=Lib.hid (unesc_pct s i hlt H37.out)
    cases c1:escO (dr s (i + 1)) with
    | none =>
     have HF:=Lib.hid (show unesc s.data.toList=none by rw [HU.out,HE.out,c1]; rfl)
     go_wp2_with (go_at_call 267; refine (escaped_s _ _ ?_).mono ?_; (omega); rintro e w' ⟨rfl,rfl⟩)
     go_ret2
     exact ⟨by unfold unS unE; rw [HF.out]; rfl,hbel⟩
    | some d =>
     have HF:=Lib.hid (show unesc s.data.toList=(unesc (s.data.toList.drop (i + 3))).map ((out ++ [d]) ++ ·) by
      rw [HU.out,HE.out,c1]; show Option.map _ (Option.map _ _)=_; rw [Option.map_map]; congr 1; funext l; simp)
     have h3:i + 3 <= s.size:=by
      have:¬ (dr s (i + 1)).size < 2:=fun h=>by unfold escO at c1; rw [if_pos h] at c1; cases c1
      rw [dr_size] at this; omega
     go_wp2_with (go_at_call 267; refine (escaped_s _ _ ?_).mono ?_; (omega); rintro e w' ⟨rfl,rfl⟩)
     refine (writeByte_s w.heap.size w.heap.size _ d _ _ HB rfl (by omega) hbel.size).mono ?_
     rintro e w1 ⟨rfl,HB1,hb1⟩
     go_wp2
     go_roundw
     case rel=>exact ⟨i + 3,_,by omega,by go_num,by simp; omega,HF,HB1,hbel.trans hb1⟩
     case measure=>simp [intOf]; omega
  ·have HF:=Lib.hid (show unesc s.data.toList=some out by
    rw [HU.out,List.drop_eq_nil_of_le (by rw [<- Lib.size_eq]; omega)]; simp [unesc])
   go_wp2_with (go_at_call 59; refine (string_s w.heap.size w.heap.size _ _ HB hbel.size).mono ?_; rintro e w1 ⟨rfl,hb1⟩)
   go_ret2
   exact ⟨by unfold unS unE; rw [HF.out]; rfl,hbel.trans hb1⟩
end Go.Proofs.YtmmdaegdkikkpaaGreatDoor
end

section
set_option maxRecDepth 100000
namespace Go.Proofs.YtmmdaegdkikkpaaGreatDoor
open Go.PlainAid
theorem dec_table:∀ n:Nat,n < 256 -> decC (hexC (n / 16)) (hexC (n % 16))=if plainC (UInt8.ofNat n) then none else some (UInt8.ofNat n):=by decide +kernel
theorem dec_esc (c:UInt8) (h:plainC c=false):decC (hexC (c.toNat / 16)) (hexC (c.toNat % 16))=some c:=by
 have:=dec_table c.toNat c.toNat_lt
 rw [UInt8.ofNat_toNat,h] at this
 simpa using this
theorem plain_pct:plainC 37=false:=by decide
theorem unesc_esc:∀ l:List UInt8,unesc (escL l)=some l
 | []=>rfl
 | c :: r=>by
  have ih:=unesc_esc r
  have e:escL (c :: r)=escC c ++ escL r:=by simp [escL]
  rw [e]
  cases h:plainC c
  ·rw [escC_other c h]
   show unesc (37 :: hexC (c.toNat / 16) :: hexC (c.toNat % 16) :: escL r)=some (c :: r)
   conv=>lhs; unfold unesc
   rw [if_pos rfl]
   simp only []
   rw [dec_esc c h,ih]; rfl
  ·have hc:c ≠ 37:=fun e=>by rw [e,plain_pct] at h; cases h
   rw [escC_plain c h]
   show unesc (c :: escL r)=some (c :: r)
   conv=>lhs; unfold unesc
   rw [if_neg hc,if_pos h,ih]; rfl
theorem dec_inv_table:∀ a:Nat,a < 256 -> ∀ b:Nat,b < 256 -> (match decC (UInt8.ofNat a) (UInt8.ofNat b) with
  | some c=>decide (plainC c=false) && decide (hexC (c.toNat / 16)=UInt8.ofNat a) && decide (hexC (c.toNat % 16)=UInt8.ofNat b)
  | none=>true)=true:=by decide +kernel
theorem dec_inv (a b c:UInt8) (h:decC a b=some c):plainC c=false /\ hexC (c.toNat / 16)=a /\ hexC (c.toNat % 16)=b:=by
 have:=dec_inv_table a.toNat a.toNat_lt b.toNat b.toNat_lt
 rw [UInt8.ofNat_toNat,UInt8.ofNat_toNat,h] at this
 simpa [and_assoc] using this
theorem esc_unesc (l m:List UInt8) (h:unesc l=some m):escL m=l:=by
 induction hn:l.length using Nat.strongRecOn generalizing l m with
 | ind n ih =>
  cases l with
  | nil=>unfold unesc at h; cases h; rfl
  | cons c r =>
   unfold unesc at h
   by_cases hc:c=37
   ·rw [if_pos hc] at h
    match r,h,hn with
    | a :: b :: r',h,hn =>
     simp only [] at h
     split at h
     ·rename_i d hd
      obtain ⟨x,hx,rfl⟩:=Option.map_eq_some_iff.1 h
      have:=ih r'.length (by simp at hn; omega) r' x hx rfl
      obtain ⟨h1,h2,h3⟩:=dec_inv a b d hd
      have e:escL (d :: x)=escC d ++ escL x:=by simp [escL]
      rw [e,escC_other d h1,h2,h3,this,hc]; rfl
     ·cases h
    | [a],h,_=>cases h
    | [],h,_=>cases h
   ·rw [if_neg hc] at h
    split at h
    ·rename_i hp
     obtain ⟨x,hx,rfl⟩:=Option.map_eq_some_iff.1 h
     have:=ih r.length (by simp at hn; omega) r x hx rfl
     have e:escL (c :: x)=escC c ++ escL x:=by simp [escL]
     rw [e,escC_plain c hp,this]; rfl
    ·cases h
end Go.Proofs.YtmmdaegdkikkpaaGreatDoor
end

section
set_option maxRecDepth 100000
namespace Go.Proofs.YtmmdaegdkikkpaaGreatDoor
open Go.RowKit Go.PlainAid
def boolN:Value -> Nat
 | .bool true=>1
 | _=>0
theorem unS_some {s:ByteArray} {x:List UInt8} (h:unesc s.data.toList=some x):unS s=ofL x /\ unE s=0:=by unfold unS unE ofL; rw [h]; exact ⟨rfl,rfl⟩
theorem unS_none {s:ByteArray} (h:unesc s.data.toList=none):unS s=⟨#[]⟩ /\ unE s=4:=by unfold unS unE; rw [h]; exact ⟨rfl,rfl⟩
theorem hex_place:∀ i:Nat,i < 16 -> hexV (chr hexS i)=(i:Int):=by decide +kernel
theorem hex_none:∀ n:Nat,n < 256 -> hexV (UInt8.ofNat n) = -1 ∨ ∃ j:Nat,j < 16 /\ chr hexS j=UInt8.ofNat n:=by decide +kernel
set_option maxRecDepth 100000 in
set_option maxHeartbeats 1000000 in
theorem rdigit_any (x:Int) (c:UInt8) (w:World) (hx:x=(c.toNat:Int)) :
  Calls Tryz.prog 163 #[.int .u8 x] w fun e w'=>e = .returned (.int .i64 (hexV c)) /\ w=w':=by
 have hxs:=get_bt (⟨#[48,49,50,51,52,53,54,55,56,57,65,66,67,68,69,70]⟩:ByteArray)
 have HX:=Lib.hid hx; clear hx
 go_enter Tryz.func163,Tryz.ntmps163
 go_wp2
 go_loop [3] (fun i=>∃ k:Nat,k <= 16 /\ i = .int .i64 k /\ Hid (∀ j,j < k -> chr hexS j ≠ c)) (fun i=>16 - (intOf i).toNat)
 case atStart=>exact ⟨0,Nat.zero_le _,rfl,Lib.hid fun j hj=>absurd hj (Nat.not_lt_zero _)⟩
 case round =>
  obtain ⟨k,hk,rfl,HA⟩:=hrel
  by_cases hlt:k < 16
  ·have HC:=Lib.hid (bt_chr hexS k)
   have k1:(0:Int) <= (k:Int):=by omega
   have k2:(k:Int) < 16:=by omega
   cases c1:(bt (⟨#[48,49,50,51,52,53,54,55,56,57,65,66,67,68,69,70]⟩:ByteArray) k == x)
   ·have HN:=Lib.hid (show chr hexS k ≠ c by
     intro e
     have h1:bt hexS k=x:=by rw [HC.out,e,HX.out]
     have h2:=beq_eq_false_iff_ne.1 c1
     exact h2 h1)
    go_wp2
    go_round
    case rel =>
     exact ⟨k + 1,by omega,by go_num,Lib.hid fun j hj=>if e:j=k then by rw [e]; exact HN.out else HA.out j (by omega)⟩
    case measure=>simp [intOf]; omega
   ·have HE:=Lib.hid (show hexV c=(k:Int) by
     have h2:bt hexS k=x:=beq_iff_eq.1 c1
     have h3:chr hexS k=c:=UInt8.toNat_inj.1 (by have:=HC.out; have:=HX.out; omega)
     rw [<- h3]; exact hex_place k hlt)
    go_wp2
    go_ret
    exact ⟨by rw [HE.out]; rfl,rfl⟩
  ·have HE:=Lib.hid (show hexV c = -1 by
    rcases hex_none c.toNat c.toNat_lt with h | ⟨j,hj,h⟩
    ·rwa [UInt8.ofNat_toNat] at h
    ·rw [UInt8.ofNat_toNat] at h
     exact absurd h (HA.out j (by omega)))
   go_wp2
   go_ret
   exact ⟨by rw [HE.out]; rfl,rfl⟩
def lax:List UInt8 -> Option (List UInt8)
 | []=>some []
 | c :: r=>if c=37 then (match r with
   | a :: b :: r'=>if hexV a < 0 ∨ hexV b < 0 then none else (lax r').map (UInt8.ofNat (16 * hexV a + hexV b).toNat :: ·)
   | _=>none) else (lax r).map (c :: ·)
theorem lax_of (l m:List UInt8) (h:unesc l=some m):lax l=some m:=by
 induction hn:l.length using Nat.strongRecOn generalizing l m with
 | ind n ih =>
  cases l with
  | nil=>unfold unesc at h; cases h; rfl
  | cons c r =>
   unfold unesc at h
   unfold lax
   by_cases hc:c=37
   ·rw [if_pos hc] at h ⊢
    match r,h,hn with
    | a :: b :: r',h,hn =>
     simp only [] at h ⊢
     split at h
     ·rename_i d hd
      obtain ⟨x,hx,rfl⟩:=Option.map_eq_some_iff.1 h
      have:=ih r'.length (by simp at hn; omega) r' x hx rfl
      unfold decC at hd
      split at hd
      ·cases hd
      ·rename_i hneg
       split at hd
       ·cases hd
       ·cases hd
        rw [if_neg hneg,this]; rfl
     ·cases h
    | [a],h,_=>cases h
    | [],h,_=>cases h
   ·rw [if_neg hc] at h ⊢
    split at h
    ·obtain ⟨x,hx,rfl⟩:=Option.map_eq_some_iff.1 h
     rw [ih r.length (by simp at hn; omega) r x hx rfl]; rfl
    ·cases h
theorem unesc_lax_none {l:List UInt8} (h:lax l=none):unesc l=none:=by
 cases hu:unesc l with
 | none=>rfl
 | some m=>rw [lax_of l m hu] at h; cases h
theorem unesc_lax_ok {l m:List UInt8} (he:escL m=l):unesc l=some m:=by rw [<- he]; exact unesc_esc m
theorem unesc_lax_bad {l m:List UInt8} (h:lax l=some m) (he:escL m ≠ l):unesc l=none:=by
 cases hu:unesc l with
 | none=>rfl
 | some x =>
  have h2:=lax_of l x hu
  rw [h] at h2
  cases h2
  exact absurd (esc_unesc l m hu) he
theorem lax_step (s:ByteArray) (i:Nat) (h:i < s.size) (hc:chr s i ≠ 37):lax (s.data.toList.drop i)=(lax (s.data.toList.drop (i + 1))).map (chr s i :: ·):=by
 rw [drop_chr s i h]; conv=>lhs; unfold lax
 rw [if_neg hc]
theorem lax_short (s:ByteArray) (i:Nat) (h:i < s.size) (hc:chr s i=37) (h2:s.size <= i + 2):lax (s.data.toList.drop i)=none:=by
 rw [drop_chr s i h]; unfold lax
 rw [if_pos hc]
 have hl:(s.data.toList.drop (i + 1)).length < 2:=by rw [List.length_drop, <- Lib.size_eq]; omega
 match e:s.data.toList.drop (i + 1),hl with
 | [],_=>rfl
 | [x],_=>rfl
theorem lax_pct (s:ByteArray) (i:Nat) (hc:chr s i=37) (h2:i + 2 < s.size):lax (s.data.toList.drop i)=if hexV (chr s (i + 1)) < 0 ∨ hexV (chr s (i + 2)) < 0 then none
  else (lax (s.data.toList.drop (i + 3))).map (UInt8.ofNat (16 * hexV (chr s (i + 1)) + hexV (chr s (i + 2))).toNat :: ·):=by
 rw [drop_chr s i (by omega),drop_chr s (i + 1) (by omega),drop_chr s (i + 1 + 1) (by omega)]
 conv=>lhs; unfold lax
 rw [if_pos hc]
set_option maxRecDepth 100000 in
set_option maxHeartbeats 4000000 in
theorem runescape_s (s:ByteArray) (w:World) (hs:s.size <= 1000000000) :
  Calls Tryz.prog 101 #[.string s] w fun e w'=>e = .returned (.tuple #[.string (unS s), .int .i64 (unE s)]) /\ Below w.heap.size w w':=by
 have hb:=get_bt s
 go_enter Tryz.func101,Tryz.ntmps101
 go_wp2
 go_loopw [4,5] (fun bv iv wr=>∃ (i:Nat) (out:List UInt8),i <= s.size /\ iv = .int .i64 i /\ out.length <= i /\ Hid (lax s.data.toList=(lax (s.data.toList.drop i)).map (out ++ ·)) /\
   wr.ownsRow w.heap.size 5 1 bv out.length (bcells out) /\ Below w.heap.size w wr)
  (fun _ iv _=>s.size - (intOf iv).toNat)
 case atStart=>exact ⟨0,[],Nat.zero_le _,rfl,by simp,Lib.hid (by simp),World.ownsRow_nil _ _ _ _,Below.refl _ _⟩
 case round =>
  obtain ⟨i,out,hi,rfl,hol,HU,hown,hbel⟩:=hrel
  have h0:=bt_nonneg s i
  have h255:=bt_le s i
  by_cases hlt:i < s.size
  ·have HC:=Lib.hid (bt_chr s i)
   cases c0:(bt s i == 37)
   ·have H37:=Lib.hid (show chr s i ≠ 37 from fun e=>by have:=HC.out; rw [e] at this; rw [this] at c0; simp at c0)
    have c0':(bt s i != 37)=true:=by simpa using c0
    have HST:=Lib.hid (lax_step s i hlt H37.out)
    go_wp2_with (at_builtin; go_must (refine push_byte _ hown (.tmp 16) (.tmp 20) _ ?_ ?_ ?_ ?_ ?_ ?_ ?_; exact rfl; exact rfl; exact rfl; exact rfl; omega; exact hbel.size; intro v' w1 hown1 hb1))
    go_roundw
    case rel=>exact ⟨i + 1,out ++ [chr s i],by omega,by go_num,by simp; omega,Lib.hid (by rw [HU.out,HST.out,Option.map_map]; congr 1; funext l; simp),by rw [List.length_append,bcells_append]; rw [HC.out] at hown1; exact hown1,hbel.trans hb1⟩
    case measure=>simp [intOf]; omega
   ·have H37:=Lib.hid (show chr s i=37 from by
     have:bt s i=37:=by simpa using c0
     rw [HC.out] at this; exact UInt8.toNat_inj.1 (by have h3:(37:UInt8).toNat=37:=rfl; omega))
    have c0':(bt s i != 37)=false:=by simpa using c0
    by_cases h2:s.size <= i + 2
    ·have HF:=Lib.hid (show unesc s.data.toList=none from unesc_lax_none (by rw [HU.out,lax_short s i hlt H37.out h2]; rfl))
     have HN:=Lib.hid (unS_none HF.out)
     go_wp2
     go_ret2
     exact ⟨by rw [HN.out.1,HN.out.2]; rfl,hbel⟩
    ·have HST:=Lib.hid (lax_pct s i H37.out (by omega))
     have r0:=hexV_le (chr s (i + 1))
     have r1:=hexV_le (chr s (i + 2))
     have H1:=Lib.hid (bt_chr s (i + 1))
     have H2:=Lib.hid (bt_chr s (i + 2))
     obtain ⟨v0,hv0⟩:∃ v,v=hexV (chr s (i + 1)):=⟨_,rfl⟩
     obtain ⟨v1,hv1⟩:∃ v,v=hexV (chr s (i + 2)):=⟨_,rfl⟩
     rw [<- hv0, <- hv1] at HST
     rw [<- hv0] at r0
     rw [<- hv1] at r1
     have HV0:=Lib.hid hv0; have HV1:=Lib.hid hv1; clear hv0 hv1
     by_cases n0:v0 < 0
     ·have HF:=Lib.hid (show unesc s.data.toList=none from unesc_lax_none (by rw [HU.out,HST.out,if_pos (.inl n0)]; rfl))
      have HN:=Lib.hid (unS_none HF.out)
      go_wp2_with (go_at_call 163; (with_reducible refine (rdigit_any _ (chr s (i + 1)) _ H1.out).mono ?_); rintro e w' ⟨rfl,rfl⟩; rw [<- HV0.out])
      go_ret2
      exact ⟨by rw [HN.out.1,HN.out.2]; rfl,hbel⟩
     ·by_cases n1:v1 < 0
      ·have HF:=Lib.hid (show unesc s.data.toList=none from unesc_lax_none (by rw [HU.out,HST.out,if_pos (.inr n1)]; rfl))
       have HN:=Lib.hid (unS_none HF.out)
       go_wp2_with (first
        | (go_at_call 163; (with_reducible refine (rdigit_any _ (chr s (i + 1)) _ H1.out).mono ?_); rintro e w' ⟨rfl,rfl⟩; rw [<- HV0.out])
        | (go_at_call 163; (with_reducible refine (rdigit_any _ (chr s (i + 2)) _ H2.out).mono ?_); rintro e w' ⟨rfl,rfl⟩; rw [<- HV1.out]))
       go_ret2
       exact ⟨by rw [HN.out.1,HN.out.2]; rfl,hbel⟩
      ·rw [if_neg (by omega)] at HST
       go_wp2_with (first
        | (go_at_call 163; (with_reducible refine (rdigit_any _ (chr s (i + 1)) _ H1.out).mono ?_); rintro e w' ⟨rfl,rfl⟩; rw [<- HV0.out])
        | (go_at_call 163; (with_reducible refine (rdigit_any _ (chr s (i + 2)) _ H2.out).mono ?_); rintro e w' ⟨rfl,rfl⟩; rw [<- HV1.out]))
       obtain ⟨i0,hi0,hz0,hz1,hz2⟩:=info_parts info5
       obtain ⟨x,hxe⟩:∃ x,x=16 * v0 + v1:=⟨_,rfl⟩
       have hxr:0 <= x /\ x <= 255:=by omega
       have m1:IntKind.i64.wrap (16 * v0)=16 * v0:=IntWalk.i64_in _ (by omega)
       have m2:IntKind.i64.wrap (16 * v0 + v1)=x:=by rw [hxe]; exact IntWalk.i64_in _ (by omega)
       have m3:IntKind.u8.wrap x=x:=IntWalk.u8_in _ (by omega)
       have m4:16 * v0 + v1=x:=hxe.symm
       have m7:IntKind.i64.wrap x=x:=IntWalk.i64_in _ (by omega)
       have HX:=Lib.hid hxe; clear hxe
       have m5:IntKind.i64.wrap ((i:Int) + 1)=(i:Int) + 1:=IntWalk.i64_in _ (by omega)
       have m6:IntKind.i64.wrap ((i:Int) + 2)=(i:Int) + 2:=IntWalk.i64_in _ (by omega)
       have k1:(0:Int) <= (i:Int) + 1:=by omega
       have k2:(i:Int) + 1 < (s.size:Int):=by omega
       have k3:(0:Int) <= (i:Int) + 2:=by omega
       have k4:(i:Int) + 2 < (s.size:Int):=by omega
       have k5:((i:Int) + 2).toNat=i + 2:=by omega
       have k6:((i:Int) + 1).toNat=i + 1:=by omega
       go_region_held3 (fun _=>True) (trivial)
        (first
         | (go_at_call 163; (with_reducible refine (rdigit_any _ (chr s (i + 1)) _ H1.out).mono ?_); rintro e w' ⟨rfl,rfl⟩; rw [<- HV0.out])
         | (go_at_call 163; (with_reducible refine (rdigit_any _ (chr s (i + 2)) _ H2.out).mono ?_); rintro e w' ⟨rfl,rfl⟩; rw [<- HV1.out])
         | (refine step_append_lies _ (by rfl) _ _ _ (by rfl) w.heap.size 5 i0 _ 1 1 Tryz.underlying77 hi0 hz0 hz1 hz2 rfl (by omega) _ _ _ (by rfl) ((hown.alloc _).drew) ⟨wr.heap.size,0,none⟩ 1 1 _ (by rfl) (by rfl) (World.news_of_block (heap_alloc_new wr _)) (by simp [Value.oneCell']) (by omega) (by unfold maxLen; omega) (by omega) (by have:=hbel.size; simp; omega) (wr.heap.size + 1) (by simp) ?_; intro gg cap w1 hown1 hgrow hat hlt1))
       all_goals
        have hbel1:Below w.heap.size w w1:=(((hbel.alloc hbel.size _).drew).grown hgrow (by have:=hbel.size; simp; omega) (fun j hj=>(hown.lt j hj).1))
        have HXN:=Lib.hid (show x=((UInt8.ofNat x.toNat).toNat:Int) by rw [UInt8.toNat_ofNat']; omega)
        have HOW:=Lib.hid (show w1.ownsRow w.heap.size 5 1 (.slice (some ⟨gg,0,none⟩) (out.length + 1) cap) (out.length + 1) (bcells (out ++ [UInt8.ofNat x.toNat])) by
         rw [bcells_append]
         have e:bcells [UInt8.ofNat x.toNat] = [.int .u8 x]:=by show [Value.int .u8 ((UInt8.ofNat x.toNat).toNat:Int)]=_; rw [<- HXN.out]
         rw [e]; exact hown1)
        clear hown1 m5 m6 m1 m2 m3 m4 m7
        go_wp2
        go_roundw
        case rel =>
         refine ⟨i + 3,out ++ [UInt8.ofNat x.toNat],by omega,by go_num,by simp; omega,Lib.hid (by rw [HU.out,HST.out,HX.out,Option.map_map]; congr 1; funext l; simp), ?_,hbel1⟩
         rw [List.length_append]
         exact HOW.out
        case measure=>simp [intOf]; omega
  ·have HL:=Lib.hid (show lax s.data.toList=some out by rw [HU.out,List.drop_eq_nil_of_le (by rw [<- Lib.size_eq]; omega)]; simp [lax])
   have hbk:=back hown
   by_cases he:escL out=s.data.toList
   ·have HE:=Lib.hid (unS_some (unesc_lax_ok he))
    have HS:=Lib.hid (show (⟨(escL (ofL out).data.toList).toArray⟩:ByteArray)=s by
     have e:(ofL out).data.toList=out:=rfl
     rw [e,he])
    have hol2:(ofL out).size <= 1000000000:=by show out.length <= _; omega
    go_wp2_with (go_at_call 97; refine (rescape_any (ofL out) _ hol2).mono ?_; rintro e w1 ⟨rfl,hb1⟩; rw [HS.out]; have hbk1:=back (own_below hown hb1))
    go_ret2
    exact ⟨by rw [HE.out.1,HE.out.2]; rfl,hbel.trans (hb1.mono hbel.size)⟩
   ·have HE:=Lib.hid (unS_none (unesc_lax_bad HL.out he))
    have hol2:(ofL out).size <= 1000000000:=by show out.length <= _; omega
    have hq:(escL (ofL out).data.toList == s.toList)=false:=by
     rw [Lib.toList_data]
     exact beq_false_of_ne he
    clear he
    go_wp2_with (go_at_call 97; refine (rescape_any (ofL out) _ hol2).mono ?_; rintro e w1 ⟨rfl,hb1⟩)
    go_ret2
    exact ⟨by rw [HE.out.1,HE.out.2]; rfl,hbel.trans (hb1.mono hbel.size)⟩
end Go.Proofs.YtmmdaegdkikkpaaGreatDoor
end
