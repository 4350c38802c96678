/-
  Texts of the schema layer and of those beneath it, joined: CodecA, CodecB, ShelfB, CodecBuild, CodecStr, CodecC, CodecDec, CodecInt, CodecIntP, CodecEsc, CodecREsc, CodecRInt, CodecRInt2. Conditions stand at each contract.
-/
import Derived.Lib.Builder
import Derived.Lib.AppendStr
import Derived.Laws.Externs
import Derived.Laws.RangeAny
import Derived.Laws.RangeString
import Derived.Lib.RuneCount
import Derived.Lib.AtoiAllCases
import Derived.Lib.LaidTab
import Derived.Deep.RegionHeld3
import Derived.Deep.AppendLies
import Derived.Lib.ItoaLen
import Derived.Test.YtmmdaegdkikkpaaGreatDoorS01
set_option linter.unusedVariables false
set_option linter.unusedSimpArgs false
set_option linter.unnecessarySimpa false

section
set_option maxRecDepth 100000
namespace Go.Proofs.YtmmdaegdkikkpaaGreatDoor
open Go.PlainAid
def plainI (c:Int):Bool:=decide (33 <= c) && decide (c <= 126) && !(c == 37) && !(c == 124) && !(c == 44) && !(c == 61) && !(c == 59) && !(c == 34)
def plainC (c:UInt8):Bool:=plainI (c.toNat:Int)
def hexC (d:Nat):UInt8:=if d < 10 then UInt8.ofNat (48 + d) else UInt8.ofNat (55 + d)
def escC (c:UInt8):List UInt8:=if plainC c then [c] else [37,hexC (c.toNat / 16),hexC (c.toNat % 16)]
def escL (l:List UInt8):List UInt8:=l.flatMap escC
def hexS:ByteArray:=⟨#[48,49,50,51,52,53,54,55,56,57,65,66,67,68,69,70]⟩
theorem hexC_table:∀ d:Nat,d < 16 -> bt hexS d=((hexC d).toNat:Int):=by decide +kernel
theorem escL_snoc (l:List UInt8) (c:UInt8):escL (l ++ [c])=escL l ++ escC c:=by simp [escL]
theorem escC_length (c:UInt8):(escC c).length <= 3:=by unfold escC; split <;> simp
theorem escL_length (l:List UInt8):(escL l).length <= 3 * l.length:=by
 induction l with
 | nil=>simp [escL]
 | cons c l ih =>
  have e:escL (c :: l)=escC c ++ escL l:=by simp [escL]
  rw [e,List.length_append,List.length_cons]
  have:=escC_length c
  omega
theorem escC_plain (c:UInt8) (h:plainC c=true):escC c = [c]:=by unfold escC; rw [if_pos h]
theorem escC_other (c:UInt8) (h:plainC c=false):escC c = [37,hexC (c.toNat / 16),hexC (c.toNat % 16)]:=by unfold escC; rw [if_neg (by simp [h])]
theorem hex_hi (x:Int) (c:UInt8) (h:x=(c.toNat:Int)):bt (⟨#[48,49,50,51,52,53,54,55,56,57,65,66,67,68,69,70]⟩:ByteArray) (x / 16).toNat=((hexC (c.toNat / 16)).toNat:Int):=by
 have hc:=c.toNat_lt
 have e:(x / 16).toNat=c.toNat / 16:=by omega
 rw [e]
 exact hexC_table _ (by omega)
theorem hex_lo (x:Int) (c:UInt8) (h:x=(c.toNat:Int)):bt (⟨#[48,49,50,51,52,53,54,55,56,57,65,66,67,68,69,70]⟩:ByteArray) (x % 16).toNat=((hexC (c.toNat % 16)).toNat:Int):=by
 have e:(x % 16).toNat=c.toNat % 16:=by omega
 rw [e]
 exact hexC_table _ (by omega)
def chr (s:ByteArray) (k:Nat):UInt8:=s.data.toList.getD k 0
theorem bt_chr (s:ByteArray) (k:Nat):bt s k=((chr s k).toNat:Int):=by
 unfold chr
 by_cases h:k < s.size
 ·rw [bt_at s k h,List.getD_eq_getElem?_getD,List.getElem?_eq_getElem (by simpa using h)]; rfl
 ·rw [bt_end s (by omega),List.getD_eq_getElem?_getD,List.getElem?_eq_none (by rw [<- Lib.size_eq]; omega)]; rfl
theorem take_chr (s:ByteArray) (k:Nat) (h:k < s.size):s.data.toList.take (k + 1)=s.data.toList.take k ++ [chr s k]:=by
 rw [take_succ s k h]; unfold chr; rw [List.getD_eq_getElem?_getD,List.getElem?_eq_getElem (by simpa using h)]; rfl
theorem esc_step (s:ByteArray) (k:Nat) (h:k < s.size):escL (s.data.toList.take (k + 1))=escL (s.data.toList.take k) ++ escC (chr s k):=by rw [take_chr s k h,escL_snoc]
theorem plain_chr (s:ByteArray) (k:Nat):plainC (chr s k)=plainI (bt s k):=by unfold plainC; rw [bt_chr]
theorem drop_chr (s:ByteArray) (i:Nat) (h:i < s.size):s.data.toList.drop i=chr s i :: s.data.toList.drop (i + 1):=by
 unfold chr
 rw [List.getD_eq_getElem?_getD,List.getElem?_eq_getElem (by simpa using h)]
 exact List.drop_eq_getElem_cons (by simpa using h)
end Go.Proofs.YtmmdaegdkikkpaaGreatDoor
end

section
set_option maxRecDepth 100000
namespace Go.Proofs.YtmmdaegdkikkpaaGreatDoor
open Go.RowKit Go.PlainAid
theorem bsize:(Tryz.prog.info? 79).map (·.size)=some 2:=by kernel_rfl
theorem blies:liesAt Tryz.prog Tryz.prog.depth 79 (2 / Tryz.prog.cellsOf 79) 0 79 1=true:=by kernel_rfl
set_option maxHeartbeats 1000000 in
set_option maxRecDepth 100000 in
theorem check_used (b:Nat) (w:World) (h0:w.cell? ⟨b,0,none⟩=some (.pointer (some ⟨b,0,none⟩))) :
  Calls Tryz.prog 115 #[.pointer (some ⟨b,0,none⟩)] w fun e w'=>e = .returned (.tuple #[]) /\ w'=w:=by
 obtain ⟨j,hj,_⟩:=Option.map_eq_some_iff.1 bsize
 go_enter Tryz.func115,Tryz.ntmps115
 go_wp2
 rw [Lib.run_neq_ptr_same w _ Tryz.underlying76 hj]
 go_wp2
 go_end0
 exact ⟨rfl,rfl⟩
set_option maxHeartbeats 1000000 in
set_option maxRecDepth 100000 in
theorem check_fresh (b:Nat) (w:World) (h0:w.cell? ⟨b,0,none⟩=some (.pointer none)) (hsh:w.shape? b=some (79,2)) (hfz:w.frozen? ⟨b,0,none⟩=false) :
  Calls Tryz.prog 115 #[.pointer (some ⟨b,0,none⟩)] w fun e w'=>e = .returned (.tuple #[]) /\ w'=w.setCell ⟨b,0,none⟩ (.pointer (some ⟨b,0,none⟩)):=by
 obtain ⟨j,hj,hjs⟩:=Option.map_eq_some_iff.1 bsize
 go_enter Tryz.func115,Tryz.ntmps115
 go_wp2
 rw [Lib.run_to_unsafe w ⟨b,0,none⟩ Tryz.underlying76 Tryz.underlying180 hj (by rw [hjs]; decide) hsh (Nat.zero_lt_succ 1)]
 simp only [Result.andThen]
 rw [Oper.upon_value]
 go_wp2
 rw [run_callFunc_extern Tryz.func180 (by kernel_rfl) (by kernel_rfl) (by kernel_rfl) (e:=Extern.AbiNoEscape.same) (by kernel_rfl)]
 rw [Lib.run_noEscape]
 simp only [Result.andThen]
 rw [Oper.upon_value]
 go_wp2
 rw [Lib.run_from_unsafe w ⟨b,0,none⟩ Tryz.underlying180 Tryz.underlying76 hj hsh blies]
 simp only [Result.andThen]
 rw [Oper.upon_value]
 go_wp2
 go_end0
 exact ⟨rfl,rfl⟩
def Bld (B b:Nat) (l:List UInt8) (w:World):Prop:=Lib.IsBuilder 79 5 B b (bcells l) w
theorem check_any (B b:Nat) (bs:List Value) (w:World) (h:Lib.IsBuilder 79 5 B b bs w) :
  Calls Tryz.prog 115 #[.pointer (some ⟨b,0,none⟩)] w fun e w'=>e = .returned (.tuple #[]) /\ (Lib.BuilderAt 79 5 B b (.pointer (some ⟨b,0,none⟩)) bs w' /\ Below B w w'):=by
 rcases h with h | h
 ·refine (check_fresh b w h.cell0 h.shape h.frozen0).mono ?_
  rintro e w' ⟨rfl,rfl⟩
  exact ⟨rfl,h.used _,(Below.refl B w).setCell (p:=⟨b,0,none⟩) h.1 _⟩
 ·refine (check_used b w h.cell0).mono ?_
  rintro e w' ⟨rfl,rfl⟩
  exact ⟨rfl,h,Below.refl B _⟩
theorem push_byte_g {ops:Array Oper} {rest:List Oper} {o:Oper} {a:Act} {Q:Exit -> Act -> World -> Prop} (wr:World) {base:Nat} {v:Value} {n:Nat} {xs:List Value} (hown:wr.ownsRow base 5 1 v n xs) (s x:Operand)
  (c:Int) (hgd:o.guard=none)
  (ho:o.op = .call { callee := .builtin .append,args := #[s,x],argTypes := #[77,77] })
  (hs:a.eval s=v) (hx:a.eval x = .slice (some ⟨wr.heap.size,0,none⟩) 1 1) (hn:n + 1 <= 140737488355328) (hbase:base <= wr.heap.size)
  (h:∀ v' w',w'.ownsRow base 5 1 v' (n + 1) (xs ++ [.int .u8 c]) -> (wr.alloc (.cells #[.int .u8 c] 5)).grownBy w' v.ownBlock -> wpList Tryz.prog ops Q rest (a.put o.dst v') w') :
  wpList Tryz.prog ops Q (o :: rest) a (wr.alloc (.cells #[.int .u8 c] 5)):=by
 obtain ⟨i0,hi,hz0,hz1,hz2⟩:=info_parts info5
 refine wpList_append_own _ hgd s x 77 ho base 5 i0 (.int .u8 0) 1 1 Tryz.underlying77 hi hz0 hz1 hz2 rfl (by decide) v n xs hs (hown.alloc _) ⟨wr.heap.size,0,none⟩ 1 1 [.int .u8 c] hx rfl
  (cell_one_new _ _ _) (by intro u hu; simp at hu; subst hu; rfl) (by unfold maxLen; omega) (by omega) (by simp; omega) ?_
 intro v' w' h1 h2 _
 exact h v' w' h1 h2
set_option maxHeartbeats 2000000 in
set_option maxRecDepth 100000 in
theorem writeByte_cells (B b:Nat) (bs:List Value) (c:Int) (w:World) (h:Lib.IsBuilder 79 5 B b bs w) (hlen:bs.length + 1 <= 140737488355328) (hBw:B <= w.heap.size) :
  Calls Tryz.prog 199 #[.pointer (some ⟨b,0,none⟩), .int .u8 c] w fun e w'=>e = .returned .nilIface /\ (Lib.BuilderAt 79 5 B b (.pointer (some ⟨b,0,none⟩)) (bs ++ [.int .u8 c]) w' /\ Below B w w'):=by
 go_enter Tryz.func199,Tryz.ntmps199
 go_wp2_with (go_at_call 115; refine (check_any B b bs _ h).mono ?_)
 rintro e w1 ⟨rfl,h1,hb1⟩
 obtain ⟨hB,v,hbk,hown,hne⟩:=h1
 have c1:w1.cell? ⟨b,1,none⟩=some v:=by rw [Lib.cell_of_heap hbk]; rfl
 have HZ:=hb1.size
 go_wp2_with (at_builtin; refine push_byte_g w1 hown (.tmp 11) (.tmp 13) _ ?_ ?_ ?_ ?_ ?_ ?_ ?_; exact rfl; exact rfl; exact rfl; exact rfl; omega; omega)
 intro v' w2 hown' hgrow
 have hlt:b < w1.heap.size:=by
  rcases Nat.lt_or_ge b w1.heap.size with h' | h'
  ·exact h'
  ·simp [Array.getElem?_eq_none h'] at hbk
 have hb2:w2.heap[b]? = some (.cells #[.pointer (some ⟨b,0,none⟩),v] 79 (0,0)):=by
  rw [hgrow.block b (by simp; omega) (fun e=>hne e.symm),Lib.alloc_old w1 _ b hlt]
  exact hbk
 have d1:w2.cell? ⟨b,1,none⟩=some v:=by rw [Lib.cell_of_heap hb2]; rfl
 have f1:w2.frozen? ⟨b,1,none⟩=false:=Lib.frozen_of_heap hb2 1
 obtain ⟨g,cap,rfl⟩:∃ g cap,v' = .slice (some ⟨g,0,none⟩) (bs.length + 1) cap:=by
  rcases hown'.2 with ⟨_,h0⟩ | ⟨g,cap,cur,hv,_⟩
  ·omega
  ·exact ⟨g,cap,hv⟩
 go_wp2
 go_ret
 refine ⟨rfl, ?_, ?_⟩
 ·exact Lib.BuilderAt.put (T:=79) (e:=5) hB hb2 (bs':=bs ++ [.int .u8 c]) (by simpa using hown') (by decide)
 ·exact ((hb1.alloc (by omega) _).grown hgrow (by simp; omega) (fun k hk=>(hown.lt k hk).1)).setCell (p:=⟨b,1,none⟩) hB _
theorem writeByte_s (B b:Nat) (l:List UInt8) (c:UInt8) (x:Int) (w:World) (h:Bld B b l w) (hx:x=(c.toNat:Int)) (hlen:l.length <= 100000000000) (hBw:B <= w.heap.size) :
  Calls Tryz.prog 199 #[.pointer (some ⟨b,0,none⟩), .int .u8 x] w fun e w'=>e = .returned .nilIface /\ Bld B b (l ++ [c]) w' /\ Below B w w':=by
 subst hx
 refine (writeByte_cells B b (bcells l) c.toNat w h (by rw [bcells_length]; omega) hBw).mono fun e w' h=>⟨h.1, ?_,h.2.2⟩
 unfold Bld
 rw [bcells_append]
 exact .inr h.2.1
theorem string_s (B b:Nat) (l:List UInt8) (w:World) (h:Bld B b l w) (hBw:B <= w.heap.size) :
  Calls Tryz.prog 59 #[.pointer (some ⟨b,0,none⟩)] w fun e w'=>e = .returned (.string ⟨l.toArray⟩) /\ Below B w w':=
 (Tryz.Builder_String_any B b l w h hBw).mono fun e w' h=>⟨h.1,h.2⟩
theorem bld_new (w:World):Bld w.heap.size w.heap.size [] (w.alloc (.cells #[.pointer none, .slice none 0 0] 79)):=Lib.fresh_isBuilder _ _ w
theorem Bld.below {B b:Nat} {l:List UInt8} {w w':World} (h:Bld B b l w) (hb:Below w.heap.size w w'):Bld B b l w':=by
 have one:∀ p,Lib.BuilderAt 79 5 B b p (bcells l) w -> Lib.BuilderAt 79 5 B b p (bcells l) w':=fun p h=>by
  have hl:=h.lt
  obtain ⟨hB,v,hbk,hown,hne⟩:=h
  refine ⟨hB,v,by rw [hb.block b hl]; exact hbk, ?_,hne⟩
  exact hown.kept (row:=none) ⟨hb.os,hb.tape,hb.output,hb.size,fun k hk _=>hb.block k hk⟩ (by
   cases h:v.ownBlock
   ·exact .inl rfl
   ·exact .inr (by simp))
 rcases h with h | h
 ·exact .inl (one _ h)
 ·exact .inr (one _ h)
theorem strCells_b (s:ByteArray):Lib.strCells s=bcells s.data.toList:=rfl
end Go.Proofs.YtmmdaegdkikkpaaGreatDoor
end

section
set_option maxRecDepth 100000
namespace Go.Proofs.YtmmdaegdkikkpaaGreatDoor
open Go.PlainAid
def pieces (b:UInt8):List UInt8 -> List (List UInt8)
 | []=>[[]]
 | c :: l=>if c=b then [] :: pieces b l else match pieces b l with
  | p :: r=>(c :: p) :: r
  | []=>[[c]]
def ofL (l:List UInt8):ByteArray:=⟨l.toArray⟩
end Go.Proofs.YtmmdaegdkikkpaaGreatDoor
end

section
set_option maxRecDepth 100000
namespace Go.Proofs.YtmmdaegdkikkpaaGreatDoor
open Go.RowKit Go.PlainAid
def digB (c:UInt8):Bool:=decide (48 <= c.toNat) && decide (c.toNat <= 57)
def stripL (l:List UInt8):List UInt8:=Lib.trimPrefix l [45]
def digsB (l:List UInt8):Bool:=match l with
 | []=>false
 | c :: _ => !(c == 48) && l.all digB
def decB (l:List UInt8):Bool:=decide (l = [48]) || digsB (stripL l)
theorem digs_zero {t:ByteArray} (h1:chr t 0=48):digsB t.data.toList=false:=by
 unfold chr at h1
 cases e:t.data.toList with
 | nil=>rfl
 | cons c r =>
  rw [e] at h1
  have:c=48:=by simpa using h1
  unfold digsB; rw [this]; rfl
theorem byte_chr (t:ByteArray) (k:Nat) (h:k < t.size):((t[k]'h).toNat:Int)=bt t k:=by unfold bt; rw [dif_pos h]
def IntOk (w : World) : Prop := Lib.TabIs Tryz.prog w "internal/strconv.uint64pow10" .u64 Lib.pow10Tab ∧ ∃ tp p, w.var? Tryz.prog "strconv.ErrRange" = some #[.iface tp p]
theorem var_below {w w':World} {B:Nat} {n:String} {cs:Array Value} (h:w.var? Tryz.prog n=some cs) (hb:Below B w w') (hB:w.heap.size <= B):w'.var? Tryz.prog n=some cs:=by
 unfold World.var? at h ⊢
 cases hg:Tryz.prog.globalNamed n with
 | none=>rw [hg] at h; cases h
 | some g =>
  rw [hg] at h
  simp only [Option.bind_some] at h ⊢
  have hlt:g < w.heap.size:=by
   rcases Nat.lt_or_ge g w.heap.size with k | k
   ·exact k
   ·rw [Array.getElem?_eq_none k] at h; cases h
  rw [hb.block g (by omega)]
  exact h
theorem IntOk.below {w w':World} (h:IntOk w) (hb:Below w.heap.size w w'):IntOk w':=
 ⟨var_below h.1 hb (Nat.le_refl _),by obtain ⟨tp,p,e⟩:=h.2; exact ⟨tp,p,var_below e hb (Nat.le_refl _)⟩⟩
theorem below_bw (w:World) (e:TypeId) (s:ByteArray):Below w.heap.size w (Lib.bytesWorld w e s):=
 ⟨rfl,rfl,rfl,by rw [Lib.bytesWorld_size]; omega,fun j hj=>Lib.bytesWorld_at_old w e s j hj⟩
theorem below_grow (w:World) (k:Nat) (os:Array Obj):Below w.heap.size w (Go.Sort.grow (w.drewN k) os):=
 ⟨rfl,rfl,rfl,by simp [Go.Sort.grow],fun j hj=>by simp [Go.Sort.grow,Array.getElem?_append,hj]⟩
theorem atoi_ok (s:ByteArray) (v:Int) (w:World) (hs:s.size <= 1000000000) (h:Lib.atoiAll s.data.toList = .ok v) :
  Calls Tryz.prog 235 #[.string s] w fun e w'=>e = .returned (.tuple #[.int .i64 v, .nilIface]) /\ Below w.heap.size w w':=
 (Tryz.strconv_Atoi_ok s (by omega) v h w).mono fun e w' k=>⟨k.1,by
  rcases k.2 with rfl | ⟨t,rfl⟩
  ·exact Below.refl _ _
  ·exact below_bw _ _ _⟩
theorem itoa_s (n:Int) (w:World) (h0 : -9223372036854775808 <= n) (h1:n <= 9223372036854775807) (ho:IntOk w) :
  Calls Tryz.prog 270 #[.int .i64 n] w fun e w'=>e = .returned (.string (ofL (Lib.itoa n))) /\ Below w.heap.size w w':=
 (Tryz.strconv_Itoa n h0 h1 w ho.1).mono fun e w' ⟨k1,k,os,k2⟩=>⟨k1,by rw [k2]; exact below_grow w k os⟩
def Fair {α:Type} (x:Lib.NumEnd α):Prop:=(∃ v,x = .ok v) ∨ x = .range
theorem parse_digits:∀ (l:List UInt8) (acc:Nat),l.all digB=true -> Fair (Lib.parseUint10 acc l)
 | [],acc,_ => .inl ⟨acc,rfl⟩
 | c :: r,acc,h=>by
  rw [List.all_cons,Bool.and_eq_true] at h
  have hc:48 <= c.toNat /\ c.toNat <= 57:=by simpa [digB] using h.1
  unfold Lib.parseUint10
  rw [if_pos hc]
  split
  ·exact .inr rfl
  ·split
   ·exact .inr rfl
   ·exact parse_digits r _ h.2
theorem signless_fair {x:Lib.NumEnd Nat} (h:Fair x):Fair (Lib.signless x):=by
 rcases h with ⟨v,rfl⟩ | rfl
 ·unfold Lib.signless; dsimp only; split
  ·exact .inr rfl
  ·exact .inl ⟨_,rfl⟩
 ·exact .inr rfl
theorem signed_fair {x:Lib.NumEnd Nat} (h:Fair x):Fair (Lib.signed x):=by
 rcases h with ⟨v,rfl⟩ | rfl
 ·unfold Lib.signed; dsimp only; split
  ·exact .inr rfl
  ·exact .inl ⟨_,rfl⟩
 ·exact .inr rfl
theorem strip_minus (r:List UInt8):stripL (45 :: r)=r:=by simp [stripL,Lib.trimPrefix,Lib.hasPrefix]
theorem strip_plain (c:UInt8) (r:List UInt8) (h:c ≠ 45):stripL (c :: r)=c :: r:=by
 unfold stripL Lib.trimPrefix Lib.hasPrefix
 rw [if_neg]
 simp only [List.isPrefixOf,Bool.and_eq_true,beq_iff_eq]
 rintro ⟨e,_⟩; exact h e.symm
def readI (l:List UInt8):Int × Int:=if decB l then (match Lib.atoiAll l with
 | .ok v=>(v,0)
 | _=>(0,27)) else (0,4)
set_option maxRecDepth 100000 in
theorem int_s (n:Int) (w:World) (h0 : -9223372036854775808 <= n) (h1:n <= 9223372036854775807) (ho:IntOk w) :
  Calls Tryz.prog 232 #[.int .i64 n] w fun e w'=>e = .returned (.string (ofL (Lib.itoa n))) /\ Below w.heap.size w w':=by
 have HO:=Lib.hid ho; clear ho
 go_enter Tryz.func232,Tryz.ntmps232
 go_wp2_with (go_at_call 270; refine (itoa_s n _ h0 h1 HO.out).mono ?_; rintro e w1 ⟨rfl,hb1⟩)
 go_ret
 exact ⟨rfl,hb1⟩
end Go.Proofs.YtmmdaegdkikkpaaGreatDoor
end

section
set_option maxRecDepth 100000
namespace Go.Proofs.YtmmdaegdkikkpaaGreatDoor
def valA (acc:Nat) (l:List UInt8):Nat:=l.foldl (fun a c=>10 * a + (c.toNat - 48)) acc
def valD (l:List UInt8):Nat:=valA 0 l
theorem valA_cons (a:Nat) (c:UInt8) (l:List UInt8):valA a (c :: l)=valA (10 * a + (c.toNat - 48)) l:=by
 unfold valA
 rw [List.foldl_cons]
theorem valD_snoc (l:List UInt8) (c:UInt8):valD (l ++ [c])=10 * valD l + (c.toNat - 48):=by
 unfold valD valA
 rw [List.foldl_append,List.foldl_cons,List.foldl_nil]
theorem valA_ge:∀ (l:List UInt8) (a:Nat),a <= valA a l
 | [],a=>Nat.le_refl _
 | c :: l,a=>by rw [valA_cons]; exact Nat.le_trans (by omega) (valA_ge l _)
theorem valD_take_le (l:List UInt8) (k:Nat):valD (l.take k) <= valD l:=by
 have h:valD l=valA (valD (l.take k)) (l.drop k):=by
  unfold valD valA
  rw [<- List.foldl_append,List.take_append_drop]
 rw [h]; exact valA_ge _ _
theorem digB_bounds {c:UInt8} (h:digB c=true):48 <= c.toNat /\ c.toNat <= 57:=by simpa [digB] using h
theorem parse_val:∀ (l:List UInt8) (acc:Nat),acc < 18446744073709551616 -> l.all digB=true ->
  Lib.parseUint10 acc l=if valA acc l < 18446744073709551616 then .ok (valA acc l) else .range
 | [],acc,ha,h=>by rw [if_pos (show valA acc [] < _ from ha)]; rfl
 | c :: r,acc,ha,h=>by
  rw [List.all_cons,Bool.and_eq_true] at h
  have hc:=digB_bounds h.1
  have hg:=valA_ge r (10 * acc + (c.toNat - 48))
  unfold Lib.parseUint10
  rw [if_pos hc,valA_cons]
  split
  ·rw [if_neg (by omega)]
  ·split
   ·rw [if_neg (by omega)]
   ·rw [Nat.mul_comm acc 10]
    exact parse_val r _ (by omega) h.2
theorem digs_parts {l:List UInt8} (h:digsB l=true):l ≠ [] /\ l.all digB=true:=by
 cases l with
 | nil=>cases h
 | cons c r =>
  unfold digsB at h
  rw [Bool.and_eq_true] at h
  exact ⟨by simp,h.2⟩
theorem mag_val {l:List UInt8} (h:digsB l=true):Lib.parseMag l=if valD l < 18446744073709551616 then .ok (valD l) else .range:=by
 unfold Lib.parseMag
 rw [if_neg (digs_parts h).1]
 exact parse_val l 0 (by omega) (digs_parts h).2
theorem digs_head {c:UInt8} {r:List UInt8} (h:digsB (c :: r)=true):49 <= c.toNat /\ c.toNat <= 57:=by
 unfold digsB at h
 simp only [Bool.and_eq_true,List.all_cons] at h
 have:=digB_bounds h.2.1
 have hne:c ≠ 48:=by simpa using h.1
 have hn:c.toNat ≠ 48:=fun e=>hne (UInt8.toNat_inj.1 e)
 omega
theorem dec_plain {l:List UInt8} (h:digsB l=true):decB l=true:=by
 cases l with
 | nil=>cases h
 | cons c r =>
  have:=digs_head h
  unfold decB
  rw [strip_plain c r (fun e=>by have h4:(45:UInt8).toNat=45:=rfl; rw [e] at this; omega),h,Bool.or_true]
theorem dec_minus {r:List UInt8}:decB (45 :: r)=digsB r:=by
 unfold decB
 rw [strip_minus]
 have:decide ((45:UInt8) :: r = [48])=false:=decide_eq_false (by intro e; injection e with e1 _; exact absurd e1 (by decide))
 rw [this,Bool.false_or]
theorem signless_small {u:Nat} (h:u < 9223372036854775808):Lib.signless (.ok u) = .ok (u:Int):=by unfold Lib.signless; dsimp only; rw [if_neg (by omega)]
theorem signless_big {u:Nat} (h:¬ u < 9223372036854775808):Lib.signless (.ok u) = .range:=by unfold Lib.signless; dsimp only; rw [if_pos (by omega)]
theorem signed_small {u:Nat} (h:u <= 9223372036854775808):Lib.signed (.ok u) = .ok (-(u:Int)):=by unfold Lib.signed; dsimp only; rw [if_neg (by omega)]
theorem signed_big {u:Nat} (h:¬ u <= 9223372036854775808):Lib.signed (.ok u) = .range:=by unfold Lib.signed; dsimp only; rw [if_pos (by omega)]
theorem readI_plain {l:List UInt8} (h:digsB l=true):readI l=if valD l < 9223372036854775808 then ((valD l:Int),0) else (0,27):=by
 unfold readI
 rw [dec_plain h,if_pos rfl]
 cases l with
 | nil=>cases h
 | cons c r =>
  have hd:=digs_head h
  rw [Lib.atoiAll_plain c r (by omega) (by omega),mag_val h]
  by_cases h1:valD (c :: r) < 9223372036854775808
  ·rw [if_pos h1,if_pos (by omega),signless_small h1]
  ·rw [if_neg h1]
   by_cases h2:valD (c :: r) < 18446744073709551616
   ·rw [if_pos h2,signless_big h1]
   ·rw [if_neg h2]; rfl
theorem readI_minus {r:List UInt8} (h:digsB r=true):readI (45 :: r)=if valD r <= 9223372036854775808 then (-(valD r:Int),0) else (0,27):=by
 unfold readI
 rw [dec_minus,h,if_pos rfl,Lib.atoiAll_minus,mag_val h]
 by_cases h1:valD r <= 9223372036854775808
 ·rw [if_pos h1,if_pos (by omega),signed_small h1]
 ·rw [if_neg h1]
  by_cases h2:valD r < 18446744073709551616
  ·rw [if_pos h2,signed_big h1]
  ·rw [if_neg h2]; rfl
theorem readI_bad {l:List UInt8} (h:decB l=false):readI l=(0,4):=by unfold readI; rw [h]; rfl
theorem readI_zero:readI [48]=(0,0):=by decide
end Go.Proofs.YtmmdaegdkikkpaaGreatDoor
end

section
set_option maxRecDepth 100000
namespace Go.Proofs.YtmmdaegdkikkpaaGreatDoor
open Go.RowKit Go.PlainAid
set_option maxHeartbeats 1000000 in
theorem plain_any (c:Int) (w:World) (h0:0 <= c) (h1:c <= 255) :
  Calls Tryz.prog 229 #[.int .u8 c] w fun e w'=>e = .returned (.bool (plainI c)) /\ w=w':=by
 cases a1:(c == 37)
 ·cases a2:(c == 124)
  ·cases a3:(c == 44)
   ·cases a4:(c == 61)
    ·cases a5:(c == 59)
     ·cases a6:(c == 34)
      ·by_cases b1:33 <= c
       ·by_cases b2:c <= 126
        ·have HE:=Lib.hid (show plainI c=true by unfold plainI; rw [a1,a2,a3,a4,a5,a6]; simp [b1,b2])
         have d2:decide (c <= 126)=true:=by simp [b2]
         go_enter Tryz.func229,Tryz.ntmps229
         go_wp2
         go_ret
         exact ⟨by rw [HE.out]; rfl,rfl⟩
        ·have HE:=Lib.hid (show plainI c=false by unfold plainI; simp [b2])
         have d2:decide (c <= 126)=false:=by simp [b2]
         go_enter Tryz.func229,Tryz.ntmps229
         go_wp2
         go_ret
         exact ⟨by rw [HE.out]; rfl,rfl⟩
       ·have HE:=Lib.hid (show plainI c=false by unfold plainI; simp [b1])
        go_enter Tryz.func229,Tryz.ntmps229
        go_wp2
        go_ret
        exact ⟨by rw [HE.out]; rfl,rfl⟩
      ·have HE:=Lib.hid (show plainI c=false by unfold plainI; rw [a6]; simp)
       go_enter Tryz.func229,Tryz.ntmps229
       go_wp2
       go_ret
       exact ⟨by rw [HE.out]; rfl,rfl⟩
     ·have HE:=Lib.hid (show plainI c=false by unfold plainI; rw [a5]; simp)
      go_enter Tryz.func229,Tryz.ntmps229
      go_wp2
      go_ret
      exact ⟨by rw [HE.out]; rfl,rfl⟩
    ·have HE:=Lib.hid (show plainI c=false by unfold plainI; rw [a4]; simp)
     go_enter Tryz.func229,Tryz.ntmps229
     go_wp2
     go_ret
     exact ⟨by rw [HE.out]; rfl,rfl⟩
   ·have HE:=Lib.hid (show plainI c=false by unfold plainI; rw [a3]; simp)
    go_enter Tryz.func229,Tryz.ntmps229
    go_wp2
    go_ret
    exact ⟨by rw [HE.out]; rfl,rfl⟩
  ·have HE:=Lib.hid (show plainI c=false by unfold plainI; rw [a2]; simp)
   go_enter Tryz.func229,Tryz.ntmps229
   go_wp2
   go_ret
   exact ⟨by rw [HE.out]; rfl,rfl⟩
 ·have HE:=Lib.hid (show plainI c=false by unfold plainI; rw [a1]; simp)
  go_enter Tryz.func229,Tryz.ntmps229
  go_wp2
  go_ret
  exact ⟨by rw [HE.out]; rfl,rfl⟩
set_option maxRecDepth 100000 in
set_option maxHeartbeats 2000000 in
theorem escape_any (s:ByteArray) (w:World) (hs:s.size <= 1000000000) :
  Calls Tryz.prog 160 #[.string s] w fun e w'=>e = .returned (.string ⟨(escL s.data.toList).toArray⟩) /\ Below w.heap.size w w':=by
 have hb:=get_bt s
 have hx:=get_bt (⟨#[48,49,50,51,52,53,54,55,56,57,65,66,67,68,69,70]⟩:ByteArray)
 have HN:=Lib.hid (bld_new w)
 go_enter Tryz.func160,Tryz.ntmps160
 go_wp2
 go_loopw [7] (fun i wr=>∃ k:Nat,k <= s.size /\ i = .int .i64 k /\ Bld w.heap.size w.heap.size (escL (s.data.toList.take k)) wr /\ Below w.heap.size w wr /\ w.heap.size < wr.heap.size)
  (fun i _=>s.size - (intOf i).toNat)
 case atStart=>exact ⟨0,Nat.zero_le _,rfl,HN.out,(Below.refl _ _).alloc (Nat.le_refl _) _,by simp⟩
 case round =>
  obtain ⟨k,hk,rfl,HB,hbel,hsz⟩:=hrel
  have h0:=bt_nonneg s k
  have h255:=bt_le s k
  have hl3:=escL_length (s.data.toList.take k)
  have hl4:(s.data.toList.take k).length <= k:=List.length_take_le _ _
  have HC:=Lib.hid (bt_chr s k)
  by_cases hlt:k < s.size
  ·have HST:=Lib.hid (esc_step s k hlt)
   have HP:=Lib.hid (plain_chr s k)
   cases c1:plainI (bt s k)
   ·have HST2:=Lib.hid (show escL (s.data.toList.take (k + 1))=((escL (s.data.toList.take k) ++ [37]) ++ [hexC ((chr s k).toNat / 16)]) ++ [hexC ((chr s k).toNat % 16)] by
     rw [HST.out,escC_other _ (by rw [HP.out,c1])]; simp)
    go_wp2_with (go_at_call 229; refine (plain_any _ _ h0 h255).mono ?_; rintro e w' ⟨rfl,rfl⟩)
    refine (writeByte_s w.heap.size w.heap.size _ 37 37 _ HB rfl (by omega) hbel.size).mono ?_
    rintro e w1 ⟨rfl,HB1,hb1⟩
    go_wp2_with fail
    refine (writeByte_s w.heap.size w.heap.size _ (hexC ((chr s k).toNat / 16)) _ _ HB1 (hex_hi _ _ HC.out) (by simp; omega) (Nat.le_trans hbel.size hb1.size)).mono ?_
    rintro e w2 ⟨rfl,HB2,hb2⟩
    go_wp2_with fail
    refine (writeByte_s w.heap.size w.heap.size _ (hexC ((chr s k).toNat % 16)) _ _ HB2 (hex_lo _ _ HC.out) (by simp; omega) (Nat.le_trans hbel.size (Nat.le_trans hb1.size hb2.size))).mono ?_
    rintro e w3 ⟨rfl,HB3,hb3⟩
    have hbel3:=hbel.trans (hb1.trans (hb2.trans hb3))
    go_wp2
    go_roundw
    case rel=>exact ⟨k + 1,by omega,by go_num,by rw [HST2.out]; exact HB3,hbel3,Nat.lt_of_lt_of_le hsz (Nat.le_trans hb1.size (Nat.le_trans hb2.size hb3.size))⟩
    case measure=>simp [intOf]; omega
   ·have HST2:=Lib.hid (show escL (s.data.toList.take (k + 1))=escL (s.data.toList.take k) ++ [chr s k] by
     rw [HST.out,escC_plain _ (by rw [HP.out,c1])])
    go_wp2_with (go_at_call 229; refine (plain_any _ _ h0 h255).mono ?_; rintro e w' ⟨rfl,rfl⟩)
    refine (writeByte_s w.heap.size w.heap.size _ (chr s k) _ _ HB HC.out (by omega) hbel.size).mono ?_
    rintro e w1 ⟨rfl,HB1,hb1⟩
    go_wp2
    go_roundw
    case rel=>exact ⟨k + 1,by omega,by go_num,by rw [HST2.out]; exact HB1,hbel.trans hb1,Nat.lt_of_lt_of_le hsz hb1.size⟩
    case measure=>simp [intOf]; omega
  ·have HT:=Lib.hid (show s.data.toList.take k=s.data.toList by rw [List.take_of_length_le]; simp; omega)
   rw [HT.out] at HB
   go_wp2_with (go_at_call 59; refine (string_s w.heap.size w.heap.size _ _ HB hbel.size).mono ?_; rintro e w1 ⟨rfl,hb1⟩)
   go_ret
   exact ⟨rfl,hbel.trans hb1⟩
theorem all_get {t:ByteArray} (h:t.data.toList.all digB=true) (j:Nat) (hj:j < t.size):48 <= bt t j /\ bt t j <= 57:=by
 have hm:chr t j ∈ t.data.toList:=by
  unfold chr
  rw [List.getD_eq_getElem?_getD,List.getElem?_eq_getElem (by simpa using hj)]
  exact List.getElem_mem _
 have:=digB_bounds (List.all_eq_true.1 h _ hm)
 rw [bt_chr]; omega
theorem get_all {t:ByteArray} (h:∀ j,j < t.size -> digB (chr t j)=true):t.data.toList.all digB=true:=by
 rw [List.all_eq_true]
 intro c hc
 obtain ⟨j,hj,rfl⟩:=List.getElem_of_mem hc
 have:=h j (by simpa using hj)
 unfold chr at this
 rw [List.getD_eq_getElem?_getD,List.getElem?_eq_getElem hj] at this
 exact this
theorem all_bad {t:ByteArray} (j:Nat) (h:j < t.size) (hd:digB (chr t j)=false):t.data.toList.all digB=false:=by
 rw [List.all_eq_false]
 refine ⟨chr t j, ?_,by rw [hd]; simp⟩
 unfold chr
 rw [List.getD_eq_getElem?_getD,List.getElem?_eq_getElem (by simpa using h)]
 exact List.getElem_mem _
theorem digs_other {t:ByteArray} (h0:t.size ≠ 0) (h1:chr t 0 ≠ 48):digsB t.data.toList=t.data.toList.all digB:=by
 unfold chr at h1
 cases e:t.data.toList with
 | nil=>exact absurd (show t.size=0 by rw [Lib.size_eq,e]; rfl) h0
 | cons c r =>
  rw [e] at h1
  unfold digsB
  have:(c == 48)=false:=by simpa using h1
  dsimp only
  rw [this]; rfl
set_option maxRecDepth 100000 in
set_option maxHeartbeats 4000000 in
theorem rdecimal_s (t:ByteArray) (z r:Bool) (w:World) (hs:t.size <= 1000000000) (hr:(digsB t.data.toList || (z && decide (t.data.toList = [48])))=r) :
  Calls Tryz.prog 300 #[.string t, .bool z] w fun e w'=>e = .returned (.bool r) /\ w=w':=by
 have HR:=Lib.hid hr; clear hr
 have hb:=get_bt t
 by_cases h0:t.size=0
 ·have HF:=Lib.hid (show r=false by
   rw [<- HR.out,List.length_eq_zero_iff.1 (show t.data.toList.length=0 by rw [<- Lib.size_eq]; exact h0)]; cases z <;> rfl)
  have e0:((t.size:Int) == 0)=true:=beq_iff_eq.2 (by omega)
  go_enter Tryz.func300,Tryz.ntmps300
  go_wp2
  go_ret
  exact ⟨by rw [HF.out]; rfl,rfl⟩
 ·have hpos:0 < t.size:=by omega
  have e0:((t.size:Int) == 0)=false:=beq_false_of_ne (by omega)
  have h00:=bt_nonneg t 0
  have hone:t.data.toList = [48] ↔ chr t 0=48 /\ t.size=1:=by
   rw [Lib.size_eq]; unfold chr
   cases e:t.data.toList with
   | nil=>simp
   | cons c l=>cases l <;> simp
  by_cases hg:chr t 0=48 /\ (1 < t.size ∨ z=false)
  ·have h3:(bt t 0 == 48)=true:=by rw [bt_chr,hg.1]; rfl
   have HF:=Lib.hid (show r=false by
    rw [<- HR.out,digs_zero hg.1,Bool.false_or]
    rcases hg.2 with k | k
    ·rw [decide_eq_false (fun e=>by have:=(hone.1 e).2; omega),Bool.and_false]
    ·rw [k]; rfl)
   rcases hg.2 with k | rfl
   ·have g1:(1:Int) < (t.size:Int):=by omega
    clear hg hone
    go_enter Tryz.func300,Tryz.ntmps300
    go_wp2
    go_ret
    exact ⟨by rw [HF.out]; rfl,rfl⟩
   ·clear hg hone
    by_cases k:1 < t.size
    ·have g1:(1:Int) < (t.size:Int):=by omega
     go_enter Tryz.func300,Tryz.ntmps300
     go_wp2
     go_ret
     exact ⟨by rw [HF.out]; rfl,rfl⟩
    ·have g1:¬ (1:Int) < (t.size:Int):=by omega
     go_enter Tryz.func300,Tryz.ntmps300
     go_wp2
     go_ret
     exact ⟨by rw [HF.out]; rfl,rfl⟩
  ·have HE:Hid (r=t.data.toList.all digB):=Lib.hid (by
    rw [<- HR.out]
    by_cases k:chr t 0=48
    ·have k1:t.size=1:=by
      rcases Nat.lt_or_ge 1 t.size with x | x
      ·exact absurd ⟨k, .inl x⟩ hg
      ·omega
     have k2:z=true:=by
      cases z
      ·exact absurd ⟨k, .inr rfl⟩ hg
      ·rfl
     rw [k2,hone.2 ⟨k,k1⟩]; decide
    ·rw [digs_other (by omega) k,decide_eq_false (fun e=>k (hone.1 e).1),Bool.and_false,Bool.or_false])
   rcases (show (bt t 0 == 48)=false ∨ ((bt t 0 == 48)=true /\ ¬ (1:Int) < (t.size:Int) /\ z=true) by
    by_cases k:chr t 0=48
    ·refine .inr ⟨by rw [bt_chr,k]; rfl, ?_, ?_⟩
     ·intro x; exact hg ⟨k, .inl (by omega)⟩
     ·cases z
      ·exact absurd ⟨k, .inr rfl⟩ hg
      ·rfl
    ·refine .inl (beq_false_of_ne fun e=>k ?_)
     rw [bt_chr] at e
     have h4:(48:UInt8).toNat=48:=rfl
     exact UInt8.toNat_inj.1 (by omega)) with h3 | ⟨h3,g1,rfl⟩
   all_goals
    clear hg hone
    go_enter Tryz.func300,Tryz.ntmps300
    go_wp2
    go_loop [5] (fun i=>∃ k:Nat,k <= t.size /\ i = .int .i64 k /\ Hid (∀ j,j < k -> digB (chr t j)=true)) (fun i=>t.size - (intOf i).toNat)
    case atStart=>exact ⟨0,Nat.zero_le _,rfl,Lib.hid fun j hj=>absurd hj (Nat.not_lt_zero _)⟩
    case round =>
     obtain ⟨k,hk,rfl,HA⟩:=hrel
     by_cases hlt:k < t.size
     ·have hk0:=bt_nonneg t k
      by_cases d1:48 <= bt t k
      ·by_cases d2:bt t k <= 57
       ·have HD:=Lib.hid (show digB (chr t k)=true by
         have:=bt_chr t k
         unfold digB; simp; omega)
        go_wp2
        go_round
        case rel=>exact ⟨k + 1,by omega,by go_num,Lib.hid fun j hj=>if e:j=k then by rw [e]; exact HD.out else HA.out j (by omega)⟩
        case measure=>simp [intOf]; omega
       ·have HF:=Lib.hid (show r=false by
         rw [HE.out]; refine all_bad k hlt ?_
         have:=bt_chr t k
         unfold digB; simp; omega)
        have d3:57 < bt t k:=by omega
        go_wp2
        go_ret
        exact ⟨by rw [HF.out]; rfl,rfl⟩
      ·have HF:=Lib.hid (show r=false by
        rw [HE.out]; refine all_bad k hlt ?_
        have:=bt_chr t k
        unfold digB; simp; omega)
       have d3:bt t k < 48:=by omega
       go_wp2
       go_ret
       exact ⟨by rw [HF.out]; rfl,rfl⟩
     ·have HF:=Lib.hid (show r=true by
       rw [HE.out]; exact get_all fun j hj=>HA.out j (by omega))
      go_wp2
      go_ret
      exact ⟨by rw [HF.out]; rfl,rfl⟩
theorem val_step (t:ByteArray) (k:Nat) (h:k < t.size):valD (t.data.toList.take (k + 1))=10 * valD (t.data.toList.take k) + ((chr t k).toNat - 48):=by
 have e:t.data.toList.take (k + 1)=t.data.toList.take k ++ [chr t k]:=by
  unfold chr
  rw [List.take_add_one,List.getD_eq_getElem?_getD,List.getElem?_eq_getElem (by simpa using h)]; rfl
 rw [e,valD_snoc]
theorem quo_fact (d:Int) (h0:0 <= d) (h1:d <= 9):(-9223372036854775808 + d).tdiv 10 = -((9223372036854775808 - d) / 10):=by
 rw [show (-9223372036854775808 + d) = -(9223372036854775808 - d) by omega,Int.neg_tdiv,Int.tdiv_eq_ediv_of_nonneg (by omega)]
set_option maxRecDepth 100000 in
set_option maxHeartbeats 8000000 in
theorem rreadInt_s (s:ByteArray) (w:World) (hs:s.size <= 1000000000) :
  Calls Tryz.prog 284 #[.string s] w fun e w'=>e = .returned (.tuple #[.int .i64 (readI s.data.toList).1, .int .i64 (readI s.data.toList).2]) /\ w=w':=by
 have hbs:=get_bt s
 by_cases h0:s.size=0
 ·have HE:=Lib.hid (show readI s.data.toList=(0,4) by
   rw [List.length_eq_zero_iff.1 (show s.data.toList.length=0 by rw [<- Lib.size_eq]; exact h0)]; decide)
  have hn:s.data.toList = []:=List.length_eq_zero_iff.1 (show s.data.toList.length=0 by rw [<- Lib.size_eq]; exact h0)
  have e0:¬ (0:Int) < (s.size:Int):=by omega
  have HN:=Lib.hid hn; clear hn
  go_enter Tryz.func284,Tryz.ntmps284
  go_wp2_with fail
  refine (rdecimal_s s true false _ hs (by rw [HN.out]; rfl)).mono ?_
  rintro e w' ⟨rfl,rfl⟩
  go_wp2
  go_ret2
  exact ⟨by rw [HE.out]; rfl,rfl⟩
 ·have hpos:0 < s.size:=by omega
  have e0:(0:Int) < (s.size:Int):=by omega
  have h00:=bt_nonneg s 0
  by_cases h2:chr s 0=45
  ·have h3:(bt s 0 == 45)=true:=by rw [bt_chr,h2]; rfl
   obtain ⟨t,ht⟩:∃ t,t=s.extract 1 s.size:=⟨_,rfl⟩
   have hdt:s.data.toList=45 :: t.data.toList:=by
    have:=drop_chr s 0 hpos
    rw [List.drop_zero,h2] at this
    rw [this,ht,Lib.extract_from]
   have hts:t.size + 1=s.size:=by rw [Lib.size_eq s,hdt,List.length_cons, <- Lib.size_eq]
   have HD:=Lib.hid hdt; clear hdt h2
   cases hd:digsB t.data.toList
   ·have HE:=Lib.hid (show readI s.data.toList=(0,4) by rw [HD.out]; exact readI_bad (by rw [dec_minus,hd]))
    go_enter Tryz.func284,Tryz.ntmps284
    go_wp2_with fail
    rw [<- ht]
    refine (rdecimal_s t false false _ (by omega) (by rw [hd]; rfl)).mono ?_
    rintro e w' ⟨rfl,rfl⟩
    go_wp2
    go_ret2
    exact ⟨by rw [HE.out]; rfl,rfl⟩
   ·have HE:=Lib.hid (show readI s.data.toList=if valD t.data.toList <= 9223372036854775808 then (-(valD t.data.toList:Int),0) else (0,27) by rw [HD.out]; exact readI_minus hd)
    have HA:=Lib.hid (digs_parts hd).2
    have HDT:=Lib.hid hd
    have hb:=get_bt t
    go_enter Tryz.func284,Tryz.ntmps284
    go_wp2_with fail
    rw [<- ht]
    refine (rdecimal_s t false true _ (by omega) (by rw [HDT.out]; rfl)).mono ?_
    rintro e w' ⟨rfl,rfl⟩
    clear ht hd
    go_wp2_with fail
    go_loop [7,8] (fun n i=>∃ k m:Nat,k <= t.size /\ i = .int .i64 k /\ n = .int .i64 (-(m:Int)) /\ m <= 9223372036854775808 /\ Hid (valD (t.data.toList.take k)=m)) (fun _ i=>t.size - (intOf i).toNat)
    case atStart=>exact ⟨0,0,Nat.zero_le _,rfl,rfl,by omega,Lib.hid rfl⟩
    case round =>
     obtain ⟨k,m,hk,rfl,rfl,hm,HV⟩:=hrel
     by_cases hlt:k < t.size
     ·obtain ⟨d1,d2⟩:=all_get HA.out k hlt
      have HC:=Lib.hid (bt_chr t k)
      have HS:=Lib.hid (val_step t k hlt)
      have hq:=quo_fact (bt t k - 48) (by omega) (by omega)
      by_cases hr:10 * (m:Int) + (bt t k - 48) <= 9223372036854775808
      ·have hn:¬ (-(m:Int)) < -((9223372036854775808 - (bt t k - 48)) / 10):=by omega
       go_wp2
       go_round
       case rel=>exact ⟨k + 1,10 * m + ((chr t k).toNat - 48),by omega,by go_num,by congr 1; have:=HC.out; omega,by have:=HC.out; omega,Lib.hid (by rw [HS.out,HV.out])⟩
       case measure=>simp [intOf]; omega
      ·have hn:(-(m:Int)) < -((9223372036854775808 - (bt t k - 48)) / 10):=by omega
       have HF:=Lib.hid (show readI s.data.toList=(0,27) by
        have h1:=valD_take_le t.data.toList (k + 1)
        rw [HS.out,HV.out] at h1
        rw [HE.out,if_neg]
        have:=HC.out; omega)
       go_wp2
       go_ret2
       exact ⟨by rw [HF.out]; rfl,rfl⟩
     ·have HF:=Lib.hid (show readI s.data.toList=(-(m:Int),0) by
       have hT:t.data.toList.take k=t.data.toList:=List.take_of_length_le (by rw [<- Lib.size_eq]; omega)
       have h1:=HV.out
       rw [hT] at h1
       rw [HE.out,h1,if_pos hm])
      go_wp2
      go_ret2
      exact ⟨by rw [HF.out]; rfl,rfl⟩
  ·have h3:(bt s 0 == 45)=false:=by
    refine beq_false_of_ne fun e=>h2 ?_
    rw [bt_chr] at e
    have h4:(45:UInt8).toNat=45:=rfl
    exact UInt8.toNat_inj.1 (by omega)
   have hdec:decB s.data.toList=(digsB s.data.toList || (true && decide (s.data.toList = [48]))):=by
    have hst:stripL s.data.toList=s.data.toList:=by
     have:=drop_chr s 0 hpos
     rw [List.drop_zero] at this
     rw [this]
     exact strip_plain _ _ h2
    unfold decB
    rw [hst,Bool.true_and,Bool.or_comm]
   clear h2
   have HDE:=Lib.hid hdec
   cases hd:decB s.data.toList
   ·have HE:=Lib.hid (show readI s.data.toList=(0,4) from readI_bad hd)
    have HK:=Lib.hid (hdec.symm.trans hd)
    clear hd hdec
    go_enter Tryz.func284,Tryz.ntmps284
    go_wp2_with fail
    refine (rdecimal_s s true false _ hs HK.out).mono ?_
    rintro e w' ⟨rfl,rfl⟩
    go_wp2
    go_ret2
    exact ⟨by rw [HE.out]; rfl,rfl⟩
   ·have hd2:digsB s.data.toList=true ∨ s.data.toList = [48]:=by
     rw [hd] at hdec
     have:=hdec.symm
     rw [Bool.or_eq_true,Bool.true_and,decide_eq_true_iff] at this
     exact this
    have HE:=Lib.hid (show readI s.data.toList=if valD s.data.toList < 9223372036854775808 then ((valD s.data.toList:Int),0) else (0,27) by
     rcases hd2 with k | k
     ·exact readI_plain k
     ·rw [k]; decide)
    have HA:=Lib.hid (show s.data.toList.all digB=true by
     rcases hd2 with k | k
     ·exact (digs_parts k).2
     ·rw [k]; decide)
    have HK:=Lib.hid (hdec.symm.trans hd)
    clear hd hdec hd2
    go_enter Tryz.func284,Tryz.ntmps284
    go_wp2_with fail
    refine (rdecimal_s s true true _ hs HK.out).mono ?_
    rintro e w' ⟨rfl,rfl⟩
    go_wp2_with fail
    go_loop [7,8] (fun n i=>∃ k m:Nat,k <= s.size /\ i = .int .i64 k /\ n = .int .i64 (-(m:Int)) /\ m <= 9223372036854775808 /\ Hid (valD (s.data.toList.take k)=m)) (fun _ i=>s.size - (intOf i).toNat)
    case atStart=>exact ⟨0,0,Nat.zero_le _,rfl,rfl,by omega,Lib.hid rfl⟩
    case round =>
     obtain ⟨k,m,hk,rfl,rfl,hm,HV⟩:=hrel
     by_cases hlt:k < s.size
     ·obtain ⟨d1,d2⟩:=all_get HA.out k hlt
      have HC:=Lib.hid (bt_chr s k)
      have HS:=Lib.hid (val_step s k hlt)
      have hq:=quo_fact (bt s k - 48) (by omega) (by omega)
      by_cases hr:10 * (m:Int) + (bt s k - 48) <= 9223372036854775808
      ·have hn:¬ (-(m:Int)) < -((9223372036854775808 - (bt s k - 48)) / 10):=by omega
       go_wp2
       go_round
       case rel=>exact ⟨k + 1,10 * m + ((chr s k).toNat - 48),by omega,by go_num,by congr 1; have:=HC.out; omega,by have:=HC.out; omega,Lib.hid (by rw [HS.out,HV.out])⟩
       case measure=>simp [intOf]; omega
      ·have hn:(-(m:Int)) < -((9223372036854775808 - (bt s k - 48)) / 10):=by omega
       have HF:=Lib.hid (show readI s.data.toList=(0,27) by
        have h1:=valD_take_le s.data.toList (k + 1)
        rw [HS.out,HV.out] at h1
        rw [HE.out,if_neg]
        have:=HC.out; omega)
       go_wp2
       go_ret2
       exact ⟨by rw [HF.out]; rfl,rfl⟩
     ·have hT:s.data.toList.take k=s.data.toList:=List.take_of_length_le (by rw [<- Lib.size_eq]; omega)
      have h1:=HV.out
      rw [hT] at h1
      have H1:=Lib.hid h1
      clear h1 hT
      by_cases hm2:m=9223372036854775808
      ·have HF:=Lib.hid (show readI s.data.toList=(0,27) by rw [HE.out,H1.out,if_neg (by omega)])
       have hl:((-(m:Int)) == -9223372036854775808)=true:=beq_iff_eq.2 (by omega)
       go_wp2
       go_ret2
       exact ⟨by rw [HF.out]; rfl,rfl⟩
      ·have HF:=Lib.hid (show readI s.data.toList=((m:Int),0) by rw [HE.out,H1.out,if_pos (by omega)])
       have hl:((-(m:Int)) == -9223372036854775808)=false:=beq_false_of_ne (by omega)
       go_wp2
       go_ret2
       exact ⟨by rw [HF.out]; rfl,rfl⟩
def IntAt (u0 u:Nat) (o:List UInt8):Prop:=(u=0 /\ o=Lib.decDigits u0) ∨ (1 <= u /\ Lib.decDigits u ++ o=Lib.decDigits u0)
theorem intAt_start (u0:Nat) (h:1 <= u0):IntAt u0 u0 [] := .inr ⟨h,by simp⟩
theorem intAt_step {u0 u:Nat} {o:List UInt8} (h:IntAt u0 u o) (h1:1 <= u):IntAt u0 (u / 10) (UInt8.ofNat (48 + u % 10) :: o):=by
 rcases h with ⟨h2,_⟩ | ⟨_,h2⟩
 ·omega
 ·by_cases h3:u < 10
  ·rw [Lib.decDigits,dif_pos h3] at h2
   refine .inl ⟨by omega, ?_⟩
   rw [show u % 10=u by omega]; exact h2
  ·rw [Lib.decDigits,dif_neg h3] at h2
   refine .inr ⟨by omega, ?_⟩
   rw [<- h2,List.append_assoc]; rfl
theorem intAt_end {u0:Nat} {o:List UInt8} (h:IntAt u0 0 o):o=Lib.decDigits u0:=by
 rcases h with ⟨_,h⟩ | ⟨h,_⟩
 ·exact h
 ·omega
theorem intAt_len {u0 u:Nat} {o:List UInt8} (h:IntAt u0 u o) (hu:u0 < 18446744073709551616):o.length <= 20:=by
 have h2:=Lib.nDigits_le20 u0 hu
 rw [<- Lib.decDigits_length] at h2
 rcases h with ⟨_,h⟩ | ⟨_,h⟩
 ·rw [h]; exact h2
 ·have:=congrArg List.length h
  rw [List.length_append] at this
  omega
theorem one_back (wr:World) (b:UInt8) (c:Int) (hc:c=(b.toNat:Int)) :
  (convert 77 9 (.slice (some ⟨wr.heap.size,0,none⟩) 1 1)).run Tryz.prog (wr.alloc (.cells #[.int .u8 c] 5)) = .ok (.string ⟨#[b]⟩) (wr.alloc (.cells #[.int .u8 c] 5)):=by
 subst hc
 exact run_convert_bytes_back (wr.alloc (.cells #[.int .u8 (b.toNat:Int)] 5)) _ _ _ ⟨wr.heap.size,0,none⟩ 1 [b] Tryz.underlying77 Tryz.underlying5 Tryz.underlying9
  (fun j hj=>by
   have hj0:j=0:=by simp at hj; omega
   subst hj0
   exact cell_one_new wr _ _ 0 _ rfl)
theorem neg_rem (u:Nat):(-(u:Int)).tmod 10 = -((u % 10:Nat):Int):=by rw [Int.neg_tmod,Int.tmod_eq_emod_of_nonneg (by omega)]; omega
theorem neg_quo (u:Nat):(-(u:Int)).tdiv 10 = -((u / 10:Nat):Int):=by rw [Int.neg_tdiv,Int.tdiv_eq_ediv_of_nonneg (by omega)]; omega
set_option maxRecDepth 100000 in
set_option maxHeartbeats 4000000 in
theorem rint_s (n:Int) (w:World) (h0 : -9223372036854775808 <= n) (h1:n <= 9223372036854775807) :
  Calls Tryz.prog 262 #[.int .i64 n] w fun e w'=>e = .returned (.string (ofL (Lib.itoa n))) /\ Below w.heap.size w w':=by
 by_cases hz:n=0
 ·subst hz
  have HE:=Lib.hid (show Lib.itoa 0 = [48] by rw [show (0:Int)=((0:Nat):Int) from rfl,Lib.itoa_nonneg,Lib.decDigits,dif_pos (by omega)]; rfl)
  go_enter Tryz.func262,Tryz.ntmps262
  go_wp2
  go_ret
  exact ⟨by rw [HE.out]; rfl,Below.refl _ _⟩
 ·by_cases hn:n < 0
  ·obtain ⟨u0,rfl⟩:∃ u:Nat,n = -(u:Int):=⟨n.natAbs,by omega⟩
   have HE:=Lib.hid (Lib.itoa_neg u0 (by omega))
   have hne:((-(u0:Int)) == 0)=false:=beq_false_of_ne hz
   have hu0:u0 < 18446744073709551616:=by omega
   have hu1:u0 <= 9223372036854775808:=by omega
   go_enter Tryz.func262,Tryz.ntmps262
   go_wp2_with fail
   go_loopw [3,4] (fun o m wr=>∃ (u:Nat) (l:List UInt8),u <= u0 /\ m = .int .i64 (-(u:Int)) /\ o = .string (ofL l) /\ Hid (IntAt u0 u l) /\ (ofL l).size <= 20 /\ Below w.heap.size w wr) (fun _ m _=>(intOf m).natAbs)
   case atStart=>exact ⟨u0,[],Nat.le_refl _,rfl,rfl,Lib.hid (intAt_start u0 (by omega)),Nat.zero_le _,Below.refl _ _⟩
   case round =>
    obtain ⟨u,l,hu,rfl,rfl,HI,hl,hbel⟩:=hrel
    by_cases hu2:u=0
    ·subst hu2
     have HF:=Lib.hid (intAt_end HI.out)
     have hm:((-((0:Nat):Int)) != 0)=false:=rfl
     go_wp2
     go_ret
     exact ⟨by rw [HE.out,HF.out]; rfl,hbel⟩
    ·have hm:((-(u:Int)) != 0)=true:=by simp; omega
     have HS:=Lib.hid (intAt_step HI.out (by omega))
     have HL:=Lib.hid (intAt_len HS.out hu0)
     obtain ⟨d,hd⟩:∃ d,d=u % 10:=⟨_,rfl⟩
     obtain ⟨q,hq⟩:∃ q,q=u / 10:=⟨_,rfl⟩
     have r1:=neg_rem u
     have r2:=neg_quo u
     rw [<- hd] at r1
     rw [<- hq] at r2
     have hd9:d <= 9:=by omega
     have hqu:q < u:=by omega
     have HD:=Lib.hid (show (⟨#[UInt8.ofNat (48 + d)]⟩:ByteArray) ++ ofL l=ofL (UInt8.ofNat (48 + u % 10) :: l) by
      rw [<- hd]; apply ByteArray.ext; rw [ByteArray.data_append]; simp [ofL])
     have HQ:=Lib.hid hq
     clear hq
     by_cases hd0:d=0
     ·have hneg:¬ (-(d:Int)) < 0:=by omega
      have hdz:(d:Int)=0:=by omega
      rw [hdz] at r1
      have hbk:=one_back wr 48 48 rfl
      have HD0:=Lib.hid (show (⟨#[48]⟩:ByteArray) ++ ofL l=ofL (UInt8.ofNat (48 + u % 10) :: l) by rw [<- HD.out,hd0]; rfl)
      clear hd hd0 hdz hneg
      go_wp2
      go_roundw
      case rel=>exact ⟨q,UInt8.ofNat (48 + u % 10) :: l,by omega,rfl,by rw [HD0.out],Lib.hid (by rw [HQ.out]; exact HS.out),HL.out,hbel.alloc hbel.size _⟩
      case measure=>simp [intOf]; omega
     ·have hneg:(-(d:Int)) < 0:=by omega
      have hw:IntKind.u8.wrap (48 + (d:Int))=48 + (d:Int):=IntWalk.u8_in _ (by omega)
      obtain ⟨c,hc⟩:∃ c,c=UInt8.ofNat (48 + d):=⟨_,rfl⟩
      rw [<- hc] at HD
      have hbk:=one_back wr c (48 + (d:Int)) (by rw [hc,UInt8.toNat_ofNat']; omega)
      clear hd hd0 hc
      go_wp2
      go_roundw
      case rel=>exact ⟨q,UInt8.ofNat (48 + u % 10) :: l,by omega,rfl,by rw [HD.out],Lib.hid (by rw [HQ.out]; exact HS.out),HL.out,hbel.alloc hbel.size _⟩
      case measure=>simp [intOf]; omega
  ·obtain ⟨u0,rfl⟩:∃ u:Nat,n=(u:Int):=⟨n.toNat,by omega⟩
   have HE:=Lib.hid (Lib.itoa_nonneg u0)
   have hne:((u0:Int) == 0)=false:=beq_false_of_ne hz
   have hu0:u0 < 18446744073709551616:=by omega
   have hu1:u0 <= 9223372036854775807:=by omega
   go_enter Tryz.func262,Tryz.ntmps262
   go_wp2_with fail
   go_loopw [3,4] (fun o m wr=>∃ (u:Nat) (l:List UInt8),u <= u0 /\ m = .int .i64 (u:Int) /\ o = .string (ofL l) /\ Hid (IntAt u0 u l) /\ (ofL l).size <= 20 /\ Below w.heap.size w wr) (fun _ m _=>(intOf m).natAbs)
   case atStart=>exact ⟨u0,[],Nat.le_refl _,rfl,rfl,Lib.hid (intAt_start u0 (by omega)),Nat.zero_le _,Below.refl _ _⟩
   case round =>
    obtain ⟨u,l,hu,rfl,rfl,HI,hl,hbel⟩:=hrel
    by_cases hu2:u=0
    ·subst hu2
     have HF:=Lib.hid (intAt_end HI.out)
     have hm:((((0:Nat):Int)) != 0)=false:=rfl
     go_wp2
     go_ret
     exact ⟨by rw [HE.out,HF.out]; rfl,hbel⟩
    ·have hm:((u:Int) != 0)=true:=by simp; omega
     have HS:=Lib.hid (intAt_step HI.out (by omega))
     have HL:=Lib.hid (intAt_len HS.out hu0)
     obtain ⟨d,hd⟩:∃ d,d=u % 10:=⟨_,rfl⟩
     obtain ⟨q,hq⟩:∃ q,q=u / 10:=⟨_,rfl⟩
     have r1:(u:Int).tmod 10=(d:Int):=by rw [Int.tmod_eq_emod_of_nonneg (by omega)]; omega
     have r2:(u:Int).tdiv 10=(q:Int):=by rw [Int.tdiv_eq_ediv_of_nonneg (by omega)]; omega
     have hd9:d <= 9:=by omega
     have hqu:q < u:=by omega
     have HD:=Lib.hid (show (⟨#[UInt8.ofNat (48 + d)]⟩:ByteArray) ++ ofL l=ofL (UInt8.ofNat (48 + u % 10) :: l) by
      rw [<- hd]; apply ByteArray.ext; rw [ByteArray.data_append]; simp [ofL])
     have HQ:=Lib.hid hq
     clear hq
     have hneg:¬ (d:Int) < 0:=by omega
     have hw:IntKind.u8.wrap (48 + (d:Int))=48 + (d:Int):=IntWalk.u8_in _ (by omega)
     obtain ⟨c,hc⟩:∃ c,c=UInt8.ofNat (48 + d):=⟨_,rfl⟩
     rw [<- hc] at HD
     have hbk:=one_back wr c (48 + (d:Int)) (by rw [hc,UInt8.toNat_ofNat']; omega)
     clear hd hc
     go_wp2
     go_roundw
     case rel=>exact ⟨q,UInt8.ofNat (48 + u % 10) :: l,by omega,rfl,by rw [HD.out],Lib.hid (by rw [HQ.out]; exact HS.out),HL.out,hbel.alloc hbel.size _⟩
     case measure=>simp [intOf]; omega
end Go.Proofs.YtmmdaegdkikkpaaGreatDoor
end
