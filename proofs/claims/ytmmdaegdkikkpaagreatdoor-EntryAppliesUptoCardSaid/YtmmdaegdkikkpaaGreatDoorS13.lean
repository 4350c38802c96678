/-
  Texts of the schema layer and of those beneath it, joined: AttP7, AttP8, AttP9, AttG1, AttG5, AttG6, AttG7, SchG, SchTab. Conditions stand at each contract.
-/
import Derived.Test.YtmmdaegdkikkpaaGreatDoorS12
set_option linter.unusedVariables false
set_option linter.unusedSimpArgs false
set_option linter.unnecessarySimpa false

section
set_option maxRecDepth 100000
namespace Go.Proofs.YtmmdaegdkikkpaaGreatDoor
open Go.RowKit Go.PlainAid Go.Maps Go.ChangeMaps Go.Sort
structure BMap (w:World) (b n:Nat) (D:DataW Unit) (f:ByteArray -> Bool):Prop where
 map:w.ownsMap Tryz.prog 9 (plainElem Tryz.prog 4) b n D
 reads:∀ k:ByteArray,D.atKey (klit k) (.lit (.bool false)) = .lit (.bool (f k))
theorem BMap.of {w:World} {b n:Nat} {D:DataW Unit} {ks:List ByteArray} (h:SetM w b n D ks):BMap w b n D (memB ks):=⟨h.map,h.reads⟩
theorem BMap.look {w:World} {b n:Nat} {D:DataW Unit} {f:ByteArray -> Bool} (G:BMap w b n D f) (k:ByteArray) (hk:k.size <= maxLen) :
  (Instr.lookup 150 (.map (some b)) (.string k) false).run Tryz.prog w = .ok (.bool (f k)) w:=by
 obtain ⟨v,ps,hrun,hv⟩:=G.map.lookup (t:=150) (e:=4) (string_keyed Tryz.underlying9) Tryz.underlying150 (z := .bool false) (Tryz.zeroValue4 _) (plainElem_bool Tryz.underlying4 false) (klit_key k hk)
 rw [G.reads k] at hv
 have hv':v = .bool (f k):=plain_bool Tryz.underlying4 hv
 rw [hrun,hv']
theorem BMap.kept {w w':World} {b n:Nat} {D:DataW Unit} {f:ByteArray -> Bool} {row:Option Nat} (G:BMap w b n D f) (hg:w.grownBy w' row) (hne:some b ≠ row):BMap w' b n D f:=⟨G.map.kept hg hne,G.reads⟩
theorem BMap.below {w w':World} {b n:Nat} {D:DataW Unit} {f:ByteArray -> Bool} (G:BMap w b n D f) (hb:Below w.heap.size w w'):BMap w' b n D f:=
 G.kept (row:=none) ⟨hb.os,hb.tape,hb.output,hb.size,fun k hk _=>hb.block k hk⟩ (by simp)
theorem BMap.drop {w:World} {b n:Nat} {D:DataW Unit} {f:ByteArray -> Bool} (G:BMap w b n D f) (k:ByteArray) (hk:k.size <= maxLen) (ty:TypeId) :
  ∃ w',(Builtin.delete_ #[150,9] ty #[.map (some b), .string k]).run Tryz.prog w = .ok (.tuple #[]) w' /\ BMap w' b n (D.del (klit k)) (fun j=>f j && !decide (k=j)) /\ w.grownBy w' (some b):=by
 obtain ⟨w',hrun,hm,ht⟩:=G.map.drop (t:=150) (e:=4) (string_keyed Tryz.underlying9) Tryz.underlying150 (klit_key k hk) ty
 refine ⟨w',hrun,⟨hm,fun j => ?_⟩,ht.grown⟩
 by_cases e:k=j
 ·subst e
  rw [atKey_del_same]; simp
 ·rw [atKey_del_other (fun h=>e (klit_one h).symm),G.reads j]
  simp [e]
theorem BMap.cleared {w:World} {b n:Nat} {D:DataW Unit} {f:ByteArray -> Bool} (G:BMap w b n D f) (ty:TypeId) :
  ∃ w',(Builtin.clear_ #[150] ty #[.map (some b)]).run Tryz.prog w = .ok (.tuple #[]) w' /\ BMap w' b n (.map []) (fun _=>false) /\ w.grownBy w' (some b):=by
 obtain ⟨es,clock,hb,F,hs,hD⟩:=G.map
 have hsame:=heap_setBlock_same hb (.map #[] clock)
 refine ⟨setBlock w b (.map #[] clock), ?_,⟨⟨#[],clock,hsame,⟨by simp,MapKept.stamped_empty _,by simp⟩,by simp,rfl⟩,fun j=>rfl⟩,World.mapTurned.grown ⟨es,clock, #[],clock,hb,rfl⟩⟩
 simp [Builtin.clear_,run_underlying Tryz.underlying150,MapKept.run_getObj_map hb,MapKept.run_setObj_map _ hb,Result.andThen]
 rfl
abbrev Sm:={ s:ByteArray // s.size <= maxLen }
instance:Inhabited Sm:=⟨⟨⟨#[]⟩,by show 0 <= maxLen; unfold maxLen; omega⟩⟩
def encSm (x:Sm):Value := .string x.1
theorem one_sm:OneCell encSm:=fun _=>rfl
theorem lift_sm {l:List ByteArray} (h:∀ v ∈ l,v.size <= maxLen):∃ d:List Sm,d.map (·.1)=l:=by
 induction l with
 | nil=>exact ⟨[],rfl⟩
 | cons v l ih =>
  obtain ⟨d,rfl⟩:=ih fun x hx=>h x (List.mem_cons_of_mem _ hx)
  exact ⟨⟨v,h v (List.mem_cons_self ..)⟩ :: d,rfl⟩
theorem enc_sm (d:List Sm):d.map encSm=scells (d.map (·.1)):=by unfold scells; rw [List.map_map]; rfl
theorem heap_put {w:World} {g q:Nat} {cur:Array Value} {e:TypeId} {fr:Nat × Nat} (d:Array Sm) (hb:w.heap[g]? = some (.cells cur e fr)) :
  (putRow encSm (Sort.ahead w q) g 0 d).heap[g]? = some (.cells (putCells encSm 0 d cur) e fr):=by
 simp [putRow,mapBlock,Sort.ahead,Array.getElem?_modify,hb,onCells]
theorem grown_put {w:World} {g q:Nat} (d:Array Sm):w.grownBy (putRow encSm (Sort.ahead w q) g 0 d) (some g):=by
 refine ⟨rfl,rfl,rfl,by simp [putRow,mapBlock,Sort.ahead],fun k hk hne => ?_⟩
 have:g ≠ k:=fun e=>hne (by rw [e])
 simp [putRow,mapBlock,Sort.ahead,Array.getElem?_modify,this]
theorem take_put (cur:Array Value) (ts:List Sm) (h:ts.length <= cur.size):(putCells encSm 0 ts.toArray cur).toList.take ts.length=ts.map encSm:=by
 apply List.ext_getElem?
 intro j
 by_cases hj:j < ts.length
 ·rw [List.getElem?_take_of_lt hj,Array.getElem?_toList]
  simp [putCells,hj,show j < cur.size by omega]
 ·rw [List.getElem?_take_eq_none (by omega),List.getElem?_eq_none (by simp; omega)]
theorem own_cut1 {w:World} {base g cap n:Nat} {xs:List Value} (h:w.ownsRow base 9 1 (.slice (some ⟨g,0,none⟩) n cap) n xs) (i:Nat) (hi:i <= n) :
  w.ownsRow base 9 1 (.slice (some ⟨g,0,none⟩) i cap) i (xs.take i):=by
 obtain ⟨hl,⟨he,_⟩ | ⟨g',cap',cur,he,h2,h3,h4,h5,h6,h7⟩⟩:=h
 ·cases he
 ·cases he
  refine ⟨by rw [List.length_take,hl]; omega, .inr ⟨g,cap,cur,rfl,h2,h3,by omega,h5,h6, ?_⟩⟩
  rw [<- h7,List.take_take,Nat.min_eq_left (by omega),Nat.mul_one]
set_option maxRecDepth 100000 in
theorem rem1_s (v:ByteArray) (hv:v.size <= maxLen) (bx mb n:Nat) (D:DataW Unit) (f:ByteArray -> Bool) (W:World) (hbox:W.cell? ⟨bx,0,none⟩=some (.map (some mb))) (G:BMap W mb n D f) :
  Calls Tryz.prog 222 #[.string v, .pointer (some ⟨bx,0,none⟩)] W fun e w'=>e = .returned (.bool (!f v)) /\ w'=W:=by
 have hlook:=G.look v hv
 clear G
 go_enter Tryz.func222,Tryz.ntmps222
 go_wp2_with fail
 go_ret
 exact ⟨rfl,rfl⟩
def zrSm:Sm:=⟨⟨#[]⟩,by show 0 <= maxLen; unfold maxLen; omega⟩
theorem delv_s (base g cap n bx mb nn:Nat) (D:DataW Unit) (f:ByteArray -> Bool) (l:List ByteArray) (w:World) (hown:w.ownsRow base 9 1 (.slice (some ⟨g,0,none⟩) n cap) n (scells l)) (hl:l.length=n) (hs:∀ v ∈ l,v.size <= maxLen)
  (hbox:w.cell? ⟨bx,0,none⟩=some (.map (some mb))) (G:BMap w mb nn D f) (h1:bx ≠ g) (h2:mb ≠ g) (hn:n <= 1100000) :
  Calls Tryz.prog 221 #[.slice (some ⟨g,0,none⟩) n cap, .func (.func 222) #[] #[.pointer (some ⟨bx,0,none⟩)]] w fun e w' =>
   e = .returned (.slice (some ⟨g,0,none⟩) (l.filter f).length cap) /\ w'.ownsRow base 9 1 (.slice (some ⟨g,0,none⟩) (l.filter f).length cap) (l.filter f).length (scells (l.filter f)) /\ w.grownBy w' (some g):=by
 obtain ⟨d,rfl⟩:=lift_sm hs
 rw [List.length_map] at hl
 subst hl
 have hfil:(d.map (·.1)).filter f=(d.filter fun x=>f x.1).map (·.1):=by rw [List.filter_map]; rfl
 obtain ⟨ks,hks⟩:∃ x,(d.filter fun x=>f x.1)=x:=⟨_,rfl⟩
 have hkl:ks.length <= d.length:=by rw [<- hks]; exact List.length_filter_le _ _
 rw [hfil,hks,List.length_map]
 rcases hown.2 with ⟨he,_⟩ | ⟨g',cap',cur,he,hb,hg,hc,hm,hcs,ht⟩
 ·cases he
 ·cases he
  rw [Nat.mul_one] at ht hcs
  have hgl:g < w.heap.size:=(Array.getElem?_eq_some_iff.1 hg).1
  have hH:Holds encSm w g 0 d.toArray:=by
   intro j hj
   have hj':j < d.length:=by simpa using hj
   refine ⟨?_,by simp [World.frozen?,hg]⟩
   have:=hown.cellAt j (by omega)
   rw [Nat.zero_add,this, <- enc_sm]
   simp [hj']
  have key:=AnyE.slices_DeleteFunc Tryz.deletef encSm one_sm (fun x => !f x.1) 222 #[.pointer (some ⟨bx,0,none⟩)] (enters_of Tryz.func222 (by kernel_rfl) rfl) zrSm (fun w=>Tryz.zeroValue9 w)
   g 0 cap d.toArray w (fun W x hb=>by
    refine (rem1_s x.1 x.2 bx mb nn D f W (cell_later hb hbox) (G.below hb)).mono ?_
    rintro e w' ⟨rfl,rfl⟩
    exact ⟨rfl,0,rfl⟩) (fun m os dk x hsz=>by
    have hgr:w.grownBy (sortWorld encSm w g 0 m dk os) (some g):=by
     refine grown_two (grown_put (q:=m) dk) ⟨rfl,rfl,rfl, ?_,fun k hk _=>heap_grow_old _ _ hk⟩
     show _ <= (_ ++ os).size
     rw [Array.size_append]; omega
    refine (rem1_s x.1 x.2 bx mb nn D f _ (hgr.cell hbox (fun e=>h1 (by cases e; rfl))) (G.kept hgr (fun e=>h2 (by cases e; rfl)))).mono ?_
    rintro e w' ⟨rfl,rfl⟩
    exact ⟨rfl,0,rfl⟩) hH (by simp; omega) (by simpa using hc)
  simp only [Bool.not_not,List.size_toArray,hks] at key
  refine key.mono ?_
  rintro e w' ⟨rfl,q,rfl⟩
  refine ⟨rfl, ?_,grown_put _⟩
  have ho:(putRow encSm (Sort.ahead w q) g 0 (ks ++ List.replicate (d.length - ks.length) zrSm).toArray).ownsRow base 9 1 (.slice (some ⟨g,0,none⟩) d.length cap) d.length ((ks ++ List.replicate (d.length - ks.length) zrSm).map encSm):=
   ⟨by simp; omega, .inr ⟨g,cap,_,rfl,hb,heap_put _ hg,hc,hm,by simp [putCells,hcs],by
    have hl2:(ks ++ List.replicate (d.length - ks.length) zrSm).length=d.length:=by rw [List.length_append,List.length_replicate]; omega
    have:=take_put cur (ks ++ List.replicate (d.length - ks.length) zrSm) (by rw [hl2,hcs]; exact hc)
    rw [hl2] at this
    rw [Nat.mul_one]; exact this⟩⟩
  have hc2:=own_cut1 ho ks.length hkl
  rw [<- List.map_take,List.take_left,enc_sm] at hc2
  exact hc2
end Go.Proofs.YtmmdaegdkikkpaaGreatDoor
end

section
set_option maxRecDepth 100000
namespace Go.Proofs.YtmmdaegdkikkpaaGreatDoor
open Go.RowKit Go.PlainAid Go.Maps Go.ChangeMaps
def leftF (old vs:List ByteArray) (j:Nat) (k:ByteArray):Bool:=memB old k && !memB (vs.take j) k
theorem leftF_step {old vs:List ByteArray} {j:Nat} (h:j < vs.length):(fun k=>leftF old vs j k && !decide (partAt vs j=k))=leftF old vs (j + 1):=by
 funext k
 unfold leftF
 rw [take_snoc vs j h,memB_snoc]
 cases memB old k <;> cases memB (vs.take j) k <;> cases decide (partAt vs j=k) <;> rfl
theorem left_filter {old vs:List ByteArray} (h:0 < vs.length):old.filter (leftF old vs vs.length)=leftV old vs:=by
 unfold leftV
 refine List.filter_congr fun v hv => ?_
 unfold leftF
 rw [memB_iff.2 hv,List.take_length,decide_eq_true h]
theorem left_none {old vs:List ByteArray} (h:vs.length=0):old.filter (fun _=>false)=leftV old vs:=by
 unfold leftV
 refine List.filter_congr fun v hv => ?_
 rw [decide_eq_false (by omega)]; rfl
theorem Beside.later {w w':World} {base f:Nat} {v:Value} {ao:Option Addr} {T:List Tr} (h:Beside w base v ao T) (hb:Below f w w') (hf:w.heap.size <= f):Beside w' base v ao T:=h.below (hb.mono hf)
set_option maxRecDepth 100000 in
set_option maxHeartbeats 8000000 in
theorem rem_s (ao vo:Option Addr) (n cap vn vc:Nat) (l:List At) (name:ByteArray) (vs:List ByteArray) (w:World) (h:AttrsAt w ao n cap l) (hv:StrsAt w vo vn vc vs) (hF:Edit l vs) (hns:name.size <= 1100000) :
  Calls Tryz.prog 149 #[.slice ao n cap, .string name, .slice vo vn vc] w fun e w'=>∃ v,e = .returned (.tuple #[v, .int .i64 (remR l name vs).2]) /\ AttsR w' v (remR l name vs).1 /\ Below w.heap.size w w':=by
 have hvl:vs.length=vn:=hv.1
 have hvm:vn <= 9223372036854775807:=Nat.le_trans hv.2.1 hv.2.2.1
 have HV:=Lib.hid hv
 have HR:=Lib.hid (sorted_s ao n cap l w h hF.few)
 have HF:=Lib.hid hF
 clear h hv hF
 cases hnm:nameB name with
 | false =>
  have HL:=Lib.hid (show remR l name vs=([],5) from if_pos hnm)
  go_enter Tryz.func149,Tryz.ntmps149
  go_wp2_with (go_at_call 127; refine (name_s name _ (by omega)).mono ?_; rintro e w' ⟨rfl,rfl⟩; rw [hnm])
  go_ret2
  exact ⟨_,by rw [HL.out]; rfl,by rw [HL.out]; exact atts_nil _,Below.refl _ _⟩
 | true =>
  have hlen:=Nat.le_trans (nf_len l) HF.out.few.len
  have HL0:=Lib.hid (show remR l name vs=if (vals l (lowS name)).length=0 then ([],6) else if remE vs (vals l (lowS name)) ≠ 0 then ([],6) else (withL l name (leftV (vals l (lowS name)) vs),0) by unfold remR; rw [if_neg (by rw [hnm]; simp)])
  go_enter Tryz.func149,Tryz.ntmps149
  go_wp2_with (go_at_call 127; refine (name_s name _ (by omega)).mono ?_; rintro e w' ⟨rfl,rfl⟩; rw [hnm])
  refine HR.out.mono ?_
  rintro e w1 ⟨v,T,rfl,hT,hTO,hTA,hown,hb⟩
  obtain ⟨hTl,xo,xc,rfl,hat,_,hzz,hp⟩:=ts_owns hown
  have HRD:=Lib.hid (around_s xo T.length xc T name w1 hat (nf_names_asc hT) (by rw [<- tats_len,hT]; exact hlen) hzz hp hns)
  have HB1:=Lib.hid hb
  have HT:=Lib.hid hT
  have HTO:=Lib.hid hTO
  have HTA:=Lib.hid hTA
  have HOW:=Lib.hid hown
  have hTl2:T.length <= 3000:=by rw [<- tats_len,hT]; exact hlen
  have HP0:=Lib.hid hp
  clear HR hat hTO hTA hb hown hT hlen hzz hp hTl
  go_wp2_with fail
  refine HRD.out.mono ?_
  rintro e w2 ⟨B,M,A,hv,bo,c,rfl,hP,hTB,hTA2,hL,hb⟩
  have hOwn:=own_below (parts_own HT.out hP HTO.out) hb
  obtain ⟨hBB,hBA⟩:=parts_beside hP HTO.out HTA.out HOW.out hL
  have HBB:=Lib.hid (hBB.below hb)
  have HBA:=Lib.hid (hBA.below hb)
  have HTB:=Lib.hid hTB
  have HTA2:=Lib.hid hTA2
  have HB2:=Lib.hid (HB1.out.trans (hb.mono HB1.out.size))
  have hBl:B.length <= 3000:=by have:=congrArg List.length hP.all; rw [List.length_append,List.length_append] at this; omega
  have hAl:A.length <= 3000:=by have:=congrArg List.length hP.all; rw [List.length_append,List.length_append] at this; omega
  have hzB:xo=none -> B.length=0:=fun e=>by
   rcases Nat.eq_zero_or_pos B.length with k | k
   ·exact k
   ·obtain ⟨_,_,e2,_⟩:=hTB.2.2.2 k
    rw [e] at e2; cases e2
  have HJ:=Lib.hid (join_with (name:=name) HT.out hP)
  obtain ⟨old,hold⟩:∃ x,vals l (lowS name)=x:=⟨_,rfl⟩
  have hol:old.length <= 40000:=by rw [<- hold]; exact Nat.le_trans (vals_len _ _) HF.out.tot
  have HOS:=Lib.hid (show SmallS old by rw [<- hold]; exact vals_small HF.out.small _)
  rw [hold] at hOwn HL0
  obtain ⟨yn,hyn⟩:∃ x,old.length=x:=⟨_,rfl⟩
  rw [hyn] at hOwn HL0
  clear hold hP hL hb hBB hBA hTB hTA2 HRD HTO HTA HOW
  by_cases hz:yn=0
  ·have HL:=Lib.hid (show remR l name vs=([],6) by rw [HL0.out,if_pos hz])
   obtain ⟨yo,yc,rfl,hy⟩:=strs_own hOwn hyn
   have q0:((yn:Int) == 0)=true:=by simpa using hz
   clear hz hyn
   go_wp2_with fail
   go_ret2
   exact ⟨_,by rw [HL.out]; rfl,by rw [HL.out]; exact atts_nil _,HB2.out⟩
  ·have HL1:=Lib.hid (show remR l name vs=if remE vs old ≠ 0 then ([],6) else (withL l name (leftV old vs),0) by rw [HL0.out,if_neg hz])
   have q0:((yn:Int) == 0)=false:=by simpa using hz
   obtain ⟨g,yc,rfl,hbg,hgl⟩:=hOwn.form (by omega)
   have hy:StrsAt w2 (some ⟨g,0,none⟩) yn yc old:=own_strs hOwn hyn
   have HSO:=Lib.hid (setOf_s _ yn yc old w2 hy (by omega) HOS.out)
   have HOwn:=Lib.hid hOwn
   clear hy hz HL0 hOwn
   go_wp2_with fail
   refine HSO.out.mono ?_
   rintro e w3 ⟨rfl,⟨D0,hS⟩,hb⟩
   have G0:=Lib.hid (BMap.of hS)
   have HB3:=Lib.hid hb
   have hs3:=hb.size
   have hm3:w2.heap.size < w3.heap.size:=hS.map.lt
   clear hS hb HSO
   go_wp2_with fail
   obtain ⟨W4,hW4⟩:∃ x,w3.alloc (.cells #[.map (some w2.heap.size)] 150)=x:=⟨_,rfl⟩
   have hb4:Below w3.heap.size w3 W4:=by rw [<- hW4]; exact (Below.refl _ w3).alloc (Nat.le_refl _) _
   have hbox:W4.cell? ⟨w3.heap.size,0,none⟩=some (.map (some w2.heap.size)):=by rw [<- hW4]; exact cell_one_new _ _ _ 0 _ rfl
   have G4:=Lib.hid (G0.out.below hb4)
   have HB4:=Lib.hid (HB3.out.trans (hb4.mono hs3))
   have hs4:w3.heap.size < W4.heap.size:=by rw [<- hW4]; simp
   rw [hW4]
   clear hW4 hb4 G0
   go_loopw [13,32] (fun s13 iv wr=>∃ (j:Nat) (D:DataW Unit),j <= vn /\ iv = .int .i64 j /\ Hid (∀ q,q < j -> errR vs old q=0) /\ Hid (BMap wr w2.heap.size yn D (leftF old vs j)) /\ Hid (W4.grownBy wr (some w2.heap.size))) (fun _ iv _=>vn - (intOf iv).toNat)
   case atStart=>exact ⟨0,D0,Nat.zero_le _,rfl,Lib.hid (fun q hq=>absurd hq (Nat.not_lt_zero _)),Lib.hid (by
    have e:memB old=leftF old vs 0:=by funext k; unfold leftF; rw [List.take_zero]; simp [memB]
    rw [<- e]; exact G4.out),Lib.hid (grown_refl _ _)⟩
   case round =>
    obtain ⟨j,D,hj,rfl,HE,HG,HW⟩:=hrel
    have hboxr:=HW.out.cell hbox (fun e=>by have e':w3.heap.size=w2.heap.size:=Option.some.inj e; omega)
    by_cases hlt:j < vn
    ·obtain ⟨b,off,rfl,hs⟩:=HV.out.2.2.2 (by omega)
     have hb1:b < w.heap.size:=hs.1
     have hsz2:=HB2.out.size
     have hcell2:=(hs.below HB2.out hs.1).2 j (by omega)
     have hcell4:=(HB4.out.cell (p:=⟨b,off + j,none⟩) (by show b < _; omega)).trans hcell2
     have hcell:=HW.out.cell hcell4 (fun e=>by have e':b=w2.heap.size:=Option.some.inj e; omega)
     clear hs hcell2 hcell4
     have HER:=Lib.hid (show errR vs old j=if memB old (partAt vs j)=false ∨ memB (vs.take j) (partAt vs j)=true then 6 else 0 from rfl)
     have HFE:=Lib.hid (fun (e:errR vs old j ≠ 0)=>firstE_hit (f:=errR vs old) (n:=vs.length) HE.out e (by omega))
     have HST:=Lib.hid (leftF_step (old:=old) (vs:=vs) (j:=j) (by omega))
     obtain ⟨p,hp⟩:∃ x,partAt vs j=x:=⟨_,rfl⟩
     have hps:p.size <= 1100000:=by rw [<- hp]; exact HF.out.vsmall _ (part_mem vs j (by omega))
     rw [hp] at hcell HER HST
     clear hp
     have hlook:=HG.out.look p (by unfold maxLen; omega)
     have d1:(j:Int) < (vn:Int):=by omega
     obtain ⟨t,ht⟩:∃ x,leftF old vs j p=x:=⟨_,rfl⟩
     rw [ht] at hlook
     cases t with
     | false =>
      have HL:=Lib.hid (show remR l name vs=([],6) by
       unfold leftF at ht
       have hc:memB old p=false ∨ memB (vs.take j) p=true:=by
        cases h1:memB old p
        ·exact .inl rfl
        ·rw [h1] at ht; cases h2:memB (vs.take j) p
         ·rw [h2] at ht; simp at ht
         ·exact .inr rfl
       rw [if_pos hc] at HER
       have h5:=HFE.out (by rw [HER.out]; decide)
       rw [HL1.out,if_pos (by unfold remE; rw [h5,HER.out]; decide)])
      clear ht
      go_wp2_with fail
      go_ret2
      refine ⟨_,by rw [HL.out]; rfl,by rw [HL.out]; exact atts_nil _, ?_⟩
      exact (HB2.out.trans (HB4.out.mono hsz2)).grown HW.out (by omega) (fun q hq=>by have:=Option.some.inj hq; omega)
     | true =>
      have HZ:=Lib.hid (show errR vs old j=0 by
       unfold leftF at ht
       rw [Bool.and_eq_true] at ht
       have h2:memB (vs.take j) p=false:=by simpa using ht.2
       rw [HER.out,ht.1,h2]; simp)
      clear ht
      obtain ⟨w',hrun,hG,hg⟩:=HG.out.drop p (by unfold maxLen; omega) 0
      have hrun2:=fun ty=>(HG.out.drop p (by unfold maxLen; omega) ty)
      rw [HST.out] at hG
      have HG2:=Lib.hid hG
      have HW2:=Lib.hid (grown_two HW.out hg)
      clear hG hg hrun2
      go_wp2_with fail
      go_roundw
      case rel =>
       refine ⟨j + 1,_,by omega,by go_num,Lib.hid fun q hq => ?_,HG2,HW2⟩
       by_cases e:q=j
       ·rw [e]; exact HZ.out
       ·exact HE.out q (by omega)
      case measure=>simp [intOf]; omega
    ·obtain rfl:vn=j:=by omega
     have HL:=Lib.hid (show remR l name vs=(withL l name (leftV old vs),0) by
      rw [HL1.out,if_neg]
      rw [Classical.not_not]
      exact firstE_zero fun q hq=>HE.out q (by omega))
     have hsw2:=HB2.out.size
     have hgne:(Value.slice (some ⟨g,0,none⟩) yn yc).ownBlock=none ∨ (Value.slice (some ⟨g,0,none⟩) yn yc).ownBlock ≠ some w2.heap.size := .inr (fun e=>by have e':g=w2.heap.size:=Option.some.inj e; omega)
     have HOr:=Lib.hid ((own_below HOwn.out HB4.out).kept HW.out hgne)
     have HBr:=Lib.hid (HB4.out.grown HW.out (by omega) (fun q hq=>by have:=Option.some.inj hq; omega))
     clear HE HL1
     by_cases hv0:vn=0
     ·have q1:((vn:Int) == 0)=true:=by simpa using hv0
      obtain ⟨wc,hrun,hGc,hgc⟩:=HG.out.cleared 0
      have HGc:=Lib.hid hGc
      have HOc:=Lib.hid (HOr.out.kept hgc hgne)
      have HBc:=Lib.hid (HBr.out.grown hgc (by have:=HBr.out.size; omega) (fun q hq=>by have:=Option.some.inj hq; omega))
      have hboxc:=hgc.cell hboxr (fun e=>by have e':w3.heap.size=w2.heap.size:=Option.some.inj e; omega)
      have hfe:=left_none (old:=old) (vs:=vs) (by omega)
      have HFE:=Lib.hid hfe
      clear hGc hgc hfe hv0 hvl
      have HD:=Lib.hid (delv_s w.heap.size g yc yn w3.heap.size w2.heap.size yn (.map []) (fun _=>false) old wc HOc.out hyn (fun v hv=>Nat.le_trans (HOS.out v hv) (by unfold maxLen; omega)) hboxc HGc.out (by omega) (by omega) (by omega))
      rw [HFE.out] at HD
      have HBW:=Lib.hid (HBc.out)
      obtain ⟨m,hm⟩:∃ x,(leftV old vs).length=x:=⟨_,rfl⟩
      have hml:m <= 40000:=by rw [<- hm]; exact Nat.le_trans (left_len old vs) hol
      rw [hm] at HD
      go_wp2_with fail
      refine HD.out.mono ?_
      rintro e w5 ⟨rfl,hown5,hg5⟩
      have hBBr:=HBB.out.below HBW.out
      have hBAr:=HBA.out.below HBW.out
      have hBB5:=hBBr.grown (v' := .slice (some ⟨g,0,none⟩) m yc) hg5 (.inl rfl)
      have hBA5:=hBAr.grown (v' := .slice (some ⟨g,0,none⟩) m yc) hg5 (.inl rfl)
      have hTB5:=hBBr.ts (HTB.out.below HBW.out) hg5
      have hTA5:=hBAr.ts (HTA2.out.below HBW.out) hg5
      have hs6:=HBW.out.size
      have hsw:=HB2.out.size
      have HB5:=Lib.hid ((HB2.out.trans (HBW.out.mono hsw)).grown hg5 (by omega) (fun q hq=>by have:=Option.some.inj hq; omega))
      have HJN:=Lib.hid (joined_s xo (some ⟨g,0,none⟩) bo m yc c w.heap.size B A name (leftV old vs) w5 hTB5 hzB HP0.out hTA5 (fun _=>hBB5) (fun _=>hBA5) hBB5.tok hBA5.tok (fun _=>hown5) hm hBl hAl (by omega) hns HB5.out.size)
      rw [HJ.out] at HJN
      clear hBBr hBAr hBB5 hBA5 hTB5 hTA5 hown5 hg5
      go_wp2_with fail
      refine HJN.out.mono ?_
      rintro e w6 ⟨zo,zc,rfl,hat,hb⟩
      go_wp2_with fail
      go_ret2
      exact ⟨_,by rw [HL.out]; rfl,by rw [HL.out]; exact ⟨zo,_,zc,rfl,hat⟩,HB5.out.trans hb⟩
     ·have q1:((vn:Int) == 0)=false:=by simpa using hv0
      have HFE:=Lib.hid (show old.filter (leftF old vs vn)=leftV old vs by rw [<- hvl]; exact left_filter (by omega))
      clear hv0 hvl
      have HD:=Lib.hid (delv_s w.heap.size g yc yn w3.heap.size w2.heap.size yn D (leftF old vs vn) old wr HOr.out hyn (fun v hv=>Nat.le_trans (HOS.out v hv) (by unfold maxLen; omega)) hboxr HG.out (by omega) (by omega) (by omega))
      rw [HFE.out] at HD
      have HBW:=Lib.hid (HBr.out)
      obtain ⟨m,hm⟩:∃ x,(leftV old vs).length=x:=⟨_,rfl⟩
      have hml:m <= 40000:=by rw [<- hm]; exact Nat.le_trans (left_len old vs) hol
      rw [hm] at HD
      go_wp2_with fail
      refine HD.out.mono ?_
      rintro e w5 ⟨rfl,hown5,hg5⟩
      have hBBr:=HBB.out.below HBW.out
      have hBAr:=HBA.out.below HBW.out
      have hBB5:=hBBr.grown (v' := .slice (some ⟨g,0,none⟩) m yc) hg5 (.inl rfl)
      have hBA5:=hBAr.grown (v' := .slice (some ⟨g,0,none⟩) m yc) hg5 (.inl rfl)
      have hTB5:=hBBr.ts (HTB.out.below HBW.out) hg5
      have hTA5:=hBAr.ts (HTA2.out.below HBW.out) hg5
      have hs6:=HBW.out.size
      have hsw:=HB2.out.size
      have HB5:=Lib.hid ((HB2.out.trans (HBW.out.mono hsw)).grown hg5 (by omega) (fun q hq=>by have:=Option.some.inj hq; omega))
      have HJN:=Lib.hid (joined_s xo (some ⟨g,0,none⟩) bo m yc c w.heap.size B A name (leftV old vs) w5 hTB5 hzB HP0.out hTA5 (fun _=>hBB5) (fun _=>hBA5) hBB5.tok hBA5.tok (fun _=>hown5) hm hBl hAl (by omega) hns HB5.out.size)
      rw [HJ.out] at HJN
      clear hBBr hBAr hBB5 hBA5 hTB5 hTA5 hown5 hg5
      go_wp2_with fail
      refine HJN.out.mono ?_
      rintro e w6 ⟨zo,zc,rfl,hat,hb⟩
      go_wp2_with fail
      go_ret2
      exact ⟨_,by rw [HL.out]; rfl,by rw [HL.out]; exact ⟨zo,_,zc,rfl,hat⟩,HB5.out.trans hb⟩
end Go.Proofs.YtmmdaegdkikkpaaGreatDoor
end

section
set_option maxRecDepth 100000
namespace Go.Proofs.YtmmdaegdkikkpaaGreatDoor
open Go.RowKit Go.PlainAid
theorem sequal_s (vo uo:Option Addr) (vn un vc uc:Nat) (vs us:List ByteArray) (w:World) (h:StrsAt w vo vn vc vs) (k:StrsAt w uo un uc us) (h0:0 < vn) (k0:0 < un) :
  Calls Tryz.prog 147 #[.slice vo vn vc, .slice uo un uc] w fun e w'=>e = .returned (.bool (decide (vs=us))) /\ Below w.heap.size w w':=by
 obtain ⟨b,off,rfl,hi⟩:=h.2.2.2 h0
 obtain ⟨c,off2,rfl,hj⟩:=k.2.2.2 k0
 refine (AnyG.slices_Equal_string Tryz.equal b off vn vc c off2 un uc vs us w (by rw [h.1]; exact Nat.le_refl _) (by rw [k.1]; exact Nat.le_refl _) (Nat.le_trans h.2.1 h.2.2.1) (Nat.le_trans k.2.1 k.2.2.1) (fun j hj'=>hi.2 j hj') (fun j hj'=>hj.2 j hj')).mono ?_
 rintro e w' ⟨rfl,q,rfl⟩
 rw [List.take_of_length_le (by rw [h.1]; exact Nat.le_refl _),List.take_of_length_le (by rw [k.1]; exact Nat.le_refl _)]
 exact ⟨rfl,⟨rfl,rfl,rfl,Nat.le_refl _,fun _ _=>rfl⟩⟩
theorem firstE_all {f:Nat -> Int}:∀ {n:Nat},firstE f n=0 -> ∀ j,j < n -> f j=0
 | 0,_,j,hj=>absurd hj (Nat.not_lt_zero _)
 | n + 1,h,j,hj=>by
  unfold firstE at h
  by_cases e:firstE f n=0
  ·rw [if_pos e] at h
   rcases Nat.lt_or_ge j n with k | k
   ·exact firstE_all e j k
   ·obtain rfl:j=n:=by omega
    exact h
  ·rw [if_neg e] at h; exact absurd h e
structure Fit (vs old:List ByteArray):Prop where
 clean:∀ v ∈ vs,cleanB v=true
 nd:vs.Nodup
 new:∀ v ∈ vs,v ∉ old
theorem nodup_take {l:List ByteArray} (h:∀ j,j < l.length -> partAt l j ∉ l.take j):∀ n,n <= l.length -> (l.take n).Nodup
 | 0,_=>by rw [List.take_zero]; exact List.nodup_nil
 | n + 1,hn=>by
  rw [take_snoc l n (by omega)]
  refine List.nodup_append.2 ⟨nodup_take h n (by omega),by simp,fun a ha b hb e => ?_⟩
  rw [List.mem_singleton.1 hb] at e
  exact h n (by omega) (e ▸ ha)
theorem chk_fit {vs old:List ByteArray} (h:chkV vs old=0):Fit vs old:=by
 have h1:∀ j,j < vs.length -> cleanB (partAt vs j)=true /\ partAt vs j ∉ old /\ partAt vs j ∉ vs.take j:=fun j hj=>by
  have h2:=firstE_all h j hj
  unfold errV at h2
  by_cases c:cleanB (partAt vs j)=false
  ·rw [if_pos c] at h2; exact absurd h2 (by decide)
  ·rw [if_neg c] at h2
   by_cases d:memB old (partAt vs j)=true ∨ memB (vs.take j) (partAt vs j)=true
   ·rw [if_pos d] at h2; exact absurd h2 (by decide)
   ·exact ⟨by simpa using c,fun e=>d (.inl (memB_iff.2 e)),fun e=>d (.inr (memB_iff.2 e))⟩
 have hm:∀ v ∈ vs, ∃ j,j < vs.length /\ partAt vs j=v:=fun v hv=>by
  obtain ⟨j,hj,e⟩:=List.mem_iff_getElem.1 hv
  exact ⟨j,hj,by unfold partAt; rw [List.getD_eq_getElem?_getD,List.getElem?_eq_getElem hj,Option.getD_some]; exact e⟩
 refine ⟨fun v hv => ?_, ?_,fun v hv => ?_⟩
 ·obtain ⟨j,hj,rfl⟩:=hm v hv; exact (h1 j hj).1
 ·have:=nodup_take (fun j hj=>(h1 j hj).2.2) vs.length (Nat.le_refl _)
  rwa [List.take_length] at this
 ·obtain ⟨j,hj,rfl⟩:=hm v hv; exact (h1 j hj).2.1
theorem fit_chk {vs old:List ByteArray} (h:Fit vs old):chkV vs old=0:=by
 refine firstE_zero fun j hj => ?_
 have hv:=part_mem vs j hj
 unfold errV
 rw [if_neg (by rw [h.clean _ hv]; simp),if_neg ?_]
 rintro (k | k)
 ·exact h.new _ hv (memB_iff.1 k)
 ·have h2:(vs.take (j + 1)).Nodup:=h.nd.sublist (List.take_sublist _ _)
  rw [take_snoc vs j hj] at h2
  exact (List.nodup_append.1 h2).2.2 _ (memB_iff.1 k) _ (List.mem_singleton.2 rfl) rfl
theorem hl_app {l k:List At} {n v:ByteArray}:Hl (l ++ k) n v ↔ Hl l n v ∨ Hl k n v:=by
 unfold Hl
 simp only [List.mem_append]
 exact ⟨fun ⟨a,h,k⟩=>h.elim (fun h => .inl ⟨a,h,k⟩) fun h => .inr ⟨a,h,k⟩,fun h=>h.elim (fun ⟨a,h,k⟩=>⟨a, .inl h,k⟩) fun ⟨a,h,k⟩=>⟨a, .inr h,k⟩⟩
theorem hl_wth {l:List At} {lw n v:ByteArray}:Hl (wthL l lw) n v ↔ n ≠ lw /\ Hl l n v:=by
 have hlow:=(nf_NF l).low
 rw [show Hl l n v ↔ Hl (nf l) n v from hl_nf.symm]
 unfold Hl wthL
 constructor
 ·rintro ⟨a,ha,e,hv⟩
  obtain ⟨h1,h2⟩:=List.mem_filter.1 ha
  have h3:a.1 ≠ lw:=of_decide_eq_true h2
  exact ⟨by rw [<- e,hlow a h1]; exact h3,a,h1,e,hv⟩
 ·rintro ⟨hn,a,ha,e,hv⟩
  exact ⟨a,List.mem_filter.2 ⟨ha,decide_eq_true (by rw [<- hlow a ha,e]; exact hn)⟩,e,hv⟩
theorem hl_with {l:List At} {name:ByteArray} {us:List ByteArray} {n v:ByteArray}:Hl (withL l name us) n v ↔ if n=lowS name then v ∈ us else Hl l n v:=by
 unfold withL
 rw [hl_nf,hl_app,hl_wth]
 have h1:Hl [(name,us)] n v ↔ n=lowS name /\ v ∈ us:=by
  unfold Hl
  constructor
  ·rintro ⟨a,ha,e,hv⟩
   rw [List.mem_singleton.1 ha] at e hv
   exact ⟨e.symm,hv⟩
  ·rintro ⟨e,hv⟩
   exact ⟨_,List.mem_singleton.2 rfl,e.symm,hv⟩
 rw [h1]
 by_cases e:n=lowS name
 ·rw [if_pos e]; simp [e]
 ·rw [if_neg e]; simp [e]
theorem vals_with {l:List At} {name:ByteArray} {us:List ByteArray}:vals (withL l name us) (lowS name)=sortU us:=
 asc_ext (vals_asc _ _) (sortU_asc _) fun v=>by rw [vals_mem,hl_with,if_pos rfl,sortU_mem]
theorem vals_other {l:List At} {name:ByteArray} {us:List ByteArray} {n:ByteArray} (h:n ≠ lowS name):vals (withL l name us) n=vals l n:=
 asc_ext (vals_asc _ _) (vals_asc _ _) fun v=>by rw [vals_mem,vals_mem,hl_with,if_neg h]
theorem lim_ok {l:List At} {m:Nat} (h:(limR l m).2=0):limR l m=(l,0) /\ l.length <= 32 /\ m <= 16:=by
 unfold limR at h ⊢
 by_cases c:32 < l.length ∨ 16 < m
 ·rw [if_pos c] at h; exact absurd h (by decide)
 ·rw [if_neg c]; exact ⟨rfl,by omega,by omega⟩
structure Added (l:List At) (name:ByteArray) (vs:List ByteArray):Prop where
 nm:nameB name=true
 ne:vs.length ≠ 0
 fit:Fit vs (vals l (lowS name))
 len:(withL l name (vals l (lowS name) ++ vs)).length <= 32
 cnt:(vals l (lowS name) ++ vs).length <= 16
 eq:(addR l name vs).1=withL l name (vals l (lowS name) ++ vs)
theorem add_ok {l:List At} {name:ByteArray} {vs:List ByteArray} (h:(addR l name vs).2=0):Added l name vs:=by
 unfold addR at h
 by_cases c1:nameB name=false
 ·rw [if_pos c1] at h; exact absurd h (by decide)
 ·rw [if_neg c1] at h
  by_cases c2:vs.length=0
  ·rw [if_pos c2] at h; exact absurd h (by decide)
  ·rw [if_neg c2] at h
   by_cases c3:chkV vs (vals l (lowS name))=0
   ·rw [if_neg (by simp [c3])] at h
    obtain ⟨h1,h2,h3⟩:=lim_ok h
    exact ⟨by simpa using c1,c2,chk_fit c3,h2,h3,by unfold addR; rw [if_neg c1,if_neg c2,if_neg (by simp [c3]),h1]⟩
   ·rw [if_pos c3] at h; exact absurd h c3
structure Put (l:List At) (name:ByteArray) (vs:List ByteArray):Prop where
 nm:nameB name=true
 fit:Fit vs []
 len:(withL l name vs).length <= 32
 cnt:vs.length <= 16
 eq:(repR l name vs).1=withL l name vs
theorem rep_ok {l:List At} {name:ByteArray} {vs:List ByteArray} (h:(repR l name vs).2=0):Put l name vs:=by
 unfold repR at h
 by_cases c1:nameB name=false
 ·rw [if_pos c1] at h; exact absurd h (by decide)
 ·rw [if_neg c1] at h
  by_cases c3:chkV vs []=0
  ·rw [if_neg (by simp [c3])] at h
   obtain ⟨h1,h2,h3⟩:=lim_ok h
   exact ⟨by simpa using c1,chk_fit c3,h2,h3,by unfold repR; rw [if_neg c1,if_neg (by simp [c3]),h1]⟩
  ·rw [if_pos c3] at h; exact absurd h c3
structure Gone (l:List At) (name:ByteArray) (vs:List ByteArray):Prop where
 nm:nameB name=true
 eq:(remR l name vs).1=withL l name (leftV (vals l (lowS name)) vs)
theorem rem_ok {l:List At} {name:ByteArray} {vs:List ByteArray} (h:(remR l name vs).2=0):Gone l name vs:=by
 unfold remR at h
 by_cases c1:nameB name=false
 ·rw [if_pos c1] at h; exact absurd h (by decide)
 ·rw [if_neg c1] at h
  by_cases c2:(vals l (lowS name)).length=0
  ·rw [if_pos c2] at h; exact absurd h (by decide)
  ·rw [if_neg c2] at h
   by_cases c3:remE vs (vals l (lowS name))=0
   ·exact ⟨by simpa using c1,by unfold remR; rw [if_neg c1,if_neg c2,if_neg (by simp [c3])]⟩
   ·rw [if_pos c3] at h; exact absurd h (by decide)
theorem with_nf {m l:List At} {name:ByteArray} {us:List ByteArray} (h:∀ n v,Hl (withL m name us) n v ↔ Hl l n v):withL m name us=nf l:=by
 have h1:nf (withL m name us)=withL m name us:=nf_nf _
 rw [<- h1]
 exact nf_ext (nf_NF _) (nf_NF _) fun n v=>by rw [hs_nf,hs_nf]; exact h n v
theorem leftV_len (a b:List ByteArray):(leftV a b).length <= a.length:=List.length_filter_le _ _
theorem bt_lowA (s:ByteArray) (j:Nat) (h:j < s.size):bt (lowS s) j=(if 65 <= bt s j /\ bt s j <= 90 then bt s j + 32 else bt s j):=by
 obtain ⟨c,hc⟩:∃ c,s.data.toList[j]? = some c:=⟨_,List.getElem?_eq_getElem (by rw [<- Lib.size_eq]; exact h)⟩
 have h2:(lowS s).data.toList[j]? = some (lowB c):=by unfold lowS lowL; simp [hc]
 rw [bt_list _ _ _ h2,bt_list _ _ _ hc]
 by_cases hA:65 <= (c.toNat:Int) /\ (c.toNat:Int) <= 90
 ·rw [if_pos hA,lowB_hit _ hA.1 hA.2]
 ·rw [if_neg hA,lowB_miss _ hA]
theorem ltrI_low (x:Int):ltrI (if 65 <= x /\ x <= 90 then x + 32 else x)=ltrI x:=by
 rw [Bool.eq_iff_iff]; unfold ltrI; simp only [Bool.or_eq_true,Bool.and_eq_true,decide_eq_true_eq]
 split <;> omega
theorem nameP_low (x:Int):nameP (if 65 <= x /\ x <= 90 then x + 32 else x)=nameP x:=by
 unfold nameP
 rw [ltrI_low]
 by_cases h:65 <= x /\ x <= 90
 ·rw [if_pos h]
  have:ltrI x=true:=by unfold ltrI; simp; omega
  rw [this]; rfl
 ·rw [if_neg h]
theorem name_low {s:ByteArray} (h:nameB s=true):nameB (lowS s)=true:=by
 unfold nameB at h ⊢
 simp only [Bool.and_eq_true,decide_eq_true_eq] at h ⊢
 obtain ⟨⟨⟨h1,h2⟩,h3⟩,h4⟩:=h
 rw [allB_iff] at h4 ⊢
 rw [lowS_size]
 exact ⟨⟨⟨h1,h2⟩,by rw [bt_lowA s 0 (by omega),ltrI_low]; exact h3⟩,fun j hj=>by rw [bt_lowA s j hj,nameP_low]; exact h4 j hj⟩
structure OkL (l:List At):Prop where
 len:l.length <= 32
 each:∀ a ∈ l,nameB a.1=true /\ a.2.length <= 16 /\ Fit a.2 []
 one:∀ i j,i < j -> j < l.length -> lowS (atD l i).1 ≠ lowS (atD l j).1
theorem mem_at {l:List At} {a:At} (h:a ∈ l):∃ j,j < l.length /\ atD l j=a:=by
 obtain ⟨j,hj,e⟩:=List.mem_iff_getElem.1 h
 exact ⟨j,hj,by rw [at_get l j hj]; exact e⟩
theorem chk_ok {l:List At} (h:chkA l=0):OkL l:=by
 unfold chkA at h
 by_cases c:32 < l.length
 ·rw [if_pos c] at h; exact absurd h (by decide)
 ·rw [if_neg c] at h
  have h1:∀ j,j < l.length -> nameB (atD l j).1=true /\ twiceB l j=false /\ (atD l j).2.length <= 16 /\ chkV (atD l j).2 []=0:=fun j hj=>by
   have h2:=firstE_all h j hj
   unfold errA at h2
   by_cases c1:nameB (atD l j).1=false
   ·rw [if_pos c1] at h2; exact absurd h2 (by decide)
   ·rw [if_neg c1] at h2
    by_cases c2:twiceB l j=true
    ·rw [if_pos c2] at h2; exact absurd h2 (by decide)
    ·rw [if_neg c2] at h2
     by_cases c3:(atD l j).2.length=0
     ·rw [if_pos c3] at h2; exact absurd h2 (by decide)
     ·rw [if_neg c3] at h2
      by_cases c4:16 < (atD l j).2.length
      ·rw [if_pos c4] at h2; exact absurd h2 (by decide)
      ·rw [if_neg c4] at h2
       exact ⟨by simpa using c1,by simpa using c2,by omega,h2⟩
  refine ⟨by omega,fun a ha => ?_,fun i j hij hj e => ?_⟩
  ·obtain ⟨j,hj,rfl⟩:=mem_at ha
   exact ⟨(h1 j hj).1,(h1 j hj).2.2.1,chk_fit (h1 j hj).2.2.2⟩
  ·have h2:=twice_true hj hij e
   rw [(h1 j hj).2.1] at h2; cases h2
theorem part_map {l:List At} {i:Nat} (h:i < l.length):partAt (l.map (·.1)) i=(atD l i).1:=by
 unfold partAt
 rw [List.getD_eq_getElem?_getD,List.getElem?_map,List.getElem?_eq_getElem h,at_get l i h]; rfl
theorem ok_chk {L:List At} (h:NF L) (hl:L.length <= 32) (he:∀ a ∈ L,nameB a.1=true /\ a.2.length <= 16 /\ ∀ v ∈ a.2,cleanB v=true):chkA L=0:=by
 unfold chkA
 rw [if_neg (by omega)]
 refine firstE_zero fun j hj => ?_
 have hm:=at_mem L j hj
 obtain ⟨h1,h2,h3⟩:=he _ hm
 have h4:twiceB L j=false:=twice_false hj fun k hk=>by
  rw [h.low _ (at_mem L k (by omega)),h.low _ hm, <- part_map hj, <- part_map (show k < L.length by omega)]
  exact part_ne h.asc (by rw [List.length_map]; omega) (by rw [List.length_map]; exact hj) (by omega)
 have h5:=h.ne _ hm
 unfold errA
 rw [if_neg (by rw [h1]; simp),if_neg (by rw [h4]; simp),if_neg (fun e=>h5 (List.eq_nil_of_length_eq_zero e)),if_neg (by omega)]
 exact fit_chk ⟨h3,asc_nodup (h.vasc _ hm),fun _ _=>List.not_mem_nil⟩
theorem OkL.same {l:List At} (h:OkL l) {a b:At} (ha:a ∈ l) (hb:b ∈ l) (e:lowS a.1=lowS b.1):a=b:=by
 obtain ⟨i,hi,rfl⟩:=mem_at ha
 obtain ⟨j,hj,rfl⟩:=mem_at hb
 rcases Nat.lt_trichotomy i j with k | k | k
 ·exact absurd e (h.one i j k hj)
 ·rw [k]
 ·exact absurd e.symm (h.one j i k hi)
theorem OkL.vals {l:List At} (h:OkL l) {n:ByteArray} (hne:Proofs.YtmmdaegdkikkpaaGreatDoor.vals l n ≠ []):nameB n=true /\ (Proofs.YtmmdaegdkikkpaaGreatDoor.vals l n).length <= 16 /\ ∀ v ∈ Proofs.YtmmdaegdkikkpaaGreatDoor.vals l n,cleanB v=true:=by
 obtain ⟨v,hv⟩:=List.exists_mem_of_ne_nil _ hne
 obtain ⟨a,ha,e,hva⟩:=vals_mem.1 hv
 obtain ⟨h1,h2,h3⟩:=h.each a ha
 have h4:Proofs.YtmmdaegdkikkpaaGreatDoor.vals l n=sortU a.2:=asc_ext (vals_asc _ _) (sortU_asc _) fun x=>by
  rw [vals_mem,sortU_mem]
  constructor
  ·rintro ⟨b,hb,e2,hx⟩
   rw [h.same ha hb (e.trans e2.symm)]; exact hx
  ·intro hx; exact ⟨a,ha,e,hx⟩
 refine ⟨by rw [<- e]; exact name_low h1, ?_,fun x hx => ?_⟩
 ·rw [h4]; exact Nat.le_trans (sortU_len _) h2
 ·rw [h4,sortU_mem] at hx; exact h3.clean x hx
theorem nf_chk {l:List At} (h:chkA l=0):chkA (nf l)=0:=by
 have hk:=chk_ok h
 refine ok_chk (nf_NF l) (Nat.le_trans (nf_len l) hk.len) fun a ha => ?_
 obtain ⟨h1,h2⟩:=nf_mem.1 ha
 rw [h1] at h2 ⊢
 exact hk.vals h2
theorem with_chk {l:List At} {name:ByteArray} {us:List ByteArray} (h:OkL l) (hn:nameB name=true) (hc:∀ v ∈ us,cleanB v=true) (h16:us.length <= 16) (h32:(withL l name us).length <= 32):chkA (withL l name us)=0:=by
 refine ok_chk (nf_NF _) h32 fun a ha => ?_
 obtain ⟨h1,h2⟩:=nf_mem.1 ha
 have h3:a.2=vals (withL l name us) a.1:=by unfold withL; rw [vals_nf]; exact h1
 by_cases e:a.1=lowS name
 ·rw [e,vals_with] at h3
  refine ⟨by rw [e]; exact name_low hn, ?_,fun v hv => ?_⟩
  ·rw [h3]; exact Nat.le_trans (sortU_len _) h16
  ·rw [h3,sortU_mem] at hv; exact hc v hv
 ·rw [vals_other e] at h3
  rw [h3] at h2 ⊢
  exact h.vals h2
theorem old_clean {l:List At} (h:OkL l) (n:ByteArray):(vals l n).length <= 16 /\ ∀ v ∈ vals l n,cleanB v=true:=by
 by_cases e:vals l n = []
 ·rw [e]; exact ⟨Nat.zero_le _,fun v hv=>absurd hv List.not_mem_nil⟩
 ·exact (h.vals e).2
theorem add_chk {l:List At} {name:ByteArray} {vs:List ByteArray} (h:chkA l=0) (he:(addR l name vs).2=0):chkA (addR l name vs).1=0:=by
 have hA:=add_ok he
 rw [hA.eq]
 exact with_chk (chk_ok h) hA.nm (fun v hv=>(List.mem_append.1 hv).elim ((old_clean (chk_ok h) _).2 v) (hA.fit.clean v)) hA.cnt hA.len
theorem rep_chk {l:List At} {name:ByteArray} {vs:List ByteArray} (h:chkA l=0) (he:(repR l name vs).2=0):chkA (repR l name vs).1=0:=by
 have hA:=rep_ok he
 rw [hA.eq]
 exact with_chk (chk_ok h) hA.nm hA.fit.clean hA.cnt hA.len
theorem rem_len {l:List At} {name:ByteArray} {us:List ByteArray} (hl:l.length <= 32) (hu:us ≠ [] -> vals l (lowS name) ≠ []):(withL l name us).length <= 32:=by
 have h2:=nf_len l
 by_cases e:us = []
 ·have h1:withL l name us=nf (wthL l (lowS name)):=with_nf fun n v=>by
   rw [hl_with,hl_wth,e]
   by_cases c:n=lowS name
   ·rw [if_pos c]; simp [c]
   ·rw [if_neg c]; simp [c]
  rw [h1]
  have h3:=nf_len (wthL l (lowS name))
  have h4:(wthL l (lowS name)).length <= (nf l).length:=List.length_filter_le _ _
  omega
 ·have h3:=nf_len (wthL l (lowS name) ++ [(name,us)])
  rw [List.length_append,List.length_singleton] at h3
  have h4:(wthL l (lowS name)).length < (nf l).length:=by
   unfold wthL
   refine List.length_filter_lt_length_iff_exists.2 ⟨(lowS name,vals l (lowS name)),nf_mem.2 ⟨rfl,hu e⟩,by simp⟩
  unfold withL
  omega
theorem rem_chk {l:List At} {name:ByteArray} {vs:List ByteArray} (h:chkA l=0) (he:(remR l name vs).2=0):chkA (remR l name vs).1=0:=by
 have hA:=rem_ok he
 have hk:=chk_ok h
 obtain ⟨h1,h2⟩:=old_clean hk (lowS name)
 rw [hA.eq]
 refine with_chk hk hA.nm (fun v hv=>h2 v (List.mem_filter.1 hv).1) (Nat.le_trans (leftV_len _ _) h1) (rem_len hk.len fun e k=>e ?_)
 rw [k]; rfl
theorem frozen_later {w w':World} {b i:Nat} (hb:Below w.heap.size w w') (hl:b < w.heap.size) (h:w.frozen? ⟨b,i,none⟩=false):w'.frozen? ⟨b,i,none⟩=false:=by
 unfold World.frozen? at *
 rw [show w'.heap[(⟨b,i,none⟩:Addr).block]? = w.heap[(⟨b,i,none⟩:Addr).block]? from hb.block b hl]
 exact h
theorem below_set1 {B:Nat} {a w:World} (h:Below B a w) (g i:Nat) (hg:B <= g) (u:Value):Below B a (w.setCell ⟨g,i,none⟩ u):=h.setCell (p:=⟨g,i,none⟩) hg u
theorem set_size (w:World) (a:Addr) (u:Value):(w.setCell a u).heap.size=w.heap.size:=by simp [World.setCell]
theorem lsees {w W:World} {mv:Option Nat} {i:Nat} {t:TypeId} {k:ByteArray} {v:Value} {s:Nat} (h:∀ W,Below w.heap.size w W -> (Instr.lookup t (.map mv) (.string k) true).run Tryz.prog W = .ok v W) (c:W.cell? ⟨w.heap.size,i,none⟩=some (.map mv)) (hb:Below w.heap.size w W) (hs:w.heap.size + s <= W.heap.size) :
  W.cell? ⟨w.heap.size,i,none⟩=some (.map mv) /\ (Instr.lookup t (.map mv) (.string k) true).run Tryz.prog W = .ok v W /\ Hid (Below w.heap.size w W /\ w.heap.size + s <= W.heap.size):=⟨c,h W hb,Lib.hid ⟨hb,hs⟩⟩
theorem lsees_below {w W V:World} {mv:Option Nat} {i:Nat} {t:TypeId} {k:ByteArray} {v:Value} {s:Nat} (h:∀ W,Below w.heap.size w W -> (Instr.lookup t (.map mv) (.string k) true).run Tryz.prog W = .ok v W)
  (c:W.cell? ⟨w.heap.size,i,none⟩=some (.map mv) /\ (Instr.lookup t (.map mv) (.string k) true).run Tryz.prog W = .ok v W /\ Hid (Below w.heap.size w W /\ w.heap.size + s <= W.heap.size)) (hb:Below W.heap.size W V) :
  V.cell? ⟨w.heap.size,i,none⟩=some (.map mv) /\ (Instr.lookup t (.map mv) (.string k) true).run Tryz.prog V = .ok v V /\ Hid (Below w.heap.size w V /\ w.heap.size + s <= V.heap.size):=
 lsees h (cell_later hb c.1) (c.2.2.out.1.trans (hb.mono (by have:=c.2.2.out.2; omega))) (Nat.le_trans c.2.2.out.2 hb.size)
theorem lsees_set {w W:World} {mv:Option Nat} {i:Nat} {t:TypeId} {k:ByteArray} {v:Value} {s:Nat} (h:∀ W,Below w.heap.size w W -> (Instr.lookup t (.map mv) (.string k) true).run Tryz.prog W = .ok v W) (g j:Nat) (u:Value) (hg:w.heap.size < g)
  (c:W.cell? ⟨w.heap.size,i,none⟩=some (.map mv) /\ (Instr.lookup t (.map mv) (.string k) true).run Tryz.prog W = .ok v W /\ Hid (Below w.heap.size w W /\ w.heap.size + s <= W.heap.size)) :
  (W.setCell ⟨g,j,none⟩ u).cell? ⟨w.heap.size,i,none⟩=some (.map mv) /\ (Instr.lookup t (.map mv) (.string k) true).run Tryz.prog (W.setCell ⟨g,j,none⟩ u) = .ok v (W.setCell ⟨g,j,none⟩ u) /\ Hid (Below w.heap.size w (W.setCell ⟨g,j,none⟩ u) /\ w.heap.size + s <= (W.setCell ⟨g,j,none⟩ u).heap.size):=
 lsees h ((World.cell?_of_block (heap_setCell_other W ⟨g,j,none⟩ w.heap.size u (by show w.heap.size ≠ g; omega))).trans c.1) (below_set1 c.2.2.out.1 g j (by omega) u) (by rw [set_size]; exact c.2.2.out.2)
def ClGot (w0:World) (cs:List Cl) (n:ByteArray) (d:Cv):Prop:=(clOf cs n=none -> d=zeroCv) /\ ∀ c,clOf cs n=some c -> d.cl=c /\ CvOk w0 d
theorem TMap.looks {w:World} {mv:Option Nat} {ts:List Ty} (h:TMap w mv ts) (n:ByteArray) (hn:n.size <= 1000000000) :
  ∃ t:Ty,(tyOf ts n).getD zeroTy=t /\ ∀ W,Below w.heap.size w W -> (Instr.lookup 127 (.map mv) (.string (lowS n)) true).run Tryz.prog W = .ok (.tuple #[.agg #[.string t.name, .int .i64 t.syn, .bool t.single], .bool (tyOf ts n).isSome]) W:=by
 refine ⟨_,rfl,fun W hb => ?_⟩
 rw [(h.below hb).look n hn]
 cases tyOf ts n <;> rfl
theorem CMap.looks {w0 w:World} {mv:Option Nat} {cs:List Cl} (h:CMap w0 w mv cs) (n:ByteArray) (hn:n.size <= 1000000000) :
  ∃ (d:Cv) (a1:Option Addr) (p1 q1:Nat) (a2:Option Addr) (p2 q2:Nat),d.hm = .slice a1 p1 q1 /\ d.hy = .slice a2 p2 q2 /\ ClGot w0 cs n d /\
   ∀ W,Below w.heap.size w W -> (Instr.lookup 128 (.map mv) (.string (lowS n)) true).run Tryz.prog W = .ok (.tuple #[.agg #[.string d.cl.name, .string d.cl.super, .slice a1 p1 q1, .slice a2 p2 q2], .bool (clOf cs n).isSome]) W:=by
 obtain ⟨f,h,k⟩:=h
 have key:∀ (z:Value) W,Below w.heap.size w W -> (f (lowS n)).getD zeroClV=z -> (f (lowS n)).isSome=(clOf cs n).isSome -> (Instr.lookup 128 (.map mv) (.string (lowS n)) true).run Tryz.prog W = .ok (.tuple #[z, .bool (clOf cs n).isSome]) W:=fun z W hb hz hs=>by
  rw [(h.below hb).look_ok Tryz.underlying128 (Tryz.zeroValue64 _) (lowS n) (by rw [lowS_size]; unfold maxLen; omega), <- hz, <- hs]; rfl
 cases hc:clOf cs n with
 | none =>
  have hf:=(k n).1 hc
  exact ⟨zeroCv,none,0,0,none,0,0,rfl,rfl,⟨fun _=>rfl,fun c e=>absurd (hc.symm.trans e) (by simp)⟩,fun W hb=>by
   have:=key zeroClV W hb (by rw [hf]; rfl) (by rw [hf,hc]; rfl)
   rw [hc] at this; exact this⟩
 | some c =>
  obtain ⟨d,e,ho,hf⟩:=(k n).2 c hc
  obtain ⟨⟨a1,p1,q1,e1,s1⟩,a2,p2,q2,e2,s2⟩:=ho
  refine ⟨d,a1,p1,q1,a2,p2,q2,e1,e2,⟨(fun e=>by rw [e] at hc; cases hc),fun c' e'=>⟨by rw [e]; rw [hc] at e'; exact Option.some.inj e',⟨a1,p1,q1,e1,s1⟩,a2,p2,q2,e2,s2⟩⟩,fun W hb => ?_⟩
  have:=key (cvV d) W hb (by rw [hf]; rfl) (by rw [hf,hc]; rfl)
  rw [hc] at this
  unfold cvV at this
  rw [e1,e2] at this
  exact this
set_option maxHeartbeats 4000000 in
theorem typeOf_s (mt mc:Option Nat) (ts:List Ty) (n:ByteArray) (w:World) (h:TMap w mt ts) (hn:n.size <= 1000000000) :
  Calls Tryz.prog 106 #[.agg #[.map mt, .map mc], .string n] w fun e w'=>e = .returned (.tuple #[tyV ((tyOf ts n).getD zeroTy), .bool (tyOf ts n).isSome]) /\ Below w.heap.size w w':=by
 obtain ⟨t,ht,hl⟩:=h.looks n hn
 unfold tyV
 rw [ht]
 obtain ⟨ok,hok⟩:∃ b,(tyOf ts n).isSome=b:=⟨_,rfl⟩
 rw [hok] at hl ⊢
 have HL:=Lib.hid hl
 clear hl h hok ht
 have hb0:Below w.heap.size w ((w.alloc (.cells #[.map mt, .map mc] 130)).alloc (.cells #[.string ⟨#[]⟩, .int .i64 0, .bool false] 62)):=((Below.refl _ _).alloc (Nat.le_refl _) _).alloc (by simp) _
 have S0:=lsees (s:=2) (i:=0) (W:=((w.alloc (.cells #[.map mt, .map mc] 130)).alloc (.cells #[.string ⟨#[]⟩, .int .i64 0, .bool false] 62)).drew) HL.out (by go_simp) hb0.drew (by simp)
 clear hb0
 go_enter Tryz.func106,Tryz.ntmps106
 go_wp2_with fail
 refine wp_region_held_drew (S:=fun W=>W.cell? ⟨w.heap.size,0,none⟩=some (.map mt) /\ (Instr.lookup 127 (.map mt) (.string (lowS n)) true).run Tryz.prog W = .ok (.tuple #[.agg #[.string t.name, .int .i64 t.syn, .bool t.single], .bool ok]) W /\ Hid (Below w.heap.size w W /\ w.heap.size + 2 <= W.heap.size)) (by kernel_rfl) (S0) (fun hS => ?_)
 refine rgT 0 (some 9) ?_
 refine rgT 1 (some 10) ?_
 refine rgT 2 (some 11) ?_
 refine wpAnyH_ready (rs:=[3,8]) (by kernel_rfl) (by simp) ?_
 refine AllReadyH.cons rfl (fun K hK => ?_) (AllReadyH.cons rfl (fun K hK => ?_) AllReadyH.nil)
 ·go_simp
  refine (lower_s n _ hn).mono ?_
  rintro e w5 ⟨rfl,hb⟩
  go_wp2_with fail
  refine hK.out _ _ ?_ (fun hHeld => ?_)
  ·exact lsees_below HL.out (by assumption) hb
  clear hK K
  try simp only [Act.put,lsA,lsZ,lsS]
  refine rgT 4 (some 13) ?_
  refine rgT 5 (some 8) ?_
  refine rgT 6 (some 14) ?_
  refine rgT 7 (some 15) ?_
  refine rgC 8 (fun K hK => ?_)
  go_simp
  refine hK.out _ _ ?_ (fun hHeld => ?_)
  ·exact lsees_below HL.out (by assumption) ((Below.refl _ _).alloc (Nat.le_refl _) _)
  clear hK K
  try simp only [Act.put,lsA,lsZ,lsS]
  refine rgC 9 (fun K hK => ?_)
  go_simp
  refine hK.out _ _ ?_ (fun hHeld => ?_)
  ·exact lsees_below HL.out (by assumption) ((Below.refl _ w5).alloc (Nat.le_refl _) _)
  clear hK K
  try simp only [Act.put,lsA,lsZ,lsS]
  refine rgT 10 (some 7) ?_
  refine wpAnyH_done (by kernel_rfl) ?_ _
  have hS5:(fun W=>W.cell? ⟨w.heap.size,0,none⟩=some (.map mt) /\ (Instr.lookup 127 (.map mt) (.string (lowS n)) true).run Tryz.prog W = .ok (.tuple #[.agg #[.string t.name, .int .i64 t.syn, .bool t.single], .bool ok]) W /\ Hid (Below w.heap.size w W /\ w.heap.size + 2 <= W.heap.size)) w5:=by assumption
  have hB5:=hS5.2.2
  have e0:w5.cell? ⟨w.heap.size + 1,0,none⟩=some (.string ⟨#[]⟩):=cell_later hb (by go_simp)
  have e1:w5.cell? ⟨w.heap.size + 1,1,none⟩=some (.int .i64 0):=cell_later hb (by go_simp)
  have e2:w5.cell? ⟨w.heap.size + 1,2,none⟩=some (.bool false):=cell_later hb (by go_simp)
  have fe0:=frozen_later (i:=0) hb (b:=w.heap.size + 1) (by simp) (by go_simp)
  have fe1:=frozen_later (i:=1) hb (b:=w.heap.size + 1) (by simp) (by go_simp)
  have fe2:=frozen_later (i:=2) hb (b:=w.heap.size + 1) (by simp) (by go_simp)
  have hlt:w.heap.size + 1 < w5.heap.size:=hB5.out.2
  clear hS5
  go_wp2_with fail
  refine bodyPost_ret (v := .tuple #[.agg #[.string t.name, .int .i64 t.syn, .bool t.single], .bool ok]) (by simp only [results,Tryz.results106]; go_simp) rfl ?_
  refine ⟨rfl, ?_⟩
  have hf:w.heap.size <= w.heap.size + 1:=Nat.le_succ _
  have hg:w.heap.size <= w.heap.size + 1 + 1:=Nat.le_succ_of_le (Nat.le_succ _)
  exact (below_set1 (below_set1 (below_set1 (hB5.out.1) (w.heap.size + 1) 0 hf _) (w.heap.size + 1) 1 hf _) (w.heap.size + 1) 2 hf _).alloc (by simp only [set_size]; omega) _
 ·go_simp
  refine hK.out _ _ ?_ (fun hHeld => ?_)
  ·exact lsees_below HL.out (by assumption) ((Below.refl _ _).alloc (Nat.le_refl _) _)
  clear hK K
  try simp only [Act.put,lsA,lsZ,lsS]
  refine rgC 3 (fun K hK => ?_)
  go_simp
  refine (lower_s n _ hn).mono ?_
  rintro e w5 ⟨rfl,hb⟩
  have c0:w5.cell? ⟨w.heap.size + 1 + 1,0,none⟩=some (.string ⟨#[]⟩):=cell_later hb (by go_simp)
  have c1:w5.cell? ⟨w.heap.size + 1 + 1,1,none⟩=some (.int .i64 0):=cell_later hb (by go_simp)
  have c2:w5.cell? ⟨w.heap.size + 1 + 1,2,none⟩=some (.bool false):=cell_later hb (by go_simp)
  have fc0:=frozen_later (i:=0) hb (b:=w.heap.size + 1 + 1) (by simp) (by go_simp)
  have fc1:=frozen_later (i:=1) hb (b:=w.heap.size + 1 + 1) (by simp) (by go_simp)
  have fc2:=frozen_later (i:=2) hb (b:=w.heap.size + 1 + 1) (by simp) (by go_simp)
  go_wp2_with fail
  refine hK.out _ _ ?_ (fun hHeld => ?_)
  ·exact lsees_below HL.out (by assumption) hb
  clear hK K
  try simp only [Act.put,lsA,lsZ,lsS]
  refine rgT 4 (some 13) ?_
  refine rgT 5 (some 8) ?_
  refine rgT 6 (some 14) ?_
  refine rgT 7 (some 15) ?_
  refine rgC 9 (fun K hK => ?_)
  go_simp
  refine hK.out _ _ ?_ (fun hHeld => ?_)
  ·exact (lsees_set HL.out (w.heap.size + 1 + 1) 2 _ (Nat.lt_succ_of_le (Nat.le_succ _)) (lsees_set HL.out (w.heap.size + 1 + 1) 1 _ (Nat.lt_succ_of_le (Nat.le_succ _)) (lsees_set HL.out (w.heap.size + 1 + 1) 0 _ (Nat.lt_succ_of_le (Nat.le_succ _)) (by assumption))))
  clear hK K
  try simp only [Act.put,lsA,lsZ,lsS]
  refine rgT 10 (some 7) ?_
  refine wpAnyH_done (by kernel_rfl) ?_ _
  have hS5:(fun W=>W.cell? ⟨w.heap.size,0,none⟩=some (.map mt) /\ (Instr.lookup 127 (.map mt) (.string (lowS n)) true).run Tryz.prog W = .ok (.tuple #[.agg #[.string t.name, .int .i64 t.syn, .bool t.single], .bool ok]) W /\ Hid (Below w.heap.size w W /\ w.heap.size + 2 <= W.heap.size)) w5:=by assumption
  have hB5:=hS5.2.2
  have e0:w5.cell? ⟨w.heap.size + 1,0,none⟩=some (.string ⟨#[]⟩):=cell_later hb (by go_simp)
  have e1:w5.cell? ⟨w.heap.size + 1,1,none⟩=some (.int .i64 0):=cell_later hb (by go_simp)
  have e2:w5.cell? ⟨w.heap.size + 1,2,none⟩=some (.bool false):=cell_later hb (by go_simp)
  have fe0:=frozen_later (i:=0) hb (b:=w.heap.size + 1) (by simp) (by go_simp)
  have fe1:=frozen_later (i:=1) hb (b:=w.heap.size + 1) (by simp) (by go_simp)
  have fe2:=frozen_later (i:=2) hb (b:=w.heap.size + 1) (by simp) (by go_simp)
  have hlt:w.heap.size + 1 < w5.heap.size:=hB5.out.2
  clear hS5
  go_wp2_with fail
  refine bodyPost_ret (v := .tuple #[.agg #[.string t.name, .int .i64 t.syn, .bool t.single], .bool ok]) (by simp only [results,Tryz.results106]; go_simp) rfl ?_
  refine ⟨rfl, ?_⟩
  have hf:w.heap.size <= w.heap.size + 1:=Nat.le_succ _
  have hg:w.heap.size <= w.heap.size + 1 + 1:=Nat.le_succ_of_le (Nat.le_succ _)
  exact below_set1 (below_set1 (below_set1 (below_set1 (below_set1 (below_set1 (hB5.out.1) (w.heap.size + 1 + 1) 0 hg _) (w.heap.size + 1 + 1) 1 hg _) (w.heap.size + 1 + 1) 2 hg _) (w.heap.size + 1) 0 hf _) (w.heap.size + 1) 1 hf _) (w.heap.size + 1) 2 hf _
end Go.Proofs.YtmmdaegdkikkpaaGreatDoor
end
