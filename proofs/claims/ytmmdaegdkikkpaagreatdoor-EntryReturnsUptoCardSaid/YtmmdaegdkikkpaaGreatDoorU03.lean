/-
  Texts of the schema layer and of those beneath it, joined: AttAsc, AttSet, AttNew, AttCk, AttSrt, CodecA, CodecB, ShelfB, CodecBuild, CodecStr, CodecC, CodecDec, CodecInt, CodecIntP, CodecEsc, CodecREsc, CodecRInt, CodecRInt2, CodecUn, CodecP. Conditions stand at each contract.
-/
import Derived.Sort.OwnSorted
import Derived.Lib.Builder
import Derived.Lib.AppendStr
import Derived.Laws.Externs
import Derived.Laws.RangeAny
import Derived.Laws.RangeString
import Derived.Lib.RuneCount
import Derived.Lib.AtoiAllCases
import Derived.Lib.LaidTab
import Derived.Lib.ItoaLen
import Derived.Test.YtmmdaegdkikkpaaGreatDoorU02
set_option linter.unusedVariables false
set_option linter.unusedSimpArgs false
set_option linter.unnecessarySimpa false

section
set_option maxRecDepth 100000
namespace Go.Proofs.YtmmdaegdkikkpaaGreatDoor
open Go.RowKit Go.PlainAid Go.Sort Go.Lib
def toB (x:List UInt8):ByteArray:=⟨x.toArray⟩
theorem toB_list (s:ByteArray):toB s.data.toList=s:=Lib.mk_data s
theorem enc_cells (ss:List (List UInt8)):ss.map encStr=scells (ss.map toB):=by unfold scells; rw [List.map_map]; rfl
theorem cells_enc (l:List ByteArray):scells l=(l.map fun s=>s.data.toList).map encStr:=by
 rw [enc_cells,List.map_map]; congr 1
 exact ((List.map_congr_left fun s _=>toB_list s).trans (List.map_id _)).symm
theorem comp_inv (d:Array (List UInt8)) (hs:∀ i j,i <= j -> j < d.size -> d[i]! <= d[j]!):∀ m,m <= d.size -> (compactUpTo d m).Pairwise (· < ·) /\ ∀ x,x ∈ compactUpTo d m ↔ ∃ j,j < m /\ d[j]! = x
 | 0,_=>⟨by simp [compactUpTo],fun x=>by simp [compactUpTo]⟩
 | m + 1,hm=>by
  obtain ⟨h1,h2⟩:=comp_inv d hs m (by omega)
  rw [compactUpTo_succ]
  by_cases hk:keeps d m=true
  ·rw [if_pos hk]
   have hk':m=0 ∨ d[m]! ≠ d[m - 1]!:=of_decide_eq_true hk
   refine ⟨List.pairwise_append.2 ⟨h1,List.pairwise_singleton _ _,fun x hx y hy => ?_⟩,fun x => ?_⟩
   ·rw [List.mem_singleton.1 hy]
    obtain ⟨j,hj,rfl⟩:=(h2 x).1 hx
    refine List.not_le.1 fun hle => ?_
    rcases hk' with e | e
    ·omega
    ·have a1:=hs j (m - 1) (by omega) (by omega)
     have a2:=hs (m - 1) m (by omega) (by omega)
     exact e (List.le_antisymm (List.le_trans hle a1) a2)
   ·rw [List.mem_append,h2 x,List.mem_singleton]
    constructor
    ·rintro (⟨j,hj,e⟩ | e)
     ·exact ⟨j,by omega,e⟩
     ·exact ⟨m,by omega,e.symm⟩
    ·rintro ⟨j,hj,e⟩
     by_cases ej:j=m
     ·subst ej; exact .inr e.symm
     ·exact .inl ⟨j,by omega,e⟩
  ·rw [if_neg hk,List.append_nil]
   refine ⟨h1,fun x => ?_⟩
   rw [h2 x]
   have hk':¬ (m=0 ∨ d[m]! ≠ d[m - 1]!):=fun h=>hk (decide_eq_true h)
   constructor
   ·rintro ⟨j,hj,e⟩; exact ⟨j,by omega,e⟩
   ·rintro ⟨j,hj,e⟩
    by_cases ej:j=m
    ·subst ej
     refine ⟨j - 1,by omega, ?_⟩
     rw [<- e]
     exact (Classical.not_not.1 fun h=>hk' (.inr h)).symm
    ·exact ⟨j,by omega,e⟩
theorem compact_sorted (l:List ByteArray):(compact ((l.map fun s=>s.data.toList).mergeSort fun x y=>decide (x <= y))).map toB=sortU l:=by
 obtain ⟨ss,hss⟩:∃ ss,(l.map fun s=>s.data.toList)=ss:=⟨_,rfl⟩
 rw [hss]
 have hs:=List.pairwise_mergeSort (le:=fun (x y:List UInt8)=>decide (x <= y)) (fun a b c h1 h2=>decide_eq_true (List.le_trans (of_decide_eq_true h1) (of_decide_eq_true h2))) (fun a b=>by
  rcases List.le_total a b with k | k
  ·simp [k]
  ·simp [k]) ss
 have hp:=List.mergeSort_perm ss (fun x y=>decide (x <= y))
 obtain ⟨zs,hz⟩:∃ zs,(ss.mergeSort fun x y=>decide (x <= y))=zs:=⟨_,rfl⟩
 rw [hz] at hs hp ⊢
 have hg:∀ i j,i <= j -> j < zs.toArray.size -> zs.toArray[i]! <= zs.toArray[j]!:=fun i j hij hj=>by
  have hj':j < zs.length:=by simpa using hj
  rw [getElem!_pos zs.toArray i (by omega),getElem!_pos zs.toArray j hj]
  rcases Nat.lt_or_ge i j with k | k
  ·exact of_decide_eq_true (List.pairwise_iff_getElem.1 hs i j (by omega) hj' k)
  ·have e:i=j:=by omega
   subst e; exact List.le_refl _
 obtain ⟨h1,h2⟩:=comp_inv zs.toArray hg zs.length (by simp)
 refine asc_ext ?_ (sortU_asc l) fun x => ?_
 ·unfold Asc
  rw [List.pairwise_map]
  refine h1.imp fun {a b} h => ?_
  have:=(lt_cmp a b).1 h
  simpa [cmpS,toB] using this
 ·rw [List.mem_map,sortU_mem]
  have hm:∀ y,y ∈ compact zs ↔ y ∈ ss:=fun y=>by
   unfold compact
   rw [h2 y, <- hp.mem_iff]
   constructor
   ·rintro ⟨j,hj,e⟩
    rw [getElem!_pos zs.toArray j (by simpa using hj)] at e
    rw [<- e]; simp
   ·intro hy
    obtain ⟨j,hj,e⟩:=List.getElem_of_mem hy
    exact ⟨j,hj,by rw [getElem!_pos zs.toArray j (by simpa using hj)]; simpa using e⟩
  constructor
  ·rintro ⟨y,hy,rfl⟩
   rw [hm y, <- hss,List.mem_map] at hy
   obtain ⟨s,hs',rfl⟩:=hy
   rw [toB_list]; exact hs'
  ·intro hx
   exact ⟨x.data.toList,(hm _).2 (by rw [<- hss]; exact List.mem_map_of_mem hx),toB_list x⟩
theorem comp_le (zs:List (List UInt8)):(compact zs).length <= zs.length:=by
 unfold compact compactUpTo
 rw [List.length_map]
 exact Nat.le_trans (List.length_filter_le _ _) (by simp)
theorem grow_none (w:World):grow w #[]=w:=by unfold grow; simp
theorem grown_two {w w1 w2:World} {row:Option Nat} (h:w.grownBy w1 row) (k:w1.grownBy w2 row):w.grownBy w2 row:=
 ⟨k.os.trans h.os,k.tape.trans h.tape,k.output.trans h.output,Nat.le_trans h.size k.size,fun j hj hne=>(k.block j (Nat.lt_of_lt_of_le hj h.size) hne).trans (h.block j hj hne)⟩
theorem sort_len (ss:List (List UInt8)):(ss.mergeSort fun x y=>decide (x <= y)).length=ss.length:=(List.mergeSort_perm ss _).length_eq
set_option maxHeartbeats 1000000 in
theorem ascending_s (base n:Nat) (v:Value) (l:List ByteArray) (w:World) (hown:w.ownsRow base 9 1 v n (scells l)) (hl:l.length=n) (hn:n <= 1100000) :
  Calls Tryz.prog 103 #[v] w fun e w'=>∃ u,e = .returned u /\ w'.ownsRow base 9 1 u (sortU l).length (scells (sortU l)) /\ w.grownBy w' v.ownBlock /\ u.ownBlock=v.ownBlock:=by
 rcases hown.2 with ⟨rfl,h0⟩ | ⟨g,cap,cur,rfl,hg,hb,hc,hm,hcs,ht⟩
 ·subst h0
  have hl0:l = []:=List.length_eq_zero_iff.1 hl
  subst hl0
  go_enter Tryz.func103,Tryz.ntmps103
  go_wp2_with fail
  refine (AnyM.slices_Sort_string_none Tryz.sort none 0 _).mono ?_
  rintro e w1 ⟨rfl,rfl⟩
  go_wp2_with fail
  refine (AnyG.slices_Compact_string_empty Tryz.compact none 0 _).mono ?_
  rintro e w1 ⟨rfl,rfl⟩
  go_wp2_with fail
  go_ret
  exact ⟨_,rfl,World.ownsRow_nil _ _ _ _,⟨rfl,rfl,rfl,Nat.le_refl _,fun _ _ _=>rfl⟩,rfl⟩
 ·subst hl
  obtain ⟨ss,hss⟩:∃ ss,(l.map fun s=>s.data.toList)=ss:=⟨_,rfl⟩
  have hsl:ss.length=l.length:=by rw [<- hss,List.length_map]
  have hgl:g < w.heap.size:=by
   rcases Nat.lt_or_ge g w.heap.size with h' | h'
   ·exact h'
   ·simp [Array.getElem?_eq_none h'] at hb
  have hH:Holds encStr w g 0 ss.toArray:=holds_of_block hb (by rw [hsl, <- hss, <- cells_enc]; simpa using ht)
  obtain ⟨ts,hts⟩:∃ ts,(ss.mergeSort fun x y=>decide (x <= y))=ts:=⟨_,rfl⟩
  have htl:ts.length=ss.length:=by rw [<- hts]; exact sort_len ss
  obtain ⟨cs,hcs'⟩:∃ cs,compact ts=cs:=⟨_,rfl⟩
  have hcl:cs.length <= ts.length:=by rw [<- hcs']; exact comp_le ts
  have HE:=Lib.hid (show cs.map toB=sortU l by rw [<- hcs', <- hts, <- hss]; exact compact_sorted l)
  have hS:=AnyM.slices_Sort_string Tryz.sort g 0 cap ss w hH hgl (by omega)
  rw [hsl,hts] at hS
  have HS:=Lib.hid hS
  have hC:∀ (m:Nat) (os:Array Obj),Calls Tryz.prog 164 #[.slice (some ⟨g,0,none⟩) l.length cap] (grow (putRow encStr (Sort.ahead w m) g 0 ts.toArray) os) fun e w' =>
    e = .returned (.slice (some ⟨g,0,none⟩) cs.length cap) /\ w'.ownsRow base 9 1 (.slice (some ⟨g,0,none⟩) cs.length cap) cs.length (scells (cs.map toB)) /\ w.grownBy w' (some g):=by
   intro m os
   have ho1:=ownsRow_sorted (w:=w) (n:=m) (os:=os) (ss:=ss) (ts:=ts) htl hg hb (by omega) hm (by omega)
   obtain ⟨_,h2⟩:=ho1
   rcases h2 with ⟨h2,_⟩ | ⟨g',cap',cur',h2,_,hb',_,_,hcs2,ht'⟩
   ·cases h2
   ·simp only [Value.slice.injEq,Option.some.injEq,Addr.mk.injEq,and_true] at h2
    obtain ⟨rfl,_,rfl⟩:=h2
    have hH2:=holds_of_block (ss:=ts) hb' (by rw [htl]; simpa using ht')
    have h:=AnyG.slices_Compact_string Tryz.compact g 0 cap ts _ hH2 (by omega) (by omega)
    rw [hcs',show ts.length=l.length by omega] at h
    refine h.mono ?_
    rintro e w' ⟨rfl,q,rfl⟩
    refine ⟨rfl, ?_, ?_⟩
    ·obtain ⟨W1,hW1⟩:∃ W1,grow (putRow encStr (Sort.ahead w m) g 0 ts.toArray) os=W1:=⟨_,rfl⟩
     rw [hW1] at hb' ⊢
     have ho2:=ownsRow_sorted (n:=q) (os := #[]) (ss:=ts) (ts:=cs ++ List.replicate (l.length - cs.length) []) (by rw [List.length_append,List.length_replicate]; omega) hg hb' (by omega) hm (by omega)
     rw [grow_none] at ho2
     rcases ho2.2 with ⟨h2,_⟩ | ⟨g',cap',cur'',h2,_,hb'',_,_,hcs3,ht''⟩
     ·cases h2
     ·simp only [Value.slice.injEq,Option.some.injEq,Addr.mk.injEq,and_true] at h2
      obtain ⟨rfl,_,rfl⟩:=h2
      refine ⟨by simp [scells], .inr ⟨g,cap,cur'',rfl,hg,hb'',by omega,hm,hcs3, ?_⟩⟩
      rw [<- enc_cells,Nat.mul_one]
      rw [Nat.mul_one] at ht''
      have h3:=congrArg (List.take cs.length) ht''
      rw [List.take_take,Nat.min_eq_left (by omega),List.map_append,List.take_append_of_le_length (by simp), <- List.map_take,List.take_length] at h3
      exact h3
    ·have h1:=grownBy_sorted (w:=w) (g:=g) (n:=m) (os:=os) ts.toArray
     have h2:=grownBy_sorted (w:=grow (putRow encStr (Sort.ahead w m) g 0 ts.toArray) os) (g:=g) (n:=q) (os := #[]) (cs ++ List.replicate (l.length - cs.length) []).toArray
     rw [grow_none] at h2
     exact grown_two h1 h2
  go_enter Tryz.func103,Tryz.ntmps103
  go_wp2_with fail
  refine HS.out.mono ?_
  rintro e w1 ⟨rfl,m,os,rfl⟩
  go_wp2_with fail
  refine (hC m os).mono ?_
  rintro e w1 ⟨rfl,ho,hg2⟩
  go_wp2_with fail
  go_ret
  have he:=HE.out
  exact ⟨_,rfl,by rw [<- he,List.length_map]; exact ho,hg2,rfl⟩
end Go.Proofs.YtmmdaegdkikkpaaGreatDoor
end

section
set_option maxRecDepth 100000
namespace Go.Proofs.YtmmdaegdkikkpaaGreatDoor
open Go.RowKit Go.PlainAid Go.Maps Go.ChangeMaps
variable {H:Type}
structure SetM (w:World) (b n:Nat) (D:DataW H) (ks:List ByteArray):Prop where
 map:w.ownsMap Tryz.prog 9 (plainElem Tryz.prog 4) b n D
 reads:∀ k:ByteArray,D.atKey (klit k) (.lit (.bool false)) = .lit (.bool (memB ks k))
theorem plain_bool {P:Program} {e:TypeId} {v:Value} {x:Bool} {ps:List MemPlace} (he:P.underlying e=some .bool) (h:plainElem (H:=H) P e v=some (.lit (.bool x),ps)):v = .bool x:=by
 unfold plainElem at h
 rw [he] at h
 cases v <;> simp at h
 rw [h.1]
theorem memB_snoc (ks:List ByteArray) (s k:ByteArray):memB (ks ++ [s]) k=(memB ks k || decide (s=k)):=by
 unfold memB; rw [List.any_append]; simp
theorem setM_made (w:World):SetM (H:=H) (w.alloc (.map #[] 0)) w.heap.size 0 (.map []) [] where
 map:=World.ownsMap_made w _ _ _
 reads k:=rfl
theorem SetM.look {w:World} {b n:Nat} {D:DataW H} {ks:List ByteArray} (G:SetM w b n D ks) (k:ByteArray) (hk:k.size <= maxLen) :
  (Instr.lookup 150 (.map (some b)) (.string k) false).run Tryz.prog w = .ok (.bool (memB ks k)) w:=by
 obtain ⟨v,ps,hrun,hv⟩:=G.map.lookup (t:=150) (e:=4) (string_keyed Tryz.underlying9) Tryz.underlying150 (z := .bool false) (Tryz.zeroValue4 _) (plainElem_bool Tryz.underlying4 false) (klit_key k hk)
 rw [G.reads k] at hv
 have hv':v = .bool (memB ks k):=plain_bool Tryz.underlying4 hv
 rw [hrun,hv']
theorem SetM.store {w:World} {b n:Nat} {D:DataW H} {ks:List ByteArray} (G:SetM w b n D ks) (k:ByteArray) (hk:k.size <= maxLen) (hn:n < maxLen) :
  ∃ w',(Instr.mapUpdate 150 (.map (some b)) (.string k) (.bool true)).run Tryz.prog w = .ok () w' /\ SetM w' b (n + 1) (D.put (klit k) (.lit (.bool true))) (ks ++ [k]) /\ w.grownBy w' (some b):=by
 obtain ⟨w',hrun,hm,hg⟩:=G.map.update (t:=150) (e:=4) (string_keyed Tryz.underlying9) Tryz.underlying150 hn (klit_key k hk) (plainElem_bool Tryz.underlying4 true)
 refine ⟨w',hrun,⟨hm,fun j => ?_⟩,hg⟩
 rw [memB_snoc]
 by_cases e:k=j
 ·subst e
  rw [atKey_put_same G.map.isMap (by unfold klit; trivial)]; simp
 ·rw [atKey_put_other (fun h=>e (klit_one h).symm),G.reads j]
  simp [e]
theorem SetM.kept {w w':World} {b n:Nat} {D:DataW H} {ks:List ByteArray} {row:Option Nat} (G:SetM w b n D ks) (hg:w.grownBy w' row) (hne:some b ≠ row):SetM w' b n D ks:=⟨G.map.kept hg hne,G.reads⟩
set_option maxRecDepth 100000 in
set_option maxHeartbeats 2000000 in
theorem setOf_s (ao:Option Addr) (n cap:Nat) (ps:List ByteArray) (w:World) (h:StrsAt w ao n cap ps) (hn:n <= 1100000) (hS:SmallS ps) :
  Calls Tryz.prog 193 #[.slice ao n cap] w fun e w'=>e = .returned (.map (some w.heap.size)) /\ (∃ D,SetM (H:=Unit) w' w.heap.size n D ps) /\ Below w.heap.size w w':=by
 obtain ⟨h1,h2,h3,h4⟩:=h
 subst h1
 unfold maxLen at h3
 have H4:=Lib.hid h4; clear h4
 have HS:=Lib.hid hS; clear hS
 have hB0:Below w.heap.size w (w.alloc (.map #[] 0)):=(Below.refl _ _).alloc (Nat.le_refl _) _
 have G0:=setM_made (H:=Unit) w
 have hmm := @run_makeMap Tryz.prog
 go_enter Tryz.func193,Tryz.ntmps193
 go_wp2
 clear hmm
 go_loopw [5,9] (fun s i wr=>∃ (k:Nat) (D:DataW Unit),k <= ps.length /\ i = .int .i64 k /\ Hid (SetM wr w.heap.size k D (ps.take k)) /\ Hid (Below w.heap.size w wr)) (fun _ i _=>ps.length - (intOf i).toNat)
 case atStart=>exact ⟨0,_,Nat.zero_le _,rfl,Lib.hid G0,Lib.hid hB0⟩
 case round =>
  obtain ⟨k,D,hk,rfl,HG,HB⟩:=hrel
  by_cases hlt:k < ps.length
  ·obtain ⟨b,off,rfl,hs⟩:=H4.out (by omega)
   have hcell:=(hs.below HB.out hs.1).2 k hlt
   clear hs
   obtain ⟨p,hpe⟩:∃ p,partAt ps k=p:=⟨_,rfl⟩
   have hps:p.size <= 1100000:=by rw [<- hpe]; exact HS.out _ (part_mem ps k hlt)
   rw [hpe] at hcell
   have HT:=Lib.hid (show ps.take (k + 1)=ps.take k ++ [p] by rw [<- hpe]; exact take_snoc ps k hlt)
   clear hpe
   obtain ⟨w',hrun,HG',hgr⟩:=HG.out.store p (by unfold maxLen; omega) (by unfold maxLen; omega)
   have HG2:=Lib.hid HG'
   have HB2:=Lib.hid (HB.out.grown hgr (HB.out.size) (fun j hj=>by cases hj; exact Nat.le_refl _))
   clear HG' hgr
   have d1:(k:Int) < (ps.length:Int):=by omega
   go_wp2_with fail
   go_roundw
   case rel=>exact ⟨k + 1,_,by omega,by go_num,by rw [HT.out]; exact HG2,HB2⟩
   case measure=>simp [intOf]; omega
  ·have hke:k=ps.length:=by omega
   subst hke
   go_wp2_with fail
   go_ret
   have hg:=HG.out
   rw [List.take_length] at hg
   exact ⟨rfl,⟨D,hg⟩,HB.out⟩
theorem memB_app (a b:List ByteArray) (s:ByteArray):memB (a ++ b) s=(memB a s || memB b s):=by unfold memB; rw [List.any_append]
theorem errV_form {vs old:List ByteArray} {j:Nat} {p:ByteArray} (hp:partAt vs j=p):errV vs old j=if cleanB p=false then 4 else if memB (old ++ vs.take j) p=true then 7 else 0:=by
 unfold errV
 rw [hp,memB_app]
 cases cleanB p <;> cases memB old p <;> cases memB (vs.take j) p <;> simp
set_option maxRecDepth 100000 in
set_option maxHeartbeats 2000000 in
theorem checkNew_s (ao bo:Option Addr) (n m cap dap:Nat) (old vs:List ByteArray) (w:World) (h:StrsAt w ao n cap old) (k:StrsAt w bo m dap vs) (hn:n <= 1100000) (hm:m <= 1100000) (hS:SmallS old) (hV:SmallS vs) :
  Calls Tryz.prog 128 #[.slice ao n cap, .slice bo m dap] w fun e w'=>e = .returned (.int .i64 (chkV vs old)) /\ Below w.heap.size w w':=by
 have HO:=Lib.hid (setOf_s ao n cap old w h hn hS)
 obtain ⟨k1,k2,k3,k4⟩:=k
 subst k1
 unfold maxLen at k3
 have K4:=Lib.hid k4; clear k4
 have HV:=Lib.hid hV; clear hV
 go_enter Tryz.func128,Tryz.ntmps128
 go_wp2_with fail
 refine HO.out.mono ?_
 rintro e w1 ⟨rfl,⟨D0,hG⟩,hb⟩
 have HG0:=Lib.hid hG
 have HB0:=Lib.hid hb
 clear hG hb HO
 go_wp2
 go_loopw [7,12,16,20] (fun s i u v wr=>∃ (j:Nat) (D:DataW Unit),j <= vs.length /\ i = .int .i64 j /\ Hid (∀ q,q < j -> errV vs old q=0) /\ Hid (SetM wr w.heap.size (n + j) D (old ++ vs.take j)) /\ Hid (Below w.heap.size w wr)) (fun _ i _ _ _=>vs.length - (intOf i).toNat)
 case atStart=>exact ⟨0,D0,Nat.zero_le _,rfl,Lib.hid (fun q hq=>absurd hq (Nat.not_lt_zero _)),Lib.hid (by simpa using HG0.out),HB0⟩
 case round =>
  obtain ⟨j,D,hj,rfl,HA,HG,HB⟩:=hrel
  by_cases hlt:j < vs.length
  ·obtain ⟨b,off,rfl,hs⟩:=K4.out (by omega)
   have hcell:=(hs.below HB.out hs.1).2 j hlt
   clear hs
   obtain ⟨p,hpe⟩:∃ p,partAt vs j=p:=⟨_,rfl⟩
   have hps:p.size <= 1100000:=by rw [<- hpe]; exact HV.out _ (part_mem vs j hlt)
   rw [hpe] at hcell
   have HF:=Lib.hid (errV_form (vs:=vs) (old:=old) (j:=j) hpe)
   have HT:=Lib.hid (show old ++ vs.take (j + 1)=(old ++ vs.take j) ++ [p] by rw [<- hpe,take_snoc vs j hlt,List.append_assoc])
   clear hpe
   have d1:(j:Int) < (vs.length:Int):=by omega
   cases hc:cleanB p
   ·have HR:=Lib.hid (show chkV vs old=4 by
     have e:errV vs old j=4:=by rw [HF.out,if_pos hc]
     unfold chkV; rw [firstE_hit HA.out (by rw [e]; decide) hlt,e])
    have HCL:=Lib.hid hc
    clear hc
    go_wp2_with (go_at_call 167; refine (clean_s p _ (by omega)).mono ?_; rintro e w' ⟨rfl,rfl⟩; rw [HCL.out])
    go_ret
    exact ⟨by rw [HR.out]; rfl,HB.out⟩
   ·have HCL:=Lib.hid hc
    clear hc
    have hlook:=HG.out.look p (by unfold maxLen; omega)
    cases hm2:memB (old ++ vs.take j) p
    ·have HZ:=Lib.hid (show errV vs old j=0 by rw [HF.out,HCL.out,hm2]; simp)
     rw [hm2] at hlook
     clear hm2
     obtain ⟨w',hrun,HG',hgr⟩:=HG.out.store p (by unfold maxLen; omega) (by unfold maxLen; omega)
     have HG2:=Lib.hid HG'
     have HB2:=Lib.hid (HB.out.grown hgr (HB.out.size) (fun j hj=>by cases hj; exact Nat.le_refl _))
     clear HG' hgr
     go_wp2_with (go_at_call 167; refine (clean_s p _ (by omega)).mono ?_; rintro e w' ⟨rfl,rfl⟩; rw [HCL.out])
     go_roundw
     case rel =>
      refine ⟨j + 1,_,by omega,by go_num,Lib.hid fun q hq => ?_,by rw [HT.out]; exact HG2,HB2⟩
      by_cases e:q=j
      ·rw [e]; exact HZ.out
      ·exact HA.out q (by omega)
     case measure=>simp [intOf]; omega
    ·have HR:=Lib.hid (show chkV vs old=7 by
      have e:errV vs old j=7:=by rw [HF.out,HCL.out,hm2]; simp
      unfold chkV; rw [firstE_hit HA.out (by rw [e]; decide) hlt,e])
     rw [hm2] at hlook
     clear hm2
     go_wp2_with (go_at_call 167; refine (clean_s p _ (by omega)).mono ?_; rintro e w' ⟨rfl,rfl⟩; rw [HCL.out])
     go_ret
     exact ⟨by rw [HR.out]; rfl,HB.out⟩
  ·have hke:j=vs.length:=by omega
   subst hke
   have HR:=Lib.hid (show chkV vs old=0 from firstE_zero HA.out)
   go_wp2_with fail
   go_ret
   exact ⟨by rw [HR.out]; rfl,HB.out⟩
def errA (l:List At) (j:Nat):Int:=
 if nameB (atD l j).1=false then 5 else if twiceB l j=true then 7 else if (atD l j).2.length=0 then 6 else if 16 < (atD l j).2.length then 3 else chkV (atD l j).2 []
def chkA (l:List At):Int:=if 32 < l.length then 3 else firstE (errA l) l.length
def lowN (l:List At):List ByteArray:=l.map fun a=>lowS a.1
theorem twice_mem (l:List At) (j:Nat):memB (lowN (l.take j)) (lowS (atD l j).1)=twiceB l j:=by
 unfold memB lowN twiceB
 rw [List.any_map]; rfl
theorem SetM.below {H:Type} {w w':World} {b n:Nat} {D:DataW H} {ks:List ByteArray} (G:SetM w b n D ks) (hb:Below w.heap.size w w'):SetM w' b n D ks:=
 G.kept (row:=none) ⟨hb.os,hb.tape,hb.output,hb.size,fun k hk _=>hb.block k hk⟩ (by simp)
def ABox (w:World) (b:Nat) (nm:ByteArray) (v:Value):Prop:=w.heap[b]? = some (.cells #[.string nm,v] 58)
theorem abox_new (w:World) (nm:ByteArray) (v:Value):ABox (w.alloc (.cells #[.string nm,v] 58)) w.heap.size nm v:=heap_alloc_new w _
theorem ABox.cells {w:World} {b:Nat} {nm:ByteArray} {v:Value} (h:ABox w b nm v):w.cell? ⟨b,0,none⟩=some (.string nm) /\ w.cell? ⟨b,1,none⟩=some v:=by
 unfold ABox at h
 exact ⟨by simp [World.cell?,h],by simp [World.cell?,h]⟩
theorem ABox.lt {w:World} {b:Nat} {nm:ByteArray} {v:Value} (h:ABox w b nm v):b < w.heap.size:=(Array.getElem?_eq_some_iff.1 h).1
theorem ABox.below {w w':World} {b:Nat} {nm:ByteArray} {v:Value} (h:ABox w b nm v) (hb:Below w.heap.size w w'):ABox w' b nm v:=(hb.block b h.lt).trans h
theorem ABox.grown {w w':World} {b:Nat} {nm:ByteArray} {v:Value} {row:Option Nat} (h:ABox w b nm v) (hg:w.grownBy w' row) (hne:some b ≠ row):ABox w' b nm v:=(hg.block b h.lt hne).trans h
def FewV (l:List At):Prop := ∀ a ∈ l,a.2.length <= 1100000
set_option maxRecDepth 100000 in
set_option maxHeartbeats 4000000 in
theorem check_s (ao:Option Addr) (n cap:Nat) (l:List At) (w:World) (h:AttrsAt w ao n cap l) (hS:SmallA l) (hF:FewV l) :
  Calls Tryz.prog 73 #[.slice ao n cap] w fun e w'=>e = .returned (.int .i64 (chkA l)) /\ Below w.heap.size w w':=by
 obtain ⟨h1,h2,h3,h4⟩:=h
 subst h1
 unfold maxLen at h3
 have H4:=Lib.hid h4; clear h4
 have HS:=Lib.hid hS; clear hS
 have HF:=Lib.hid hF; clear hF
 by_cases h32:32 < l.length
 ·have HR:=Lib.hid (show chkA l=3 from if_pos h32)
  have d0:decide ((32:Int) < (l.length:Int))=true:=decide_eq_true (by omega)
  go_enter Tryz.func73,Tryz.ntmps73
  go_wp2_with fail
  go_ret
  exact ⟨by rw [HR.out]; rfl,Below.refl _ _⟩
 ·have HR:=Lib.hid (show chkA l=firstE (errA l) l.length from if_neg h32)
  have d0:decide ((32:Int) < (l.length:Int))=false:=decide_eq_false (by omega)
  have hB0:Below w.heap.size w (w.alloc (.map #[] 0)):=(Below.refl _ _).alloc (Nat.le_refl _) _
  have G0:=setM_made (H:=Unit) w
  have hmm := @run_makeMap Tryz.prog
  go_enter Tryz.func73,Tryz.ntmps73
  go_wp2
  clear hmm d0
  go_loopw [5,6,7,14,21,26,30,35] (fun s5 s6 s7 i u21 u26 u30 u35 wr=>∃ (j:Nat) (D:DataW Unit),j <= l.length /\ i = .int .i64 j /\ Hid (∀ q,q < j -> errA l q=0) /\ Hid (SetM wr w.heap.size j D (lowN (l.take j))) /\ Hid (Below w.heap.size w wr)) (fun _ _ _ i _ _ _ _ _=>l.length - (intOf i).toNat)
  case atStart=>exact ⟨0,_,Nat.zero_le _,rfl,Lib.hid (fun q hq=>absurd hq (Nat.not_lt_zero _)),Lib.hid G0,Lib.hid hB0⟩
  case round =>
   obtain ⟨j,D,hj,rfl,HA,HG,HB⟩:=hrel
   by_cases hlt:j < l.length
   ·obtain ⟨b,off,rfl,hblt,hat⟩:=H4.out (by omega)
    obtain ⟨c0,vo,vn,vc,c1,hv⟩:=hat j hlt
    have c0:=cell_later HB.out c0
    have c1:=cell_later HB.out c1
    obtain ⟨nm,hnm⟩:∃ x,(atD l j).1=x:=⟨_,rfl⟩
    obtain ⟨vs,hvs⟩:∃ x,(atD l j).2=x:=⟨_,rfl⟩
    have hsz:=HS.out _ (at_mem l j hlt)
    have hfw:=HF.out _ (at_mem l j hlt)
    have HE:=Lib.hid (show errA l j=if nameB nm=false then 5 else if memB (lowN (l.take j)) (lowS nm)=true then 7 else if vs.length=0 then 6 else if 16 < vs.length then 3 else chkV vs [] by rw [<- hnm, <- hvs,twice_mem]; rfl)
    have HT:=Lib.hid (show lowN (l.take (j + 1))=lowN (l.take j) ++ [lowS nm] by rw [at_take l j hlt, <- hnm]; unfold lowN; rw [List.map_append]; rfl)
    rw [hnm] at c0 hsz
    rw [hvs] at hv hsz hfw
    clear hnm hvs hat
    have hns:=hsz.1
    have HVS:=Lib.hid hsz.2
    have HV:=Lib.hid hv
    have d1:(j:Int) < (l.length:Int):=by omega
    clear hsz hv
    go_wp2_with fail
    obtain ⟨W1,hW1⟩:∃ W1,wr.alloc (.cells #[.string nm, .slice vo vn vc] 58)=W1:=⟨_,rfl⟩
    have hbl1:Below wr.heap.size wr W1:=by rw [<- hW1]; exact (Below.refl _ wr).alloc (Nat.le_refl _) _
    have X1:ABox W1 wr.heap.size nm (.slice vo vn vc):=by rw [<- hW1]; exact abox_new wr nm _
    have HB1:=Lib.hid (HB.out.trans (hbl1.mono HB.out.size))
    have HG1:=Lib.hid (HG.out.below hbl1)
    rw [hW1]
    clear hW1
    refine (lower_s nm W1 (by omega)).mono ?_
    rintro e W2 ⟨rfl,hb⟩
    obtain ⟨b0,b1⟩:=(X1.below hb).cells
    have HX2:=Lib.hid (X1.below hb)
    have HB2:=Lib.hid (HB1.out.trans (hb.mono HB1.out.size))
    have HG2:=Lib.hid (HG1.out.below hb)
    have hwb:w.heap.size < wr.heap.size:=HG.out.map.lt
    have hls:(lowS nm).size <= 1100000:=by rw [lowS_size]; omega
    obtain ⟨lw,hlw⟩:∃ x,lowS nm=x:=⟨_,rfl⟩
    rw [hlw] at hls ⊢
    have HE2:=HE
    have HT2:=HT
    rw [hlw] at HE2 HT2
    clear hlw HE HT hb X1 HG1 HB1 hbl1
    have hvl:vs.length=vn:=HV.out.1
    cases hnb:nameB nm
    ·have HR2:=Lib.hid (show chkA l=5 by
      have e:errA l j=5:=by rw [HE2.out,if_pos hnb]
      rw [HR.out,firstE_hit HA.out (by rw [e]; decide) hlt,e])
     have HNB:=Lib.hid hnb
     clear hnb
     go_wp2_with (go_at_call 127; refine (name_s nm _ (by omega)).mono ?_; rintro e w' ⟨rfl,rfl⟩; rw [HNB.out])
     go_ret
     exact ⟨by rw [HR2.out]; rfl,HB2.out⟩
    ·have HNB:=Lib.hid hnb
     clear hnb
     have hlook:=HG2.out.look lw (by unfold maxLen; omega)
     cases hm2:memB (lowN (l.take j)) lw
     ·rw [hm2] at hlook
      have HM:=Lib.hid hm2
      clear hm2
      by_cases hz:vs.length=0
      ·have HR2:=Lib.hid (show chkA l=6 by
        have e:errA l j=6:=by rw [HE2.out,HNB.out,HM.out,if_neg (by decide),if_neg (by decide),if_pos hz]
        rw [HR.out,firstE_hit HA.out (by rw [e]; decide) hlt,e])
       have d2:((vn:Int) == 0)=true:=beq_iff_eq.2 (by omega)
       go_wp2_with (go_at_call 127; refine (name_s nm _ (by omega)).mono ?_; rintro e w' ⟨rfl,rfl⟩; rw [HNB.out])
       go_ret
       exact ⟨by rw [HR2.out]; rfl,HB2.out⟩
      ·have d2:((vn:Int) == 0)=false:=beq_eq_false_iff_ne.2 (by omega)
       by_cases h16:16 < vs.length
       ·have HR2:=Lib.hid (show chkA l=3 by
         have e:errA l j=3:=by rw [HE2.out,HNB.out,HM.out,if_neg (by decide),if_neg (by decide),if_neg hz,if_pos h16]
         rw [HR.out,firstE_hit HA.out (by rw [e]; decide) hlt,e])
        have d3:decide ((16:Int) < (vn:Int))=true:=decide_eq_true (by omega)
        go_wp2_with (go_at_call 127; refine (name_s nm _ (by omega)).mono ?_; rintro e w' ⟨rfl,rfl⟩; rw [HNB.out])
        go_ret
        exact ⟨by rw [HR2.out]; rfl,HB2.out⟩
       ·have d3:decide ((16:Int) < (vn:Int))=false:=decide_eq_false (by omega)
        have HC:=Lib.hid (show errA l j=chkV vs [] by rw [HE2.out,HNB.out,HM.out,if_neg (by decide),if_neg (by decide),if_neg hz,if_neg h16])
        obtain ⟨W3,hrun,HG',hgr⟩:=HG2.out.store lw (by unfold maxLen; omega) (by unfold maxLen; omega)
        have HG3:=Lib.hid HG'
        have HB3:=Lib.hid (HB2.out.grown hgr (HB2.out.size) (fun j hj=>by cases hj; exact Nat.le_refl _))
        have HX3:=Lib.hid (HX2.out.grown hgr (by intro e; have:=Option.some.inj e; omega))
        obtain ⟨b2,b3⟩:=HX3.out.cells
        have HV3:=Lib.hid (HV.out.below HB3.out)
        have HN3:=Lib.hid (show StrsAt W3 none 0 0 [] from ⟨rfl,Nat.le_refl _,by unfold maxLen; omega,fun h=>absurd h (Nat.lt_irrefl _)⟩)
        clear HG' hgr
        obtain ⟨r,hr⟩:∃ r,chkV vs []=r:=⟨_,rfl⟩
        have HRR:=Lib.hid hr
        clear hr
        by_cases hr0:r=0
        ·subst hr0
         go_wp2_with (first
          | (go_at_call 127; refine (name_s nm _ (by omega)).mono ?_; rintro e w' ⟨rfl,rfl⟩; rw [HNB.out])
          | (go_at_call 128; refine (checkNew_s none vo 0 vn 0 vc [] vs W3 HN3.out HV3.out (by omega) (by omega) (by intro v hv; cases hv) HVS.out).mono ?_; rintro e W4 ⟨rfl,hb⟩; rw [HRR.out]; have HB4:=Lib.hid (HB3.out.trans (hb.mono HB3.out.size)); have HG4:=Lib.hid (HG3.out.below hb)))
         go_roundw
         case rel =>
          refine ⟨j + 1,_,by omega,by go_num,Lib.hid fun q hq => ?_,by rw [HT2.out]; exact HG4,HB4⟩
          by_cases e:q=j
          ·rw [e,HC.out,HRR.out]
          ·exact HA.out q (by omega)
         case measure=>simp [intOf]; omega
        ·have HR2:=Lib.hid (show chkA l=r by
          have e:errA l j=r:=by rw [HC.out,HRR.out]
          rw [HR.out,firstE_hit HA.out (by rw [e]; exact hr0) hlt,e])
         have d4:(r == 0)=false:=beq_eq_false_iff_ne.2 hr0
         have d5:(r != 0)=true:=by unfold bne; rw [d4]; rfl
         clear hr0
         go_wp2_with (first
          | (go_at_call 127; refine (name_s nm _ (by omega)).mono ?_; rintro e w' ⟨rfl,rfl⟩; rw [HNB.out])
          | (go_at_call 128; refine (checkNew_s none vo 0 vn 0 vc [] vs W3 HN3.out HV3.out (by omega) (by omega) (by intro v hv; cases hv) HVS.out).mono ?_; rintro e W4 ⟨rfl,hb⟩; rw [HRR.out]; have HB4:=Lib.hid (HB3.out.trans (hb.mono HB3.out.size))))
         go_ret
         exact ⟨by rw [HR2.out]; rfl,HB4.out⟩
     ·have HR2:=Lib.hid (show chkA l=7 by
       have e:errA l j=7:=by rw [HE2.out,HNB.out,hm2,if_neg (by decide),if_pos rfl]
       rw [HR.out,firstE_hit HA.out (by rw [e]; decide) hlt,e])
      rw [hm2] at hlook
      clear hm2
      go_wp2_with (go_at_call 127; refine (name_s nm _ (by omega)).mono ?_; rintro e w' ⟨rfl,rfl⟩; rw [HNB.out])
      go_ret
      exact ⟨by rw [HR2.out]; rfl,HB2.out⟩
   ·have hke:j=l.length:=by omega
    subst hke
    have HR2:=Lib.hid (show chkA l=0 by rw [HR.out]; exact firstE_zero HA.out)
    go_wp2_with fail
    go_ret
    exact ⟨by rw [HR2.out]; rfl,HB.out⟩
theorem allV_snoc (l:List At) (a:At) (n:ByteArray):allV (l ++ [a]) n=allV l n ++ (if lowS a.1=n then a.2 else []):=by
 unfold allV
 rw [List.filter_append,List.flatMap_append]
 congr 1
 by_cases h:lowS a.1=n <;> simp [h]
structure United (w:World) (b k:Nat) (D:DataW Unit) (l:List At) (hv:ByteArray -> Value):Prop where
 grp:Groups w (b + 1) b k D (allV l) hv
 keys:∀ x:ByteArray,Maps.has D (klit x)=true ↔ x ∈ lowN l
theorem united_made (w:World):United (w.alloc (.map #[] 0)) w.heap.size 0 (.map []) [] (fun _ => .slice none 0 0) where
 grp:=groups_made w
 keys x:=by simp [lowN,Maps.has]
theorem Groups.below {H:Type} {w w':World} {base b n:Nat} {D:DataW H} {gv:ByteArray -> List ByteArray} {hv:ByteArray -> Value} (G:Groups w base b n D gv hv) (hb:Below w.heap.size w w'):Groups w' base b n D gv hv where
 map:=G.map.kept (row:=none) ⟨hb.os,hb.tape,hb.output,hb.size,fun k hk _=>hb.block k hk⟩ (by simp)
 low:=G.low
 reads:=G.reads
 own k:=own_below (G.own k) hb
 apart:=G.apart
theorem United.below {w w':World} {b k:Nat} {D:DataW Unit} {l:List At} {hv:ByteArray -> Value} (U:United w b k D l hv) (hb:Below w.heap.size w w'):United w' b k D l hv:=⟨U.grp.below hb,U.keys⟩
theorem United.store {w w1:World} {b k:Nat} {D:DataW Unit} {l:List At} {hv:ByteArray -> Value} (U:United w b k D l hv) (a:At) {lw:ByteArray} (hlw:lowS a.1=lw) (hk:lw.size <= maxLen) (hn:k < maxLen) {v':Value}
  (hg:w.grownBy w1 (hv lw).ownBlock) (hown:w1.ownsRow (b + 1) 9 1 v' ((allV l lw).length + a.2.length) (scells (allV l lw) ++ scells a.2)) (hl:v'.ownBlock=(hv lw).ownBlock ∨ v'.ownBlock=some w.heap.size) :
  ∃ w2 D2 hv2,(Instr.mapUpdate 112 (.map (some b)) (.string lw) v').run Tryz.prog w1 = .ok () w2 /\ United w2 b (k + 1) D2 (l ++ [a]) hv2 /\ w1.grownBy w2 (some b):=by
 have hown':w1.ownsRow (b + 1) 9 1 v' (allV l lw ++ a.2).length (scells (allV l lw ++ a.2)):=by
  rw [List.length_append]
  have:scells (allV l lw ++ a.2)=scells (allV l lw) ++ scells a.2:=by unfold scells; rw [List.map_append]
  rw [this]; exact hown
 obtain ⟨w2,d,hrun,G,hg2⟩:=U.grp.store lw hk hn hg hown' (hl.imp id fun e=>⟨_,e,Nat.le_refl _⟩)
 have e:setK (allV l) lw (allV l lw ++ a.2)=allV (l ++ [a]):=by
  funext n
  rw [allV_snoc,hlw]
  by_cases h:lw=n
  ·subst h; rw [setK_same,if_pos rfl]
  ·rw [setK_other _ _ (fun e=>h e.symm),if_neg h,List.append_nil]
 rw [e] at G
 refine ⟨w2,_,_,hrun,⟨G,fun x => ?_⟩,hg2⟩
 have hm:lowN (l ++ [a])=lowN l ++ [lw]:=by unfold lowN; rw [List.map_append, <- hlw]; rfl
 rw [hm,List.mem_append,List.mem_singleton]
 by_cases h:x=lw
 ·subst h
  rw [has_put_same U.grp.map.isMap (by unfold klit; trivial)]
  simp
 ·rw [has_put_other (fun e=>h (klit_one e)),U.keys x]
  simp [h]
def sumV (l:List At):Nat:=(l.map fun a=>a.2.length).sum
theorem sumV_cons (a:At) (l:List At):sumV (a :: l)=a.2.length + sumV l:=by unfold sumV; rw [List.map_cons,List.sum_cons]
theorem allV_cons (a:At) (l:List At) (n:ByteArray):allV (a :: l) n=(if lowS a.1=n then a.2 else []) ++ allV l n:=by
 unfold allV
 by_cases h:lowS a.1=n
 ·rw [List.filter_cons_of_pos (by simpa using h),List.flatMap_cons,if_pos h]
 ·rw [List.filter_cons_of_neg (by simpa using h),if_neg h]; rfl
theorem allV_len (n:ByteArray):∀ l:List At,(allV l n).length <= sumV l
 | []=>Nat.le_refl _
 | a :: l=>by
  rw [allV_cons,sumV_cons,List.length_append]
  have:=allV_len n l
  split
  ·omega
  ·simp; omega
theorem sumV_take:∀ (l:List At) (j:Nat),sumV (l.take j) <= sumV l
 | [],j=>by simp
 | a :: l,0=>by simp [sumV]
 | a :: l,j + 1=>by
  rw [List.take_succ_cons,sumV_cons,sumV_cons]
  have:=sumV_take l j
  omega
end Go.Proofs.YtmmdaegdkikkpaaGreatDoor
end

section
set_option maxRecDepth 100000
namespace Go.Proofs.YtmmdaegdkikkpaaGreatDoor
open Go.PlainAid
def plainI (c:Int):Bool:=decide (33 <= c) && decide (c <= 126) && !(c == 37) && !(c == 124) && !(c == 44) && !(c == 61) && !(c == 59) && !(c == 34)
def plainC (c:UInt8):Bool:=plainI (c.toNat:Int)
def hexC (d:Nat):UInt8:=if d < 10 then UInt8.ofNat (48 + d) else UInt8.ofNat (55 + d)
def escC (c:UInt8):List UInt8:=if plainC c then [c] else [37,hexC (c.toNat / 16),hexC (c.toNat % 16)]
def escL (l:List UInt8):List UInt8:=l.flatMap escC
def hexS:ByteArray:=⟨#[48,49,50,51,52,53,54,55,56,57,65,66,67,68,69,70]⟩
theorem hexC_table:∀ d:Nat,d < 16 -> bt hexS d=((hexC d).toNat:Int):=by decide +kernel
theorem escL_snoc (l:List UInt8) (c:UInt8):escL (l ++ [c])=escL l ++ escC c:=by simp [escL]
theorem escC_length (c:UInt8):(escC c).length <= 3:=by unfold escC; split <;> simp
theorem escL_length (l:List UInt8):(escL l).length <= 3 * l.length:=by
 induction l with
 | nil=>simp [escL]
 | cons c l ih =>
  have e:escL (c :: l)=escC c ++ escL l:=by simp [escL]
  rw [e,List.length_append,List.length_cons]
  have:=escC_length c
  omega
theorem escC_plain (c:UInt8) (h:plainC c=true):escC c = [c]:=by unfold escC; rw [if_pos h]
theorem escC_other (c:UInt8) (h:plainC c=false):escC c = [37,hexC (c.toNat / 16),hexC (c.toNat % 16)]:=by unfold escC; rw [if_neg (by simp [h])]
theorem hex_hi (x:Int) (c:UInt8) (h:x=(c.toNat:Int)):bt (⟨#[48,49,50,51,52,53,54,55,56,57,65,66,67,68,69,70]⟩:ByteArray) (x / 16).toNat=((hexC (c.toNat / 16)).toNat:Int):=by
 have hc:=c.toNat_lt
 have e:(x / 16).toNat=c.toNat / 16:=by omega
 rw [e]
 exact hexC_table _ (by omega)
theorem hex_lo (x:Int) (c:UInt8) (h:x=(c.toNat:Int)):bt (⟨#[48,49,50,51,52,53,54,55,56,57,65,66,67,68,69,70]⟩:ByteArray) (x % 16).toNat=((hexC (c.toNat % 16)).toNat:Int):=by
 have e:(x % 16).toNat=c.toNat % 16:=by omega
 rw [e]
 exact hexC_table _ (by omega)
def chr (s:ByteArray) (k:Nat):UInt8:=s.data.toList.getD k 0
theorem bt_chr (s:ByteArray) (k:Nat):bt s k=((chr s k).toNat:Int):=by
 unfold chr
 by_cases h:k < s.size
 ·rw [bt_at s k h,List.getD_eq_getElem?_getD,List.getElem?_eq_getElem (by simpa using h)]; rfl
 ·rw [bt_end s (by omega),List.getD_eq_getElem?_getD,List.getElem?_eq_none (by rw [<- Lib.size_eq]; omega)]; rfl
theorem take_chr (s:ByteArray) (k:Nat) (h:k < s.size):s.data.toList.take (k + 1)=s.data.toList.take k ++ [chr s k]:=by
 rw [take_succ s k h]; unfold chr; rw [List.getD_eq_getElem?_getD,List.getElem?_eq_getElem (by simpa using h)]; rfl
theorem esc_step (s:ByteArray) (k:Nat) (h:k < s.size):escL (s.data.toList.take (k + 1))=escL (s.data.toList.take k) ++ escC (chr s k):=by rw [take_chr s k h,escL_snoc]
theorem plain_chr (s:ByteArray) (k:Nat):plainC (chr s k)=plainI (bt s k):=by unfold plainC; rw [bt_chr]
def hexV (c:UInt8):Int:=Lib.indexByte hexS.data.toList c
theorem hexV_range:∀ n:Nat,n < 256 -> -1 <= hexV (UInt8.ofNat n) /\ hexV (UInt8.ofNat n) <= 15:=by decide +kernel
theorem hexV_le (c:UInt8) : -1 <= hexV c /\ hexV c <= 15:=by
 have:=hexV_range c.toNat c.toNat_lt
 rwa [UInt8.ofNat_toNat] at this
def decC (a b:UInt8):Option UInt8:=
 if hexV a < 0 ∨ hexV b < 0 then none else if plainI (16 * hexV a + hexV b) then none else some (UInt8.ofNat (16 * hexV a + hexV b).toNat)
def unesc:List UInt8 -> Option (List UInt8)
 | []=>some []
 | c :: r=>if c=37 then (match r with
   | a :: b :: r'=>match decC a b with
    | some d=>(unesc r').map (d :: ·)
    | none=>none
   | _=>none) else if plainC c then (unesc r).map (c :: ·) else none
def escO (t:ByteArray):Option UInt8:=if t.size < 2 then none else decC (chr t 0) (chr t 1)
theorem drop_chr (s:ByteArray) (i:Nat) (h:i < s.size):s.data.toList.drop i=chr s i :: s.data.toList.drop (i + 1):=by
 unfold chr
 rw [List.getD_eq_getElem?_getD,List.getElem?_eq_getElem (by simpa using h)]
 exact List.drop_eq_getElem_cons (by simpa using h)
theorem chr_dr (s:ByteArray) (i j:Nat):chr (dr s i) j=chr s (i + j):=by
 unfold chr dr
 rw [List.toList_toArray,List.getD_eq_getElem?_getD,List.getD_eq_getElem?_getD,List.getElem?_drop]
theorem unesc_pct (s:ByteArray) (i:Nat) (h:i < s.size) (h37:chr s i=37):unesc (s.data.toList.drop i)=match escO (dr s (i + 1)) with
  | some d=>(unesc (s.data.toList.drop (i + 3))).map (d :: ·)
  | none=>none:=by
 rw [drop_chr s i h]
 conv=>lhs; unfold unesc
 rw [if_pos h37]
 unfold escO
 rw [dr_size]
 by_cases h2:s.size - (i + 1) < 2
 ·rw [if_pos h2]
  have hl:(s.data.toList.drop (i + 1)).length < 2:=by rw [List.length_drop, <- Lib.size_eq]; exact h2
  match e:s.data.toList.drop (i + 1),hl with
  | [],_=>rfl
  | [x],_=>rfl
 ·rw [if_neg h2,drop_chr s (i + 1) (by omega),drop_chr s (i + 1 + 1) (by omega),chr_dr,chr_dr]
end Go.Proofs.YtmmdaegdkikkpaaGreatDoor
end

section
set_option maxRecDepth 100000
namespace Go.Proofs.YtmmdaegdkikkpaaGreatDoor
open Go.RowKit Go.PlainAid
theorem bsize:(Tryz.prog.info? 79).map (·.size)=some 2:=by kernel_rfl
theorem blies:liesAt Tryz.prog Tryz.prog.depth 79 (2 / Tryz.prog.cellsOf 79) 0 79 1=true:=by kernel_rfl
set_option maxHeartbeats 1000000 in
set_option maxRecDepth 100000 in
theorem check_used (b:Nat) (w:World) (h0:w.cell? ⟨b,0,none⟩=some (.pointer (some ⟨b,0,none⟩))) :
  Calls Tryz.prog 115 #[.pointer (some ⟨b,0,none⟩)] w fun e w'=>e = .returned (.tuple #[]) /\ w'=w:=by
 obtain ⟨j,hj,_⟩:=Option.map_eq_some_iff.1 bsize
 go_enter Tryz.func115,Tryz.ntmps115
 go_wp2
 rw [Lib.run_neq_ptr_same w _ Tryz.underlying76 hj]
 go_wp2
 go_end0
 exact ⟨rfl,rfl⟩
set_option maxHeartbeats 1000000 in
set_option maxRecDepth 100000 in
theorem check_fresh (b:Nat) (w:World) (h0:w.cell? ⟨b,0,none⟩=some (.pointer none)) (hsh:w.shape? b=some (79,2)) (hfz:w.frozen? ⟨b,0,none⟩=false) :
  Calls Tryz.prog 115 #[.pointer (some ⟨b,0,none⟩)] w fun e w'=>e = .returned (.tuple #[]) /\ w'=w.setCell ⟨b,0,none⟩ (.pointer (some ⟨b,0,none⟩)):=by
 obtain ⟨j,hj,hjs⟩:=Option.map_eq_some_iff.1 bsize
 go_enter Tryz.func115,Tryz.ntmps115
 go_wp2
 rw [Lib.run_to_unsafe w ⟨b,0,none⟩ Tryz.underlying76 Tryz.underlying180 hj (by rw [hjs]; decide) hsh (Nat.zero_lt_succ 1)]
 simp only [Result.andThen]
 rw [Oper.upon_value]
 go_wp2
 rw [run_callFunc_extern Tryz.func180 (by kernel_rfl) (by kernel_rfl) (by kernel_rfl) (e:=Extern.AbiNoEscape.same) (by kernel_rfl)]
 rw [Lib.run_noEscape]
 simp only [Result.andThen]
 rw [Oper.upon_value]
 go_wp2
 rw [Lib.run_from_unsafe w ⟨b,0,none⟩ Tryz.underlying180 Tryz.underlying76 hj hsh blies]
 simp only [Result.andThen]
 rw [Oper.upon_value]
 go_wp2
 go_end0
 exact ⟨rfl,rfl⟩
def Bld (B b:Nat) (l:List UInt8) (w:World):Prop:=Lib.IsBuilder 79 5 B b (bcells l) w
theorem check_any (B b:Nat) (bs:List Value) (w:World) (h:Lib.IsBuilder 79 5 B b bs w) :
  Calls Tryz.prog 115 #[.pointer (some ⟨b,0,none⟩)] w fun e w'=>e = .returned (.tuple #[]) /\ (Lib.BuilderAt 79 5 B b (.pointer (some ⟨b,0,none⟩)) bs w' /\ Below B w w'):=by
 rcases h with h | h
 ·refine (check_fresh b w h.cell0 h.shape h.frozen0).mono ?_
  rintro e w' ⟨rfl,rfl⟩
  exact ⟨rfl,h.used _,(Below.refl B w).setCell (p:=⟨b,0,none⟩) h.1 _⟩
 ·refine (check_used b w h.cell0).mono ?_
  rintro e w' ⟨rfl,rfl⟩
  exact ⟨rfl,h,Below.refl B _⟩
theorem push_byte_g {ops:Array Oper} {rest:List Oper} {o:Oper} {a:Act} {Q:Exit -> Act -> World -> Prop} (wr:World) {base:Nat} {v:Value} {n:Nat} {xs:List Value} (hown:wr.ownsRow base 5 1 v n xs) (s x:Operand)
  (c:Int) (hgd:o.guard=none)
  (ho:o.op = .call { callee := .builtin .append,args := #[s,x],argTypes := #[77,77] })
  (hs:a.eval s=v) (hx:a.eval x = .slice (some ⟨wr.heap.size,0,none⟩) 1 1) (hn:n + 1 <= 140737488355328) (hbase:base <= wr.heap.size)
  (h:∀ v' w',w'.ownsRow base 5 1 v' (n + 1) (xs ++ [.int .u8 c]) -> (wr.alloc (.cells #[.int .u8 c] 5)).grownBy w' v.ownBlock -> wpList Tryz.prog ops Q rest (a.put o.dst v') w') :
  wpList Tryz.prog ops Q (o :: rest) a (wr.alloc (.cells #[.int .u8 c] 5)):=by
 obtain ⟨i0,hi,hz0,hz1,hz2⟩:=info_parts info5
 refine wpList_append_own _ hgd s x 77 ho base 5 i0 (.int .u8 0) 1 1 Tryz.underlying77 hi hz0 hz1 hz2 rfl (by decide) v n xs hs (hown.alloc _) ⟨wr.heap.size,0,none⟩ 1 1 [.int .u8 c] hx rfl
  (cell_one_new _ _ _) (by intro u hu; simp at hu; subst hu; rfl) (by unfold maxLen; omega) (by omega) (by simp; omega) ?_
 intro v' w' h1 h2 _
 exact h v' w' h1 h2
set_option maxHeartbeats 2000000 in
set_option maxRecDepth 100000 in
theorem writeByte_cells (B b:Nat) (bs:List Value) (c:Int) (w:World) (h:Lib.IsBuilder 79 5 B b bs w) (hlen:bs.length + 1 <= 140737488355328) (hBw:B <= w.heap.size) :
  Calls Tryz.prog 199 #[.pointer (some ⟨b,0,none⟩), .int .u8 c] w fun e w'=>e = .returned .nilIface /\ (Lib.BuilderAt 79 5 B b (.pointer (some ⟨b,0,none⟩)) (bs ++ [.int .u8 c]) w' /\ Below B w w'):=by
 go_enter Tryz.func199,Tryz.ntmps199
 go_wp2_with (go_at_call 115; refine (check_any B b bs _ h).mono ?_)
 rintro e w1 ⟨rfl,h1,hb1⟩
 obtain ⟨hB,v,hbk,hown,hne⟩:=h1
 have c1:w1.cell? ⟨b,1,none⟩=some v:=by rw [Lib.cell_of_heap hbk]; rfl
 have HZ:=hb1.size
 go_wp2_with (at_builtin; refine push_byte_g w1 hown (.tmp 11) (.tmp 13) _ ?_ ?_ ?_ ?_ ?_ ?_ ?_; exact rfl; exact rfl; exact rfl; exact rfl; omega; omega)
 intro v' w2 hown' hgrow
 have hlt:b < w1.heap.size:=by
  rcases Nat.lt_or_ge b w1.heap.size with h' | h'
  ·exact h'
  ·simp [Array.getElem?_eq_none h'] at hbk
 have hb2:w2.heap[b]? = some (.cells #[.pointer (some ⟨b,0,none⟩),v] 79 (0,0)):=by
  rw [hgrow.block b (by simp; omega) (fun e=>hne e.symm),Lib.alloc_old w1 _ b hlt]
  exact hbk
 have d1:w2.cell? ⟨b,1,none⟩=some v:=by rw [Lib.cell_of_heap hb2]; rfl
 have f1:w2.frozen? ⟨b,1,none⟩=false:=Lib.frozen_of_heap hb2 1
 obtain ⟨g,cap,rfl⟩:∃ g cap,v' = .slice (some ⟨g,0,none⟩) (bs.length + 1) cap:=by
  rcases hown'.2 with ⟨_,h0⟩ | ⟨g,cap,cur,hv,_⟩
  ·omega
  ·exact ⟨g,cap,hv⟩
 go_wp2
 go_ret
 refine ⟨rfl, ?_, ?_⟩
 ·exact Lib.BuilderAt.put (T:=79) (e:=5) hB hb2 (bs':=bs ++ [.int .u8 c]) (by simpa using hown') (by decide)
 ·exact ((hb1.alloc (by omega) _).grown hgrow (by simp; omega) (fun k hk=>(hown.lt k hk).1)).setCell (p:=⟨b,1,none⟩) hB _
theorem writeByte_s (B b:Nat) (l:List UInt8) (c:UInt8) (x:Int) (w:World) (h:Bld B b l w) (hx:x=(c.toNat:Int)) (hlen:l.length <= 100000000000) (hBw:B <= w.heap.size) :
  Calls Tryz.prog 199 #[.pointer (some ⟨b,0,none⟩), .int .u8 x] w fun e w'=>e = .returned .nilIface /\ Bld B b (l ++ [c]) w' /\ Below B w w':=by
 subst hx
 refine (writeByte_cells B b (bcells l) c.toNat w h (by rw [bcells_length]; omega) hBw).mono fun e w' h=>⟨h.1, ?_,h.2.2⟩
 unfold Bld
 rw [bcells_append]
 exact .inr h.2.1
theorem string_s (B b:Nat) (l:List UInt8) (w:World) (h:Bld B b l w) (hBw:B <= w.heap.size) :
  Calls Tryz.prog 59 #[.pointer (some ⟨b,0,none⟩)] w fun e w'=>e = .returned (.string ⟨l.toArray⟩) /\ Below B w w':=
 (Tryz.Builder_String_any B b l w h hBw).mono fun e w' h=>⟨h.1,h.2⟩
theorem bld_new (w:World):Bld w.heap.size w.heap.size [] (w.alloc (.cells #[.pointer none, .slice none 0 0] 79)):=Lib.fresh_isBuilder _ _ w
theorem Bld.below {B b:Nat} {l:List UInt8} {w w':World} (h:Bld B b l w) (hb:Below w.heap.size w w'):Bld B b l w':=by
 have one:∀ p,Lib.BuilderAt 79 5 B b p (bcells l) w -> Lib.BuilderAt 79 5 B b p (bcells l) w':=fun p h=>by
  have hl:=h.lt
  obtain ⟨hB,v,hbk,hown,hne⟩:=h
  refine ⟨hB,v,by rw [hb.block b hl]; exact hbk, ?_,hne⟩
  exact hown.kept (row:=none) ⟨hb.os,hb.tape,hb.output,hb.size,fun k hk _=>hb.block k hk⟩ (by
   cases h:v.ownBlock
   ·exact .inl rfl
   ·exact .inr (by simp))
 rcases h with h | h
 ·exact .inl (one _ h)
 ·exact .inr (one _ h)
theorem strCells_b (s:ByteArray):Lib.strCells s=bcells s.data.toList:=rfl
end Go.Proofs.YtmmdaegdkikkpaaGreatDoor
end

section
set_option maxRecDepth 100000
namespace Go.Proofs.YtmmdaegdkikkpaaGreatDoor
open Go.PlainAid
def pieces (b:UInt8):List UInt8 -> List (List UInt8)
 | []=>[[]]
 | c :: l=>if c=b then [] :: pieces b l else match pieces b l with
  | p :: r=>(c :: p) :: r
  | []=>[[c]]
theorem occ_one (l:List UInt8) (b:UInt8) (i:Nat):Lib.occAt l [b] i=true ↔ l[i]? = some b:=by
 unfold Lib.occAt
 rw [<- List.head?_drop]
 cases l.drop i with
 | nil=>simp
 | cons c m =>
  simp only [List.isPrefixOf,Bool.and_true,List.head?_cons,Option.some.injEq,beq_iff_eq]
  exact eq_comm
theorem pieces_hit (b:UInt8):∀ (l:List UInt8) (i:Nat),l[i]? = some b -> (∀ j,j < i -> l[j]? ≠ some b) -> pieces b l=l.take i :: pieces b (l.drop (i + 1))
 | [],i,h,_=>by simp at h
 | c :: l,0,h,_=>by
  have:c=b:=by simpa using h
  conv=>lhs; unfold pieces
  rw [if_pos this]; rfl
 | c :: l,i + 1,h,hn=>by
  have hc:c ≠ b:=fun e=>hn 0 (by omega) (by rw [e]; rfl)
  have ih:=pieces_hit b l i (by simpa using h) (fun j hj=>by have:=hn (j + 1) (by omega); simpa using this)
  conv=>lhs; unfold pieces
  rw [if_neg hc,ih]
  rfl
theorem pieces_miss (b:UInt8):∀ (l:List UInt8),(∀ j:Nat,l[j]? ≠ some b) -> pieces b l = [l]
 | [],_=>rfl
 | c :: l,hn=>by
  have hc:c ≠ b:=fun e=>hn 0 (by rw [e]; rfl)
  have ih:=pieces_miss b l (fun j=>by have:=hn (j + 1); simpa using this)
  unfold pieces
  rw [if_neg hc,ih]
theorem cut_one (t:ByteArray) (b:UInt8):(cutOk t ⟨#[b]⟩=true /\ pieces b t.data.toList=(cutBef t ⟨#[b]⟩).data.toList :: pieces b (cutAft t ⟨#[b]⟩).data.toList /\ (cutAft t ⟨#[b]⟩).size < t.size /\ (cutBef t ⟨#[b]⟩).size <= t.size /\
   (∀ j:Nat,(cutBef t ⟨#[b]⟩).data.toList[j]? ≠ some b)) ∨
  (cutOk t ⟨#[b]⟩=false /\ pieces b t.data.toList = [t.data.toList] /\ cutBef t ⟨#[b]⟩=t /\ cutAft t ⟨#[b]⟩=⟨#[]⟩):=by
 have e:(⟨#[b]⟩:ByteArray).data.toList = [b]:=rfl
 rcases Lib.index_spec t.data.toList [b] with ⟨hi,hn⟩ | ⟨i,hi,hle,ho,hno⟩
 ·refine .inr ?_
  have hcut:Lib.cut t.data.toList (⟨#[b]⟩:ByteArray).data.toList=(t.data.toList,[],false):=by
   unfold Lib.cut; rw [e,hi]; rfl
  refine ⟨by unfold cutOk; rw [hcut], ?_, ?_, ?_⟩
  ·refine pieces_miss b _ (fun j hj => ?_)
   have hlt:j < t.data.toList.length:=(List.getElem?_eq_some_iff.1 hj).1
   have:=hn j (by omega)
   rw [(occ_one _ _ _).2 hj] at this
   cases this
  ·unfold cutBef; rw [hcut]
  ·unfold cutAft; rw [hcut]
 ·refine .inl ?_
  have hget:=(occ_one _ _ _).1 ho
  have hlt:i < t.data.toList.length:=(List.getElem?_eq_some_iff.1 hget).1
  have hcut:Lib.cut t.data.toList (⟨#[b]⟩:ByteArray).data.toList=(t.data.toList.take i,t.data.toList.drop (i + 1),true):=by
   unfold Lib.cut; rw [e,hi,if_pos (by omega)]; simp
  have hno':∀ j,j < i -> t.data.toList[j]? ≠ some b:=fun j hj h=>by
   have:=hno j hj
   rw [(occ_one _ _ _).2 h] at this
   cases this
  have eb:(cutBef t ⟨#[b]⟩).data.toList=t.data.toList.take i:=by unfold cutBef; rw [hcut]
  have ea:(cutAft t ⟨#[b]⟩).data.toList=t.data.toList.drop (i + 1):=by unfold cutAft; rw [hcut]
  refine ⟨by unfold cutOk; rw [hcut], ?_, ?_, ?_, ?_⟩
  ·rw [eb,ea]; exact pieces_hit b _ i hget hno'
  ·rw [Lib.size_eq,Lib.size_eq t,ea,List.length_drop]; omega
  ·rw [Lib.size_eq,Lib.size_eq t,eb,List.length_take]; omega
  ·intro j hj
   rw [eb,List.getElem?_take] at hj
   by_cases h:j < i
   ·rw [if_pos h] at hj; exact hno' j h hj
   ·rw [if_neg h] at hj; cases hj
def ofL (l:List UInt8):ByteArray:=⟨l.toArray⟩
theorem unesc_le (l:List UInt8):∀ m,unesc l=some m -> m.length <= l.length:=by
 intro m h
 induction hn:l.length using Nat.strongRecOn generalizing l m with
 | ind n ih =>
  cases l with
  | nil=>unfold unesc at h; cases h; simp
  | cons c r =>
   unfold unesc at h
   by_cases hc:c=37
   ·rw [if_pos hc] at h
    match r,h,hn with
    | a :: b :: r',h,hn =>
     simp only [] at h
     split at h
     ·obtain ⟨x,hx,rfl⟩:=Option.map_eq_some_iff.1 h
      have:=ih r'.length (by simp at hn; omega) r' x hx rfl
      simp at hn ⊢; omega
     ·cases h
    | [a],h,_=>cases h
    | [],h,_=>cases h
   ·rw [if_neg hc] at h
    split at h
    ·obtain ⟨x,hx,rfl⟩:=Option.map_eq_some_iff.1 h
     have:=ih r.length (by simp at hn; omega) r x hx rfl
     simp at hn ⊢; omega
    ·cases h
end Go.Proofs.YtmmdaegdkikkpaaGreatDoor
end

section
set_option maxRecDepth 100000
namespace Go.Proofs.YtmmdaegdkikkpaaGreatDoor
open Go.RowKit Go.PlainAid
def digB (c:UInt8):Bool:=decide (48 <= c.toNat) && decide (c.toNat <= 57)
def stripL (l:List UInt8):List UInt8:=Lib.trimPrefix l [45]
theorem byte_chr (t:ByteArray) (k:Nat) (h:k < t.size):((t[k]'h).toNat:Int)=bt t k:=by unfold bt; rw [dif_pos h]
def IntOk (w : World) : Prop := Lib.TabIs Tryz.prog w "internal/strconv.uint64pow10" .u64 Lib.pow10Tab ∧ ∃ tp p, w.var? Tryz.prog "strconv.ErrRange" = some #[.iface tp p]
theorem var_below {w w':World} {B:Nat} {n:String} {cs:Array Value} (h:w.var? Tryz.prog n=some cs) (hb:Below B w w') (hB:w.heap.size <= B):w'.var? Tryz.prog n=some cs:=by
 unfold World.var? at h ⊢
 cases hg:Tryz.prog.globalNamed n with
 | none=>rw [hg] at h; cases h
 | some g =>
  rw [hg] at h
  simp only [Option.bind_some] at h ⊢
  have hlt:g < w.heap.size:=by
   rcases Nat.lt_or_ge g w.heap.size with k | k
   ·exact k
   ·rw [Array.getElem?_eq_none k] at h; cases h
  rw [hb.block g (by omega)]
  exact h
theorem IntOk.below {w w':World} (h:IntOk w) (hb:Below w.heap.size w w'):IntOk w':=
 ⟨var_below h.1 hb (Nat.le_refl _),by obtain ⟨tp,p,e⟩:=h.2; exact ⟨tp,p,var_below e hb (Nat.le_refl _)⟩⟩
theorem below_bw (w:World) (e:TypeId) (s:ByteArray):Below w.heap.size w (Lib.bytesWorld w e s):=
 ⟨rfl,rfl,rfl,by rw [Lib.bytesWorld_size]; omega,fun j hj=>Lib.bytesWorld_at_old w e s j hj⟩
theorem below_grow (w:World) (k:Nat) (os:Array Obj):Below w.heap.size w (Go.Sort.grow (w.drewN k) os):=
 ⟨rfl,rfl,rfl,by simp [Go.Sort.grow],fun j hj=>by simp [Go.Sort.grow,Array.getElem?_append,hj]⟩
theorem atoi_ok (s:ByteArray) (v:Int) (w:World) (hs:s.size <= 1000000000) (h:Lib.atoiAll s.data.toList = .ok v) :
  Calls Tryz.prog 235 #[.string s] w fun e w'=>e = .returned (.tuple #[.int .i64 v, .nilIface]) /\ Below w.heap.size w w':=
 (Tryz.strconv_Atoi_ok s (by omega) v h w).mono fun e w' k=>⟨k.1,by
  rcases k.2 with rfl | ⟨t,rfl⟩
  ·exact Below.refl _ _
  ·exact below_bw _ _ _⟩
theorem itoa_s (n:Int) (w:World) (h0 : -9223372036854775808 <= n) (h1:n <= 9223372036854775807) (ho:IntOk w) :
  Calls Tryz.prog 270 #[.int .i64 n] w fun e w'=>e = .returned (.string (ofL (Lib.itoa n))) /\ Below w.heap.size w w':=
 (Tryz.strconv_Itoa n h0 h1 w ho.1).mono fun e w' ⟨k1,k,os,k2⟩=>⟨k1,by rw [k2]; exact below_grow w k os⟩
def Fair {α:Type} (x:Lib.NumEnd α):Prop:=(∃ v,x = .ok v) ∨ x = .range
theorem parse_digits:∀ (l:List UInt8) (acc:Nat),l.all digB=true -> Fair (Lib.parseUint10 acc l)
 | [],acc,_ => .inl ⟨acc,rfl⟩
 | c :: r,acc,h=>by
  rw [List.all_cons,Bool.and_eq_true] at h
  have hc:48 <= c.toNat /\ c.toNat <= 57:=by simpa [digB] using h.1
  unfold Lib.parseUint10
  rw [if_pos hc]
  split
  ·exact .inr rfl
  ·split
   ·exact .inr rfl
   ·exact parse_digits r _ h.2
theorem signless_fair {x:Lib.NumEnd Nat} (h:Fair x):Fair (Lib.signless x):=by
 rcases h with ⟨v,rfl⟩ | rfl
 ·unfold Lib.signless; dsimp only; split
  ·exact .inr rfl
  ·exact .inl ⟨_,rfl⟩
 ·exact .inr rfl
theorem signed_fair {x:Lib.NumEnd Nat} (h:Fair x):Fair (Lib.signed x):=by
 rcases h with ⟨v,rfl⟩ | rfl
 ·unfold Lib.signed; dsimp only; split
  ·exact .inr rfl
  ·exact .inl ⟨_,rfl⟩
 ·exact .inr rfl
theorem strip_minus (r:List UInt8):stripL (45 :: r)=r:=by simp [stripL,Lib.trimPrefix,Lib.hasPrefix]
theorem strip_plain (c:UInt8) (r:List UInt8) (h:c ≠ 45):stripL (c :: r)=c :: r:=by
 unfold stripL Lib.trimPrefix Lib.hasPrefix
 rw [if_neg]
 simp only [List.isPrefixOf,Bool.and_eq_true,beq_iff_eq]
 rintro ⟨e,_⟩; exact h e.symm
set_option maxRecDepth 100000 in
theorem int_s (n:Int) (w:World) (h0 : -9223372036854775808 <= n) (h1:n <= 9223372036854775807) (ho:IntOk w) :
  Calls Tryz.prog 232 #[.int .i64 n] w fun e w'=>e = .returned (.string (ofL (Lib.itoa n))) /\ Below w.heap.size w w':=by
 have HO:=Lib.hid ho; clear ho
 go_enter Tryz.func232,Tryz.ntmps232
 go_wp2_with (go_at_call 270; refine (itoa_s n _ h0 h1 HO.out).mono ?_; rintro e w1 ⟨rfl,hb1⟩)
 go_ret
 exact ⟨rfl,hb1⟩
set_option maxHeartbeats 1000000 in
theorem plain_any (c:Int) (w:World) (h0:0 <= c) (h1:c <= 255) :
  Calls Tryz.prog 229 #[.int .u8 c] w fun e w'=>e = .returned (.bool (plainI c)) /\ w=w':=by
 cases a1:(c == 37)
 ·cases a2:(c == 124)
  ·cases a3:(c == 44)
   ·cases a4:(c == 61)
    ·cases a5:(c == 59)
     ·cases a6:(c == 34)
      ·by_cases b1:33 <= c
       ·by_cases b2:c <= 126
        ·have HE:=Lib.hid (show plainI c=true by unfold plainI; rw [a1,a2,a3,a4,a5,a6]; simp [b1,b2])
         have d2:decide (c <= 126)=true:=by simp [b2]
         go_enter Tryz.func229,Tryz.ntmps229
         go_wp2
         go_ret
         exact ⟨by rw [HE.out]; rfl,rfl⟩
        ·have HE:=Lib.hid (show plainI c=false by unfold plainI; simp [b2])
         have d2:decide (c <= 126)=false:=by simp [b2]
         go_enter Tryz.func229,Tryz.ntmps229
         go_wp2
         go_ret
         exact ⟨by rw [HE.out]; rfl,rfl⟩
       ·have HE:=Lib.hid (show plainI c=false by unfold plainI; simp [b1])
        go_enter Tryz.func229,Tryz.ntmps229
        go_wp2
        go_ret
        exact ⟨by rw [HE.out]; rfl,rfl⟩
      ·have HE:=Lib.hid (show plainI c=false by unfold plainI; rw [a6]; simp)
       go_enter Tryz.func229,Tryz.ntmps229
       go_wp2
       go_ret
       exact ⟨by rw [HE.out]; rfl,rfl⟩
     ·have HE:=Lib.hid (show plainI c=false by unfold plainI; rw [a5]; simp)
      go_enter Tryz.func229,Tryz.ntmps229
      go_wp2
      go_ret
      exact ⟨by rw [HE.out]; rfl,rfl⟩
    ·have HE:=Lib.hid (show plainI c=false by unfold plainI; rw [a4]; simp)
     go_enter Tryz.func229,Tryz.ntmps229
     go_wp2
     go_ret
     exact ⟨by rw [HE.out]; rfl,rfl⟩
   ·have HE:=Lib.hid (show plainI c=false by unfold plainI; rw [a3]; simp)
    go_enter Tryz.func229,Tryz.ntmps229
    go_wp2
    go_ret
    exact ⟨by rw [HE.out]; rfl,rfl⟩
  ·have HE:=Lib.hid (show plainI c=false by unfold plainI; rw [a2]; simp)
   go_enter Tryz.func229,Tryz.ntmps229
   go_wp2
   go_ret
   exact ⟨by rw [HE.out]; rfl,rfl⟩
 ·have HE:=Lib.hid (show plainI c=false by unfold plainI; rw [a1]; simp)
  go_enter Tryz.func229,Tryz.ntmps229
  go_wp2
  go_ret
  exact ⟨by rw [HE.out]; rfl,rfl⟩
set_option maxRecDepth 100000 in
set_option maxHeartbeats 2000000 in
theorem escape_any (s:ByteArray) (w:World) (hs:s.size <= 1000000000) :
  Calls Tryz.prog 160 #[.string s] w fun e w'=>e = .returned (.string ⟨(escL s.data.toList).toArray⟩) /\ Below w.heap.size w w':=by
 have hb:=get_bt s
 have hx:=get_bt (⟨#[48,49,50,51,52,53,54,55,56,57,65,66,67,68,69,70]⟩:ByteArray)
 have HN:=Lib.hid (bld_new w)
 go_enter Tryz.func160,Tryz.ntmps160
 go_wp2
 go_loopw [7] (fun i wr=>∃ k:Nat,k <= s.size /\ i = .int .i64 k /\ Bld w.heap.size w.heap.size (escL (s.data.toList.take k)) wr /\ Below w.heap.size w wr /\ w.heap.size < wr.heap.size)
  (fun i _=>s.size - (intOf i).toNat)
 case atStart=>exact ⟨0,Nat.zero_le _,rfl,HN.out,(Below.refl _ _).alloc (Nat.le_refl _) _,by simp⟩
 case round =>
  obtain ⟨k,hk,rfl,HB,hbel,hsz⟩:=hrel
  have h0:=bt_nonneg s k
  have h255:=bt_le s k
  have hl3:=escL_length (s.data.toList.take k)
  have hl4:(s.data.toList.take k).length <= k:=List.length_take_le _ _
  have HC:=Lib.hid (bt_chr s k)
  by_cases hlt:k < s.size
  ·have HST:=Lib.hid (esc_step s k hlt)
   have HP:=Lib.hid (plain_chr s k)
   cases c1:plainI (bt s k)
   ·have HST2:=Lib.hid (show escL (s.data.toList.take (k + 1))=((escL (s.data.toList.take k) ++ [37]) ++ [hexC ((chr s k).toNat / 16)]) ++ [hexC ((chr s k).toNat % 16)] by
     rw [HST.out,escC_other _ (by rw [HP.out,c1])]; simp)
    go_wp2_with (go_at_call 229; refine (plain_any _ _ h0 h255).mono ?_; rintro e w' ⟨rfl,rfl⟩)
    refine (writeByte_s w.heap.size w.heap.size _ 37 37 _ HB rfl (by omega) hbel.size).mono ?_
    rintro e w1 ⟨rfl,HB1,hb1⟩
    go_wp2_with fail
    refine (writeByte_s w.heap.size w.heap.size _ (hexC ((chr s k).toNat / 16)) _ _ HB1 (hex_hi _ _ HC.out) (by simp; omega) (Nat.le_trans hbel.size hb1.size)).mono ?_
    rintro e w2 ⟨rfl,HB2,hb2⟩
    go_wp2_with fail
    refine (writeByte_s w.heap.size w.heap.size _ (hexC ((chr s k).toNat % 16)) _ _ HB2 (hex_lo _ _ HC.out) (by simp; omega) (Nat.le_trans hbel.size (Nat.le_trans hb1.size hb2.size))).mono ?_
    rintro e w3 ⟨rfl,HB3,hb3⟩
    have hbel3:=hbel.trans (hb1.trans (hb2.trans hb3))
    go_wp2
    go_roundw
    case rel=>exact ⟨k + 1,by omega,by go_num,by rw [HST2.out]; exact HB3,hbel3,Nat.lt_of_lt_of_le hsz (Nat.le_trans hb1.size (Nat.le_trans hb2.size hb3.size))⟩
    case measure=>simp [intOf]; omega
   ·have HST2:=Lib.hid (show escL (s.data.toList.take (k + 1))=escL (s.data.toList.take k) ++ [chr s k] by
     rw [HST.out,escC_plain _ (by rw [HP.out,c1])])
    go_wp2_with (go_at_call 229; refine (plain_any _ _ h0 h255).mono ?_; rintro e w' ⟨rfl,rfl⟩)
    refine (writeByte_s w.heap.size w.heap.size _ (chr s k) _ _ HB HC.out (by omega) hbel.size).mono ?_
    rintro e w1 ⟨rfl,HB1,hb1⟩
    go_wp2
    go_roundw
    case rel=>exact ⟨k + 1,by omega,by go_num,by rw [HST2.out]; exact HB1,hbel.trans hb1,Nat.lt_of_lt_of_le hsz hb1.size⟩
    case measure=>simp [intOf]; omega
  ·have HT:=Lib.hid (show s.data.toList.take k=s.data.toList by rw [List.take_of_length_le]; simp; omega)
   rw [HT.out] at HB
   go_wp2_with (go_at_call 59; refine (string_s w.heap.size w.heap.size _ _ HB hbel.size).mono ?_; rintro e w1 ⟨rfl,hb1⟩)
   go_ret
   exact ⟨rfl,hbel.trans hb1⟩
theorem hex_index (x:Int) (c:UInt8) (w:World) (hx:x=(c.toNat:Int)) :
  Calls Tryz.prog 282 #[.string ⟨#[48,49,50,51,52,53,54,55,56,57,65,66,67,68,69,70]⟩, .int .u8 x] w fun e w'=>e = .returned (.int .i64 (hexV c)) /\ w=w':=by
 refine (Tryz.strings_IndexByte ⟨#[48,49,50,51,52,53,54,55,56,57,65,66,67,68,69,70]⟩ x w).mono fun e w' h=>⟨?_,h.2.symm⟩
 rw [h.1]
 have e1:x.toNat.toUInt8=c:=by subst hx; simp
 rw [e1]; rfl
theorem or_table:∀ a:Nat,a < 16 -> ∀ b:Nat,b < 16 -> bits BinOp.or IntKind.i64 ((a:Int) * 16) (b:Int) % 256=16 * (a:Int) + (b:Int):=by decide +kernel
theorem or_hex (a b:Int) (a0:0 <= a) (a1:a <= 15) (b0:0 <= b) (b1:b <= 15):bits BinOp.or IntKind.i64 (a * 16) b % 256=16 * a + b:=by
 have:=or_table a.toNat (by omega) b.toNat (by omega)
 rw [Int.toNat_of_nonneg a0,Int.toNat_of_nonneg b0] at this
 exact this
def escVal (o:Option UInt8):Int:=match o with
 | some d=>(d.toNat:Int)
 | none=>0
set_option maxRecDepth 100000 in
set_option maxHeartbeats 2000000 in
theorem escaped_s (t:ByteArray) (w:World) (ht:t.size <= 1000000000) :
  Calls Tryz.prog 267 #[.string t] w fun e w'=>e = .returned (.tuple #[.int .u8 (escVal (escO t)), .bool (escO t).isSome]) /\ w=w':=by
 have hb:=get_bt t
 by_cases h2:t.size < 2
 ·have HE:=Lib.hid (show escO t=none by unfold escO; rw [if_pos h2])
  go_enter Tryz.func267,Tryz.ntmps267
  go_wp2
  go_ret2
  exact ⟨by rw [HE.out]; rfl,rfl⟩
 ·have HE:=Lib.hid (show escO t=decC (chr t 0) (chr t 1) by unfold escO; rw [if_neg h2])
  have r0:=hexV_le (chr t 0)
  have r1:=hexV_le (chr t 1)
  have H0:=Lib.hid (bt_chr t 0)
  have H1:=Lib.hid (bt_chr t 1)
  go_enter Tryz.func267,Tryz.ntmps267
  go_wp2_with fail
  refine (hex_index _ (chr t 0) _ H0.out).mono ?_
  rintro e w' ⟨rfl,rfl⟩
  go_wp2_with fail
  refine (hex_index _ (chr t 1) _ H1.out).mono ?_
  rintro e w' ⟨rfl,rfl⟩
  obtain ⟨v0,hv0⟩:∃ v,v=hexV (chr t 0):=⟨_,rfl⟩
  obtain ⟨v1,hv1⟩:∃ v,v=hexV (chr t 1):=⟨_,rfl⟩
  rw [<- hv0] at r0 ⊢
  rw [<- hv1] at r1 ⊢
  have HV0:=Lib.hid hv0; have HV1:=Lib.hid hv1; clear hv0 hv1
  by_cases n0:v0 < 0
  ·have HF:=Lib.hid (show escO t=none by rw [HE.out]; unfold decC; rw [if_pos (.inl (by rw [<- HV0.out]; exact n0))])
   go_wp2
   go_ret2
   exact ⟨by rw [HF.out]; rfl,rfl⟩
  ·by_cases n1:v1 < 0
   ·have HF:=Lib.hid (show escO t=none by rw [HE.out]; unfold decC; rw [if_pos (.inr (by rw [<- HV1.out]; exact n1))])
    go_wp2
    go_ret2
    exact ⟨by rw [HF.out]; rfl,rfl⟩
   ·go_wp2_with fail
    have hor:=or_hex v0 v1 (by omega) r0.2 (by omega) r1.2
    rw [hor]
    obtain ⟨x,hxe⟩:∃ x,x=16 * v0 + v1:=⟨_,rfl⟩
    have hx0:0 <= x /\ x <= 255:=by omega
    rw [<- hxe]
    have HX:=Lib.hid hxe; clear hxe hor
    have HD:=Lib.hid (show escO t=if plainI x then none else some (UInt8.ofNat x.toNat) by
     rw [HE.out]; unfold decC; rw [if_neg (by rw [<- HV0.out, <- HV1.out]; omega), <- HV0.out, <- HV1.out, <- HX.out])
    cases c:plainI x
    ·have HF:=Lib.hid (show escO t=some (UInt8.ofNat x.toNat) by rw [HD.out,c]; rfl)
     have HN:=Lib.hid (show x=((UInt8.ofNat x.toNat).toNat:Int) by rw [UInt8.toNat_ofNat']; omega)
     go_wp2_with (go_at_call 229; refine (plain_any _ _ hx0.1 hx0.2).mono ?_; rintro e w' ⟨rfl,rfl⟩)
     go_ret2
     refine ⟨?_,rfl⟩
     rw [HF.out]
     show Ending.returned (.tuple #[.int .u8 x, .bool true])=Ending.returned (.tuple #[.int .u8 ((UInt8.ofNat x.toNat).toNat:Int), .bool true])
     rw [<- HN.out]
    ·have HF:=Lib.hid (show escO t=none by rw [HD.out,c]; rfl)
     go_wp2_with (go_at_call 229; refine (plain_any _ _ hx0.1 hx0.2).mono ?_; rintro e w' ⟨rfl,rfl⟩)
     go_ret2
     exact ⟨by rw [HF.out]; rfl,rfl⟩
def unS (s:ByteArray):ByteArray:=match unesc s.data.toList with
 | some l=>⟨l.toArray⟩
 | none=>⟨#[]⟩
def unE (s:ByteArray):Int:=match unesc s.data.toList with
 | some _=>0
 | none=>4
set_option maxRecDepth 100000 in
set_option maxHeartbeats 4000000 in
theorem unescape_s (s:ByteArray) (w:World) (hs:s.size <= 1000000000) :
  Calls Tryz.prog 230 #[.string s] w fun e w'=>e = .returned (.tuple #[.string (unS s), .int .i64 (unE s)]) /\ Below w.heap.size w w':=by
 have hb:=get_bt s
 have HN:=Lib.hid (bld_new w)
 go_enter Tryz.func230,Tryz.ntmps230
 go_wp2
 go_loopw [5] (fun iv wr=>∃ (i:Nat) (out:List UInt8),i <= s.size /\ iv = .int .i64 i /\ out.length <= i /\ Hid (unesc s.data.toList=(unesc (s.data.toList.drop i)).map (out ++ ·)) /\ Bld w.heap.size w.heap.size out wr /\ Below w.heap.size w wr)
  (fun iv _=>s.size - (intOf iv).toNat)
 case atStart=>exact ⟨0,[],Nat.zero_le _,rfl,by simp,Lib.hid (by simp),HN.out,(Below.refl _ _).alloc (Nat.le_refl _) _⟩
 case round =>
  obtain ⟨i,out,hi,rfl,hol,HU,HB,hbel⟩:=hrel
  have h0:=bt_nonneg s i
  have h255:=bt_le s i
  by_cases hlt:i < s.size
  ·have HD:=Lib.hid (drop_chr s i hlt)
   have HC:=Lib.hid (bt_chr s i)
   cases c0:(bt s i == 37)
   ·have H37:=Lib.hid (show chr s i ≠ 37 from fun e=>by rw [HC.out,e] at c0; simp at c0)
    cases c1:plainI (bt s i)
    ·have HF:=Lib.hid (show unesc s.data.toList=none by
      rw [HU.out,HD.out]; unfold unesc; rw [if_neg H37.out,plain_chr,c1]; rfl)
     go_wp2_with (go_at_call 229; refine (plain_any _ _ h0 h255).mono ?_; rintro e w' ⟨rfl,rfl⟩)
     go_ret2
     exact ⟨by unfold unS unE; rw [HF.out]; rfl,hbel⟩
    ·have HF:=Lib.hid (show unesc s.data.toList=(unesc (s.data.toList.drop (i + 1))).map ((out ++ [chr s i]) ++ ·) by
      rw [HU.out,HD.out]; conv=>lhs; arg 2; unfold unesc
      rw [if_neg H37.out,plain_chr,c1,if_pos rfl,Option.map_map]; congr 1; funext l; simp)
     go_wp2_with (go_at_call 229; refine (plain_any _ _ h0 h255).mono ?_; rintro e w' ⟨rfl,rfl⟩)
     refine (writeByte_s w.heap.size w.heap.size _ (chr s i) _ _ HB HC.out (by omega) hbel.size).mono ?_
     rintro e w1 ⟨rfl,HB1,hb1⟩
     go_wp2
     go_roundw
     case rel=>exact ⟨i + 1,_,by omega,by go_num,by simp; omega,HF,HB1,hbel.trans hb1⟩
     case measure=>simp [intOf]; omega
   ·have H37:=Lib.hid (show chr s i=37 from by
     have:bt s i=37:=by simpa using c0
     rw [HC.out] at this; exact UInt8.toNat_inj.1 (by have h3:(37:UInt8).toNat=37:=rfl; omega))
    have hse:(s.extract (i + 1) s.size)=dr s (i + 1):=Lib.extract_from s (i + 1)
    have hds:=dr_size s (i + 1)
    have HE:=Lib.hid (unesc_pct s i hlt H37.out)
    cases c1:escO (dr s (i + 1)) with
    | none =>
     have HF:=Lib.hid (show unesc s.data.toList=none by rw [HU.out,HE.out,c1]; rfl)
     go_wp2_with (go_at_call 267; refine (escaped_s _ _ ?_).mono ?_; (omega); rintro e w' ⟨rfl,rfl⟩)
     go_ret2
     exact ⟨by unfold unS unE; rw [HF.out]; rfl,hbel⟩
    | some d =>
     have HF:=Lib.hid (show unesc s.data.toList=(unesc (s.data.toList.drop (i + 3))).map ((out ++ [d]) ++ ·) by
      rw [HU.out,HE.out,c1]; show Option.map _ (Option.map _ _)=_; rw [Option.map_map]; congr 1; funext l; simp)
     have h3:i + 3 <= s.size:=by
      have:¬ (dr s (i + 1)).size < 2:=fun h=>by unfold escO at c1; rw [if_pos h] at c1; cases c1
      rw [dr_size] at this; omega
     go_wp2_with (go_at_call 267; refine (escaped_s _ _ ?_).mono ?_; (omega); rintro e w' ⟨rfl,rfl⟩)
     refine (writeByte_s w.heap.size w.heap.size _ d _ _ HB rfl (by omega) hbel.size).mono ?_
     rintro e w1 ⟨rfl,HB1,hb1⟩
     go_wp2
     go_roundw
     case rel=>exact ⟨i + 3,_,by omega,by go_num,by simp; omega,HF,HB1,hbel.trans hb1⟩
     case measure=>simp [intOf]; omega
  ·have HF:=Lib.hid (show unesc s.data.toList=some out by
    rw [HU.out,List.drop_eq_nil_of_le (by rw [<- Lib.size_eq]; omega)]; simp [unesc])
   go_wp2_with (go_at_call 59; refine (string_s w.heap.size w.heap.size _ _ HB hbel.size).mono ?_; rintro e w1 ⟨rfl,hb1⟩)
   go_ret2
   exact ⟨by unfold unS unE; rw [HF.out]; rfl,hbel.trans hb1⟩
end Go.Proofs.YtmmdaegdkikkpaaGreatDoor
end

section
set_option maxRecDepth 100000
namespace Go.Proofs.YtmmdaegdkikkpaaGreatDoor
open Go.PlainAid
theorem dec_table:∀ n:Nat,n < 256 -> decC (hexC (n / 16)) (hexC (n % 16))=if plainC (UInt8.ofNat n) then none else some (UInt8.ofNat n):=by decide +kernel
theorem dec_esc (c:UInt8) (h:plainC c=false):decC (hexC (c.toNat / 16)) (hexC (c.toNat % 16))=some c:=by
 have:=dec_table c.toNat c.toNat_lt
 rw [UInt8.ofNat_toNat,h] at this
 simpa using this
theorem plain_pct:plainC 37=false:=by decide
theorem unesc_esc:∀ l:List UInt8,unesc (escL l)=some l
 | []=>rfl
 | c :: r=>by
  have ih:=unesc_esc r
  have e:escL (c :: r)=escC c ++ escL r:=by simp [escL]
  rw [e]
  cases h:plainC c
  ·rw [escC_other c h]
   show unesc (37 :: hexC (c.toNat / 16) :: hexC (c.toNat % 16) :: escL r)=some (c :: r)
   conv=>lhs; unfold unesc
   rw [if_pos rfl]
   simp only []
   rw [dec_esc c h,ih]; rfl
  ·have hc:c ≠ 37:=fun e=>by rw [e,plain_pct] at h; cases h
   rw [escC_plain c h]
   show unesc (c :: escL r)=some (c :: r)
   conv=>lhs; unfold unesc
   rw [if_neg hc,if_pos h,ih]; rfl
end Go.Proofs.YtmmdaegdkikkpaaGreatDoor
end
