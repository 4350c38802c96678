/-
  Texts of the schema layer and of those beneath it, joined: AttIns, AttMem, AttTw, AttChk, OpenR, ShelfK, AttKeys, AttMap, AttGrp, AttApp. Conditions stand at each contract.
-/
import Derived.Deep.SlicePairs
import Derived.SizedLaws
import Derived.Shelf.SlIter.Nil
import Derived.Shelf.SortM.Plain
import Derived.Shelf.SortM.SortNone
import Derived.Maps.OwnSet
import Derived.Sort.KeysCollected
import Derived.Maps.AppendAt
import Derived.Deep.Upon
import Derived.Test.YtmmdaegdkikkpaaGreatDoorT02
set_option linter.unusedVariables false
set_option linter.unusedSimpArgs false
set_option linter.unnecessarySimpa false

section
set_option maxRecDepth 100000
namespace Go.Proofs.YtmmdaegdkikkpaaGreatDoor
open Go.RowKit Go.PlainAid
theorem str_eq (a b:ByteArray):(a.toList == b.toList)=decide (a=b):=by
 rw [Lib.toList_data,Lib.toList_data,Bool.eq_iff_iff,beq_iff_eq,decide_eq_true_eq]
 exact ⟨fun h=>by rw [<- Lib.mk_data a, <- Lib.mk_data b,h],fun h=>by rw [h]⟩
theorem str_geq (t:TypeId) (a b:ByteArray):binOp .geq t (.string a) (.string b)=pure (.bool !(Op.bytesLess a.toList b.toList)):=by simp [binOp,Op.stringOp]
theorem less_cmp:∀ a b:List UInt8,Op.bytesLess a b=decide (Lib.compareBytes a b < 0)
 | [],[]=>by simp [Op.bytesLess,Lib.compareBytes]
 | [],_ :: _=>by simp [Op.bytesLess,Lib.compareBytes]
 | _ :: _,[]=>by simp [Op.bytesLess,Lib.compareBytes]
 | x :: a,y :: b=>by
  unfold Op.bytesLess Lib.compareBytes
  rw [less_cmp a b]
  by_cases h:x < y
  ·simp [h]
  ·by_cases g:y < x
   ·have hne:¬ x=y:=fun e=>by subst e; exact h g
    simp [h,g,hne]
   ·have he:x=y:=by
     have h1:¬ x.toNat < y.toNat:=fun k=>h (UInt8.lt_iff_toNat_lt.2 k)
     have h2:¬ y.toNat < x.toNat:=fun k=>g (UInt8.lt_iff_toNat_lt.2 k)
     exact UInt8.toNat_inj.1 (by omega)
    simp [h,g,he]
theorem str_less (a b:ByteArray):Op.bytesLess a.toList b.toList=decide (cmpS a b < 0):=by
 rw [less_cmp,Lib.toList_data,Lib.toList_data]; rfl
def memB (l:List ByteArray) (s:ByteArray):Bool:=l.any fun x=>decide (x=s)
theorem memB_iff {l:List ByteArray} {s:ByteArray}:memB l s=true ↔ s ∈ l:=by
 unfold memB
 rw [List.any_eq_true]
 exact ⟨fun ⟨x,h,e⟩=>by rw [<- of_decide_eq_true e]; exact h,fun h=>⟨s,h,decide_eq_true rfl⟩⟩
set_option maxRecDepth 100000 in
set_option maxHeartbeats 2000000 in
theorem has_s (ao:Option Addr) (n cap:Nat) (ps:List ByteArray) (s:ByteArray) (w:World) (h:StrsAt w ao n cap ps) :
  Calls Tryz.prog 195 #[.slice ao n cap, .string s] w fun e w'=>e = .returned (.bool (memB ps s)) /\ w=w':=by
 obtain ⟨h1,h2,h3,h4⟩:=h
 subst h1
 unfold maxLen at h3
 have H4:=Lib.hid h4; clear h4
 go_enter Tryz.func195,Tryz.ntmps195
 go_wp2
 go_loop [5] (fun i=>∃ k:Nat,k <= ps.length /\ i = .int .i64 k /\ Hid (∀ j,j < k -> partAt ps j ≠ s)) (fun i=>ps.length - (intOf i).toNat)
 case atStart=>exact ⟨0,Nat.zero_le _,rfl,Lib.hid (fun j hj=>absurd hj (Nat.not_lt_zero _))⟩
 case round =>
  obtain ⟨k,hk,rfl,HA⟩:=hrel
  by_cases hlt:k < ps.length
  ·obtain ⟨b,off,rfl,hs⟩:=H4.out (by omega)
   have hcell:=hs.2 k hlt
   clear hs
   obtain ⟨p,hpe⟩:∃ p,p=partAt ps k:=⟨_,rfl⟩
   rw [<- hpe] at hcell
   have HP:=Lib.hid hpe; clear hpe
   have d1:(k:Int) < (ps.length:Int):=by omega
   by_cases hps:p=s
   ·have q1:(p.toList == s.toList)=true:=by rw [str_eq]; exact decide_eq_true hps
    have HE:=Lib.hid (show memB ps s=true from memB_iff.2 (by
     rw [<- hps,HP.out]; unfold partAt
     rw [List.getD_eq_getElem?_getD,List.getElem?_eq_getElem hlt]; exact List.getElem_mem hlt))
    clear hps
    go_wp2_with fail
    go_ret
    exact ⟨by rw [HE.out]; rfl,rfl⟩
   ·have q1:(p.toList == s.toList)=false:=by rw [str_eq]; exact decide_eq_false hps
    have HN:=Lib.hid hps
    clear hps
    go_wp2_with fail
    go_round
    case rel =>
     refine ⟨k + 1,by omega,by go_num,Lib.hid fun j hj => ?_⟩
     by_cases e:j=k
     ·rw [e, <- HP.out]; exact HN.out
     ·exact HA.out j (by omega)
    case measure=>simp [intOf]; omega
  ·have HE:=Lib.hid (show memB ps s=false from Bool.eq_false_iff.2 fun hm0=>by
    obtain ⟨j,hj,e⟩:=List.getElem_of_mem (memB_iff.1 hm0)
    refine HA.out j (by omega) ?_
    unfold partAt
    rw [List.getD_eq_getElem?_getD,List.getElem?_eq_getElem hj]; exact e)
   go_wp2_with fail
   go_ret
   exact ⟨by rw [HE.out]; rfl,rfl⟩
/-! ### Insert -/
theorem insS_all {s:ByteArray} (r:List ByteArray):∀ (a:List ByteArray),(∀ x ∈ a,cmpS x s < 0) -> insS (a ++ r) s=a ++ insS r s
 | [],_=>rfl
 | x :: a,h=>by
  rw [List.cons_append]
  show (if cmpS x s < 0 then x :: insS (a ++ r) s else _)=_
  rw [if_pos (h x (List.mem_cons_self ..)),insS_all r a (fun y hy=>h y (List.mem_cons_of_mem _ hy))]; rfl
theorem insS_done {s y:ByteArray}:∀ (a:List ByteArray),(∃ x ∈ a, ¬ cmpS x s < 0) -> insS (a ++ [y]) s=insS a s ++ [y]
 | [],h=>by obtain ⟨x,hx,_⟩:=h; exact absurd hx List.not_mem_nil
 | x :: a,h=>by
  rw [List.cons_append]
  show (if cmpS x s < 0 then x :: insS (a ++ [y]) s else if x=s then x :: (a ++ [y]) else s :: x :: (a ++ [y]))=(if cmpS x s < 0 then x :: insS a s else if x=s then x :: a else s :: x :: a) ++ [y]
  by_cases hx:cmpS x s < 0
  ·rw [if_pos hx,if_pos hx,insS_done a]
   ·rfl
   ·obtain ⟨z,hz,hn⟩:=h
    rcases List.mem_cons.1 hz with k | k
    ·exact absurd (k ▸ hx) hn
    ·exact ⟨z,k,hn⟩
  ·rw [if_neg hx,if_neg hx]
   by_cases e:x=s
   ·rw [if_pos e,if_pos e]; rfl
   ·rw [if_neg e,if_neg e]; rfl
theorem insS_one {s y:ByteArray} (h:¬ cmpS y s < 0):insS [y] s=if y=s then [s] else [s,y]:=by
 show (if cmpS y s < 0 then _ else if y=s then [y] else [s,y])=_
 rw [if_neg h]
 by_cases e:y=s
 ·rw [if_pos e,if_pos e,e]
 ·rw [if_neg e,if_neg e]
theorem take_snoc (l:List ByteArray) (k:Nat) (h:k < l.length):l.take (k + 1)=l.take k ++ [partAt l k]:=by
 unfold partAt
 rw [List.take_succ_eq_append_getElem h,List.getD_eq_getElem?_getD,List.getElem?_eq_getElem h]; rfl
theorem part_mem (l:List ByteArray) (k:Nat) (h:k < l.length):partAt l k ∈ l:=by
 unfold partAt
 rw [List.getD_eq_getElem?_getD,List.getElem?_eq_getElem h]; exact List.getElem_mem h
def insAt (l:List ByteArray) (s:ByteArray) (k:Nat) (dn:Bool) (o:List ByteArray):Prop:=
 (dn=false /\ o=l.take k /\ ∀ x ∈ l.take k,cmpS x s < 0) ∨ (dn=true /\ o=insS (l.take k) s /\ ∃ x ∈ l.take k, ¬ cmpS x s < 0)
theorem insAt_zero (l:List ByteArray) (s:ByteArray):insAt l s 0 false [] := .inl ⟨rfl,by simp,by simp⟩
theorem insAt_len {l:List ByteArray} {s:ByteArray} {k:Nat} {o:List ByteArray} (h:insAt l s k false o):o.length <= k:=by
 rcases h with ⟨_,e,_⟩ | ⟨e,_⟩
 ·rw [e,List.length_take]; omega
 ·cases e
theorem insAt_low {l:List ByteArray} {s:ByteArray} {k:Nat} {o:List ByteArray} (h:insAt l s k false o) (hk:k < l.length) (hc:cmpS (partAt l k) s < 0):insAt l s (k + 1) false (o ++ [partAt l k]):=by
 rcases h with ⟨_,e,ha⟩ | ⟨e,_⟩
 ·refine .inl ⟨rfl,by rw [e,take_snoc l k hk],fun x hx => ?_⟩
  rw [take_snoc l k hk] at hx
  rcases List.mem_append.1 hx with j | j
  ·exact ha x j
  ·rw [List.mem_singleton.1 j]; exact hc
 ·cases e
theorem insAt_same {l:List ByteArray} {s:ByteArray} {k:Nat} {o:List ByteArray} (h:insAt l s k false o) (hk:k < l.length) (hc:partAt l k=s):insAt l s (k + 1) true (o ++ [s]):=by
 have hn:¬ cmpS (partAt l k) s < 0:=by rw [hc]; exact cs_irrefl s
 rcases h with ⟨_,e,ha⟩ | ⟨e,_⟩
 ·refine .inr ⟨rfl, ?_,partAt l k,by rw [take_snoc l k hk]; simp,hn⟩
  rw [take_snoc l k hk,insS_all _ _ ha,insS_one hn,if_pos hc,e]
 ·cases e
theorem insAt_new {l:List ByteArray} {s:ByteArray} {k:Nat} {o:List ByteArray} (h:insAt l s k false o) (hk:k < l.length) (hn:¬ cmpS (partAt l k) s < 0) (hc:¬ partAt l k=s):insAt l s (k + 1) true ((o ++ [s]) ++ [partAt l k]):=by
 rcases h with ⟨_,e,ha⟩ | ⟨e,_⟩
 ·refine .inr ⟨rfl, ?_,partAt l k,by rw [take_snoc l k hk]; simp,hn⟩
  rw [take_snoc l k hk,insS_all _ _ ha,insS_one hn,if_neg hc,e]; simp
 ·cases e
theorem insAt_more {l:List ByteArray} {s:ByteArray} {k:Nat} {o:List ByteArray} (ha:Asc l) (h:insAt l s k true o) (hk:k < l.length):partAt l k ≠ s /\ insAt l s (k + 1) true (o ++ [partAt l k]):=by
 rcases h with ⟨e,_⟩ | ⟨_,e,x,hx,hn⟩
 ·cases e
 ·have hlt:cmpS x (partAt l k) < 0:=by
   have h1:Asc (l.take (k + 1)):=List.Pairwise.sublist (List.take_sublist _ _) ha
   rw [take_snoc l k hk] at h1
   exact (List.pairwise_append.1 h1).2.2 x hx _ (List.mem_singleton.2 rfl)
  refine ⟨fun e'=>hn (e' ▸ hlt), .inr ⟨rfl,by rw [take_snoc l k hk,insS_done _ ⟨x,hx,hn⟩,e],x,by rw [take_snoc l k hk]; exact List.mem_append_left _ hx,hn⟩⟩
theorem insAt_end {l:List ByteArray} {s:ByteArray} {dn:Bool} {o:List ByteArray} (h:insAt l s l.length dn o):insS l s=if dn then o else o ++ [s]:=by
 rcases h with ⟨rfl,e,ha⟩ | ⟨rfl,e,_⟩
 ·rw [List.take_length] at e ha
  have:=insS_all (s:=s) [] l ha
  rw [List.append_nil] at this
  rw [this,e]; rfl
 ·rw [List.take_length] at e
  rw [<- e]; rfl
set_option maxRecDepth 100000 in
set_option maxHeartbeats 4000000 in
theorem insert_s (ao:Option Addr) (n cap:Nat) (l:List ByteArray) (s:ByteArray) (w:World) (h:StrsAt w ao n cap l) (hn:n <= 1100000) (hA:Asc l) :
  Calls Tryz.prog 138 #[.slice ao n cap, .string s] w fun e w'=>∃ v,e = .returned v /\ w'.ownsRow w.heap.size 9 1 v (insS l s).length (scells (insS l s)) /\ Below w.heap.size w w':=by
 obtain ⟨h1,h2,h3,h4⟩:=h
 subst h1
 unfold maxLen at h3
 have H4:=Lib.hid h4; clear h4
 have HA:=Lib.hid hA; clear hA
 go_enter Tryz.func138,Tryz.ntmps138
 go_wp2
 go_loopw [5,6,7] (fun v dn i wr=>∃ (k:Nat) (d:Bool) (o:List ByteArray),k <= l.length /\ o.length <= k + 1 /\ i = .int .i64 k /\ dn = .bool d /\ Hid (insAt l s k d o) /\ wr.ownsRow w.heap.size 9 1 v o.length (scells o) /\ Below w.heap.size w wr)
  (fun _ _ i _=>l.length - (intOf i).toNat)
 case atStart=>exact ⟨0,false,[],Nat.zero_le _,Nat.zero_le _,rfl,rfl,Lib.hid (insAt_zero l s),World.ownsRow_nil _ _ _ _,Below.refl _ _⟩
 case round =>
  obtain ⟨k,d,o,hk,ho,rfl,rfl,HI,hown,hbl⟩:=hrel
  by_cases hlt:k < l.length
  ·obtain ⟨b,off,rfl,hs⟩:=H4.out (by omega)
   have hcell:=(hs.below hbl hs.1).2 k hlt
   have hblt:=hs.1
   clear hs
   obtain ⟨p,hpe⟩:∃ p,partAt l k=p:=⟨_,rfl⟩
   have HIA:=Lib.hid (fun h=>insAt_low (l:=l) (s:=s) (k:=k) (o:=o) h hlt)
   have HIB:=Lib.hid (fun h=>insAt_same (l:=l) (s:=s) (k:=k) (o:=o) h hlt)
   have HIC:=Lib.hid (fun h=>insAt_new (l:=l) (s:=s) (k:=k) (o:=o) h hlt)
   have HID:=Lib.hid (fun h=>insAt_more (l:=l) (s:=s) (k:=k) (o:=o) HA.out h hlt)
   rw [hpe] at hcell HIA HIB HIC HID
   clear hpe
   have d1:(k:Int) < (l.length:Int):=by omega
   have G:=str_geq 9 p s
   rw [str_less] at G
   cases d
   ·by_cases hc:cmpS p s < 0
    ·rw [decide_eq_true hc] at G
     have q1:(p.toList == s.toList)=false:=by rw [str_eq]; exact decide_eq_false (cs_ne hc)
     have q2:(p.toList != s.toList)=true:=by unfold bne; rw [q1]; rfl
     have HX:=Lib.hid (HIA.out HI.out hc)
     clear hc
     go_wp2_with (at_builtin; go_must (refine push_str _ hown (.tmp 34) (.tmp 39) p ?_ ?_ ?_ ?_ ?_ ?_ ?_; exact rfl; exact rfl; exact rfl; exact rfl; omega; exact hbl.size; intro v3 w3 hown3 hb3))
     go_roundw
     case rel=>exact ⟨k + 1,false,o ++ [p],by omega,by simp; omega,by go_num,rfl,HX,by rw [scells_snoc,List.length_append]; exact hown3,hbl.trans hb3⟩
     case measure=>simp [intOf]; omega
    ·rw [decide_eq_false hc] at G
     by_cases he:p=s
     ·have HX:=Lib.hid (HIB.out HI.out he)
      clear hc HIA HIB HIC HID
      have q1:(p.toList == s.toList)=true:=by rw [str_eq]; exact decide_eq_true he
      have q2:(p.toList != s.toList)=false:=by unfold bne; rw [q1]; rfl
      clear he
      go_wp2_with (at_builtin; go_must (refine push_str _ hown (.tmp 24) (.tmp 26) s ?_ ?_ ?_ ?_ ?_ ?_ ?_; exact rfl; exact rfl; exact rfl; exact rfl; omega; exact hbl.size; intro v3 w3 hown3 hb3; have hcell3:=(hb3.cell (p:=⟨b,off + k,none⟩) (by have:=hbl.size; omega)).trans hcell))
      go_roundw
      case rel=>exact ⟨k + 1,true,o ++ [s],by omega,by simp; omega,by go_num,rfl,HX,by rw [scells_snoc,List.length_append]; exact hown3,hbl.trans hb3⟩
      case measure=>simp [intOf]; omega
     ·have q1:(p.toList == s.toList)=false:=by rw [str_eq]; exact decide_eq_false he
      have q2:(p.toList != s.toList)=true:=by unfold bne; rw [q1]; rfl
      have HX:=Lib.hid (HIC.out HI.out hc he)
      have hok:=insAt_len HI.out
      clear hc he
      have tok:True:=trivial
      go_wp2_with (first
       | (at_builtin; have _t:=tok; go_must (refine push_str _ hown (.tmp 24) (.tmp 26) s ?_ ?_ ?_ ?_ ?_ ?_ ?_; exact rfl; exact rfl; exact rfl; exact rfl; omega; exact hbl.size; intro v3 w3 hown3 hb3; clear tok; have hcell3:=(hb3.cell (p:=⟨b,off + k,none⟩) (by have:=hbl.size; omega)).trans hcell))
       | (at_builtin; go_must (refine push_str _ hown3 (.tmp 34) (.tmp 39) p ?_ ?_ ?_ ?_ ?_ ?_ ?_; exact rfl; exact rfl; exact rfl; exact rfl; omega; exact (hbl.trans hb3).size; intro v4 w4 hown4 hb4)))
      go_roundw
      case rel=>exact ⟨k + 1,true,(o ++ [s]) ++ [p],by omega,by simp; omega,by go_num,rfl,HX,by rw [scells_snoc,scells_snoc,List.length_append,List.length_append]; exact hown4,(hbl.trans hb3).trans hb4⟩
      case measure=>simp [intOf]; omega
   ·obtain ⟨hne,hx⟩:=HID.out HI.out
    have HX:=Lib.hid hx
    have q1:(p.toList == s.toList)=false:=by rw [str_eq]; exact decide_eq_false hne
    have q2:(p.toList != s.toList)=true:=by unfold bne; rw [q1]; rfl
    clear hne hx G
    go_wp2_with (at_builtin; go_must (refine push_str _ hown (.tmp 34) (.tmp 39) p ?_ ?_ ?_ ?_ ?_ ?_ ?_; exact rfl; exact rfl; exact rfl; exact rfl; omega; exact hbl.size; intro v3 w3 hown3 hb3))
    go_roundw
    case rel=>exact ⟨k + 1,true,o ++ [p],by omega,by simp; omega,by go_num,rfl,HX,by rw [scells_snoc,List.length_append]; exact hown3,hbl.trans hb3⟩
    case measure=>simp [intOf]; omega
  ·have hkl:k=l.length:=by omega
   subst hkl
   have HE:=Lib.hid (insAt_end HI.out)
   cases d
   ·go_wp2_with (at_builtin; go_must (refine push_str _ hown (.tmp 43) (.tmp 45) s ?_ ?_ ?_ ?_ ?_ ?_ ?_; exact rfl; exact rfl; exact rfl; exact rfl; omega; exact hbl.size; intro v3 w3 hown3 hb3))
    go_ret
    have he:insS l s=o ++ [s]:=HE.out
    exact ⟨v3,rfl,by rw [he,scells_snoc,List.length_append]; exact hown3,hbl.trans hb3⟩
   ·go_wp2_with fail
    go_ret
    have he:insS l s=o:=HE.out
    exact ⟨_,rfl,by rw [he]; exact hown,hbl⟩
end Go.Proofs.YtmmdaegdkikkpaaGreatDoor
end

section
set_option maxRecDepth 100000
namespace Go.Proofs.YtmmdaegdkikkpaaGreatDoor
open Go.ChangeShapes Go.WideShapes Go.ChangeAt Go.RowKit
def atD (l:List At) (j:Nat):At:=l.getD j (⟨#[]⟩,[])
theorem at_get (l:List At) (j:Nat) (h:j < l.length):atD l j=l[j]:=by
 unfold atD; rw [List.getD_eq_getElem?_getD,List.getElem?_eq_getElem h]; rfl
theorem at_mem (l:List At) (j:Nat) (h:j < l.length):atD l j ∈ l:=by rw [at_get l j h]; exact List.getElem_mem h
theorem at_take (l:List At) (k:Nat) (h:k < l.length):l.take (k + 1)=l.take k ++ [atD l k]:=by
 rw [at_get l k h]; exact List.take_succ_eq_append_getElem h
def AttAt (w:World) (b off:Nat) (a:At):Prop:=
 w.cell? ⟨b,off,none⟩=some (.string a.1) /\ ∃ vo vn vc,w.cell? ⟨b,off + 1,none⟩=some (.slice vo vn vc) /\ StrsAt w vo vn vc a.2
theorem AttAt.below {w w':World} {b off:Nat} {a:At} (h:AttAt w b off a) (hb:Below w.heap.size w w'):AttAt w' b off a:=by
 obtain ⟨h0,vo,vn,vc,h1,h2⟩:=h
 exact ⟨cell_later hb h0,vo,vn,vc,cell_later hb h1,h2.below hb⟩
def AttrsAt (w:World) (ao:Option Addr) (n cap:Nat) (l:List At):Prop:=
 l.length=n /\ n <= cap /\ cap <= maxLen /\ (0 < n -> ∃ b off,ao=some ⟨b,off,none⟩ /\ b < w.heap.size /\ ∀ j,j < n -> AttAt w b (off + j * 2) (atD l j))
theorem AttrsAt.below {w w':World} {ao:Option Addr} {n cap:Nat} {l:List At} (h:AttrsAt w ao n cap l) (hb:Below w.heap.size w w'):AttrsAt w' ao n cap l:=
 ⟨h.1,h.2.1,h.2.2.1,fun hn=>by
  obtain ⟨b,off,e,hi,ha⟩:=h.2.2.2 hn
  exact ⟨b,off,e,Nat.lt_of_lt_of_le hi hb.size,fun j hj=>(ha j hj).below hb⟩⟩
end Go.Proofs.YtmmdaegdkikkpaaGreatDoor
end

section
set_option maxRecDepth 100000
namespace Go.Proofs.YtmmdaegdkikkpaaGreatDoor
open Go.RowKit Go.PlainAid
def SmallS (l:List ByteArray):Prop := ∀ v ∈ l,v.size <= 1100000
def SmallA (l:List At):Prop := ∀ a ∈ l,a.1.size <= 1100000 /\ SmallS a.2
theorem two_step {w w1 w2:World} {A B:Addr} {x y:Value} (h:w1.cell? A=some x /\ w1.cell? B=some y /\ Hid (Below w.heap.size w w1)) (hb:Below w1.heap.size w1 w2) :
  w2.cell? A=some x /\ w2.cell? B=some y /\ Hid (Below w.heap.size w w2):=
 ⟨cell_later hb h.1,cell_later hb h.2.1,Lib.hid (h.2.2.out.trans (hb.mono h.2.2.out.size))⟩
def twiceB (l:List At) (i:Nat):Bool:=(l.take i).any fun a=>decide (lowS a.1=lowS (atD l i).1)
theorem twice_true {l:List At} {i k:Nat} (hi:i < l.length) (hk:k < i) (h:lowS (atD l k).1=lowS (atD l i).1):twiceB l i=true:=by
 unfold twiceB
 rw [List.any_eq_true]
 refine ⟨atD l k, ?_,decide_eq_true h⟩
 rw [at_get l k (by omega)]
 exact List.mem_take_iff_getElem.2 ⟨k,by omega,rfl⟩
theorem twice_false {l:List At} {i:Nat} (hi:i < l.length) (h:∀ k,k < i -> lowS (atD l k).1 ≠ lowS (atD l i).1):twiceB l i=false:=by
 rw [Bool.eq_false_iff]
 intro e
 unfold twiceB at e
 rw [List.any_eq_true] at e
 obtain ⟨a,ha,e⟩:=e
 obtain ⟨k,hk,rfl⟩:=List.mem_take_iff_getElem.1 ha
 refine h k (by omega) ?_
 rw [at_get l k (by omega)]
 exact of_decide_eq_true e
set_option maxRecDepth 100000 in
set_option maxHeartbeats 4000000 in
theorem twice_s (ao:Option Addr) (n cap i:Nat) (l:List At) (w:World) (h:AttrsAt w ao n cap l) (hi:i < n) (hS:SmallA l) :
  Calls Tryz.prog 129 #[.slice ao n cap, .int .i64 i] w fun e w'=>e = .returned (.bool (twiceB l i)) /\ Below w.heap.size w w':=by
 obtain ⟨h1,h2,h3,h4⟩:=h
 subst h1
 unfold maxLen at h3
 obtain ⟨b,off,rfl,hblt,ha⟩:=h4 (by omega)
 have HA:=Lib.hid (fun j (hj:j < l.length)=>(ha j hj).1)
 obtain ⟨q,hq⟩:∃ q,(atD l i).1=q:=⟨_,rfl⟩
 have hqs:q.size <= 1100000:=by rw [<- hq]; exact (hS _ (at_mem l i hi)).1
 have hci:=HA.out i hi
 rw [hq] at hci
 have HS:=Lib.hid hS
 have HT:=Lib.hid (fun k=>twice_true (l:=l) (i:=i) (k:=k) hi)
 have HF:=Lib.hid (twice_false (l:=l) (i:=i) hi)
 rw [hq] at HT HF
 clear hq ha hS
 obtain ⟨u,hu⟩:∃ u,lowS q=u:=⟨_,rfl⟩
 rw [hu] at HT HF
 have HU:=Lib.hid hu
 clear hu
 have e0:(i:Int) < (l.length:Int):=by omega
 go_enter Tryz.func129,Tryz.ntmps129
 go_wp2
 go_loopw [5] (fun j wr=>∃ k:Nat,k <= i /\ j = .int .i64 k /\ Hid (∀ j,j < k -> lowS (atD l j).1 ≠ u) /\ Below w.heap.size w wr) (fun j _=>i - (intOf j).toNat)
 case atStart=>exact ⟨0,Nat.zero_le _,rfl,Lib.hid (fun j hj=>absurd hj (Nat.not_lt_zero _)),Below.refl _ _⟩
 case round =>
  obtain ⟨k,hk,rfl,HN,hbl⟩:=hrel
  by_cases hlt:k < i
  ·have hck0:=HA.out k (by omega)
   obtain ⟨p,hp⟩:∃ p,(atD l k).1=p:=⟨_,rfl⟩
   have hps:p.size <= 1100000:=by rw [<- hp]; exact (HS.out _ (at_mem l k (by omega))).1
   rw [hp] at hck0
   have hck:=(hbl.cell (p:=⟨b,off + k * 2,none⟩) hblt).trans hck0
   have hci':=(hbl.cell (p:=⟨b,off + i * 2,none⟩) hblt).trans hci
   have HT1:=Lib.hid (HT.out k hlt)
   rw [hp] at HT1
   have HP:=Lib.hid hp
   clear hp hck0 hci
   obtain ⟨t,ht⟩:∃ t,lowS p=t:=⟨_,rfl⟩
   rw [ht] at HT1
   have HTT:=Lib.hid ht
   have HB:Hid (Below w.heap.size w wr.drew):=Lib.hid hbl.drew
   have d1:(k:Int) < (i:Int):=by omega
   have d2:(k:Int) < (l.length:Int):=by omega
   clear ht hbl
   by_cases htu:t=u
   ·have q1:(t.toList == u.toList)=true:=by rw [str_eq]; exact decide_eq_true htu
    have HE:=Lib.hid (HT1.out htu)
    clear htu
    go_wp2_with fail
    go_region_held3 (fun w'=>w'.cell? ⟨b,off + k * 2,none⟩=some (.string p) /\ w'.cell? ⟨b,off + i * 2,none⟩=some (.string q) /\ Hid (Below w.heap.size w w'))
     (first | exact ⟨hck,hci',HB⟩ | exact two_step (by assumption) hb | go_keep)
     (first
      | (go_at_call 81; with_reducible refine (rLower_s p _ (by omega)).mono ?_; rintro e w' ⟨rfl,hb⟩; rw [HTT.out])
      | (go_at_call 81; with_reducible refine (rLower_s q _ (by omega)).mono ?_; rintro e w' ⟨rfl,hb⟩; rw [HU.out]))
    all_goals (go_wp2; go_ret; exact ⟨by rw [HE.out]; rfl,(show Hid (Below w.heap.size w _) by first | assumption | exact And.right (And.right (by assumption))).out⟩)
   ·have q1:(t.toList == u.toList)=false:=by rw [str_eq]; exact decide_eq_false htu
    have HE:=Lib.hid htu
    clear htu
    go_wp2_with fail
    go_region_held3 (fun w'=>w'.cell? ⟨b,off + k * 2,none⟩=some (.string p) /\ w'.cell? ⟨b,off + i * 2,none⟩=some (.string q) /\ Hid (Below w.heap.size w w'))
     (first | exact ⟨hck,hci',HB⟩ | exact two_step (by assumption) hb | go_keep)
     (first
      | (go_at_call 81; with_reducible refine (rLower_s p _ (by omega)).mono ?_; rintro e w' ⟨rfl,hb⟩; rw [HTT.out])
      | (go_at_call 81; with_reducible refine (rLower_s q _ (by omega)).mono ?_; rintro e w' ⟨rfl,hb⟩; rw [HU.out]))
    go_wp2
    go_roundw
    case rel =>
     refine ⟨k + 1,by omega,by go_num,Lib.hid fun j hj => ?_,(show Hid (Below w.heap.size w _) by first | assumption | exact And.right (And.right (by assumption))).out⟩
     by_cases e:j=k
     ·rw [e,HP.out,HTT.out]; exact HE.out
     ·exact HN.out j (by omega)
    case measure=>simp [intOf]; omega
  ·have hki:k=i:=by omega
   subst hki
   have HE:=Lib.hid (HF.out HN.out)
   go_wp2_with fail
   go_ret
   exact ⟨by rw [HE.out]; rfl,hbl⟩
def firstE (f:Nat -> Int):Nat -> Int
 | 0=>0
 | n + 1=>if firstE f n=0 then f n else firstE f n
theorem firstE_zero {f:Nat -> Int}:∀ {n:Nat},(∀ j,j < n -> f j=0) -> firstE f n=0
 | 0,_=>rfl
 | n + 1,h=>by
  unfold firstE
  rw [if_pos (firstE_zero fun j hj=>h j (by omega))]
  exact h n (by omega)
theorem firstE_hit {f:Nat -> Int} {k:Nat} (h:∀ j,j < k -> f j=0) (hk:f k ≠ 0):∀ {n:Nat},k < n -> firstE f n=f k
 | 0,hn=>absurd hn (Nat.not_lt_zero _)
 | n + 1,hn=>by
  unfold firstE
  by_cases e:k=n
  ·subst e; rw [if_pos (firstE_zero h)]
  ·have:=firstE_hit h hk (n:=n) (by omega)
   rw [if_neg (by rw [this]; exact hk)]; exact this
def errV (vs old:List ByteArray) (j:Nat):Int:=if cleanB (partAt vs j)=false then 4 else if memB old (partAt vs j)=true ∨ memB (vs.take j) (partAt vs j)=true then 7 else 0
def chkV (vs old:List ByteArray):Int:=firstE (errV vs old) vs.length
theorem StrsAt.cut {w:World} {ao:Option Addr} {n cap:Nat} {ps:List ByteArray} (h:StrsAt w ao n cap ps) (i:Nat) (hi:i <= n):StrsAt w ao i cap (ps.take i):=by
 obtain ⟨h1,h2,h3,h4⟩:=h
 refine ⟨by rw [List.length_take]; omega,by omega,h3,fun hn => ?_⟩
 obtain ⟨b,off,e,hb,hs⟩:=h4 (by omega)
 refine ⟨b,off,e,hb,fun j hj => ?_⟩
 rw [List.length_take] at hj
 rw [hs j (by omega)]
 unfold partAt
 rw [List.getD_eq_getElem?_getD,List.getD_eq_getElem?_getD,List.getElem?_take,if_pos (by omega)]
end Go.Proofs.YtmmdaegdkikkpaaGreatDoor
end

section
set_option maxRecDepth 100000
namespace Go.Proofs.YtmmdaegdkikkpaaGreatDoor
open Go.ChangeShapes Go.WideShapes Go.ChangeAt Go.RowKit Go.PlainAid
theorem str_len (s:ByteArray):s.data.toList.length=s.size:=by rw [Array.length_toList]; rfl
end Go.Proofs.YtmmdaegdkikkpaaGreatDoor
end

section
set_option maxRecDepth 100000
namespace Go.Proofs
open Go.Shelf
def Tryz.keys_ren:Go.Shelf.Ren:=⟨fun | 7=>92 | 10=>156 | n=>n,fun | 23=>112 | 26=>9 | 3=>55 | 28=>118 | 0=>0 | 27=>117 | 33=>52 | 4=>4 | n=>n,fun | n=>n⟩
theorem Tryz.keys:Go.Proofs.SlLaysZ.n7 Tryz.prog Tryz.keys_ren:={
 mixed:=by kernel_rfl
 f7:=⟨Tryz.f92.name,by decide,Tryz.func92.trans (congrArg some (by kernel_rfl))⟩
 f10:=⟨Tryz.f156.name,by decide,Tryz.func156.trans (congrArg some (by kernel_rfl))⟩
 t0:=Tryz.underlying0
 a0:=Tryz.isAgg0
 z0:=Tryz.sizeOf0
 v0:=Tryz.zeroValue0
 t4:=Tryz.underlying4
 a4:=Tryz.isAgg4
 z4:=Tryz.sizeOf4
 v4:=Tryz.zeroValue4
 t23:=Tryz.underlying112
 a23:=Tryz.isAgg112
 z23:=Tryz.sizeOf112
 v23:=Tryz.zeroValue112
 t26:=Tryz.underlying9
 a26:=Tryz.isAgg9
 z26:=Tryz.sizeOf9
 v26:=Tryz.zeroValue9
 t27:=Tryz.underlying117
 a27:=Tryz.isAgg117
 z27:=Tryz.sizeOf117
 v27:=Tryz.zeroValue117
 t28:=Tryz.underlying118
 a28:=Tryz.isAgg118
 z28:=Tryz.sizeOf118
 v28:=Tryz.zeroValue118
 t33:=Tryz.underlying52
 a33:=Tryz.isAgg52
 z33:=Tryz.sizeOf52
 v33:=Tryz.zeroValue52 }
def Tryz.sorted_ren:Go.Shelf.Ren:=⟨fun | 6=>91 | 8=>155 | 9=>78 | 11=>227 | 13=>134 | 12=>133 | 23=>210 | 24=>211 | 14=>201 | 15=>202 | 16=>203 | 17=>204 | 18=>205 | 19=>206 | 20=>207 | 21=>208 | 22=>209 | 25=>254 | 26=>255 | 27=>256 | 28=>257 | 29=>258 | 30=>259 | 31=>283 | n=>n,fun | 26=>9 | 28=>118 | 24=>55 | 0=>0 | 3=>3 | 37=>158 | 48=>206 | 50=>208 | 4=>4 | 40=>199 | 39=>198 | 45=>203 | 5=>5 | 9=>9 | 51=>226 | 55=>230 | 57=>246 | 58=>247 | 33=>52 | n=>n,fun | n=>n⟩
theorem Tryz.sorted:Go.Proofs.SlLaysZ.n6 Tryz.prog Tryz.sorted_ren:={
 mixed:=by kernel_rfl
 f6:=⟨Tryz.f91.name,by decide,Tryz.func91.trans (congrArg some (by kernel_rfl))⟩
 f8:=⟨Tryz.f155.name,by decide,Tryz.func155.trans (congrArg some (by kernel_rfl))⟩
 f11:=⟨Tryz.f227.name,by decide,Tryz.func227.trans (congrArg some (by kernel_rfl))⟩
 t0:=Tryz.underlying0
 a0:=Tryz.isAgg0
 z0:=Tryz.sizeOf0
 v0:=Tryz.zeroValue0
 t24:=Tryz.underlying55
 a24:=Tryz.isAgg55
 z24:=Tryz.sizeOf55
 v24:=Tryz.zeroValue55
 t26:=Tryz.underlying9
 a26:=Tryz.isAgg9
 z26:=Tryz.sizeOf9
 v26:=Tryz.zeroValue9
 t28:=Tryz.underlying118
 a28:=Tryz.isAgg118
 z28:=Tryz.sizeOf118
 v28:=Tryz.zeroValue118
 i26:=by kernel_rfl }
def Tryz.sort_ren:Go.Shelf.Ren:=⟨fun | 6=>78 | 8=>134 | 9=>133 | 19=>210 | 20=>211 | 21=>201 | 22=>202 | 23=>203 | 24=>204 | 25=>205 | 26=>206 | 27=>207 | 28=>208 | 29=>209 | 36=>254 | 31=>255 | 32=>256 | 37=>257 | 38=>258 | 39=>259 | 41=>283 | n=>n,fun | 27=>55 | 29=>9 | 3=>3 | 32=>158 | 26=>55 | 0=>0 | 44=>206 | 46=>208 | 4=>4 | 36=>199 | 35=>198 | 41=>203 | 5=>5 | 9=>9 | 53=>226 | 57=>230 | 63=>246 | 64=>247 | n=>n,fun | n=>n⟩
theorem Tryz.sort:Go.Proofs.SlLaysM.n6 Tryz.prog Tryz.sort_ren:={
 mixed:=by kernel_rfl
 f6:=⟨Tryz.f78.name,by decide,Tryz.func78.trans (congrArg some (by kernel_rfl))⟩
 f8:=Tryz.func134.trans (congrArg some (by kernel_rfl))
 f9:=⟨Tryz.f133.name,by decide,Tryz.func133.trans (congrArg some (by kernel_rfl))⟩
 f19:=Tryz.func210.trans (congrArg some (by kernel_rfl))
 f20:=Tryz.func211.trans (congrArg some (by kernel_rfl))
 f21:=⟨Tryz.f201.name,by decide,Tryz.func201.trans (congrArg some (by kernel_rfl))⟩
 f22:=⟨Tryz.f202.name,by decide,Tryz.func202.trans (congrArg some (by kernel_rfl))⟩
 f23:=⟨Tryz.f203.name,by decide,Tryz.func203.trans (congrArg some (by kernel_rfl))⟩
 f24:=⟨Tryz.f204.name,by decide,Tryz.func204.trans (congrArg some (by kernel_rfl))⟩
 f25:=⟨Tryz.f205.name,by decide,Tryz.func205.trans (congrArg some (by kernel_rfl))⟩
 f26:=⟨Tryz.f206.name,by decide,Tryz.func206.trans (congrArg some (by kernel_rfl))⟩
 f27:=⟨Tryz.f207.name,by decide,Tryz.func207.trans (congrArg some (by kernel_rfl))⟩
 f28:=⟨Tryz.f208.name,by decide,Tryz.func208.trans (congrArg some (by kernel_rfl))⟩
 f29:=⟨Tryz.f209.name,by decide,Tryz.func209.trans (congrArg some (by kernel_rfl))⟩
 f31:=Tryz.func255.trans (congrArg some (by kernel_rfl))
 f32:=Tryz.func256.trans (congrArg some (by kernel_rfl))
 f36:=⟨Tryz.f254.name,by decide,Tryz.func254.trans (congrArg some (by kernel_rfl))⟩
 f37:=⟨Tryz.f257.name,by decide,Tryz.func257.trans (congrArg some (by kernel_rfl))⟩
 f38:=⟨Tryz.f258.name,by decide,Tryz.func258.trans (congrArg some (by kernel_rfl))⟩
 f39:=⟨Tryz.f259.name,by decide,Tryz.func259.trans (congrArg some (by kernel_rfl))⟩
 f41:=⟨Tryz.f283.name,by decide,Tryz.func283.trans (congrArg some (by kernel_rfl))⟩
 t0:=Tryz.underlying0
 a0:=Tryz.isAgg0
 z0:=Tryz.sizeOf0
 v0:=Tryz.zeroValue0
 t3:=Tryz.underlying3
 a3:=Tryz.isAgg3
 z3:=Tryz.sizeOf3
 v3:=Tryz.zeroValue3
 t4:=Tryz.underlying4
 a4:=Tryz.isAgg4
 z4:=Tryz.sizeOf4
 v4:=Tryz.zeroValue4
 t5:=Tryz.underlying5
 a5:=Tryz.isAgg5
 z5:=Tryz.sizeOf5
 v5:=Tryz.zeroValue5
 t9:=Tryz.underlying9
 a9:=Tryz.isAgg9
 z9:=Tryz.sizeOf9
 v9:=Tryz.zeroValue9
 t26:=Tryz.underlying55
 a26:=Tryz.isAgg55
 z26:=Tryz.sizeOf55
 v26:=Tryz.zeroValue55
 t27:=Tryz.underlying55
 a27:=Tryz.isAgg55
 z27:=Tryz.sizeOf55
 v27:=Tryz.zeroValue55
 t29:=Tryz.underlying9
 a29:=Tryz.isAgg9
 z29:=Tryz.sizeOf9
 v29:=Tryz.zeroValue9
 t32:=Tryz.underlying158
 a32:=Tryz.isAgg158
 z32:=Tryz.sizeOf158
 v32:=Tryz.zeroValue158
 t35:=Tryz.underlying198
 a35:=Tryz.isAgg198
 z35:=Tryz.sizeOf198
 v35:=Tryz.zeroValue198
 t36:=Tryz.underlying199
 a36:=Tryz.isAgg199
 z36:=Tryz.sizeOf199
 v36:=Tryz.zeroValue199
 t41:=Tryz.underlying203
 a41:=Tryz.isAgg203
 z41:=Tryz.sizeOf203
 v41:=Tryz.zeroValue203
 t44:=Tryz.underlying206
 a44:=Tryz.isAgg206
 z44:=Tryz.sizeOf206
 v44:=Tryz.zeroValue206
 t46:=Tryz.underlying208
 a46:=Tryz.isAgg208
 z46:=Tryz.sizeOf208
 v46:=Tryz.zeroValue208
 t53:=Tryz.underlying226
 a53:=Tryz.isAgg226
 z53:=Tryz.sizeOf226
 v53:=Tryz.zeroValue226
 t57:=Tryz.underlying230
 a57:=Tryz.isAgg230
 z57:=Tryz.sizeOf230
 v57:=Tryz.zeroValue230
 t63:=Tryz.underlying246
 a63:=Tryz.isAgg246
 z63:=Tryz.sizeOf246
 v63:=Tryz.zeroValue246
 t64:=Tryz.underlying247
 a64:=Tryz.isAgg247
 z64:=Tryz.sizeOf247
 v64:=Tryz.zeroValue247 }
end Go.Proofs
end

section
set_option maxRecDepth 100000
namespace Go.Proofs.YtmmdaegdkikkpaaGreatDoor
open Go.RowKit Go.PlainAid Go.Maps Go.Sort Go.Shelf
theorem sorts_in (m:Nat):AnyZ.SortsIn Tryz.prog Tryz.sorted_ren Fence.wide m:=
  ⟨fun blk off cap ss W hH hblk hsz=>callsIn_wide.2 (AnyM.slices_Sort_string Tryz.sort blk off cap ss W hH hblk hsz),
   fun p cap W=>callsIn_wide.2 (AnyM.slices_Sort_string_none Tryz.sort p cap W)⟩
theorem keys_s (mb:Option Nat) (W:World) :
    Calls Tryz.prog 92 #[.map mb] W fun e w' =>
      e = .returned (.func (.func 156) #[] #[.pointer (some ⟨W.heap.size,0,none⟩)]) /\ w'=W.alloc (.cells #[.map mb] 112):=
  (callsIn_wide (n:=5)).1 (AnyZ.keys_in Tryz.keys Fence.wide 5 trivial rfl mb W)
set_option maxHeartbeats 1000000 in
theorem sorted_keys {H:Type} (b nn:Nat) (D0:DataW H) (R:Value -> Option (DataW H × List MemPlace)) (w:World) (hown:w.ownsMap Tryz.prog 9 R b nn D0) (hmax:Maps.size D0 <= 1100000) :
    Calls Tryz.prog 91 #[.func (.func 156) #[] #[.pointer (some ⟨w.heap.size,0,none⟩)]] (w.alloc (.cells #[.map (some b)] 112)) fun e w' =>
      ∃ (v:Value) (ss:List (List UInt8)),e = .returned v /\ ss.Perm (strKeys D0) /\
      w'.ownsRow (w.heap.size + 1) 9 1 v ss.length (scells ((ss.mergeSort (fun x y=>decide (x <= y))).map fun x=>⟨x.toArray⟩)) /\ Below (w.heap.size + 1) (w.alloc (.cells #[.map (some b)] 112)) w':=by
  have hbl:=hown.lt
  have hseq:SeqGives Fence.wide 2 Tryz.prog 156 #[.pointer (some ⟨w.heap.size,0,none⟩)] encStr (fun ss=>ss.Perm (strKeys D0)) (Maps.size D0) (w.alloc (.cells #[.map (some b)] 112)):=
    AnyZ.keys_gives (ρ:=Tryz.keys_ren) { Tryz.keys with } Fence.wide _ trivial rfl (by omega) w.heap.size b nn D0 _ (by simp) (by simp) (by
      obtain ⟨es,clock,hb,Ft,hs,hD⟩:=hown
      exact ⟨es,clock,(Below.heap_alloc _ _ b hbl).trans hb,Ft,hs,hD⟩)
  refine ((callsIn_wide (n:=5)).1 (AnyZ.sorted_in Tryz.sorted Fence.wide 5 trivial trivial trivial trivial rfl (by omega) (sorts_in _) (enters_of Tryz.func78 (by kernel_rfl) rfl) 156 #[.pointer (some ⟨w.heap.size,0,none⟩)] trivial
    (enters_of Tryz.func156 (by kernel_rfl) rfl) _ _ (by unfold maxLen; omega) (by omega) _ hseq)).mono ?_
  rintro e w' ⟨v,ss,he,hS,hrow,hnil,hb⟩
  rw [World.size_alloc] at hrow hb
  refine ⟨v,ss,he,hS, ?_,hb⟩
  have e1:scells ((ss.mergeSort (fun x y=>decide (x <= y))).map fun x=>⟨x.toArray⟩)=(ss.mergeSort (fun x y=>decide (x <= y))).map encStr:=by
    unfold scells; rw [List.map_map]; rfl
  rw [e1]; exact hrow
end Go.Proofs.YtmmdaegdkikkpaaGreatDoor
end

section
set_option maxRecDepth 100000
namespace Go.Proofs.YtmmdaegdkikkpaaGreatDoor
open Go.RowKit Go.PlainAid Go.Maps
variable {H:Type}
def hdrE (v:Value):Option (DataW H × List MemPlace):=
 match v with
 | .slice none 0 0=>some (.nil,[])
 | .slice (some ⟨g,0,none⟩) n c=>some (.agg [.lit (.int .i64 g), .lit (.int .i64 n), .lit (.int .i64 c)],[])
 | _=>none
theorem hdrE_nil:hdrE (H:=H) (.slice none 0 0)=some (.nil,[]):=rfl
theorem hdrE_some (g n c:Nat):hdrE (H:=H) (.slice (some ⟨g,0,none⟩) n c)=some (.agg [.lit (.int .i64 g), .lit (.int .i64 n), .lit (.int .i64 c)],[]):=rfl
theorem hdrE_one {u v:Value} {d:DataW H} {ps qs:List MemPlace} (h:hdrE u=some (d,ps)) (k:hdrE v=some (d,qs)):u=v:=by
 unfold hdrE at h k
 split at h <;> split at k <;> simp only [Option.some.injEq,Prod.mk.injEq,reduceCtorEq] at h k
 ·rfl
 ·obtain ⟨rfl,_⟩:=h; simp at k
 ·obtain ⟨rfl,_⟩:=h; simp at k
 ·obtain ⟨rfl,_⟩:=h
  simp only [DataW.agg.injEq,List.cons.injEq,DataW.lit.injEq,Lit.int.injEq,Int.ofNat.injEq,and_true,true_and,Int.ofNat_inj] at k
  obtain ⟨⟨h1,h2,h3⟩,_⟩:=k
  subst h1; subst h2; subst h3; rfl
theorem lt_cmp:∀ a b:List UInt8,a < b ↔ Lib.compareBytes a b < 0
 | [],[]=>by simp [Lib.compareBytes]
 | [],_ :: _=>by simp [Lib.compareBytes]
 | _ :: _,[]=>by simp [Lib.compareBytes]
 | x :: a,y :: b=>by
  rw [List.cons_lt_cons_iff,lt_cmp a b]
  show _ ↔ (if x < y then (-1:Int) else if y < x then 1 else Lib.compareBytes a b) < 0
  by_cases h:x < y
  ·simp [h]
  ·by_cases g:y < x
   ·have hne:¬ x=y:=fun e=>by subst e; exact h g
    simp [h,g,hne]
   ·have he:x=y:=by
     have h1:¬ x.toNat < y.toNat:=fun k=>h (UInt8.lt_iff_toNat_lt.2 k)
     have h2:¬ y.toNat < x.toNat:=fun k=>g (UInt8.lt_iff_toNat_lt.2 k)
     exact UInt8.toNat_inj.1 (by omega)
    simp [h,g,he]
theorem sort_keys {ss:List (List UInt8)} {ks:List ByteArray} (hn:ss.Nodup) (h:∀ x:ByteArray,x.data.toList ∈ ss ↔ x ∈ ks) :
  (ss.mergeSort (fun x y=>decide (x <= y))).map (fun x=>(⟨x.toArray⟩:ByteArray))=sortU ks:=by
 have hs:=List.pairwise_mergeSort (le:=fun (x y:List UInt8)=>decide (x <= y)) (fun a b c h1 h2=>decide_eq_true (List.le_trans (of_decide_eq_true h1) (of_decide_eq_true h2))) (fun a b=>by
  rcases List.le_total a b with k | k
  ·simp [k]
  ·simp [k]) ss
 have hp:=List.mergeSort_perm ss (fun x y=>decide (x <= y))
 refine asc_ext ?_ (sortU_asc ks) fun x => ?_
 ·unfold Asc
  rw [List.pairwise_map]
  have hd:=hp.symm.nodup hn
  refine (hs.and hd).imp fun {a b} k => ?_
  have k1:¬ b < a:=List.not_lt.2 (of_decide_eq_true k.1)
  rw [lt_cmp] at k1
  rcases cs_tri ⟨a.toArray⟩ ⟨b.toArray⟩ with j | j | j
  ·exact j
  ·exact absurd (by simpa using congrArg (fun s:ByteArray=>s.data.toList) j) k.2
  ·exact absurd (by simpa [cmpS] using j) k1
 ·rw [sortU_mem, <- h x,List.mem_map]
  constructor
  ·rintro ⟨y,hy,rfl⟩
   exact hp.mem_iff.1 (by simpa using hy)
  ·intro hx
   exact ⟨x.data.toList,hp.mem_iff.2 hx,by simp⟩
end Go.Proofs.YtmmdaegdkikkpaaGreatDoor
end

section
set_option maxRecDepth 100000
namespace Go.Proofs.YtmmdaegdkikkpaaGreatDoor
open Go.RowKit Go.PlainAid Go.Maps Go.ChangeMaps
variable {H:Type}
def klit (k:ByteArray):Lit := .string k.data.toList
theorem klit_one {a b:ByteArray} (h:klit a=klit b):a=b:=by
 unfold klit at h
 injection h with h
 exact ba_ext h
theorem klit_key (k:ByteArray) (h:k.size <= maxLen):keyOf Tryz.prog 9 (.string k)=some (klit k):=by
 simp [keyOf,Tryz.underlying9,mapKey,klit,h]
theorem hdr_own {w:World} {base n:Nat} {v:Value} {xs:List Value} (h:w.ownsRow base 9 1 v n xs):∃ d,hdrE (H:=H) v=some (d,[]):=by
 rcases h.2 with ⟨rfl,_⟩ | ⟨g,cap,cur,rfl,_⟩
 ·exact ⟨_,hdrE_nil⟩
 ·exact ⟨_,hdrE_some _ _ _⟩
def setK {α:Type} (f:ByteArray -> α) (k:ByteArray) (x:α) (j:ByteArray):α:=if j.data.toList=k.data.toList then x else f j
theorem setK_same {α:Type} (f:ByteArray -> α) (k:ByteArray) (x:α):setK f k x k=x:=if_pos rfl
theorem setK_other {α:Type} (f:ByteArray -> α) {k j:ByteArray} (x:α) (h:j ≠ k):setK f k x j=f j:=if_neg fun e=>h (ba_ext e)
structure Groups (w:World) (base b n:Nat) (D:DataW H) (gv:ByteArray -> List ByteArray) (hv:ByteArray -> Value):Prop where
 map:w.ownsMap Tryz.prog 9 hdrE b n D
 low:b < base
 reads:∀ k,hdrE (H:=H) (hv k)=some (D.atKey (klit k) .nil,[])
 own:∀ k,w.ownsRow base 9 1 (hv k) (gv k).length (scells (gv k))
 apart:∀ k k',k ≠ k' -> (hv k).ownBlock=none ∨ (hv k).ownBlock ≠ (hv k').ownBlock
theorem groups_made (w:World):Groups (H:=H) (w.alloc (.map #[] 0)) (w.heap.size + 1) w.heap.size 0 (.map []) (fun _=>[]) (fun _ => .slice none 0 0) where
 map:=World.ownsMap_made w _ _ _
 low:=Nat.lt_succ_self _
 reads k:=hdrE_nil
 own k:=World.ownsRow_nil _ _ _ _
 apart _ _ _ := .inl rfl
theorem Groups.look {w:World} {base b n:Nat} {D:DataW H} {gv:ByteArray -> List ByteArray} {hv:ByteArray -> Value} (G:Groups w base b n D gv hv) (k:ByteArray) (hk:k.size <= maxLen) :
  (Instr.lookup 112 (.map (some b)) (.string k) false).run Tryz.prog w = .ok (hv k) w:=by
 obtain ⟨v,ps,hrun,hv'⟩:=G.map.lookup (t:=112) (e:=55) (string_keyed Tryz.underlying9) Tryz.underlying112 (z := .slice none 0 0) (Tryz.zeroValue55 _) hdrE_nil (klit_key k hk)
 rw [hrun,hdrE_one hv' (G.reads k)]
theorem Groups.store {w w1:World} {base b n:Nat} {D:DataW H} {gv:ByteArray -> List ByteArray} {hv:ByteArray -> Value} (G:Groups w base b n D gv hv) (k:ByteArray) (hk:k.size <= maxLen) (hn:n < maxLen) {v':Value} {vs:List ByteArray}
  (hg:w.grownBy w1 (hv k).ownBlock) (hown:w1.ownsRow base 9 1 v' vs.length (scells vs)) (hl:v'.ownBlock=(hv k).ownBlock ∨ ∃ g,v'.ownBlock=some g /\ w.heap.size <= g) :
  ∃ w2 d,(Instr.mapUpdate 112 (.map (some b)) (.string k) v').run Tryz.prog w1 = .ok () w2 /\ Groups w2 base b (n + 1) (D.put (klit k) d) (setK gv k vs) (setK hv k v') /\ w1.grownBy w2 (some b):=by
 obtain ⟨d,hd⟩:=hdr_own (H:=H) hown
 have hbl:=G.map.lt
 have hne:some b ≠ (hv k).ownBlock:=fun e=>by
  have:=((G.own k).lt b e.symm).1
  have:=G.low
  omega
 have hm1:=G.map.kept hg hne
 obtain ⟨w2,hrun,hm2,hg2⟩:=hm1.update (t:=112) (e:=55) (string_keyed Tryz.underlying9) Tryz.underlying112 hn (klit_key k hk) hd
 have okept:∀ {u:Value} {xs:List ByteArray},w1.ownsRow base 9 1 u xs.length (scells xs) -> w2.ownsRow base 9 1 u xs.length (scells xs):=fun {u xs} ho=>ho.kept hg2 (by
  cases hu:u.ownBlock with
  | none=>exact .inl rfl
  | some g =>
   refine .inr fun e => ?_
   have:=(ho.lt g hu).1
   have:=G.low
   cases e
   omega)
 have old1:∀ j,j ≠ k -> w1.ownsRow base 9 1 (hv j) (gv j).length (scells (gv j)):=fun j hj=>(G.own j).kept hg (G.apart j k hj)
 refine ⟨w2,d,hrun,⟨hm2,G.low,fun j => ?_,fun j => ?_,fun i j hij => ?_⟩,hg2⟩
 ·by_cases e:j=k
  ·subst e
   rw [setK_same,atKey_put_same G.map.isMap (k:=klit j) (by unfold klit; trivial)]; exact hd
  ·rw [setK_other _ _ e,atKey_put_other (fun h=>e (klit_one h))]; exact G.reads j
 ·by_cases e:j=k
  ·subst e
   rw [setK_same,setK_same]; exact okept hown
  ·rw [setK_other _ _ e,setK_other _ _ e]; exact okept (old1 j e)
 ·have old_new:∀ j,j ≠ k -> (hv j).ownBlock=none ∨ (hv j).ownBlock ≠ v'.ownBlock:=fun j hj=>by
   rcases hl with h1 | ⟨g,h1,h2⟩
   ·rw [h1]; exact G.apart j k hj
   ·cases hu:(hv j).ownBlock with
    | none=>exact .inl rfl
    | some q =>
     refine .inr fun e => ?_
     have:=((G.own j).lt q hu).2
     rw [h1] at e
     cases e
     omega
  by_cases ei:i=k
  ·subst ei
   have ej:j ≠ i:=fun e=>hij e.symm
   rw [setK_same,setK_other _ _ ej]
   cases hu:v'.ownBlock with
   | none=>exact .inl rfl
   | some q =>
    refine .inr fun e => ?_
    rcases old_new j ej with h | h
    ·rw [h] at e; cases e
    ·exact h (by rw [hu,e])
  ·rw [setK_other _ _ ei]
   by_cases ej:j=k
   ·subst ej; rw [setK_same]; exact old_new i ei
   ·rw [setK_other _ _ ej]; exact G.apart i j hij
theorem keys_sorted {w:World} {b n:Nat} {D:DataW H} {R:Value -> Option (DataW H × List MemPlace)} {ks:List ByteArray} {ss:List (List UInt8)} (hown:w.ownsMap Tryz.prog 9 R b n D)
  (hk:∀ k:ByteArray,Maps.has D (klit k)=true ↔ k ∈ ks) (hp:ss.Perm (Go.strKeys D)):(ss.mergeSort (fun x y=>decide (x <= y))).map (fun x=>(⟨x.toArray⟩:ByteArray))=sortU ks:=by
 have hC:Go.Collected D (fun _=>false) ((sortU ks).map fun s=>s.data.toList):=by
  refine ⟨?_,fun x => ?_⟩
  ·refine List.pairwise_map.2 ((asc_nodup (sortU_asc ks)).imp fun {a b} h e=>h (ba_ext e))
  ·rw [List.mem_map]
   have e:(Lit.string x)=klit ⟨x.toArray⟩:=by unfold klit; simp
   constructor
   ·rintro ⟨s,hs,rfl⟩
    exact ⟨(hk s).2 (sortU_mem.1 hs),rfl⟩
   ·rintro ⟨h,_⟩
    rw [e] at h
    exact ⟨⟨x.toArray⟩,sortU_mem.2 ((hk _).1 h),by simp⟩
 have hS:=hp.trans (hC.perm hown (string_keyed Tryz.underlying9) Tryz.underlying9 (fun _=>rfl)).symm
 refine sort_keys (hS.symm.nodup hC.1) fun x => ?_
 rw [hS.mem_iff,List.mem_map]
 constructor
 ·rintro ⟨s,hs,e⟩
  rw [<- ba_ext e]; exact sortU_mem.1 hs
 ·intro hx
  exact ⟨x,sortU_mem.2 hx,rfl⟩
end Go.Proofs.YtmmdaegdkikkpaaGreatDoor
end

section
set_option maxRecDepth 100000
namespace Go.Proofs.YtmmdaegdkikkpaaGreatDoor
open Go.RowKit Go.PlainAid
theorem push_strs {ops:Array Oper} {rest:List Oper} {o:Oper} {a:Act} {Q:Exit -> Act -> World -> Prop} (wr:World) {base:Nat} {v:Value} {n:Nat} {xs:List Value} (hown:wr.ownsRow base 9 1 v n xs) (s x:Operand)
  {vo:Option Addr} {vn vc:Nat} {vs:List ByteArray} (hv:StrsAt wr vo vn vc vs) (hgd:o.guard=none)
  (ho:o.op = .call { callee := .builtin .append,args := #[s,x],argTypes := #[55,55] })
  (hs:a.eval s=v) (hx:a.eval x = .slice vo vn vc) (hn:n + vn <= 1000000000) (hbase:base <= wr.heap.size)
  (h:∀ v' w',w'.ownsRow base 9 1 v' (n + vn) (xs ++ scells vs) -> wr.grownBy w' v.ownBlock -> (v'.ownBlock=v.ownBlock ∨ v'.ownBlock=some wr.heap.size) -> wpList Tryz.prog ops Q rest (a.put o.dst v') w') :
  wpList Tryz.prog ops Q (o :: rest) a wr:=by
 obtain ⟨i0,hi,hz0,hz1,hz2⟩:=info_parts info_string
 obtain ⟨h1,h2,h3,h4⟩:=hv
 have key:∀ ad:Addr,vo=some ad -> (∀ j u,(scells vs)[j]? = some u -> wr.cell? (ad.add j)=some u) -> wpList Tryz.prog ops Q (o :: rest) a wr:=fun ad e hc =>
  wpList_append_own_at _ hgd s x 55 ho base 9 i0 (.string ⟨#[]⟩) 1 16 Tryz.underlying55 hi hz0 hz1 hz2 rfl (by decide) v n xs hs hown ad vn vc (scells vs) (by rw [hx,e]) (by unfold scells; rw [List.length_map]; omega)
   hc (by intro u hu; unfold scells at hu; obtain ⟨y,_,rfl⟩:=List.mem_map.1 hu; rfl) (by unfold maxLen; omega) (by omega) hbase (fun v' w' k1 k2 _ k4=>h v' w' k1 k2 k4)
 by_cases hp:0 < vn
 ·obtain ⟨b,off,e,hb,hc⟩:=h4 hp
  refine key _ e fun j u hu => ?_
  unfold scells at hu
  rw [List.getElem?_map] at hu
  cases hj:vs[j]? with
  | none=>rw [hj] at hu; cases hu
  | some y =>
   rw [hj] at hu
   obtain rfl:=(Option.some.inj hu).symm
   have hjl:j < vs.length:=(List.getElem?_eq_some_iff.1 hj).1
   have:=hc j hjl
   rw [Go.WideShapes.add_plain]
   rw [this]; unfold partAt
   rw [List.getD_eq_getElem?_getD,hj]; rfl
 ·have hvn:vn=0:=by omega
  subst hvn
  have hvs:vs = []:=List.length_eq_zero_iff.1 h1
  subst hvs
  cases vo with
  | some ad=>exact key ad rfl (fun j u hu=>by simp [scells] at hu)
  | none =>
   have hrun:(Builtin.append_ #[55,55] o.type #[v, .slice none 0 vc]).run Tryz.prog wr = .ok v wr:=by
    rcases hown.2 with ⟨rfl,_⟩ | ⟨g,cap,cur,rfl,_,_,hc,_⟩
    ·exact run_append_nothing wr 55 55 o.type 9 i0 Tryz.underlying55 hi none 0 0 (Nat.le_refl _) _ (Src.ofNil wr Tryz.underlying55 vc)
    ·exact run_append_nothing wr 55 55 o.type 9 i0 Tryz.underlying55 hi _ _ _ hc _ (Src.ofNil wr Tryz.underlying55 vc)
   refine wpList_plain hgd fun K hK => ?_
   unfold Oper.wp execOp
   simp only [ho,resolve,invoke,builtin,Sem.run_bind,Sem.run_pure,Result.andThen_ok,List.map_toArray,List.map_cons,List.map_nil,hs,hx,hrun]
   refine hK _ _ (h v wr ?_ ⟨rfl,rfl,rfl,Nat.le_refl _,fun _ _ _=>rfl⟩ (.inl rfl))
   simpa [scells] using hown
end Go.Proofs.YtmmdaegdkikkpaaGreatDoor
end
