/-
  Texts of the schema layer and of those beneath it, joined: NamG, NamSame, NamH, NamI, NamJ, NamU, NamW, NamX, NamY, NamZ, NamQ, ShelfR, NamO, NamT, NamD, SchStrs, SchMem, SchL, SchIx, SchOrC, SchC, MapRaw. Conditions stand at each contract.
-/
import Derived.WalkSmall
import Derived.BigQuiet
import Derived.Deep.QuietTactic
import Derived.Lib.Overlaps
import Derived.Lib.AppendZerosOnto
import Derived.Laws.IdiomCopy
import Derived.Deep.RegionLaw
import Derived.Shelf.SlicesQ.Reverse
import Derived.WalkLawsBesides
import Derived.Lib.SliceRun
import Derived.StillTailTactics
import Derived.BigRegion
import Derived.Lib.SmallJoins
import Derived.Test.YtmmdaegdkikkpaaGreatDoorT07
set_option linter.unusedVariables false
set_option linter.unusedSimpArgs false
set_option linter.unnecessarySimpa false

section
set_option maxRecDepth 100000
namespace Go.Proofs.YtmmdaegdkikkpaaGreatDoor
namespace Nam
open Go.RowKit Go.PlainAid
theorem push_all {ops:Array Oper} {rest:List Oper} {o:Oper} {a:Act} {Q:Exit -> Act -> World -> Prop} (wr:World) {base:Nat} {v:Value} {n:Nat} {xs:List Value} (hown:wr.ownsRow base 5 1 v n xs) (s x:Operand)
  (t:ByteArray) (hgd:o.guard=none)
  (ho:o.op = .call { callee := .builtin .append,args := #[s,x],argTypes := #[77,9] })
  (hs:a.eval s=v) (hx:a.eval x = .string t) (hn:n + t.size <= 140737488355328) (hbase:base <= wr.heap.size)
  (h:∀ v' w',w'.ownsRow base 5 1 v' (n + t.size) (xs ++ bcells t.data.toList) -> Below base wr w' -> wpList Tryz.prog ops Q rest (a.put o.dst v') w') :
  wpList Tryz.prog ops Q (o :: rest) a wr:=by
 obtain ⟨i0,hi,hz0,hz1,hz2⟩:=info_parts info5
 refine Lib.wpList_append_own_string wr hgd s x 77 9 ho base 5 i0 Tryz.underlying77 Tryz.underlying9 hi hz0 hz1 hz2 v n xs hs hown t hx (by unfold maxLen; omega) (by omega) (by omega) ?_
 intro v' w' h1 h2 _
 refine h v' w' (by rw [<- strCells_b]; exact h1) ?_
 exact (Below.refl base wr).grown h2 hbase (fun k hk=>(hown.lt k hk).1)
theorem bcells_one' (c:UInt8):bcells [c] = [.int .u8 (c.toNat:Int)]:=rfl
set_option maxRecDepth 100000 in
set_option maxHeartbeats 8000000 in
theorem rformat_s (ao:Option Addr) (n cap:Nat) (l:List Pr) (w:World) (h:PairsAt w ao n cap l) (hsm:Small l) :
  Calls Tryz.prog 136 #[.slice ao n cap] w fun e w'=>e = .returned (.tuple #[.string (fmtV l), .int .i64 (fmtE l)]) /\ Below w.heap.size w w':=by
 obtain ⟨h1,h2,h3,h4⟩:=h
 subst h1
 have HS:=Lib.hid hsm
 have hl0:=hsm.1
 clear hsm
 have H4:=Lib.hid h4; clear h4
 go_enter Tryz.func136,Tryz.ntmps136
 go_wp2
 go_loopw [4,5] (fun bv i wr=>∃ k:Nat,k <= l.length /\ i = .int .i64 k /\ wr.ownsRow w.heap.size 5 1 bv (fmtK l k).length (bcells (fmtK l k)) /\ Below w.heap.size w wr /\ Hid (fmtFirst (l.take k)=0))
  (fun _ i _=>l.length - (intOf i).toNat)
 case atStart=>exact ⟨0,Nat.zero_le _,rfl,World.ownsRow_nil _ _ _ _,Below.refl _ _,Lib.hid rfl⟩
 case round =>
  obtain ⟨k,hk,rfl,hown,hbel,HF⟩:=hrel
  have hln:=fmtK_len HS.out k
  by_cases hlt:k < l.length
  ·obtain ⟨b,off,rfl,hs⟩:=H4.out (by omega)
   have HC:=Lib.hid (show ∀ w',Below w.heap.size w w' -> w'.cell? ⟨b,off + k * 2,none⟩=some (.string (prAt l k).1) /\ w'.cell? ⟨b,off + k * 2 + 1,none⟩=some (.string (prAt l k).2) from fun w' hb=>(hs.below hb hs.1).2 k hlt)
   obtain ⟨hpk,hpv⟩:=HS.out.2 k hlt
   have HST:=Lib.hid (fmtFirst_step HF.out hlt)
   have HK1:=Lib.hid (fun (_:k=0)=>fmtK_first l (by omega))
   have HK2:=Lib.hid (fun (h0:0 < k)=>fmtK_next l k hlt h0)
   obtain ⟨⟨p,q⟩,hpe⟩:∃ p,p=prAt l k:=⟨_,rfl⟩
   have HPE:=Lib.hid hpe
   rw [<- hpe] at HC hpk hpv HST HK2
   simp only [] at HC hpk hpv
   clear hs hpe
   have hfz:=foldS_size q
   have hlz:=lowS_size p
   obtain ⟨hc1,hc2⟩:=HC.out _ hbel
   cases n1:nameB p
   ·have HFN:=Lib.hid (show fmtE l=5 /\ fmtV l=ByteArray.empty by
     have hp1:prE (p,q)=5:=by unfold prE; rw [if_pos n1]
     have:=HST.out.2 (by rw [hp1]; decide)
     rw [hp1] at this; exact this)
    clear hc2
    go_wp2_with (go_at_call 118; refine (rName_s p _ (by omega)).mono ?_; rintro e w' ⟨rfl,rfl⟩; rw [n1])
    go_ret2
    exact ⟨by rw [HFN.out.1,HFN.out.2]; rfl,hbel⟩
   ·cases n2:cleanB q
    ·have HFN:=Lib.hid (show fmtE l=8 /\ fmtV l=ByteArray.empty by
      have hp1:prE (p,q)=8:=by unfold prE; simp only []; rw [if_neg (by rw [n1]; decide),if_pos n2]
      have:=HST.out.2 (by rw [hp1]; decide)
      rw [hp1] at this; exact this)
     go_wp2_with (first
      | (go_at_call 118; refine (rName_s p _ (by omega)).mono ?_; rintro e w' ⟨rfl,rfl⟩; rw [n1])
      | (go_at_call 194; refine (rClean_s q _ (by omega)).mono ?_; rintro e w' ⟨rfl,rfl⟩; rw [n2]))
     go_ret2
     exact ⟨by rw [HFN.out.1,HFN.out.2]; rfl,hbel⟩
    ·have HFN:=Lib.hid (HST.out.1 (by unfold prE; simp only []; rw [if_neg (by rw [n1]; decide),if_neg (by rw [n2]; decide)]))
     clear HST
     by_cases hk0:k=0
     ·skip
      have HK:=Lib.hid (show fmtK l (k + 1)=fmtK l k ++ (lowS p).data.toList ++ [61] ++ (escS (foldS q)).data.toList by
       have:=HK1.out hk0
       subst hk0
       rw [<- HPE.out] at this
       exact this)
      have hd0:decide (0 < k)=false:=by simp; omega
      clear hk0 HK1 HK2
      obtain ⟨pre0,hpre0⟩:∃ x,x=fmtK l k:=⟨_,rfl⟩
      rw [<- hpre0] at hown hln HK
      have HP0:=Lib.hid hpre0; clear hpre0
      have own0:=hown
      have L0:=hbel
      go_wp2_with (first
       | (go_at_call 118; refine (rName_s p _ (by omega)).mono ?_; rintro e w' ⟨rfl,rfl⟩; rw [n1])
       | (go_at_call 194; refine (rClean_s q _ (by omega)).mono ?_; rintro e w' ⟨rfl,rfl⟩; rw [n2])
       | (go_at_call 81; refine (rLower_s p _ (by omega)).mono ?_; rintro e w1 ⟨rfl,hb1⟩; have L1:=L0.trans (hb1.mono L0.size); have own1:=own_below own0 hb1)
       | (at_builtin; refine push_all _ own1 (.tmp 33) (.tmp 39) (lowS p) ?_ ?_ ?_ ?_ ?_ ?_ ?_; exact rfl; exact rfl; exact rfl; exact rfl; omega; exact L1.size; intro v2 w2 own2 hb2; have L2:=L1.trans hb2)
       | (at_builtin; refine push_byte _ own2 (.tmp 41) (.tmp 42) _ ?_ ?_ ?_ ?_ ?_ ?_ ?_; exact rfl; exact rfl; exact rfl; exact rfl; omega; exact L2.size; intro v3 w3 own3 hb3; have L3:=L2.trans hb3; clear hc1 hc2; obtain ⟨hc1,hc2⟩:=HC.out _ L3)
       | (go_at_call 140; refine (rFold_s q _ (by omega)).mono ?_; rintro e w4 ⟨rfl,hb4⟩; have L4:=L3.trans (hb4.mono L3.size); have own4:=own_below own3 hb4))
      obtain ⟨t,htt⟩:∃ t,t=foldS q:=⟨_,rfl⟩
      rw [<- htt] at hfz ⊢
      have HTT:=Lib.hid htt; clear htt
      rw [<- HTT.out] at HK
      have hbt:=get_bt t
      have hlow:(lowS p).data.toList.length=(lowS p).size:=(Lib.size_eq _).symm
      obtain ⟨pre,hpre⟩:∃ x,x=pre0 ++ (lowS p).data.toList ++ [61]:=⟨_,rfl⟩
      have hpl:pre0.length + (lowS p).size + 1=pre.length:=by rw [hpre]; simp only [List.length_append,List.length_cons,List.length_nil,hlow]
      have own5:w4.ownsRow w.heap.size 5 1 v3 pre.length (bcells pre):=by
       rw [hpl] at own4
       have e:bcells pre=bcells pre0 ++ bcells (lowS p).data.toList ++ [.int .u8 61]:=by rw [hpre,bcells_append,bcells_append]; rfl
       rw [e]; exact own4
      rw [<- hpre] at HK
      have HPR:=Lib.hid hpre; clear hpre own4 own3 own2 own1 own0 hown hc1 hc2
      clear HC
      go_loopw [4,7] (fun bv i wx=>∃ j:Nat,j <= t.size /\ i = .int .i64 j /\ wx.ownsRow w.heap.size 5 1 bv (pre ++ escV (t.data.toList.take j)).length (bcells (pre ++ escV (t.data.toList.take j))) /\ Below w.heap.size w wx)
       (fun _ i _=>t.size - (intOf i).toNat)
      case atStart=>exact ⟨0,Nat.zero_le _,rfl,by simpa [escV] using own5,L4⟩
      case round =>
       obtain ⟨j,hj,rfl,ownx,Lx⟩:=hrel
       clear own5
       have hl3:=escV_len (t.data.toList.take j)
       have hl4:(t.data.toList.take j).length <= j:=List.length_take_le _ _
       have hl5:(pre ++ escV (t.data.toList.take j)).length <= 100000000000:=by rw [List.length_append]; omega
       by_cases hjt:j < t.size
       ·have HSTE:=Lib.hid (escV_step t j hjt)
        have HCC:=Lib.hid (bt_chr t j)
        obtain ⟨cur,hcur⟩:∃ x,x=pre ++ escV (t.data.toList.take j):=⟨_,rfl⟩
        rw [<- hcur] at ownx hl5
        have HCU:=Lib.hid hcur; clear hcur
        cases c1:spec4 (chr t j)
        ·have HEND:=Lib.hid (show pre ++ escV (t.data.toList.take (j + 1))=cur ++ [chr t j] by rw [HCU.out,HSTE.out]; unfold escB; rw [c1]; simp)
         go_wp2_with (first
          | (go_at_call 214; refine (special_s _ (chr t j) _ HCC.out).mono ?_; rintro e w' ⟨rfl,rfl⟩; rw [c1])
          | (at_builtin; refine push_byte _ ownx (.tmp 63) (.tmp 67) _ ?_ ?_ ?_ ?_ ?_ ?_ ?_; exact rfl; exact rfl; exact rfl; exact rfl; omega; exact Lx.size; intro v6 w6 own6 hb6))
         go_roundw
         case rel=>exact ⟨j + 1,by omega,by go_num,by rw [HEND.out,List.length_append,bcells_append,bcells_one']; rw [HCC.out] at own6; exact own6,Lx.trans hb6⟩
         case measure=>simp [intOf]; omega
        ·have HEND:=Lib.hid (show pre ++ escV (t.data.toList.take (j + 1))=(cur ++ [92]) ++ [chr t j] by rw [HCU.out,HSTE.out]; unfold escB; rw [c1]; simp)
         go_wp2_with (first
          | (go_at_call 214; refine (special_s _ (chr t j) _ HCC.out).mono ?_; rintro e w' ⟨rfl,rfl⟩; rw [c1])
          | (at_builtin; refine push_byte _ ownx (.tmp 60) (.tmp 61) _ ?_ ?_ ?_ ?_ ?_ ?_ ?_; exact rfl; exact rfl; exact rfl; exact rfl; omega; exact Lx.size; intro v5 w5 own5 hb5; have L5:=Lx.trans hb5)
          | (at_builtin; refine push_byte _ own5 (.tmp 63) (.tmp 67) _ ?_ ?_ ?_ ?_ ?_ ?_ ?_; exact rfl; exact rfl; exact rfl; exact rfl; omega; exact L5.size; intro v6 w6 own6 hb6))
         go_roundw
         case rel=>exact ⟨j + 1,by omega,by go_num,by rw [HEND.out,List.length_append,List.length_append,bcells_append,bcells_append,bcells_one',bcells_one']; rw [HCC.out] at own6; exact own6,L5.trans hb6⟩
         case measure=>simp [intOf]; omega
       ·have HT:=Lib.hid (show fmtK l (k + 1)=pre ++ escV (t.data.toList.take j) by
         rw [HK.out,List.take_of_length_le (show t.data.toList.length <= j by rw [<- Lib.size_eq]; omega)]; rfl)
        rw [<- HT.out] at ownx
        go_wp2
        go_roundw
        case rel=>exact ⟨k + 1,by omega,by go_num,ownx,Lx,HFN⟩
        case measure=>simp [intOf]; omega
     ·skip
      have HK:=Lib.hid (HK2.out (by omega))
      have hd0:decide (0 < k)=true:=by simp; omega
      clear hk0 HK1 HK2
      obtain ⟨preA,hpreA⟩:∃ x,x=fmtK l k:=⟨_,rfl⟩
      rw [<- hpreA] at hown hln HK
      have HPA:=Lib.hid hpreA; clear hpreA
      go_wp2_with (first
       | (go_at_call 118; refine (rName_s p _ (by omega)).mono ?_; rintro e w' ⟨rfl,rfl⟩; rw [n1])
       | (go_at_call 194; refine (rClean_s q _ (by omega)).mono ?_; rintro e w' ⟨rfl,rfl⟩; rw [n2])
       | (at_builtin; refine push_byte _ hown (.tmp 30) (.tmp 31) _ ?_ ?_ ?_ ?_ ?_ ?_ ?_; exact rfl; exact rfl; exact rfl; exact rfl; omega; exact hbel.size; intro v0 w0 own0 hb0; have L0:=hbel.trans hb0; clear hc1 hc2; obtain ⟨hc1,hc2⟩:=HC.out _ L0)
       | (go_at_call 81; refine (rLower_s p _ (by omega)).mono ?_; rintro e w1 ⟨rfl,hb1⟩; have L1:=L0.trans (hb1.mono L0.size); have own1:=own_below own0 hb1)
       | (at_builtin; refine push_all _ own1 (.tmp 33) (.tmp 39) (lowS p) ?_ ?_ ?_ ?_ ?_ ?_ ?_; exact rfl; exact rfl; exact rfl; exact rfl; omega; exact L1.size; intro v2 w2 own2 hb2; have L2:=L1.trans hb2)
       | (at_builtin; refine push_byte _ own2 (.tmp 41) (.tmp 42) _ ?_ ?_ ?_ ?_ ?_ ?_ ?_; exact rfl; exact rfl; exact rfl; exact rfl; omega; exact L2.size; intro v3 w3 own3 hb3; have L3:=L2.trans hb3; clear hc1 hc2; obtain ⟨hc1,hc2⟩:=HC.out _ L3)
       | (go_at_call 140; refine (rFold_s q _ (by omega)).mono ?_; rintro e w4 ⟨rfl,hb4⟩; have L4:=L3.trans (hb4.mono L3.size); have own4:=own_below own3 hb4))
      obtain ⟨t,htt⟩:∃ t,t=foldS q:=⟨_,rfl⟩
      rw [<- htt] at hfz ⊢
      have HTT:=Lib.hid htt; clear htt
      rw [<- HTT.out] at HK
      have hbt:=get_bt t
      have hlow:(lowS p).data.toList.length=(lowS p).size:=(Lib.size_eq _).symm
      obtain ⟨pre,hpre⟩:∃ x,x=preA ++ [44] ++ (lowS p).data.toList ++ [61]:=⟨_,rfl⟩
      have hpl:(preA.length + 1) + (lowS p).size + 1=pre.length:=by rw [hpre]; simp only [List.length_append,List.length_cons,List.length_nil,hlow]
      have own5:w4.ownsRow w.heap.size 5 1 v3 pre.length (bcells pre):=by
       rw [hpl] at own4
       have e:bcells pre=bcells preA ++ [.int .u8 44] ++ bcells (lowS p).data.toList ++ [.int .u8 61]:=by rw [hpre,bcells_append,bcells_append,bcells_append]; rfl
       rw [e]; exact own4
      rw [<- hpre] at HK
      have HPR:=Lib.hid hpre; clear hpre own4 own3 own2 own1 own0 hown hc1 hc2
      clear HC
      go_loopw [4,7] (fun bv i wx=>∃ j:Nat,j <= t.size /\ i = .int .i64 j /\ wx.ownsRow w.heap.size 5 1 bv (pre ++ escV (t.data.toList.take j)).length (bcells (pre ++ escV (t.data.toList.take j))) /\ Below w.heap.size w wx)
       (fun _ i _=>t.size - (intOf i).toNat)
      case atStart=>exact ⟨0,Nat.zero_le _,rfl,by simpa [escV] using own5,L4⟩
      case round =>
       obtain ⟨j,hj,rfl,ownx,Lx⟩:=hrel
       clear own5
       have hl3:=escV_len (t.data.toList.take j)
       have hl4:(t.data.toList.take j).length <= j:=List.length_take_le _ _
       have hl5:(pre ++ escV (t.data.toList.take j)).length <= 100000000000:=by rw [List.length_append]; omega
       by_cases hjt:j < t.size
       ·have HSTE:=Lib.hid (escV_step t j hjt)
        have HCC:=Lib.hid (bt_chr t j)
        obtain ⟨cur,hcur⟩:∃ x,x=pre ++ escV (t.data.toList.take j):=⟨_,rfl⟩
        rw [<- hcur] at ownx hl5
        have HCU:=Lib.hid hcur; clear hcur
        cases c1:spec4 (chr t j)
        ·have HEND:=Lib.hid (show pre ++ escV (t.data.toList.take (j + 1))=cur ++ [chr t j] by rw [HCU.out,HSTE.out]; unfold escB; rw [c1]; simp)
         go_wp2_with (first
          | (go_at_call 214; refine (special_s _ (chr t j) _ HCC.out).mono ?_; rintro e w' ⟨rfl,rfl⟩; rw [c1])
          | (at_builtin; refine push_byte _ ownx (.tmp 63) (.tmp 67) _ ?_ ?_ ?_ ?_ ?_ ?_ ?_; exact rfl; exact rfl; exact rfl; exact rfl; omega; exact Lx.size; intro v6 w6 own6 hb6))
         go_roundw
         case rel=>exact ⟨j + 1,by omega,by go_num,by rw [HEND.out,List.length_append,bcells_append,bcells_one']; rw [HCC.out] at own6; exact own6,Lx.trans hb6⟩
         case measure=>simp [intOf]; omega
        ·have HEND:=Lib.hid (show pre ++ escV (t.data.toList.take (j + 1))=(cur ++ [92]) ++ [chr t j] by rw [HCU.out,HSTE.out]; unfold escB; rw [c1]; simp)
         go_wp2_with (first
          | (go_at_call 214; refine (special_s _ (chr t j) _ HCC.out).mono ?_; rintro e w' ⟨rfl,rfl⟩; rw [c1])
          | (at_builtin; refine push_byte _ ownx (.tmp 60) (.tmp 61) _ ?_ ?_ ?_ ?_ ?_ ?_ ?_; exact rfl; exact rfl; exact rfl; exact rfl; omega; exact Lx.size; intro v5 w5 own5 hb5; have L5:=Lx.trans hb5)
          | (at_builtin; refine push_byte _ own5 (.tmp 63) (.tmp 67) _ ?_ ?_ ?_ ?_ ?_ ?_ ?_; exact rfl; exact rfl; exact rfl; exact rfl; omega; exact L5.size; intro v6 w6 own6 hb6))
         go_roundw
         case rel=>exact ⟨j + 1,by omega,by go_num,by rw [HEND.out,List.length_append,List.length_append,bcells_append,bcells_append,bcells_one',bcells_one']; rw [HCC.out] at own6; exact own6,L5.trans hb6⟩
         case measure=>simp [intOf]; omega
       ·have HT:=Lib.hid (show fmtK l (k + 1)=pre ++ escV (t.data.toList.take j) by
         rw [HK.out,List.take_of_length_le (show t.data.toList.length <= j by rw [<- Lib.size_eq]; omega)]; rfl)
        rw [<- HT.out] at ownx
        go_wp2
        go_roundw
        case rel=>exact ⟨k + 1,by omega,by go_num,ownx,Lx,HFN⟩
        case measure=>simp [intOf]; omega
  ·have HT:=Lib.hid (show k=l.length by omega)
   rw [HT.out] at hown HF
   by_cases h8:8 < l.length
   ·have HE:=Lib.hid ((fmt_end HF.out).1 h8)
    have hd8:decide ((8:Int) < (l.length:Int))=true:=decide_eq_true (by omega)
    go_wp2
    go_ret2
    exact ⟨by rw [HE.out.1,HE.out.2]; rfl,hbel⟩
   ·have HE:=Lib.hid ((fmt_end HF.out).2 h8)
    have hd8:decide ((8:Int) < (l.length:Int))=false:=decide_eq_false (by omega)
    have hbk:=back hown
    go_wp2
    go_ret2
    exact ⟨by rw [HE.out.1,HE.out.2]; rfl,hbel⟩
theorem prE_small {p:Pr} (h:prE p=0):p.1.size <= 64 /\ p.2.size <= 256:=by
 obtain ⟨h1,h2⟩:=(prE_zero p).1 h
 unfold nameB at h1
 unfold cleanB at h2
 simp only [Bool.and_eq_true,decide_eq_true_eq] at h1 h2
 exact ⟨h1.1.1.2,h2.1.1.1.2⟩
theorem small_fine {l:List Pr} (h:∀ p ∈ l,prE p=0) (h8:l.length <= 8):Small l:=small_of l (by omega) fun p hp=>by have:=prE_small (h p hp); omega
theorem small_parse (s:ByteArray):Small (parseV s):=by
 by_cases h:parseE s=0
 ·exact small_fine (parseV_ok h).1 (parseV_ok h).2
 ·unfold parseV; rw [if_neg h]; exact ⟨by simp,fun j hj=>by simp at hj⟩
theorem str_eq (a b:ByteArray):(a.toList == b.toList)=decide (a=b):=by
 rw [Lib.toList_data,Lib.toList_data,Bool.eq_iff_iff,beq_iff_eq,decide_eq_true_eq]
 exact ⟨fun h=>by rw [<- Lib.mk_data a, <- Lib.mk_data b,h],fun h=>by rw [h]⟩
def CompsPost (s:ByteArray) (w:World) (e:Ending) (w':World):Prop:=
 ∃ v,e = .returned (.tuple #[v, .bool (normB s)]) /\ w'.ownsRow w.heap.size 192 2 v (compsV s).length (pcells (compsV s)) /\ Below w.heap.size w w'
set_option maxRecDepth 100000 in
set_option maxHeartbeats 2000000 in
theorem components_s (s:ByteArray) (w:World) (hs:s.size <= 1100000) :
  Calls Tryz.prog 126 #[.string s] w (CompsPost s w):=by
 go_enter Tryz.func126,Tryz.ntmps126
 go_wp2_with fail
 refine (parse_s s _ hs).mono ?_
 rintro e w1 ⟨v,rfl,hown,hb⟩
 by_cases hE:parseE s=0
 ·obtain ⟨ao,cap,rfl,hat⟩:=pairs_own hown rfl
  have hF:=fmt_parse_ok hE
  rw [hE]
  go_wp2_with fail
  refine (format_s ao _ cap (parseV s) _ hat (small_parse s)).mono ?_
  rintro e w2 ⟨rfl,hb2⟩
  rw [hF]
  have hown2:=own_below hown hb2
  have L2:=hb.trans (hb2.mono hb.size)
  by_cases hq:fmtV (parseV s)=s
  ·have HN:=Lib.hid (show normB s=true from (norm_iff s).2 ⟨hE,hq⟩)
   have HV:=Lib.hid (show compsV s=parseV s by unfold compsV; rw [HN.out]; rfl)
   have q1:((fmtV (parseV s)).toList == s.toList)=true:=by rw [str_eq]; exact decide_eq_true hq
   have q2:((fmtV (parseV s)).toList != s.toList)=false:=by unfold bne; rw [q1]; rfl
   clear hq hE hF
   go_wp2
   go_ret2
   exact ⟨_,by rw [HN.out]; rfl,by rw [HV.out]; exact hown2,L2⟩
  ·have HN:=Lib.hid (show normB s=false by rw [Bool.eq_false_iff]; intro e; exact hq ((norm_iff s).1 e).2)
   have q1:((fmtV (parseV s)).toList == s.toList)=false:=by rw [str_eq]; exact decide_eq_false hq
   have q2:((fmtV (parseV s)).toList != s.toList)=true:=by unfold bne; rw [q1]; rfl
   clear hq hE hF
   go_wp2
   go_ret2
   exact ⟨_,by rw [HN.out]; rfl,by rw [comps_none HN.out]; exact World.ownsRow_nil _ _ _ _,L2⟩
 ·have HN:=Lib.hid (show normB s=false by rw [Bool.eq_false_iff]; intro e; exact hE ((norm_iff s).1 e).1)
  have q0:(parseE s != 0)=true:=by simpa using hE
  clear hE
  generalize parseE s=k at q0 ⊢
  go_wp2
  go_ret2
  exact ⟨_,by rw [HN.out]; rfl,by rw [comps_none HN.out]; exact World.ownsRow_nil _ _ _ _,hb⟩
set_option maxRecDepth 100000 in
set_option maxHeartbeats 2000000 in
theorem clean0_s (s:ByteArray) (w:World) (hs:s.size <= 1100000) :
  Calls Tryz.prog 76 #[.string s] w fun e w'=>e = .returned (.tuple #[.string (cleanV s), .int .i64 (cleanE s)]) /\ Below w.heap.size w w':=by
 go_enter Tryz.func76,Tryz.ntmps76
 go_wp2_with fail
 refine (parse_s s _ hs).mono ?_
 rintro e w1 ⟨v,rfl,hown,hb⟩
 by_cases hE:parseE s=0
 ·obtain ⟨ao,cap,rfl,hat⟩:=pairs_own hown rfl
  have HV:=Lib.hid (show cleanV s=fmtV (parseV s) /\ cleanE s=fmtE (parseV s) by unfold cleanV cleanE; rw [if_pos hE,if_pos hE]; exact ⟨rfl,rfl⟩)
  rw [hE]
  clear hE
  go_wp2_with fail
  refine (format_s ao _ cap (parseV s) _ hat (small_parse s)).mono ?_
  rintro e w2 ⟨rfl,hb2⟩
  go_wp2
  go_ret2
  exact ⟨by rw [HV.out.1,HV.out.2]; rfl,hb.trans (hb2.mono hb.size)⟩
 ·have HV:=Lib.hid (show cleanV s=ByteArray.empty /\ cleanE s=parseE s by unfold cleanV cleanE; rw [if_neg hE,if_neg hE]; exact ⟨rfl,rfl⟩)
  have q0:(parseE s != 0)=true:=by simpa using hE
  clear hE
  generalize parseE s=k at q0 HV ⊢
  go_wp2
  go_ret2
  exact ⟨by rw [HV.out.1,HV.out.2]; rfl,hb⟩
set_option maxRecDepth 100000 in
set_option maxHeartbeats 2000000 in
theorem rclean0_s (s:ByteArray) (w:World) (hs:s.size <= 1100000) :
  Calls Tryz.prog 79 #[.string s] w fun e w'=>e = .returned (.tuple #[.string (cleanV s), .int .i64 (cleanE s)]) /\ Below w.heap.size w w':=by
 go_enter Tryz.func79,Tryz.ntmps79
 go_wp2_with fail
 refine (rparse_s s _ hs).mono ?_
 rintro e w1 ⟨v,rfl,hown,hb⟩
 by_cases hE:parseE s=0
 ·obtain ⟨ao,cap,rfl,hat⟩:=pairs_own hown rfl
  have HV:=Lib.hid (show cleanV s=fmtV (parseV s) /\ cleanE s=fmtE (parseV s) by unfold cleanV cleanE; rw [if_pos hE,if_pos hE]; exact ⟨rfl,rfl⟩)
  rw [hE]
  clear hE
  go_wp2_with fail
  refine (rformat_s ao _ cap (parseV s) _ hat (small_parse s)).mono ?_
  rintro e w2 ⟨rfl,hb2⟩
  go_wp2
  go_ret2
  exact ⟨by rw [HV.out.1,HV.out.2]; rfl,hb.trans (hb2.mono hb.size)⟩
 ·have HV:=Lib.hid (show cleanV s=ByteArray.empty /\ cleanE s=parseE s by unfold cleanV cleanE; rw [if_neg hE,if_neg hE]; exact ⟨rfl,rfl⟩)
  have q0:(parseE s != 0)=true:=by simpa using hE
  clear hE
  generalize parseE s=k at q0 HV ⊢
  go_wp2
  go_ret2
  exact ⟨by rw [HV.out.1,HV.out.2]; rfl,hb⟩
set_option maxRecDepth 100000 in
set_option maxHeartbeats 2000000 in
theorem valid_s (s:ByteArray) (w:World) (hs:s.size <= 1100000) :
  Calls Tryz.prog 72 #[.string s] w fun e w'=>e = .returned (.bool (normB s)) /\ Below w.heap.size w w':=by
 go_enter Tryz.func72,Tryz.ntmps72
 go_wp2_with fail
 refine (components_s s _ hs).mono ?_
 rintro e w1 ⟨v,rfl,hown,hb⟩
 go_wp2
 go_ret
 exact ⟨rfl,hb⟩
set_option maxRecDepth 100000 in
set_option maxHeartbeats 2000000 in
theorem rvalid_s (s:ByteArray) (w:World) (hs:s.size <= 1100000) :
  Calls Tryz.prog 74 #[.string s] w fun e w'=>e = .returned (.bool (normB s)) /\ Below w.heap.size w w':=by
 have HN:=Lib.hid (norm_clean s)
 go_enter Tryz.func74,Tryz.ntmps74
 go_wp2_with fail
 refine (rclean0_s s _ hs).mono ?_
 rintro e w1 ⟨rfl,hb⟩
 by_cases hE:cleanE s=0
 ·have q1:=str_eq (cleanV s) s
  have q0:(cleanE s == 0)=true:=by simpa using hE
  cases c:decide (cleanV s=s)
  ·rw [c] at q1 HN
   have HF:=Lib.hid (show normB s=false by rw [HN.out]; simp)
   clear hE
   go_wp2
   go_ret
   exact ⟨by rw [HF.out]; rfl,hb⟩
  ·rw [c] at q1 HN
   have HF:=Lib.hid (show normB s=true by rw [HN.out,hE]; rfl)
   clear hE
   go_wp2
   go_ret
   exact ⟨by rw [HF.out]; rfl,hb⟩
 ·have q0:(cleanE s == 0)=false:=by simpa using hE
  have HF:=Lib.hid (show normB s=false by rw [HN.out,decide_eq_false hE]; rfl)
  clear hE
  go_wp2
  go_ret
  exact ⟨by rw [HF.out]; rfl,hb⟩
theorem pcells_len:∀ l:List Pr,(pcells l).length=l.length * 2
 | []=>rfl
 | p :: l=>by
  have h:=pcells_len l
  have e:pcells (p :: l) = .string p.1 :: .string p.2 :: pcells l:=rfl
  rw [e,List.length_cons,List.length_cons,h,List.length_cons]; omega
theorem pcells_one (l:List Pr):∀ u ∈ pcells l,u.oneCell'=true:=by
 intro u hu
 obtain ⟨p,_,hp⟩:=List.mem_flatMap.1 hu
 simp at hp
 rcases hp with rfl | rfl <;> rfl
theorem pairs_cells {w:World} {b off:Nat} {ps:List Pr} (h:IsPairs w b off ps):∀ j u,(pcells ps)[j]? = some u -> w.cell? ((⟨b,off,none⟩:Addr).add j)=some u:=by
 intro j u hj
 rw [WideShapes.add_plain]
 have hl:j < (pcells ps).length:=by
  rcases Nat.lt_or_ge j (pcells ps).length with k | k
  ·exact k
  ·rw [List.getElem?_eq_none k] at hj; cases hj
 rw [pcells_len] at hl
 have hk:=pcells_at ps (j / 2) (by omega)
 have hc:=h.2 (j / 2) (by omega)
 rcases Nat.mod_two_eq_zero_or_one j with e | e
 ·have e2:j / 2 * 2=j:=by omega
  rw [e2] at hk hc
  rw [hk.1] at hj
  rw [hc.1]; exact hj
 ·have e2:j / 2 * 2 + 1=j:=by omega
  rw [e2] at hk
  rw [show off + j / 2 * 2 + 1=off + j by omega] at hc
  rw [hk.2] at hj
  rw [hc.2]; exact hj
theorem app_pairs {ops:Array Oper} {rest:List Oper} {o:Oper} {a:Act} {Q:Exit -> Act -> World -> Prop} (wr:World) {base:Nat} {v:Value} {n:Nat} {xs:List Value} (hown:wr.ownsRow base 192 2 v n xs) (s x:Operand)
  (ao:Option Addr) (m c:Nat) (news:List Pr) (hgd:o.guard=none)
  (ho:o.op = .call { callee := .builtin .append,args := #[s,x],argTypes := #[147,147] })
  (hs:a.eval s=v) (hx:a.eval x = .slice ao m c) (hw:PairsAt wr ao m c news) (h0:ao=none -> c=0) (hn:n + m <= 1000000000) (hbase:base <= wr.heap.size)
  (h:∀ v' w',w'.ownsRow base 192 2 v' (n + m) (xs ++ pcells news) -> Below base wr w' -> wpList Tryz.prog ops Q rest (a.put o.dst v') w') :
  wpList Tryz.prog ops Q (o :: rest) a wr:=by
 obtain ⟨i0,hi,hz0,hz1,hz2⟩:=info_parts info_pair
 obtain ⟨w1,w2,w3,w4⟩:=hw
 cases ao with
 | none =>
  have hc:=h0 rfl
  subst hc
  have hm:m=0:=by omega
  subst hm
  have hnil:news = []:=List.length_eq_zero_iff.1 w1
  subst hnil
  refine wpList_append_own_none hgd s x 147 ho base 192 i0 2 Tryz.underlying147 hi v n xs hs hown hx ?_
  have:=h v wr (by rw [show pcells [] = [] from rfl,List.append_nil]; exact hown) (Below.refl _ _)
  exact this
 | some ad =>
  have hnews:∀ j u,(pcells news)[j]? = some u -> wr.cell? (ad.add j)=some u:=by
   rcases Nat.eq_zero_or_pos m with e | e
   ·have hnil:news = []:=List.length_eq_zero_iff.1 (by omega)
    subst hnil
    intro j u hj; simp [pcells] at hj
   ·obtain ⟨b,off,e2,hi2⟩:=w4 e
    cases e2
    exact pairs_cells hi2
  refine wpList_append_own _ hgd s x 147 ho base 192 i0 (.agg #[.string ⟨#[]⟩, .string ⟨#[]⟩]) 2 32 Tryz.underlying147 hi hz0 hz1 hz2 rfl (by decide) v n xs hs hown ad m c (pcells news) hx (by rw [pcells_len,w1]) hnews
   (pcells_one _) (by unfold maxLen; omega) (by omega) hbase ?_
  intro v' w' h1 h2 _
  exact h v' w' h1 ((Below.refl base wr).grown h2 hbase (fun k hk=>(hown.lt k hk).1))
theorem pcells_length {l:List Pr} {n:Nat} (h:l.length=n):(pcells l).length=n * 2:=by rw [pcells_len,h]
theorem app_onto {ops:Array Oper} {rest:List Oper} {o:Oper} {a:Act} {Q:Exit -> Act -> World -> Prop} (wr:World) (s x:Operand) (ao bo:Option Addr) (n m c:Nat) (olds news:List Pr) (hgd:o.guard=none)
  (ho:o.op = .call { callee := .builtin .append,args := #[s,x],argTypes := #[147,147] })
  (hs:a.eval s = .slice ao n n) (hx:a.eval x = .slice bo m c) (hold:PairsAt wr ao n n olds) (hnone:ao=none -> n=0) (hplain:∀ ad,ao=some ad -> ad.spot=none) (hw:PairsAt wr bo m c news) (h0:bo=none -> c=0) (hn:n + m <= 1100000)
  (h:∀ xo cap w',PairsAt w' xo (n + m) cap (olds ++ news) -> Below wr.heap.size wr w' -> wpList Tryz.prog ops Q rest (a.put o.dst (.slice xo (n + m) cap)) w') :
  wpList Tryz.prog ops Q (o :: rest) a wr:=by
 obtain ⟨i0,hi,hz0,hz1,hz2⟩:=info_parts info_pair
 cases ao with
 | none =>
  have e0:=hnone rfl
  subst e0
  have e1:olds = []:=List.length_eq_zero_iff.1 hold.1
  subst e1
  refine app_pairs wr (World.ownsRow_nil wr wr.heap.size 192 2) s x bo m c news hgd ho hs hx hw h0 (by omega) (Nat.le_refl _) ?_
  intro v' w' h1 h2
  obtain ⟨xo,cap,rfl,hat⟩:=pairs_own (l:=news) (by rw [List.nil_append] at h1; exact h1) (by rw [hw.1]; omega)
  exact h xo cap w' (by rw [List.nil_append]; exact hat) h2
 | some ad =>
  have hsp:=hplain ad rfl
  obtain ⟨b,off,spot⟩:=ad
  simp only at hsp
  subst hsp
  rcases Nat.eq_zero_or_pos m with e | e
  ·subst e
   have e1:news = []:=List.length_eq_zero_iff.1 hw.1
   subst e1
   have hsrc:Src Tryz.prog i0.size 147 (.slice bo 0 c) 0 [] wr:=by
    cases bo with
    | none=>exact Src.ofNil wr Tryz.underlying147 c
    | some a2=>exact Src.ofSlice wr Tryz.underlying147 a2 0 c [] (by simp) (fun j u hj=>by simp at hj) (fun u hu=>by cases hu)
   refine wpList_plain hgd fun K hK => ?_
   have hrun:=run_append_room_src (P:=Tryz.prog) (w:=wr) 147 147 o.type 192 i0 Tryz.underlying147 hi b off n n (.slice bo 0 c) 0 [] hsrc (by omega) (fun j hj=>by simp at hj) (fun j hj=>by simp at hj)
   unfold Oper.wp
   simp [execOp,ho,resolve,invoke,builtin,hs,hx,hrun,Result.andThen]
   refine hK _ _ (h (some ⟨b,off,none⟩) n wr (by rw [List.append_nil]; exact hold) (Below.refl _ _))
  ·obtain ⟨b2,off2,e2,hi2⟩:=hw.2.2.2 e
   subst e2
   refine wpList_append_grows wr hgd s x 147 ho 192 i0 (.agg #[.string ⟨#[]⟩, .string ⟨#[]⟩]) 2 32 Tryz.underlying147 hi hz0 hz1 hz2 rfl (by decide) (some ⟨b,off,none⟩) n n (pcells olds) hs (fun e=>by cases e) (pcells_length hold.1)
    (fun ad had j u hj => ?_) ⟨b2,off2,none⟩ m c (pcells news) hx (pcells_length hw.1) (pairs_cells hi2) (pcells_one _) (by omega) (by unfold maxLen; omega) (by omega) ?_
   ·cases had
    rcases Nat.eq_zero_or_pos n with e0 | e0
    ·have e1:olds = []:=List.length_eq_zero_iff.1 (by rw [hold.1]; exact e0)
     subst e1; simp [pcells] at hj
    ·obtain ⟨b3,off3,e3,hi3⟩:=hold.2.2.2 e0
     cases e3
     exact pairs_cells hi3 j u hj
   ·intro v' w' h1 h2
    obtain ⟨xo,cap,rfl,hat⟩:=pairs_own (l:=olds ++ news) (by rw [pcells_append]; exact h1) (by rw [List.length_append,hold.1,hw.1])
    exact h xo cap w' hat ((Below.refl _ wr).grown h2 (Nat.le_refl _) (fun k hk=>by cases hk))
/-! ### copying -/
theorem small_app {l m:List Pr} (h:Small l) (k:Small m) (hn:l.length + m.length <= 1000):Small (l ++ m):=small_of _ (by simp; omega) fun q hq=>by
 rcases List.mem_append.1 hq with hq | hq
 ·exact h.mem q hq
 ·exact k.mem q hq
end Nam
end Go.Proofs.YtmmdaegdkikkpaaGreatDoor
end

section
set_option maxRecDepth 100000
namespace Go.Proofs.YtmmdaegdkikkpaaGreatDoor
namespace Nam
open Go.RowKit Go.PlainAid Go.Shelf
open Go.Sort (HoldsK putRowK flatK size_flatK get_flatK holdsK_putRowK)
instance:Inhabited Pr:=⟨(ByteArray.empty,ByteArray.empty)⟩
end Nam
end Go.Proofs.YtmmdaegdkikkpaaGreatDoor
end

section
set_option maxRecDepth 100000
namespace Go.Proofs.YtmmdaegdkikkpaaGreatDoor
open Go.ChangeShapes Go.WideShapes Go.ChangeAt Go.RowKit Go.PlainAid
/-! ### elements of three and of four one-cell fields -/
section
variable {H:Type} {enc:TypeId × Value -> H} {P:Program} {w:World} {base:Nat} {spare:Nat -> Bool} {held:Bool}
end
/-! ### types -/
structure Ty where
 name:ByteArray
 syn:Int
 single:Bool
structure Cl where
 name:ByteArray
 super:ByteArray
 must:List ByteArray
 may:List ByteArray
instance:Inhabited Ty:=⟨⟨⟨#[]⟩,0,false⟩⟩
instance:Inhabited Cl:=⟨⟨⟨#[]⟩,⟨#[]⟩,[],[]⟩⟩
def tyAt (l:List Ty) (j:Nat):Ty:=l.getD j default
def clAt (l:List Cl) (j:Nat):Cl:=l.getD j default
theorem ty_mem (l:List Ty) (j:Nat) (h:j < l.length):tyAt l j ∈ l:=by
 unfold tyAt; rw [List.getD_eq_getElem?_getD,List.getElem?_eq_getElem h]; exact List.getElem_mem h
theorem cl_mem (l:List Cl) (j:Nat) (h:j < l.length):clAt l j ∈ l:=by
 unfold clAt; rw [List.getD_eq_getElem?_getD,List.getElem?_eq_getElem h]; exact List.getElem_mem h
theorem mem_cl {l:List Cl} {t:Cl} (h:t ∈ l):∃ j,j < l.length /\ clAt l j=t:=by
 obtain ⟨j,hj,e⟩:=List.mem_iff_getElem.1 h
 exact ⟨j,hj,by unfold clAt; rw [List.getD_eq_getElem?_getD,List.getElem?_eq_getElem hj]; exact e⟩
def TyAt (w:World) (b off:Nat) (t:Ty):Prop:=
 w.cell? ⟨b,off,none⟩=some (.string t.name) /\ w.cell? ⟨b,off + 1,none⟩=some (.int .i64 t.syn) /\ w.cell? ⟨b,off + 2,none⟩=some (.bool t.single)
theorem TyAt.below {w w':World} {b off:Nat} {t:Ty} (h:TyAt w b off t) (hb:Below w.heap.size w w'):TyAt w' b off t:=
 ⟨cell_later hb h.1,cell_later hb h.2.1,cell_later hb h.2.2⟩
def TysAt (w:World) (ao:Option Addr) (n cap:Nat) (l:List Ty):Prop:=
 l.length=n /\ n <= cap /\ cap <= maxLen /\ (0 < n -> ∃ b off,ao=some ⟨b,off,none⟩ /\ b < w.heap.size /\ ∀ j,j < n -> TyAt w b (off + j * 3) (tyAt l j))
theorem TysAt.below {w w':World} {ao:Option Addr} {n cap:Nat} {l:List Ty} (h:TysAt w ao n cap l) (hb:Below w.heap.size w w'):TysAt w' ao n cap l:=
 ⟨h.1,h.2.1,h.2.2.1,fun hn=>by
  obtain ⟨b,off,e,hi,ha⟩:=h.2.2.2 hn
  exact ⟨b,off,e,Nat.lt_of_lt_of_le hi hb.size,fun j hj=>(ha j hj).below hb⟩⟩
def ClAt (w:World) (b off:Nat) (c:Cl):Prop:=
 w.cell? ⟨b,off,none⟩=some (.string c.name) /\ w.cell? ⟨b,off + 1,none⟩=some (.string c.super) /\
  (∃ vo vn vc,w.cell? ⟨b,off + 2,none⟩=some (.slice vo vn vc) /\ StrsAt w vo vn vc c.must) /\ ∃ vo vn vc,w.cell? ⟨b,off + 3,none⟩=some (.slice vo vn vc) /\ StrsAt w vo vn vc c.may
theorem ClAt.below {w w':World} {b off:Nat} {c:Cl} (h:ClAt w b off c) (hb:Below w.heap.size w w'):ClAt w' b off c:=by
 obtain ⟨h0,h1,⟨vo,vn,vc,h2,h3⟩,uo,un,uc,h4,h5⟩:=h
 exact ⟨cell_later hb h0,cell_later hb h1,⟨vo,vn,vc,cell_later hb h2,h3.below hb⟩,uo,un,uc,cell_later hb h4,h5.below hb⟩
def ClsAt (w:World) (ao:Option Addr) (n cap:Nat) (l:List Cl):Prop:=
 l.length=n /\ n <= cap /\ cap <= maxLen /\ (0 < n -> ∃ b off,ao=some ⟨b,off,none⟩ /\ b < w.heap.size /\ ∀ j,j < n -> ClAt w b (off + j * 4) (clAt l j))
theorem ClsAt.below {w w':World} {ao:Option Addr} {n cap:Nat} {l:List Cl} (h:ClsAt w ao n cap l) (hb:Below w.heap.size w w'):ClsAt w' ao n cap l:=
 ⟨h.1,h.2.1,h.2.2.1,fun hn=>by
  obtain ⟨b,off,e,hi,ha⟩:=h.2.2.2 hn
  exact ⟨b,off,e,Nat.lt_of_lt_of_le hi hb.size,fun j hj=>(ha j hj).below hb⟩⟩
end Go.Proofs.YtmmdaegdkikkpaaGreatDoor
end

section
set_option maxRecDepth 100000
namespace Go.Proofs.YtmmdaegdkikkpaaGreatDoor
open Go.RowKit Go.PlainAid
def tyOf (l:List Ty) (n:ByteArray):Option Ty:=l.find? fun t=>decide (lowS t.name=lowS n)
def clOf (l:List Cl) (n:ByteArray):Option Cl:=l.find? fun c=>decide (lowS c.name=lowS n)
theorem tyOf_low (l:List Ty) (n:ByteArray):tyOf l (lowS n)=tyOf l n:=by unfold tyOf; rw [lowS_low]
theorem clOf_low (l:List Cl) (n:ByteArray):clOf l (lowS n)=clOf l n:=by unfold clOf; rw [lowS_low]
theorem ty_take (l:List Ty) (k:Nat) (h:k < l.length):l.take (k + 1)=l.take k ++ [tyAt l k]:=by
 unfold tyAt; rw [List.getD_eq_getElem?_getD,List.getElem?_eq_getElem h]; exact List.take_succ_eq_append_getElem h
theorem cl_take (l:List Cl) (k:Nat) (h:k < l.length):l.take (k + 1)=l.take k ++ [clAt l k]:=by
 unfold clAt; rw [List.getD_eq_getElem?_getD,List.getElem?_eq_getElem h]; exact List.take_succ_eq_append_getElem h
theorem tyOf_snoc (l:List Ty) (t:Ty) (n:ByteArray):tyOf (l ++ [t]) n=(tyOf l n).or (if lowS t.name=lowS n then some t else none):=by
 unfold tyOf
 rw [List.find?_append]
 by_cases h:lowS t.name=lowS n
 ·rw [if_pos h,List.find?_cons_of_pos (by simpa using h)]
 ·rw [if_neg h,List.find?_cons_of_neg (by simpa using h),List.find?_nil]
theorem clOf_snoc (l:List Cl) (t:Cl) (n:ByteArray):clOf (l ++ [t]) n=(clOf l n).or (if lowS t.name=lowS n then some t else none):=by
 unfold clOf
 rw [List.find?_append]
 by_cases h:lowS t.name=lowS n
 ·rw [if_pos h,List.find?_cons_of_pos (by simpa using h)]
 ·rw [if_neg h,List.find?_cons_of_neg (by simpa using h),List.find?_nil]
def typedB (ts:List Ty) (ns:List ByteArray):Bool:=ns.all fun n=>(tyOf ts n).isSome
def errT (ts:List Ty) (j:Nat):Int:=
 if nameB (tyAt ts j).name=false then 5 else if (tyOf (ts.take j) (tyAt ts j).name).isSome=true then 7 else if (tyAt ts j).syn < 1 ∨ 5 < (tyAt ts j).syn then 8 else 0
def errC (ts:List Ty) (cs:List Cl) (k:Nat):Int:=
 if nameB (clAt cs k).name=false then 5
 else if (clOf (cs.take k) (clAt cs k).name).isSome=true then 7
 else if (clAt cs k).super.size ≠ 0 /\ (clOf (cs.take k) (clAt cs k).super).isSome=false then 6
 else if 64 < (clAt cs k).must.length ∨ 64 < (clAt cs k).may.length then 3
 else if typedB ts (clAt cs k).must=false ∨ typedB ts (clAt cs k).may=false then 6 else 0
def classN:ByteArray:=⟨#[99,108,97,115,115]⟩
def chkS (ts:List Ty) (cs:List Cl):Int:=
 if 64 < ts.length ∨ 32 < cs.length then 3
 else if firstE (errT ts) ts.length ≠ 0 then firstE (errT ts) ts.length
 else if firstE (errC ts cs) cs.length ≠ 0 then firstE (errC ts cs) cs.length
 else match tyOf ts classN with
  | none=>6
  | some t=>if t.syn=1 then 0 else 8
def soundT (ts:List Ty) (cs:List Cl):List Ty:=if chkS ts cs=0 then ts else []
def soundC (ts:List Ty) (cs:List Cl):List Cl:=if chkS ts cs=0 then cs else []
def lineG (l:List Cl):Nat -> ByteArray -> List Cl
 | 0,_=>[]
 | k + 1,n=>match clOf l n with
  | none=>[]
  | some c=>c :: lineG l k c.super
def lineS (l:List Cl) (n:ByteArray):List Cl:=lineG l (l.length + 1) n
def mustS (l:List Cl) (n:ByteArray):List ByteArray:=sortU ((lineS l n).flatMap fun c=>c.must.map lowS)
def mayS (l:List Cl) (n:ByteArray):List ByteArray:=sortU ((lineS l n).flatMap fun c=>(c.must ++ c.may).map lowS)
/-! ### lists of records of k cells -/
theorem flat_len {α β:Type} (f:α -> List β) (k:Nat) (hf:∀ x,(f x).length=k):∀ l:List α,(l.flatMap f).length=l.length * k
 | []=>by simp
 | x :: l=>by rw [List.flatMap_cons,List.length_append,hf,flat_len f k hf l,List.length_cons,Nat.succ_mul]; omega
theorem flat_at {α β:Type} (f:α -> List β) (k:Nat) (hf:∀ x,(f x).length=k) (d:α):∀ (l:List α) (j i:Nat),j < l.length -> i < k -> (l.flatMap f)[j * k + i]? = (f (l.getD j d))[i]?
 | [],j,i,h,_=>absurd h (Nat.not_lt_zero _)
 | x :: l,0,i,_,hi=>by
  rw [List.flatMap_cons,List.getElem?_append_left (by rw [hf]; omega),Nat.zero_mul,Nat.zero_add]; rfl
 | x :: l,j + 1,i,h,hi=>by
  rw [List.flatMap_cons,List.getElem?_append_right (by rw [hf,Nat.succ_mul]; omega),hf,show (j + 1) * k + i - k=j * k + i by rw [Nat.succ_mul]; omega]
  exact flat_at f k hf d l j i (by simpa using h) hi
/-! ### classes -/
structure Cv where
 cl:Cl
 hm:Value
 hy:Value
instance:Inhabited Cv:=⟨⟨default, .slice none 0 0, .slice none 0 0⟩⟩
def cvC (c:Cv):List Value:=[.string c.cl.name, .string c.cl.super,c.hm,c.hy]
def cvV (c:Cv):Value := .agg #[.string c.cl.name, .string c.cl.super,c.hm,c.hy]
def CvOk (w:World) (c:Cv):Prop:=Hdr w c.hm c.cl.must /\ Hdr w c.hy c.cl.may
theorem CvOk.below {w w':World} {c:Cv} (h:CvOk w c) (hb:Below w.heap.size w w'):CvOk w' c:=⟨h.1.below hb,h.2.below hb⟩
def ccells (l:List Cv):List Value:=l.flatMap cvC
def ccls (l:List Cv):List Cl:=l.map (·.cl)
theorem ccells_snoc (l:List Cv) (c:Cv):ccells (l ++ [c])=ccells l ++ cvC c:=by simp [ccells]
theorem ccls_snoc (l:List Cv) (c:Cv):ccls (l ++ [c])=ccls l ++ [c.cl]:=by simp [ccls]
theorem ccls_len (l:List Cv):(ccls l).length=l.length:=by simp [ccls]
theorem ccells_one {w:World} {l:List Cv} (h:∀ c ∈ l,CvOk w c):∀ u ∈ ccells l,u.oneCell'=true:=by
 intro u hu
 obtain ⟨c,hc,hu⟩:=List.mem_flatMap.1 hu
 simp only [cvC,List.mem_cons,List.not_mem_nil,or_false] at hu
 rcases hu with rfl | rfl | rfl | rfl
 ·rfl
 ·rfl
 ·exact (h c hc).1.one
 ·exact (h c hc).2.one
theorem info_class:(Tryz.prog.info? 64).map (fun i=>(i.zero,i.size,i.bytes))=some (some (.agg #[.string ⟨#[]⟩, .string ⟨#[]⟩, .slice none 0 0, .slice none 0 0]),4,80):=by kernel_rfl
theorem cells_four_new (w:World) (x y z u:Value) (t:TypeId):∀ j v,[x,y,z,u][j]? = some v -> (w.alloc (.cells #[x,y,z,u] t)).cell? ((⟨w.heap.size,0,none⟩:Addr).add j)=some v:=by
 intro j v hj
 have h:(w.alloc (.cells #[x,y,z,u] t)).heap[w.heap.size]? = some (.cells #[x,y,z,u] t (0,0)):=heap_alloc_new w _
 rw [show (⟨w.heap.size,0,none⟩:Addr).add j=⟨w.heap.size,j,none⟩ by rw [Go.WideShapes.add_plain,Nat.zero_add],Lib.cell_of_heap h]
 match j,hj with
 | 0,hj=>simpa using hj
 | 1,hj=>simpa using hj
 | 2,hj=>simpa using hj
 | 3,hj=>simpa using hj
 | j + 4,hj=>simp at hj
theorem cells_three_new (w:World) (x y z:Value) (t:TypeId):∀ j v,[x,y,z][j]? = some v -> (w.alloc (.cells #[x,y,z] t)).cell? ((⟨w.heap.size,0,none⟩:Addr).add j)=some v:=by
 intro j v hj
 have h:(w.alloc (.cells #[x,y,z] t)).heap[w.heap.size]? = some (.cells #[x,y,z] t (0,0)):=heap_alloc_new w _
 rw [show (⟨w.heap.size,0,none⟩:Addr).add j=⟨w.heap.size,j,none⟩ by rw [Go.WideShapes.add_plain,Nat.zero_add],Lib.cell_of_heap h]
 match j,hj with
 | 0,hj=>simpa using hj
 | 1,hj=>simpa using hj
 | 2,hj=>simpa using hj
 | j + 3,hj=>simp at hj
theorem push_class {ops:Array Oper} {rest:List Oper} {o:Oper} {a:Act} {Q:Exit -> Act -> World -> Prop} (wr:World) {base:Nat} {v:Value} {n:Nat} {xs:List Value} (hown:wr.ownsRow base 64 4 v n xs) (s x:Operand)
  (c:Cv) {w0:World} (hc:CvOk w0 c) (hgd:o.guard=none)
  (ho:o.op = .call { callee := .builtin .append,args := #[s,x],argTypes := #[23,23] })
  (hs:a.eval s=v) (hx:a.eval x = .slice (some ⟨wr.heap.size,0,none⟩) 1 1) (hn:n + 1 <= 1000000000) (hbase:base <= wr.heap.size)
  (h:∀ v' w',w'.ownsRow base 64 4 v' (n + 1) (xs ++ cvC c) -> (wr.alloc (.cells #[.string c.cl.name, .string c.cl.super,c.hm,c.hy] 64)).grownBy w' v.ownBlock -> (v'.ownBlock=v.ownBlock ∨ ∃ g,v'.ownBlock=some g /\ wr.heap.size < g) -> wpList Tryz.prog ops Q rest (a.put o.dst v') w') :
  wpList Tryz.prog ops Q (o :: rest) a (wr.alloc (.cells #[.string c.cl.name, .string c.cl.super,c.hm,c.hy] 64)):=by
 obtain ⟨i0,hi,hz0,hz1,hz2⟩:=info_parts info_class
 refine wpList_append_own_at _ hgd s x 23 ho base 64 i0 (.agg #[.string ⟨#[]⟩, .string ⟨#[]⟩, .slice none 0 0, .slice none 0 0]) 4 80 Tryz.underlying23 hi hz0 hz1 hz2 rfl (by decide) v n xs hs (hown.alloc _) ⟨wr.heap.size,0,none⟩ 1 1 (cvC c) hx rfl
  (cells_four_new _ _ _ _ _ _) (by
   have:=ccells_one (w:=w0) (l:=[c]) (fun d hd=>by rw [List.mem_singleton.1 hd]; exact hc)
   simpa [ccells] using this) (by unfold maxLen; omega) (by omega) (by simp; omega) ?_
 intro v' w' h1 h2 _ h4
 refine h v' w' h1 h2 ?_
 rcases h4 with h4 | h4
 ·exact .inl h4
 ·exact .inr ⟨_,h4,by simp⟩
/-! ### types -/
def tyC (t:Ty):List Value:=[.string t.name, .int .i64 t.syn, .bool t.single]
def tyV (t:Ty):Value := .agg #[.string t.name, .int .i64 t.syn, .bool t.single]
def ycells (l:List Ty):List Value:=l.flatMap tyC
end Go.Proofs.YtmmdaegdkikkpaaGreatDoor
end

section
set_option maxRecDepth 100000
namespace Go.Proofs.YtmmdaegdkikkpaaGreatDoor
open Go.RowKit Go.PlainAid Go.Maps
def rawE (v:Value):Option (DataW Value × List MemPlace):=some (.held v,[])
def RawMap (w:World) (b n:Nat) (f:ByteArray -> Option Value):Prop:=
 ∃ D,w.ownsMap Tryz.prog 9 rawE b n D /\ ∀ k,Maps.has D (klit k)=(f k).isSome /\ ∀ v,f k=some v -> ∀ z,D.atKey (klit k) z = .held v
theorem raw_made (w:World):RawMap (w.alloc (.map #[] 0)) w.heap.size 0 fun _=>none:=
 ⟨.map [],World.ownsMap_made w _ _ _,fun k=>⟨rfl,fun v h=>by cases h⟩⟩
theorem RawMap.lt {w:World} {b n:Nat} {f:ByteArray -> Option Value} (h:RawMap w b n f):b < w.heap.size:=by
 obtain ⟨D,h,_⟩:=h; exact h.lt
theorem RawMap.kept {w w':World} {b n:Nat} {f:ByteArray -> Option Value} {row:Option Nat} (h:RawMap w b n f) (hg:w.grownBy w' row) (hne:some b ≠ row):RawMap w' b n f:=by
 obtain ⟨D,h,hf⟩:=h; exact ⟨D,h.kept hg hne,hf⟩
theorem RawMap.below {w w':World} {b n:Nat} {f:ByteArray -> Option Value} {B:Nat} (h:RawMap w b n f) (hb:Below B w w') (hB:b < B):RawMap w' b n f:=by
 obtain ⟨D,⟨es,clock,he,h1,h2⟩,hf⟩:=h
 exact ⟨D,⟨es,clock,by rw [hb.block b hB]; exact he,h1,h2⟩,hf⟩
theorem RawMap.mono {w:World} {b n m:Nat} {f:ByteArray -> Option Value} (h:RawMap w b n f) (hm:n <= m):RawMap w b m f:=by
 obtain ⟨D,h,hf⟩:=h; exact ⟨D,h.mono hm,hf⟩
def MapVal (w:World) (mv:Option Nat) (f:ByteArray -> Option Value):Prop:=(mv=none /\ ∀ k,f k=none) ∨ ∃ b n,mv=some b /\ RawMap w b n f
theorem MapVal.below {w w':World} {mv:Option Nat} {f:ByteArray -> Option Value} (h:MapVal w mv f) (hb:Below w.heap.size w w'):MapVal w' mv f:=by
 rcases h with h | ⟨b,n,e,h⟩
 ·exact .inl h
 ·exact .inr ⟨b,n,e,h.below hb h.lt⟩
theorem MapVal.kept {w w':World} {mv:Option Nat} {f:ByteArray -> Option Value} {row:Option Nat} (h:MapVal w mv f) (hg:w.grownBy w' row) (hne:∀ b,mv=some b -> some b ≠ row):MapVal w' mv f:=by
 rcases h with h | ⟨b,n,e,h⟩
 ·exact .inl h
 ·exact .inr ⟨b,n,e,h.kept hg (hne b e)⟩
theorem MapVal.look_ok {w:World} {mv:Option Nat} {f:ByteArray -> Option Value} {t e:TypeId} {z:Value} (h:MapVal w mv f) (ht:Tryz.prog.underlying t=some (.map 9 e)) (hz:(zeroValue e).run Tryz.prog w = .ok z w) (k:ByteArray) (hk:k.size <= maxLen) :
  (Instr.lookup t (.map mv) (.string k) true).run Tryz.prog w = .ok (.tuple #[(f k).getD z, .bool (f k).isSome]) w:=by
 rcases h with ⟨rfl,hn⟩ | ⟨b,n,rfl,D,hm,hf⟩
 ·rw [Maps.look_nil true (string_keyed Tryz.underlying9) ht hz (klit_key k hk),hn k]; rfl
 ·obtain ⟨v,ps,hrun,hv⟩:=hm.look_ok (string_keyed Tryz.underlying9) ht hz (zd := .held z) rfl (klit_key k hk)
  rw [hrun,(hf k).1]
  have hv2:DataW.held v=D.atKey (klit k) (.held z):=by
   unfold rawE at hv
   simp only [Option.some.injEq,Prod.mk.injEq] at hv
   exact hv.1
  cases hfk:f k with
  | none =>
   have h0:=(hf k).1
   rw [hfk] at h0
   rw [atKey_of_not_has h0] at hv2
   injection hv2 with hv2
   rw [hv2]; rfl
  | some u =>
   rw [(hf k).2 u hfk] at hv2
   injection hv2 with hv2
   rw [hv2]; rfl
theorem MapVal.look {w:World} {mv:Option Nat} {f:ByteArray -> Option Value} {t e:TypeId} {z:Value} (h:MapVal w mv f) (ht:Tryz.prog.underlying t=some (.map 9 e)) (hz:(zeroValue e).run Tryz.prog w = .ok z w) (k:ByteArray) (hk:k.size <= maxLen) :
  (Instr.lookup t (.map mv) (.string k) false).run Tryz.prog w = .ok ((f k).getD z) w:=by
 rcases h with ⟨rfl,hn⟩ | ⟨b,n,rfl,D,hm,hf⟩
 ·rw [Maps.look_nil false (string_keyed Tryz.underlying9) ht hz (klit_key k hk),hn k]; rfl
 ·obtain ⟨v,ps,hrun,hv⟩:=hm.lookup (string_keyed Tryz.underlying9) ht hz (zd := .held z) rfl (klit_key k hk)
  rw [hrun]
  have hv2:DataW.held v=D.atKey (klit k) (.held z):=by
   unfold rawE at hv
   simp only [Option.some.injEq,Prod.mk.injEq] at hv
   exact hv.1
  cases hfk:f k with
  | none =>
   have h0:=(hf k).1
   rw [hfk] at h0
   rw [atKey_of_not_has h0] at hv2
   injection hv2 with hv2
   rw [hv2]; rfl
  | some u =>
   rw [(hf k).2 u hfk] at hv2
   injection hv2 with hv2
   rw [hv2]; rfl
def setO (f:ByteArray -> Option Value) (k:ByteArray) (v:Value) (j:ByteArray):Option Value:=if j=k then some v else f j
theorem RawMap.store {w:World} {b n:Nat} {f:ByteArray -> Option Value} {t e:TypeId} (h:RawMap w b n f) (ht:Tryz.prog.underlying t=some (.map 9 e)) (hn:n < maxLen) (k:ByteArray) (hk:k.size <= maxLen) (v:Value) :
  ∃ w',(Instr.mapUpdate t (.map (some b)) (.string k) v).run Tryz.prog w = .ok () w' /\ RawMap w' b (n + 1) (setO f k v) /\ w.grownBy w' (some b):=by
 obtain ⟨D,hm,hf⟩:=h
 obtain ⟨w',hrun,hm',hg⟩:=hm.update (string_keyed Tryz.underlying9) ht hn (klit_key k hk) (val:=v) (d := .held v) (ps:=[]) rfl
 refine ⟨w',hrun,⟨_,hm',fun j => ?_⟩,hg⟩
 unfold setO
 by_cases e:j=k
 ·subst e
  rw [if_pos rfl]
  refine ⟨has_put_same hm.isMap (by unfold klit; trivial) _,fun u hu z => ?_⟩
  obtain rfl:=Option.some.inj hu
  exact atKey_put_same hm.isMap (by unfold klit; trivial) _ _
 ·rw [if_neg e]
  have hne:klit j ≠ klit k:=fun h=>e (klit_one h)
  exact ⟨by rw [has_put_other hne]; exact (hf j).1,fun u hu z=>by rw [atKey_put_other hne]; exact (hf j).2 u hu z⟩
end Go.Proofs.YtmmdaegdkikkpaaGreatDoor
end
