/-
  Texts of the schema layer and of those beneath it, joined: NamF, NamG, NamSame, NamH, NamI, NamJ, NamU, NamW, NamX, NamY, NamZ, NamQ, ShelfR, NamO, NamT, NamD, SchStrs, SchMem, SchL, SchIx, SchOrC, SchC, MapRaw, SchT, EntRt, AttRS, AttR2, AttR3, AttR4, AttR5, AttR6, AttR7, AttR8. Conditions stand at each contract.
-/
import Derived.WalkSmall
import Derived.BigQuiet
import Derived.Deep.QuietTactic
import Derived.Lib.Overlaps
import Derived.Lib.AppendZerosOnto
import Derived.Laws.IdiomCopy
import Derived.Deep.RegionLaw
import Derived.Shelf.SlicesQ.Reverse
import Derived.WalkLawsBesides
import Derived.Lib.SliceRun
import Derived.StillTailTactics
import Derived.BigRegion
import Derived.Lib.SmallJoins
import Derived.Deep.RegionHeld
import Derived.KernelRfl
import Derived.Test.YtmmdaegdkikkpaaGreatDoorU04
set_option linter.unusedVariables false
set_option linter.unusedSimpArgs false
set_option linter.unnecessarySimpa false

section
set_option maxRecDepth 100000
namespace Go.Proofs.YtmmdaegdkikkpaaGreatDoor
namespace Nam
open Go.RowKit Go.PlainAid
def fmtK (l:List Pr) (k:Nat):List UInt8:=barC ((l.take k).map fmtC)
theorem fmtK_first (l:List Pr) (h:0 < l.length):fmtK l (0 + 1)=fmtK l 0 ++ (lowS (prAt l 0).1).data.toList ++ [61] ++ (escS (foldS (prAt l 0).2)).data.toList:=by
 unfold fmtK
 rw [pr_take l 0 h,List.take_zero,List.nil_append,List.map_cons,List.map_nil]
 show fmtC (prAt l 0)=_
 unfold fmtC escS; simp [barC,ofB_data]
theorem fmtK_next (l:List Pr) (k:Nat) (h:k < l.length) (h0:0 < k):fmtK l (k + 1)=fmtK l k ++ [44] ++ (lowS (prAt l k).1).data.toList ++ [61] ++ (escS (foldS (prAt l k).2)).data.toList:=by
 unfold fmtK
 rw [pr_take l k h,List.map_append,List.map_cons,List.map_nil,barC_snoc _ _ (by
  intro e; have:=congrArg List.length e; rw [List.length_map,List.length_take,List.length_nil] at this; omega)]
 unfold fmtC escS; simp [ofB_data]
theorem barC_len (m:Nat):∀ l:List (List UInt8),(∀ p ∈ l,p.length <= m) -> (barC l).length <= l.length * (m + 1)
 | [],_=>by simp [barC]
 | [p],h=>by have:=h p (by simp); simp [barC]; omega
 | p :: q :: r,h=>by
  have h1:=h p (by simp)
  have ih:=barC_len m (q :: r) (fun x hx=>h x (by simp at hx ⊢; exact .inr hx))
  rw [show barC (p :: q :: r)=p ++ 44 :: barC (q :: r) from rfl,List.length_append,List.length_cons,List.length_cons,Nat.add_mul]
  omega
theorem fmtC_len (p:Pr):(fmtC p).length <= p.1.size + 1 + 2 * p.2.size:=by
 unfold fmtC
 have h1:=escV_len (foldS p.2).data.toList
 rw [<- Lib.size_eq] at h1
 have h2:=foldS_size p.2
 have h3:(lowS p.1).data.toList.length=p.1.size:=by rw [<- Lib.size_eq,lowS_size]
 rw [List.length_append,List.length_cons,h3]; omega
def Small (l:List Pr):Prop:=l.length <= 1000 /\ ∀ j,j < l.length -> (prAt l j).1.size <= 1100000 /\ (prAt l j).2.size <= 1100000
theorem prAt_mem (l:List Pr) {p:Pr} (h:p ∈ l):∃ j,j < l.length /\ prAt l j=p:=by
 obtain ⟨j,hj,rfl⟩:=List.getElem_of_mem h
 exact ⟨j,hj,by unfold prAt; rw [List.getD_eq_getElem?_getD,List.getElem?_eq_getElem hj]; rfl⟩
theorem mem_prAt (l:List Pr) {j:Nat} (h:j < l.length):prAt l j ∈ l:=by
 unfold prAt; rw [List.getD_eq_getElem?_getD,List.getElem?_eq_getElem h]; exact List.getElem_mem h
theorem small_of (l:List Pr) (h1:l.length <= 1000) (h:∀ p ∈ l,p.1.size <= 1100000 /\ p.2.size <= 1100000):Small l:=⟨h1,fun j hj=>h _ (mem_prAt l hj)⟩
theorem Small.mem {l:List Pr} (h:Small l):∀ p ∈ l,p.1.size <= 1100000 /\ p.2.size <= 1100000:=fun p hp=>by
 obtain ⟨j,hj,rfl⟩:=prAt_mem l hp
 exact h.2 j hj
theorem fmtK_len {l:List Pr} (h:Small l) (k:Nat):(fmtK l k).length <= 4000000000:=by
 have h1:=barC_len 3300001 ((l.take k).map fmtC) (fun p hq=>by
  obtain ⟨q,hq1,rfl⟩:=List.mem_map.1 hq
  have h2:=h.mem q (List.mem_of_mem_take hq1)
  have h3:=fmtC_len q
  omega)
 have h2:((l.take k).map fmtC).length <= 1000:=by have:=h.1; simp; omega
 unfold fmtK
 have:=Nat.mul_le_mul_right (3300001 + 1) h2
 omega
theorem fmtFirst_step {l:List Pr} {k:Nat} (h:fmtFirst (l.take k)=0) (hk:k < l.length):(prE (prAt l k)=0 -> fmtFirst (l.take (k + 1))=0) /\ (prE (prAt l k) ≠ 0 -> fmtE l=prE (prAt l k) /\ fmtV l=ByteArray.empty):=by
 have hall:=fmtFirst_all h
 have happ:∀ (a b:List Pr),fmtFirst a=0 -> fmtFirst (a ++ b)=fmtFirst b:=fun a b ha=>by
  induction a with
  | nil=>rfl
  | cons p r ih =>
   unfold fmtFirst at ha
   by_cases hp:prE p=0
   ·rw [if_pos hp] at ha
    show (if prE p=0 then fmtFirst (r ++ b) else prE p)=_
    rw [if_pos hp,ih ha]
   ·rw [if_neg hp] at ha; exact absurd ha hp
 refine ⟨fun e => ?_,fun e => ?_⟩
 ·rw [pr_take l k hk,happ _ _ h]; unfold fmtFirst; rw [if_pos e]; rfl
 ·have h2:l=l.take k ++ prAt l k :: l.drop (k + 1):=by
   have:=pr_take l k hk
   conv=>lhs; rw [<- List.take_append_drop (k + 1) l,this]
   simp
  have h3:fmtFirst l=prE (prAt l k):=by
   rw [h2,happ _ _ h]; unfold fmtFirst
   rw [<- h2,if_neg e]
  have h4:fmtE l=prE (prAt l k):=by unfold fmtE; rw [h3,if_neg e]
  exact ⟨h4,by unfold fmtV; rw [h4,if_neg e]⟩
theorem fmt_end {l:List Pr} (h:fmtFirst (l.take l.length)=0):(8 < l.length -> fmtE l=3 /\ fmtV l=ByteArray.empty) /\ (¬ 8 < l.length -> fmtE l=0 /\ fmtV l=ofB (fmtK l l.length)):=by
 rw [List.take_length] at h
 refine ⟨fun hl => ?_,fun hl => ?_⟩
 ·have h4:fmtE l=3:=by unfold fmtE; rw [if_pos h,if_pos hl]
  exact ⟨h4,by unfold fmtV; rw [h4]; rfl⟩
 ·have h4:fmtE l=0:=by unfold fmtE; rw [if_pos h,if_neg hl]
  exact ⟨h4,by unfold fmtV fmtK; rw [if_pos h4,List.take_length]⟩
theorem B7lt {B b:Nat} {l:List UInt8} {w:World} (h:Bld B b l w):b < w.heap.size:=by
 rcases h with h | h <;> exact h.lt
set_option maxRecDepth 100000 in
set_option maxHeartbeats 8000000 in
theorem format_s (ao:Option Addr) (n cap:Nat) (l:List Pr) (w:World) (h:PairsAt w ao n cap l) (hsm:Small l) :
  Calls Tryz.prog 132 #[.slice ao n cap] w fun e w'=>e = .returned (.tuple #[.string (fmtV l), .int .i64 (fmtE l)]) /\ Below w.heap.size w w':=by
 obtain ⟨h1,h2,h3,h4⟩:=h
 subst h1
 have HS:=Lib.hid hsm
 have hl0:=hsm.1
 clear hsm
 have HN:=Lib.hid (bld_new w)
 have H4:=Lib.hid h4; clear h4
 go_enter Tryz.func132,Tryz.ntmps132
 go_wp2
 go_loopw [10] (fun i wr=>∃ k:Nat,k <= l.length /\ i = .int .i64 k /\ Bld w.heap.size w.heap.size (fmtK l k) wr /\ Below w.heap.size w wr /\ w.heap.size < wr.heap.size /\ Hid (fmtFirst (l.take k)=0))
  (fun i _=>l.length - (intOf i).toNat)
 case atStart=>exact ⟨0,Nat.zero_le _,rfl,HN.out,(Below.refl _ _).alloc (Nat.le_refl _) _,by simp,Lib.hid rfl⟩
 case round =>
  obtain ⟨k,hk,rfl,HBd,hbel,hsz,HF⟩:=hrel
  have hln:=fmtK_len HS.out k
  by_cases hlt:k < l.length
  ·obtain ⟨b,off,rfl,hs⟩:=H4.out (by omega)
   obtain ⟨hc1,hc2⟩:=(hs.below hbel hs.1).2 k hlt
   obtain ⟨hpk,hpv⟩:=HS.out.2 k hlt
   have HST:=Lib.hid (fmtFirst_step HF.out hlt)
   have HK1:=Lib.hid (fun (_:k=0)=>fmtK_first l (by omega))
   have HK2:=Lib.hid (fun (h0:0 < k)=>fmtK_next l k hlt h0)
   obtain ⟨⟨p,q⟩,hpe⟩:∃ p,p=prAt l k:=⟨_,rfl⟩
   have HPE:=Lib.hid hpe
   rw [<- hpe] at hc1 hc2 hpk hpv HST HK2
   simp only [] at hc1 hc2 hpk hpv
   clear hs hpe
   have hfz:=foldS_size q
   have hlz:=lowS_size p
   have hez:=escS_size (foldS q)
   go_wp2_with fail
   refine (check_s (p,q) _ (by simp only []; omega) (by simp only []; omega)).mono ?_
   rintro e w1 ⟨rfl,hb1⟩
   have hbx:=(pbox_new wr (p,q)).below hb1
   have hbl:=(below_new (w:=wr) (.cells #[.string p, .string q] 192))
   have hb01:=below_next hbl hb1
   have L1:=hbel.trans (hb01.mono hbel.size)
   have B1:=HBd.below hb01
   by_cases hE:prE (p,q)=0
   ·have HFN:=Lib.hid (HST.out.1 hE)
    rw [hE]
    clear hE HST hc1 hc2
    obtain ⟨d0,d1⟩:=hbx.cells
    simp only [] at d0 d1
    by_cases hk0:k=0
    ·have HK:=Lib.hid (show fmtK l (k + 1)=fmtK l k ++ (lowS p).data.toList ++ [61] ++ (escS (foldS q)).data.toList by
      have:=HK1.out hk0
      subst hk0
      rw [<- HPE.out] at this
      exact this)
     have hd0:decide (0 < k)=false:=by simp; omega
     clear hk0 HK1 HK2
     clear d1
     go_wp2_with fail
     refine (lower_s p _ (by omega)).mono ?_
     rintro e w2 ⟨rfl,hb2⟩
     have B2:=B1.below hb2
     have L2:=L1.trans (hb2.mono L1.size)
     have X2:=hbx.below hb2
     clear d0
     go_wp2_with fail
     refine (writeString_t w.heap.size w.heap.size _ _ _ B2 (by (try simp only [List.length_append,List.length_cons,List.length_nil]); omega) L2.size).mono ?_
     rintro e w3 ⟨rfl,B3,hb3,hk3⟩
     have L3:=L2.trans hb3
     have X3:=hk3.box X2
     go_wp2_with fail
     refine (writeByte_t w.heap.size w.heap.size _ 61 61 _ B3 rfl (by simp only [List.length_append,List.length_cons,List.length_nil, <- Lib.size_eq]; omega) L3.size).mono ?_
     rintro e w4 ⟨rfl,B4,hb4,hk4⟩
     have L4:=L3.trans hb4
     have X4:=hk4.box X3
     obtain ⟨d0,d1⟩:=X4.cells
     simp only [] at d0 d1
     clear d0
     go_wp2_with fail
     refine (fold_s q _ (by omega)).mono ?_
     rintro e w5 ⟨rfl,hb5⟩
     have B5:=B4.below hb5
     have L5:=L4.trans (hb5.mono L4.size)
     clear d1
     go_wp2_with fail
     refine (escaped_s (foldS q) _ (by omega)).mono ?_
     rintro e w6 ⟨rfl,hb6⟩
     have B6:=B5.below hb6
     have L6:=L5.trans (hb6.mono L5.size)
     go_wp2_with fail
     refine (writeString_t w.heap.size w.heap.size _ _ _ B6 (by simp only [List.length_append,List.length_cons,List.length_nil, <- Lib.size_eq]; omega) L6.size).mono ?_
     rintro e w7 ⟨rfl,B7,hb7,hk7⟩
     have L7:=L6.trans hb7
     have hsz7:w.heap.size < w7.heap.size:=B7lt B7
     go_wp2
     go_roundw
     case rel=>exact ⟨k + 1,by omega,by go_num,by rw [HK.out]; exact B7,L7,hsz7,HFN⟩
     case measure=>simp [intOf]; omega
    ·have HK:=Lib.hid (HK2.out (by omega))
     have hd0:decide (0 < k)=true:=by simp; omega
     clear hk0 HK1 HK2
     go_wp2_with fail
     refine (writeByte_t w.heap.size w.heap.size _ 44 44 _ B1 rfl (by omega) L1.size).mono ?_
     rintro e w0 ⟨rfl,B0,hb0,hk0⟩
     have L0:=L1.trans hb0
     have X0:=hk0.box hbx
     clear d0 d1
     obtain ⟨d0,d1⟩:=X0.cells
     simp only [] at d0 d1
     clear d1
     go_wp2_with fail
     refine (lower_s p _ (by omega)).mono ?_
     rintro e w2 ⟨rfl,hb2⟩
     have B2:=B0.below hb2
     have L2:=L0.trans (hb2.mono L0.size)
     have X2:=X0.below hb2
     clear d0
     go_wp2_with fail
     refine (writeString_t w.heap.size w.heap.size _ _ _ B2 (by (try simp only [List.length_append,List.length_cons,List.length_nil]); omega) L2.size).mono ?_
     rintro e w3 ⟨rfl,B3,hb3,hk3⟩
     have L3:=L2.trans hb3
     have X3:=hk3.box X2
     go_wp2_with fail
     refine (writeByte_t w.heap.size w.heap.size _ 61 61 _ B3 rfl (by simp only [List.length_append,List.length_cons,List.length_nil, <- Lib.size_eq]; omega) L3.size).mono ?_
     rintro e w4 ⟨rfl,B4,hb4,hk4⟩
     have L4:=L3.trans hb4
     have X4:=hk4.box X3
     obtain ⟨d0,d1⟩:=X4.cells
     simp only [] at d0 d1
     clear d0
     go_wp2_with fail
     refine (fold_s q _ (by omega)).mono ?_
     rintro e w5 ⟨rfl,hb5⟩
     have B5:=B4.below hb5
     have L5:=L4.trans (hb5.mono L4.size)
     clear d1
     go_wp2_with fail
     refine (escaped_s (foldS q) _ (by omega)).mono ?_
     rintro e w6 ⟨rfl,hb6⟩
     have B6:=B5.below hb6
     have L6:=L5.trans (hb6.mono L5.size)
     go_wp2_with fail
     refine (writeString_t w.heap.size w.heap.size _ _ _ B6 (by simp only [List.length_append,List.length_cons,List.length_nil, <- Lib.size_eq]; omega) L6.size).mono ?_
     rintro e w7 ⟨rfl,B7,hb7,hk7⟩
     have L7:=L6.trans hb7
     have hsz7:w.heap.size < w7.heap.size:=B7lt B7
     go_wp2
     go_roundw
     case rel=>exact ⟨k + 1,by omega,by go_num,by rw [HK.out]; exact B7,L7,hsz7,HFN⟩
     case measure=>simp [intOf]; omega
   ·have HFN:=Lib.hid (HST.out.2 hE)
    have q0:(prE (p,q) != 0)=true:=by simpa using hE
    clear hE HST hc1 hc2
    generalize prE (p,q)=e0 at q0 HFN ⊢
    go_wp2
    go_ret2
    exact ⟨by rw [HFN.out.1,HFN.out.2]; rfl,L1⟩
  ·have HT:=Lib.hid (show k=l.length by omega)
   rw [HT.out] at HBd HF
   by_cases h8:8 < l.length
   ·have HE:=Lib.hid ((fmt_end HF.out).1 h8)
    have hd8:decide ((8:Int) < (l.length:Int))=true:=decide_eq_true (by omega)
    go_wp2
    go_ret2
    exact ⟨by rw [HE.out.1,HE.out.2]; rfl,hbel⟩
   ·have HE:=Lib.hid ((fmt_end HF.out).2 h8)
    have hd8:decide ((8:Int) < (l.length:Int))=false:=decide_eq_false (by omega)
    go_wp2_with (go_at_call 59; refine (string_s w.heap.size w.heap.size _ _ HBd hbel.size).mono ?_; rintro e w1 ⟨rfl,hb1⟩)
    go_ret2
    exact ⟨by rw [HE.out.1,HE.out.2]; rfl,hbel.trans hb1⟩
theorem prE_small {p:Pr} (h:prE p=0):p.1.size <= 64 /\ p.2.size <= 256:=by
 obtain ⟨h1,h2⟩:=(prE_zero p).1 h
 unfold nameB at h1
 unfold cleanB at h2
 simp only [Bool.and_eq_true,decide_eq_true_eq] at h1 h2
 exact ⟨h1.1.1.2,h2.1.1.1.2⟩
theorem small_fine {l:List Pr} (h:∀ p ∈ l,prE p=0) (h8:l.length <= 8):Small l:=small_of l (by omega) fun p hp=>by have:=prE_small (h p hp); omega
theorem small_parse (s:ByteArray):Small (parseV s):=by
 by_cases h:parseE s=0
 ·exact small_fine (parseV_ok h).1 (parseV_ok h).2
 ·unfold parseV; rw [if_neg h]; exact ⟨by simp,fun j hj=>by simp at hj⟩
theorem str_eq (a b:ByteArray):(a.toList == b.toList)=decide (a=b):=by
 rw [Lib.toList_data,Lib.toList_data,Bool.eq_iff_iff,beq_iff_eq,decide_eq_true_eq]
 exact ⟨fun h=>by rw [<- Lib.mk_data a, <- Lib.mk_data b,h],fun h=>by rw [h]⟩
def CompsPost (s:ByteArray) (w:World) (e:Ending) (w':World):Prop:=
 ∃ v,e = .returned (.tuple #[v, .bool (normB s)]) /\ w'.ownsRow w.heap.size 192 2 v (compsV s).length (pcells (compsV s)) /\ Below w.heap.size w w'
set_option maxRecDepth 100000 in
set_option maxHeartbeats 2000000 in
theorem components_s (s:ByteArray) (w:World) (hs:s.size <= 1100000) :
  Calls Tryz.prog 126 #[.string s] w (CompsPost s w):=by
 go_enter Tryz.func126,Tryz.ntmps126
 go_wp2_with fail
 refine (parse_s s _ hs).mono ?_
 rintro e w1 ⟨v,rfl,hown,hb⟩
 by_cases hE:parseE s=0
 ·obtain ⟨ao,cap,rfl,hat⟩:=pairs_own hown rfl
  have hF:=fmt_parse_ok hE
  rw [hE]
  go_wp2_with fail
  refine (format_s ao _ cap (parseV s) _ hat (small_parse s)).mono ?_
  rintro e w2 ⟨rfl,hb2⟩
  rw [hF]
  have hown2:=own_below hown hb2
  have L2:=hb.trans (hb2.mono hb.size)
  by_cases hq:fmtV (parseV s)=s
  ·have HN:=Lib.hid (show normB s=true from (norm_iff s).2 ⟨hE,hq⟩)
   have HV:=Lib.hid (show compsV s=parseV s by unfold compsV; rw [HN.out]; rfl)
   have q1:((fmtV (parseV s)).toList == s.toList)=true:=by rw [str_eq]; exact decide_eq_true hq
   have q2:((fmtV (parseV s)).toList != s.toList)=false:=by unfold bne; rw [q1]; rfl
   clear hq hE hF
   go_wp2
   go_ret2
   exact ⟨_,by rw [HN.out]; rfl,by rw [HV.out]; exact hown2,L2⟩
  ·have HN:=Lib.hid (show normB s=false by rw [Bool.eq_false_iff]; intro e; exact hq ((norm_iff s).1 e).2)
   have q1:((fmtV (parseV s)).toList == s.toList)=false:=by rw [str_eq]; exact decide_eq_false hq
   have q2:((fmtV (parseV s)).toList != s.toList)=true:=by unfold bne; rw [q1]; rfl
   clear hq hE hF
   go_wp2
   go_ret2
   exact ⟨_,by rw [HN.out]; rfl,by rw [comps_none HN.out]; exact World.ownsRow_nil _ _ _ _,L2⟩
 ·have HN:=Lib.hid (show normB s=false by rw [Bool.eq_false_iff]; intro e; exact hE ((norm_iff s).1 e).1)
  have q0:(parseE s != 0)=true:=by simpa using hE
  clear hE
  generalize parseE s=k at q0 ⊢
  go_wp2
  go_ret2
  exact ⟨_,by rw [HN.out]; rfl,by rw [comps_none HN.out]; exact World.ownsRow_nil _ _ _ _,hb⟩
set_option maxRecDepth 100000 in
set_option maxHeartbeats 2000000 in
theorem clean0_s (s:ByteArray) (w:World) (hs:s.size <= 1100000) :
  Calls Tryz.prog 76 #[.string s] w fun e w'=>e = .returned (.tuple #[.string (cleanV s), .int .i64 (cleanE s)]) /\ Below w.heap.size w w':=by
 go_enter Tryz.func76,Tryz.ntmps76
 go_wp2_with fail
 refine (parse_s s _ hs).mono ?_
 rintro e w1 ⟨v,rfl,hown,hb⟩
 by_cases hE:parseE s=0
 ·obtain ⟨ao,cap,rfl,hat⟩:=pairs_own hown rfl
  have HV:=Lib.hid (show cleanV s=fmtV (parseV s) /\ cleanE s=fmtE (parseV s) by unfold cleanV cleanE; rw [if_pos hE,if_pos hE]; exact ⟨rfl,rfl⟩)
  rw [hE]
  clear hE
  go_wp2_with fail
  refine (format_s ao _ cap (parseV s) _ hat (small_parse s)).mono ?_
  rintro e w2 ⟨rfl,hb2⟩
  go_wp2
  go_ret2
  exact ⟨by rw [HV.out.1,HV.out.2]; rfl,hb.trans (hb2.mono hb.size)⟩
 ·have HV:=Lib.hid (show cleanV s=ByteArray.empty /\ cleanE s=parseE s by unfold cleanV cleanE; rw [if_neg hE,if_neg hE]; exact ⟨rfl,rfl⟩)
  have q0:(parseE s != 0)=true:=by simpa using hE
  clear hE
  generalize parseE s=k at q0 HV ⊢
  go_wp2
  go_ret2
  exact ⟨by rw [HV.out.1,HV.out.2]; rfl,hb⟩
set_option maxRecDepth 100000 in
set_option maxHeartbeats 2000000 in
theorem valid_s (s:ByteArray) (w:World) (hs:s.size <= 1100000) :
  Calls Tryz.prog 72 #[.string s] w fun e w'=>e = .returned (.bool (normB s)) /\ Below w.heap.size w w':=by
 go_enter Tryz.func72,Tryz.ntmps72
 go_wp2_with fail
 refine (components_s s _ hs).mono ?_
 rintro e w1 ⟨v,rfl,hown,hb⟩
 go_wp2
 go_ret
 exact ⟨rfl,hb⟩
theorem pcells_len:∀ l:List Pr,(pcells l).length=l.length * 2
 | []=>rfl
 | p :: l=>by
  have h:=pcells_len l
  have e:pcells (p :: l) = .string p.1 :: .string p.2 :: pcells l:=rfl
  rw [e,List.length_cons,List.length_cons,h,List.length_cons]; omega
theorem pcells_one (l:List Pr):∀ u ∈ pcells l,u.oneCell'=true:=by
 intro u hu
 obtain ⟨p,_,hp⟩:=List.mem_flatMap.1 hu
 simp at hp
 rcases hp with rfl | rfl <;> rfl
theorem pairs_cells {w:World} {b off:Nat} {ps:List Pr} (h:IsPairs w b off ps):∀ j u,(pcells ps)[j]? = some u -> w.cell? ((⟨b,off,none⟩:Addr).add j)=some u:=by
 intro j u hj
 rw [WideShapes.add_plain]
 have hl:j < (pcells ps).length:=by
  rcases Nat.lt_or_ge j (pcells ps).length with k | k
  ·exact k
  ·rw [List.getElem?_eq_none k] at hj; cases hj
 rw [pcells_len] at hl
 have hk:=pcells_at ps (j / 2) (by omega)
 have hc:=h.2 (j / 2) (by omega)
 rcases Nat.mod_two_eq_zero_or_one j with e | e
 ·have e2:j / 2 * 2=j:=by omega
  rw [e2] at hk hc
  rw [hk.1] at hj
  rw [hc.1]; exact hj
 ·have e2:j / 2 * 2 + 1=j:=by omega
  rw [e2] at hk
  rw [show off + j / 2 * 2 + 1=off + j by omega] at hc
  rw [hk.2] at hj
  rw [hc.2]; exact hj
theorem app_pairs {ops:Array Oper} {rest:List Oper} {o:Oper} {a:Act} {Q:Exit -> Act -> World -> Prop} (wr:World) {base:Nat} {v:Value} {n:Nat} {xs:List Value} (hown:wr.ownsRow base 192 2 v n xs) (s x:Operand)
  (ao:Option Addr) (m c:Nat) (news:List Pr) (hgd:o.guard=none)
  (ho:o.op = .call { callee := .builtin .append,args := #[s,x],argTypes := #[147,147] })
  (hs:a.eval s=v) (hx:a.eval x = .slice ao m c) (hw:PairsAt wr ao m c news) (h0:ao=none -> c=0) (hn:n + m <= 1000000000) (hbase:base <= wr.heap.size)
  (h:∀ v' w',w'.ownsRow base 192 2 v' (n + m) (xs ++ pcells news) -> Below base wr w' -> wpList Tryz.prog ops Q rest (a.put o.dst v') w') :
  wpList Tryz.prog ops Q (o :: rest) a wr:=by
 obtain ⟨i0,hi,hz0,hz1,hz2⟩:=info_parts info_pair
 obtain ⟨w1,w2,w3,w4⟩:=hw
 cases ao with
 | none =>
  have hc:=h0 rfl
  subst hc
  have hm:m=0:=by omega
  subst hm
  have hnil:news = []:=List.length_eq_zero_iff.1 w1
  subst hnil
  refine wpList_append_own_none hgd s x 147 ho base 192 i0 2 Tryz.underlying147 hi v n xs hs hown hx ?_
  have:=h v wr (by rw [show pcells [] = [] from rfl,List.append_nil]; exact hown) (Below.refl _ _)
  exact this
 | some ad =>
  have hnews:∀ j u,(pcells news)[j]? = some u -> wr.cell? (ad.add j)=some u:=by
   rcases Nat.eq_zero_or_pos m with e | e
   ·have hnil:news = []:=List.length_eq_zero_iff.1 (by omega)
    subst hnil
    intro j u hj; simp [pcells] at hj
   ·obtain ⟨b,off,e2,hi2⟩:=w4 e
    cases e2
    exact pairs_cells hi2
  refine wpList_append_own _ hgd s x 147 ho base 192 i0 (.agg #[.string ⟨#[]⟩, .string ⟨#[]⟩]) 2 32 Tryz.underlying147 hi hz0 hz1 hz2 rfl (by decide) v n xs hs hown ad m c (pcells news) hx (by rw [pcells_len,w1]) hnews
   (pcells_one _) (by unfold maxLen; omega) (by omega) hbase ?_
  intro v' w' h1 h2 _
  exact h v' w' h1 ((Below.refl base wr).grown h2 hbase (fun k hk=>(hown.lt k hk).1))
theorem pcells_length {l:List Pr} {n:Nat} (h:l.length=n):(pcells l).length=n * 2:=by rw [pcells_len,h]
theorem app_onto {ops:Array Oper} {rest:List Oper} {o:Oper} {a:Act} {Q:Exit -> Act -> World -> Prop} (wr:World) (s x:Operand) (ao bo:Option Addr) (n m c:Nat) (olds news:List Pr) (hgd:o.guard=none)
  (ho:o.op = .call { callee := .builtin .append,args := #[s,x],argTypes := #[147,147] })
  (hs:a.eval s = .slice ao n n) (hx:a.eval x = .slice bo m c) (hold:PairsAt wr ao n n olds) (hnone:ao=none -> n=0) (hplain:∀ ad,ao=some ad -> ad.spot=none) (hw:PairsAt wr bo m c news) (h0:bo=none -> c=0) (hn:n + m <= 1100000)
  (h:∀ xo cap w',PairsAt w' xo (n + m) cap (olds ++ news) -> Below wr.heap.size wr w' -> wpList Tryz.prog ops Q rest (a.put o.dst (.slice xo (n + m) cap)) w') :
  wpList Tryz.prog ops Q (o :: rest) a wr:=by
 obtain ⟨i0,hi,hz0,hz1,hz2⟩:=info_parts info_pair
 cases ao with
 | none =>
  have e0:=hnone rfl
  subst e0
  have e1:olds = []:=List.length_eq_zero_iff.1 hold.1
  subst e1
  refine app_pairs wr (World.ownsRow_nil wr wr.heap.size 192 2) s x bo m c news hgd ho hs hx hw h0 (by omega) (Nat.le_refl _) ?_
  intro v' w' h1 h2
  obtain ⟨xo,cap,rfl,hat⟩:=pairs_own (l:=news) (by rw [List.nil_append] at h1; exact h1) (by rw [hw.1]; omega)
  exact h xo cap w' (by rw [List.nil_append]; exact hat) h2
 | some ad =>
  have hsp:=hplain ad rfl
  obtain ⟨b,off,spot⟩:=ad
  simp only at hsp
  subst hsp
  rcases Nat.eq_zero_or_pos m with e | e
  ·subst e
   have e1:news = []:=List.length_eq_zero_iff.1 hw.1
   subst e1
   have hsrc:Src Tryz.prog i0.size 147 (.slice bo 0 c) 0 [] wr:=by
    cases bo with
    | none=>exact Src.ofNil wr Tryz.underlying147 c
    | some a2=>exact Src.ofSlice wr Tryz.underlying147 a2 0 c [] (by simp) (fun j u hj=>by simp at hj) (fun u hu=>by cases hu)
   refine wpList_plain hgd fun K hK => ?_
   have hrun:=run_append_room_src (P:=Tryz.prog) (w:=wr) 147 147 o.type 192 i0 Tryz.underlying147 hi b off n n (.slice bo 0 c) 0 [] hsrc (by omega) (fun j hj=>by simp at hj) (fun j hj=>by simp at hj)
   unfold Oper.wp
   simp [execOp,ho,resolve,invoke,builtin,hs,hx,hrun,Result.andThen]
   refine hK _ _ (h (some ⟨b,off,none⟩) n wr (by rw [List.append_nil]; exact hold) (Below.refl _ _))
  ·obtain ⟨b2,off2,e2,hi2⟩:=hw.2.2.2 e
   subst e2
   refine wpList_append_grows wr hgd s x 147 ho 192 i0 (.agg #[.string ⟨#[]⟩, .string ⟨#[]⟩]) 2 32 Tryz.underlying147 hi hz0 hz1 hz2 rfl (by decide) (some ⟨b,off,none⟩) n n (pcells olds) hs (fun e=>by cases e) (pcells_length hold.1)
    (fun ad had j u hj => ?_) ⟨b2,off2,none⟩ m c (pcells news) hx (pcells_length hw.1) (pairs_cells hi2) (pcells_one _) (by omega) (by unfold maxLen; omega) (by omega) ?_
   ·cases had
    rcases Nat.eq_zero_or_pos n with e0 | e0
    ·have e1:olds = []:=List.length_eq_zero_iff.1 (by rw [hold.1]; exact e0)
     subst e1; simp [pcells] at hj
    ·obtain ⟨b3,off3,e3,hi3⟩:=hold.2.2.2 e0
     cases e3
     exact pairs_cells hi3 j u hj
   ·intro v' w' h1 h2
    obtain ⟨xo,cap,rfl,hat⟩:=pairs_own (l:=olds ++ news) (by rw [pcells_append]; exact h1) (by rw [List.length_append,hold.1,hw.1])
    exact h xo cap w' hat ((Below.refl _ wr).grown h2 (Nat.le_refl _) (fun k hk=>by cases hk))
/-! ### copying -/
theorem small_app {l m:List Pr} (h:Small l) (k:Small m) (hn:l.length + m.length <= 1000):Small (l ++ m):=small_of _ (by simp; omega) fun q hq=>by
 rcases List.mem_append.1 hq with hq | hq
 ·exact h.mem q hq
 ·exact k.mem q hq
end Nam
end Go.Proofs.YtmmdaegdkikkpaaGreatDoor
end

section
set_option maxRecDepth 100000
namespace Go.Proofs.YtmmdaegdkikkpaaGreatDoor
namespace Nam
open Go.RowKit Go.PlainAid Go.Shelf
open Go.Sort (HoldsK putRowK flatK size_flatK get_flatK holdsK_putRowK)
instance:Inhabited Pr:=⟨(ByteArray.empty,ByteArray.empty)⟩
end Nam
end Go.Proofs.YtmmdaegdkikkpaaGreatDoor
end

section
set_option maxRecDepth 100000
namespace Go.Proofs.YtmmdaegdkikkpaaGreatDoor
open Go.ChangeShapes Go.WideShapes Go.ChangeAt Go.RowKit Go.PlainAid
/-! ### elements of three and of four one-cell fields -/
section
variable {H:Type} {enc:TypeId × Value -> H} {P:Program} {w:World} {base:Nat} {spare:Nat -> Bool} {held:Bool}
end
/-! ### types -/
structure Ty where
 name:ByteArray
 syn:Int
 single:Bool
structure Cl where
 name:ByteArray
 super:ByteArray
 must:List ByteArray
 may:List ByteArray
instance:Inhabited Ty:=⟨⟨⟨#[]⟩,0,false⟩⟩
instance:Inhabited Cl:=⟨⟨⟨#[]⟩,⟨#[]⟩,[],[]⟩⟩
def tyAt (l:List Ty) (j:Nat):Ty:=l.getD j default
def clAt (l:List Cl) (j:Nat):Cl:=l.getD j default
theorem ty_mem (l:List Ty) (j:Nat) (h:j < l.length):tyAt l j ∈ l:=by
 unfold tyAt; rw [List.getD_eq_getElem?_getD,List.getElem?_eq_getElem h]; exact List.getElem_mem h
theorem cl_mem (l:List Cl) (j:Nat) (h:j < l.length):clAt l j ∈ l:=by
 unfold clAt; rw [List.getD_eq_getElem?_getD,List.getElem?_eq_getElem h]; exact List.getElem_mem h
theorem mem_cl {l:List Cl} {t:Cl} (h:t ∈ l):∃ j,j < l.length /\ clAt l j=t:=by
 obtain ⟨j,hj,e⟩:=List.mem_iff_getElem.1 h
 exact ⟨j,hj,by unfold clAt; rw [List.getD_eq_getElem?_getD,List.getElem?_eq_getElem hj]; exact e⟩
def TyAt (w:World) (b off:Nat) (t:Ty):Prop:=
 w.cell? ⟨b,off,none⟩=some (.string t.name) /\ w.cell? ⟨b,off + 1,none⟩=some (.int .i64 t.syn) /\ w.cell? ⟨b,off + 2,none⟩=some (.bool t.single)
theorem TyAt.below {w w':World} {b off:Nat} {t:Ty} (h:TyAt w b off t) (hb:Below w.heap.size w w'):TyAt w' b off t:=
 ⟨cell_later hb h.1,cell_later hb h.2.1,cell_later hb h.2.2⟩
def TysAt (w:World) (ao:Option Addr) (n cap:Nat) (l:List Ty):Prop:=
 l.length=n /\ n <= cap /\ cap <= maxLen /\ (0 < n -> ∃ b off,ao=some ⟨b,off,none⟩ /\ b < w.heap.size /\ ∀ j,j < n -> TyAt w b (off + j * 3) (tyAt l j))
theorem TysAt.below {w w':World} {ao:Option Addr} {n cap:Nat} {l:List Ty} (h:TysAt w ao n cap l) (hb:Below w.heap.size w w'):TysAt w' ao n cap l:=
 ⟨h.1,h.2.1,h.2.2.1,fun hn=>by
  obtain ⟨b,off,e,hi,ha⟩:=h.2.2.2 hn
  exact ⟨b,off,e,Nat.lt_of_lt_of_le hi hb.size,fun j hj=>(ha j hj).below hb⟩⟩
def ClAt (w:World) (b off:Nat) (c:Cl):Prop:=
 w.cell? ⟨b,off,none⟩=some (.string c.name) /\ w.cell? ⟨b,off + 1,none⟩=some (.string c.super) /\
  (∃ vo vn vc,w.cell? ⟨b,off + 2,none⟩=some (.slice vo vn vc) /\ StrsAt w vo vn vc c.must) /\ ∃ vo vn vc,w.cell? ⟨b,off + 3,none⟩=some (.slice vo vn vc) /\ StrsAt w vo vn vc c.may
theorem ClAt.below {w w':World} {b off:Nat} {c:Cl} (h:ClAt w b off c) (hb:Below w.heap.size w w'):ClAt w' b off c:=by
 obtain ⟨h0,h1,⟨vo,vn,vc,h2,h3⟩,uo,un,uc,h4,h5⟩:=h
 exact ⟨cell_later hb h0,cell_later hb h1,⟨vo,vn,vc,cell_later hb h2,h3.below hb⟩,uo,un,uc,cell_later hb h4,h5.below hb⟩
def ClsAt (w:World) (ao:Option Addr) (n cap:Nat) (l:List Cl):Prop:=
 l.length=n /\ n <= cap /\ cap <= maxLen /\ (0 < n -> ∃ b off,ao=some ⟨b,off,none⟩ /\ b < w.heap.size /\ ∀ j,j < n -> ClAt w b (off + j * 4) (clAt l j))
theorem ClsAt.below {w w':World} {ao:Option Addr} {n cap:Nat} {l:List Cl} (h:ClsAt w ao n cap l) (hb:Below w.heap.size w w'):ClsAt w' ao n cap l:=
 ⟨h.1,h.2.1,h.2.2.1,fun hn=>by
  obtain ⟨b,off,e,hi,ha⟩:=h.2.2.2 hn
  exact ⟨b,off,e,Nat.lt_of_lt_of_le hi hb.size,fun j hj=>(ha j hj).below hb⟩⟩
end Go.Proofs.YtmmdaegdkikkpaaGreatDoor
end

section
set_option maxRecDepth 100000
namespace Go.Proofs.YtmmdaegdkikkpaaGreatDoor
open Go.RowKit Go.PlainAid
def tyOf (l:List Ty) (n:ByteArray):Option Ty:=l.find? fun t=>decide (lowS t.name=lowS n)
def clOf (l:List Cl) (n:ByteArray):Option Cl:=l.find? fun c=>decide (lowS c.name=lowS n)
theorem tyOf_low (l:List Ty) (n:ByteArray):tyOf l (lowS n)=tyOf l n:=by unfold tyOf; rw [lowS_low]
theorem clOf_low (l:List Cl) (n:ByteArray):clOf l (lowS n)=clOf l n:=by unfold clOf; rw [lowS_low]
theorem ty_take (l:List Ty) (k:Nat) (h:k < l.length):l.take (k + 1)=l.take k ++ [tyAt l k]:=by
 unfold tyAt; rw [List.getD_eq_getElem?_getD,List.getElem?_eq_getElem h]; exact List.take_succ_eq_append_getElem h
theorem cl_take (l:List Cl) (k:Nat) (h:k < l.length):l.take (k + 1)=l.take k ++ [clAt l k]:=by
 unfold clAt; rw [List.getD_eq_getElem?_getD,List.getElem?_eq_getElem h]; exact List.take_succ_eq_append_getElem h
theorem tyOf_snoc (l:List Ty) (t:Ty) (n:ByteArray):tyOf (l ++ [t]) n=(tyOf l n).or (if lowS t.name=lowS n then some t else none):=by
 unfold tyOf
 rw [List.find?_append]
 by_cases h:lowS t.name=lowS n
 ·rw [if_pos h,List.find?_cons_of_pos (by simpa using h)]
 ·rw [if_neg h,List.find?_cons_of_neg (by simpa using h),List.find?_nil]
theorem clOf_snoc (l:List Cl) (t:Cl) (n:ByteArray):clOf (l ++ [t]) n=(clOf l n).or (if lowS t.name=lowS n then some t else none):=by
 unfold clOf
 rw [List.find?_append]
 by_cases h:lowS t.name=lowS n
 ·rw [if_pos h,List.find?_cons_of_pos (by simpa using h)]
 ·rw [if_neg h,List.find?_cons_of_neg (by simpa using h),List.find?_nil]
def typedB (ts:List Ty) (ns:List ByteArray):Bool:=ns.all fun n=>(tyOf ts n).isSome
def errT (ts:List Ty) (j:Nat):Int:=
 if nameB (tyAt ts j).name=false then 5 else if (tyOf (ts.take j) (tyAt ts j).name).isSome=true then 7 else if (tyAt ts j).syn < 1 ∨ 5 < (tyAt ts j).syn then 8 else 0
def errC (ts:List Ty) (cs:List Cl) (k:Nat):Int:=
 if nameB (clAt cs k).name=false then 5
 else if (clOf (cs.take k) (clAt cs k).name).isSome=true then 7
 else if (clAt cs k).super.size ≠ 0 /\ (clOf (cs.take k) (clAt cs k).super).isSome=false then 6
 else if 64 < (clAt cs k).must.length ∨ 64 < (clAt cs k).may.length then 3
 else if typedB ts (clAt cs k).must=false ∨ typedB ts (clAt cs k).may=false then 6 else 0
def classN:ByteArray:=⟨#[99,108,97,115,115]⟩
def chkS (ts:List Ty) (cs:List Cl):Int:=
 if 64 < ts.length ∨ 32 < cs.length then 3
 else if firstE (errT ts) ts.length ≠ 0 then firstE (errT ts) ts.length
 else if firstE (errC ts cs) cs.length ≠ 0 then firstE (errC ts cs) cs.length
 else match tyOf ts classN with
  | none=>6
  | some t=>if t.syn=1 then 0 else 8
def soundT (ts:List Ty) (cs:List Cl):List Ty:=if chkS ts cs=0 then ts else []
def soundC (ts:List Ty) (cs:List Cl):List Cl:=if chkS ts cs=0 then cs else []
def lineG (l:List Cl):Nat -> ByteArray -> List Cl
 | 0,_=>[]
 | k + 1,n=>match clOf l n with
  | none=>[]
  | some c=>c :: lineG l k c.super
def lineS (l:List Cl) (n:ByteArray):List Cl:=lineG l (l.length + 1) n
def mustS (l:List Cl) (n:ByteArray):List ByteArray:=sortU ((lineS l n).flatMap fun c=>c.must.map lowS)
def mayS (l:List Cl) (n:ByteArray):List ByteArray:=sortU ((lineS l n).flatMap fun c=>(c.must ++ c.may).map lowS)
/-! ### lists of records of k cells -/
theorem flat_len {α β:Type} (f:α -> List β) (k:Nat) (hf:∀ x,(f x).length=k):∀ l:List α,(l.flatMap f).length=l.length * k
 | []=>by simp
 | x :: l=>by rw [List.flatMap_cons,List.length_append,hf,flat_len f k hf l,List.length_cons,Nat.succ_mul]; omega
theorem flat_at {α β:Type} (f:α -> List β) (k:Nat) (hf:∀ x,(f x).length=k) (d:α):∀ (l:List α) (j i:Nat),j < l.length -> i < k -> (l.flatMap f)[j * k + i]? = (f (l.getD j d))[i]?
 | [],j,i,h,_=>absurd h (Nat.not_lt_zero _)
 | x :: l,0,i,_,hi=>by
  rw [List.flatMap_cons,List.getElem?_append_left (by rw [hf]; omega),Nat.zero_mul,Nat.zero_add]; rfl
 | x :: l,j + 1,i,h,hi=>by
  rw [List.flatMap_cons,List.getElem?_append_right (by rw [hf,Nat.succ_mul]; omega),hf,show (j + 1) * k + i - k=j * k + i by rw [Nat.succ_mul]; omega]
  exact flat_at f k hf d l j i (by simpa using h) hi
/-! ### classes -/
structure Cv where
 cl:Cl
 hm:Value
 hy:Value
instance:Inhabited Cv:=⟨⟨default, .slice none 0 0, .slice none 0 0⟩⟩
def cvC (c:Cv):List Value:=[.string c.cl.name, .string c.cl.super,c.hm,c.hy]
def cvV (c:Cv):Value := .agg #[.string c.cl.name, .string c.cl.super,c.hm,c.hy]
def CvOk (w:World) (c:Cv):Prop:=Hdr w c.hm c.cl.must /\ Hdr w c.hy c.cl.may
theorem CvOk.below {w w':World} {c:Cv} (h:CvOk w c) (hb:Below w.heap.size w w'):CvOk w' c:=⟨h.1.below hb,h.2.below hb⟩
def ccells (l:List Cv):List Value:=l.flatMap cvC
def ccls (l:List Cv):List Cl:=l.map (·.cl)
theorem ccells_snoc (l:List Cv) (c:Cv):ccells (l ++ [c])=ccells l ++ cvC c:=by simp [ccells]
theorem ccls_snoc (l:List Cv) (c:Cv):ccls (l ++ [c])=ccls l ++ [c.cl]:=by simp [ccls]
theorem ccls_len (l:List Cv):(ccls l).length=l.length:=by simp [ccls]
theorem ccells_one {w:World} {l:List Cv} (h:∀ c ∈ l,CvOk w c):∀ u ∈ ccells l,u.oneCell'=true:=by
 intro u hu
 obtain ⟨c,hc,hu⟩:=List.mem_flatMap.1 hu
 simp only [cvC,List.mem_cons,List.not_mem_nil,or_false] at hu
 rcases hu with rfl | rfl | rfl | rfl
 ·rfl
 ·rfl
 ·exact (h c hc).1.one
 ·exact (h c hc).2.one
theorem info_class:(Tryz.prog.info? 64).map (fun i=>(i.zero,i.size,i.bytes))=some (some (.agg #[.string ⟨#[]⟩, .string ⟨#[]⟩, .slice none 0 0, .slice none 0 0]),4,80):=by kernel_rfl
theorem cells_four_new (w:World) (x y z u:Value) (t:TypeId):∀ j v,[x,y,z,u][j]? = some v -> (w.alloc (.cells #[x,y,z,u] t)).cell? ((⟨w.heap.size,0,none⟩:Addr).add j)=some v:=by
 intro j v hj
 have h:(w.alloc (.cells #[x,y,z,u] t)).heap[w.heap.size]? = some (.cells #[x,y,z,u] t (0,0)):=heap_alloc_new w _
 rw [show (⟨w.heap.size,0,none⟩:Addr).add j=⟨w.heap.size,j,none⟩ by rw [Go.WideShapes.add_plain,Nat.zero_add],Lib.cell_of_heap h]
 match j,hj with
 | 0,hj=>simpa using hj
 | 1,hj=>simpa using hj
 | 2,hj=>simpa using hj
 | 3,hj=>simpa using hj
 | j + 4,hj=>simp at hj
theorem cells_three_new (w:World) (x y z:Value) (t:TypeId):∀ j v,[x,y,z][j]? = some v -> (w.alloc (.cells #[x,y,z] t)).cell? ((⟨w.heap.size,0,none⟩:Addr).add j)=some v:=by
 intro j v hj
 have h:(w.alloc (.cells #[x,y,z] t)).heap[w.heap.size]? = some (.cells #[x,y,z] t (0,0)):=heap_alloc_new w _
 rw [show (⟨w.heap.size,0,none⟩:Addr).add j=⟨w.heap.size,j,none⟩ by rw [Go.WideShapes.add_plain,Nat.zero_add],Lib.cell_of_heap h]
 match j,hj with
 | 0,hj=>simpa using hj
 | 1,hj=>simpa using hj
 | 2,hj=>simpa using hj
 | j + 3,hj=>simp at hj
theorem push_class {ops:Array Oper} {rest:List Oper} {o:Oper} {a:Act} {Q:Exit -> Act -> World -> Prop} (wr:World) {base:Nat} {v:Value} {n:Nat} {xs:List Value} (hown:wr.ownsRow base 64 4 v n xs) (s x:Operand)
  (c:Cv) {w0:World} (hc:CvOk w0 c) (hgd:o.guard=none)
  (ho:o.op = .call { callee := .builtin .append,args := #[s,x],argTypes := #[23,23] })
  (hs:a.eval s=v) (hx:a.eval x = .slice (some ⟨wr.heap.size,0,none⟩) 1 1) (hn:n + 1 <= 1000000000) (hbase:base <= wr.heap.size)
  (h:∀ v' w',w'.ownsRow base 64 4 v' (n + 1) (xs ++ cvC c) -> (wr.alloc (.cells #[.string c.cl.name, .string c.cl.super,c.hm,c.hy] 64)).grownBy w' v.ownBlock -> (v'.ownBlock=v.ownBlock ∨ ∃ g,v'.ownBlock=some g /\ wr.heap.size < g) -> wpList Tryz.prog ops Q rest (a.put o.dst v') w') :
  wpList Tryz.prog ops Q (o :: rest) a (wr.alloc (.cells #[.string c.cl.name, .string c.cl.super,c.hm,c.hy] 64)):=by
 obtain ⟨i0,hi,hz0,hz1,hz2⟩:=info_parts info_class
 refine wpList_append_own_at _ hgd s x 23 ho base 64 i0 (.agg #[.string ⟨#[]⟩, .string ⟨#[]⟩, .slice none 0 0, .slice none 0 0]) 4 80 Tryz.underlying23 hi hz0 hz1 hz2 rfl (by decide) v n xs hs (hown.alloc _) ⟨wr.heap.size,0,none⟩ 1 1 (cvC c) hx rfl
  (cells_four_new _ _ _ _ _ _) (by
   have:=ccells_one (w:=w0) (l:=[c]) (fun d hd=>by rw [List.mem_singleton.1 hd]; exact hc)
   simpa [ccells] using this) (by unfold maxLen; omega) (by omega) (by simp; omega) ?_
 intro v' w' h1 h2 _ h4
 refine h v' w' h1 h2 ?_
 rcases h4 with h4 | h4
 ·exact .inl h4
 ·exact .inr ⟨_,h4,by simp⟩
/-! ### types -/
def tyC (t:Ty):List Value:=[.string t.name, .int .i64 t.syn, .bool t.single]
def tyV (t:Ty):Value := .agg #[.string t.name, .int .i64 t.syn, .bool t.single]
def ycells (l:List Ty):List Value:=l.flatMap tyC
end Go.Proofs.YtmmdaegdkikkpaaGreatDoor
end

section
set_option maxRecDepth 100000
namespace Go.Proofs.YtmmdaegdkikkpaaGreatDoor
open Go.RowKit Go.PlainAid Go.Maps
def rawE (v:Value):Option (DataW Value × List MemPlace):=some (.held v,[])
def RawMap (w:World) (b n:Nat) (f:ByteArray -> Option Value):Prop:=
 ∃ D,w.ownsMap Tryz.prog 9 rawE b n D /\ ∀ k,Maps.has D (klit k)=(f k).isSome /\ ∀ v,f k=some v -> ∀ z,D.atKey (klit k) z = .held v
theorem raw_made (w:World):RawMap (w.alloc (.map #[] 0)) w.heap.size 0 fun _=>none:=
 ⟨.map [],World.ownsMap_made w _ _ _,fun k=>⟨rfl,fun v h=>by cases h⟩⟩
theorem RawMap.lt {w:World} {b n:Nat} {f:ByteArray -> Option Value} (h:RawMap w b n f):b < w.heap.size:=by
 obtain ⟨D,h,_⟩:=h; exact h.lt
theorem RawMap.kept {w w':World} {b n:Nat} {f:ByteArray -> Option Value} {row:Option Nat} (h:RawMap w b n f) (hg:w.grownBy w' row) (hne:some b ≠ row):RawMap w' b n f:=by
 obtain ⟨D,h,hf⟩:=h; exact ⟨D,h.kept hg hne,hf⟩
theorem RawMap.below {w w':World} {b n:Nat} {f:ByteArray -> Option Value} {B:Nat} (h:RawMap w b n f) (hb:Below B w w') (hB:b < B):RawMap w' b n f:=by
 obtain ⟨D,⟨es,clock,he,h1,h2⟩,hf⟩:=h
 exact ⟨D,⟨es,clock,by rw [hb.block b hB]; exact he,h1,h2⟩,hf⟩
theorem RawMap.mono {w:World} {b n m:Nat} {f:ByteArray -> Option Value} (h:RawMap w b n f) (hm:n <= m):RawMap w b m f:=by
 obtain ⟨D,h,hf⟩:=h; exact ⟨D,h.mono hm,hf⟩
def MapVal (w:World) (mv:Option Nat) (f:ByteArray -> Option Value):Prop:=(mv=none /\ ∀ k,f k=none) ∨ ∃ b n,mv=some b /\ RawMap w b n f
theorem MapVal.below {w w':World} {mv:Option Nat} {f:ByteArray -> Option Value} (h:MapVal w mv f) (hb:Below w.heap.size w w'):MapVal w' mv f:=by
 rcases h with h | ⟨b,n,e,h⟩
 ·exact .inl h
 ·exact .inr ⟨b,n,e,h.below hb h.lt⟩
theorem MapVal.kept {w w':World} {mv:Option Nat} {f:ByteArray -> Option Value} {row:Option Nat} (h:MapVal w mv f) (hg:w.grownBy w' row) (hne:∀ b,mv=some b -> some b ≠ row):MapVal w' mv f:=by
 rcases h with h | ⟨b,n,e,h⟩
 ·exact .inl h
 ·exact .inr ⟨b,n,e,h.kept hg (hne b e)⟩
theorem MapVal.look_ok {w:World} {mv:Option Nat} {f:ByteArray -> Option Value} {t e:TypeId} {z:Value} (h:MapVal w mv f) (ht:Tryz.prog.underlying t=some (.map 9 e)) (hz:(zeroValue e).run Tryz.prog w = .ok z w) (k:ByteArray) (hk:k.size <= maxLen) :
  (Instr.lookup t (.map mv) (.string k) true).run Tryz.prog w = .ok (.tuple #[(f k).getD z, .bool (f k).isSome]) w:=by
 rcases h with ⟨rfl,hn⟩ | ⟨b,n,rfl,D,hm,hf⟩
 ·rw [Maps.look_nil true (string_keyed Tryz.underlying9) ht hz (klit_key k hk),hn k]; rfl
 ·obtain ⟨v,ps,hrun,hv⟩:=hm.look_ok (string_keyed Tryz.underlying9) ht hz (zd := .held z) rfl (klit_key k hk)
  rw [hrun,(hf k).1]
  have hv2:DataW.held v=D.atKey (klit k) (.held z):=by
   unfold rawE at hv
   simp only [Option.some.injEq,Prod.mk.injEq] at hv
   exact hv.1
  cases hfk:f k with
  | none =>
   have h0:=(hf k).1
   rw [hfk] at h0
   rw [atKey_of_not_has h0] at hv2
   injection hv2 with hv2
   rw [hv2]; rfl
  | some u =>
   rw [(hf k).2 u hfk] at hv2
   injection hv2 with hv2
   rw [hv2]; rfl
theorem MapVal.look {w:World} {mv:Option Nat} {f:ByteArray -> Option Value} {t e:TypeId} {z:Value} (h:MapVal w mv f) (ht:Tryz.prog.underlying t=some (.map 9 e)) (hz:(zeroValue e).run Tryz.prog w = .ok z w) (k:ByteArray) (hk:k.size <= maxLen) :
  (Instr.lookup t (.map mv) (.string k) false).run Tryz.prog w = .ok ((f k).getD z) w:=by
 rcases h with ⟨rfl,hn⟩ | ⟨b,n,rfl,D,hm,hf⟩
 ·rw [Maps.look_nil false (string_keyed Tryz.underlying9) ht hz (klit_key k hk),hn k]; rfl
 ·obtain ⟨v,ps,hrun,hv⟩:=hm.lookup (string_keyed Tryz.underlying9) ht hz (zd := .held z) rfl (klit_key k hk)
  rw [hrun]
  have hv2:DataW.held v=D.atKey (klit k) (.held z):=by
   unfold rawE at hv
   simp only [Option.some.injEq,Prod.mk.injEq] at hv
   exact hv.1
  cases hfk:f k with
  | none =>
   have h0:=(hf k).1
   rw [hfk] at h0
   rw [atKey_of_not_has h0] at hv2
   injection hv2 with hv2
   rw [hv2]; rfl
  | some u =>
   rw [(hf k).2 u hfk] at hv2
   injection hv2 with hv2
   rw [hv2]; rfl
def setO (f:ByteArray -> Option Value) (k:ByteArray) (v:Value) (j:ByteArray):Option Value:=if j=k then some v else f j
theorem RawMap.store {w:World} {b n:Nat} {f:ByteArray -> Option Value} {t e:TypeId} (h:RawMap w b n f) (ht:Tryz.prog.underlying t=some (.map 9 e)) (hn:n < maxLen) (k:ByteArray) (hk:k.size <= maxLen) (v:Value) :
  ∃ w',(Instr.mapUpdate t (.map (some b)) (.string k) v).run Tryz.prog w = .ok () w' /\ RawMap w' b (n + 1) (setO f k v) /\ w.grownBy w' (some b):=by
 obtain ⟨D,hm,hf⟩:=h
 obtain ⟨w',hrun,hm',hg⟩:=hm.update (string_keyed Tryz.underlying9) ht hn (klit_key k hk) (val:=v) (d := .held v) (ps:=[]) rfl
 refine ⟨w',hrun,⟨_,hm',fun j => ?_⟩,hg⟩
 unfold setO
 by_cases e:j=k
 ·subst e
  rw [if_pos rfl]
  refine ⟨has_put_same hm.isMap (by unfold klit; trivial) _,fun u hu z => ?_⟩
  obtain rfl:=Option.some.inj hu
  exact atKey_put_same hm.isMap (by unfold klit; trivial) _ _
 ·rw [if_neg e]
  have hne:klit j ≠ klit k:=fun h=>e (klit_one h)
  exact ⟨by rw [has_put_other hne]; exact (hf j).1,fun u hu z=>by rw [atKey_put_other hne]; exact (hf j).2 u hu z⟩
def zeroTy:Ty:=⟨⟨#[]⟩,0,false⟩
def zeroCv:Cv:=⟨⟨⟨#[]⟩,⟨#[]⟩,[],[]⟩, .slice none 0 0, .slice none 0 0⟩
def zeroTyV:Value := .agg #[.string ⟨#[]⟩, .int .i64 0, .bool false]
def zeroClV:Value := .agg #[.string ⟨#[]⟩, .string ⟨#[]⟩, .slice none 0 0, .slice none 0 0]
def TMap (w:World) (mv:Option Nat) (ts:List Ty):Prop := ∃ f,MapVal w mv f /\ ∀ n,f (lowS n)=(tyOf ts n).map tyV
def CMap (w0 w:World) (mv:Option Nat) (cs:List Cl):Prop:=
 ∃ f,MapVal w mv f /\ ∀ n,(clOf cs n=none -> f (lowS n)=none) /\ ∀ c,clOf cs n=some c -> ∃ d:Cv,d.cl=c /\ CvOk w0 d /\ f (lowS n)=some (cvV d)
theorem TMap.below {w w':World} {mv:Option Nat} {ts:List Ty} (h:TMap w mv ts) (hb:Below w.heap.size w w'):TMap w' mv ts:=by
 obtain ⟨f,h,k⟩:=h; exact ⟨f,h.below hb,k⟩
theorem CMap.below {w0 w w':World} {mv:Option Nat} {cs:List Cl} (h:CMap w0 w mv cs) (hb:Below w.heap.size w w'):CMap w0 w' mv cs:=by
 obtain ⟨f,h,k⟩:=h; exact ⟨f,h.below hb,k⟩
theorem CMap.base {w0 w1 w:World} {mv:Option Nat} {cs:List Cl} (h:CMap w0 w mv cs) (hb:Below w0.heap.size w0 w1):CMap w1 w mv cs:=by
 obtain ⟨f,h,k⟩:=h
 refine ⟨f,h,fun n=>⟨(k n).1,fun c hc => ?_⟩⟩
 obtain ⟨d,e,ho,hf⟩:=(k n).2 c hc
 exact ⟨d,e,ho.below hb,hf⟩
theorem TMap.kept {w w':World} {mv:Option Nat} {ts:List Ty} {row:Option Nat} (h:TMap w mv ts) (hg:w.grownBy w' row) (hne:∀ b,mv=some b -> some b ≠ row):TMap w' mv ts:=by
 obtain ⟨f,h,k⟩:=h; exact ⟨f,h.kept hg hne,k⟩
theorem CMap.kept {w0 w w':World} {mv:Option Nat} {cs:List Cl} {row:Option Nat} (h:CMap w0 w mv cs) (hg:w.grownBy w' row) (hne:∀ b,mv=some b -> some b ≠ row):CMap w0 w' mv cs:=by
 obtain ⟨f,h,k⟩:=h; exact ⟨f,h.kept hg hne,k⟩
theorem tmap_nil (w:World):TMap w none []:=⟨fun _=>none, .inl ⟨rfl,fun _=>rfl⟩,fun _=>rfl⟩
theorem cmap_nil (w0 w:World):CMap w0 w none []:=⟨fun _=>none, .inl ⟨rfl,fun _=>rfl⟩,fun _=>⟨fun _=>rfl,fun c hc=>by cases hc⟩⟩
theorem TMap.look {w:World} {mv:Option Nat} {ts:List Ty} (h:TMap w mv ts) (n:ByteArray) (hn:n.size <= 1000000000) :
  (Instr.lookup 127 (.map mv) (.string (lowS n)) true).run Tryz.prog w = .ok (.tuple #[((tyOf ts n).map tyV).getD zeroTyV, .bool (tyOf ts n).isSome]) w:=by
 obtain ⟨f,h,k⟩:=h
 rw [h.look_ok Tryz.underlying127 (Tryz.zeroValue62 _) (lowS n) (by rw [lowS_size]; unfold maxLen; omega),k n]
 cases tyOf ts n <;> rfl
theorem CMap.look {w0 w:World} {mv:Option Nat} {cs:List Cl} (h:CMap w0 w mv cs) (n:ByteArray) (hn:n.size <= 1000000000) :
  ∃ v,(Instr.lookup 128 (.map mv) (.string (lowS n)) true).run Tryz.prog w = .ok (.tuple #[v, .bool (clOf cs n).isSome]) w /\ (clOf cs n=none -> v=zeroClV) /\ ∀ c,clOf cs n=some c -> ∃ d:Cv,d.cl=c /\ CvOk w0 d /\ v=cvV d:=by
 obtain ⟨f,h,k⟩:=h
 refine ⟨(f (lowS n)).getD zeroClV, ?_,fun hc=>by rw [(k n).1 hc]; rfl,fun c hc => ?_⟩
 ·rw [h.look_ok Tryz.underlying128 (Tryz.zeroValue64 _) (lowS n) (by rw [lowS_size]; unfold maxLen; omega)]
  cases hc:clOf cs n with
  | none=>rw [(k n).1 hc]; rfl
  | some c =>
   obtain ⟨d,e,ho,hf⟩:=(k n).2 c hc
   rw [hf]; rfl
 ·obtain ⟨d,e,ho,hf⟩:=(k n).2 c hc
  exact ⟨d,e,ho,by rw [hf]; rfl⟩
def TOpen (w:World) (b n:Nat) (ts:List Ty):Prop := ∃ f,RawMap w b n f /\ ∀ m,f (lowS m)=(tyOf ts m).map tyV
def COpen (w0 w:World) (b n:Nat) (cs:List Cl):Prop:=
 ∃ f,RawMap w b n f /\ ∀ n,(clOf cs n=none -> f (lowS n)=none) /\ ∀ c,clOf cs n=some c -> ∃ d:Cv,d.cl=c /\ CvOk w0 d /\ f (lowS n)=some (cvV d)
theorem TOpen.map {w:World} {b n:Nat} {ts:List Ty} (h:TOpen w b n ts):TMap w (some b) ts:=by
 obtain ⟨f,h,k⟩:=h; exact ⟨f, .inr ⟨b,n,rfl,h⟩,k⟩
theorem COpen.map {w0 w:World} {b n:Nat} {cs:List Cl} (h:COpen w0 w b n cs):CMap w0 w (some b) cs:=by
 obtain ⟨f,h,k⟩:=h; exact ⟨f, .inr ⟨b,n,rfl,h⟩,k⟩
theorem TOpen.lt {w:World} {b n:Nat} {ts:List Ty} (h:TOpen w b n ts):b < w.heap.size:=by obtain ⟨f,h,_⟩:=h; exact h.lt
theorem COpen.lt {w0 w:World} {b n:Nat} {ts:List Cl} (h:COpen w0 w b n ts):b < w.heap.size:=by obtain ⟨f,h,_⟩:=h; exact h.lt
theorem TOpen.below {w w':World} {b n:Nat} {ts:List Ty} {B:Nat} (h:TOpen w b n ts) (hb:Below B w w') (hB:b < B):TOpen w' b n ts:=by
 obtain ⟨f,h,k⟩:=h; exact ⟨f,h.below hb hB,k⟩
theorem COpen.below {w0 w w':World} {b n:Nat} {cs:List Cl} {B:Nat} (h:COpen w0 w b n cs) (hb:Below B w w') (hB:b < B):COpen w0 w' b n cs:=by
 obtain ⟨f,h,k⟩:=h; exact ⟨f,h.below hb hB,k⟩
theorem TOpen.kept {w w':World} {b n:Nat} {ts:List Ty} {row:Option Nat} (h:TOpen w b n ts) (hg:w.grownBy w' row) (hne:some b ≠ row):TOpen w' b n ts:=by
 obtain ⟨f,h,k⟩:=h; exact ⟨f,h.kept hg hne,k⟩
theorem COpen.kept {w0 w w':World} {b n:Nat} {cs:List Cl} {row:Option Nat} (h:COpen w0 w b n cs) (hg:w.grownBy w' row) (hne:some b ≠ row):COpen w0 w' b n cs:=by
 obtain ⟨f,h,k⟩:=h; exact ⟨f,h.kept hg hne,k⟩
theorem topen_made (w:World):TOpen (w.alloc (.map #[] 0)) w.heap.size 0 []:=⟨_,raw_made w,fun m=>rfl⟩
theorem copen_made (w0 w:World):COpen w0 (w.alloc (.map #[] 0)) w.heap.size 0 []:=⟨_,raw_made w,fun m=>⟨fun _=>rfl,fun c hc=>by cases hc⟩⟩
theorem TOpen.store {w:World} {b n:Nat} {ts:List Ty} (h:TOpen w b n ts) (t:Ty) (hn:n < 1100000) (hz:t.name.size <= 1000000000) (hT:tyOf ts t.name=none) :
  ∃ w',(Instr.mapUpdate 127 (.map (some b)) (.string (lowS t.name)) (tyV t)).run Tryz.prog w = .ok () w' /\ TOpen w' b (n + 1) (ts ++ [t]) /\ w.grownBy w' (some b):=by
 obtain ⟨f,h,k⟩:=h
 obtain ⟨w',hrun,hm,hg⟩:=h.store Tryz.underlying127 (by unfold maxLen; omega) (lowS t.name) (by rw [lowS_size]; unfold maxLen; omega) (tyV t)
 refine ⟨w',hrun,⟨_,hm,fun m => ?_⟩,hg⟩
 rw [tyOf_snoc]
 unfold setO
 by_cases e:lowS m=lowS t.name
 ·have:tyOf ts m=none:=by rw [<- tyOf_low,e,tyOf_low]; exact hT
  rw [if_pos e,this,if_pos e.symm]; rfl
 ·rw [if_neg e,k m,if_neg (fun h=>e h.symm),Option.or_none]
theorem COpen.store {w0 w:World} {b n:Nat} {cs:List Cl} (h:COpen w0 w b n cs) (d:Cv) (hd:CvOk w0 d) (hn:n < 1100000) (hz:d.cl.name.size <= 1000000000) (hT:clOf cs d.cl.name=none) :
  ∃ w',(Instr.mapUpdate 128 (.map (some b)) (.string (lowS d.cl.name)) (cvV d)).run Tryz.prog w = .ok () w' /\ COpen w0 w' b (n + 1) (cs ++ [d.cl]) /\ w.grownBy w' (some b):=by
 obtain ⟨f,h,k⟩:=h
 obtain ⟨w',hrun,hm,hg⟩:=h.store Tryz.underlying128 (by unfold maxLen; omega) (lowS d.cl.name) (by rw [lowS_size]; unfold maxLen; omega) (cvV d)
 refine ⟨w',hrun,⟨_,hm,fun m => ?_⟩,hg⟩
 rw [clOf_snoc]
 unfold setO
 by_cases e:lowS m=lowS d.cl.name
 ·have:clOf cs m=none:=by rw [<- clOf_low,e,clOf_low]; exact hT
  rw [if_pos e,this,if_pos e.symm]
  refine ⟨(fun h=>by cases h),fun c hc=>⟨d, ?_,hd,rfl⟩⟩
  simpa using hc
 ·rw [if_neg e,if_neg (fun h=>e h.symm),Option.or_none]
  exact k m
end Go.Proofs.YtmmdaegdkikkpaaGreatDoor
end

section
set_option maxRecDepth 100000
namespace Go.Proofs.YtmmdaegdkikkpaaGreatDoor
open Go.RowKit Go.PlainAid
theorem rgT {P:Program} {md:Region.Mode} {ops:Array Oper} {Q:Exit -> Act -> World -> Prop} {S:World -> Prop} (i:Nat) (d:Option Nat) {op:Op} {ty:_} {ps:_} {af:_} {g:_} {v:Value} {fuel:Nat} {listed l':Array Bool} {a a':Act} {w:World}
  (h:wpAnyH P md ops Q S fuel l' a' w)
  (hi:ops[i]? = some { dst:=d,op:=op,type:=ty,pos:=ps,after:=af,guard:=g }:=by rfl)
  (hs:Region.noSelect ops=true:=by kernel_rfl) (hf:Region.free md ops listed i=true:=by kernel_rfl) (hr:(Region.ready md ops listed).contains i=true:=by kernel_rfl)
  (hQ:∀ c a w,Q (.panic c) (a.put d v) w -> Q (.panic c) a w:=by exact fun _ _ _ h=>h)
  (hy:YieldsIf P ops S { dst:=d,op:=op,type:=ty,pos:=ps,after:=af,guard:=g } v a:=by
   refine Or.inl ⟨by rfl, ?_⟩
   intro w hSw
   try dsimp only at hSw
   go_simp
   try with_reducible rfl)
  (hS:S w:=by assumption)
  (ha:a.put d v=a':=by first | (simp only [Act.put,List.setIfInBounds_toArray,List.set_cons_zero,List.set_cons_succ]; done) | (simp only [Act.put,List.setIfInBounds_toArray,List.set_cons_zero,List.set_cons_succ]; rfl) | rfl)
  (hl:listed.setIfInBounds i true=l':=by first | (simp only [List.setIfInBounds_toArray,List.set_cons_zero,List.set_cons_succ]; done) | (simp only [List.setIfInBounds_toArray,List.set_cons_zero,List.set_cons_succ]; rfl) | rfl) :
  wpAnyH P md ops Q S (fuel + 1) listed a w:=by
 subst ha
 subst hl
 exact wpAnyH_take hi hs hf hr hQ hy hS h
theorem lsA {α:Type} (l:List α) (i:Nat) (a:α):l.toArray.setIfInBounds i a=(l.set i a).toArray:=List.setIfInBounds_toArray ..
theorem lsZ {α:Type} {a b:α} {l:List α}:(a :: l).set 0 b=b :: l:=List.set_cons_zero ..
theorem lsS {α:Type} {a b:α} {l:List α} {i:Nat}:(a :: l).set (i + 1) b=a :: l.set i b:=List.set_cons_succ ..
theorem rgS {P:Program} {md:Region.Mode} {ops:Array Oper} {Q:Exit -> Act -> World -> Prop} {S:World -> Prop} (i:Nat) (d:Option Nat) {op:Op} {ty:_} {ps:_} {af:_} {g:_} {fuel:Nat} {listed l':Array Bool} {a a':Act} {w:World}
  (h:wpAnyH P md ops Q S fuel l' a' w)
  (hi:ops[i]? = some { dst:=d,op:=op,type:=ty,pos:=ps,after:=af,guard:=g }:=by rfl)
  (hs:Region.noSelect ops=true:=by kernel_rfl) (hf:Region.free md ops listed i=true:=by kernel_rfl) (hr:(Region.ready md ops listed).contains i=true:=by kernel_rfl)
  (hQ:∀ c a w,Q (.panic c) (a.put d undef) w -> Q (.panic c) a w:=by exact fun _ _ _ h=>h)
  (hy:YieldsIf P ops S { dst:=d,op:=op,type:=ty,pos:=ps,after:=af,guard:=g } undef a:=by exact Or.inr ⟨by rfl,rfl⟩)
  (hS:S w:=by assumption)
  (ha:a.put d undef=a':=by first | (simp only [Act.put,List.setIfInBounds_toArray,List.set_cons_zero,List.set_cons_succ]; done) | (simp only [Act.put,List.setIfInBounds_toArray,List.set_cons_zero,List.set_cons_succ]; rfl) | rfl)
  (hl:listed.setIfInBounds i true=l':=by first | (simp only [List.setIfInBounds_toArray,List.set_cons_zero,List.set_cons_succ]; done) | (simp only [List.setIfInBounds_toArray,List.set_cons_zero,List.set_cons_succ]; rfl) | rfl) :
  wpAnyH P md ops Q S (fuel + 1) listed a w:=by
 subst ha
 subst hl
 exact wpAnyH_take hi hs hf hr hQ hy hS h
theorem rgC {P:Program} {md:Region.Mode} {ops:Array Oper} {Q:Exit -> Act -> World -> Prop} {S:World -> Prop} (i:Nat) {o:Oper} {fuel:Nat} {listed:Array Bool} {a:Act} {w:World}
  (h:∀ K':Act -> World -> Prop,Shut (∀ a w,S w -> (S w -> wpAnyH P md ops Q S fuel (listed.setIfInBounds i true) a w) -> K' a w) -> if Region.wanted o (yielded ops a.tmps)=true then Oper.wp P o a w K' Q else K' (a.put o.dst undef) w)
  (hr:Region.ready md ops listed = [i]:=by kernel_rfl) (ho:ops[i]? = some o:=by rfl) :
  wpAnyH P md ops Q S (fuel + 1) listed a w:=wpAnyH_ready hr (by simp) (AllReadyH.cons ho h AllReadyH.nil)
theorem names_len (l:List At):(names l).length <= l.length:=by
 unfold names
 refine Nat.le_trans (sortU_len _) ?_
 rw [List.length_map]; exact List.length_filter_le _ _
theorem names_asc (l:List At):Asc (names l):=sortU_asc _
theorem lowS_small {s:ByteArray} {m:Nat} (h:s.size <= m):(lowS s).size <= m:=by rw [lowS_size]; exact h
theorem names_small {l:List At} (h:SmallA l):SmallS (names l):=by
 intro v hv
 obtain ⟨u,a,ha,rfl,_⟩:=names_mem.1 hv
 exact lowS_small (h a ha).1
theorem vals_small {l:List At} (h:SmallA l) (n:ByteArray):SmallS (vals l n):=by
 intro v hv
 obtain ⟨a,ha,_,hx⟩:=vals_mem.1 hv
 exact (h a ha).2 v hx
theorem vals_len (l:List At) (n:ByteArray):(vals l n).length <= sumV l:=Nat.le_trans (sortU_len _) (allV_len n l)
theorem nf_len (l:List At):(nf l).length <= l.length:=by unfold nf; rw [List.length_map]; exact names_len l
theorem nf_small {l:List At} (h:SmallA l):SmallA (nf l):=by
 intro a ha
 unfold nf at ha
 obtain ⟨n,hn,rfl⟩:=List.mem_map.1 ha
 exact ⟨names_small h n hn,vals_small h n⟩
def TOwn (w:World) (base:Nat) (v:Value) (T:List Tr):Prop := ∀ t ∈ T,w.ownsRow base 9 1 t.2.1 t.2.2.length (scells t.2.2) /\ (t.2.1.ownBlock=none ∨ t.2.1.ownBlock ≠ v.ownBlock)
theorem TOwn.ok {w:World} {base:Nat} {v:Value} {T:List Tr} (h:TOwn w base v T):TOk w T:=fun t ht=>hdr_owns (h t ht).1
theorem TOwn.below {w w':World} {base:Nat} {v:Value} {T:List Tr} (h:TOwn w base v T) (hb:Below w.heap.size w w'):TOwn w' base v T:=fun t ht=>⟨own_below (h t ht).1 hb,(h t ht).2⟩
theorem TOwn.mono {w:World} {base base':Nat} {v:Value} {T:List Tr} (h:TOwn w base v T) (hb:base' <= base):TOwn w base' v T:=fun t ht=>⟨(h t ht).1.mono hb,(h t ht).2⟩
theorem TOwn.snoc {w:World} {base:Nat} {v:Value} {T:List Tr} (h:TOwn w base v T) {t:Tr} (ht:w.ownsRow base 9 1 t.2.1 t.2.2.length (scells t.2.2)) (hv:t.2.1.ownBlock=none ∨ t.2.1.ownBlock ≠ v.ownBlock):TOwn w base v (T ++ [t]):=
 fun u hu=>(List.mem_append.1 hu).elim (h u) fun k=>by rw [List.mem_singleton.1 k]; exact ⟨ht,hv⟩
theorem TOwn.grown {w w':World} {base:Nat} {v v':Value} {T:List Tr} (h:TOwn w base v T) (hg:w.grownBy w' v.ownBlock) (hl:v'.ownBlock=v.ownBlock ∨ v'.ownBlock=some w.heap.size):TOwn w' base v' T:=fun t ht=>by
 obtain ⟨h1,h2⟩:=h t ht
 refine ⟨h1.kept hg h2, ?_⟩
 cases hb:t.2.1.ownBlock with
 | none=>exact .inl rfl
 | some g =>
  refine .inr fun e => ?_
  rcases hl with k | k
  ·rcases h2 with h2 | h2
   ·rw [hb] at h2; cases h2
   ·exact h2 (by rw [hb,e,k])
  ·rw [k] at e
   cases e
   have:=(h1.lt _ hb).2
   omega
theorem own_apart {w:World} {base:Nat} {e:TypeId} {size n m:Nat} {v u:Value} {xs ys:List Value} {e':TypeId} {size' b0:Nat} (h:w.ownsRow base e size v n xs) {w0:World} (k:w0.ownsRow b0 e' size' u m ys) (hb:w0.heap.size <= base):v.ownBlock=none ∨ v.ownBlock ≠ u.ownBlock:=by
 cases hv:v.ownBlock with
 | none=>exact .inl rfl
 | some g =>
  refine .inr fun e => ?_
  have h1:=(h.lt g hv).1
  have h2:=(k.lt g e.symm).2
  omega
theorem keep2b {w w1 w2:World} {f:Nat} {A B:Addr} {x y:Value} (h:w1.cell? A=some x /\ w1.cell? B=some y /\ Hid (Below f w w1 /\ f <= w1.heap.size)) (hb:Below w1.heap.size w1 w2):w2.cell? A=some x /\ w2.cell? B=some y /\ Hid (Below f w w2 /\ f <= w2.heap.size):=
 ⟨cell_later hb h.1,cell_later hb h.2.1,Lib.hid ⟨h.2.2.out.1.trans (hb.mono h.2.2.out.2),Nat.le_trans h.2.2.out.2 hb.size⟩⟩
theorem allV_small (l:List At) (k:Nat) (n:ByteArray):(allV (l.take k) n).length <= sumV l:=Nat.le_trans (allV_len n _) (sumV_take l k)
theorem keep4b {w w1 w2:World} {f:Nat} {A B C D:Addr} {x y z u:Value} (h:w1.cell? A=some x /\ w1.cell? B=some y /\ w1.cell? C=some z /\ w1.cell? D=some u /\ Hid (Below f w w1 /\ f <= w1.heap.size)) (hb:Below w1.heap.size w1 w2):w2.cell? A=some x /\ w2.cell? B=some y /\ w2.cell? C=some z /\ w2.cell? D=some u /\ Hid (Below f w w2 /\ f <= w2.heap.size):=
 ⟨cell_later hb h.1,cell_later hb h.2.1,cell_later hb h.2.2.1,cell_later hb h.2.2.2.1,Lib.hid ⟨h.2.2.2.2.out.1.trans (hb.mono h.2.2.2.2.out.2),Nat.le_trans h.2.2.2.2.out.2 hb.size⟩⟩
theorem ats_ext {l k:List At} (h:l.length=k.length) (hj:∀ j,j < l.length -> atD l j=atD k j):l=k:=by
 apply List.ext_getElem h
 intro i h1 h2
 have:=hj i h1
 rwa [at_get l i h1,at_get k i h2] at this
def AttsR (w:World) (v:Value) (l:List At):Prop := ∃ ao n cap,v = .slice ao n cap /\ AttrsAt w ao n cap l
theorem AttsR.below {w w':World} {v:Value} {l:List At} (h:AttsR w v l) (hb:Below w.heap.size w w'):AttsR w' v l:=by
 obtain ⟨ao,n,cap,e,hs⟩:=h
 exact ⟨ao,n,cap,e,hs.below hb⟩
theorem atts_nil (w:World):AttsR w (.slice none 0 0) []:=⟨none,0,0,rfl,rfl,Nat.le_refl _,by unfold maxLen; omega,fun h=>absurd h (Nat.lt_irrefl _)⟩
theorem atts_own {w:World} {base n:Nat} {v:Value} {T:List Tr} (h:w.ownsRow base 58 2 v n (tcells T)) (hT:TOk w T):AttsR w v (tats T):=by
 obtain ⟨_,ao,cap,rfl,hat,_⟩:=ts_owns h
 exact ⟨ao,n,cap,rfl,ts_ats hat hT⟩
structure Few (l:List At):Prop where
 small:SmallA l
 vals:sumV l <= 100000
 len:l.length <= 3000
theorem names_part {l:List At} {T:List Tr} (hT:tats T=nf l) (q:Nat) (h:q < T.length):(trD T q).1=partAt (names l) q:=by
 have h1:=nf_names l
 rw [<- hT] at h1
 have h2:=atD_tats T q
 unfold partAt
 rw [<- h1,List.getD_eq_getElem?_getD,List.getElem?_map,List.getElem?_eq_getElem (by rw [tats_len]; exact h)]
 show _=((tats T)[q]'_).1
 rw [<- at_get (tats T) q (by rw [tats_len]; exact h),h2]
theorem names_tlen {l:List At} {T:List Tr} (hT:tats T=nf l):(names l).length=T.length:=by
 rw [<- nf_names,List.length_map, <- hT,tats_len]
theorem apart_symm {a b:Option Nat} (h:a=none ∨ a ≠ b):b=none ∨ b ≠ a:=by
 cases b with
 | none=>exact .inl rfl
 | some g =>
  refine .inr fun e => ?_
  rcases h with h | h
  ·rw [h] at e; cases e
  ·exact h e.symm
def wthL (l:List At) (lw:ByteArray):List At:=(nf l).filter fun a=>decide (a.1 ≠ lw)
theorem sum_none:∀ l:List Nat,(∀ x ∈ l,x=0) -> l.sum=0
 | [],_=>rfl
 | x :: l,h=>by
  rw [List.sum_cons,h x (List.mem_cons_self ..),sum_none l fun y hy=>h y (List.mem_cons_of_mem _ hy)]
theorem sum_hit (m:Nat) (n:ByteArray):∀ ns:List ByteArray,ns.Nodup -> (ns.map fun k=>if n=k then m else 0).sum <= m
 | [],_=>Nat.zero_le _
 | k :: ns,h=>by
  have h':=List.nodup_cons.1 h
  rw [List.map_cons,List.sum_cons]
  by_cases e:n=k
  ·rw [if_pos e]
   have hz:(ns.map fun k=>if n=k then m else 0).sum=0:=by
    refine sum_none _ fun x hx => ?_
    obtain ⟨j,hj,rfl⟩:=List.mem_map.1 hx
    rw [if_neg fun e2=>h'.1 (by rw [<- e,e2]; exact hj)]
   omega
  ·rw [if_neg e]
   have:=sum_hit m n ns h'.2
   omega
theorem sum_le {α:Type} (f g:α -> Nat):∀ l:List α,(∀ x ∈ l,f x <= g x) -> (l.map f).sum <= (l.map g).sum
 | [],_=>Nat.le_refl _
 | x :: l,h=>by
  rw [List.map_cons,List.map_cons,List.sum_cons,List.sum_cons]
  have h1:=h x (List.mem_cons_self ..)
  have h2:=sum_le f g l fun y hy=>h y (List.mem_cons_of_mem _ hy)
  omega
theorem sum_add {α:Type} (f g:α -> Nat):∀ l:List α,(l.map fun x=>f x + g x).sum=(l.map f).sum + (l.map g).sum
 | []=>rfl
 | x :: l=>by
  rw [List.map_cons,List.map_cons,List.map_cons,List.sum_cons,List.sum_cons,List.sum_cons,sum_add f g l]; omega
theorem sum_allV:∀ (l:List At) (ns:List ByteArray),ns.Nodup -> (ns.map fun n=>(allV l n).length).sum <= sumV l
 | [],ns,_=>by
  have:(ns.map fun n=>(allV [] n).length).sum=0:=by
   refine sum_none _ fun x hx => ?_
   obtain ⟨j,hj,rfl⟩:=List.mem_map.1 hx
   rfl
  rw [this]; exact Nat.zero_le _
 | a :: l,ns,h=>by
  have e:(fun n=>(allV (a :: l) n).length)=fun n=>(if lowS a.1=n then a.2.length else 0) + (allV l n).length:=by
   funext n
   rw [allV_cons,List.length_append]
   split <;> rfl
  rw [e,sum_add,sumV_cons]
  have h1:=sum_hit a.2.length (lowS a.1) ns h
  have h2:=sum_allV l ns h
  omega
theorem sumV_nf (l:List At):sumV (nf l) <= sumV l:=by
 unfold sumV nf
 rw [List.map_map]
 refine Nat.le_trans (sum_le _ (fun n=>(allV l n).length) _ fun n _ => ?_) (sum_allV l _ (asc_nodup (names_asc l)))
 exact sortU_len _
structure Room (l:List At) (vs:List ByteArray):Prop where
 small:SmallA l
 vals:sumV l + vs.length <= 100000
 len:l.length <= 999
 vsmall:SmallS vs
theorem Room.few {l:List At} {vs:List ByteArray} (h:Room l vs):Few l:=⟨h.small,by have:=h.vals; omega,by have:=h.len; omega⟩
def withL (l:List At) (name:ByteArray) (vs:List ByteArray):List At:=nf (wthL l (lowS name) ++ [(name,vs)])
def limR (l:List At) (m:Nat):List At × Int:=if 32 < l.length ∨ 16 < m then ([],3) else (l,0)
structure Edit (l:List At) (vs:List ByteArray):Prop where
 small:SmallA l
 tot:sumV l <= 40000
 len:l.length <= 900
 vsmall:SmallS vs
 vlen:vs.length <= 10000
theorem Edit.few {l:List At} {vs:List ByteArray} (h:Edit l vs):Few l:=⟨h.small,by have:=h.tot; omega,by have:=h.len; omega⟩
theorem Edit.room {l:List At} {vs:List ByteArray} (h:Edit l vs):Room l vs:=⟨h.small,by have:=h.tot; have:=h.vlen; omega,by have:=h.len; omega,h.vsmall⟩
theorem small_app {a b:List ByteArray} (h:SmallS a) (k:SmallS b):SmallS (a ++ b):=fun v hv=>(List.mem_append.1 hv).elim (h v) (k v)
theorem Edit.more {l:List At} {vs:List ByteArray} (h:Edit l vs) (lw:ByteArray):Room l (vals l lw ++ vs):=
 ⟨h.small,by have h1:=h.tot; have h2:=h.vlen; have h3:=vals_len l lw; rw [List.length_append]; omega,by have:=h.len; omega,small_app (vals_small h.small lw) h.vsmall⟩
def addR (l:List At) (name:ByteArray) (vs:List ByteArray):List At × Int:=
 if nameB name=false then ([],5) else if vs.length=0 then ([],6) else if chkV vs (vals l (lowS name)) ≠ 0 then ([],chkV vs (vals l (lowS name))) else limR (withL l name (vals l (lowS name) ++ vs)) (vals l (lowS name) ++ vs).length
def repR (l:List At) (name:ByteArray) (vs:List ByteArray):List At × Int:=
 if nameB name=false then ([],5) else if chkV vs [] ≠ 0 then ([],chkV vs []) else limR (withL l name vs) vs.length
theorem strs_nil (w:World):StrsAt w none 0 0 []:=⟨rfl,Nat.le_refl _,by unfold maxLen; omega,fun h=>absurd h (Nat.lt_irrefl _)⟩
def errR (vs old:List ByteArray) (j:Nat):Int:=if memB old (partAt vs j)=false ∨ memB (vs.take j) (partAt vs j)=true then 6 else 0
def remE (vs old:List ByteArray):Int:=firstE (errR vs old) vs.length
def leftV (old vs:List ByteArray):List ByteArray:=old.filter fun v=>decide (0 < vs.length) && !memB vs v
def remR (l:List At) (name:ByteArray) (vs:List ByteArray):List At × Int:=
 if nameB name=false then ([],5) else if (vals l (lowS name)).length=0 then ([],6) else if remE vs (vals l (lowS name)) ≠ 0 then ([],6) else (withL l name (leftV (vals l (lowS name)) vs),0)
theorem left_len (old vs:List ByteArray):(leftV old vs).length <= old.length:=List.length_filter_le _ _
end Go.Proofs.YtmmdaegdkikkpaaGreatDoor
end
