/-
  Texts of the schema layer and of those beneath it, joined: SchVl, SchVal, ShelfJ, SchNrm, SchCon, SchRdL, SchRdC, SchRdT, SchBox, SchAln, SchPar, SchKl, SchFew, SchSml, SchFit, SchVld, SchLgt, SchAlv, SchLaw, SchEnt. Conditions stand at each contract.
-/
import Derived.Shelf.Small.Wraps
import Derived.Lib.SplitLaws
import Derived.Deep.DeepHandedRow
import Derived.Lay
import Derived.Shelf.Vars
import Derived.Stop.LaidErr
import Derived.Test.YtmmdaegdkikkpaaGreatDoorCards
import Derived.Test.YtmmdaegdkikkpaaGreatDoorTie
import Derived.Test.YtmmdaegdkikkpaaGreatDoorU07
import Derived.Test.YtmmdaegdkikkpaaGreatDoorU09
set_option linter.unusedVariables false
set_option linter.unusedSimpArgs false
set_option linter.unnecessarySimpa false

section
set_option maxRecDepth 100000
namespace Go.Proofs.YtmmdaegdkikkpaaGreatDoor
open Go.RowKit Go.PlainAid
def digS (l:List UInt8):Bool := !l.isEmpty && l.all digB
theorem mag_all {l:List UInt8} (h:digS l=true):Fair (Lib.parseMag l):=by
 cases l with
 | nil=>cases h
 | cons c r =>
  unfold digS at h
  rw [Bool.and_eq_true] at h
  unfold Lib.parseMag
  rw [if_neg (by simp)]
  exact parse_digits _ _ h.2
theorem digS_atoi {l:List UInt8} (h:digS (stripL l)=true):Fair (Lib.atoiAll l):=by
 cases l with
 | nil=>cases h
 | cons c r =>
  by_cases hc:c=45
  ·subst hc
   rw [strip_minus] at h
   rw [Lib.atoiAll_minus]
   exact signed_fair (mag_all h)
  ·rw [strip_plain c r hc] at h
   have hd:digB c=true:=by
    unfold digS at h
    simp only [Bool.and_eq_true,List.all_cons] at h
    exact h.2.1
   have h2:48 <= c.toNat /\ c.toNat <= 57:=by simpa [digB] using hd
   rw [Lib.atoiAll_plain c r (by omega) (by omega)]
   exact signless_fair (mag_all h)
def numS (s:ByteArray):Option Int:=if digS (stripL s.data.toList) then (match Lib.atoiAll s.data.toList with
 | .ok v=>some v
 | _=>none) else none
def trueS:ByteArray:=⟨#[116,114,117,101]⟩
def falseS:ByteArray:=⟨#[102,97,108,115,101]⟩
def truthS (s:ByteArray):Option ByteArray:=if lowS s=trueS then some ⟨#[84,82,85,69]⟩ else if lowS s=falseS then some ⟨#[70,65,76,83,69]⟩ else none
def formS (x:Int) (v:ByteArray):Option ByteArray:=
 if x=1 then some (foldS v)
 else if x=2 then some v
 else if x=3 then (numS v).map fun n=>ofL (Lib.itoa n)
 else if x=4 then (if Nam.cleanE v=0 then some (Nam.cleanV v) else none)
 else truthS v
def normS (x:Int) (v:ByteArray):Option ByteArray:=(formS x v).bind fun f=>if cleanB v=true /\ cleanB f=true then some f else none
set_option maxHeartbeats 4000000 in
theorem truth_s (s:ByteArray) (w:World) (hs:s.size <= 1000000000) :
  Calls Tryz.prog 233 #[.string s] w fun e w'=>e = .returned (.tuple #[.string ((truthS s).getD ⟨#[]⟩), .bool (truthS s).isSome]) /\ Below w.heap.size w w':=by
 have HE:=Lib.hid (show truthS s=if lowS s=trueS then some ⟨#[84,82,85,69]⟩ else if lowS s=falseS then some ⟨#[70,65,76,83,69]⟩ else none from rfl)
 obtain ⟨b1,h1⟩:∃ b,((lowS s).toList == ([116,114,117,101]:List UInt8))=b:=⟨_,rfl⟩
 obtain ⟨b2,h2⟩:∃ b,((lowS s).toList == ([102,97,108,115,101]:List UInt8))=b:=⟨_,rfl⟩
 have e1:(lowS s=trueS) ↔ b1=true:=by
  have h:=str_eq (lowS s) trueS
  rw [show trueS.toList=([116,114,117,101]:List UInt8) by rw [Lib.toList_data]; rfl,h1] at h
  rw [h]; simp
 have e2:(lowS s=falseS) ↔ b2=true:=by
  have h:=str_eq (lowS s) falseS
  rw [show falseS.toList=([102,97,108,115,101]:List UInt8) by rw [Lib.toList_data]; rfl,h2] at h
  rw [h]; simp
 have HE2:=Lib.hid (show truthS s=if b1=true then some ⟨#[84,82,85,69]⟩ else if b2=true then some ⟨#[70,65,76,83,69]⟩ else none by rw [HE.out]; simp only [e1,e2])
 clear e1 e2 HE
 go_enter Tryz.func233,Tryz.ntmps233
 go_wp2_with fail
 refine (lower_s s _ hs).mono ?_
 rintro e w1 ⟨rfl,hb⟩
 have HB:=Lib.hid hb; clear hb
 cases b1
 ·cases b2
  ·have HE3:=Lib.hid (show truthS s=none from HE2.out.trans (by simp))
   clear HE2
   go_wp2_with fail
   go_ret2
   exact ⟨by rw [HE3.out]; rfl,HB.out⟩
  ·have HE3:=Lib.hid (show truthS s=some ⟨#[70,65,76,83,69]⟩ from HE2.out.trans (by simp))
   clear HE2
   go_wp2_with fail
   go_ret2
   exact ⟨by rw [HE3.out]; rfl,HB.out⟩
 ·have HE3:=Lib.hid (show truthS s=some ⟨#[84,82,85,69]⟩ from HE2.out.trans (by simp))
  clear HE2
  go_wp2_with fail
  go_ret2
  exact ⟨by rw [HE3.out]; rfl,HB.out⟩
theorem digS_all {s:ByteArray} (h:∀ j,j < s.size -> digB (chr s j)=true):digS s.data.toList = !s.toList.isEmpty:=by
 unfold digS
 rw [Lib.toList_data]
 have:s.data.toList.all digB=true:=by
  rw [List.all_eq_true]
  intro c hc
  obtain ⟨j,hj,rfl⟩:=List.mem_iff_getElem.1 hc
  have h2:=h j (by rw [Lib.size_eq]; exact hj)
  unfold chr at h2
  rwa [List.getD_eq_getElem?_getD,List.getElem?_eq_getElem hj] at h2
 rw [this,Bool.and_true]
theorem digS_not {s:ByteArray} {k:Nat} (hk:k < s.size) (h:digB (chr s k)=false):digS s.data.toList=false:=by
 unfold digS
 have:s.data.toList.all digB=false:=by
  rw [Lib.size_eq] at hk
  cases e:s.data.toList.all digB with
  | false=>rfl
  | true =>
   have h2:=List.all_eq_true.1 e _ (List.getElem_mem hk)
   unfold chr at h
   rw [List.getD_eq_getElem?_getD,List.getElem?_eq_getElem hk] at h
   rw [show (some s.data.toList[k]).getD 0=s.data.toList[k] from rfl] at h
   rw [h] at h2; cases h2
 rw [this,Bool.and_false]
theorem digits_s (s:ByteArray) (w:World) (hs:s.size <= 1000000000) :
  Calls Tryz.prog 268 #[.string s] w fun e w'=>e = .returned (.bool (digS s.data.toList)) /\ w=w':=by
 go_enter Tryz.func268,Tryz.ntmps268
 go_wp2
 go_loopw [3,6] (fun s3 i wr=>∃ k:Nat,k <= s.size /\ i = .int .i64 k /\ Hid (∀ j,j < k -> digB (chr s j)=true) /\ w=wr) (fun _ i _=>s.size - (intOf i).toNat)
 case atStart=>exact ⟨0,Nat.zero_le _,rfl,Lib.hid (fun j hj=>absurd hj (Nat.not_lt_zero _)),rfl⟩
 case round =>
  obtain ⟨k,hk,rfl,HA,rfl⟩:=hrel
  by_cases hlt:k < s.size
  ·have d1:(k:Int) < (s.size:Int):=by omega
   obtain ⟨v,hv⟩:∃ v,(s[k]'hlt).toNat=v:=⟨_,rfl⟩
   have hbc:(chr s k).toNat=v:=by
    have:=(byte_chr s k hlt).trans (bt_chr s k)
    omega
   cases hd:digB (chr s k)
   ·have HE:=Lib.hid (digS_not hlt hd)
    have hor:v < 48 ∨ (¬ v < 48 /\ 57 < v):=by
     simp only [digB,Bool.and_eq_false_iff,decide_eq_false_iff_not,hbc] at hd
     omega
    clear hbc hd
    rcases hor with c1 | ⟨c1,c2⟩
    ·have c1':(v:Int) < 48:=by omega
     go_wp2_with fail
     go_ret
     exact ⟨by rw [HE.out]; rfl,rfl⟩
    ·have c1':¬ (v:Int) < 48:=by omega
     have c2':(57:Int) < (v:Int):=by omega
     go_wp2_with fail
     go_ret
     exact ⟨by rw [HE.out]; rfl,rfl⟩
   ·have c1:¬ (v:Int) < 48:=by
     simp only [digB,Bool.and_eq_true,decide_eq_true_eq,hbc] at hd
     omega
    have c2:¬ (57:Int) < (v:Int):=by
     simp only [digB,Bool.and_eq_true,decide_eq_true_eq,hbc] at hd
     omega
    have HD:=Lib.hid hd
    clear hbc hd
    go_wp2_with fail
    go_roundw
    case rel =>
     refine ⟨k + 1,by omega,by go_num,Lib.hid fun j hj => ?_,trivial⟩
     rcases Nat.lt_or_ge j k with h | h
     ·exact HA.out j h
     ·obtain rfl:j=k:=by omega
      exact HD.out
    case measure=>simp [intOf]; omega
  ·obtain rfl:k=s.size:=by omega
   have d1:¬ (s.size:Int) < (s.size:Int):=by omega
   have HE:=Lib.hid (digS_all HA.out)
   go_wp2_with fail
   go_ret
   exact ⟨by rw [HE.out]; rfl,rfl⟩
theorem trim_small (s:ByteArray):(⟨(stripL s.data.toList).toArray⟩:ByteArray).size <= s.size:=by
 rw [Lib.size_mk,Lib.size_eq]
 unfold stripL Lib.trimPrefix
 split
 ·simp
 ·exact Nat.le_refl _
theorem sat_bounds (l:List UInt8) : -9223372036854775808 <= Lib.atoiSat l /\ Lib.atoiSat l <= 9223372036854775807:=by
 unfold Lib.atoiSat
 split
 ·exact ⟨Int.le_refl _,by decide⟩
 ·exact ⟨by decide,Int.le_refl _⟩
set_option maxHeartbeats 4000000 in
theorem number_s (s:ByteArray) (w:World) (hs:s.size <= 1100000) (ho:IntOk w) :
  Calls Tryz.prog 231 #[.string s] w fun e w'=>∃ n:Int, -9223372036854775808 <= n /\ n <= 9223372036854775807 /\ e = .returned (.tuple #[.int .i64 n, .bool (numS s).isSome]) /\ (∀ m,numS s=some m -> n=m) /\ Below w.heap.size w w':=by
 have HO:=Lib.hid ho; clear ho
 have HT:=Lib.hid (fun W=>Tryz.strings_TrimPrefix s ⟨#[45]⟩ W)
 have HD:=Lib.hid (fun W=>digits_s (⟨(stripL s.data.toList).toArray⟩) W (Nat.le_trans (trim_small s) (by omega)))
 obtain ⟨dg,hdg⟩:∃ b,digS (stripL s.data.toList)=b:=⟨_,rfl⟩
 have HDG:=Lib.hid hdg; clear hdg
 go_enter Tryz.func231,Tryz.ntmps231
 go_wp2_with fail
 refine (HT.out _).mono ?_
 rintro e w1 ⟨rfl,rfl⟩
 go_wp2_with fail
 refine (HD.out _).mono ?_
 rintro e w1 ⟨rfl,rfl⟩
 dsimp only
 rw [HDG.out]
 cases dg
 ·have HE:=Lib.hid (show numS s=none by unfold numS; rw [HDG.out]; rfl)
  go_wp2_with fail
  go_ret2
  exact ⟨0,by decide,by decide,by rw [HE.out]; rfl,(fun m hm=>by rw [HE.out] at hm; cases hm),Below.refl _ _⟩
 ·rcases digS_atoi HDG.out with ⟨v,ha⟩ | ha
  ·have HE:=Lib.hid (show numS s=some v by unfold numS; rw [HDG.out,ha]; rfl)
   have HC:=Lib.hid (fun W=>atoi_ok s v W (by omega) ha)
   have hv:=Lib.atoiAll_bounds ha
   clear ha
   go_wp2_with fail
   refine (HC.out _).mono ?_
   rintro e w2 ⟨rfl,hb⟩
   have HB:=Lib.hid hb; clear hb
   go_wp2_with fail
   go_quiet (fail)
   go_wp2_with fail
   go_ret2
   exact ⟨v,hv.1,hv.2,by rw [HE.out]; rfl,(fun m hm=>by rw [HE.out] at hm; exact Option.some.inj hm),HB.out.os,HB.out.tape,HB.out.output,HB.out.size,HB.out.block⟩
  ·have HE:=Lib.hid (show numS s=none by unfold numS; rw [HDG.out,ha]; rfl)
   have HA:=Lib.hid ha
   have hv:=sat_bounds s.data.toList
   obtain ⟨_,tp,p,hvar⟩:=HO.out
   have HC:=Lib.hid (Tryz.strconv_Atoi_range_var s (by omega) ha tp p _ hvar)
   clear ha hvar
   go_wp2_with fail
   refine HC.out.mono ?_
   rintro e w2 ⟨N,rfl,_,_,hb⟩
   have HB:=Lib.hid hb; clear hb
   go_wp2_with fail
   go_quiet (fail)
   go_wp2_with fail
   go_ret2
   exact ⟨_,hv.1,hv.2,by rw [HE.out]; rfl,(fun m hm=>by rw [HE.out] at hm; cases hm),HB.out.os,HB.out.tape,HB.out.output,HB.out.size,HB.out.block⟩
theorem normalForm_s (x:Int) (s:ByteArray) (w:World) (hs:s.size <= 1100000) (ho:IntOk w) :
  Calls Tryz.prog 166 #[.int .i64 x, .string s] w fun e w'=>∃ f:ByteArray,e = .returned (.tuple #[.string f, .bool (formS x s).isSome]) /\ (∀ g,formS x s=some g -> f=g) /\ Below w.heap.size w w':=by
 have HO:=Lib.hid ho; clear ho
 by_cases h1:x=1
 ·subst h1
  have HE:=Lib.hid (show formS 1 s=some (foldS s) from rfl)
  go_enter Tryz.func166,Tryz.ntmps166
  go_wp2_with fail
  refine (fold_s s _ (by omega)).mono ?_
  rintro e w1 ⟨rfl,hb⟩
  have HB:=Lib.hid hb; clear hb
  go_wp2_with fail
  go_ret2
  exact ⟨_,by rw [HE.out]; rfl,(fun g hg=>by rw [HE.out] at hg; exact Option.some.inj hg),HB.out⟩
 ·by_cases h2:x=2
  ·subst h2
   have HE:=Lib.hid (show formS 2 s=some s from rfl)
   go_enter Tryz.func166,Tryz.ntmps166
   go_wp2_with fail
   go_ret2
   exact ⟨_,by rw [HE.out]; rfl,(fun g hg=>by rw [HE.out] at hg; exact Option.some.inj hg),Below.refl _ _⟩
  ·by_cases h3:x=3
   ·subst h3
    have HE:=Lib.hid (show formS 3 s=(numS s).map fun n=>ofL (Lib.itoa n) from rfl)
    go_enter Tryz.func166,Tryz.ntmps166
    go_wp2_with fail
    refine (number_s s _ hs HO.out).mono ?_
    rintro e w1 ⟨n,n1,n2,rfl,hn,hb⟩
    have HO1:=Lib.hid (HO.out.below hb)
    have HB:=Lib.hid hb; clear hb
    go_wp2_with fail
    refine (int_s n _ n1 n2 HO1.out).mono ?_
    rintro e w2 ⟨rfl,hb⟩
    have HB2:=Lib.hid (HB.out.trans (hb.mono HB.out.size)); clear hb
    go_wp2_with fail
    go_ret2
    refine ⟨_,by rw [HE.out,Option.isSome_map]; rfl,(fun g hg => ?_),HB2.out⟩
    rw [HE.out] at hg
    cases e:numS s with
    | none=>rw [e] at hg; cases hg
    | some m=>rw [e] at hg; rw [hn m e]; exact Option.some.inj hg
   ·by_cases h4:x=4
    ·subst h4
     have HE:=Lib.hid (show formS 4 s=if Nam.cleanE s=0 then some (Nam.cleanV s) else none from rfl)
     go_enter Tryz.func166,Tryz.ntmps166
     go_wp2_with fail
     refine (Nam.clean0_s s _ hs).mono ?_
     rintro e w1 ⟨rfl,hb⟩
     have HB:=Lib.hid hb; clear hb
     by_cases hc:Nam.cleanE s=0
     ·have HE2:=Lib.hid (show formS 4 s=some (Nam.cleanV s) from HE.out.trans (if_pos hc))
      rw [hc]
      go_wp2_with fail
      go_ret2
      exact ⟨_,by rw [HE2.out]; rfl,(fun g hg=>by rw [HE2.out] at hg; exact Option.some.inj hg),HB.out⟩
     ·have HE2:=Lib.hid (show formS 4 s=none from HE.out.trans (if_neg hc))
      obtain ⟨ec,hec⟩:∃ e,Nam.cleanE s=e:=⟨_,rfl⟩
      rw [hec] at hc ⊢
      clear hec
      have hq:(ec == 0)=false:=beq_false_of_ne hc
      go_wp2_with fail
      go_ret2
      exact ⟨_,by rw [HE2.out]; rfl,(fun g hg=>by rw [HE2.out] at hg; cases hg),HB.out⟩
    ·have HE:=Lib.hid (show formS x s=truthS s by unfold formS; rw [if_neg h1,if_neg h2,if_neg h3,if_neg h4])
     go_enter Tryz.func166,Tryz.ntmps166
     go_wp2_with fail
     refine (truth_s s _ (by omega)).mono ?_
     rintro e w1 ⟨rfl,hb⟩
     have HB:=Lib.hid hb; clear hb
     go_wp2_with fail
     go_ret2
     exact ⟨_,by rw [HE.out]; rfl,(fun g hg=>by rw [HE.out] at hg; rw [hg]; rfl),HB.out⟩
def normE (x:Int) (s:ByteArray):Int:=if (normS x s).isSome then 0 else 8
theorem normal_s (x:Int) (s:ByteArray) (w:World) (hs:s.size <= 1100000) (ho:IntOk w) (hf:∀ f,formS x s=some f -> f.size <= 1000000000) :
  Calls Tryz.prog 107 #[.int .i64 x, .string s] w fun e w'=>e = .returned (.tuple #[.string ((normS x s).getD ⟨#[]⟩), .int .i64 (normE x s)]) /\ Below w.heap.size w w':=by
 have HF:=Lib.hid hf; clear hf
 have HE:=Lib.hid (show normS x s=(formS x s).bind fun f=>if cleanB s=true /\ cleanB f=true then some f else none from rfl)
 go_enter Tryz.func107,Tryz.ntmps107
 go_wp2_with fail
 refine (normalForm_s x s _ hs ho).mono ?_
 rintro e w1 ⟨f,rfl,hg,hb⟩
 have HB:=Lib.hid hb; clear hb
 cases hq:formS x s with
 | none =>
  have HE2:=Lib.hid (show normS x s=none from HE.out.trans (by rw [hq]; rfl))
  clear hg
  go_wp2_with fail
  go_ret2
  exact ⟨by unfold normE; rw [HE2.out]; rfl,HB.out⟩
 | some g =>
  obtain rfl:=hg g hq
  have hfs:=HF.out f hq
  obtain ⟨c1,hc1⟩:∃ b,cleanB s=b:=⟨_,rfl⟩
  obtain ⟨c2,hc2⟩:∃ b,cleanB f=b:=⟨_,rfl⟩
  have HE2:=Lib.hid (show normS x s=if c1=true /\ c2=true then some f else none from HE.out.trans (by rw [hq]; show (if cleanB s=true /\ cleanB f=true then some f else none)=_; rw [hc1,hc2]))
  have HC:=Lib.hid (And.intro hc1 hc2)
  clear hc1 hc2 hg
  go_wp2_with fail
  refine (clean_s s _ (by omega)).mono ?_
  rintro e w2 ⟨rfl,rfl⟩
  rw [HC.out.1]
  cases c1
  ·have HE3:=Lib.hid (show normS x s=none from HE2.out.trans (by simp))
   go_wp2_with fail
   go_ret2
   exact ⟨by unfold normE; rw [HE3.out]; rfl,HB.out⟩
  ·go_wp2_with fail
   refine (clean_s f _ hfs).mono ?_
   rintro e w2 ⟨rfl,rfl⟩
   rw [HC.out.2]
   cases c2
   ·have HE3:=Lib.hid (show normS x s=none from HE2.out.trans (by simp))
    go_wp2_with fail
    go_ret2
    exact ⟨by unfold normE; rw [HE3.out]; rfl,HB.out⟩
   ·have HE3:=Lib.hid (show normS x s=some f from HE2.out.trans (by simp))
    go_wp2_with fail
    go_ret2
    exact ⟨by unfold normE; rw [HE3.out]; rfl,HB.out⟩
end Go.Proofs.YtmmdaegdkikkpaaGreatDoor
end

section
set_option maxRecDepth 100000
namespace Go.Proofs.YtmmdaegdkikkpaaGreatDoor
open Go.RowKit Go.PlainAid
namespace Nam
theorem fmt_size {l:List Pr} (h:fmtE l=0):(fmtV l).size <= 1100000:=by
 obtain ⟨h1,h2⟩:=fmtE_ok h
 have hb:=barC_len 600 (l.map fmtC) (fun p hq=>by
  obtain ⟨q,hq1,rfl⟩:=List.mem_map.1 hq
  have:=prE_small (h1 q hq1)
  have:=fmtC_len q
  omega)
 rw [List.length_map] at hb
 have:l.length * (600 + 1) <= 8 * 601:=Nat.mul_le_mul_right _ h2
 unfold fmtV
 rw [if_pos h,ofB_size]; omega
theorem clean_size (s:ByteArray):(cleanV s).size <= 1100000:=by
 unfold cleanV
 by_cases h:parseE s=0
 ·rw [if_pos h]; exact fmt_size (fmt_parse_ok h)
 ·rw [if_neg h]; exact Nat.zero_le _
end Nam
theorem formS_small {x:Int} {s f:ByteArray} (hs:s.size <= 1100000) (h:formS x s=some f):f.size <= 1000000000:=by
 unfold formS at h
 split at h
 ·obtain rfl:=Option.some.inj h; have:=foldS_size s; omega
 ·split at h
  ·obtain rfl:=Option.some.inj h; omega
  ·split at h
   ·cases hn:numS s with
    | none=>rw [hn] at h; cases h
    | some n =>
     rw [hn] at h
     obtain rfl:=Option.some.inj h
     have hb : -9223372036854775808 <= n /\ n <= 9223372036854775807:=by
      unfold numS at hn
      split at hn
      ·split at hn
       ·rename_i v hv
        obtain rfl:=Option.some.inj hn
        exact Lib.atoiAll_bounds hv
       ·cases hn
      ·cases hn
     have:=Lib.itoa_length_le n hb.1 hb.2
     have e:(ofL (Lib.itoa n)).size=(Lib.itoa n).length:=by unfold ofL; exact Lib.size_mk _
     show (ofL (Lib.itoa n)).size <= 1000000000
     omega
   ·split at h
    ·split at h
     ·obtain rfl:=Option.some.inj h; have:=Nam.clean_size s; omega
     ·cases h
    ·unfold truthS at h
     split at h
     ·obtain rfl:=Option.some.inj h; decide
     ·split at h
      ·obtain rfl:=Option.some.inj h; decide
      ·cases h
def nrmE (T:List Ty) (n v:ByteArray):Int:=match tyOf T n with
 | none=>6
 | some t=>normE t.syn v
def nrmV (T:List Ty) (n v:ByteArray):ByteArray:=match tyOf T n with
 | none=>⟨#[]⟩
 | some t=>(normS t.syn v).getD ⟨#[]⟩
set_option maxHeartbeats 4000000 in
theorem normalF_s (v:Value) (ts:List Ty) (cs:List Cl) (n s:ByteArray) (w:World) (h:SchV w v ts cs) (hn:n.size <= 1000000000) (hs:s.size <= 1100000) (ho:IntOk w) :
  Calls Tryz.prog 47 #[v, .string n, .string s] w fun e w'=>e = .returned (.tuple #[.string (nrmV (soundT ts cs) n s), .int .i64 (nrmE (soundT ts cs) n s)]) /\ Below w.heap.size w w':=by
 have h':=h
 obtain ⟨ao,k,cap,bo,m,dap,rfl,_⟩:=h'
 have hb0:Below w.heap.size w (w.alloc (.cells #[.slice ao k cap, .slice bo m dap] 25)):=(Below.refl _ _).alloc (Nat.le_refl _) _
 have HB0:=Lib.hid hb0
 have HC:=Lib.hid (typeF_s _ ts cs n _ (h.below hb0) hn)
 have HO:=Lib.hid (ho.below hb0)
 clear h hb0 ho
 go_enter Tryz.func47,Tryz.ntmps47
 go_wp2_with fail
 refine HC.out.mono ?_
 rintro e w1 ⟨rfl,hb⟩
 have hsz1:w.heap.size < w1.heap.size:=by have:=hb.size; simp at this; omega
 have HB1:=Lib.hid (HB0.out.trans (hb.mono (by simp)))
 have HO1:=Lib.hid (HO.out.below hb)
 clear hb HC HB0 HO
 unfold tyV
 cases ht:tyOf (soundT ts cs) n with
 | none =>
  have HE:=Lib.hid (show nrmV (soundT ts cs) n s=⟨#[]⟩ /\ nrmE (soundT ts cs) n s=6 by unfold nrmV nrmE; rw [ht]; exact ⟨rfl,rfl⟩)
  clear ht
  dsimp only [Option.getD,Option.isSome,zeroTy]
  go_wp2_with fail
  go_ret2
  exact ⟨by rw [HE.out.1,HE.out.2]; rfl,HB1.out.alloc (by omega) _⟩
 | some t =>
  have HE:=Lib.hid (show nrmV (soundT ts cs) n s=(normS t.syn s).getD ⟨#[]⟩ /\ nrmE (soundT ts cs) n s=normE t.syn s by unfold nrmV nrmE; rw [ht]; exact ⟨rfl,rfl⟩)
  clear ht
  dsimp only [Option.getD,Option.isSome]
  have hal:=(Below.refl w1.heap.size w1).alloc (Nat.le_refl _) (.cells #[.string t.name, .int .i64 t.syn, .bool t.single] 62)
  have HC2:=Lib.hid (normal_s t.syn s _ hs (HO1.out.below hal) (fun f hf=>formS_small hs hf))
  have HAL:=Lib.hid (HB1.out.trans (hal.mono (Nat.le_of_lt hsz1)))
  clear hal
  go_wp2_with fail
  refine HC2.out.mono ?_
  rintro e w2 ⟨rfl,hb⟩
  have HB2:=Lib.hid (HAL.out.trans (hb.mono HAL.out.size))
  clear hb
  go_wp2_with fail
  go_ret2
  exact ⟨by rw [HE.out.1,HE.out.2]; rfl,HB2.out⟩
end Go.Proofs.YtmmdaegdkikkpaaGreatDoor
end

section
set_option maxRecDepth 100000
namespace Go.Proofs.YtmmdaegdkikkpaaGreatDoor
open Go.RowKit Go.PlainAid
theorem all_take {f:ByteArray -> Bool} {ns:List ByteArray} {k:Nat} (h:(ns.take k).all f=true) (hk:k < ns.length) (h1:f (partAt ns k)=true):(ns.take (k + 1)).all f=true:=by
 rw [take_snoc ns k hk,List.all_append,h]
 simpa using h1
theorem all_false {f:ByteArray -> Bool} {ns:List ByteArray} {k:Nat} (hk:k < ns.length) (h1:f (partAt ns k)=false):ns.all f=false:=by
 cases e:ns.all f
 ·rfl
 ·have:=(List.all_eq_true.1 e) _ (part_mem ns k hk)
  rw [h1] at this; cases this
theorem contains_s (b m:Nat) (D:DataW Unit) (ks:List ByteArray) (ao:Option Addr) (n cap:Nat) (ns:List ByteArray) (w:World) (hG:SetM w b m D ks) (hs:StrsAt w ao n cap ns) (hz:∀ s ∈ ns,s.size <= 1000000000) :
  Calls Tryz.prog 178 #[.map (some b), .slice ao n cap] w fun e w'=>e = .returned (.bool (ns.all (memB ks))) /\ w=w':=by
 obtain ⟨h1,h2,h3,h4⟩:=hs
 subst h1
 unfold maxLen at h3
 have H4:=Lib.hid h4; clear h4
 have HZ:=Lib.hid hz; clear hz
 have HG:=Lib.hid hG; clear hG
 go_enter Tryz.func178,Tryz.ntmps178
 go_wp2
 go_loopw [6,9] (fun s6 i wr=>∃ k:Nat,k <= ns.length /\ i = .int .i64 k /\ Hid ((ns.take k).all (memB ks)=true) /\ w=wr) (fun _ i _=>ns.length - (intOf i).toNat)
 case atStart=>exact ⟨0,Nat.zero_le _,rfl,Lib.hid rfl,rfl⟩
 case round =>
  obtain ⟨k,hk,rfl,HA,rfl⟩:=hrel
  by_cases hlt:k < ns.length
  ·obtain ⟨g,off,rfl,hs⟩:=H4.out (by omega)
   have hcell:=hs.2 k hlt
   clear hs
   obtain ⟨p,hp⟩:∃ x,partAt ns k=x:=⟨_,rfl⟩
   have hps:p.size <= 1000000000:=by rw [<- hp]; exact HZ.out _ (part_mem ns k hlt)
   have hlook:=HG.out.look p (by unfold maxLen; omega)
   have d1:(k:Int) < (ns.length:Int):=by omega
   rw [hp] at hcell
   cases ht:memB ks p
   ·have HE:=Lib.hid (show ns.all (memB ks)=false from all_false hlt (by rw [hp]; exact ht))
    rw [ht] at hlook
    clear ht hp
    go_wp2_with fail
    go_ret
    exact ⟨by rw [HE.out]; rfl,rfl⟩
   ·have HA2:=Lib.hid (all_take HA.out hlt (by rw [hp]; exact ht))
    rw [ht] at hlook
    clear ht hp
    go_wp2_with fail
    go_roundw
    case rel=>exact ⟨k + 1,by omega,by go_num,HA2,trivial⟩
    case measure=>simp [intOf]; omega
  ·have hk2:k=ns.length:=by omega
   have HE:=Lib.hid (show ns.all (memB ks)=true by have:=HA.out; rw [hk2,List.take_length] at this; exact this)
   have d1:¬ (k:Int) < (ns.length:Int):=by omega
   go_wp2_with fail
   go_ret
   exact ⟨by rw [HE.out]; rfl,rfl⟩
def valE (x:Int) (vs:List ByteArray):Int:=firstE (fun j=>normE x (partAt vs j)) vs.length
def chkAt (T:List Ty) (a:At):Int:=match tyOf T a.1 with
 | none=>6
 | some t=>if valE t.syn a.2 ≠ 0 then valE t.syn a.2 else if t.single=true /\ 1 < a.2.length then 9 else 0
set_option maxHeartbeats 8000000 in
theorem checkAttr_s (mt mc:Option Nat) (ts:List Ty) (a:At) (vo:Option Addr) (vn vc:Nat) (w:World) (h:TMap w mt ts) (hv:StrsAt w vo vn vc a.2) (hn:a.1.size <= 1100000) (hz:SmallS a.2) (ho:IntOk w) :
  Calls Tryz.prog 110 #[.agg #[.map mt, .map mc], .agg #[.string a.1, .slice vo vn vc]] w fun e w'=>e = .returned (.int .i64 (chkAt ts a)) /\ Below w.heap.size w w':=by
 obtain ⟨nm,vs⟩:=a
 simp only at hv hn hz ⊢
 have hb0:Below w.heap.size w ((w.alloc (.cells #[.map mt, .map mc] 130)).alloc (.cells #[.string nm, .slice vo vn vc] 58)):=((Below.refl _ _).alloc (Nat.le_refl _) _).alloc (by simp) _
 have HB0:=Lib.hid hb0
 have HC:=Lib.hid (typeOf_s mt mc ts nm _ (h.below hb0) (by omega))
 have HO:=Lib.hid (ho.below hb0)
 have HV:=Lib.hid hv
 have HZ:=Lib.hid hz
 have hvl:=hv.1
 have hvm:=hv.2.2.1
 unfold maxLen at hvm
 have hvc:=hv.2.1
 clear h hb0 ho hv hz
 go_enter Tryz.func110,Tryz.ntmps110
 go_wp2_with fail
 refine HC.out.mono ?_
 rintro e w1 ⟨rfl,hb⟩
 have hsz1:w.heap.size + 1 < w1.heap.size:=by have:=hb.size; simp at this; omega
 have q0:w1.cell? ⟨w.heap.size + 1,0,none⟩=some (.string nm):=cell_later hb (by go_simp)
 have q1:w1.cell? ⟨w.heap.size + 1,1,none⟩=some (.slice vo vn vc):=cell_later hb (by go_simp)
 have HB1:=Lib.hid (HB0.out.trans (hb.mono (by simp; omega)))
 have HO1:=Lib.hid (HO.out.below hb)
 clear hb HC HB0 HO
 unfold tyV
 cases ht:tyOf ts nm with
 | none =>
  have HE:=Lib.hid (show chkAt ts (nm,vs)=6 by unfold chkAt; simp only; rw [ht])
  clear ht
  dsimp only [Option.getD,Option.isSome,zeroTy]
  go_wp2_with fail
  go_ret
  exact ⟨by rw [HE.out]; rfl,HB1.out.alloc (by omega) _⟩
 | some t =>
  have HE:=Lib.hid (show chkAt ts (nm,vs)=if valE t.syn vs ≠ 0 then valE t.syn vs else if t.single=true /\ 1 < vs.length then 9 else 0 by unfold chkAt; simp only; rw [ht])
  clear ht
  dsimp only [Option.getD,Option.isSome]
  obtain ⟨tn,syn,sg⟩:=t
  dsimp only at HE ⊢
  have hal:=(Below.refl w1.heap.size w1).alloc (Nat.le_refl _) (.cells #[.string tn, .int .i64 syn, .bool sg] 62)
  have HI:=Lib.hid (show (w1.alloc (.cells #[.string tn, .int .i64 syn, .bool sg] 62)).cell? ⟨w1.heap.size,1,none⟩=some (.int .i64 syn) /\ (w1.alloc (.cells #[.string tn, .int .i64 syn, .bool sg] 62)).cell? ⟨w1.heap.size,2,none⟩=some (.bool sg) /\ (w1.alloc (.cells #[.string tn, .int .i64 syn, .bool sg] 62)).cell? ⟨w.heap.size + 1,1,none⟩=some (.slice vo vn vc) from ⟨by go_simp,by go_simp,cell_later hal q1⟩)
  have HB2:=Lib.hid (HB1.out.trans (hal.mono (by omega)))
  have HO2:=Lib.hid (HO1.out.below hal)
  clear hal
  go_wp2_with fail
  go_loopw [8,9,10,23] (fun s8 s9 s10 i wr=>∃ k:Nat,k <= vn /\ i = .int .i64 k /\ Hid (∀ q,q < k -> normE syn (partAt vs q)=0) /\ Hid (wr.cell? ⟨w1.heap.size,1,none⟩=some (.int .i64 syn) /\ wr.cell? ⟨w1.heap.size,2,none⟩=some (.bool sg) /\ wr.cell? ⟨w.heap.size + 1,1,none⟩=some (.slice vo vn vc)) /\ Hid (IntOk wr) /\ Hid (Below w.heap.size w wr)) (fun _ _ _ i _=>vn - (intOf i).toNat)
  case atStart=>exact ⟨0,Nat.zero_le _,rfl,Lib.hid (fun q hq=>absurd hq (Nat.not_lt_zero _)),HI,HO2,HB2⟩
  case round =>
   clear HI HO2 HB2
   obtain ⟨k,hk,rfl,HA,HI,HO,HB⟩:=hrel
   obtain ⟨i0,i1,i2⟩:=HI.out
   by_cases hlt:k < vn
   ·obtain ⟨b,off,rfl,hs⟩:=HV.out.2.2.2 (by omega)
    have hcell:=(hs.below HB.out hs.1).2 k (by omega)
    clear hs
    have hps:=HZ.out _ (part_mem vs k (by omega))
    obtain ⟨p,hp⟩:∃ x,partAt vs k=x:=⟨_,rfl⟩
    rw [hp] at hcell hps
    have HC:=Lib.hid (normal_s syn p wr hps HO.out (fun f hf=>formS_small hps hf))
    obtain ⟨fv,hfv⟩:∃ f,(normS syn p).getD ⟨#[]⟩=f:=⟨_,rfl⟩
    obtain ⟨ev,hev⟩:∃ e,normE syn p=e:=⟨_,rfl⟩
    rw [hfv,hev] at HC
    have d1:(k:Int) < (vn:Int):=by omega
    have HP:=Lib.hid (And.intro hp hev)
    clear hp hfv hev
    go_wp2_with fail
    refine HC.out.mono ?_
    rintro e w2 ⟨rfl,hb⟩
    have HI2:=Lib.hid (And.intro (cell_later hb i0) (And.intro (cell_later hb i1) (cell_later hb i2)))
    have HO3:=Lib.hid (HO.out.below hb)
    have HB3:=Lib.hid (HB.out.trans (hb.mono HB.out.size))
    clear hb i0 i1 i2 HC
    by_cases he:ev=0
    ·subst he
     go_wp2_with fail
     go_roundw
     case rel =>
      refine ⟨k + 1,by omega,by go_num,Lib.hid fun q hq => ?_,HI2,HO3,HB3⟩
      rcases Nat.lt_or_ge q k with h | h
      ·exact HA.out q h
      ·obtain rfl:q=k:=by omega
       rw [HP.out.1]; exact HP.out.2
     case measure=>simp [intOf]; omega
    ·have hve:valE syn vs=ev:=by
      unfold valE
      rw [firstE_hit (k:=k) HA.out (by rw [HP.out.1,HP.out.2]; exact he) (by omega),HP.out.1,HP.out.2]
     have HE2:=Lib.hid (show chkAt ts (nm,vs)=ev from HE.out.trans (by rw [hve,if_pos he]))
     clear hve
     go_wp2_with fail
     go_ret
     exact ⟨by rw [HE2.out]; rfl,HB3.out⟩
   ·obtain rfl:k=vn:=by omega
    have d1:¬ (k:Int) < (k:Int):=by omega
    have hve:valE syn vs=0:=firstE_zero (fun j hj=>HA.out j (by omega))
    have HE2:=Lib.hid (show chkAt ts (nm,vs)=if sg=true /\ 1 < k then 9 else 0 from HE.out.trans (by rw [hve,hvl]; simp))
    clear hve
    cases sg
    ·have HE3:=Lib.hid (show chkAt ts (nm,vs)=0 from HE2.out.trans (by simp))
     go_wp2_with fail
     go_ret
     exact ⟨by rw [HE3.out]; rfl,HB.out⟩
    ·by_cases h1:1 < k
     ·have d2:(1:Int) < (k:Int):=by omega
      have HE3:=Lib.hid (show chkAt ts (nm,vs)=9 from HE2.out.trans (by simp [h1]))
      go_wp2_with fail
      go_ret
      exact ⟨by rw [HE3.out]; rfl,HB.out⟩
     ·have d2:¬ (1:Int) < (k:Int):=by omega
      have HE3:=Lib.hid (show chkAt ts (nm,vs)=0 from HE2.out.trans (by simp [h1]))
      go_wp2_with fail
      go_ret
      exact ⟨by rw [HE3.out]; rfl,HB.out⟩
def FarV (b:Nat) (v vt vc:Value):Prop := ∀ g off n c,v = .slice (some ⟨g,off,none⟩) n c -> 0 < n -> b < g /\ vt.ownBlock ≠ some g /\ vc.ownBlock ≠ some g
structure SB (W:World) (b:Nat) (ts:List Ty) (cvs:List Cv) (vt vc:Value):Prop where
 blk:W.heap[b]? = some (.cells #[vt,vc] 25)
 rowT:W.ownsRow (b + 1) 62 3 vt ts.length (ycells ts)
 rowC:W.ownsRow (b + 1) 64 4 vc cvs.length (ccells cvs)
 apart:vt.ownBlock=none ∨ vt.ownBlock ≠ vc.ownBlock
 ok:∀ d ∈ cvs,CvOk W d
 far:∀ d ∈ cvs,FarV b d.hm vt vc /\ FarV b d.hy vt vc
theorem SB.lt {W:World} {b:Nat} {ts:List Ty} {cvs:List Cv} {vt vc:Value} (h:SB W b ts cvs vt vc):b < W.heap.size:=(Array.getElem?_eq_some_iff.1 h.blk).1
theorem SB.below {W V:World} {b:Nat} {ts:List Ty} {cvs:List Cv} {vt vc:Value} (h:SB W b ts cvs vt vc) (hb:Below W.heap.size W V):SB V b ts cvs vt vc:=
 ⟨(hb.block _ h.lt).trans h.blk,own_below h.rowT hb,own_below h.rowC hb,h.apart,fun d hd=>(h.ok d hd).below hb,h.far⟩
theorem Hdr.keepP {w w':World} {v:Value} {l:List ByteArray} (h:Hdr w v l) (hs:w.heap.size <= w'.heap.size) (hk:∀ g off n c,v = .slice (some ⟨g,off,none⟩) n c -> 0 < n -> g < w.heap.size -> w'.heap[g]? = w.heap[g]?):Hdr w' v l:=by
 obtain ⟨ao,n,cap,rfl,h1,h2,h3,h4⟩:=h
 refine ⟨ao,n,cap,rfl,h1,h2,h3,fun hn => ?_⟩
 obtain ⟨g,off,rfl,hi⟩:=h4 hn
 refine ⟨g,off,rfl,Nat.lt_of_lt_of_le hi.1 hs,fun j hj => ?_⟩
 rw [<- hi.2 j hj]
 exact World.cell?_of_block (a:=⟨g,off + j,none⟩) (hk g off n cap rfl hn hi.1)
theorem row_slice {w:World} {base:Nat} {e:TypeId} {size:Nat} {v:Value} {n:Nat} {xs:List Value} (h:w.ownsRow base e size v n xs):∃ ao cap,v = .slice ao n cap:=by
 rcases h.2 with ⟨rfl,rfl⟩ | ⟨g,cap,cur,rfl,_⟩
 ·exact ⟨_,_,rfl⟩
 ·exact ⟨_,_,rfl⟩
theorem FarV.fresh {W:World} {b:Nat} {ts:List Ty} {cvs:List Cv} {vt vc:Value} (h:SB W b ts cvs vt vc) {ao:Option Addr} {n c:Nat} (hf:FreshA W.heap.size ao):FarV b (.slice ao n c) vt vc:=fun g off n' c' e hn=>by
 simp only [Value.slice.injEq] at e
 obtain ⟨rfl,_,_⟩:=e
 have hg:=hf g off rfl
 refine ⟨by have:=h.lt; omega,fun e=>by have:=(h.rowT.lt g e).2; omega,fun e=>by have:=(h.rowC.lt g e).2; omega⟩
theorem SB.other {W:World} {b:Nat} {ts:List Ty} {cvs:List Cv} {vt vc:Value} (h:SB W b ts cvs vt vc) (a:Addr) (ha:a.block < b) (u:Value):SB (W.setCell a u) b ts cvs vt vc:=by
 have hsz:W.heap.size <= (W.setCell a u).heap.size:=by simp [World.setCell]
 have hk:∀ {v:Value} {l:List ByteArray},Hdr W v l -> FarV b v vt vc -> Hdr (W.setCell a u) v l:=fun hh hf=>hh.keepP hsz fun g off n c e hn hgl=>Below.heap_setCell W a u g (by have:=(hf g off n c e hn).1; omega)
 exact ⟨(Below.heap_setCell W a u b (by omega)).trans h.blk,ownsRow_setCell_below h.rowT (by omega) u,ownsRow_setCell_below h.rowC (by omega) u,h.apart,fun d hd=>⟨hk (h.ok d hd).1 (h.far d hd).1,hk (h.ok d hd).2 (h.far d hd).2⟩,h.far⟩
theorem StrsAt.tail {w:World} {b off n cap:Nat} {l:List ByteArray} (h:StrsAt w (some ⟨b,off,none⟩) n cap l) (hn:0 < n):StrsAt w (some ⟨b,off + 1,none⟩) (n - 1) (cap - 1) l.tail:=by
 cases l with
 | nil=>have:=h.1; simp at this; omega
 | cons p r=>exact h.drop
theorem cutF_s (t:ByteArray) (b:UInt8) (w:World) (ht:t.size <= 1100000) (hm:MaxOk w) :
  Calls Tryz.prog 63 #[.string t, .string ⟨#[b]⟩] w fun e w'=>e = .returned (.tuple #[.string (cutBef t ⟨#[b]⟩), .string (cutAft t ⟨#[b]⟩), .bool (cutOk t ⟨#[b]⟩)]) /\ Below w.heap.size w w':=by
 obtain ⟨m,hm⟩:=hm
 refine (Tryz.strings_Cut t ⟨#[b]⟩ m w (by omega) hm).mono fun e w' h=>⟨h.1, ?_⟩
 obtain ⟨n,rfl⟩:=h.2
 exact ⟨rfl,rfl,rfl,Nat.le_refl _,fun _ _=>rfl⟩
theorem emp_true {s:ByteArray} (h:s=⟨#[]⟩):s.toList.isEmpty=true:=by rw [h,Lib.toList_data]; rfl
theorem emp_false {s:ByteArray} (h:s ≠ ⟨#[]⟩):s.toList.isEmpty=false:=by
 rw [Lib.toList_data]
 rcases s with ⟨⟨l⟩⟩
 cases l with
 | nil=>exact absurd rfl h
 | cons=>rfl
def strN:Value -> Nat
 | .string s=>s.size
 | _=>0
theorem cl_takeAt (l:List Cl) {k j:Nat} (h:j < k):clAt (l.take k) j=clAt l j:=by
 unfold clAt; rw [List.getD_eq_getElem?_getD,List.getElem?_take_of_lt h,List.getD_eq_getElem?_getD]
theorem ty_takeAt (l:List Ty) {k j:Nat} (h:j < k):tyAt (l.take k) j=tyAt l j:=by
 unfold tyAt; rw [List.getD_eq_getElem?_getD,List.getElem?_take_of_lt h,List.getD_eq_getElem?_getD]
theorem ClsAt.cut {w:World} {ao:Option Addr} {n cap:Nat} {l:List Cl} (h:ClsAt w ao n cap l) {k:Nat} (hk:k <= n):ClsAt w ao k cap (l.take k):=by
 obtain ⟨h1,h2,h3,h4⟩:=h
 refine ⟨by rw [List.length_take]; omega,by omega,h3,fun hn => ?_⟩
 obtain ⟨b,off,e,hb,hs⟩:=h4 (by omega)
 exact ⟨b,off,e,hb,fun j hj=>by rw [cl_takeAt l hj]; exact hs j (by omega)⟩
theorem TysAt.cut {w:World} {ao:Option Addr} {n cap:Nat} {l:List Ty} (h:TysAt w ao n cap l) {k:Nat} (hk:k <= n):TysAt w ao k cap (l.take k):=by
 obtain ⟨h1,h2,h3,h4⟩:=h
 refine ⟨by rw [List.length_take]; omega,by omega,h3,fun hn => ?_⟩
 obtain ⟨b,off,e,hb,hs⟩:=h4 (by omega)
 exact ⟨b,off,e,hb,fun j hj=>by rw [ty_takeAt l hj]; exact hs j (by omega)⟩
theorem cells_new (w:World) (cs:List Value) (e:TypeId) (j:Nat) (u:Value) (h:cs[j]? = some u):(w.alloc (.cells cs.toArray e)).cell? ⟨w.heap.size,j,none⟩=some u:=by
 have hb:=heap_alloc_new w (.cells cs.toArray e)
 unfold World.cell?
 simp only [hb]
 simpa using h
theorem strs_new (w:World) (l:List ByteArray) (h:l.length <= maxLen):StrsAt (w.alloc (.cells (scells l).toArray 9)) (some ⟨w.heap.size,0,none⟩) l.length l.length l:=
 ⟨rfl,Nat.le_refl _,h,fun _=>⟨w.heap.size,0,rfl,by simp,fun j hj=>by
  rw [Nat.zero_add]
  refine cells_new w _ _ _ _ ?_
  unfold scells partAt
  rw [List.getElem?_map,List.getD_eq_getElem?_getD,List.getElem?_eq_getElem hj]; rfl⟩⟩
def Kb (W:World) (b:Nat) (o:Obj):Prop:=W.heap[b]? = some o
theorem Kb.big {W:World} {b:Nat} {o:Obj} (h:Kb W b o):b < W.heap.size:=by
 rcases Nat.lt_or_ge b W.heap.size with k | k
 ·exact k
 ·unfold Kb at h; rw [Array.getElem?_eq_none k] at h; cases h
theorem Kb.step {W V:World} {b:Nat} {o:Obj} (h:Kb W b o) (hb:Below W.heap.size W V):Kb V b o:=(hb.block b h.big).trans h
theorem kbl_new (W:World) (o:Obj):Kb (W.alloc o) W.heap.size o:=heap_alloc_new W o
theorem Kb.cell {W:World} {b i:Nat} {c:Array Value} {t:TypeId} {v:Value} (h:Kb W b (.cells c t)) (hv:c[i]? = some v):W.cell? ⟨b,i,none⟩=some v:=heap_cell h hv
theorem Kb.set {W:World} {b:Nat} {o:Obj} (h:Kb W b o) (a:Addr) (u:Value) (hn:b ≠ a.block):Kb (W.setCell a u) b o:=(heap_setCell_other W a b u hn).trans h
theorem strs_kb {W:World} {b n:Nat} {l:List ByteArray} (h:Kb W b (.cells (scells l).toArray 9)) (hn:l.length=n) (hl:n <= maxLen):StrsAt W (some ⟨b,0,none⟩) n n l:=
 ⟨hn,Nat.le_refl _,hl,fun _=>⟨b,0,rfl,h.big,fun j hj=>by
  rw [Nat.zero_add]
  refine h.cell ?_
  unfold scells partAt
  rw [List.getElem?_toArray,List.getElem?_map,List.getD_eq_getElem?_getD,List.getElem?_eq_getElem (by omega)]; rfl⟩⟩
theorem smT_dec {ts:List Ty} (h:ts.all (fun t=>decide (t.name.size <= 1000))=true):SmT ts:=fun t ht=>by
 have:=of_decide_eq_true (List.all_eq_true.1 h t ht); omega
theorem smC_dec {cs:List Cl} (h:cs.all (fun c=>decide (c.name.size <= 1000) && decide (c.super.size <= 1000) && c.must.all (fun s=>decide (s.size <= 1000)) && c.may.all (fun s=>decide (s.size <= 1000)))=true):SmC cs:=fun c hc=>by
 have h:=List.all_eq_true.1 h c hc
 simp only [Bool.and_eq_true,List.all_eq_true,decide_eq_true_eq] at h
 obtain ⟨⟨⟨h1,h2⟩,h3⟩,h4⟩:=h
 exact ⟨by omega,by omega,fun s hs=>by have:=h3 s hs; omega,fun s hs=>by have:=h4 s hs; omega⟩
theorem below_al (W:World) (o:Obj):Below W.heap.size W (W.alloc o):=(Below.refl _ _).alloc (Nat.le_refl _) o
theorem kb_at {W:World} {b:Nat} (o:Obj) (h:W.heap.size=b):Kb (W.alloc o) b o:=by subst h; exact kbl_new W o
end Go.Proofs.YtmmdaegdkikkpaaGreatDoor
end

section
set_option maxRecDepth 100000
namespace Go.Proofs.YtmmdaegdkikkpaaGreatDoor
open Go.RowKit Go.PlainAid Go.Maps
theorem strs_turned {w w':World} {b m:Nat} {D:DataW Unit} {ks:List ByteArray} {ao:Option Addr} {n cap:Nat} {l:List ByteArray} (h:StrsAt w ao n cap l) (G:SetM w b m D ks) (hg:w.grownBy w' (some b)):StrsAt w' ao n cap l:=by
 refine ⟨h.1,h.2.1,h.2.2.1,fun hn => ?_⟩
 obtain ⟨g,off,e,hl,hc⟩:=h.2.2.2 hn
 have hne:g ≠ b:=by
  rintro rfl
  obtain ⟨es,clock,hb,_⟩:=G.map
  have:=hc 0 (by rw [h.1]; exact hn)
  simp [World.cell?,hb] at this
 exact ⟨g,off,e,Nat.lt_of_lt_of_le hl hg.size,fun j hj=>(hg.cell (hc j hj) (fun e=>hne (Option.some.inj e)))⟩
def askB (cs:List Cl) (P:List ByteArray) (v:ByteArray):Bool:=(clOf cs (foldS v)).isSome && (mustS cs (foldS v)).all (memB P)
def allowL (cs:List Cl) (C:List ByteArray):List ByteArray:=[classN] ++ C.flatMap fun v=>mayS cs (foldS v)
def fitsB (cs:List Cl) (l:List At):Bool:=
 (vals l (lowS classN)).all (askB cs (names l)) && (memB (names l) classN && (names l).all (memB (allowL cs (vals l (lowS classN)))))
theorem allowL_take (cs:List Cl) (C:List ByteArray) (k:Nat) (h:k < C.length):allowL cs (C.take (k + 1))=allowL cs (C.take k) ++ mayS cs (foldS (partAt C k)):=by
 unfold allowL
 rw [take_snoc C k h,List.flatMap_append,List.append_assoc]
 simp
theorem mayS_few {cs:List Cl} (hS:SoundC cs) (hL:cs.length <= 1000) (hF:FewC cs) (n:ByteArray):(mayS cs n).length <= 128000:=by
 rw [mayS_eq]
 refine Nat.le_trans (sortU_len _) ?_
 rw [List.length_map,List.length_append]
 have h1:=mustS_few hS hL hF n
 have h2:(mayL (lineS cs n)).length <= 64000:=mayL_few hF (fun c hc=>lineS_mem hc) (Nat.le_trans (lineS_small hS n) hL)
 show (mustS cs n).length + (mayL (lineS cs n)).length <= 128000
 omega
theorem mayS_small {cs:List Cl} (hZ:SmC cs) {n s:ByteArray} (h:s ∈ mayS cs n):s.size <= 1000000000:=by
 rw [mayS_eq,sortU_mem] at h
 obtain ⟨t,ht,rfl⟩:=List.mem_map.1 h
 rw [lowS_size]
 rcases List.mem_append.1 ht with h | h
 ·exact mustS_small hZ h
 ·obtain ⟨c,hc,hs⟩:=List.mem_flatMap.1 h
  exact (hZ c (lineS_mem hc)).2.2.2 t hs
theorem namesF_small {l:List At} (h:SmallA l) {s:ByteArray} (hs:s ∈ names l):s.size <= 1100000:=by
 unfold names at hs
 rw [sortU_mem] at hs
 obtain ⟨a,ha,rfl⟩:=List.mem_map.1 hs
 rw [lowS_size]
 exact (h a (List.mem_filter.1 ha).1).1
set_option maxHeartbeats 16000000 in
theorem fits_s (mt mc:Option Nat) (w0:World) (cs:List Cl) (ao:Option Addr) (n cap:Nat) (l:List At) (w:World) (h0:Below w0.heap.size w0 w) (h:CMap w0 w mc cs) (hS:SoundC cs) (hL:cs.length <= 1000) (hZ:SmC cs) (hF:FewC cs) (hl:AttrsAt w ao n cap l) (hFw:Few l)
  (hC:(vals l (lowS classN)).length <= 100000 /\ ∀ v ∈ vals l (lowS classN),v.size <= 1100000) (hP:(names l).length <= 3000) :
  Calls Tryz.prog 111 #[.agg #[.map mt, .map mc], .slice ao n cap] w fun e w'=>e = .returned (.bool (fitsB cs l)) /\ Below w.heap.size w w':=by
 have HN:=Lib.hid (fun (W:World) (hW:Below w.heap.size w W)=>names_s ao n cap l W (hl.below hW) hFw)
 have HG:=Lib.hid (fun (W:World) (hW:Below w.heap.size w W)=>get_s ao n cap l classN W (hl.below hW) hFw (by decide))
 have HCl:=Lib.hid (fun (n:ByteArray) (W:World) (hn:n.size <= 1000000000) (hW:Below w.heap.size w W)=>class_s mt mc w0 cs n W (h.below hW) hn)
 have HMu:=Lib.hid (fun (n:ByteArray) (W:World) (hn:n.size <= 1000000000) (hW:Below w.heap.size w W)=>must_s mt mc w0 cs n W (h0.trans (hW.mono h0.size)) (h.below hW) hS hL hZ hF hn)
 have HMa:=Lib.hid (fun (n:ByteArray) (W:World) (hn:n.size <= 1000000000) (hW:Below w.heap.size w W)=>may_s mt mc w0 cs n W (h0.trans (hW.mono h0.size)) (h.below hW) hS hL hZ hF hn)
 have HQ:=Lib.hid (And.intro (fun n=>mustS_few hS hL hF n) (And.intro (fun n=>mayS_few hS hL hF n) (And.intro (fun n s (hs:s ∈ mustS cs n)=>mustS_small hZ hs) (fun n s (hs:s ∈ mayS cs n)=>mayS_small hZ hs))))
 have HPS:=Lib.hid (fun s (hs:s ∈ names l)=>namesF_small hFw.small hs)
 have HE:=Lib.hid (show fitsB cs l=((vals l (lowS classN)).all (askB cs (names l)) && (memB (names l) classN && (names l).all (memB (allowL cs (vals l (lowS classN)))))) from rfl)
 obtain ⟨P,hPe⟩:∃ P,names l=P:=⟨_,rfl⟩
 obtain ⟨C,hCe⟩:∃ C,vals l (lowS classN)=C:=⟨_,rfl⟩
 obtain ⟨R,hRe⟩:∃ R,fitsB cs l=R:=⟨_,rfl⟩
 rw [hPe,hCe,hRe] at HE
 rw [hPe] at HN HPS hP
 rw [hCe] at HG hC
 rw [hRe]
 clear hPe hCe hRe h0 h hS hZ hF hl hFw
 have HCS:=Lib.hid hC.2
 replace hC:=hC.1
 have B1:=(Below.refl w.heap.size w).alloc (Nat.le_refl _) (.cells #[.map mt, .map mc] 130)
 have B2:=B1.alloc (by simp) (.map #[] 0)
 have G0:=setM_made (H:=Unit) (w.alloc (.cells #[.map mt, .map mc] 130))
 have HB0:=Lib.hid B2
 have HM0:=Lib.hid (show ((w.alloc (.cells #[.map mt, .map mc] 130)).alloc (.map #[] 0)).cell? ⟨w.heap.size,0,none⟩=some (.map mt) /\ ((w.alloc (.cells #[.map mt, .map mc] 130)).alloc (.map #[] 0)).cell? ⟨w.heap.size,1,none⟩=some (.map mc) from ⟨by go_simp,by go_simp⟩)
 have HG0:=Lib.hid G0
 have hmm := @run_makeMap Tryz.prog
 clear B1 B2 G0
 go_enter Tryz.func111,Tryz.ntmps111
 go_wp2_with fail
 refine (HN.out _ HB0.out).mono ?_
 rintro e w1 ⟨v,rfl,⟨no,nn,nc,rfl,hP1⟩,hb⟩
 have hnn:=hP1.1
 have hg1:=SetM.below HG0.out hb
 rw [World.size_alloc] at hg1
 have HG1:=Lib.hid hg1
 clear hg1
 have HM1:=Lib.hid (And.intro (cell_later hb HM0.out.1) (cell_later hb HM0.out.2))
 have hsz1:w.heap.size + 1 < w1.heap.size:=by have:=hb.size; simp at this; omega
 have HB1:=Lib.hid (HB0.out.trans (hb.mono (by simp; omega)))
 have HP1:=Lib.hid hP1
 clear hb HG0 HM0 HB0 hP1
 go_wp2_with fail
 go_loopw [7,20] (fun s7 i wr=>∃ (k:Nat) (D:DataW Unit),k <= nn /\ i = .int .i64 k /\ Hid (SetM wr (w.heap.size + 1) k D (P.take k)) /\ Hid (StrsAt wr no nn nc P) /\ Hid (wr.cell? ⟨w.heap.size,0,none⟩=some (.map mt) /\ wr.cell? ⟨w.heap.size,1,none⟩=some (.map mc)) /\ Hid (Below w.heap.size w wr /\ w.heap.size + 1 < wr.heap.size)) (fun _ i _=>nn - (intOf i).toNat)
 case atStart=>exact ⟨0,_,Nat.zero_le _,rfl,HG1,HP1,HM1,Lib.hid ⟨HB1.out,hsz1⟩⟩
 case round =>
  clear HG1 HP1 HM1 HB1 hsz1
  obtain ⟨k,D,hk,rfl,HGk,HPk,HMk,HBk⟩:=hrel
  by_cases hlt:k < nn
  ·obtain ⟨g,off,e,hg,hc⟩:=HPk.out.2.2.2 (by omega)
   subst e
   have hcell:=hc k (by omega)
   clear hc
   obtain ⟨p,hp⟩:∃ x,partAt P k=x:=⟨_,rfl⟩
   have hps:p.size <= 1100000:=by rw [<- hp]; exact HPS.out _ (part_mem P k (by omega))
   rw [hp] at hcell
   have HT:=Lib.hid (show P.take (k + 1)=P.take k ++ [p] by rw [<- hp]; exact take_snoc P k (by omega))
   clear hp
   obtain ⟨w',hrun,HG',hgr⟩:=HGk.out.store p (by unfold maxLen; omega) (by unfold maxLen; omega)
   have HG2:=Lib.hid HG'
   have HP2:=Lib.hid (strs_turned HPk.out HGk.out hgr)
   have HM2:=Lib.hid (And.intro (cell_turned HMk.out.1 hgr (by show w.heap.size ≠ w.heap.size + 1; omega)) (cell_turned HMk.out.2 hgr (by show w.heap.size ≠ w.heap.size + 1; omega)))
   have HB2:=Lib.hid (And.intro (HBk.out.1.grown hgr (by have:=HBk.out.2; omega) (fun j hj=>by have:=Option.some.inj hj; omega)) (Nat.lt_of_lt_of_le HBk.out.2 hgr.size))
   clear HG' hgr
   have d1:(k:Int) < (nn:Int):=by omega
   go_wp2_with fail
   go_roundw
   case rel=>exact ⟨k + 1,_,by omega,by go_num,by rw [HT.out]; exact HG2,HP2,HM2,HB2⟩
   case measure=>simp [intOf]; omega
  ·obtain rfl:k=nn:=by omega
   rw [List.take_of_length_le (by omega)] at HGk
   have d1:¬ (k:Int) < (k:Int):=by omega
   have hsz:=HBk.out.2
   have G2:=setM_made (H:=Unit) wr
   obtain ⟨w5,hrun5,hG5,hg5⟩:=G2.store classN (by decide) (by unfold maxLen; omega)
   have hal:=(Below.refl wr.heap.size wr).alloc (Nat.le_refl _) (.map #[] 0)
   have HG5:=Lib.hid hG5
   have HP5:=Lib.hid ((SetM.below HGk.out hal).kept hg5 (by intro e; have:=Option.some.inj e; omega))
   have HM5:=Lib.hid (And.intro (cell_turned (cell_later hal HMk.out.1) hg5 (by show w.heap.size ≠ wr.heap.size; omega)) (cell_turned (cell_later hal HMk.out.2) hg5 (by show w.heap.size ≠ wr.heap.size; omega)))
   have HB5:=Lib.hid (show Below w.heap.size w w5 /\ wr.heap.size < w5.heap.size from ⟨(HBk.out.1.trans (hal.mono (by omega))).grown hg5 (by simp; omega) (fun j hj=>by have:=Option.some.inj hj; omega),by have:=hg5.size; simp at this; omega⟩)
   clear G2 hG5 hg5 hal
   unfold classN at hrun5
   go_wp2_with fail
   clear hrun5 hmm
   refine (HG.out w5 HB5.out.1).mono ?_
   rintro e w6 ⟨v,rfl,⟨co,cn,cc,rfl,hC6⟩,hb⟩
   have hcn:=hC6.1
   have HC6:=Lib.hid hC6
   have HG6:=Lib.hid (SetM.below HG5.out hb)
   have HP6:=Lib.hid (SetM.below HP5.out hb)
   have HM6:=Lib.hid (And.intro (cell_later hb HM5.out.1) (cell_later hb HM5.out.2))
   have HB6:=Lib.hid (show Below w.heap.size w w6 /\ wr.heap.size < w6.heap.size from ⟨HB5.out.1.trans (hb.mono HB5.out.1.size),Nat.lt_of_lt_of_le HB5.out.2 hb.size⟩)
   clear hb hC6 HG5 HP5 HM5 HB5 HGk HPk HMk HBk
   obtain ⟨ma,hma⟩:∃ x,wr.heap.size=x:=⟨_,rfl⟩
   rw [hma] at HG6 HB6 hsz ⊢
   clear hma
   go_wp2_with fail
   go_loopw [10,11,12,13,15,32] (fun s10 s11 s12 s13 s15 i wq=>∃ (j N:Nat) (D':DataW Unit),j <= cn /\ i = .int .i64 j /\ N <= 1 + j * 128000 /\ Hid ((C.take j).all (askB cs P)=true) /\ Hid (SetM wq ma N D' (allowL cs (C.take j))) /\ Hid (SetM wq (w.heap.size + 1) k D P) /\ Hid (StrsAt wq co cn cc C) /\ Hid (wq.cell? ⟨w.heap.size,0,none⟩=some (.map mt) /\ wq.cell? ⟨w.heap.size,1,none⟩=some (.map mc)) /\ Hid (Below w.heap.size w wq /\ ma < wq.heap.size)) (fun _ _ _ _ _ i _=>cn - (intOf i).toNat)
   case atStart=>exact ⟨0,1,_,Nat.zero_le _,rfl,by omega,Lib.hid rfl,HG6,HP6,HC6,HM6,HB6⟩
   case round =>
    clear HG6 HP6 HC6 HM6 HB6
    obtain ⟨j,N,D',hj,rfl,hN,HA,HGj,HPj,HCj,HMj,HBj⟩:=hrel
    obtain ⟨m0,m1⟩:=HMj.out
    by_cases hlt2:j < cn
    ·obtain ⟨g,off,e,hg,hc⟩:=HCj.out.2.2.2 (by omega)
     subst e
     have hcell:=hc j (by omega)
     clear hc
     have hps:=HCS.out _ (part_mem C j (by omega))
     have HTa:=Lib.hid (allowL_take cs C j (by omega))
     have HTt:=Lib.hid (show askB cs P (partAt C j)=true -> (C.take (j + 1)).all (askB cs P)=true from fun h=>all_take HA.out (by omega) h)
     have HTf:=Lib.hid (show askB cs P (partAt C j)=false -> R=false from fun h=>by rw [HE.out,all_false (by omega) h]; rfl)
     obtain ⟨p,hp⟩:∃ x,partAt C j=x:=⟨_,rfl⟩
     rw [hp] at hcell hps HTa HTt HTf
     clear hp
     have hfs:(foldS p).size <= 1100000:=Nat.le_trans (foldS_size p) hps
     have HASK:=Lib.hid (show askB cs P p=((clOf cs (foldS p)).isSome && (mustS cs (foldS p)).all (memB P)) from rfl)
     have d2:(j:Int) < (cn:Int):=by omega
     go_wp2_with fail
     refine (fold_s p _ (by omega)).mono ?_
     rintro e w7 ⟨rfl,hb⟩
     obtain ⟨f,hf⟩:∃ f,foldS p=f:=⟨_,rfl⟩
     rw [hf] at HTa hfs HASK ⊢
     clear hf
     have HB7:=Lib.hid (show Below w.heap.size w w7 /\ w.heap.size + 1 < w7.heap.size from ⟨HBj.out.1.trans (hb.mono HBj.out.1.size),by have:=HBj.out.2; have:=hb.size; omega⟩)
     have HK7:=Lib.hid hb
     have m0:=cell_later hb m0
     have m1:=cell_later hb m1
     have hsz7:w.heap.size < w7.heap.size:=by have:=HB7.out.2; omega
     clear hb
     go_wp2_with fail
     refine (HCl.out f _ (by omega) HB7.out.1).mono ?_
     rintro e w8 ⟨⟨cl,_,_⟩,a1,p1,q1,a2,p2,q2,rfl,rfl,_,rfl,hb⟩
     dsimp only
     obtain ⟨ok,hok⟩:∃ b,(clOf cs f).isSome=b:=⟨_,rfl⟩
     rw [hok] at HASK ⊢
     clear hok
     generalize cl.name=xn
     generalize cl.super=xs
     have hal:=(Below.refl w8.heap.size w8).alloc (Nat.le_refl _) (.cells #[.string xn, .string xs, .slice a1 p1 q1, .slice a2 p2 q2] 64)
     have HK8:=Lib.hid (HK7.out.trans (hb.mono HK7.out.size))
     have HB8:=Lib.hid (show Below w.heap.size w w8 /\ w.heap.size + 1 < w8.heap.size from ⟨HB7.out.1.trans (hb.mono HB7.out.1.size),by have:=HB7.out.2; have:=hb.size; omega⟩)
     have HK9:=Lib.hid (HK8.out.trans (hal.mono HK8.out.size))
     have HB9:=Lib.hid (HB8.out.1.trans (hal.mono HB8.out.1.size))
     have m0:=cell_later hb m0
     have m1:=cell_later hb m1
     have hsz8:w.heap.size < w8.heap.size:=by have:=HB8.out.2; omega
     clear hal hb hsz7 HB7 HK7
     cases ok
     ·have HR:=Lib.hid (HTf.out (HASK.out.trans rfl))
      go_wp2_with fail
      go_ret
      exact ⟨by rw [HR.out]; rfl,HB9.out⟩
     ·have hask:askB cs P p=(mustS cs f).all (memB P):=HASK.out.trans rfl
      go_wp2_with fail
      refine (HMu.out f _ (by omega) HB9.out).mono ?_
      rintro e w10 ⟨u,rfl,hou,hb⟩
      obtain ⟨uo,uc,rfl,hus⟩:=strs_own hou rfl
      have HK10:=Lib.hid (HK9.out.trans (hb.mono HK9.out.size))
      have HB10:=Lib.hid (HB9.out.trans (hb.mono HB9.out.size))
      have hal2:=(Below.refl w8.heap.size w8).alloc (Nat.le_refl _) (.cells #[.string xn, .string xs, .slice a1 p1 q1, .slice a2 p2 q2] 64)
      have m0:=cell_later hb (cell_later hal2 m0)
      have m1:=cell_later hb (cell_later hal2 m1)
      have HCo:=Lib.hid (contains_s (w.heap.size + 1) k D P uo _ uc (mustS cs f) w10 (SetM.below HPj.out HK10.out) hus (fun s hs=>HQ.out.2.2.1 f s hs))
      obtain ⟨cb,hcb⟩:∃ b,(mustS cs f).all (memB P)=b:=⟨_,rfl⟩
      rw [hcb] at hask HCo
      clear hb hou hus hal2 hcb HK9 HK8
      go_wp2_with fail
      refine HCo.out.mono ?_
      rintro e w11 ⟨rfl,rfl⟩
      cases cb
      ·have HR:=Lib.hid (HTf.out hask)
       go_wp2_with fail
       go_ret
       exact ⟨by rw [HR.out]; rfl,HB10.out⟩
      ·have HAk:=Lib.hid (HTt.out hask)
       clear hask
       go_wp2_with fail
       refine (HMa.out f _ (by omega) HB10.out).mono ?_
       rintro e w12 ⟨u,rfl,hou,hb⟩
       obtain ⟨mo,mcap,rfl,hms⟩:=strs_own hou rfl
       have hml:=HQ.out.2.1 f
       have hmz:=Lib.hid (HQ.out.2.2.2 f)
       obtain ⟨M,hM⟩:∃ M,mayS cs f=M:=⟨_,rfl⟩
       rw [hM] at hms hml hmz HTa ⊢
       have HK12:=Lib.hid (HK10.out.trans (hb.mono HK10.out.size))
       have HS12:=Lib.hid hms
       have HG12:=Lib.hid (SetM.below HGj.out HK12.out)
       have HP12:=Lib.hid (SetM.below HPj.out HK12.out)
       have HC12:=Lib.hid (HCj.out.below HK12.out)
       have HM12:=Lib.hid (And.intro (cell_later hb m0) (cell_later hb m1))
       have HB12:=Lib.hid (show Below w.heap.size w w12 /\ ma < w12.heap.size from ⟨HB10.out.trans (hb.mono HB10.out.size),Nat.lt_of_lt_of_le HBj.out.2 HK12.out.size⟩)
       clear hb hou hms hM m0 m1 HK10 HB10 HGj HPj HCj HMj HBj HB9 HB8 HCo hsz8
       have hNb:N <= 12800000001:=by omega
       go_wp2_with fail
       go_loopw [15,58] (fun s15 i wz=>∃ (q:Nat) (D2:DataW Unit),q <= M.length /\ i = .int .i64 q /\ Hid (SetM wz ma (N + q) D2 (allowL cs (C.take j) ++ M.take q)) /\ Hid (SetM wz (w.heap.size + 1) k D P) /\ Hid (StrsAt wz mo M.length mcap M) /\ Hid (StrsAt wz (some ⟨g,off,none⟩) cn cc C) /\ Hid (wz.cell? ⟨w.heap.size,0,none⟩=some (.map mt) /\ wz.cell? ⟨w.heap.size,1,none⟩=some (.map mc)) /\ Hid (Below w.heap.size w wz /\ ma < wz.heap.size)) (fun _ i _=>M.length - (intOf i).toNat)
       case atStart=>exact ⟨0,D',Nat.zero_le _,rfl,Lib.hid (by rw [List.take_zero,List.append_nil]; exact HG12.out),HP12,HS12,HC12,HM12,HB12⟩
       case round =>
        clear HG12 HP12 HS12 HC12 HM12 HB12
        obtain ⟨q,D2,hq,rfl,HGz,HPz,HSz,HCz,HMz,HBz⟩:=hrel
        by_cases hlt3:q < M.length
        ·obtain ⟨g2,off2,e,hg2,hc2⟩:=HSz.out.2.2.2 (by omega)
         subst e
         have hcell2:=hc2 q hlt3
         clear hc2
         have hys:=hmz.out _ (part_mem M q hlt3)
         have HTq:=Lib.hid (show M.take (q + 1)=M.take q ++ [partAt M q] from take_snoc M q hlt3)
         obtain ⟨y,hy⟩:∃ x,partAt M q=x:=⟨_,rfl⟩
         rw [hy] at hcell2 hys HTq
         clear hy
         obtain ⟨w',hrun,HG',hgr⟩:=HGz.out.store y (by unfold maxLen; omega) (by unfold maxLen; omega)
         have HG2:=Lib.hid HG'
         have HS2:=Lib.hid (strs_turned HSz.out HGz.out hgr)
         have HC2:=Lib.hid (strs_turned HCz.out HGz.out hgr)
         have HP2:=Lib.hid (HPz.out.kept hgr (by intro e; have:=Option.some.inj e; omega))
         have HM2:=Lib.hid (And.intro (cell_turned HMz.out.1 hgr (by show w.heap.size ≠ ma; omega)) (cell_turned HMz.out.2 hgr (by show w.heap.size ≠ ma; omega)))
         have HB2:=Lib.hid (And.intro (HBz.out.1.grown hgr (by have:=HBz.out.2; omega) (fun j hj=>by have:=Option.some.inj hj; omega)) (Nat.lt_of_lt_of_le HBz.out.2 hgr.size))
         clear HG' hgr
         have d3:(q:Int) < (M.length:Int):=by omega
         go_wp2_with fail
         go_roundw
         case rel=>exact ⟨q + 1,_,by omega,by go_num,Lib.hid (by rw [HTq.out, <- List.append_assoc, <- Nat.add_assoc]; exact HG2.out),HP2,HS2,HC2,HM2,HB2⟩
         case measure=>simp [intOf]; omega
        ·obtain rfl:q=M.length:=by omega
         rw [List.take_length] at HGz
         have d3:¬ (M.length:Int) < (M.length:Int):=by omega
         go_wp2_with fail
         go_roundw
         case rel=>exact ⟨j + 1,N + M.length,D2,by omega,by go_num,by omega,HAk,Lib.hid (by rw [HTa.out]; exact HGz.out),HPz,HCz,HMz,HBz⟩
         case measure=>simp [intOf]; omega
    ·obtain rfl:j=cn:=by omega
     rw [List.take_of_length_le (by omega)] at HGj HA
     have d2:¬ (j:Int) < (j:Int):=by omega
     have hlook:=HPj.out.look classN (by decide)
     have HE2:=Lib.hid (show R=(memB P classN && P.all (memB (allowL cs C))) from HE.out.trans (by rw [HA.out]; rfl))
     obtain ⟨pc,hpc⟩:∃ b,memB P classN=b:=⟨_,rfl⟩
     rw [hpc] at hlook HE2
     unfold classN at hlook
     clear hpc
     cases pc
     ·have HE3:=Lib.hid (show R=false from HE2.out.trans rfl)
      go_wp2_with fail
      go_ret
      exact ⟨by rw [HE3.out]; rfl,HBj.out.1⟩
     ·have HE3:=Lib.hid (show R=P.all (memB (allowL cs C)) from HE2.out.trans rfl)
      go_wp2_with fail
      refine (HN.out _ HBj.out.1).mono ?_
      rintro e w7 ⟨v,rfl,⟨o7,n7,c7,rfl,hP7⟩,hb⟩
      have HC7:=Lib.hid (contains_s _ N D' (allowL cs C) o7 n7 c7 P w7 (SetM.below HGj.out hb) hP7 (fun s hs=>Nat.le_trans (HPS.out s hs) (by decide)))
      have HB7:=Lib.hid (HBj.out.1.trans (hb.mono HBj.out.1.size))
      clear hb hP7 m0 m1
      go_wp2_with fail
      refine HC7.out.mono ?_
      rintro e w8 ⟨rfl,rfl⟩
      go_wp2_with fail
      go_ret
      exact ⟨by rw [HE3.out]; rfl,HB7.out⟩
def vldE (T:List Ty) (cs:List Cl) (l:List At):Int:=
 if chkA l ≠ 0 then chkA l else if firstE (fun j=>chkAt T (atD l j)) l.length ≠ 0 then firstE (fun j=>chkAt T (atD l j)) l.length else if fitsB cs l=true then 0 else 9
structure FewE (l:List At):Prop where
 few:Few l
 fewV:FewV l
 vals:(vals l (lowS classN)).length <= 100000 /\ ∀ v ∈ vals l (lowS classN),v.size <= 1100000
 names:(names l).length <= 3000
set_option maxHeartbeats 16000000 in
theorem validF_s (v:Value) (ts:List Ty) (cs:List Cl) (en:ByteArray) (ao:Option Addr) (n cap:Nat) (l:List At) (w:World) (h:SchV w v ts cs) (hl:AttrsAt w ao n cap l) (hF:FewE l) (ho:IntOk w) :
  Calls Tryz.prog 50 #[v, .agg #[.string en, .slice ao n cap]] w fun e w'=>e = .returned (.int .i64 (vldE (soundT ts cs) (soundC ts cs) l)) /\ Below w.heap.size w w':=by
 have h':=h
 obtain ⟨so,k0,scap,bo,m0,dap,rfl,_,_,_,hz⟩:=h'
 have HZ:=Lib.hid (smC_sound (ts:=ts) hz)
 have hb0:Below w.heap.size w ((w.alloc (.cells #[.slice so k0 scap, .slice bo m0 dap] 25)).alloc (.cells #[.string en, .slice ao n cap] 37)):=((Below.refl _ _).alloc (Nat.le_refl _) _).alloc (by simp) _
 have hbw:Below w.heap.size w ((w.alloc (.cells #[.slice so k0 scap, .slice bo m0 dap] 25)).alloc (.cells #[.string en, .slice ao n cap] 37)):=hb0
 have HB0:=Lib.hid hb0
 have HCk:=Lib.hid (check_s ao n cap l _ (hl.below hb0) hF.few.small hF.fewV)
 have HAcc:=Lib.hid (fun (W:World) (hW:Below w.heap.size w W)=>accepted_s _ ts cs W (h.below hW))
 have HL:=Lib.hid hl
 have HO:=Lib.hid ho
 have HF:=Lib.hid hF
 have hln:=hl.1
 have hcap:=hl.2.1
 have hmx:=hl.2.2.1
 unfold maxLen at hmx
 have hE:vldE (soundT ts cs) (soundC ts cs) l=if chkA l ≠ 0 then chkA l else if firstE (fun j=>chkAt (soundT ts cs) (atD l j)) l.length ≠ 0 then firstE (fun j=>chkAt (soundT ts cs) (atD l j)) l.length else if fitsB (soundC ts cs) l=true then 0 else 9:=rfl
 obtain ⟨R,hR⟩:∃ R,vldE (soundT ts cs) (soundC ts cs) l=R:=⟨_,rfl⟩
 obtain ⟨ce,hce⟩:∃ c,chkA l=c:=⟨_,rfl⟩
 rw [hR,hce] at hE
 rw [hR]
 rw [hce] at HCk
 have HE:=Lib.hid hE
 clear h hb0 hbw hl hF hz hR hce hE ho
 go_enter Tryz.func50,Tryz.ntmps50
 go_wp2_with fail
 refine HCk.out.mono ?_
 rintro e w1 ⟨rfl,hb⟩
 have q0:w1.cell? ⟨w.heap.size,0,none⟩=some (.slice so k0 scap):=cell_later hb (by go_simp)
 have q1:w1.cell? ⟨w.heap.size,1,none⟩=some (.slice bo m0 dap):=cell_later hb (by go_simp)
 have q2:w1.cell? ⟨w.heap.size + 1,1,none⟩=some (.slice ao n cap):=cell_later hb (by go_simp)
 have HB1:=Lib.hid (show Below w.heap.size w w1 /\ w.heap.size + 1 < w1.heap.size from ⟨HB0.out.trans (hb.mono (by simp; omega)),by have:=hb.size; simp at this; omega⟩)
 clear hb HB0 HCk
 by_cases hc:ce=0
 ·subst hc
  have HE1:=Lib.hid (show R=if firstE (fun j=>chkAt (soundT ts cs) (atD l j)) l.length ≠ 0 then firstE (fun j=>chkAt (soundT ts cs) (atD l j)) l.length else if fitsB (soundC ts cs) l=true then 0 else 9 from HE.out.trans (if_neg (by simp)))
  go_wp2_with fail
  refine (HAcc.out w1 HB1.out.1).mono ?_
  rintro e w2 ⟨tv,rfl,⟨m1,m2,rfl,hT,hC⟩,hb⟩
  have q2:=cell_later hb q2
  have HB2:=Lib.hid (show Below w.heap.size w w2 /\ w.heap.size + 1 < w2.heap.size from ⟨HB1.out.1.trans (hb.mono HB1.out.1.size),Nat.lt_of_lt_of_le HB1.out.2 hb.size⟩)
  have hsz2:=HB2.out.2
  have hal:=(Below.refl w2.heap.size w2).alloc (Nat.le_refl _) (.cells #[.map m1, .map m2] 130)
  have HI:=Lib.hid (show (w2.alloc (.cells #[.map m1, .map m2] 130)).cell? ⟨w2.heap.size,0,none⟩=some (.map m1) /\ (w2.alloc (.cells #[.map m1, .map m2] 130)).cell? ⟨w2.heap.size,1,none⟩=some (.map m2) /\ (w2.alloc (.cells #[.map m1, .map m2] 130)).cell? ⟨w.heap.size + 1,1,none⟩=some (.slice ao n cap) from ⟨by go_simp,by go_simp,cell_later hal q2⟩)
  have HT:=Lib.hid (And.intro hT hC)
  have HB3:=Lib.hid (show Below w.heap.size w (w2.alloc (.cells #[.map m1, .map m2] 130)) /\ Below w2.heap.size w2 (w2.alloc (.cells #[.map m1, .map m2] 130)) from ⟨HB2.out.1.trans (hal.mono HB2.out.1.size),hal⟩)
  clear hb hT hC HAcc hal q0 q1 HB1
  go_wp2_with fail
  go_loopw [8,9,21] (fun s8 s9 i wr=>∃ (j:Nat),j <= n /\ i = .int .i64 j /\ Hid (∀ q,q < j -> chkAt (soundT ts cs) (atD l q)=0) /\ Hid (wr.cell? ⟨w2.heap.size,0,none⟩=some (.map m1) /\ wr.cell? ⟨w2.heap.size,1,none⟩=some (.map m2) /\ wr.cell? ⟨w.heap.size + 1,1,none⟩=some (.slice ao n cap)) /\ Hid (Below w.heap.size w wr /\ Below w2.heap.size w2 wr /\ w2.heap.size < wr.heap.size)) (fun _ _ i _=>n - (intOf i).toNat)
  case atStart=>exact ⟨0,Nat.zero_le _,rfl,Lib.hid (fun q hq=>absurd hq (Nat.not_lt_zero _)),HI,Lib.hid ⟨HB3.out.1,HB3.out.2,by simp⟩⟩
  case round =>
   clear HI HB3 q2
   obtain ⟨j,hj,rfl,HA,HI,HB⟩:=hrel
   obtain ⟨i0,i1,i2⟩:=HI.out
   by_cases hlt:j < n
   ·have hj1:j + 1 <= n:=hlt
    have HJ:=Lib.hid hlt
    obtain ⟨b,off,e,hbl,hat⟩:=HL.out.2.2.2 (by omega)
    subst e
    obtain ⟨c0,vo,vn,vc,c1,hv⟩:=(hat j hlt)
    have hsm:=HF.out.few.small _ (at_mem l j (by omega))
    obtain ⟨a,ha⟩:∃ a,atD l j=a:=⟨_,rfl⟩
    rw [ha] at c0 hv hsm
    have c0:=cell_later HB.out.1 c0
    have c1:=cell_later HB.out.1 c1
    have hsz:=HB.out.2.2
    have hsz3:w.heap.size + 1 < wr.heap.size:=by omega
    have hal:=(Below.refl wr.heap.size wr).alloc (Nat.le_refl _) (.cells #[.string a.1, .slice vo vn vc] 58)
    have hBa:=HB.out.1.trans (hal.mono HB.out.1.size)
    have HC:=Lib.hid (checkAttr_s m1 m2 (soundT ts cs) a vo vn vc _ (HT.out.1.below (HB.out.2.1.trans (hal.mono HB.out.2.1.size))) (hv.below hBa) hsm.1 hsm.2 (HO.out.below hBa))
    have HBA:=Lib.hid hBa
    have HI1:=Lib.hid (And.intro (cell_later hal i0) (And.intro (cell_later hal i1) (cell_later hal i2)))
    have HW1:=Lib.hid (show Below w2.heap.size w2 (wr.alloc (.cells #[.string a.1, .slice vo vn vc] 58)) from HB.out.2.1.trans (hal.mono HB.out.2.1.size))
    have HAa:=Lib.hid ha
    obtain ⟨ev,hev⟩:∃ e,chkAt (soundT ts cs) a=e:=⟨_,rfl⟩
    rw [hev] at HC
    have HEV:=Lib.hid hev
    have d1:(j:Int) < (n:Int):=by omega
    clear hal hBa hv ha hev
    go_wp2_with fail
    refine HC.out.mono ?_
    rintro e w3 ⟨rfl,hb⟩
    have HI3:=Lib.hid (And.intro (cell_later hb HI1.out.1) (And.intro (cell_later hb HI1.out.2.1) (cell_later hb HI1.out.2.2)))
    have HB3:=Lib.hid (show Below w.heap.size w w3 /\ Below w2.heap.size w2 w3 /\ w2.heap.size < w3.heap.size from ⟨HBA.out.trans (hb.mono HBA.out.size),HW1.out.trans (hb.mono HW1.out.size),by have:=hb.size; simp at this; omega⟩)
    clear hb HC i0 i1 i2 c0 c1 HI1 HBA HW1
    by_cases he:ev=0
    ·subst he
     go_wp2_with fail
     go_roundw
     case rel =>
      refine ⟨j + 1,HJ.out,by go_num,Lib.hid fun q hq => ?_,HI3,HB3⟩
      rcases Nat.lt_or_ge q j with h | h
      ·exact HA.out q h
      ·obtain rfl:q=j:=by omega
       rw [HAa.out]; exact HEV.out
     case measure=>have hJ:=HJ.out; simp [intOf]; omega
    ·have hfe:firstE (fun j=>chkAt (soundT ts cs) (atD l j)) l.length=ev:=by
      rw [firstE_hit (k:=j) HA.out (by show chkAt (soundT ts cs) (atD l j) ≠ 0; rw [HAa.out,HEV.out]; exact he) (by omega)]
      show chkAt (soundT ts cs) (atD l j)=ev
      rw [HAa.out]; exact HEV.out
     have HE2:=Lib.hid (show R=ev from HE1.out.trans (by rw [hfe,if_pos he]))
     clear hfe
     go_wp2_with fail
     go_ret
     exact ⟨by rw [HE2.out]; rfl,HB3.out.1⟩
   ·obtain rfl:j=n:=by omega
    have d1:¬ (j:Int) < (j:Int):=by omega
    have hfe:firstE (fun j=>chkAt (soundT ts cs) (atD l j)) l.length=0:=firstE_zero (fun q hq=>HA.out q (by omega))
    have HE2:=Lib.hid (show R=if fitsB (soundC ts cs) l=true then 0 else 9 from HE1.out.trans (by rw [hfe,if_neg (by simp)]))
    obtain ⟨fb,hfb⟩:∃ b,fitsB (soundC ts cs) l=b:=⟨_,rfl⟩
    have HC:=Lib.hid (fits_s m1 m2 w2 (soundC ts cs) ao j cap l _ HB.out.2.1 (HT.out.2.below HB.out.2.1) (sound_soundC ts cs) (Nat.le_trans (soundC_len ts cs) (by decide)) HZ.out (fewC_sound ts cs) (HL.out.below HB.out.1) HF.out.few HF.out.vals HF.out.names)
    rw [hfb] at HE2 HC
    clear hfe hfb
    go_wp2_with fail
    refine HC.out.mono ?_
    rintro e w3 ⟨rfl,hb⟩
    have HB3:=Lib.hid (HB.out.1.trans (hb.mono HB.out.1.size))
    clear hb HC i0 i1 i2
    cases fb
    ·have HE3:=Lib.hid (show R=9 from HE2.out.trans (by simp))
     go_wp2_with fail
     go_ret
     exact ⟨by rw [HE3.out]; rfl,HB3.out⟩
    ·have HE3:=Lib.hid (show R=0 from HE2.out.trans (by simp))
     go_wp2_with fail
     go_ret
     exact ⟨by rw [HE3.out]; rfl,HB3.out⟩
 ·have HE1:=Lib.hid (show R=ce from HE.out.trans (if_pos hc))
  go_wp2_with fail
  go_ret
  exact ⟨by rw [HE1.out]; rfl,HB1.out.1⟩
end Go.Proofs.YtmmdaegdkikkpaaGreatDoor
end

section
set_option maxRecDepth 100000
namespace Go.Proofs.YtmmdaegdkikkpaaGreatDoor
open Go.RowKit Go.PlainAid
structure AtS (a:At):Prop where
 nm:a.1.size <= 300
 len:a.2.length <= 20
 each:∀ v ∈ a.2,v.size <= 300
structure LightE (l:List At):Prop where
 len:l.length <= 40
 each:∀ a ∈ l,AtS a
theorem LightE.small {l:List At} (h:LightE l):SmallA l:=fun a ha=>by
 have k:=h.each a ha
 have k1:=k.nm
 exact ⟨by omega,fun v hv=>by have:=k.each v hv; omega⟩
theorem sumV_le:∀ {l:List At},(∀ a ∈ l,a.2.length <= 20) -> sumV l <= l.length * 20
 | [],_=>by simp [sumV]
 | a :: l,h=>by
  have h1:=h a (by simp)
  have h2:=sumV_le (l:=l) (fun x hx=>h x (by simp [hx]))
  rw [sumV_cons,List.length_cons]; omega
theorem LightE.few {l:List At} (h:LightE l):Few l:=
 ⟨h.small,by have h1:=sumV_le (fun a ha=>(h.each a ha).len); have h2:=h.len; omega,by have:=h.len; omega⟩
theorem small_dec {l:List ByteArray} (h:l.all (fun v=>decide (v.size <= 1000))=true):SmallS l:=fun v hv=>by
 have:=List.all_eq_true.1 h v hv
 have:=of_decide_eq_true this
 omega
theorem smallA_dec {l:List At} (h:l.all (fun a=>decide (a.1.size <= 1000) && a.2.all (fun v=>decide (v.size <= 1000)))=true):SmallA l:=fun a ha=>by
 have:=List.all_eq_true.1 h a ha
 rw [Bool.and_eq_true] at this
 exact ⟨by have:=of_decide_eq_true this.1; omega,small_dec this.2⟩
theorem ts_kb {W:World} {b:Nat} {T:List Tr} (h:Kb W b (.cells (tcells T).toArray 58)) (hl:T.length <= maxLen):TsAt W (some ⟨b,0,none⟩) T.length T.length T:=
 ⟨rfl,Nat.le_refl _,hl,fun _=>⟨b,0,rfl,h.big,fun j u hj=>by
  rw [Nat.zero_add]
  refine h.cell ?_
  rw [List.getElem?_toArray]; exact hj⟩⟩
end Go.Proofs.YtmmdaegdkikkpaaGreatDoor
end

section
set_option maxRecDepth 100000
namespace Go.Proofs.YtmmdaegdkikkpaaGreatDoor
open Go.ChangeShapes Go.WideShapes Go.ChangeAt Go.RowKit
theorem max_ok {W:World} (h:W.ShapedOpen Tryz.prog):MaxOk W:=
 cell_of_shapedOpen_int (zero := #[.int .i64 0]) (t:=3) h (of_decide_eq_true (by kernel_rfl)) (by kernel_rfl) rfl (by kernel_rfl) (by kernel_rfl) Tryz.underlying3
theorem witness_row {H:Type} {enc:TypeId × Value -> H} {C:Checked} {os:Os} {f:FuncId} {fn:Func} {s:OpenSpec} {conds:List PathCond} {apart:Bool} {laid:List (String × DataW Unit)} (modest:Bool) (w0:World) (args:Array Value) (hos:w0.os=os)
  (hsh:(w0.forCall (fun _ _=>0) ⟨#[],args,[]⟩).Shaped C.prog)
  (hok:Input.okWideB C.prog (w0.forCall (fun _ _=>0) ⟨#[],args,[]⟩) f ⟨#[],args,[]⟩=true)
  (hrow:s.preRow enc C.prog fn conds apart laid (w0.forCall (fun _ _=>0) ⟨#[],args,[]⟩).memory args) :
  ∃ (w:World) (tape:Tape) (i:Input),w.os=os /\ (w.forCall tape i).Shaped C.prog /\ i.vars = [] /\ Input.okWide C.prog (w.forCall tape i) .any w.heap.size f i /\
   s.preRow enc C.prog fn conds apart laid (w.forCall tape i).memory i.args /\ ({ modest:=modest }:Assume).holds C.prog (lone (Frame.enter C.prog f i.args .normal) [] (w.forCall tape i)):=
 ⟨w0,fun _ _=>0,⟨#[],args,[]⟩,hos,hsh,(Input.okWide_of_okWideB (base:=0) hok).1,(Input.okWide_of_okWideB hok).2,hrow,by
  simp only [Assume.holds]
  exact ⟨by simp,by simp,fun _=>Modest.zero,by simp,by simp⟩⟩
theorem star : "*" ++ "errors.errorString" = "*errors.errorString" := by decide
theorem tp_row (u : TypeId) (h : Tryz.prog.typeName? 3 u = some "*errors.errorString") : u = 279 :=
 typeName_ptr_named (nm := "errors.errorString") (by rw [star]; kernel_rfl) (by kernel_rfl) (by decide) u (by rw [star]; exact h)
end Go.Proofs.YtmmdaegdkikkpaaGreatDoor
end
