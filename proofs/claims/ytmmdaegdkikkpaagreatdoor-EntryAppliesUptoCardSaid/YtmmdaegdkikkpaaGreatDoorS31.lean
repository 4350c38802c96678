/-
  Texts of the schema layer and of those beneath it, joined: EntGd, EntUp. Conditions stand at each contract.
-/
import Derived.Lib.MinMax
import Derived.Test.YtmmdaegdkikkpaaGreatDoorS30
set_option linter.unusedVariables false
set_option linter.unusedSimpArgs false
set_option linter.unnecessarySimpa false

section
set_option maxRecDepth 100000
namespace Go.Proofs.YtmmdaegdkikkpaaGreatDoor
open Go.RowKit Go.PlainAid
structure MdS (m:Md):Prop where
 nm:m.name.size <= 100
 len:m.vs.length <= 20
 each:∀ v ∈ m.vs,v.size <= 300
structure FewMd (l:List Md):Prop where
 len:l.length <= 41
 each:∀ m ∈ l,MdS m
theorem FewMd.sm {l:List Md} (h:FewMd l):SmM l:=
 ⟨fun m hm=>by have:=(h.each m hm).nm; omega,fun m hm=>by have:=(h.each m hm).len; omega,fun m hm v hv=>by have:=(h.each m hm).each v hv; omega⟩
def RM (l:List Md):Prop := ∀ m ∈ l,m.name.size <= 140737488355328 /\ RS m.vs
theorem md_take (l:List Md) (k:Nat) (h:k < l.length):l.take (k + 1)=l.take k ++ [mdD l k]:=by
 rw [List.take_succ_eq_append_getElem h]
 congr 2
 unfold mdD
 rw [List.getD_eq_getElem?_getD,List.getElem?_eq_getElem h]; rfl
set_option maxHeartbeats 4000000 in
theorem few8_s (ao:Option Addr) (n cap:Nat) (l:List Md) (w:World) (h:MdsAt w ao n cap l) (rM:RM l) :
  Calls Tryz.prog 28 #[.slice ao n cap] w fun e w'=>GuardB (FewMd l) w e w':=by
 have HA:=Lib.hid h
 have HR:=Lib.hid rM
 have hl:=h.1
 have hcx:=h.2.2.1
 have hcn:=h.2.1
 unfold maxLen at hcx
 have HLen:=Lib.hid hl
 clear h rM hl
 go_enter Tryz.func28,Tryz.ntmps28
 go_wp2_with fail
 go_loop [3,4,5] (fun s3 i s5=>∃ (j S:Nat),j <= n /\ j <= 41 /\ i = .int .i64 j /\ s3 = .int .i64 S /\ S <= j * 6020 /\ Hid (∀ a ∈ l.take j,MdS a)) (fun _ i _=>n - (intOf i).toNat)
 case atStart=>exact ⟨0,0,Nat.zero_le _,Nat.zero_le _,rfl,rfl,Nat.zero_le _,Lib.hid (fun v hv=>by rw [List.take_zero] at hv; exact absurd hv List.not_mem_nil)⟩
 case round =>
  obtain ⟨j,S,hj,hj41,rfl,rfl,hS6,HV⟩:=hrel
  by_cases hlt:j < n
  ·have d1:decide ((j:Int) < (n:Int))=true:=decide_eq_true (by omega)
   have d0:(0:Int) <= (j:Int):=by omega
   have d3:(j:Int) < (n:Int):=by omega
   by_cases h40:40 < j
   ·have d4:decide ((40:Int) < (j:Int))=true:=decide_eq_true (by omega)
    have d4':(40:Int) < (j:Int):=by omega
    go_wp2_with fail
    go_ret
    exact guardB_no (Below.refl _ _)
   ·have d4:decide ((40:Int) < (j:Int))=false:=decide_eq_false (by omega)
    have d4':¬ (40:Int) < (j:Int):=by omega
    obtain ⟨b,off,rfl,hbl,hs⟩:=HA.out.2.2.2 (by omega)
    obtain ⟨z0,y0,vo,vn,vc,y1,hS⟩:=hs j hlt
    clear hs
    obtain ⟨hn0,hn1⟩:=HR.out _ (md_mem (l:=l) (i:=j) (by rw [HLen.out]; exact hlt))
    have HTk:=Lib.hid (md_take l j (by rw [HLen.out]; exact hlt))
    obtain ⟨A,hA⟩:∃ x,mdD l j=x:=⟨_,rfl⟩
    rw [hA] at z0 y0 hS hn0 hn1 HTk
    clear hA
    obtain ⟨aop,an,vs⟩:=A
    simp only at z0 y0 hS hn0 hn1
    have HS1:=Lib.hid hS
    have HVl:=Lib.hid hS.1
    have hvx:=hS.2.2.1
    unfold maxLen at hvx
    have hvc:=hS.2.1
    have HRS:=Lib.hid hn1
    clear hS hn1
    by_cases h2:20 < vn
    ·have d5:decide ((20:Int) < (vn:Int))=true:=decide_eq_true (by omega)
     have d5':(20:Int) < (vn:Int):=by omega
     go_wp2_with fail
     go_ret
     exact guardB_no (Below.refl _ _)
    ·have d5:decide ((20:Int) < (vn:Int))=false:=decide_eq_false (by omega)
     have d5':¬ (20:Int) < (vn:Int):=by omega
     by_cases h1:100 < an.size
     ·have d6:decide ((100:Int) < (an.size:Int))=true:=decide_eq_true (by omega)
      have d6':(100:Int) < (an.size:Int):=by omega
      go_wp2_with fail
      go_ret
      exact guardB_no (Below.refl _ _)
     ·have d6:decide ((100:Int) < (an.size:Int))=false:=decide_eq_false (by omega)
      have d6':¬ (100:Int) < (an.size:Int):=by omega
      go_wp2_with fail
      go_loop [3,5] (fun s3 k=>∃ (q S2:Nat),q <= vn /\ k = .int .i64 q /\ s3 = .int .i64 S2 /\ S2 <= j * 6020 + q * 301 /\ Hid (∀ v ∈ vs.take q,v.size <= 300)) (fun _ k=>vn - (intOf k).toNat)
      case atStart=>exact ⟨0,S,Nat.zero_le _,rfl,rfl,by omega,Lib.hid (fun v hv=>by rw [List.take_zero] at hv; cases hv)⟩
      case round =>
       obtain ⟨q,S2,hq,rfl,rfl,hS2,HQ⟩:=hrel
       by_cases hqt:q < vn
       ·have g1:decide ((q:Int) < (vn:Int))=true:=decide_eq_true (by omega)
        have g0:(0:Int) <= (q:Int):=by omega
        have g3:(q:Int) < (vn:Int):=by omega
        obtain ⟨vb,voff,rfl,hvb,hvs⟩:=HS1.out.2.2.2 (by omega)
        have hvcell:=hvs q (by rw [HVl.out]; exact hqt)
        clear hvs
        have hvz:=HRS.out _ (part_mem vs q (by rw [HVl.out]; exact hqt))
        have HT2:=Lib.hid (take_snoc vs q (by rw [HVl.out]; exact hqt))
        obtain ⟨x,hx⟩:∃ y,partAt vs q=y:=⟨_,rfl⟩
        rw [hx] at hvcell hvz HT2
        clear hx
        by_cases h3:300 < x.size
        ·have g4:decide ((300:Int) < (x.size:Int))=true:=decide_eq_true (by omega)
         have g4':(300:Int) < (x.size:Int):=by omega
         go_wp2_with fail
         go_ret
         exact guardB_no (Below.refl _ _)
        ·have g4:decide ((300:Int) < (x.size:Int))=false:=decide_eq_false (by omega)
         have g4':¬ (300:Int) < (x.size:Int):=by omega
         have HQ2:=Lib.hid (show ∀ v ∈ vs.take (q + 1),v.size <= 300 from fun v hv=>by
          rw [HT2.out] at hv
          rcases List.mem_append.1 hv with k | k
          ·exact HQ.out v k
          ·rw [List.mem_singleton.1 k]; exact Nat.not_lt.1 h3)
         go_wp2_with fail
         go_round
         case rel=>exact ⟨q + 1,S2 + x.size + 1,by omega,by go_num,by go_num,by omega,HQ2⟩
         case measure=>simp [intOf]; omega
       ·obtain rfl:vn=q:=by omega
        have g1:decide ((vn:Int) < (vn:Int))=false:=decide_eq_false (by omega)
        have HAl:=Lib.hid (show ∀ v ∈ vs,v.size <= 300 by have:=HQ.out; rwa [List.take_of_length_le (by rw [HVl.out]; exact Nat.le_refl _)] at this)
        have HV2:=Lib.hid (show ∀ a ∈ l.take (j + 1),MdS a from fun a ha=>by
         rw [HTk.out] at ha
         rcases List.mem_append.1 ha with k | k
         ·exact HV.out a k
         ·rw [List.mem_singleton.1 k]; exact ⟨by show an.size <= 100; omega,by show vs.length <= 20; rw [HVl.out]; omega,HAl.out⟩)
        go_wp2_with fail
        go_round
        case rel=>exact ⟨j + 1,S2,by omega,by omega,by go_num,rfl,by omega,HV2⟩
        case measure=>simp [intOf]; omega
  ·obtain rfl:n=j:=by omega
   have d1:decide ((n:Int) < (n:Int))=false:=decide_eq_false (by omega)
   have HVT:=Lib.hid (show ∀ a ∈ l,MdS a by have:=HV.out; rwa [List.take_of_length_le (by rw [HLen.out]; exact Nat.le_refl _)] at this)
   have HG:=Lib.hid (show FewMd l from ⟨by rw [HLen.out]; omega,HVT.out⟩)
   by_cases h5:S < 2000
   ·have d7:decide ((S:Int) < (2000:Int))=true:=decide_eq_true (by omega)
    have d7':(S:Int) < (2000:Int):=by omega
    go_wp2_with fail
    go_ret
    exact guardB_yes HG.out (Below.refl _ _)
   ·have d7:decide ((S:Int) < (2000:Int))=false:=decide_eq_false (by omega)
    have d7':¬ (S:Int) < (2000:Int):=by omega
    go_wp2_with fail
    go_ret
    exact guardB_no (Below.refl _ _)
theorem min_k (s:ByteArray):∃ m:Nat,m <= 1000 /\ min (s.size:Int) 1000=(m:Int):=⟨min s.size 1000,Nat.min_le_right _ _,by omega⟩
set_option maxHeartbeats 8000000 in
theorem smallS8_s (ao:Option Addr) (n cap:Nat) (ts:List Ty) (bo:Option Addr) (m dap:Nat) (cs:List Cl) (w:World) (hT:TysAt w ao n cap ts) (hC:ClsAt w bo m dap cs) :
  Calls Tryz.prog 24 #[.agg #[.slice ao n cap, .slice bo m dap]] w fun e w'=>GuardB True w e w':=by
 have HT:=Lib.hid hT
 have HC:=Lib.hid hC
 have htx:=hT.2.2.1
 have hcx:=hC.2.2.1
 have htn:=hT.2.1
 have hcn:=hC.2.1
 unfold maxLen at htx hcx
 clear hT hC
 have HK0:=Lib.hid (fb_new w ao n cap bo m dap)
 obtain ⟨c0,c1⟩:=HK0.out.cells
 go_enter Tryz.func24,Tryz.ntmps24
 by_cases h70:70 < n
 ·have d4:decide ((70:Int) < (n:Int))=true:=decide_eq_true (by omega)
  have d4':(70:Int) < (n:Int):=by omega
  go_wp2_with fail
  go_ret
  exact guardB_no HK0.out.low
 ·have d4:decide ((70:Int) < (n:Int))=false:=decide_eq_false (by omega)
  have d4':¬ (70:Int) < (n:Int):=by omega
  by_cases h40:40 < m
  ·have d5:decide ((40:Int) < (m:Int))=true:=decide_eq_true (by omega)
   have d5':(40:Int) < (m:Int):=by omega
   go_wp2_with fail
   go_ret
   exact guardB_no HK0.out.low
  ·have d5:decide ((40:Int) < (m:Int))=false:=decide_eq_false (by omega)
   have d5':¬ (40:Int) < (m:Int):=by omega
   go_wp2_with fail
   generalize w.alloc (.cells #[.slice ao n cap, .slice bo m dap] 25)=W1 at HK0 c0 c1 ⊢
   go_loop [3,4] (fun s3 i=>∃ (k S:Nat),k <= n /\ i = .int .i64 k /\ s3 = .int .i64 S /\ S <= k * 1000) (fun _ i=>n - (intOf i).toNat)
   case atStart=>exact ⟨0,0,Nat.zero_le _,rfl,rfl,Nat.zero_le _⟩
   case round =>
    obtain ⟨k,S,hk,rfl,rfl,hS⟩:=hrel
    by_cases hlt:k < n
    ·have d1:decide ((k:Int) < (n:Int))=true:=decide_eq_true (by omega)
     have d0:(0:Int) <= (k:Int):=by omega
     have d3:(k:Int) < (n:Int):=by omega
     obtain ⟨b,off,rfl,hbl,hs⟩:=(HT.out.below HK0.out.low).2.2.2 (by omega)
     have hcell:=(hs k hlt).1
     clear hs
     obtain ⟨p,hp⟩:∃ x,(tyAt ts k).name=x:=⟨_,rfl⟩
     rw [hp] at hcell
     clear hp
     obtain ⟨x,hx,hmin⟩:=min_k p
     go_wp2_with fail
     go_round
     case rel=>exact ⟨k + 1,S + x,by omega,by go_num,by go_num,by omega⟩
     case measure=>simp [intOf]; omega
    ·obtain rfl:n=k:=by omega
     have d1:decide ((n:Int) < (n:Int))=false:=decide_eq_false (by omega)
     clear d1
     have d2:¬ (n:Int) < (n:Int):=by omega
     go_wp2_with fail
     clear c0 c1
     go_loopw [3,5,6,7,8] (fun s3 i s6 s7 s8 wr=>∃ (j S:Nat),j <= m /\ i = .int .i64 j /\ s3 = .int .i64 S /\ S <= 70000 + j * 82000 /\ Hid (FB w wr ao n cap bo m dap)) (fun _ i _ _ _ _=>m - (intOf i).toNat)
     case atStart=>exact ⟨0,S,Nat.zero_le _,rfl,rfl,by omega,HK0⟩
     case round =>
      clear HK0 hS
      obtain ⟨j,S,hj,rfl,rfl,hS,HKj⟩:=hrel
      obtain ⟨c0,c1⟩:=HKj.out.cells
      by_cases hlt:j < m
      ·have d1:decide ((j:Int) < (m:Int))=true:=decide_eq_true (by omega)
       have d0:(0:Int) <= (j:Int):=by omega
       have d3:(j:Int) < (m:Int):=by omega
       obtain ⟨b,off,rfl,hbl,hs⟩:=(HC.out.below HKj.out.low).2.2.2 (by omega)
       obtain ⟨y0,y1,⟨a1,p1,q1,y2,hS1⟩,a2,p2,q2,y3,hS2⟩:=hs j hlt
       clear hs
       obtain ⟨C,hC⟩:∃ x,clAt cs j=x:=⟨_,rfl⟩
       rw [hC] at y0 y1 hS1 hS2
       clear hC
       obtain ⟨nm,sup,mu,ma⟩:=C
       simp only at y0 y1 hS1 hS2
       have HB1:=Lib.hid ((Below.refl wr.heap.size wr).alloc (Nat.le_refl _) (.cells #[.string nm, .string sup, .slice a1 p1 q1, .slice a2 p2 q2] 64))
       have HK6:Hid (Kb (wr.alloc (.cells #[.string nm, .string sup, .slice a1 p1 q1, .slice a2 p2 q2] 64)) wr.heap.size (.cells #[.string nm, .string sup, .slice a1 p1 q1, .slice a2 p2 q2] 64)):=Lib.hid (kbl_new _ _)
       have HQ1:=Lib.hid (hS1.below HB1.out)
       have HQ2:=Lib.hid (hS2.below HB1.out)
       have HKn:=Lib.hid (HKj.out.step HB1.out)
       have hp1:=hS1.2.2.1
       have hp1c:=hS1.2.1
       have hp2:=hS2.2.2.1
       have hp2c:=hS2.2.1
       have HL1:=Lib.hid hS1.1
       have HL2:=Lib.hid hS2.1
       unfold maxLen at hp1 hp2
       clear hS1 hS2
       by_cases h1:40 < p1
       ·have d6:decide ((40:Int) < (p1:Int))=true:=decide_eq_true (by omega)
        have d6':(40:Int) < (p1:Int):=by omega
        go_wp2_with fail
        go_ret
        exact guardB_no HKn.out.low
       ·have d6:decide ((40:Int) < (p1:Int))=false:=decide_eq_false (by omega)
        have d6':¬ (40:Int) < (p1:Int):=by omega
        by_cases h2:40 < p2
        ·have d7:decide ((40:Int) < (p2:Int))=true:=decide_eq_true (by omega)
         have d7':(40:Int) < (p2:Int):=by omega
         go_wp2_with fail
         go_ret
         exact guardB_no HKn.out.low
        ·have d7:decide ((40:Int) < (p2:Int))=false:=decide_eq_false (by omega)
         have d7':¬ (40:Int) < (p2:Int):=by omega
         obtain ⟨xn,hxn,hmn⟩:=min_k nm
         obtain ⟨xs,hxs,hms⟩:=min_k sup
         go_wp2_with fail
         clear c0 c1 y0 y1 y2 y3
         obtain ⟨b6,hb6⟩:∃ x,wr.heap.size=x:=⟨_,rfl⟩
         rw [hb6] at HK6 ⊢
         clear hb6
         generalize wr.alloc (.cells #[.string nm, .string sup, .slice a1 p1 q1, .slice a2 p2 q2] 64)=W8 at HKn HK6 HQ1 HQ2 ⊢
         have k2:=HK6.out.cell (i:=2) rfl
         have k3:=HK6.out.cell (i:=3) rfl
         go_loop [3,7] (fun s3 i=>∃ (q T:Nat),q <= p1 /\ i = .int .i64 q /\ s3 = .int .i64 T /\ T <= 72000 + j * 82000 + q * 1000) (fun _ i=>p1 - (intOf i).toNat)
         case atStart=>exact ⟨0,S + xn + xs,Nat.zero_le _,rfl,by go_num,by omega⟩
         case round =>
          obtain ⟨q,T,hq,rfl,rfl,hT⟩:=hrel
          by_cases hqt:q < p1
          ·have g1:decide ((q:Int) < (p1:Int))=true:=decide_eq_true (by omega)
           have g0:(0:Int) <= (q:Int):=by omega
           have g3:(q:Int) < (p1:Int):=by omega
           obtain ⟨vb,voff,rfl,hvb,hvs⟩:=HQ1.out.2.2.2 (by omega)
           have hvcell:=hvs q (by rw [HL1.out]; exact hqt)
           clear hvs
           obtain ⟨x,hx⟩:∃ y,partAt mu q=y:=⟨_,rfl⟩
           rw [hx] at hvcell
           clear hx
           obtain ⟨z,hz,hmz⟩:=min_k x
           go_wp2_with fail
           go_round
           case rel=>exact ⟨q + 1,T + z,by omega,by go_num,by go_num,by omega⟩
           case measure=>simp [intOf]; omega
          ·obtain rfl:p1=q:=by omega
           have g1:decide ((p1:Int) < (p1:Int))=false:=decide_eq_false (by omega)
           clear g1
           have g2:¬ (p1:Int) < (p1:Int):=by omega
           go_wp2_with fail
           go_loop [3,8] (fun s3 i=>∃ (q T2:Nat),q <= p2 /\ i = .int .i64 q /\ s3 = .int .i64 T2 /\ T2 <= 112000 + j * 82000 + q * 1000) (fun _ i=>p2 - (intOf i).toNat)
           case atStart=>exact ⟨0,T,Nat.zero_le _,rfl,rfl,by omega⟩
           case round =>
            obtain ⟨q,T2,hq,rfl,rfl,hT2⟩:=hrel
            by_cases hqt:q < p2
            ·have g1:decide ((q:Int) < (p2:Int))=true:=decide_eq_true (by omega)
             have g0:(0:Int) <= (q:Int):=by omega
             have g3:(q:Int) < (p2:Int):=by omega
             obtain ⟨vb,voff,rfl,hvb,hvs⟩:=HQ2.out.2.2.2 (by omega)
             have hvcell:=hvs q (by rw [HL2.out]; exact hqt)
             clear hvs
             obtain ⟨x,hx⟩:∃ y,partAt ma q=y:=⟨_,rfl⟩
             rw [hx] at hvcell
             clear hx
             obtain ⟨z,hz,hmz⟩:=min_k x
             go_wp2_with fail
             go_round
             case rel=>exact ⟨q + 1,T2 + z,by omega,by go_num,by go_num,by omega⟩
             case measure=>simp [intOf]; omega
            ·obtain rfl:p2=q:=by omega
             have g1:¬ (p2:Int) < (p2:Int):=by omega
             go_wp2_with fail
             go_roundw
             case rel=>exact ⟨j + 1,T2,by omega,by go_num,rfl,by omega,HKn⟩
             case measure=>simp [intOf]; omega
      ·obtain rfl:m=j:=by omega
       have d1:¬ (m:Int) < (m:Int):=by omega
       by_cases h5:S < 3000
       ·have d7:decide ((S:Int) < (3000:Int))=true:=decide_eq_true (by omega)
        have d7':(S:Int) < (3000:Int):=by omega
        go_wp2_with fail
        go_ret
        exact guardB_yes trivial HKj.out.low
       ·have d7:decide ((S:Int) < (3000:Int))=false:=decide_eq_false (by omega)
        have d7':¬ (S:Int) < (3000:Int):=by omega
        go_wp2_with fail
        go_ret
        exact guardB_no HKj.out.low
end Go.Proofs.YtmmdaegdkikkpaaGreatDoor
end

section
set_option maxRecDepth 100000
namespace Go.Proofs.YtmmdaegdkikkpaaGreatDoor
open Go.ChangeShapes Go.WideShapes Go.ChangeAt Go.RowKit Go.PlainAid
theorem bk_one {H:Type} (d:DataW H):1 <= Rows.uptoBulk d:=by
 cases d with
 | lit l=>cases l <;> simp [Rows.uptoBulk]
 | nil=>simp [Rows.uptoBulk]
 | ptr d=>simp [Rows.uptoBulk]
 | slice elems spare=>simp [Rows.uptoBulk]
 | agg parts=>simp [Rows.uptoBulk]
 | iface t d=>simp [Rows.uptoBulk]
 | map entries=>simp [Rows.uptoBulk]
 | held h=>simp [Rows.uptoBulk]
theorem bk_part {H:Type} {d:DataW H}:∀ {l:List (DataW H)},d ∈ l -> Rows.uptoBulk d <= Rows.uptoBulkAll l
 | x :: r,h=>by
  simp only [Rows.uptoBulkAll]
  rcases List.mem_cons.1 h with e | e
  ·rw [e]; omega
  ·have:=bk_part e; omega
theorem bk_len {H:Type}:∀ l:List (DataW H),l.length <= Rows.uptoBulkAll l
 | []=>Nat.zero_le _
 | x :: r=>by
  have h1:=bk_one x
  have h2:=bk_len r
  simp only [Rows.uptoBulkAll,List.length_cons]; omega
theorem bk_slice {H:Type} {d:DataW H} {el sp:List (DataW H)} (h:d ∈ el):Rows.uptoBulk d <= Rows.uptoBulk (.slice el sp):=by
 have:=bk_part h
 simp only [Rows.uptoBulk]; omega
theorem bk_slice_len {H:Type} {el sp:List (DataW H)} {K:Nat} (h:Rows.uptoBulk (.slice el sp) <= K):el.length <= K:=by
 have:=bk_len el
 simp only [Rows.uptoBulk] at h; omega
theorem bk_agg {H:Type} {d:DataW H} {l:List (DataW H)} (h:d ∈ l):Rows.uptoBulk d <= Rows.uptoBulk (.agg l):=by
 have:=bk_part h
 simp only [Rows.uptoBulk]; omega
theorem bk_str {H:Type} (bytes:List UInt8):Rows.uptoBulk (DataW.lit (H:=H) (.string bytes))=bytes.length + 1:=by simp [Rows.uptoBulk]
theorem bk_bound {H:Type} {l:List (DataW H)} (hk:Rows.uptoSmall H l=true):Rows.uptoBulkAll l <= 1048576:=of_decide_eq_true hk
def SBk (K:Nat) (l:List ByteArray):Prop:=l.length <= K /\ ∀ v ∈ l,v.size <= K
def RAU (K:Nat) (l:List At):Prop:=l.length <= K /\ ∀ a ∈ l,a.1.size <= K /\ SBk K a.2
def RTyU (K:Nat) (l:List Ty):Prop:=l.length <= K /\ ∀ t ∈ l,t.name.size <= K
def RClU (K:Nat) (l:List Cl):Prop:=l.length <= K /\ ∀ c ∈ l,c.name.size <= K /\ c.super.size <= K /\ SBk K c.must /\ SBk K c.may
theorem strs_bulk {H:Type} {ss:List ByteArray} {sp:List (DataW H)} {K:Nat} (hz:Rows.uptoBulk (DataW.slice (strs ss) sp) <= K):SBk K ss:=by
 refine ⟨?_,fun v hv => ?_⟩
 ·have h:=bk_slice_len hz
  simpa [strs] using h
 ·have h:=Nat.le_trans (bk_slice (sp:=sp) (d:=DataW.lit (H:=H) (.string v.data.toList)) (el:=strs ss) (List.mem_map.2 ⟨v,hv,rfl⟩)) hz
  rw [bk_str,str_len] at h
  omega
theorem RAU.ra {K:Nat} {l:List At} (h:RAU K l) (hK:K <= 1048576):RA l:=fun a ha=>⟨by have:=(h.2 a ha).1; omega,fun v hv=>by have:=(h.2 a ha).2.2 v hv; omega⟩
theorem RAU.sm {K:Nat} {l:List At} (h:RAU K l) (hK:K <= 1048576):SmallA l:=fun a ha=>⟨by have:=(h.2 a ha).1; omega,fun v hv=>by have:=(h.2 a ha).2.2 v hv; omega⟩
theorem RAU.fv {K:Nat} {l:List At} (h:RAU K l) (hK:K <= 1048576):FewV l:=fun a ha=>by have:=(h.2 a ha).2.1; omega
theorem RTyU.sm {K:Nat} {l:List Ty} (h:RTyU K l) (hK:K <= 1048576):SmT l:=fun t ht=>by have:=h.2 t ht; omega
theorem RClU.sm {K:Nat} {l:List Cl} (h:RClU K l) (hK:K <= 1048576):SmC l:=fun c hc=>by
 obtain ⟨h1,h2,h3,h4⟩:=h.2 c hc
 exact ⟨by omega,by omega,fun s hs=>by have:=h3.2 s hs; omega,fun s hs=>by have:=h4.2 s hs; omega⟩
theorem trod_strU {K:Nat} {H:Type} {enc:TypeId × Value -> H} {W:World} {v:Value} {y:DataW H × List MemPlace} {fuel:Nat}
  (hf:DataW.trod enc Tryz.prog W 0 (fun _=>true) true fuel 9 [v]=some y) (hz:Rows.uptoBulk y.1 <= K):∃ s,v = .string s /\ s.size <= K:=by
 obtain ⟨s0,e0,ed,_⟩:=DataW.trod_string Tryz.underlying9 hf
 simp only [List.cons.injEq,and_true] at e0
 refine ⟨s0,e0, ?_⟩
 rw [ed] at hz
 have h:Rows.uptoBulk (DataW.lit (H:=H) (.string s0.data.toList)) <= K:=hz
 rw [bk_str,str_len] at h
 omega
set_option maxRecDepth 100000 in
theorem trod_strsU {K:Nat} {H:Type} {enc:TypeId × Value -> H} {W:World} {v:Value} {x:DataW H × List MemPlace} {fuel:Nat}
  (hf:DataW.trod enc Tryz.prog W 0 (fun _=>true) true fuel 55 [v]=some x) (hz:Rows.uptoBulk x.1 <= K):∃ ao n cap ps,v = .slice ao n cap /\ StrsAt W ao n cap ps /\ SBk K ps:=by
 rcases open_strings Tryz.underlying55 Tryz.underlying9 cells_string hf with ⟨hcs,hx⟩ | ⟨a,len,cap,ss,hcs,_,hl,hm,hzz,hx,hcell,hws⟩
 ·injection hcs with h1 _
  exact ⟨none,0,0,[],h1,⟨rfl,Nat.le_refl _,by unfold maxLen; omega,fun h=>absurd h (by omega)⟩,⟨Nat.zero_le _,fun v hv=>(List.not_mem_nil hv).elim⟩⟩
 ·injection hcs with h1 _
  simp only [if_true] at hzz
  subst hx
  refine ⟨_,len,cap,ss.take len,h1,⟨by rw [List.length_take]; omega,hl,hm,fun hn => ?_⟩,strs_bulk hz⟩
  obtain ⟨b,off,spot⟩:=a
  have hspot:spot=none:=by simpa [Addr.add] using World.cell?_spot (hcell 0 (by omega))
  subst hspot
  have h1:=hcell 0 (by omega)
  rw [add_plain] at h1
  refine ⟨b,off,rfl,World.block_lt_of_cell? W _ h1,fun j hj => ?_⟩
  rw [List.length_take] at hj
  rw [<- add_plain,hcell j (by omega)]
  unfold partAt
  rw [List.getD_eq_getElem?_getD,List.getD_eq_getElem?_getD,List.getElem?_take,if_pos (by omega)]
set_option maxRecDepth 100000 in
theorem trod_tysU {K:Nat} {H:Type} {enc:TypeId × Value -> H} {W:World} {v:Value} {y:DataW H × List MemPlace} {fuel:Nat}
  (hf:DataW.trod enc Tryz.prog W 0 (fun _=>true) true fuel 22 [v]=some y) (hz:Rows.uptoBulk y.1 <= K):∃ ao n cap l,v = .slice ao n cap /\ TysAt W ao n cap l /\ RTyU K l:=by
 rcases Go.Deep.open_slice Tryz.underlying22 hf with ⟨hcs,hx⟩ | ⟨a,len,cap,m,n,D,Pl,hcs,_,hl,hm,hmm,hx,hel⟩
 ·simp only [List.cons.injEq,and_true] at hcs
  exact ⟨none,0,0,[],hcs,⟨rfl,Nat.le_refl _,by unfold maxLen; omega,fun h=>absurd h (by omega)⟩,⟨Nat.zero_le _,fun a ha=>(List.not_mem_nil ha).elim⟩⟩
 ·simp only [List.cons.injEq,and_true] at hcs
  simp only [if_true] at hmm
  rw [hmm] at hel hx
  have each:∀ i,i < len -> ∃ t:Ty,(W.cell? (a.add (i * 3))=some (.string t.name) /\ W.cell? ((a.add (i * 3)).add 1)=some (.int .i64 t.syn) /\ W.cell? ((a.add (i * 3)).add 2)=some (.bool t.single)) /\ t.name.size <= K:=fun i hi=>by
   obtain ⟨cs,h1,h2⟩:=hel i (by omega)
   obtain ⟨v0,v1,v2,y0,y1,y2,k,e0,e1,e2,g0,g1,g2,hd⟩:=elem3 Tryz.underlying62 cells_ty rfl rfl rfl (by kernel_rfl) (by kernel_rfl) (by kernel_rfl) h1 h2
   have hw:Rows.uptoBulk (DataW.agg [y0.1,y1.1,y2.1]) <= K:=by
    rw [hx] at hz
    exact Nat.le_trans (bk_slice (List.mem_map.2 ⟨i,List.mem_range.2 hi,hd⟩)) hz
   obtain ⟨s,rfl,hs⟩:=trod_strU (K:=K) g0 (Nat.le_trans (bk_agg (by simp)) hw)
   obtain ⟨x,hx1,_⟩:=DataW.trod_int und_syntax g1
   obtain ⟨t,ht1,_⟩:=DataW.trod_bool Tryz.underlying4 g2
   simp only [List.cons.injEq,and_true] at hx1 ht1
   rw [hx1] at e1
   rw [ht1] at e2
   rw [cells_ty] at e0 e1 e2
   exact ⟨⟨s,x,t⟩,⟨e0,e1,e2⟩,hs⟩
  obtain ⟨l,hll,hlp⟩:=choose_list (default:Ty) each
  have hlk:len <= K:=by
   rw [hx] at hz
   have h:=bk_slice_len hz
   simp at h; omega
  refine ⟨_,len,cap,l,hcs,⟨hll,hl,hm,fun hn => ?_⟩,by omega,fun t ht => ?_⟩
  ·obtain ⟨b,off,spot⟩:=a
   have h1:=(hlp 0 hn).1.1
   have hspot:spot=none:=by simpa [Addr.add] using World.cell?_spot h1
   subst hspot
   refine ⟨b,off,rfl, ?_,fun j hj => ?_⟩
   ·rw [add_plain] at h1; exact World.block_lt_of_cell? W _ h1
   ·obtain ⟨⟨k0,k1,k2⟩,_⟩:=hlp j hj
    rw [add_plain] at k0 k1 k2
    rw [add_plain] at k1 k2
    exact ⟨k0,k1,k2⟩
  ·obtain ⟨j,hj,rfl⟩:=mem_ty ht
   exact (hlp j (by omega)).2
set_option maxRecDepth 100000 in
theorem trod_clsU {K:Nat} {H:Type} {enc:TypeId × Value -> H} {W:World} {v:Value} {y:DataW H × List MemPlace} {fuel:Nat}
  (hf:DataW.trod enc Tryz.prog W 0 (fun _=>true) true fuel 23 [v]=some y) (hz:Rows.uptoBulk y.1 <= K):∃ ao n cap l,v = .slice ao n cap /\ ClsAt W ao n cap l /\ RClU K l:=by
 rcases Go.Deep.open_slice Tryz.underlying23 hf with ⟨hcs,hx⟩ | ⟨a,len,cap,m,n,D,Pl,hcs,_,hl,hm,hmm,hx,hel⟩
 ·simp only [List.cons.injEq,and_true] at hcs
  exact ⟨none,0,0,[],hcs,⟨rfl,Nat.le_refl _,by unfold maxLen; omega,fun h=>absurd h (by omega)⟩,⟨Nat.zero_le _,fun a ha=>(List.not_mem_nil ha).elim⟩⟩
 ·simp only [List.cons.injEq,and_true] at hcs
  simp only [if_true] at hmm
  rw [hmm] at hel hx
  have each:∀ i,i < len -> ∃ t:Cl,(W.cell? (a.add (i * 4))=some (.string t.name) /\ W.cell? ((a.add (i * 4)).add 1)=some (.string t.super) /\ (∃ vo vn vc,W.cell? ((a.add (i * 4)).add 2)=some (.slice vo vn vc) /\ StrsAt W vo vn vc t.must) /\ ∃ vo vn vc,W.cell? ((a.add (i * 4)).add 3)=some (.slice vo vn vc) /\ StrsAt W vo vn vc t.may) /\
    t.name.size <= K /\ t.super.size <= K /\ SBk K t.must /\ SBk K t.may:=fun i hi=>by
   obtain ⟨cs,h1,h2⟩:=hel i (by omega)
   obtain ⟨v0,v1,v2,v3,y0,y1,y2,y3,k,e0,e1,e2,e3,g0,g1,g2,g3,hd⟩:=elem4 Tryz.underlying64 cells_cl rfl rfl rfl rfl (by kernel_rfl) (by kernel_rfl) (by kernel_rfl) (by kernel_rfl) h1 h2
   have hw:Rows.uptoBulk (DataW.agg [y0.1,y1.1,y2.1,y3.1]) <= K:=by
    rw [hx] at hz
    exact Nat.le_trans (bk_slice (List.mem_map.2 ⟨i,List.mem_range.2 hi,hd⟩)) hz
   obtain ⟨s,rfl,hs⟩:=trod_strU (K:=K) g0 (Nat.le_trans (bk_agg (by simp)) hw)
   obtain ⟨u,rfl,hu⟩:=trod_strU (K:=K) g1 (Nat.le_trans (bk_agg (by simp)) hw)
   obtain ⟨vo,vn,vc,ms,rfl,hms,rms⟩:=trod_strsU (K:=K) g2 (Nat.le_trans (bk_agg (by simp)) hw)
   obtain ⟨uo,un,uc,ys,rfl,hys,rys⟩:=trod_strsU (K:=K) g3 (Nat.le_trans (bk_agg (by simp)) hw)
   rw [cells_cl] at e0 e1 e2 e3
   exact ⟨⟨s,u,ms,ys⟩,⟨e0,e1,⟨vo,vn,vc,e2,hms⟩,uo,un,uc,e3,hys⟩,hs,hu,rms,rys⟩
  obtain ⟨l,hll,hlp⟩:=choose_list (default:Cl) each
  have hlk:len <= K:=by
   rw [hx] at hz
   have h:=bk_slice_len hz
   simp at h; omega
  refine ⟨_,len,cap,l,hcs,⟨hll,hl,hm,fun hn => ?_⟩,by omega,fun t ht => ?_⟩
  ·obtain ⟨b,off,spot⟩:=a
   have h1:=(hlp 0 hn).1.1
   have hspot:spot=none:=by simpa [Addr.add] using World.cell?_spot h1
   subst hspot
   refine ⟨b,off,rfl, ?_,fun j hj => ?_⟩
   ·rw [add_plain] at h1; exact World.block_lt_of_cell? W _ h1
   ·obtain ⟨⟨k0,k1,⟨vo,vn,vc,k2,m2⟩,uo,un,uc,k3,m3⟩,_⟩:=hlp j hj
    rw [add_plain] at k0 k1 k2 k3
    rw [add_plain] at k1 k2 k3
    exact ⟨k0,k1,⟨vo,vn,vc,k2,m2⟩,uo,un,uc,k3,m3⟩
  ·obtain ⟨j,hj,rfl⟩:=mem_cl ht
   exact (hlp j (by omega)).2
theorem open_schemaU {K:Nat} {H:Type} {enc:TypeId × Value -> H} {W:World} {base:Nat} {v:Value} {d:DataW H} {p:List MemPlace} (hval:Value.okWide Tryz.prog W .any base 25 v)
  (h0:DataW.Trod enc Tryz.prog W 0 (fun _=>true) true 25 v d p) (hz:Rows.uptoBulk d <= K) :
  ∃ to tn tc ts co cn cc cs,v = .agg #[.slice to tn tc, .slice co cn cc] /\ TysAt W to tn tc ts /\ RTyU K ts /\ ClsAt W co cn cc cs /\ RClU K cs:=by
 obtain ⟨v0,v1,y0,y1,n,rfl,rfl,_,h1,h2⟩:=Go.Joins.open_agg2 Tryz.underlying25 (by kernel_rfl) (by kernel_rfl) hval h0
 obtain ⟨to,tn,tc,ts,rfl,ht,rt⟩:=trod_tysU (K:=K) h1 (Nat.le_trans (bk_agg (by simp)) hz)
 obtain ⟨co,cn,cc,cs,rfl,hc,rc⟩:=trod_clsU (K:=K) h2 (Nat.le_trans (bk_agg (by simp)) hz)
 exact ⟨to,tn,tc,ts,co,cn,cc,cs,rfl,ht,rt,hc,rc⟩
theorem trod_attrsU {K:Nat} {H:Type} {enc:TypeId × Value -> H} {W:World} {v:Value} {y:DataW H × List MemPlace} {fuel:Nat}
  (hf:DataW.trod enc Tryz.prog W 0 (fun _=>true) true fuel 35 [v]=some y) (hz:Rows.uptoBulk y.1 <= K):∃ ao n cap l,v = .slice ao n cap /\ AttrsAt W ao n cap l /\ RAU K l:=by
 rcases Go.Deep.open_slice_pairs Tryz.underlying35 Tryz.underlying58 cells_attr rfl rfl (by kernel_rfl) (by kernel_rfl) hf with ⟨hcs,hx⟩ | ⟨a,len',cap',m,n,V0,V1,D0,D1,P0,P1,hcs,_,hl,hm,hmm,hx,hcell⟩
 ·simp only [List.cons.injEq,and_true] at hcs
  exact ⟨none,0,0,[],hcs,⟨rfl,Nat.le_refl _,by unfold maxLen; omega,fun h=>absurd h (by omega)⟩,⟨Nat.zero_le _,fun a ha=>(List.not_mem_nil ha).elim⟩⟩
 ·simp only [List.cons.injEq,and_true] at hcs
  subst hcs
  simp only [if_true] at hmm
  rw [hmm] at hcell
  by_cases hn:0 < len'
  ·obtain ⟨b,off,spot⟩:=a
   have h1:=(hcell 0 (by omega)).1
   have hspot:spot=none:=by simpa [Addr.add] using World.cell?_spot h1
   subst hspot
   have hb:b < W.heap.size:=by
    rw [add_plain] at h1
    exact World.block_lt_of_cell? W _ h1
   have hd:y.1 = .slice ((List.range len').map fun i => .agg [D0 i,D1 i]) ((List.range (m - len')).map fun j => .agg [D0 (len' + j),D1 (len' + j)]):=congrArg Prod.fst hx
   obtain ⟨l,hpl,hps,hq⟩:=choose_attrsR (w:=W) (b:=b) (off:=off) (len:=len') (Q:=fun a=>a.1.size <= K /\ SBk K a.2) (fun i hi=>by
    obtain ⟨c0,c1,t0,t1⟩:=hcell i (by omega)
    rw [add_plain] at c0 c1
    have hw:Rows.uptoBulk (DataW.agg [D0 i,D1 i]) <= K:=by
     rw [hd] at hz
     exact Nat.le_trans (bk_slice (List.mem_map.2 ⟨i,List.mem_range.2 hi,rfl⟩)) hz
    have hw0:Rows.uptoBulk (D0 i) <= K:=Nat.le_trans (bk_agg (by simp)) hw
    have hw1:Rows.uptoBulk (D1 i) <= K:=Nat.le_trans (bk_agg (by simp)) hw
    obtain ⟨s0,e0,ed,_⟩:=DataW.trod_string Tryz.underlying9 t0
    simp only [List.cons.injEq,and_true] at e0
    have ed0:D0 i = .lit (.string s0.data.toList):=congrArg Prod.fst ed
    obtain ⟨aj,nj,cj,ps,e1,hs,hr⟩:=trod_strsU (K:=K) t1 hw1
    rw [e0] at c0
    rw [e1, <- Nat.add_assoc] at c1
    refine ⟨(s0,ps),⟨c0,aj,nj,cj,c1,hs⟩, ?_,hr⟩
    rw [ed0,bk_str,str_len] at hw0
    show s0.size <= K
    omega)
   have hlk:len' <= K:=by
    rw [hd] at hz
    have h:=bk_slice_len hz
    simp at h; omega
   exact ⟨_,len',cap',l,rfl,⟨hpl,hl,hm,fun _=>⟨b,off,rfl,hb,hps⟩⟩,by omega,hq⟩
  ·exact ⟨_,len',cap',[],rfl,⟨by simp; omega,hl,hm,fun h=>absurd h hn⟩,⟨Nat.zero_le _,fun a ha=>(List.not_mem_nil ha).elim⟩⟩
theorem open_entryU {K:Nat} {H:Type} {enc:TypeId × Value -> H} {W:World} {base:Nat} {v:Value} {d:DataW H} {p:List MemPlace} (hval:Value.okWide Tryz.prog W .any base 37 v)
  (h0:DataW.Trod enc Tryz.prog W 0 (fun _=>true) true 37 v d p) (hz:Rows.uptoBulk d <= K) :
  ∃ en ao n cap l,v = .agg #[.string en, .slice ao n cap] /\ en.size <= K /\ AttrsAt W ao n cap l /\ RAU K l:=by
 obtain ⟨v0,v1,y0,y1,n,rfl,rfl,_,h1,h2⟩:=Go.Joins.open_agg2 Tryz.underlying37 (by kernel_rfl) (by kernel_rfl) hval h0
 obtain ⟨s0,rfl,z0⟩:=trod_strU (K:=K) h1 (Nat.le_trans (bk_agg (by simp)) hz)
 obtain ⟨ao,m,cap,l,rfl,hl,rl⟩:=trod_attrsU (K:=K) h2 (Nat.le_trans (bk_agg (by simp)) hz)
 exact ⟨s0,ao,m,cap,l,rfl,z0,hl,rl⟩
def RMU (K:Nat) (l:List Md):Prop:=l.length <= K /\ ∀ m ∈ l,m.name.size <= K /\ SBk K m.vs
theorem RMU.rm {K:Nat} {l:List Md} (h:RMU K l) (hK:K <= 1048576):RM l:=fun m hm=>⟨by have:=(h.2 m hm).1; omega,fun v hv=>by have:=(h.2 m hm).2.2 v hv; omega⟩
theorem cells_md:Tryz.prog.cellsOf 102=3:=by kernel_rfl
theorem und_op:Tryz.prog.underlying 100=some (.int .i64):=by kernel_rfl
theorem mem_md {l:List Md} {m:Md} (h:m ∈ l):∃ j,j < l.length /\ mdD l j=m:=by
 obtain ⟨j,hj,e⟩:=List.mem_iff_getElem.1 h
 refine ⟨j,hj, ?_⟩
 unfold mdD
 rw [List.getD_eq_getElem?_getD,List.getElem?_eq_getElem hj]; exact e
set_option maxRecDepth 100000 in
theorem trod_modsU {K:Nat} {H:Type} {enc:TypeId × Value -> H} {W:World} {v:Value} {y:DataW H × List MemPlace} {fuel:Nat}
  (hf:DataW.trod enc Tryz.prog W 0 (fun _=>true) true fuel 44 [v]=some y) (hz:Rows.uptoBulk y.1 <= K):∃ ao n cap l,v = .slice ao n cap /\ MdsAt W ao n cap l /\ RMU K l:=by
 rcases Go.Deep.open_slice Tryz.underlying44 hf with ⟨hcs,hx⟩ | ⟨a,len,cap,m,n,D,Pl,hcs,_,hl,hm,hmm,hx,hel⟩
 ·simp only [List.cons.injEq,and_true] at hcs
  exact ⟨none,0,0,[],hcs,⟨rfl,Nat.le_refl _,by unfold maxLen; omega,fun h=>absurd h (by omega)⟩,⟨Nat.zero_le _,fun a ha=>(List.not_mem_nil ha).elim⟩⟩
 ·simp only [List.cons.injEq,and_true] at hcs
  simp only [if_true] at hmm
  rw [hmm] at hel hx
  have each:∀ i,i < len -> ∃ t:Md,(W.cell? (a.add (i * 3))=some (.int .i64 t.op) /\ W.cell? ((a.add (i * 3)).add 1)=some (.string t.name) /\ ∃ vo vn vc,W.cell? ((a.add (i * 3)).add 2)=some (.slice vo vn vc) /\ StrsAt W vo vn vc t.vs) /\ t.name.size <= K /\ SBk K t.vs:=fun i hi=>by
   obtain ⟨cs,h1,h2⟩:=hel i (by omega)
   obtain ⟨v0,v1,v2,y0,y1,y2,k,e0,e1,e2,g0,g1,g2,hd⟩:=elem3 Tryz.underlying102 cells_md rfl rfl rfl (by kernel_rfl) (by kernel_rfl) (by kernel_rfl) h1 h2
   have hw:Rows.uptoBulk (DataW.agg [y0.1,y1.1,y2.1]) <= K:=by
    rw [hx] at hz
    exact Nat.le_trans (bk_slice (List.mem_map.2 ⟨i,List.mem_range.2 hi,hd⟩)) hz
   obtain ⟨s,rfl,hs⟩:=trod_strU (K:=K) g1 (Nat.le_trans (bk_agg (by simp)) hw)
   obtain ⟨vo,vn,vc,ms,rfl,hms,rms⟩:=trod_strsU (K:=K) g2 (Nat.le_trans (bk_agg (by simp)) hw)
   obtain ⟨x,hx1,_⟩:=DataW.trod_int und_op g0
   simp only [List.cons.injEq,and_true] at hx1
   rw [hx1] at e0
   rw [cells_md] at e0 e1 e2
   exact ⟨⟨x,s,ms⟩,⟨e0,e1,vo,vn,vc,e2,hms⟩,hs,rms⟩
  obtain ⟨l,hll,hlp⟩:=choose_list (default:Md) each
  have hlk:len <= K:=by
   rw [hx] at hz
   have h:=bk_slice_len hz
   simp at h; omega
  refine ⟨_,len,cap,l,hcs,⟨hll,hl,hm,fun hn => ?_⟩,by omega,fun t ht => ?_⟩
  ·obtain ⟨b,off,spot⟩:=a
   have h1:=(hlp 0 hn).1.1
   have hspot:spot=none:=by simpa [Addr.add] using World.cell?_spot h1
   subst hspot
   refine ⟨b,off,rfl, ?_,fun j hj => ?_⟩
   ·rw [add_plain] at h1; exact World.block_lt_of_cell? W _ h1
   ·obtain ⟨⟨k0,k1,vo,vn,vc,k2,m2⟩,_⟩:=hlp j hj
    rw [add_plain] at k0 k1 k2
    rw [add_plain] at k1 k2
    exact ⟨k0,k1,vo,vn,vc,k2,m2⟩
  ·obtain ⟨j,hj,rfl⟩:=mem_md ht
   exact (hlp j (by omega)).2
theorem open_modsU {K:Nat} {H:Type} {enc:TypeId × Value -> H} {W:World} {base:Nat} {v:Value} {d:DataW H} {p:List MemPlace} (hval:Value.okWide Tryz.prog W .any base 44 v)
  (h0:DataW.Trod enc Tryz.prog W 0 (fun _=>true) true 44 v d p) (hz:Rows.uptoBulk d <= K):∃ ao n cap l,v = .slice ao n cap /\ MdsAt W ao n cap l /\ RMU K l:=by
 obtain ⟨a0,len,cap,rfl⟩:=okWide_slice Tryz.underlying44 hval
 obtain ⟨fuel,hf⟩:=h0
 have hf':DataW.trod enc Tryz.prog W 0 (fun _=>true) true fuel 44 [.slice a0 len cap]=some (d,p):=by simpa [Value.cells] using hf
 exact trod_modsU hf' hz
end Go.Proofs.YtmmdaegdkikkpaaGreatDoor
end
