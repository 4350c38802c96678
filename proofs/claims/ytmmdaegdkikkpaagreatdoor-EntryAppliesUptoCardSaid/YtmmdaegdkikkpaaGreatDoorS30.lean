/-
  Texts of the schema layer and of those beneath it, joined: EntSml, EntLaw, EntMdR, EntApR. Conditions stand at each contract.
-/
import Derived.Test.YtmmdaegdkikkpaaGreatDoorS29
set_option linter.unusedVariables false
set_option linter.unusedSimpArgs false
set_option linter.unnecessarySimpa false

section
set_option maxRecDepth 100000
namespace Go.Proofs.YtmmdaegdkikkpaaGreatDoor
open Go.RowKit Go.PlainAid
set_option maxHeartbeats 4000000 in
theorem small8_s (ao:Option Addr) (n cap:Nat) (l:List At) (w:World) (h:AttrsAt w ao n cap l) (rA:RA l) :
  Calls Tryz.prog 68 #[.slice ao n cap] w fun e w'=>GuardB (LightE l) w e w':=by
 have HA:=Lib.hid h
 have HR:=Lib.hid rA
 have hl:=h.1
 have hcx:=h.2.2.1
 have hcn:=h.2.1
 unfold maxLen at hcx
 have HLen:=Lib.hid hl
 clear h rA hl
 go_enter Tryz.func68,Tryz.ntmps68
 by_cases h40:40 < n
 ·have d4:decide ((40:Int) < (n:Int))=true:=decide_eq_true (by omega)
  have d4':(40:Int) < (n:Int):=by omega
  go_wp2_with fail
  go_ret
  exact guardB_no (Below.refl _ _)
 ·have d4:decide ((40:Int) < (n:Int))=false:=decide_eq_false (by omega)
  have d4':¬ (40:Int) < (n:Int):=by omega
  go_wp2_with fail
  go_loop [3,4,5] (fun s3 i s5=>∃ (j S:Nat),j <= n /\ i = .int .i64 j /\ s3 = .int .i64 S /\ S <= j * 6020 /\ Hid (∀ a ∈ l.take j,AtS a)) (fun _ i _=>n - (intOf i).toNat)
  case atStart=>exact ⟨0,0,Nat.zero_le _,rfl,rfl,Nat.zero_le _,Lib.hid (fun v hv=>by rw [List.take_zero] at hv; exact absurd hv List.not_mem_nil)⟩
  case round =>
   obtain ⟨j,S,hj,rfl,rfl,hS6,HV⟩:=hrel
   by_cases hlt:j < n
   ·have d1:decide ((j:Int) < (n:Int))=true:=decide_eq_true (by omega)
    have d0:(0:Int) <= (j:Int):=by omega
    have d3:(j:Int) < (n:Int):=by omega
    obtain ⟨b,off,rfl,hbl,hs⟩:=HA.out.2.2.2 (by omega)
    obtain ⟨y0,vo,vn,vc,y1,hS⟩:=hs j hlt
    clear hs
    obtain ⟨hn0,hn1⟩:=HR.out _ (at_mem l j (by rw [HLen.out]; exact hlt))
    have HTk:=Lib.hid (at_take l j (by rw [HLen.out]; exact hlt))
    obtain ⟨A,hA⟩:∃ x,atD l j=x:=⟨_,rfl⟩
    rw [hA] at y0 hS hn0 hn1 HTk
    clear hA
    obtain ⟨an,vs⟩:=A
    simp only at y0 hS hn0 hn1
    have HS1:=Lib.hid hS
    have HVl:=Lib.hid hS.1
    have hvx:=hS.2.2.1
    unfold maxLen at hvx
    have hvc:=hS.2.1
    have HRS:=Lib.hid hn1
    clear hS hn1
    by_cases h2:20 < vn
    ·have d5:decide ((20:Int) < (vn:Int))=true:=decide_eq_true (by omega)
     have d5':(20:Int) < (vn:Int):=by omega
     go_wp2_with fail
     go_ret
     exact guardB_no (Below.refl _ _)
    ·have d5:decide ((20:Int) < (vn:Int))=false:=decide_eq_false (by omega)
     have d5':¬ (20:Int) < (vn:Int):=by omega
     by_cases h1:100 < an.size
     ·have d6:decide ((100:Int) < (an.size:Int))=true:=decide_eq_true (by omega)
      have d6':(100:Int) < (an.size:Int):=by omega
      go_wp2_with fail
      go_ret
      exact guardB_no (Below.refl _ _)
     ·have d6:decide ((100:Int) < (an.size:Int))=false:=decide_eq_false (by omega)
      have d6':¬ (100:Int) < (an.size:Int):=by omega
      go_wp2_with fail
      go_loop [3,5] (fun s3 k=>∃ (q S2:Nat),q <= vn /\ k = .int .i64 q /\ s3 = .int .i64 S2 /\ S2 <= j * 6020 + q * 301 /\ Hid (∀ v ∈ vs.take q,v.size <= 300)) (fun _ k=>vn - (intOf k).toNat)
      case atStart=>exact ⟨0,S,Nat.zero_le _,rfl,rfl,by omega,Lib.hid (fun v hv=>by rw [List.take_zero] at hv; cases hv)⟩
      case round =>
       obtain ⟨q,S2,hq,rfl,rfl,hS2,HQ⟩:=hrel
       by_cases hqt:q < vn
       ·have g1:decide ((q:Int) < (vn:Int))=true:=decide_eq_true (by omega)
        have g0:(0:Int) <= (q:Int):=by omega
        have g3:(q:Int) < (vn:Int):=by omega
        obtain ⟨vb,voff,rfl,hvb,hvs⟩:=HS1.out.2.2.2 (by omega)
        have hvcell:=hvs q (by rw [HVl.out]; exact hqt)
        clear hvs
        have hvz:=HRS.out _ (part_mem vs q (by rw [HVl.out]; exact hqt))
        have HT2:=Lib.hid (take_snoc vs q (by rw [HVl.out]; exact hqt))
        obtain ⟨x,hx⟩:∃ y,partAt vs q=y:=⟨_,rfl⟩
        rw [hx] at hvcell hvz HT2
        clear hx
        by_cases h3:300 < x.size
        ·have g4:decide ((300:Int) < (x.size:Int))=true:=decide_eq_true (by omega)
         have g4':(300:Int) < (x.size:Int):=by omega
         go_wp2_with fail
         go_ret
         exact guardB_no (Below.refl _ _)
        ·have g4:decide ((300:Int) < (x.size:Int))=false:=decide_eq_false (by omega)
         have g4':¬ (300:Int) < (x.size:Int):=by omega
         have HQ2:=Lib.hid (show ∀ v ∈ vs.take (q + 1),v.size <= 300 from fun v hv=>by
          rw [HT2.out] at hv
          rcases List.mem_append.1 hv with k | k
          ·exact HQ.out v k
          ·rw [List.mem_singleton.1 k]; exact Nat.not_lt.1 h3)
         go_wp2_with fail
         go_round
         case rel=>exact ⟨q + 1,S2 + x.size + 1,by omega,by go_num,by go_num,by omega,HQ2⟩
         case measure=>simp [intOf]; omega
       ·obtain rfl:vn=q:=by omega
        have g1:decide ((vn:Int) < (vn:Int))=false:=decide_eq_false (by omega)
        have HAl:=Lib.hid (show ∀ v ∈ vs,v.size <= 300 by have:=HQ.out; rwa [List.take_of_length_le (by rw [HVl.out]; exact Nat.le_refl _)] at this)
        have HV2:=Lib.hid (show ∀ a ∈ l.take (j + 1),AtS a from fun a ha=>by
         rw [HTk.out] at ha
         rcases List.mem_append.1 ha with k | k
         ·exact HV.out a k
         ·rw [List.mem_singleton.1 k]; exact ⟨by show an.size <= 300; omega,by show vs.length <= 20; rw [HVl.out]; omega,HAl.out⟩)
        go_wp2_with fail
        go_round
        case rel=>exact ⟨j + 1,S2,by omega,by go_num,rfl,by omega,HV2⟩
        case measure=>simp [intOf]; omega
   ·obtain rfl:n=j:=by omega
    have d1:decide ((n:Int) < (n:Int))=false:=decide_eq_false (by omega)
    have HVT:=Lib.hid (show ∀ a ∈ l,AtS a by have:=HV.out; rwa [List.take_of_length_le (by rw [HLen.out]; exact Nat.le_refl _)] at this)
    have HG:=Lib.hid (show LightE l from ⟨by rw [HLen.out]; omega,HVT.out⟩)
    by_cases h5:S < 2000
    ·have d7:decide ((S:Int) < (2000:Int))=true:=decide_eq_true (by omega)
     have d7':(S:Int) < (2000:Int):=by omega
     go_wp2_with fail
     go_ret
     exact guardB_yes HG.out (Below.refl _ _)
    ·have d7:decide ((S:Int) < (2000:Int))=false:=decide_eq_false (by omega)
     have d7':¬ (S:Int) < (2000:Int):=by omega
     go_wp2_with fail
     go_ret
     exact guardB_no (Below.refl _ _)
set_option maxHeartbeats 4000000 in
theorem short8_s (en:ByteArray) (ao:Option Addr) (n cap:Nat) (l:List At) (w:World) (h:AttrsAt w ao n cap l) (rA:RA l) :
  Calls Tryz.prog 20 #[.agg #[.string en, .slice ao n cap]] w fun e w'=>GuardB (en.size <= 1000 /\ LightE l) w e w':=by
 have hb0:=below_al w (.cells #[.string en, .slice ao n cap] 37)
 have HS:=Lib.hid (small8_s ao n cap l _ (h.below hb0) rA)
 have HB:=Lib.hid hb0
 clear hb0 h rA
 go_enter Tryz.func20,Tryz.ntmps20
 by_cases h1:en.size <= 1000
 ·have d1:decide ((en.size:Int) <= 1000)=true:=decide_eq_true (by omega)
  have d1':(en.size:Int) <= 1000:=by omega
  go_wp2_with fail
  refine HS.out.mono ?_
  rintro e w1 ⟨g,rfl,hg,hb⟩
  have HB1:=Lib.hid (HB.out.trans (hb.mono HB.out.size))
  clear hb
  go_wp2_with fail
  go_ret
  exact ⟨⟨_,rfl,fun e=>⟨h1,hg e⟩,HB1.out⟩⟩
 ·have d1:decide ((en.size:Int) <= 1000)=false:=decide_eq_false (by omega)
  have d1':¬ (en.size:Int) <= 1000:=by omega
  go_wp2_with fail
  go_ret
  exact guardB_no HB.out
end Go.Proofs.YtmmdaegdkikkpaaGreatDoor
end

section
set_option maxRecDepth 100000
namespace Go.Proofs.YtmmdaegdkikkpaaGreatDoor
open Go.ChangeShapes Go.WideShapes Go.ChangeAt Go.RowKit Go.PlainAid
structure EOk (w:World):Prop where
 io:IntOk w
 mo:MaxOk w
theorem EOk.below {w w':World} (h:EOk w) (hb:Below w.heap.size w w'):EOk w':=⟨h.io.below hb,h.mo.below hb h.mo.lt⟩
theorem eok {W : World} (hL : laidMetH Tryz.prog [("math/bits.deBruijn32tab", Rows.laid_math_bits_deBruijn32tab), ("math/bits.deBruijn64tab", Rows.laid_math_bits_deBruijn64tab), ("internal/strconv.uint64pow10", Rows.laid_internal_strconv_uint64pow10), ("unicode/utf8.acceptRanges", Rows.laid_unicode_utf8_acceptRanges), ("strconv.ErrRange", Rows.laid_strconv_ErrRange), ("strconv.ErrSyntax", Rows.laid_strconv_ErrSyntax), ("unicode/utf8.first", Rows.laid_unicode_utf8_first)] W)
  (hsh:W.ShapedOpen Tryz.prog):EOk W:=by
 rw [MakeChecks.laidMetH_plain _ _ _ (by kernel_rfl)] at hL
 refine ⟨⟨?_, ?_⟩,max_ok hsh⟩
 ·exact Lib.tabIs_of_head (g:=6) (by kernel_rfl) (by kernel_rfl) Tryz.underlying284 Tryz.underlying208 (by kernel_rfl) (by kernel_rfl) hL.tail.tail
 ·obtain ⟨a,s,h,_⟩:=laid_sentinel hL.tail.tail.tail.tail (g:=3) (by kernel_rfl) (by kernel_rfl) Tryz.underlying81 tp_row Tryz.underlying279 Tryz.underlying281 rfl rfl Tryz.underlying9 (by kernel_rfl) (by kernel_rfl)
  exact ⟨_,_,h⟩
theorem LightE.fewV {l:List At} (h:LightE l):FewV l:=fun a ha=>by have:=(h.each a ha).len; omega
end Go.Proofs.YtmmdaegdkikkpaaGreatDoor
end

section
set_option maxRecDepth 100000
namespace Go.Proofs.YtmmdaegdkikkpaaGreatDoor
open Go.RowKit Go.PlainAid
theorem add_none {l:List At} {nm:ByteArray} {fs:List ByteArray} (hn:nameB nm=true) (h:fs.length=0):addR l nm fs=([],6):=by
 unfold addR; rw [if_neg (by rw [hn]; decide),if_pos h]
set_option maxHeartbeats 16000000 in
theorem rmodified_s (to:Option Addr) (tn tc:Nat) (co:Option Addr) (cn cc:Nat) (ts:List Ty) (cs:List Cl) (ao:Option Addr) (n cap:Nat) (l:List At) (op:Int) (nm:ByteArray) (vo:Option Addr) (vn vc:Nat) (vs:List ByteArray) (w:World) (h:SchV w (.agg #[.slice to tn tc, .slice co cn cc]) ts cs) (ha:AttrsAt w ao n cap l) (hv:StrsAt w vo vn vc vs) (hl:LightE l) (hz:SmallS vs) (hm:vn <= 10000) (hn:nm.size <= 1100000) :
  Calls Tryz.prog 87 #[.agg #[.slice to tn tc, .slice co cn cc], .slice ao n cap, .agg #[.int .i64 op, .string nm, .slice vo vn vc]] w fun e w'=>MdP (modR (soundT ts cs) l ⟨op,nm,vs⟩) w e w':=by
 have HS:=Lib.hid h; clear h
 have HA:=Lib.hid ha; clear ha
 have HV:=Lib.hid hv; clear hv
 have HVl:=Lib.hid HV.out.1
 have b0:=below_al w (.cells #[.slice to tn tc, .slice co cn cc] 25)
 have b1:=below_al (w.alloc (.cells #[.slice to tn tc, .slice co cn cc] 25)) (.cells #[.int .i64 op, .string nm, .slice vo vn vc] 102)
 have hb:=b0.trans (b1.mono b0.size)
 have hk0:=(kbl_new w (.cells #[.slice to tn tc, .slice co cn cc] 25)).step b1
 have hk1:Kb ((w.alloc (.cells #[.slice to tn tc, .slice co cn cc] 25)).alloc (.cells #[.int .i64 op, .string nm, .slice vo vn vc] 102)) (w.heap.size + 1) (.cells #[.int .i64 op, .string nm, .slice vo vn vc] 102):=by
  have:=kbl_new (w.alloc (.cells #[.slice to tn tc, .slice co cn cc] 25)) (.cells #[.int .i64 op, .string nm, .slice vo vn vc] 102)
  simpa using this
 have HB:=Lib.hid hb
 have HK:=Lib.hid (And.intro hk0 hk1)
 clear b0 b1 hb hk0 hk1
 have HTy:=Lib.hid (fun (V:World) (hb:Below w.heap.size w V)=>type7_s _ ts cs nm V (HS.out.below hb) (by omega))
 have HNv:=Lib.hid (fun (V:World) (hb:Below w.heap.size w V)=>rnvals_s to tn tc co cn cc ts cs nm vo vn vc vs V (HS.out.below hb) (HV.out.below hb) (by omega) hz (by omega))
 unfold NvP at HNv
 have HNb:=Lib.hid (fun h=>ty_nameB (ts:=ts) (cs:=cs) (n:=nm) h)
 obtain ⟨T,hT⟩:∃ T,soundT ts cs=T:=⟨_,rfl⟩
 rw [hT] at HTy HNv HNb ⊢
 clear hT
 obtain ⟨⟨tn',ty',ts'⟩,htt⟩:∃ t,(tyOf T nm).getD zeroTy=t:=⟨_,rfl⟩
 obtain ⟨tb,htb⟩:∃ b,(tyOf T nm).isSome=b:=⟨_,rfl⟩
 rw [htt,htb] at HTy
 unfold tyV at HTy
 have HTb:=Lib.hid htb
 clear htt htb
 go_enter Tryz.func87,Tryz.ntmps87
 by_cases hop:op=1 ∨ op=2 ∨ op=3
 ·have HOp:=Lib.hid hop
  obtain ⟨c,hc⟩:∃ c,nvE T nm vs=c:=⟨_,rfl⟩
  rw [hc] at HNv
  have HC:=Lib.hid hc
  clear hc
  have key:∀ k:Int,k=1 ∨ k=2 ∨ k=3 -> (k != 1)=decide (k ≠ 1) /\ (k != 2)=decide (k ≠ 2) /\ (k != 3)=decide (k ≠ 3) /\ (k == 1)=decide (k=1) /\ (k == 2)=decide (k=2):=by
   rintro k (rfl | rfl | rfl) <;> decide
  obtain ⟨z1,z2,z3,z4,z5⟩:=key op hop
  obtain ⟨o1,ho1⟩:∃ b,decide (op=1)=b:=⟨_,rfl⟩
  obtain ⟨o2,ho2⟩:∃ b,decide (op=2)=b:=⟨_,rfl⟩
  have HO1:=Lib.hid ho1
  have HO2:=Lib.hid ho2
  have z1:(op != 1) = !o1:=by rw [<- ho1]; rcases hop with rfl | rfl | rfl <;> decide
  have z2:(op != 2) = !o2:=by rw [<- ho2]; rcases hop with rfl | rfl | rfl <;> decide
  have z3:(op != 3)=(o1 || o2):=by rw [<- ho1, <- ho2]; rcases hop with rfl | rfl | rfl <;> decide
  have z4:(op == 1)=o1:=by rw [<- ho1]; rcases hop with rfl | rfl | rfl <;> decide
  have z5:(op == 2)=o2:=by rw [<- ho2]; rcases hop with rfl | rfl | rfl <;> decide
  have z6:o1=true -> o2=false:=fun h=>by rw [<- ho1] at h; rw [<- ho2]; have:=of_decide_eq_true h; subst this; rfl
  clear key ho1 ho2 hop
  cases o1
  ·cases o2
   ·have h3:op=3:=HOp.out.elim (fun k=>by have:=HO1.out; rw [k] at this; cases this) (fun k=>k.elim (fun k=>by have:=HO2.out; rw [k] at this; cases this) id)
    subst h3
    clear z6
    go_wp2_with fail
    refine (HTy.out _ HB.out).mono ?_
    rintro e w1 ⟨rfl,hb⟩
    have hbl:=below_al w1 (.cells #[.string tn', .int .i64 ty', .bool ts'] 62)
    have HB1:=Lib.hid (HB.out.trans ((hb.trans (hbl.mono hb.size)).mono HB.out.size))
    have HK1:=Lib.hid (And.intro ((HK.out.1.step hb).step hbl) ((HK.out.2.step hb).step hbl))
    clear hb hbl
    obtain ⟨c0,c1⟩:(w1.alloc (.cells #[.string tn', .int .i64 ty', .bool ts'] 62)).cell? ⟨w.heap.size,0,none⟩=some (.slice to tn tc) /\ (w1.alloc (.cells #[.string tn', .int .i64 ty', .bool ts'] 62)).cell? ⟨w.heap.size,1,none⟩=some (.slice co cn cc):=⟨HK1.out.1.cell rfl,HK1.out.1.cell rfl⟩
    obtain ⟨m0,m1,m2⟩:(w1.alloc (.cells #[.string tn', .int .i64 ty', .bool ts'] 62)).cell? ⟨w.heap.size + 1,0,none⟩=some (.int .i64 3) /\ (w1.alloc (.cells #[.string tn', .int .i64 ty', .bool ts'] 62)).cell? ⟨w.heap.size + 1,1,none⟩=some (.string nm) /\ (w1.alloc (.cells #[.string tn', .int .i64 ty', .bool ts'] 62)).cell? ⟨w.heap.size + 1,2,none⟩=some (.slice vo vn vc):=⟨HK1.out.2.cell rfl,HK1.out.2.cell rfl,HK1.out.2.cell rfl⟩
    cases tb
    ·go_wp2_with fail
     go_ret2
     exact MdP.no (mod_type (show (3:Int)=1 ∨ (3:Int)=2 ∨ (3:Int)=3 by decide) HTb.out) HB1.out
    ·go_wp2_with fail
     refine (HNv.out _ HB1.out).mono ?_
     rintro e w2 ⟨u,rfl,hrow,hb⟩
     have HB2:=Lib.hid (HB1.out.trans (hb.mono HB1.out.size))
     have HK2:=Lib.hid (HK1.out.2.step hb)
     clear c0 c1 m0 m1 m2
     obtain ⟨m0,m1,m2⟩:w2.cell? ⟨w.heap.size + 1,0,none⟩=some (.int .i64 3) /\ w2.cell? ⟨w.heap.size + 1,1,none⟩=some (.string nm) /\ w2.cell? ⟨w.heap.size + 1,2,none⟩=some (.slice vo vn vc):=⟨HK2.out.cell rfl,HK2.out.cell rfl,HK2.out.cell rfl⟩
     by_cases h0:c=0
     ·subst h0
      have hnl:nvL T nm vs=fmsL T nm vs:=if_pos HC.out
      rw [hnl] at hrow
      obtain ⟨uo,uc,rfl,hst⟩:=strs_own hrow rfl
      have hfl:=fms_len T nm vs
      rw [hfl,HVl.out] at hst ⊢
      have HEd:=Lib.hid (edit_light (vs:=fmsL T nm vs) hl (fun v hv=>clean_sz (fms_clean (nv_fms HC.out).1 v hv)) (by rw [hfl,HVl.out]; exact hm))
      have HX:=Lib.hid (rrep_s ao uo n cap vn uc l nm (fmsL T nm vs) w2 (HA.out.below HB2.out) hst HEd.out hn)
      have HFl:=Lib.hid (hfl.trans HVl.out)
      clear hb hrow hst hfl hnl
      have HE:=Lib.hid (mod_rep (T:=T) (l:=l) (m:=⟨3,nm,vs⟩) rfl HTb.out HC.out)
      go_wp2_with fail
      refine HX.out.mono ?_
      rintro e w3 ⟨v,rfl,⟨ro,rn,rc,rfl,hr⟩,hb⟩
      go_wp2_with fail
      go_ret2
      exact ⟨_,by rw [HE.out]; rfl,⟨ro,rn,rc,rfl,by rw [HE.out]; exact hr⟩,HB2.out.trans (hb.mono HB2.out.size)⟩
     ·have d3:(c != 0)=true:=by simpa using h0
      have HE:=Lib.hid (mod_val (T:=T) (l:=l) (m:=⟨3,nm,vs⟩) (show (3:Int)=1 ∨ (3:Int)=2 ∨ (3:Int)=3 by decide) HTb.out HC.out h0)
      obtain ⟨uo,uc,rfl⟩:=row_slice hrow
      clear hb hrow
      go_wp2_with fail
      go_ret2
      exact MdP.no HE.out HB2.out
   ·have h2:op=2:=of_decide_eq_true HO2.out
    subst h2
    clear z6
    go_wp2_with fail
    refine (HTy.out _ HB.out).mono ?_
    rintro e w1 ⟨rfl,hb⟩
    have hbl:=below_al w1 (.cells #[.string tn', .int .i64 ty', .bool ts'] 62)
    have HB1:=Lib.hid (HB.out.trans ((hb.trans (hbl.mono hb.size)).mono HB.out.size))
    have HK1:=Lib.hid (And.intro ((HK.out.1.step hb).step hbl) ((HK.out.2.step hb).step hbl))
    clear hb hbl
    obtain ⟨c0,c1⟩:(w1.alloc (.cells #[.string tn', .int .i64 ty', .bool ts'] 62)).cell? ⟨w.heap.size,0,none⟩=some (.slice to tn tc) /\ (w1.alloc (.cells #[.string tn', .int .i64 ty', .bool ts'] 62)).cell? ⟨w.heap.size,1,none⟩=some (.slice co cn cc):=⟨HK1.out.1.cell rfl,HK1.out.1.cell rfl⟩
    obtain ⟨m0,m1,m2⟩:(w1.alloc (.cells #[.string tn', .int .i64 ty', .bool ts'] 62)).cell? ⟨w.heap.size + 1,0,none⟩=some (.int .i64 2) /\ (w1.alloc (.cells #[.string tn', .int .i64 ty', .bool ts'] 62)).cell? ⟨w.heap.size + 1,1,none⟩=some (.string nm) /\ (w1.alloc (.cells #[.string tn', .int .i64 ty', .bool ts'] 62)).cell? ⟨w.heap.size + 1,2,none⟩=some (.slice vo vn vc):=⟨HK1.out.2.cell rfl,HK1.out.2.cell rfl,HK1.out.2.cell rfl⟩
    cases tb
    ·go_wp2_with fail
     go_ret2
     exact MdP.no (mod_type (show (2:Int)=1 ∨ (2:Int)=2 ∨ (2:Int)=3 by decide) HTb.out) HB1.out
    ·go_wp2_with fail
     refine (HNv.out _ HB1.out).mono ?_
     rintro e w2 ⟨u,rfl,hrow,hb⟩
     have HB2:=Lib.hid (HB1.out.trans (hb.mono HB1.out.size))
     have HK2:=Lib.hid (HK1.out.2.step hb)
     clear c0 c1 m0 m1 m2
     obtain ⟨m0,m1,m2⟩:w2.cell? ⟨w.heap.size + 1,0,none⟩=some (.int .i64 2) /\ w2.cell? ⟨w.heap.size + 1,1,none⟩=some (.string nm) /\ w2.cell? ⟨w.heap.size + 1,2,none⟩=some (.slice vo vn vc):=⟨HK2.out.cell rfl,HK2.out.cell rfl,HK2.out.cell rfl⟩
     by_cases h0:c=0
     ·subst h0
      have hnl:nvL T nm vs=fmsL T nm vs:=if_pos HC.out
      rw [hnl] at hrow
      obtain ⟨uo,uc,rfl,hst⟩:=strs_own hrow rfl
      have hfl:=fms_len T nm vs
      rw [hfl,HVl.out] at hst ⊢
      have HEd:=Lib.hid (edit_light (vs:=fmsL T nm vs) hl (fun v hv=>clean_sz (fms_clean (nv_fms HC.out).1 v hv)) (by rw [hfl,HVl.out]; exact hm))
      have HX:=Lib.hid (rrem_s ao uo n cap vn uc l nm (fmsL T nm vs) w2 (HA.out.below HB2.out) hst HEd.out hn)
      have HFl:=Lib.hid (hfl.trans HVl.out)
      clear hb hrow hst hfl hnl
      have HE:=Lib.hid (mod_rem (T:=T) (l:=l) (m:=⟨2,nm,vs⟩) rfl HTb.out HC.out)
      go_wp2_with fail
      refine HX.out.mono ?_
      rintro e w3 ⟨v,rfl,⟨ro,rn,rc,rfl,hr⟩,hb⟩
      go_wp2_with fail
      go_ret2
      exact ⟨_,by rw [HE.out]; rfl,⟨ro,rn,rc,rfl,by rw [HE.out]; exact hr⟩,HB2.out.trans (hb.mono HB2.out.size)⟩
     ·have d3:(c != 0)=true:=by simpa using h0
      have HE:=Lib.hid (mod_val (T:=T) (l:=l) (m:=⟨2,nm,vs⟩) (show (2:Int)=1 ∨ (2:Int)=2 ∨ (2:Int)=3 by decide) HTb.out HC.out h0)
      obtain ⟨uo,uc,rfl⟩:=row_slice hrow
      clear hb hrow
      go_wp2_with fail
      go_ret2
      exact MdP.no HE.out HB2.out
  ·have h1:op=1:=of_decide_eq_true HO1.out
   subst h1
   obtain rfl:o2=false:=z6 rfl
   clear z6
   go_wp2_with fail
   refine (HTy.out _ HB.out).mono ?_
   rintro e w1 ⟨rfl,hb⟩
   have hbl:=below_al w1 (.cells #[.string tn', .int .i64 ty', .bool ts'] 62)
   have HB1:=Lib.hid (HB.out.trans ((hb.trans (hbl.mono hb.size)).mono HB.out.size))
   have HK1:=Lib.hid (And.intro ((HK.out.1.step hb).step hbl) ((HK.out.2.step hb).step hbl))
   clear hb hbl
   obtain ⟨c0,c1⟩:(w1.alloc (.cells #[.string tn', .int .i64 ty', .bool ts'] 62)).cell? ⟨w.heap.size,0,none⟩=some (.slice to tn tc) /\ (w1.alloc (.cells #[.string tn', .int .i64 ty', .bool ts'] 62)).cell? ⟨w.heap.size,1,none⟩=some (.slice co cn cc):=⟨HK1.out.1.cell rfl,HK1.out.1.cell rfl⟩
   obtain ⟨m0,m1,m2⟩:(w1.alloc (.cells #[.string tn', .int .i64 ty', .bool ts'] 62)).cell? ⟨w.heap.size + 1,0,none⟩=some (.int .i64 1) /\ (w1.alloc (.cells #[.string tn', .int .i64 ty', .bool ts'] 62)).cell? ⟨w.heap.size + 1,1,none⟩=some (.string nm) /\ (w1.alloc (.cells #[.string tn', .int .i64 ty', .bool ts'] 62)).cell? ⟨w.heap.size + 1,2,none⟩=some (.slice vo vn vc):=⟨HK1.out.2.cell rfl,HK1.out.2.cell rfl,HK1.out.2.cell rfl⟩
   cases tb
   ·go_wp2_with fail
    go_ret2
    exact MdP.no (mod_type (show (1:Int)=1 ∨ (1:Int)=2 ∨ (1:Int)=3 by decide) HTb.out) HB1.out
   ·go_wp2_with fail
    refine (HNv.out _ HB1.out).mono ?_
    rintro e w2 ⟨u,rfl,hrow,hb⟩
    have HB2:=Lib.hid (HB1.out.trans (hb.mono HB1.out.size))
    have HK2:=Lib.hid (HK1.out.2.step hb)
    clear c0 c1 m0 m1 m2
    obtain ⟨m0,m1,m2⟩:w2.cell? ⟨w.heap.size + 1,0,none⟩=some (.int .i64 1) /\ w2.cell? ⟨w.heap.size + 1,1,none⟩=some (.string nm) /\ w2.cell? ⟨w.heap.size + 1,2,none⟩=some (.slice vo vn vc):=⟨HK2.out.cell rfl,HK2.out.cell rfl,HK2.out.cell rfl⟩
    by_cases h0:c=0
    ·subst h0
     have hnl:nvL T nm vs=fmsL T nm vs:=if_pos HC.out
     rw [hnl] at hrow
     obtain ⟨uo,uc,rfl,hst⟩:=strs_own hrow rfl
     have hfl:=fms_len T nm vs
     rw [hfl,HVl.out] at hst ⊢
     have HEd:=Lib.hid (edit_light (vs:=fmsL T nm vs) hl (fun v hv=>clean_sz (fms_clean (nv_fms HC.out).1 v hv)) (by rw [hfl,HVl.out]; exact hm))
     have HX:=Lib.hid (radd_s ao uo n cap vn uc l nm (fmsL T nm vs) w2 (HA.out.below HB2.out) hst HEd.out hn)
     have HFl:=Lib.hid (hfl.trans HVl.out)
     clear hb hrow hst hfl hnl
     have HE:=Lib.hid (mod_add (T:=T) (l:=l) (m:=⟨1,nm,vs⟩) rfl HTb.out HC.out)
     by_cases hv0:vn=0
     ·have hE2:=Lib.hid (show modR T l ⟨1,nm,vs⟩=([],6) from HE.out.trans (add_none (HNb.out HTb.out) (HFl.out.trans hv0)))
      subst hv0
      go_wp2_with fail
      go_ret2
      exact MdP.no hE2.out HB2.out
     ·have d4:((vn:Int) == 0)=false:=by simp; omega
      have d5:¬ (vn:Int)=0:=by omega
      clear hv0
      go_wp2_with fail
      refine HX.out.mono ?_
      rintro e w3 ⟨v,rfl,⟨ro,rn,rc,rfl,hr⟩,hb⟩
      go_wp2_with fail
      go_ret2
      exact ⟨_,by rw [HE.out]; rfl,⟨ro,rn,rc,rfl,by rw [HE.out]; exact hr⟩,HB2.out.trans (hb.mono HB2.out.size)⟩
    ·have d3:(c != 0)=true:=by simpa using h0
     have HE:=Lib.hid (mod_val (T:=T) (l:=l) (m:=⟨1,nm,vs⟩) (show (1:Int)=1 ∨ (1:Int)=2 ∨ (1:Int)=3 by decide) HTb.out HC.out h0)
     obtain ⟨uo,uc,rfl⟩:=row_slice hrow
     clear hb hrow
     go_wp2_with fail
     go_ret2
     exact MdP.no HE.out HB2.out
 ·have HE:=Lib.hid (mod_op (T:=T) (l:=l) (m:=⟨op,nm,vs⟩) hop)
  have d1:(op != 1)=true:=by simp [bne]; omega
  have d2:(op != 2)=true:=by simp [bne]; omega
  have d3:(op != 3)=true:=by simp [bne]; omega
  clear hop
  go_wp2_with fail
  go_ret2
  exact MdP.no HE.out HB.out
structure ArI (T:List Ty) (en:ByteArray) (l:List At) (ms:List Md) (w:World) (b8:Nat) (sch:Obj) (no:Option Addr) (n1 nc:Nat) (i:Nat) (ko:Option Addr) (kn kc:Nat) (k:List At) (wr:World):Prop where
 kS:Kb wr w.heap.size sch
 kR:Kb wr (w.heap.size + 2) (.cells #[.string ⟨#[]⟩, .slice none 0 0] 37)
 kN:Kb wr b8 (.cells #[.string en, .slice no n1 nc] 37)
 at':AttrsAt wr ko kn kc k
 chk:chkA k=0
 run:modsR T l ms=modsR T k (ms.drop i)
 low:Below w.heap.size w wr
theorem ArI.below {T:List Ty} {en:ByteArray} {l:List At} {ms:List Md} {w:World} {b8:Nat} {sch:Obj} {no:Option Addr} {n1 nc:Nat} {i:Nat} {ko:Option Addr} {kn kc:Nat} {k:List At} {wr V:World} (h:ArI T en l ms w b8 sch no n1 nc i ko kn kc k wr) (hb:Below wr.heap.size wr V):ArI T en l ms w b8 sch no n1 nc i ko kn kc k V:=
 ⟨h.kS.step hb,h.kR.step hb,h.kN.step hb,h.at'.below hb,h.chk,h.run,h.low.trans (hb.mono h.low.size)⟩
theorem ArI.next {T:List Ty} {en:ByteArray} {l:List At} {ms:List Md} {w:World} {b8:Nat} {sch:Obj} {no:Option Addr} {n1 nc:Nat} {i:Nat} {ko:Option Addr} {kn kc:Nat} {k:List At} {W:World} (h:ArI T en l ms w b8 sch no n1 nc i ko kn kc k W) (hi:i < ms.length) {ro:Option Addr} {rn rc:Nat} {r:List At} (hr:AttrsAt W ro rn rc r) (hm:modR T k (mdD ms i)=(r,0)) :
  ArI T en l ms w b8 sch no n1 nc (i + 1) ro rn rc r W:=
 ⟨h.kS,h.kR,h.kN,hr,by have:=mod_chk (T:=T) (m:=mdD ms i) h.chk (by rw [hm]); rwa [hm] at this,by rw [h.run,md_drop hi,mods_ok hm],h.low⟩
set_option maxHeartbeats 16000000 in
theorem rapply_s (to:Option Addr) (tn tc:Nat) (co:Option Addr) (cn cc:Nat) (ts:List Ty) (cs:List Cl) (en:ByteArray) (ao:Option Addr) (n cap:Nat) (l:List At) (mo:Option Addr) (mn mc:Nat) (ms:List Md) (w:World) (h:SchV w (.agg #[.slice to tn tc, .slice co cn cc]) ts cs) (hen:en.size <= 1100000) (ha:AttrsAt w ao n cap l) (hS:SmallA l) (hM:MdsAt w mo mn mc ms) (hSm:SmM ms) :
  Calls Tryz.prog 30 #[.agg #[.slice to tn tc, .slice co cn cc], .agg #[.string en, .slice ao n cap], .slice mo mn mc] w fun e w'=>ApP (soundT ts cs) (soundC ts cs) en l ms w e w':=by
 have HS:=Lib.hid h; clear h
 have HA:=Lib.hid ha; clear ha
 have HM:=Lib.hid hM
 have hmcap:=hM.2.1
 have hmmx:=hM.2.2.1
 unfold maxLen at hmmx
 clear hM
 have HMl:=Lib.hid HM.out.1
 have hs0:=below_al w (.cells #[.slice to tn tc, .slice co cn cc] 25)
 have HVd:=Lib.hid (fun (V:World) (hb:Below w.heap.size w V) (c:ByteArray) (bo:Option Addr) (bn bc:Nat) (k:List At) (hk:AttrsAt V bo bn bc k) (hl:LightE k)=>valid7_s to tn tc co cn cc ts cs c bo bn bc k V (HS.out.below hb) hk hl)
 have HMd:=Lib.hid (fun (V:World) (hb:Below w.heap.size w V) (ko:Option Addr) (kn kc:Nat) (k:List At) (op:Int) (nm:ByteArray) (vo:Option Addr) (vn vc:Nat) (vs:List ByteArray) (ha:AttrsAt V ko kn kc k) (hv:StrsAt V vo vn vc vs) (hl:LightE k) (hz:SmallS vs) (hm:vn <= 10000) (hn:nm.size <= 1100000)=>rmodified_s to tn tc co cn cc ts cs ko kn kc k op nm vo vn vc vs V (HS.out.below hb) ha hv hl hz hm hn)
 have hb0:Below w.heap.size w (((w.alloc (.cells #[.slice to tn tc, .slice co cn cc] 25)).alloc (.cells #[.string en, .slice ao n cap] 37)).alloc (.cells #[.string ⟨#[]⟩, .slice none 0 0] 37)):=(hs0.alloc (by simp) _).alloc (by simp; omega) _
 have hk0:Kb (((w.alloc (.cells #[.slice to tn tc, .slice co cn cc] 25)).alloc (.cells #[.string en, .slice ao n cap] 37)).alloc (.cells #[.string ⟨#[]⟩, .slice none 0 0] 37)) w.heap.size (.cells #[.slice to tn tc, .slice co cn cc] 25):=((kbl_new w _).step (below_al _ _)).step (below_al _ _)
 have hk1:Kb (((w.alloc (.cells #[.slice to tn tc, .slice co cn cc] 25)).alloc (.cells #[.string en, .slice ao n cap] 37)).alloc (.cells #[.string ⟨#[]⟩, .slice none 0 0] 37)) (w.heap.size + 1) (.cells #[.string en, .slice ao n cap] 37):=by
  have:=(kbl_new (w.alloc (.cells #[.slice to tn tc, .slice co cn cc] 25)) (.cells #[.string en, .slice ao n cap] 37)).step (below_al _ (.cells #[.string ⟨#[]⟩, .slice none 0 0] 37))
  simpa using this
 have hk2:=enz_new w (.cells #[.slice to tn tc, .slice co cn cc] 25) (.cells #[.string en, .slice ao n cap] 37)
 have HNm:=Lib.hid (rEnNormal_s to tn tc co cn cc ts cs en ao n cap l (((w.alloc (.cells #[.slice to tn tc, .slice co cn cc] 25)).alloc (.cells #[.string en, .slice ao n cap] 37)).alloc (.cells #[.string ⟨#[]⟩, .slice none 0 0] 37)) (HS.out.below hb0) hen (HA.out.below hb0) hS)
 unfold EnP at HNm
 obtain ⟨T,hT⟩:∃ T,soundT ts cs=T:=⟨_,rfl⟩
 obtain ⟨C,hC⟩:∃ C,soundC ts cs=C:=⟨_,rfl⟩
 rw [hT] at HMd HVd HNm ⊢
 rw [hC] at HVd HNm ⊢
 clear hT hC
 obtain ⟨c,hc⟩:∃ c,enE T C en l=c:=⟨_,rfl⟩
 obtain ⟨nn,hnn⟩:∃ x,enN T C en l=x:=⟨_,rfl⟩
 obtain ⟨nl,hnl⟩:∃ x,enL T C en l=x:=⟨_,rfl⟩
 rw [hc,hnn,hnl] at HNm
 have HC:=Lib.hid hc
 have HNN:=Lib.hid (And.intro hnn hnl)
 have HB0:=Lib.hid hb0
 have HK0:=Lib.hid (And.intro hk0 (And.intro hk1 hk2))
 obtain ⟨c0,c1⟩:(((w.alloc (.cells #[.slice to tn tc, .slice co cn cc] 25)).alloc (.cells #[.string en, .slice ao n cap] 37)).alloc (.cells #[.string ⟨#[]⟩, .slice none 0 0] 37)).cell? ⟨w.heap.size,0,none⟩=some (.slice to tn tc) /\ (((w.alloc (.cells #[.slice to tn tc, .slice co cn cc] 25)).alloc (.cells #[.string en, .slice ao n cap] 37)).alloc (.cells #[.string ⟨#[]⟩, .slice none 0 0] 37)).cell? ⟨w.heap.size,1,none⟩=some (.slice co cn cc):=⟨hk0.cell rfl,hk0.cell rfl⟩
 obtain ⟨e0,e1⟩:(((w.alloc (.cells #[.slice to tn tc, .slice co cn cc] 25)).alloc (.cells #[.string en, .slice ao n cap] 37)).alloc (.cells #[.string ⟨#[]⟩, .slice none 0 0] 37)).cell? ⟨w.heap.size + 1,0,none⟩=some (.string en) /\ (((w.alloc (.cells #[.slice to tn tc, .slice co cn cc] 25)).alloc (.cells #[.string en, .slice ao n cap] 37)).alloc (.cells #[.string ⟨#[]⟩, .slice none 0 0] 37)).cell? ⟨w.heap.size + 1,1,none⟩=some (.slice ao n cap):=⟨hk1.cell rfl,hk1.cell rfl⟩
 clear hs0 hb0 hk0 hk1 hk2 hc hnn hnl
 go_enter Tryz.func30,Tryz.ntmps30
 go_wp2_with fail
 refine HNm.out.mono ?_
 rintro e w1 ⟨_,rfl,⟨no,n1,nc,rfl,hNA⟩,hb⟩
 have hbl:=below_al w1 (.cells #[.string nn, .slice no n1 nc] 37)
 have HB1:=Lib.hid (HB0.out.trans ((hb.trans (hbl.mono hb.size)).mono HB0.out.size))
 have HK1:=Lib.hid (And.intro ((HK0.out.1.step hb).step hbl) (And.intro ((HK0.out.2.1.step hb).step hbl) (And.intro ((HK0.out.2.2.step hb).step hbl) (kbl_new w1 (.cells #[.string nn, .slice no n1 nc] 37)))))
 have HNA:=Lib.hid (hNA.below hbl)
 have hsz1:w.heap.size + 3 <= w1.heap.size:=(HK0.out.2.2.step hb).big
 obtain ⟨b8,hb8⟩:∃ x,w1.heap.size=x:=⟨_,rfl⟩
 clear hb hbl hNA c0 c1 e0 e1 HNm HB0 HK0
 by_cases h0:c=0
 ·subst h0
  have HPt:=Lib.hid (en_parts HC.out)
  have HNe:=Lib.hid (show nn=Nam.cleanV en /\ nl=nmL T (nf l) by
   rw [<- HNN.out.1, <- HNN.out.2]; unfold enN enL; rw [if_pos HC.out,if_pos HC.out]; exact ⟨rfl,rfl⟩)
  have HId:=Lib.hid (fun (V:World) (hV:Below (w1.alloc (.cells #[.string nn, .slice no n1 nc] 37)).heap.size (w1.alloc (.cells #[.string nn, .slice no n1 nc] 37)) V)=>same8_s nn en no ao n1 n nc cap nl l V (HNA.out.below hV) (HA.out.below (HB1.out.trans (hV.mono HB1.out.size))))
  obtain ⟨z,hz⟩:∃ z,decide (nn=en /\ nl=l)=z:=⟨_,rfl⟩
  rw [hz] at HId
  obtain ⟨k0,k1⟩:(w1.alloc (.cells #[.string nn, .slice no n1 nc] 37)).cell? ⟨w1.heap.size,0,none⟩=some (.string nn) /\ (w1.alloc (.cells #[.string nn, .slice no n1 nc] 37)).cell? ⟨w1.heap.size,1,none⟩=some (.slice no n1 nc):=⟨HK1.out.2.2.2.cell rfl,HK1.out.2.2.2.cell rfl⟩
  obtain ⟨e0,e1⟩:(w1.alloc (.cells #[.string nn, .slice no n1 nc] 37)).cell? ⟨w.heap.size + 1,0,none⟩=some (.string en) /\ (w1.alloc (.cells #[.string nn, .slice no n1 nc] 37)).cell? ⟨w.heap.size + 1,1,none⟩=some (.slice ao n cap):=⟨HK1.out.2.1.cell rfl,HK1.out.2.1.cell rfl⟩
  have HZ:=Lib.hid hz
  clear hz
  rw [hb8] at k0 k1 HK1
  go_wp2_with fail
  refine (HId.out _ (Below.refl _ _)).mono ?_
  rintro e w2 ⟨rfl,hb⟩
  have HB2:=Lib.hid (HB1.out.trans (hb.mono HB1.out.size))
  have HK2:=Lib.hid (And.intro (HK1.out.1.step hb) (And.intro (HK1.out.2.2.1.step hb) (HK1.out.2.2.2.step hb)))
  have HNA2:=Lib.hid (HNA.out.below hb)
  clear hb k0 k1 e0 e1 HId HK1 HNA
  cases z
  ·have HE:=Lib.hid (ap_arg (T:=T) (cs:=C) (en:=en) (l:=l) (ms:=ms) (fun k=>by
    have:=of_decide_eq_false HZ.out
    exact this ⟨HNe.out.1.trans k.2.1,HNe.out.2.trans k.2.2⟩))
   obtain ⟨r0,r1⟩:w2.cell? ⟨w.heap.size + 2,0,none⟩=some (.string ⟨#[]⟩) /\ w2.cell? ⟨w.heap.size + 2,1,none⟩=some (.slice none 0 0):=⟨HK2.out.2.1.cell rfl,HK2.out.2.1.cell rfl⟩
   have f0:w2.frozen? ⟨w.heap.size + 2,0,none⟩=false:=heap_frozen HK2.out.2.1
   have f1:w2.frozen? ⟨w.heap.size + 2,1,none⟩=false:=heap_frozen HK2.out.2.1
   have HBe:=Lib.hid (below_set1 (below_set1 HB2.out (w.heap.size + 2) 0 (by omega) (.string ⟨#[]⟩)) (w.heap.size + 2) 1 (by omega) (.slice none 0 0))
   go_wp2_with fail
   refine bodyPost_ret (v := .tuple #[.agg #[.string ⟨#[]⟩, .slice none 0 0], .int .i64 2]) (by simp only [results,Tryz.results30]; go_simp) rfl ?_
   exact ApP.no HE.out (by decide) HBe.out
  ·have hq:=of_decide_eq_true HZ.out
   have HG:=Lib.hid (show enE T C en l=0 /\ Nam.cleanV en=en /\ nmL T (nf l)=l from ⟨HC.out,HNe.out.1.symm.trans hq.1,HNe.out.2.symm.trans hq.2⟩)
   have HNo:=Lib.hid (show nameB en=false by have:=clean_no_name HPt.out.1; rwa [HG.out.2.1] at this)
   obtain ⟨hq1,hq2⟩:=hq
   subst hq1 hq2
   by_cases hml:32 < mn
   ·have d3:decide (32 < (mn:Int))=true:=decide_eq_true (by omega)
    have d4:(mn:Int) > 32:=by omega
    have HE:=Lib.hid (ap_lim (ms:=ms) HG.out (by rw [HMl.out]; exact hml))
    obtain ⟨r0,r1⟩:w2.cell? ⟨w.heap.size + 2,0,none⟩=some (.string ⟨#[]⟩) /\ w2.cell? ⟨w.heap.size + 2,1,none⟩=some (.slice none 0 0):=⟨HK2.out.2.1.cell rfl,HK2.out.2.1.cell rfl⟩
    have f0:w2.frozen? ⟨w.heap.size + 2,0,none⟩=false:=heap_frozen HK2.out.2.1
    have f1:w2.frozen? ⟨w.heap.size + 2,1,none⟩=false:=heap_frozen HK2.out.2.1
    have HBe:=Lib.hid (below_set1 (below_set1 HB2.out (w.heap.size + 2) 0 (by omega) (.string ⟨#[]⟩)) (w.heap.size + 2) 1 (by omega) (.slice none 0 0))
    go_wp2_with fail
    refine bodyPost_ret (v := .tuple #[.agg #[.string ⟨#[]⟩, .slice none 0 0], .int .i64 3]) (by simp only [results,Tryz.results30]; go_simp) rfl ?_
    exact ApP.no HE.out (by decide) HBe.out
   ·have d3:decide (32 < (mn:Int))=false:=decide_eq_false (by omega)
    have d4:¬ (mn:Int) > 32:=by omega
    have HLm:=Lib.hid (show ¬ 32 < ms.length by rw [HMl.out]; exact hml)
    have HI:=Lib.hid (show ArI T nn nl ms w b8 (.cells #[.slice to tn tc, .slice co cn cc] 25) no n1 nc 0 no n1 nc nl w2 from
     ⟨HK2.out.1,HK2.out.2.1,HK2.out.2.2,HNA2.out,HPt.out.2.1,rfl,HB2.out⟩)
    obtain ⟨k0,k1⟩:w2.cell? ⟨b8,0,none⟩=some (.string nn) /\ w2.cell? ⟨b8,1,none⟩=some (.slice no n1 nc):=⟨HK2.out.2.2.cell rfl,HK2.out.2.2.cell rfl⟩
    clear HK2 HNA2 HB2 hb8 HB1
    go_wp2_with fail
    clear k0 k1
    go_loopw [10,11,12,13] (fun s10 s11 _ _ wr=>∃ (i:Nat) (ko:Option Addr) (kn kc:Nat) (k:List At),i <= mn /\ s11 = .int .i64 i /\ s10 = .slice ko kn kc /\ Hid (ArI T nn nl ms w b8 (.cells #[.slice to tn tc, .slice co cn cc] 25) no n1 nc i ko kn kc k wr)) (fun _ s11 _ _ _=>mn - (intOf s11).toNat)
    case atStart=>exact ⟨0,no,n1,nc,nl,Nat.zero_le _,rfl,rfl,HI⟩
    case round =>
     clear HI
     obtain ⟨i,ko,kn,kc,k,hi,rfl,rfl,HI⟩:=hrel
     by_cases hlt:i < mn
     ·have d1:decide ((i:Int) < (mn:Int))=true:=decide_eq_true (by omega)
      have g0:(0:Int) <= (i:Int):=by omega
      have g3:(i:Int) < (mn:Int):=by omega
      obtain ⟨mb,moff,rfl,hmb,hmm⟩:=(HM.out.below HI.out.low).2.2.2 (by omega)
      obtain ⟨a0,a1,vo,vn,vc,a2,hst⟩:=hmm i hlt
      clear hmm
      have hmem:mdD ms i ∈ ms:=md_mem (by rw [HMl.out]; exact hlt)
      have HNx:=Lib.hid (fun (W:World) (ro:Option Addr) (rn rc:Nat) (r:List At) (hW:ArI T nn nl ms w b8 (.cells #[.slice to tn tc, .slice co cn cc] 25) no n1 nc i ko kn kc k W)=>hW.next (by rw [HMl.out]; exact hlt) (ro:=ro) (rn:=rn) (rc:=rc) (r:=r))
      have HRun:=Lib.hid (show modsR T nl ms=modsR T k (mdD ms i :: ms.drop (i + 1)) by rw [HI.out.run,md_drop (by rw [HMl.out]; exact hlt)])
      have hz1:=hSm.nm _ hmem
      have hz2:=hSm.vl _ hmem
      have hz3:=hSm.vs _ hmem
      obtain ⟨⟨op,nm,vs⟩,hmd⟩:∃ x,mdD ms i=x:=⟨_,rfl⟩
      rw [hmd] at a0 a1 hst HNx HRun hz1 hz2 hz3
      simp only at a0 a1 hst hz1 hz2 hz3
      have hvn:=hst.1
      rw [hvn] at hz2
      have HZ3:=Lib.hid hz3
      have HSt:=Lib.hid hst
      have HC3:=Lib.hid (And.intro a0 (And.intro a1 a2))
      clear hmd hmem hvn hz3 hst a0 a1 a2
      have HMk:=Lib.hid (fun (X:World) (hb:Below wr.heap.size wr X)=>HMd.out X (HI.out.below hb).low ko kn kc k op nm vo vn vc vs (HI.out.below hb).at' (HSt.out.below hb) (chk_light HI.out.chk) HZ3.out hz2 hz1)
      unfold MdP at HMk
      obtain ⟨⟨r,c⟩,hrc⟩:∃ x,modR T k ⟨op,nm,vs⟩=x:=⟨_,rfl⟩
      rw [hrc] at HMk
      have HRC:=Lib.hid hrc
      clear hrc
      have HCe:=Lib.hid (fun X (hb:Below wr.heap.size wr X)=>show X.cell? ⟨w.heap.size,0,none⟩=some (.slice to tn tc) /\ X.cell? ⟨w.heap.size,1,none⟩=some (.slice co cn cc) /\ X.cell? ⟨mb,moff + i * 3,none⟩=some (.int .i64 op) /\ X.cell? ⟨mb,moff + i * 3 + 1,none⟩=some (.string nm) /\ X.cell? ⟨mb,moff + i * 3 + 2,none⟩=some (.slice vo vn vc) /\ Hid (Below wr.heap.size wr X) from
       ⟨(HI.out.below hb).kS.cell rfl,(HI.out.below hb).kS.cell rfl,cell_later hb HC3.out.1,cell_later hb HC3.out.2.1,cell_later hb HC3.out.2.2,Lib.hid hb⟩)
      go_wp2_with fail
      have S0:=HCe.out _ (show Below wr.heap.size wr wr.drew from (Below.refl _ _).drew)
      refine wp_region_held_drew (S:=fun X=>X.cell? ⟨w.heap.size,0,none⟩=some (.slice to tn tc) /\ X.cell? ⟨w.heap.size,1,none⟩=some (.slice co cn cc) /\ X.cell? ⟨mb,moff + i * 3,none⟩=some (.int .i64 op) /\ X.cell? ⟨mb,moff + i * 3 + 1,none⟩=some (.string nm) /\ X.cell? ⟨mb,moff + i * 3 + 2,none⟩=some (.slice vo vn vc) /\ Hid (Below wr.heap.size wr X)) (by kernel_rfl) (S0) (fun hS => ?_)
      refine rgT 0 (some 44) ?_
      refine rgT 1 (some 45) ?_
      refine rgT 2 (some 46) ?_
      refine rgT 3 (some 47) ?_
      refine rgT 4 (some 48) ?_
      refine rgT 5 (some 49) ?_
      refine rgC 6 (fun K hK => ?_)
      go_simp
      refine (HMk.out _ hS.2.2.2.2.2.out).mono ?_
      rintro e W5 ⟨_,rfl,⟨ro,rn,rc,rfl,hr⟩,hb⟩
      have HB5:=Lib.hid (hS.2.2.2.2.2.out.trans (hb.mono hS.2.2.2.2.2.out.size))
      go_wp2_with fail
      refine hK.out _ _ ?_ (fun hHeld => ?_)
      ·exact HCe.out _ HB5.out
      clear hK K
      try simp only [Act.put,lsA,lsZ,lsS]
      refine rgT 7 (some 43) ?_
      refine rgT 8 (some 51) ?_
      refine rgT 9 (some 52) ?_
      refine rgT 10 (some 12) ?_
      refine rgT 11 (some 13) ?_
      refine wpAnyH_done (by kernel_rfl) ?_ _
      have HI5:=Lib.hid (HI.out.below HB5.out)
      have HR5:=Lib.hid hr
      clear hr
      by_cases h0:c=0
      ·subst h0
       have d5:((0:Int) != 0)=false:=rfl
       have HI6:=Lib.hid (HNx.out W5 ro rn rc r HI5.out HR5.out HRC.out)
       go_wp2_with fail
       go_roundw
       case rel=>exact ⟨i + 1,ro,rn,rc,r,by omega,by go_num,rfl,HI6⟩
       case measure=>simp [intOf]; omega
      ·have d5:(c != 0)=true:=by simpa using h0
       have HE:=Lib.hid (ap_mod (ms:=ms) HG.out HLm.out (HRun.out.trans (mods_no (by rw [HRC.out]) h0)) h0)
       obtain ⟨r0,r1⟩:W5.cell? ⟨w.heap.size + 2,0,none⟩=some (.string ⟨#[]⟩) /\ W5.cell? ⟨w.heap.size + 2,1,none⟩=some (.slice none 0 0):=⟨HI5.out.kR.cell rfl,HI5.out.kR.cell rfl⟩
       have f0:W5.frozen? ⟨w.heap.size + 2,0,none⟩=false:=heap_frozen HI5.out.kR
       have f1:W5.frozen? ⟨w.heap.size + 2,1,none⟩=false:=heap_frozen HI5.out.kR
       have HBe:=Lib.hid (below_set1 (below_set1 HI5.out.low (w.heap.size + 2) 0 (by omega) (.string ⟨#[]⟩)) (w.heap.size + 2) 1 (by omega) (.slice none 0 0))
       go_wp2_with fail
       refine bodyPost_ret (v := .tuple #[.agg #[.string ⟨#[]⟩, .slice none 0 0], .int .i64 c]) (by simp only [results,Tryz.results30]; go_simp) rfl ?_
       exact ApP.no HE.out h0 HBe.out
     ·obtain rfl:i=mn:=by omega
      have d1:decide ((i:Int) < (i:Int))=false:=decide_eq_false (by omega)
      have HRun:=Lib.hid (show modsR T nl ms=(k,0) by rw [HI.out.run,List.drop_of_length_le (by rw [HMl.out]; exact Nat.le_refl _)]; rfl)
      have hbl:=below_al wr (.cells #[.string nn, .slice ko kn kc] 37)
      have HI4:=Lib.hid (HI.out.below hbl)
      have HK4:=Lib.hid (kbl_new wr (.cells #[.string nn, .slice ko kn kc] 37))
      have HVk:=Lib.hid (HVd.out (wr.alloc (.cells #[.string nn, .slice ko kn kc] 37)) HI4.out.low nn ko kn kc k HI4.out.at' (chk_light HI.out.chk))
      obtain ⟨c,hc⟩:∃ c,vldE T C k=c:=⟨_,rfl⟩
      rw [hc] at HVk
      have HE:=Lib.hid (ap_vld (ms:=ms) HG.out HLm.out HRun.out hc)
      obtain ⟨k0,k1⟩:wr.cell? ⟨b8,0,none⟩=some (.string nn) /\ wr.cell? ⟨b8,1,none⟩=some (.slice no n1 nc):=⟨HI.out.kN.cell rfl,HI.out.kN.cell rfl⟩
      obtain ⟨q0,q1⟩:(wr.alloc (.cells #[.string nn, .slice ko kn kc] 37)).cell? ⟨w.heap.size,0,none⟩=some (.slice to tn tc) /\ (wr.alloc (.cells #[.string nn, .slice ko kn kc] 37)).cell? ⟨w.heap.size,1,none⟩=some (.slice co cn cc):=⟨HI4.out.kS.cell rfl,HI4.out.kS.cell rfl⟩
      clear hc hbl
      go_wp2_with fail
      refine HVk.out.mono ?_
      rintro e w7 ⟨rfl,hb⟩
      have HI7:=Lib.hid (HI4.out.below hb)
      have HK7:=Lib.hid (HK4.out.step hb)
      clear hb q0 q1 k0 k1
      by_cases h0:c=0
      ·subst h0
       obtain ⟨k0,k1⟩:w7.cell? ⟨wr.heap.size,0,none⟩=some (.string nn) /\ w7.cell? ⟨wr.heap.size,1,none⟩=some (.slice ko kn kc):=⟨HK7.out.cell rfl,HK7.out.cell rfl⟩
       obtain ⟨r0,r1⟩:w7.cell? ⟨w.heap.size + 2,0,none⟩=some (.string ⟨#[]⟩) /\ w7.cell? ⟨w.heap.size + 2,1,none⟩=some (.slice none 0 0):=⟨HI7.out.kR.cell rfl,HI7.out.kR.cell rfl⟩
       have f0:w7.frozen? ⟨w.heap.size + 2,0,none⟩=false:=heap_frozen HI7.out.kR
       have f1:w7.frozen? ⟨w.heap.size + 2,1,none⟩=false:=heap_frozen HI7.out.kR
       have HBe:=Lib.hid (below_set1 (below_set1 HI7.out.low (w.heap.size + 2) 0 (by omega) (.string nn)) (w.heap.size + 2) 1 (by omega) (.slice ko kn kc))
       have HAe:=Lib.hid (atts_res HI7.out.kR HI7.out.at' HI7.out.chk HNo.out (.slice ko kn kc))
       go_wp2_with fail
       refine bodyPost_ret (v := .tuple #[.agg #[.string nn, .slice ko kn kc], .int .i64 0]) (by simp only [results,Tryz.results30]; go_simp) rfl ?_
       exact ApP.yes HE.out (by rw [HRun.out]) HAe.out HBe.out
      ·have d5:(c != 0)=true:=by simpa using h0
       obtain ⟨r0,r1⟩:w7.cell? ⟨w.heap.size + 2,0,none⟩=some (.string ⟨#[]⟩) /\ w7.cell? ⟨w.heap.size + 2,1,none⟩=some (.slice none 0 0):=⟨HI7.out.kR.cell rfl,HI7.out.kR.cell rfl⟩
       have f0:w7.frozen? ⟨w.heap.size + 2,0,none⟩=false:=heap_frozen HI7.out.kR
       have f1:w7.frozen? ⟨w.heap.size + 2,1,none⟩=false:=heap_frozen HI7.out.kR
       have HBe:=Lib.hid (below_set1 (below_set1 HI7.out.low (w.heap.size + 2) 0 (by omega) (.string ⟨#[]⟩)) (w.heap.size + 2) 1 (by omega) (.slice none 0 0))
       go_wp2_with fail
       refine bodyPost_ret (v := .tuple #[.agg #[.string ⟨#[]⟩, .slice none 0 0], .int .i64 c]) (by simp only [results,Tryz.results30]; go_simp) rfl ?_
       exact ApP.no HE.out h0 HBe.out
 ·have d1:(c != 0)=true:=by simpa using h0
  have HE:=Lib.hid (ap_arg (T:=T) (cs:=C) (en:=en) (l:=l) (ms:=ms) (fun k=>h0 (HC.out.symm.trans k.1)))
  clear hb8
  obtain ⟨r0,r1⟩:(w1.alloc (.cells #[.string nn, .slice no n1 nc] 37)).cell? ⟨w.heap.size + 2,0,none⟩=some (.string ⟨#[]⟩) /\ (w1.alloc (.cells #[.string nn, .slice no n1 nc] 37)).cell? ⟨w.heap.size + 2,1,none⟩=some (.slice none 0 0):=⟨HK1.out.2.2.1.cell rfl,HK1.out.2.2.1.cell rfl⟩
  have f0:(w1.alloc (.cells #[.string nn, .slice no n1 nc] 37)).frozen? ⟨w.heap.size + 2,0,none⟩=false:=heap_frozen HK1.out.2.2.1
  have f1:(w1.alloc (.cells #[.string nn, .slice no n1 nc] 37)).frozen? ⟨w.heap.size + 2,1,none⟩=false:=heap_frozen HK1.out.2.2.1
  have HBe:=Lib.hid (below_set1 (below_set1 HB1.out (w.heap.size + 2) 0 (by omega) (.string ⟨#[]⟩)) (w.heap.size + 2) 1 (by omega) (.slice none 0 0))
  go_wp2_with fail
  refine bodyPost_ret (v := .tuple #[.agg #[.string ⟨#[]⟩, .slice none 0 0], .int .i64 2]) (by simp only [results,Tryz.results30]; go_simp) rfl ?_
  exact ApP.no HE.out (by decide) HBe.out
end Go.Proofs.YtmmdaegdkikkpaaGreatDoor
end
