/-
  Texts of the schema layer and of those beneath it, joined: EntEq, EntAp, EntWo, EntDv, ShelfM, EntDf. Conditions stand at each contract.
-/
import Derived.Shelf.SlMaps.Clone
import Derived.Shelf.SlMaps.Copy
import Derived.Test.YtmmdaegdkikkpaaGreatDoorT17
set_option linter.unusedVariables false
set_option linter.unusedSimpArgs false
set_option linter.unnecessarySimpa false

section
set_option maxRecDepth 100000
namespace Go.Proofs.YtmmdaegdkikkpaaGreatDoor
open Go.RowKit Go.PlainAid
set_option maxRecDepth 100000 in
set_option maxHeartbeats 2000000 in
theorem enEq1_s (p q:ByteArray) (vo uo:Option Addr) (vn un vc uc:Nat) (vs us:List ByteArray) (w:World) (h:StrsAt w vo vn vc vs) (k:StrsAt w uo un uc us) (h0:0 < vn) (k0:0 < un) :
  Calls Tryz.prog 146 #[.agg #[.string p, .slice vo vn vc], .agg #[.string q, .slice uo un uc]] w fun e w'=>e = .returned (.bool (decide (p=q /\ vs=us))) /\ Below w.heap.size w w':=by
 obtain ⟨W1,hW1⟩:∃ x,w.alloc (.cells #[.string p, .slice vo vn vc] 58)=x:=⟨_,rfl⟩
 obtain ⟨W2,hW2⟩:∃ x,W1.alloc (.cells #[.string q, .slice uo un uc] 58)=x:=⟨_,rfl⟩
 have hb1:Below w.heap.size w W1:=by rw [<- hW1]; exact (Below.refl _ w).alloc (Nat.le_refl _) _
 have hb2:Below W1.heap.size W1 W2:=by rw [<- hW2]; exact (Below.refl _ W1).alloc (Nat.le_refl _) _
 have X1:ABox W2 w.heap.size p (.slice vo vn vc):=ABox.below (by rw [<- hW1]; exact abox_new w p _) hb2
 have X2:ABox W2 W1.heap.size q (.slice uo un uc):=by rw [<- hW2]; exact abox_new W1 q _
 have hs1:W1.heap.size=w.heap.size + 1:=by rw [<- hW1]; simp
 rw [hs1] at X2
 obtain ⟨x0,x1⟩:=X1.cells
 obtain ⟨y0,y1⟩:=X2.cells
 have HBW:=Lib.hid (hb1.trans (hb2.mono hb1.size))
 have HV:=Lib.hid (h.below HBW.out)
 have HU:=Lib.hid (k.below HBW.out)
 clear h k hb1 hb2 X1 X2 hs1
 subst hW2
 subst hW1
 by_cases hpq:p=q
 ·have q1:(p.toList == q.toList)=true:=by rw [str_eq]; exact decide_eq_true hpq
  have HE:=Lib.hid (show decide (p=q /\ vs=us)=decide (vs=us) by simp [hpq])
  have HS:=Lib.hid (sequal_s vo uo vn un vc uc vs us _ HV.out HU.out h0 k0)
  clear hpq
  go_enter Tryz.func146,Tryz.ntmps146
  go_wp2_with fail
  refine HS.out.mono ?_
  rintro e w' ⟨rfl,hb⟩
  go_wp2_with fail
  go_ret
  exact ⟨by rw [HE.out]; rfl,HBW.out.trans (hb.mono HBW.out.size)⟩
 ·have q1:(p.toList == q.toList)=false:=by rw [str_eq]; exact decide_eq_false hpq
  have HE:=Lib.hid (show decide (p=q /\ vs=us)=false from decide_eq_false fun e=>hpq e.1)
  clear hpq
  go_enter Tryz.func146,Tryz.ntmps146
  go_wp2_with fail
  go_ret
  exact ⟨by rw [HE.out]; rfl,HBW.out⟩
set_option maxRecDepth 100000 in
set_option maxHeartbeats 4000000 in
theorem enEqf_s (ao bo:Option Addr) (n m cap dap:Nat) (T U:List Tr) (w:World) (h:TsAt w ao n cap T) (k:TsAt w bo m dap U) (hT:TOk w T) (hU:TOk w U) (nT:∀ t ∈ T,t.2.2 ≠ []) (nU:∀ t ∈ U,t.2.2 ≠ []) :
  Calls Tryz.prog 145 #[.slice ao n cap, .slice bo m dap, .func (.func 146) #[] #[]] w fun e w'=>e = .returned (.bool (decide (tats T=tats U))) /\ Below w.heap.size w w':=by
 have hTl:T.length=n:=h.1
 have hUl:U.length=m:=k.1
 have hnb:n <= 9223372036854775807:=Nat.le_trans h.2.1 h.2.2.1
 have HT:=Lib.hid h
 have HU:=Lib.hid k
 have HTK:=Lib.hid hT
 have HUK:=Lib.hid hU
 clear h k hT hU
 by_cases hne:n=m
 ·have hn1:((n:Int) != (m:Int))=false:=by simp; omega
  have HNE:=Lib.hid hne
  clear hne
  go_enter Tryz.func145,Tryz.ntmps145
  go_wp2
  go_loopw [7,8,9,17] (fun s7 s8 s9 iv wr=>∃ q:Nat,q <= n /\ iv = .int .i64 q /\ Hid (∀ j,j < q -> atD (tats T) j=atD (tats U) j) /\ Hid (Below w.heap.size w wr)) (fun _ _ _ iv _=>n - (intOf iv).toNat)
  case atStart=>exact ⟨0,Nat.zero_le _,rfl,Lib.hid (fun j hj=>absurd hj (Nat.not_lt_zero _)),Lib.hid (Below.refl _ _)⟩
  case round =>
   obtain ⟨q,hq,rfl,HA,HB⟩:=hrel
   by_cases hlt:q < n
   ·obtain ⟨b,off,rfl,hblt,_⟩:=HT.out.2.2.2 (by omega)
    obtain ⟨c,off2,rfl,hclt,_⟩:=HU.out.2.2.2 (by have:=HNE.out; omega)
    obtain ⟨a0,a1⟩:=ts_at HT.out q hlt
    obtain ⟨b0,b1⟩:=ts_at HU.out q (by have:=HNE.out; omega)
    have a0:=cell_later HB.out a0
    have a1:=cell_later HB.out a1
    have b0:=cell_later HB.out b0
    have b1:=cell_later HB.out b1
    have hx1:=HTK.out _ (tr_mem T q (by omega))
    have hy1:=HUK.out _ (tr_mem U q (by have:=HNE.out; omega))
    have hx2:=nT _ (tr_mem T q (by omega))
    have hy2:=nU _ (tr_mem U q (by have:=HNE.out; omega))
    have HE1:=Lib.hid (atD_tats T q)
    have HE2:=Lib.hid (atD_tats U q)
    obtain ⟨x,hx⟩:∃ x,trD T q=x:=⟨_,rfl⟩
    obtain ⟨y,hy⟩:∃ x,trD U q=x:=⟨_,rfl⟩
    rw [hx] at a0 a1 hx1 hx2 HE1
    rw [hy] at b0 b1 hy1 hy2 HE2
    clear hx hy
    obtain ⟨p,hd,vs⟩:=x
    obtain ⟨r,he,us⟩:=y
    simp only [] at a0 a1 hx1 hx2 HE1 b0 b1 hy1 hy2 HE2
    obtain ⟨vo,vn,vc,rfl,hv⟩:=hx1
    obtain ⟨uo,un,uc,rfl,hu⟩:=hy1
    have h0:0 < vn:=by rw [<- hv.1]; exact List.length_pos_iff.2 hx2
    have k0:0 < un:=by rw [<- hu.1]; exact List.length_pos_iff.2 hy2
    have d1:(q:Int) < (n:Int):=by omega
    have d2:(q:Int) < (m:Int):=by have:=HNE.out; omega
    have d0:(0:Int) <= (q:Int):=by omega
    obtain ⟨W1,hW1⟩:∃ x,wr.alloc (.cells #[.string p, .slice vo vn vc] 58)=x:=⟨_,rfl⟩
    obtain ⟨W2,hW2⟩:∃ x,W1.alloc (.cells #[.string r, .slice uo un uc] 58)=x:=⟨_,rfl⟩
    have hb1:Below wr.heap.size wr W1:=by rw [<- hW1]; exact (Below.refl _ wr).alloc (Nat.le_refl _) _
    have hb2:Below W1.heap.size W1 W2:=by rw [<- hW2]; exact (Below.refl _ W1).alloc (Nat.le_refl _) _
    have X1:ABox W1 wr.heap.size p (.slice vo vn vc):=by rw [<- hW1]; exact abox_new wr p _
    have X1b:ABox W2 wr.heap.size p (.slice vo vn vc):=ABox.below X1 hb2
    have X2:ABox W2 W1.heap.size r (.slice uo un uc):=by rw [<- hW2]; exact abox_new W1 r _
    have hs1:W1.heap.size=wr.heap.size + 1:=by rw [<- hW1]; simp
    rw [hs1] at X2
    obtain ⟨x0,x1⟩:=X1b.cells
    obtain ⟨y0,y1⟩:=X2.cells
    have b01:=cell_later hb1 b0
    have b11:=cell_later hb1 b1
    have HBW:=Lib.hid (HB.out.trans ((hb1.trans (hb2.mono hb1.size)).mono HB.out.size))
    have HV:=Lib.hid (hv.below HBW.out)
    have HUU:=Lib.hid (hu.below HBW.out)
    have HS:=Lib.hid (enEq1_s p r vo uo vn un vc uc vs us W2 HV.out HUU.out h0 k0)
    clear hb1 hb2 X1 X1b X2 hs1 hv hu
    subst hW2
    subst hW1
    obtain ⟨z,hz⟩:∃ x,decide (p=r /\ vs=us)=x:=⟨_,rfl⟩
    rw [hz] at HS
    cases z with
    | true =>
     have HX:=Lib.hid (show atD (tats T) q=atD (tats U) q by
      have:=of_decide_eq_true hz
      rw [HE1.out,HE2.out,this.1,this.2])
     clear hz
     go_wp2_with fail
     refine HS.out.mono ?_
     rintro e w5 ⟨rfl,hb⟩
     have HB6:=Lib.hid (HBW.out.trans (hb.mono HBW.out.size))
     go_wp2_with fail
     go_roundw
     case rel =>
      refine ⟨q + 1,by omega,by go_num,Lib.hid fun j hj => ?_,HB6⟩
      by_cases e:j=q
      ·rw [e]; exact HX.out
      ·exact HA.out j (by omega)
     case measure=>simp [intOf]; omega
    | false =>
     have HX:=Lib.hid (show decide (tats T=tats U)=false from decide_eq_false fun e=>of_decide_eq_false hz (by
      have h5:=HE1.out
      rw [e,HE2.out] at h5
      exact ⟨(congrArg Prod.fst h5).symm,(congrArg Prod.snd h5).symm⟩))
     clear hz
     go_wp2_with fail
     refine HS.out.mono ?_
     rintro e w5 ⟨rfl,hb⟩
     have HB6:=Lib.hid (HBW.out.trans (hb.mono HBW.out.size))
     go_wp2_with fail
     go_ret
     exact ⟨by rw [HX.out]; rfl,HB6.out⟩
   ·have HX:=Lib.hid (show decide (tats T=tats U)=true from decide_eq_true (ats_ext (by rw [tats_len,tats_len]; have:=HNE.out; omega) fun j hj=>HA.out j (by rw [tats_len] at hj; omega)))
    go_wp2_with fail
    go_ret
    exact ⟨by rw [HX.out]; rfl,HB.out⟩
 ·have HX:=Lib.hid (show decide (tats T=tats U)=false from decide_eq_false fun e=>hne (by rw [<- hTl, <- hUl, <- tats_len T, <- tats_len U,e]))
  have hn1:((n:Int) != (m:Int))=true:=by simp; omega
  go_enter Tryz.func145,Tryz.ntmps145
  go_wp2_with fail
  go_ret
  exact ⟨by rw [HX.out]; rfl,Below.refl _ _⟩
set_option maxHeartbeats 4000000 in
theorem identical_s (en fn:ByteArray) (ao bo:Option Addr) (n m cap dap:Nat) (l k:List At) (w:World) (h:AttrsAt w ao n cap l) (h':AttrsAt w bo m dap k) (hl:∀ a ∈ l,a.2 ≠ []) (hk:∀ a ∈ k,a.2 ≠ []) :
  Calls Tryz.prog 85 #[.agg #[.string en, .slice ao n cap], .agg #[.string fn, .slice bo m dap]] w fun e w'=>e = .returned (.bool (decide (en=fn /\ l=k))) /\ Below w.heap.size w w':=by
 have b0:=below_al w (.cells #[.string en, .slice ao n cap] 37)
 have b1:=below_al (w.alloc (.cells #[.string en, .slice ao n cap] 37)) (.cells #[.string fn, .slice bo m dap] 37)
 have HB:=Lib.hid (b0.trans (b1.mono b0.size))
 obtain ⟨T,hT,tT,aT⟩:=ats_ts (h.below HB.out)
 obtain ⟨U,hU,tU,aU⟩:=ats_ts (h'.below HB.out)
 have HS:=Lib.hid (enEqf_s ao bo n m cap dap T U _ aT aU tT tU (fun t ht=>hl (t.1,t.2.2) (by rw [<- hT]; exact List.mem_map.2 ⟨t,ht,rfl⟩)) (fun t ht=>hk (t.1,t.2.2) (by rw [<- hU]; exact List.mem_map.2 ⟨t,ht,rfl⟩)))
 rw [hT,hU] at HS
 clear b0 b1 h h' hT tT aT hU tU aU hl hk
 obtain ⟨z,hz⟩:∃ z,decide (en=fn)=z:=⟨_,rfl⟩
 have q1:(en.toList == fn.toList)=z:=by rw [str_eq]; exact hz
 obtain ⟨y,hy⟩:∃ y,decide (l=k)=y:=⟨_,rfl⟩
 rw [hy] at HS
 have HD:=Lib.hid (show decide (en=fn /\ l=k)=(z && y) by rw [<- hz, <- hy]; exact Bool.decide_and _ _)
 clear hz hy
 go_enter Tryz.func85,Tryz.ntmps85
 cases z
 ·go_wp2_with fail
  go_ret
  exact ⟨by rw [HD.out]; rfl,HB.out⟩
 ·go_wp2_with fail
  refine HS.out.mono ?_
  rintro e w1 ⟨rfl,hb⟩
  go_wp2_with fail
  go_ret
  exact ⟨by rw [HD.out]; rfl,HB.out.trans (hb.mono HB.out.size)⟩
theorem clean_eq61 {s:ByteArray} (h:Nam.cleanV s ≠ ⟨#[]⟩):(61:UInt8) ∈ (Nam.cleanV s).data.toList:=by
 unfold Nam.cleanV at h ⊢
 by_cases h1:Nam.parseE s=0
 ·rw [if_pos h1] at h ⊢
  unfold Nam.fmtV at h ⊢
  by_cases h2:Nam.fmtE (Nam.parseV s)=0
  ·rw [if_pos h2] at h ⊢
   cases e:Nam.parseV s with
   | nil=>rw [e] at h; exact absurd rfl h
   | cons p r =>
    have key:(61:UInt8) ∈ Nam.fmtC p:=by unfold Nam.fmtC; simp
    have hb:(61:UInt8) ∈ Nam.barC ((p :: r).map Nam.fmtC):=by
     cases r with
     | nil=>exact key
     | cons q t=>rw [List.map_cons,List.map_cons]; exact List.mem_append.2 (.inl key)
    show (61:UInt8) ∈ (Nam.ofB (Nam.barC ((p :: r).map Nam.fmtC))).data.toList
    rw [Nam.ofB_data]; exact hb
  ·rw [if_neg h2] at h; exact absurd rfl h
 ·rw [if_neg h1] at h; exact absurd rfl h
theorem clean_no_name {s:ByteArray} (h:Nam.cleanV s ≠ ⟨#[]⟩):nameB (Nam.cleanV s)=false:=by
 cases e:nameB (Nam.cleanV s)
 ·rfl
 ·exact absurd rfl (Nam.name_bytes e _ (clean_eq61 h)).2.1
theorem two_cell {W:World} {b o:Nat} {c0 c1 x:Value} {t:TypeId} (h:W.heap[b]? = some (.cells #[c0,c1] t)) (hc:W.cell? ⟨b,o,none⟩=some x):(o=0 /\ x=c0) ∨ (o=1 /\ x=c1):=by
 rw [Lib.cell_of_heap h] at hc
 match o,hc with
 | 0,hc=>exact .inl ⟨rfl,by simpa using hc.symm⟩
 | 1,hc=>exact .inr ⟨rfl,by simpa using hc.symm⟩
 | o + 2,hc=>simp at hc
theorem cell_keep1 {W:World} {b g o:Nat} {c0 c1 x:Value} {t:TypeId} (h:W.heap[b]? = some (.cells #[c0,c1] t)) (u:Value) (hc:W.cell? ⟨g,o,none⟩=some x) (hne:g=b -> o ≠ 1):(W.setCell ⟨b,1,none⟩ u).cell? ⟨g,o,none⟩=some x:=by
 by_cases e:g=b
 ·subst e
  rcases two_cell h hc with ⟨rfl,rfl⟩ | ⟨rfl,_⟩
  ·exact heap_cell (Lib.heap_setCell_same h u) rfl
  ·exact absurd rfl (hne rfl)
 ·rw [<- hc]
  exact World.cell?_of_block (a:=⟨g,o,none⟩) (Below.heap_setCell W ⟨b,1,none⟩ u g e)
theorem cell_keep0 {W:World} {b g o:Nat} {c0 c1 x:Value} {t:TypeId} (h:W.heap[b]? = some (.cells #[c0,c1] t)) (u:Value) (hc:W.cell? ⟨g,o,none⟩=some x) (hne:g=b -> o ≠ 0):(W.setCell ⟨b,0,none⟩ u).cell? ⟨g,o,none⟩=some x:=by
 by_cases e:g=b
 ·subst e
  rcases two_cell h hc with ⟨rfl,_⟩ | ⟨rfl,rfl⟩
  ·exact absurd rfl (hne rfl)
  ·exact heap_cell (Lib.heap_setCell_same h u) rfl
 ·rw [<- hc]
  exact World.cell?_of_block (a:=⟨g,o,none⟩) (Below.heap_setCell W ⟨b,0,none⟩ u g e)
theorem atts_set {W:World} {b:Nat} {s:ByteArray} {x:Option Addr} {y z:Nat} {t:TypeId} (hW:W.heap[b]? = some (.cells #[.string s, .slice x y z] t)) {ro:Option Addr} {rn rc:Nat} {r:List At} (h:AttrsAt W ro rn rc r) (hs:∀ a ∈ r,a.1 ≠ s) (u:Value):AttrsAt (W.setCell ⟨b,1,none⟩ u) ro rn rc r:=by
 obtain ⟨h1,h2,h3,h4⟩:=h
 refine ⟨h1,h2,h3,fun hn => ?_⟩
 obtain ⟨g,off,e,hg,ha⟩:=h4 hn
 refine ⟨g,off,e,by rw [set_size]; exact hg,fun j hj => ?_⟩
 obtain ⟨k0,vo,vn,vc,k1,q1,q2,q3,q4⟩:=ha j hj
 have hne:g ≠ b:=fun e=>by
  subst e
  rcases two_cell hW k0 with ⟨_,e⟩ | ⟨_,e⟩
  ·injection e with e
   exact hs _ (by rw [at_get _ _ (by omega)]; exact List.getElem_mem _) e
  ·cases e
 refine ⟨cell_keep1 hW u k0 (fun e=>absurd e hne),vo,vn,vc,cell_keep1 hW u k1 (fun e=>absurd e hne),q1,q2,q3,fun hv => ?_⟩
 obtain ⟨g',o',e',hg',hc'⟩:=q4 hv
 refine ⟨g',o',e',by rw [set_size]; exact hg',fun i hi=>cell_keep1 hW u (hc' i hi) fun e1 e2 => ?_⟩
 subst e1
 rcases two_cell hW (hc' i hi) with ⟨e3,_⟩ | ⟨_,e3⟩
 ·omega
 ·cases e3
theorem atts_set0 {W:World} {b:Nat} {s:ByteArray} {x:Option Addr} {y z:Nat} {t:TypeId} (hW:W.heap[b]? = some (.cells #[.string s, .slice x y z] t)) {ro:Option Addr} {rn rc:Nat} {r:List At} (h:AttrsAt W ro rn rc r) (hs:∀ a ∈ r,a.1 ≠ s /\ s ∉ a.2) (u:Value):AttrsAt (W.setCell ⟨b,0,none⟩ u) ro rn rc r:=by
 obtain ⟨h1,h2,h3,h4⟩:=h
 refine ⟨h1,h2,h3,fun hn => ?_⟩
 obtain ⟨g,off,e,hg,ha⟩:=h4 hn
 refine ⟨g,off,e,by rw [set_size]; exact hg,fun j hj => ?_⟩
 obtain ⟨k0,vo,vn,vc,k1,q1,q2,q3,q4⟩:=ha j hj
 have hm:atD r j ∈ r:=by rw [at_get _ _ (by omega)]; exact List.getElem_mem _
 have hne:g ≠ b:=fun e=>by
  subst e
  rcases two_cell hW k0 with ⟨_,e⟩ | ⟨_,e⟩
  ·injection e with e
   exact (hs _ hm).1 e
  ·cases e
 refine ⟨cell_keep0 hW u k0 (fun e=>absurd e hne),vo,vn,vc,cell_keep0 hW u k1 (fun e=>absurd e hne),q1,q2,q3,fun hv => ?_⟩
 obtain ⟨g',o',e',hg',hc'⟩:=q4 hv
 refine ⟨g',o',e',by rw [set_size]; exact hg',fun i hi=>cell_keep0 hW u (hc' i hi) fun e1 e2 => ?_⟩
 subst e1
 rcases two_cell hW (hc' i hi) with ⟨_,e3⟩ | ⟨e3,_⟩
 ·injection e3 with e3
  refine (hs _ hm).2 ?_
  rw [<- e3]; exact part_mem _ _ hi
 ·omega
theorem chk_names {r:List At} (h:chkA r=0):∀ a ∈ r,nameB a.1=true /\ a.2 ≠ [] /\ ∀ v ∈ a.2,cleanB v=true:=by
 intro a ha
 obtain ⟨j,hj,rfl⟩:=mem_at ha
 have k:=(chk_ok h).each _ ha
 refine ⟨k.1, ?_,k.2.2.clean⟩
 unfold chkA at h
 rw [if_neg (by have:=(chk_ok h).len; omega)] at h
 have h2:=firstE_all h j hj
 unfold errA at h2
 intro e
 rw [if_neg (by rw [k.1]; decide)] at h2
 split at h2
 ·cases h2
 ·rw [e,if_pos (show ([]:List ByteArray).length=0 from rfl)] at h2; cases h2
theorem atts_res {W:World} {b:Nat} {t:TypeId} (hW:W.heap[b]? = some (.cells #[.string ⟨#[]⟩, .slice none 0 0] t)) {ro:Option Addr} {rn rc:Nat} {r:List At} (h:AttrsAt W ro rn rc r) (hc:chkA r=0) {en:ByteArray} (hen:nameB en=false) (u:Value) :
  AttrsAt ((W.setCell ⟨b,0,none⟩ (.string en)).setCell ⟨b,1,none⟩ u) ro rn rc r:=by
 have k:=chk_names hc
 refine atts_set (Lib.heap_setCell_same hW (.string en)) (atts_set0 hW h (fun a ha=>⟨fun e => ?_,fun e => ?_⟩) _) (fun a ha e => ?_) u
 ·have:=(k a ha).1; rw [e] at this; revert this; decide +kernel
 ·have:=(k a ha).2.2 _ e; revert this; decide +kernel
 ·have:=(k a ha).1; rw [e,hen] at this; cases this
/-! ### modifications in a slice -/
def MdAt (w:World) (b off:Nat) (m:Md):Prop:=
 w.cell? ⟨b,off,none⟩=some (.int .i64 m.op) /\ w.cell? ⟨b,off + 1,none⟩=some (.string m.name) /\ ∃ vo vn vc,w.cell? ⟨b,off + 2,none⟩=some (.slice vo vn vc) /\ StrsAt w vo vn vc m.vs
theorem MdAt.below {w w':World} {b off:Nat} {m:Md} (h:MdAt w b off m) (hb:Below w.heap.size w w'):MdAt w' b off m:=by
 obtain ⟨h0,h1,vo,vn,vc,h2,h3⟩:=h
 exact ⟨cell_later hb h0,cell_later hb h1,vo,vn,vc,cell_later hb h2,h3.below hb⟩
def mdD (l:List Md) (j:Nat):Md:=l.getD j default
def MdsAt (w:World) (ao:Option Addr) (n cap:Nat) (l:List Md):Prop:=
 l.length=n /\ n <= cap /\ cap <= maxLen /\ (0 < n -> ∃ b off,ao=some ⟨b,off,none⟩ /\ b < w.heap.size /\ ∀ j,j < n -> MdAt w b (off + j * 3) (mdD l j))
theorem MdsAt.below {w w':World} {ao:Option Addr} {n cap:Nat} {l:List Md} (h:MdsAt w ao n cap l) (hb:Below w.heap.size w w'):MdsAt w' ao n cap l:=
 ⟨h.1,h.2.1,h.2.2.1,fun hn=>by
  obtain ⟨b,off,e,hi,ha⟩:=h.2.2.2 hn
  exact ⟨b,off,e,Nat.lt_of_lt_of_le hi hb.size,fun j hj=>(ha j hj).below hb⟩⟩
theorem md_drop {l:List Md} {i:Nat} (h:i < l.length):l.drop i=mdD l i :: l.drop (i + 1):=by
 rw [List.drop_eq_getElem_cons h]
 congr 1
 unfold mdD
 rw [List.getD_eq_getElem?_getD,List.getElem?_eq_getElem h]; rfl
structure SmM (ms:List Md):Prop where
 nm:∀ m ∈ ms,m.name.size <= 1100000
 vl:∀ m ∈ ms,m.vs.length <= 10000
 vs:∀ m ∈ ms,SmallS m.vs
theorem md_mem {l:List Md} {i:Nat} (h:i < l.length):mdD l i ∈ l:=by
 unfold mdD
 rw [List.getD_eq_getElem?_getD,List.getElem?_eq_getElem h]; exact List.getElem_mem _
/-! ### Apply -/
def apE (T:List Ty) (cs:List Cl) (en:ByteArray) (l:List At) (ms:List Md):Int:=
 if ¬ (enE T cs en l=0 /\ Nam.cleanV en=en /\ nmL T (nf l)=l) then 2 else if 32 < ms.length then 3 else if (modsR T l ms).2 ≠ 0 then (modsR T l ms).2 else vldE T cs (modsR T l ms).1
def apN (T:List Ty) (cs:List Cl) (en:ByteArray) (l:List At) (ms:List Md):ByteArray:=if apE T cs en l ms=0 then en else ⟨#[]⟩
def apL (T:List Ty) (cs:List Cl) (en:ByteArray) (l:List At) (ms:List Md):List At:=if apE T cs en l ms=0 then (modsR T l ms).1 else []
def ApP (T:List Ty) (cs:List Cl) (en:ByteArray) (l:List At) (ms:List Md) (w:World) (e:Ending) (w':World):Prop:=
 ∃ v,e = .returned (.tuple #[v, .int .i64 (apE T cs en l ms)]) /\ EnV w' v (apN T cs en l ms) (apL T cs en l ms) /\ Below w.heap.size w w'
theorem ApP.no {T:List Ty} {cs:List Cl} {en:ByteArray} {l:List At} {ms:List Md} {w w':World} {c:Int} (h:apE T cs en l ms=c) (h0:c ≠ 0) (hb:Below w.heap.size w w'):ApP T cs en l ms w (.returned (.tuple #[.agg #[.string ⟨#[]⟩, .slice none 0 0], .int .i64 c])) w':=by
 subst h
 refine ⟨_,rfl, ?_,hb⟩
 unfold apN apL
 rw [if_neg h0,if_neg h0]
 exact env_nil _
theorem ApP.yes {T:List Ty} {cs:List Cl} {en:ByteArray} {l:List At} {ms:List Md} {w w':World} {ao:Option Addr} {n cap:Nat} {k:List At} (h:apE T cs en l ms=0) (hk:(modsR T l ms).1=k) (ha:AttrsAt w' ao n cap k) (hb:Below w.heap.size w w') :
  ApP T cs en l ms w (.returned (.tuple #[.agg #[.string en, .slice ao n cap], .int .i64 0])) w':=by
 subst hk
 refine ⟨_,by rw [h], ?_,hb⟩
 unfold apN apL
 rw [if_pos h,if_pos h]
 exact ⟨ao,n,cap,rfl,ha⟩
theorem ap_arg {T:List Ty} {cs:List Cl} {en:ByteArray} {l:List At} {ms:List Md} (h:¬ (enE T cs en l=0 /\ Nam.cleanV en=en /\ nmL T (nf l)=l)):apE T cs en l ms=2:=if_pos h
theorem ap_lim {T:List Ty} {cs:List Cl} {en:ByteArray} {l:List At} {ms:List Md} (h:enE T cs en l=0 /\ Nam.cleanV en=en /\ nmL T (nf l)=l) (hm:32 < ms.length):apE T cs en l ms=3:=by
 unfold apE; rw [if_neg (fun k=>k h),if_pos hm]
theorem ap_mod {T:List Ty} {cs:List Cl} {en:ByteArray} {l:List At} {ms:List Md} (h:enE T cs en l=0 /\ Nam.cleanV en=en /\ nmL T (nf l)=l) (hm:¬ 32 < ms.length) {c:Int} {k:List At} (hr:modsR T l ms=(k,c)) (h0:c ≠ 0):apE T cs en l ms=c:=by
 unfold apE; rw [if_neg (fun k=>k h),if_neg hm,hr,if_pos h0]
theorem ap_vld {T:List Ty} {cs:List Cl} {en:ByteArray} {l:List At} {ms:List Md} (h:enE T cs en l=0 /\ Nam.cleanV en=en /\ nmL T (nf l)=l) (hm:¬ 32 < ms.length) {c:Int} {k:List At} (hr:modsR T l ms=(k,0)) (hv:vldE T cs k=c):apE T cs en l ms=c:=by
 subst hv
 unfold apE; rw [if_neg (fun k=>k h),if_neg hm,hr]; exact if_neg (fun k=>k rfl)
theorem en_parts {T:List Ty} {cs:List Cl} {en:ByteArray} {l:List At} (h:enE T cs en l=0):Nam.cleanV en ≠ ⟨#[]⟩ /\ chkA l=0 /\ nmE T (nf l)=0:=by
 unfold enE at h
 by_cases c1:Nam.cleanE en ≠ 0 ∨ Nam.cleanV en=⟨#[]⟩
 ·rw [if_pos c1] at h; cases h
 ·rw [if_neg c1] at h
  by_cases c2:chkA l=0
  ·rw [if_neg (by simp [c2])] at h
   by_cases c3:nmE T (nf l)=0
   ·exact ⟨fun k=>c1 (.inr k),c2,c3⟩
   ·rw [if_pos c3] at h; exact absurd h c3
  ·rw [if_pos c2] at h; exact absurd h c2
def minusL (a b:List ByteArray):List ByteArray:=a.filter fun v => !memB b v
theorem minus_take (a b:List ByteArray) (k:Nat) (h:k < a.length):minusL (a.take (k + 1)) b=minusL (a.take k) b ++ (if memB b (partAt a k)=true then [] else [partAt a k]):=by
 unfold minusL
 rw [take_snoc a k h,List.filter_append]
 congr 1
 cases e:memB b (partAt a k) <;> simp [e]
theorem minus_len (a b:List ByteArray):(minusL a b).length <= a.length:=List.length_filter_le _ _
theorem containsS_s (ao:Option Addr) (n cap:Nat) (vs:List ByteArray) (x:ByteArray) (w:World) (hs:StrsAt w ao n cap vs) :
  Calls Tryz.prog 228 #[.slice ao n cap, .string x] w fun e w'=>e = .returned (.bool (memB vs x)) /\ w'=w:=by
 by_cases h0:0 < n
 ·obtain ⟨b,off,rfl,hi⟩:=hs.2.2.2 h0
  refine (AnyG.slices_Contains_string Tryz.contains b off n cap vs x w (by rw [hs.1]; exact Nat.le_refl _) (Nat.le_trans hs.2.1 hs.2.2.1) (fun j hj=>hi.2 j hj)).mono ?_
  rintro e w' ⟨rfl,rfl⟩
  rw [List.take_of_length_le (by rw [hs.1]; exact Nat.le_refl _),contains_mem]
  exact ⟨rfl,rfl⟩
 ·obtain rfl:n=0:=by omega
  have e0:vs = []:=List.length_eq_zero_iff.1 hs.1
  subst e0
  exact AnyG.slices_Contains_string_empty Tryz.contains ao cap x w
set_option maxHeartbeats 4000000 in
theorem without_s (ao bo:Option Addr) (n m cap dap:Nat) (a b:List ByteArray) (w:World) (h:StrsAt w ao n cap a) (k:StrsAt w bo m dap b) (hn:n <= 1100000) :
  Calls Tryz.prog 157 #[.slice ao n cap, .slice bo m dap] w fun e w'=>∃ v,e = .returned v /\ w'.ownsRow w.heap.size 9 1 v (minusL a b).length (scells (minusL a b)) /\ Below w.heap.size w w':=by
 have HA:=Lib.hid h
 have HK:=Lib.hid k
 have HL:=Lib.hid h.1
 have hcap:=h.2.1
 have hmx:=h.2.2.1
 unfold maxLen at hmx
 clear h k
 go_enter Tryz.func157,Tryz.ntmps157
 go_wp2_with fail
 go_loopw [5,7,10] (fun s5 _ s10 wr=>∃ (i:Nat),i <= n /\ s10 = .int .i64 i /\ wr.ownsRow w.heap.size 9 1 s5 (minusL (a.take i) b).length (scells (minusL (a.take i) b)) /\ Hid (Below w.heap.size w wr)) (fun _ _ s10 _=>n - (intOf s10).toNat)
 case atStart=>exact ⟨0,Nat.zero_le _,rfl,World.ownsRow_nil _ _ _ _,Lib.hid (Below.refl _ _)⟩
 case round =>
  obtain ⟨i,hi,rfl,hown,HB⟩:=hrel
  by_cases hlt:i < n
  ·have d1:(i:Int) < (n:Int):=by omega
   obtain ⟨g,off,rfl,hg,hc⟩:=(HA.out.below HB.out).2.2.2 (by omega)
   have hcell:=hc i (by rw [HL.out]; exact hlt)
   clear hc
   have HT:=Lib.hid (minus_take a b i (by rw [HL.out]; exact hlt))
   obtain ⟨p,hp⟩:∃ x,partAt a i=x:=⟨_,rfl⟩
   rw [hp] at hcell HT
   clear hp
   have HC:=Lib.hid (containsS_s bo m dap b p wr (HK.out.below HB.out))
   obtain ⟨z,hz⟩:∃ z,memB b p=z:=⟨_,rfl⟩
   rw [hz] at HC HT
   clear hz
   have hql:(minusL (a.take i) b).length <= 1100000:=by have:=minus_len (a.take i) b; rw [List.length_take] at this; omega
   have hsz:=HB.out.size
   go_wp2_with fail
   refine HC.out.mono ?_
   rintro e w1 ⟨rfl,rfl⟩
   cases z
   ·go_wp2_with (at_builtin; go_must (refine push_str w1 hown (.tmp 18) (.tmp 20) p ?_ ?_ ?_ ?_ ?_ ?_ ?_; exact rfl; exact rfl; exact rfl; exact rfl; omega; exact hsz; intro v3 w3 hown3 hb3))
    go_roundw
    case rel=>exact ⟨i + 1,by omega,by go_num,by rw [HT.out,if_neg (by decide),List.length_append]; simpa [scells] using hown3,Lib.hid (HB.out.trans hb3)⟩
    case measure=>simp [intOf]; omega
   ·go_wp2_with fail
    go_roundw
    case rel=>exact ⟨i + 1,by omega,by go_num,by rw [HT.out]; simpa using hown,HB⟩
    case measure=>simp [intOf]; omega
  ·obtain rfl:i=n:=by omega
   have d1:¬ (i:Int) < (i:Int):=by omega
   rw [show a.take i=a by rw [<- HL.out]; exact List.take_length] at hown
   go_wp2_with fail
   go_ret
   exact ⟨_,rfl,hown,HB.out⟩
/-! ### the modifications of one attribute -/
def dif1 (nm:ByteArray) (bf af:List ByteArray):List Md:=
 if af.length=0 then [⟨2,nm,[]⟩]
 else if 0 < bf.length /\ (minusL bf af).length=bf.length then [⟨3,nm,minusL af bf⟩]
 else if 0 < (minusL bf af).length then ⟨2,nm,minusL bf af⟩ :: (if (minusL af bf).length=0 then [] else [⟨1,nm,minusL af bf⟩])
 else if 0 < (minusL af bf).length then [⟨1,nm,minusL af bf⟩] else []
structure Mv where
 md:Md
 hd:Value
instance:Inhabited Mv:=⟨⟨default, .slice none 0 0⟩⟩
def mvC (m:Mv):List Value:=[.int .i64 m.md.op, .string m.md.name,m.hd]
def mcells (l:List Mv):List Value:=l.flatMap mvC
def mmds (l:List Mv):List Md:=l.map (·.md)
theorem mcells_len (l:List Mv):(mcells l).length=l.length * 3:=flat_len mvC 3 (fun _=>rfl) l
def MOwn (w:World) (base:Nat) (v:Value) (T:List Mv):Prop := ∀ t ∈ T,w.ownsRow base 9 1 t.hd t.md.vs.length (scells t.md.vs) /\ (t.hd.ownBlock=none ∨ t.hd.ownBlock ≠ v.ownBlock)
theorem MOwn.below {w w':World} {base:Nat} {v:Value} {T:List Mv} (h:MOwn w base v T) (hb:Below w.heap.size w w'):MOwn w' base v T:=fun t ht=>⟨own_below (h t ht).1 hb,(h t ht).2⟩
theorem MOwn.mono {w:World} {base base':Nat} {v:Value} {T:List Mv} (h:MOwn w base v T) (hb:base' <= base):MOwn w base' v T:=fun t ht=>⟨(h t ht).1.mono hb,(h t ht).2⟩
theorem MOwn.app {w:World} {base:Nat} {v:Value} {T U:List Mv} (h:MOwn w base v T) (k:MOwn w base v U):MOwn w base v (T ++ U):=fun t ht=>(List.mem_append.1 ht).elim (h t) (k t)
theorem MOwn.grown {w w':World} {base:Nat} {v v':Value} {T:List Mv} (h:MOwn w base v T) (hg:w.grownBy w' v.ownBlock) (hl:v'.ownBlock=v.ownBlock ∨ ∃ g,v'.ownBlock=some g /\ w.heap.size <= g):MOwn w' base v' T:=fun t ht=>by
 obtain ⟨h1,h2⟩:=h t ht
 refine ⟨h1.kept hg h2, ?_⟩
 cases hb:t.hd.ownBlock with
 | none=>exact .inl rfl
 | some g =>
  refine .inr fun e => ?_
  rcases hl with k | ⟨q,k,hq⟩
  ·rcases h2 with h2 | h2
   ·rw [hb] at h2; cases h2
   ·exact h2 (hb.trans (e.trans k))
  ·have:=(h1.lt g hb).2
   have:=Option.some.inj (e.trans k)
   omega
theorem info_mod:(Tryz.prog.info? 102).map (fun i=>(i.zero,i.size,i.bytes))=some (some (.agg #[.int .i64 0, .string ⟨#[]⟩, .slice none 0 0]),3,48):=by kernel_rfl
theorem mcells_one {l:List Mv} (h:∀ m ∈ l,m.hd.oneCell'=true):∀ u ∈ mcells l,u.oneCell'=true:=by
 intro u hu
 obtain ⟨c,hc,hu⟩:=List.mem_flatMap.1 hu
 simp only [mvC,List.mem_cons,List.not_mem_nil,or_false] at hu
 rcases hu with rfl | rfl | rfl
 ·rfl
 ·rfl
 ·exact h c hc
theorem push_mod {ops:Array Oper} {rest:List Oper} {o:Oper} {a:Act} {Q:Exit -> Act -> World -> Prop} (wr:World) {base:Nat} {v:Value} {n:Nat} {xs:List Value} (hown:wr.ownsRow base 102 3 v n xs) (s x:Operand)
  (op:Int) (nm:ByteArray) (hd:Value) (hone:hd.oneCell'=true) (hgd:o.guard=none)
  (ho:o.op = .call { callee := .builtin .append,args := #[s,x],argTypes := #[44,44] })
  (hs:a.eval s=v) (hx:a.eval x = .slice (some ⟨wr.heap.size,0,none⟩) 1 1) (hn:n + 1 <= 1000000000) (hbase:base <= wr.heap.size)
  (h:∀ v' w',w'.ownsRow base 102 3 v' (n + 1) (xs ++ [.int .i64 op, .string nm,hd]) -> (wr.alloc (.cells #[.int .i64 op, .string nm,hd] 102)).grownBy w' v.ownBlock -> (v'.ownBlock=v.ownBlock ∨ ∃ g,v'.ownBlock=some g /\ wr.heap.size < g) -> wpList Tryz.prog ops Q rest (a.put o.dst v') w') :
  wpList Tryz.prog ops Q (o :: rest) a (wr.alloc (.cells #[.int .i64 op, .string nm,hd] 102)):=by
 obtain ⟨i0,hi,hz0,hz1,hz2⟩:=info_parts info_mod
 refine wpList_append_own_at _ hgd s x 44 ho base 102 i0 (.agg #[.int .i64 0, .string ⟨#[]⟩, .slice none 0 0]) 3 48 Tryz.underlying44 hi hz0 hz1 hz2 rfl (by decide) v n xs hs (hown.alloc _) ⟨wr.heap.size,0,none⟩ 1 1 [.int .i64 op, .string nm,hd] hx rfl
  (cells_three_new _ _ _ _ _) (by intro u hu; simp at hu; rcases hu with rfl | rfl | rfl; rfl; rfl; exact hone) (by unfold maxLen; omega) (by omega) (by simp; omega) ?_
 intro v' w' h1 h2 _ h4
 refine h v' w' h1 h2 ?_
 rcases h4 with h4 | h4
 ·exact .inl h4
 ·exact .inr ⟨_,h4,by simp⟩
structure DvI (w:World) (v:Value) (T:List Mv) (W:World):Prop where
 row:W.ownsRow w.heap.size 102 3 v T.length (mcells T)
 own:MOwn W w.heap.size v T
 low:Below w.heap.size w W
theorem DvI.nil {w W:World} (h:Below w.heap.size w W):DvI w (.slice none 0 0) [] W:=⟨World.ownsRow_nil _ _ _ _,(fun t ht=>by cases ht),h⟩
theorem DvI.below {w W V:World} {v:Value} {T:List Mv} (h:DvI w v T W) (hb:Below W.heap.size W V):DvI w v T V:=⟨own_below h.row hb,h.own.below hb,h.low.trans (hb.mono h.low.size)⟩
theorem DvI.push {w W w':World} {v v':Value} {T:List Mv} (h:DvI w v T W) {op:Int} {nm:ByteArray} {vs:List ByteArray} {hd:Value} (hh:W.ownsRow w.heap.size 9 1 hd vs.length (scells vs)) (hne:hd.ownBlock=none ∨ hd.ownBlock ≠ v.ownBlock) (o:Obj)
  (hown:w'.ownsRow w.heap.size 102 3 v' (T.length + 1) (mcells T ++ [.int .i64 op, .string nm,hd])) (hg:(W.alloc o).grownBy w' v.ownBlock) (hl:v'.ownBlock=v.ownBlock ∨ ∃ g,v'.ownBlock=some g /\ W.heap.size < g):DvI w v' (T ++ [⟨⟨op,nm,vs⟩,hd⟩]) w':=by
 have hal:=below_al W o
 have hl':v'.ownBlock=v.ownBlock ∨ ∃ g,v'.ownBlock=some g /\ (W.alloc o).heap.size <= g:=hl.imp id fun ⟨g,e,q⟩=>⟨g,e,by simp; omega⟩
 refine ⟨?_,((h.own.below hal).grown hg hl').app fun t ht => ?_,(h.low.trans (hal.mono h.low.size)).grown hg (by have:=h.low.size; simp; omega) (fun k hk=>(h.row.lt k hk).1)⟩
 ·rw [List.length_append]
  unfold mcells
  rw [List.flatMap_append,List.flatMap_cons,List.flatMap_nil,List.append_nil]
  exact hown
 ·rw [List.mem_singleton.1 ht]
  refine ⟨(own_below hh hal).kept hg hne, ?_⟩
  show hd.ownBlock=none ∨ hd.ownBlock ≠ v'.ownBlock
  cases hk:hd.ownBlock with
  | none=>exact .inl rfl
  | some k =>
   refine .inr fun e => ?_
   have hlt:=(hh.lt k hk).2
   rcases hl with q | ⟨g,q,hq⟩
   ·rw [hk] at hne
    rcases hne with c | c
    ·cases c
    ·exact c (e.trans q)
   ·have:=Option.some.inj (e.trans q); omega
theorem ob_em (v:Value):v.ownBlock=none ∨ v.ownBlock ≠ (Value.slice none 0 0).ownBlock:=by
 cases h:v.ownBlock with
 | none=>exact .inl rfl
 | some k=>exact .inr (fun e=>by cases e)
theorem DvI.two {w W w':World} {v:Value} {n:Nat} {xs:List Value} {vs:List ByteArray} {hd:Value} (hh:W.ownsRow w.heap.size 9 1 hd vs.length (scells vs)) (o:Obj) (hown:w'.ownsRow w.heap.size 102 3 v n xs) (hg:(W.alloc o).grownBy w' (Value.slice none 0 0).ownBlock) (hl:v.ownBlock=(Value.slice none 0 0).ownBlock ∨ ∃ g,v.ownBlock=some g /\ W.heap.size < g) :
  w'.ownsRow w.heap.size 9 1 hd vs.length (scells vs) /\ (hd.ownBlock=none ∨ hd.ownBlock ≠ v.ownBlock):=by
 refine ⟨(own_below hh (below_al W o)).kept hg (ob_em hd), ?_⟩
 cases hk:hd.ownBlock with
 | none=>exact .inl rfl
 | some k =>
  refine .inr fun e => ?_
  have hlt:=(hh.lt k hk).2
  rcases hl with q | ⟨g,q,hq⟩
  ·rw [q] at e; cases e
  ·have:=Option.some.inj (e.trans q); omega
def DvP (ms:List Md) (w:World) (e:Ending) (w':World):Prop := ∃ v T,e = .returned v /\ mmds T=ms /\ DvI w v T w'
set_option maxHeartbeats 16000000 in
theorem diffValues_s (nm:ByteArray) (bo ao:Option Addr) (bn an bc ac:Nat) (bf af:List ByteArray) (w:World) (h:StrsAt w bo bn bc bf) (k:StrsAt w ao an ac af) (hb:bn <= 100000) (ha:an <= 100000) :
  Calls Tryz.prog 93 #[.string nm, .slice bo bn bc, .slice ao an ac] w fun e w'=>DvP (dif1 nm bf af) w e w':=by
 have HL:=Lib.hid (And.intro h.1 k.1)
 have HG:=Lib.hid (without_s bo ao bn an bc ac bf af w h k (by omega))
 have HD:=Lib.hid (fun (V:World) (hV:Below w.heap.size w V)=>without_s ao bo an bn ac bc af bf V (k.below hV) (h.below hV) (by omega))
 have hgl:=minus_len bf af
 have hal:=minus_len af bf
 rw [h.1] at hgl
 rw [k.1] at hal
 have HR:=Lib.hid (show dif1 nm bf af=if an=0 then [⟨2,nm,[]⟩] else if 0 < bn /\ (minusL bf af).length=bn then [⟨3,nm,minusL af bf⟩] else if 0 < (minusL bf af).length then ⟨2,nm,minusL bf af⟩ :: (if (minusL af bf).length=0 then [] else [⟨1,nm,minusL af bf⟩]) else if 0 < (minusL af bf).length then [⟨1,nm,minusL af bf⟩] else [] by unfold dif1; rw [h.1,k.1])
 obtain ⟨ge,hge⟩:∃ x,minusL bf af=x:=⟨_,rfl⟩
 obtain ⟨de,hde⟩:∃ x,minusL af bf=x:=⟨_,rfl⟩
 rw [hge] at hgl HG HR
 rw [hde] at hal HD HR
 clear hge hde h k
 obtain ⟨gl,hgle⟩:∃ x,ge.length=x:=⟨_,rfl⟩
 obtain ⟨dl,hdle⟩:∃ x,de.length=x:=⟨_,rfl⟩
 rw [hgle] at hgl HG HR
 rw [hdle] at hal HD HR
 have HGl:=Lib.hid hgle
 have HDl:=Lib.hid hdle
 clear hgle hdle
 go_enter Tryz.func93,Tryz.ntmps93
 go_wp2_with fail
 refine HG.out.mono ?_
 rintro e w1 ⟨_,rfl,hg1,hb1⟩
 obtain ⟨go,gc,rfl⟩:=row_slice hg1
 have HB1:=Lib.hid hb1
 have HG1:=Lib.hid hg1
 clear hb1 hg1
 go_wp2_with fail
 refine (HD.out w1 HB1.out).mono ?_
 rintro e w2 ⟨_,rfl,hd2,hb2⟩
 obtain ⟨dO,dc,rfl⟩:=row_slice hd2
 have HB2:=Lib.hid (HB1.out.trans (hb2.mono HB1.out.size))
 have HG2:=Lib.hid (show w2.ownsRow w.heap.size 9 1 (.slice go gl gc) ge.length (scells ge) by rw [HGl.out]; exact own_below HG1.out hb2)
 have HD2:=Lib.hid (show w2.ownsRow w.heap.size 9 1 (.slice dO dl dc) de.length (scells de) by rw [HDl.out]; exact row_lower hd2 HB1.out.size)
 have HI:=Lib.hid (DvI.nil HB2.out)
 have hown0:w2.ownsRow w.heap.size 102 3 (.slice none 0 0) 0 []:=World.ownsRow_nil _ _ _ _
 have hsz:=HB2.out.size
 clear hb2 hd2 HG HD
 by_cases h0:an=0
 ·have d1:((an:Int) == 0)=true:=by simp; omega
  have d1':(an:Int)=0:=by omega
  have HE:=Lib.hid (HR.out.trans (if_pos h0))
  go_wp2_with (at_builtin; go_must (refine push_mod w2 hown0 (.tmp 39) (.tmp 42) 2 nm (.slice none 0 0) rfl ?_ ?_ ?_ ?_ ?_ ?_ ?_; exact rfl; exact rfl; exact rfl; exact rfl; omega; exact hsz; intro v3 w3 g1 g2 g3; obtain ⟨vo3,vc3,rfl⟩:=row_slice g1; have HI3:=Lib.hid (HI.out.push (vs:=[]) (World.ownsRow_nil _ _ _ _) (.inl rfl) _ g1 g2 g3); clear g1 g2 g3))
  go_ret
  exact ⟨_,_,rfl,by rw [HE.out]; rfl,HI3.out⟩
 ·have d1:((an:Int) == 0)=false:=by simp; omega
  have d1':¬ (an:Int)=0:=by omega
  have HE0:=Lib.hid (HR.out.trans (if_neg h0))
  clear h0 HR
  by_cases h1:0 < bn /\ gl=bn
  ·have d2:decide (0 < (bn:Int))=true:=decide_eq_true (by omega)
   have d2':(bn:Int) > 0:=by omega
   have d3:((gl:Int) == (bn:Int))=true:=by simp; omega
   have d3':(gl:Int)=(bn:Int):=by omega
   have HE:=Lib.hid (HE0.out.trans (if_pos h1))
   clear h1
   go_wp2_with (at_builtin; go_must (refine push_mod w2 hown0 (.tmp 44) (.tmp 48) 3 nm (.slice dO dl dc) rfl ?_ ?_ ?_ ?_ ?_ ?_ ?_; exact rfl; exact rfl; exact rfl; exact rfl; omega; exact hsz; intro v3 w3 g1 g2 g3; obtain ⟨vo3,vc3,rfl⟩:=row_slice g1; have HI3:=Lib.hid (HI.out.push HD2.out (ob_em _) _ g1 g2 g3); clear g1 g2 g3))
   go_ret
   exact ⟨_,_,rfl,by rw [HE.out]; rfl,HI3.out⟩
  ·have HE1:=Lib.hid (HE0.out.trans (if_neg h1))
   by_cases h2:0 < gl
   ·have HE2:=Lib.hid (HE1.out.trans (if_pos h2))
    have d2:decide (0 < (bn:Int))=true:=decide_eq_true (by omega)
    have d2':(bn:Int) > 0:=by omega
    have d3:((gl:Int) == (bn:Int))=false:=by simp; omega
    have d3':¬ (gl:Int)=(bn:Int):=by omega
    have d4:decide (0 < (gl:Int))=true:=decide_eq_true (by omega)
    have d4':(gl:Int) > 0:=by omega
    clear h1 HE0 HE1
    by_cases h3:dl=0
    ·have d5:((dl:Int) == 0)=true:=by simp; omega
     have d5':(dl:Int)=0:=by omega
     have HE:=Lib.hid (show dif1 nm bf af = [⟨2,nm,ge⟩] by rw [HE2.out,if_pos h3])
     clear h3
     go_wp2_with (at_builtin; go_must (refine push_mod w2 hown0 (.tmp 50) (.tmp 54) 2 nm (.slice go gl gc) rfl ?_ ?_ ?_ ?_ ?_ ?_ ?_; exact rfl; exact rfl; exact rfl; exact rfl; omega; exact hsz; intro v3 w3 g1 g2 g3; obtain ⟨vo3,vc3,rfl⟩:=row_slice g1; have HI3:=Lib.hid (HI.out.push HG2.out (ob_em _) _ g1 g2 g3); clear g1 g2 g3))
     go_ret
     exact ⟨_,_,rfl,by rw [HE.out]; rfl,HI3.out⟩
    ·have d5:((dl:Int) == 0)=false:=by simp; omega
     have d5':¬ (dl:Int)=0:=by omega
     have HE:=Lib.hid (show dif1 nm bf af = [⟨2,nm,ge⟩,⟨1,nm,de⟩] by rw [HE2.out,if_neg h3])
     clear h3
     go_wp2_with (first | (at_builtin; refine push_mod w2 hown0 (.tmp 50) (.tmp 54) 2 nm (.slice go gl gc) rfl ?_ ?_ ?_ ?_ ?_ ?_ ?_; exact rfl; exact rfl; exact rfl; exact rfl; omega; exact hsz; intro v3 w3 g1 g2 g3; obtain ⟨vo3,vc3,rfl⟩:=row_slice g1; have HI3:=Lib.hid (show DvI w (.slice vo3 1 vc3) [⟨⟨2,nm,ge⟩, .slice go gl gc⟩] w3 from HI.out.push HG2.out (ob_em _) _ g1 g2 g3); have HD3:=Lib.hid (DvI.two HD2.out _ g1 g2 g3); have hown3:w3.ownsRow w.heap.size 102 3 (.slice vo3 1 vc3) 1 (mcells [⟨⟨2,nm,ge⟩, .slice go gl gc⟩]):=HI3.out.row; have hsz3:=HI3.out.low.size; clear g1 g2 g3) | (at_builtin; go_loud (refine push_mod w3 hown3 (.tmp 59) (.tmp 63) 1 nm (.slice dO dl dc) rfl ?_ ?_ ?_ ?_ ?_ ?_ ?_; exact rfl; exact rfl; exact rfl; exact rfl; decide; exact hsz3; intro v4 w4 g1 g2 g3; obtain ⟨vo4,vc4,rfl⟩:=row_slice g1; have HI4:=Lib.hid (HI3.out.push HD3.out.1 HD3.out.2 _ g1 g2 g3); clear g1 g2 g3)))
     go_ret
     exact ⟨_,_,rfl,by rw [HE.out]; rfl,HI4.out⟩
   ·have HE2:=Lib.hid (HE1.out.trans (if_neg h2))
    have d4:decide (0 < (gl:Int))=false:=decide_eq_false (by omega)
    have d4':¬ (gl:Int) > 0:=by omega
    have hgz:gl=0:=by omega
    have d3:decide (0 < (bn:Int))=decide (0 < bn):=by by_cases q:0 < bn <;> simp [q]
    by_cases h4:0 < dl
    ·have d5:decide (0 < (dl:Int))=true:=decide_eq_true (by omega)
     have d5':(dl:Int) > 0:=by omega
     have HE:=Lib.hid (HE2.out.trans (if_pos h4))
     by_cases h5:0 < bn
     ·have d6:decide (0 < (bn:Int))=true:=decide_eq_true (by omega)
      have d6':(bn:Int) > 0:=by omega
      have d7:((gl:Int) == (bn:Int))=false:=by simp; omega
      clear h1 h2 h4 h5 hgz d3
      go_wp2_with (at_builtin; go_must (refine push_mod w2 hown0 (.tmp 59) (.tmp 63) 1 nm (.slice dO dl dc) rfl ?_ ?_ ?_ ?_ ?_ ?_ ?_; exact rfl; exact rfl; exact rfl; exact rfl; omega; exact hsz; intro v3 w3 g1 g2 g3; obtain ⟨vo3,vc3,rfl⟩:=row_slice g1; have HI3:=Lib.hid (HI.out.push HD2.out (ob_em _) _ g1 g2 g3); clear g1 g2 g3))
      go_ret
      exact ⟨_,_,rfl,by rw [HE.out]; rfl,HI3.out⟩
     ·have d6:decide (0 < (bn:Int))=false:=decide_eq_false (by omega)
      have d6':¬ (bn:Int) > 0:=by omega
      clear h1 h2 h4 h5 hgz d3
      go_wp2_with (at_builtin; go_must (refine push_mod w2 hown0 (.tmp 59) (.tmp 63) 1 nm (.slice dO dl dc) rfl ?_ ?_ ?_ ?_ ?_ ?_ ?_; exact rfl; exact rfl; exact rfl; exact rfl; omega; exact hsz; intro v3 w3 g1 g2 g3; obtain ⟨vo3,vc3,rfl⟩:=row_slice g1; have HI3:=Lib.hid (HI.out.push HD2.out (ob_em _) _ g1 g2 g3); clear g1 g2 g3))
      go_ret
      exact ⟨_,_,rfl,by rw [HE.out]; rfl,HI3.out⟩
    ·have d5:decide (0 < (dl:Int))=false:=decide_eq_false (by omega)
     have d5':¬ (dl:Int) > 0:=by omega
     have HE:=Lib.hid (HE2.out.trans (if_neg h4))
     by_cases h5:0 < bn
     ·have d6:decide (0 < (bn:Int))=true:=decide_eq_true (by omega)
      have d6':(bn:Int) > 0:=by omega
      have d7:((gl:Int) == (bn:Int))=false:=by simp; omega
      clear h1 h2 h4 h5 hgz d3
      go_wp2_with fail
      go_ret
      exact ⟨_,[],rfl,by rw [HE.out]; rfl,HI.out⟩
     ·have d6:decide (0 < (bn:Int))=false:=decide_eq_false (by omega)
      have d6':¬ (bn:Int) > 0:=by omega
      clear h1 h2 h4 h5 hgz d3
      go_wp2_with fail
      go_ret
      exact ⟨_,[],rfl,by rw [HE.out]; rfl,HI.out⟩
end Go.Proofs.YtmmdaegdkikkpaaGreatDoor
end

section
set_option maxRecDepth 100000
namespace Go.Proofs
open Go.Shelf
def Tryz.mclone_ren:Go.Shelf.Ren:=⟨fun | 5=>89 | 7=>154 | n=>n,fun | 23=>112 | 25=>9 | 3=>55 | 4=>4 | 20=>20 | n=>n,fun | n=>n⟩
theorem Tryz.mclone:Go.Proofs.SlLaysW.n5 Tryz.prog Tryz.mclone_ren:={
 mixed:=by kernel_rfl
 f5:=⟨Tryz.f89.name,by decide,Tryz.func89.trans (congrArg some (by kernel_rfl))⟩
 f7:=Tryz.func154.trans (congrArg some (by kernel_rfl))
 t4:=Tryz.underlying4
 a4:=Tryz.isAgg4
 z4:=Tryz.sizeOf4
 v4:=Tryz.zeroValue4
 t20:=Tryz.underlying20
 a20:=Tryz.isAgg20
 z20:=Tryz.sizeOf20
 v20:=Tryz.zeroValue20
 t23:=Tryz.underlying112
 a23:=Tryz.isAgg112
 z23:=Tryz.sizeOf112
 v23:=Tryz.zeroValue112 }
def Tryz.mcopy_ren:Go.Shelf.Ren:=⟨fun | 5=>90 | n=>n,fun | 23=>112 | 24=>112 | 26=>9 | 27=>55 | 0=>0 | 4=>4 | n=>n,fun | n=>n⟩
theorem Tryz.mcopy:Go.Proofs.SlLaysX.n5 Tryz.prog Tryz.mcopy_ren:={
 mixed:=by kernel_rfl
 f5:=⟨Tryz.f90.name,by decide,Tryz.func90.trans (congrArg some (by kernel_rfl))⟩
 t0:=Tryz.underlying0
 a0:=Tryz.isAgg0
 z0:=Tryz.sizeOf0
 v0:=Tryz.zeroValue0
 t4:=Tryz.underlying4
 a4:=Tryz.isAgg4
 z4:=Tryz.sizeOf4
 v4:=Tryz.zeroValue4
 t23:=Tryz.underlying112
 a23:=Tryz.isAgg112
 z23:=Tryz.sizeOf112
 v23:=Tryz.zeroValue112
 t24:=Tryz.underlying112
 a24:=Tryz.isAgg112
 z24:=Tryz.sizeOf112
 v24:=Tryz.zeroValue112
 a26:=Tryz.isAgg9
 z26:=Tryz.sizeOf9
 a27:=Tryz.isAgg55
 z27:=Tryz.sizeOf55 }
end Go.Proofs
end

section
set_option maxRecDepth 100000
namespace Go.Proofs.YtmmdaegdkikkpaaGreatDoor
open Go.RowKit Go.PlainAid Go.Maps
theorem has_merge {D1 D2:DataW Value} {w:World} {b1 n1 b2 n2:Nat} (h1:w.ownsMap Tryz.prog 9 rawE b1 n1 D1) (h2:w.ownsMap Tryz.prog 9 rawE b2 n2 D2) (k:Lit):Maps.has (Lib.mergeD D1 D2) k=(Maps.has D1 k || Maps.has D2 k):=by
 obtain ⟨es,rfl,_,ks⟩:=h2.canonK (string_keyed Tryz.underlying9)
 show Maps.has (es.foldl (fun D p=>D.put p.1 p.2) D1) k=_
 rw [has_foldPut k es D1 h1.isMap (fun p hp=>(string_keyed Tryz.underlying9).one.key (ks p hp))]
 rfl
theorem push_mods {ops:Array Oper} {rest:List Oper} {o:Oper} {a:Act} {Q:Exit -> Act -> World -> Prop} (wr:World) {base base2:Nat} {v:Value} {n:Nat} {xs:List Value} (hown:wr.ownsRow base 102 3 v n xs) (s x:Operand)
  {v2:Value} {T:List Mv} (hv:wr.ownsRow base2 102 3 v2 T.length (mcells T)) (hone:∀ t ∈ T,t.hd.oneCell'=true) (hgd:o.guard=none)
  (ho:o.op = .call { callee := .builtin .append,args := #[s,x],argTypes := #[44,44] })
  (hs:a.eval s=v) (hx:a.eval x=v2) (hn:n + T.length <= 1000000000) (hbase:base <= wr.heap.size)
  (h:∀ v' w',w'.ownsRow base 102 3 v' (n + T.length) (xs ++ mcells T) -> wr.grownBy w' v.ownBlock -> (v'.ownBlock=v.ownBlock ∨ v'.ownBlock=some wr.heap.size) -> wpList Tryz.prog ops Q rest (a.put o.dst v') w') :
  wpList Tryz.prog ops Q (o :: rest) a wr:=by
 obtain ⟨i0,hi,hz0,hz1,hz2⟩:=info_parts info_mod
 rcases hv.2 with ⟨rfl,h0⟩ | ⟨g,cap,cur,rfl,_⟩
 ·have hT:T = []:=List.length_eq_zero_iff.1 h0
  subst hT
  have hrun:(Builtin.append_ #[44,44] o.type #[v, .slice none 0 0]).run Tryz.prog wr = .ok v wr:=by
   rcases hown.2 with ⟨rfl,_⟩ | ⟨g,cap,cur,rfl,_,_,hc,_⟩
   ·exact run_append_nothing wr 44 44 o.type 102 i0 Tryz.underlying44 hi none 0 0 (Nat.le_refl _) _ (Src.ofNil wr Tryz.underlying44 0)
   ·exact run_append_nothing wr 44 44 o.type 102 i0 Tryz.underlying44 hi _ _ _ hc _ (Src.ofNil wr Tryz.underlying44 0)
  refine wpList_plain hgd fun K hK => ?_
  unfold Oper.wp execOp
  simp only [ho,resolve,invoke,builtin,Sem.run_bind,Sem.run_pure,Result.andThen_ok,List.map_toArray,List.map_cons,List.map_nil,hs,hx,hrun]
  exact hK _ _ (h v wr (by simpa [mcells] using hown) ⟨rfl,rfl,rfl,Nat.le_refl _,fun _ _ _=>rfl⟩ (.inl rfl))
 ·exact wpList_append_own_at _ hgd s x 44 ho base 102 i0 (.agg #[.int .i64 0, .string ⟨#[]⟩, .slice none 0 0]) 3 48 Tryz.underlying44 hi hz0 hz1 hz2 rfl (by decide) v n xs hs hown ⟨g,0,none⟩ T.length cap (mcells T) hx (mcells_len T)
   (fun j u hj=>hv.cells (g:=g) rfl j u hj) (mcells_one hone) (by unfold maxLen; omega) (by omega) hbase (fun v' w' k1 k2 _ k4=>h v' w' k1 k2 k4)
theorem DvI.one {w W:World} {v:Value} {T:List Mv} (h:DvI w v T W):∀ t ∈ T,t.hd.oneCell'=true:=fun t ht=>by
 obtain ⟨ao,cap,e⟩:=row_slice (h.own t ht).1
 rw [e]; rfl
theorem DvI.app {w W5 W w':World} {vL v v':Value} {TL T:List Mv} (h:DvI w vL TL W5) (k:DvI W5 v T W) (hrow:w'.ownsRow w.heap.size 102 3 v' (TL.length + T.length) (mcells TL ++ mcells T)) (hg:W.grownBy w' vL.ownBlock) (hl:v'.ownBlock=vL.ownBlock ∨ v'.ownBlock=some W.heap.size):DvI w v' (TL ++ T) w':=by
 have hl':v'.ownBlock=vL.ownBlock ∨ ∃ g,v'.ownBlock=some g /\ W.heap.size <= g:=hl.imp id fun e=>⟨_,e,Nat.le_refl _⟩
 refine ⟨?_,((h.own.below k.low).grown hg hl').app fun t ht => ?_,(h.low.trans (k.low.mono h.low.size)).grown hg (Nat.le_trans h.low.size k.low.size) (fun q hq=>(h.row.lt q hq).1)⟩
 ·rw [List.length_append]
  unfold mcells at hrow ⊢
  rw [List.flatMap_append]; exact hrow
 ·obtain ⟨r1,r2⟩:=k.own t ht
  have hne:t.hd.ownBlock=none ∨ t.hd.ownBlock ≠ vL.ownBlock:=by
   cases hk:t.hd.ownBlock with
   | none=>exact .inl rfl
   | some q=>exact .inr fun e=>by have:=(r1.lt q hk).1; have:=(h.row.lt q e.symm).2; omega
  refine ⟨row_lower (r1.kept hg hne) h.low.size, ?_⟩
  cases hk:t.hd.ownBlock with
  | none=>exact .inl rfl
  | some q =>
   refine .inr fun e => ?_
   have hlt:=(r1.lt q hk).2
   rcases hl with z | z
   ·rw [hk] at hne
    rcases hne with c | c
    ·cases c
    ·exact c (e.trans z)
   ·have:=Option.some.inj (e.trans z); omega
theorem DvI.lower {w W0 W:World} {v:Value} {T:List Mv} (h:DvI W0 v T W) (hw:Below w.heap.size w W0):DvI w v T W:=
 ⟨row_lower h.row hw.size,h.own.mono hw.size,hw.trans (h.low.mono hw.size)⟩
def difL (a b:List At):List Md:=(sortU (names a ++ names b)).flatMap fun n=>dif1 n (vals a n) (vals b n)
def enD (ea:ByteArray) (a:List At) (eb:ByteArray) (b:List At):List Md:=if enC ea a ≠ 0 ∨ enC eb b ≠ 0 then [] else difL a b
theorem VnM.look {W:World} {base b N:Nat} {f:ByteArray -> Option Value} {l:List At} (h:VnM W base b N f l) (p:ByteArray) (hp:p.size <= maxLen) :
  ∃ ao n cap,(Instr.lookup 112 (.map (some b)) (.string p) false).run Tryz.prog W = .ok (.slice ao n cap) W /\ StrsAt W ao n cap (vals l p):=by
 have hr:=MapVal.look (t:=112) (e:=55) (z := .slice none 0 0) (.inr ⟨b,N,rfl,h.map⟩) Tryz.underlying112 (Tryz.zeroValue55 _) p hp
 cases e:f p with
 | none =>
  rw [e] at hr
  have h1:memB (names l) p=false:=by rw [<- h.is p,e]; rfl
  have h2:vals l p = []:=Classical.not_not.1 fun k=>by
   have:=memB_iff.2 (names_vals.2 k); rw [h1] at this; cases this
  rw [h2]
  exact ⟨none,0,0,hr,strs_nil W⟩
 | some v =>
  rw [e] at hr
  obtain ⟨ao,cap,e2,hs⟩:=strs_own (h.own p v e) rfl
  rw [e2] at hr
  exact ⟨ao,_,cap,hr,hs⟩
theorem chk_of {en:ByteArray} {l:List At} (h:enC en l=0):chkA l=0:=by
 unfold enC at h
 split at h
 ·cases h
 ·exact h
theorem enD_no {ea eb:ByteArray} {a b:List At} (h:enC ea a ≠ 0 ∨ enC eb b ≠ 0):enD ea a eb b = []:=if_pos h
theorem enD_yes {ea eb:ByteArray} {a b:List At} (h:enC ea a=0) (k:enC eb b=0):enD ea a eb b=difL a b:=if_neg (fun q=>q.elim (fun z=>z h) (fun z=>z k))
end Go.Proofs.YtmmdaegdkikkpaaGreatDoor
end
