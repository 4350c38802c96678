/-
  Texts of the schema layer and of those beneath it, joined: SchNew, SchAcc, SchLin, SchAsc, SchMst, ShelfS, SchWrd, SchCln, SchTyF, SchTxt, SchTxF, SchRd, SchMay, SchFns. Conditions stand at each contract.
-/
import Derived.Laws.OwnMore
import Derived.Shelf.Strings.OnBuilder
import Derived.Shelf.Strings.Split
import Derived.Test.YtmmdaegdkikkpaaGreatDoorU08
set_option linter.unusedVariables false
set_option linter.unusedSimpArgs false
set_option linter.unnecessarySimpa false

section
set_option maxRecDepth 100000
namespace Go.Proofs.YtmmdaegdkikkpaaGreatDoor
open Go.RowKit Go.PlainAid
def SmT (ts:List Ty):Prop := ∀ t ∈ ts,t.name.size <= 1000000000
def SmC (cs:List Cl):Prop := ∀ c ∈ cs,c.name.size <= 1000000000 /\ c.super.size <= 1000000000 /\ (∀ s ∈ c.must,s.size <= 1000000000) /\ ∀ s ∈ c.may,s.size <= 1000000000
structure NT (w W:World) (ao:Option Addr) (n cap:Nat) (bo:Option Addr) (m dap:Nat):Prop where
 box:W.heap[w.heap.size]? = some (.cells #[.slice ao n cap, .slice bo m dap] 25)
 res:W.heap[w.heap.size + 1]? = some (.cells #[.map none, .map none] 130)
 tab:W.heap[w.heap.size + 1 + 1 + 1 + 1]? = some (.cells #[.map (some (w.heap.size + 1 + 1)), .map (some (w.heap.size + 1 + 1 + 1))] 130)
 low:Below w.heap.size w W
 big:w.heap.size + 5 <= W.heap.size
theorem NT.below {w W V:World} {ao bo:Option Addr} {n cap m dap:Nat} (h:NT w W ao n cap bo m dap) (hb:Below W.heap.size W V):NT w V ao n cap bo m dap:=by
 have hs:=h.big
 exact ⟨(hb.block _ (by omega)).trans h.box,(hb.block _ (by omega)).trans h.res,(hb.block _ (by omega)).trans h.tab,h.low.trans (hb.mono (by omega)),Nat.le_trans hs hb.size⟩
theorem NT.grown {w W V:World} {ao bo:Option Addr} {n cap m dap g:Nat} (h:NT w W ao n cap bo m dap) (hb:W.grownBy V (some g)) (hg:g=w.heap.size + 2 ∨ g=w.heap.size + 3):NT w V ao n cap bo m dap:=by
 have hs:=h.big
 have hk:∀ k,k < W.heap.size -> k ≠ g -> V.heap[k]? = W.heap[k]?:=fun k h1 h2=>hb.block k h1 (fun e=>h2 (Option.some.inj e))
 exact ⟨(hk _ (by omega) (by omega)).trans h.box,(hk _ (by omega) (by omega)).trans h.res,(hk _ (by omega) (by omega)).trans h.tab,h.low.grown hb (by omega) (fun k e=>by have:=Option.some.inj e; omega),Nat.le_trans hs hb.size⟩
theorem NT.alloc {w W:World} {ao bo:Option Addr} {n cap m dap:Nat} (h:NT w W ao n cap bo m dap) (o:Obj):NT w (W.alloc o) ao n cap bo m dap:=h.below ((Below.refl _ _).alloc (Nat.le_refl _) o)
theorem heap_cell {W:World} {b i:Nat} {c:Array Value} {t:TypeId} {v:Value} (h:W.heap[b]? = some (.cells c t)) (hv:c[i]? = some v):W.cell? ⟨b,i,none⟩=some v:=by
 simp [World.cell?,h,hv]
theorem heap_frozen {W:World} {b i:Nat} {c:Array Value} {t:TypeId} (h:W.heap[b]? = some (.cells c t)):W.frozen? ⟨b,i,none⟩=false:=by
 simp [World.frozen?,h]
theorem heap_old {w:World} {o:Obj} {k:Nat} (h:k < w.heap.size):(w.alloc o).heap[k]? = w.heap[k]?:=Below.heap_alloc w o k h
theorem grown_setN (w:World) (g i:Nat) (u:Value):w.grownBy (w.setCell ⟨g,i,none⟩ u) (some g):=⟨rfl,rfl,rfl,by rw [set_size]; exact Nat.le_refl _,fun k hk hne=>heap_setCell_other w ⟨g,i,none⟩ k u (fun e=>hne (by rw [e]))⟩
theorem chkS_limit {ts:List Ty} {cs:List Cl} (h:64 < ts.length ∨ 32 < cs.length):chkS ts cs=3:=if_pos h
theorem sound_bad {ts:List Ty} {cs:List Cl} (h:chkS ts cs ≠ 0):soundT ts cs = [] /\ soundC ts cs = []:=⟨if_neg h,if_neg h⟩
theorem chkS_type {ts:List Ty} {cs:List Cl} {j:Nat} (h:¬ (64 < ts.length ∨ 32 < cs.length)) (hj:j < ts.length) (h0:∀ q,q < j -> errT ts q=0) (h1:errT ts j ≠ 0):chkS ts cs=errT ts j:=by
 unfold chkS
 rw [if_neg h,firstE_hit h0 h1 hj,if_pos h1]
theorem chkS_class {ts:List Ty} {cs:List Cl} {j:Nat} (h:¬ (64 < ts.length ∨ 32 < cs.length)) (ht:∀ q,q < ts.length -> errT ts q=0) (hj:j < cs.length) (h0:∀ q,q < j -> errC ts cs q=0) (h1:errC ts cs j ≠ 0):chkS ts cs=errC ts cs j:=by
 unfold chkS
 rw [if_neg h,firstE_zero ht,if_neg (by simp),firstE_hit h0 h1 hj,if_pos h1]
theorem chkS_last {ts:List Ty} {cs:List Cl} (h:¬ (64 < ts.length ∨ 32 < cs.length)) (ht:∀ q,q < ts.length -> errT ts q=0) (hc:∀ q,q < cs.length -> errC ts cs q=0):chkS ts cs=if (tyOf ts classN).isSome=false then 6 else if ((tyOf ts classN).getD zeroTy).syn=1 then 0 else 8:=by
 unfold chkS
 rw [if_neg h,firstE_zero ht,if_neg (by simp),firstE_zero hc,if_neg (by simp)]
 cases tyOf ts classN <;> rfl
def MFresh (B:Nat) (m:Option Nat):Prop := ∀ b,m=some b -> B <= b
set_option maxHeartbeats 16000000 in
theorem newTable_s (ao bo:Option Addr) (n cap m dap:Nat) (ts:List Ty) (cs:List Cl) (w0 w:World) (h0:Below w0.heap.size w0 w) (hT:TysAt w ao n cap ts) (hC:ClsAt w0 bo m dap cs) (hzT:SmT ts) (hzC:SmC cs) :
  Calls Tryz.prog 109 #[.agg #[.slice ao n cap, .slice bo m dap]] w fun e w' =>
   ∃ m1 m2,e = .returned (.tuple #[.agg #[.map m1, .map m2], .int .i64 (chkS ts cs)]) /\ TMap w' m1 (soundT ts cs) /\ CMap w0 w' m2 (soundC ts cs) /\ MFresh w.heap.size m1 /\ MFresh w.heap.size m2 /\ Below w.heap.size w w':=by
 obtain ⟨t1,t2,t3,t4⟩:=hT
 obtain ⟨k1,k2,k3,k4⟩:=hC
 subst t1
 subst k1
 unfold maxLen at t3 k3
 have T4:=Lib.hid t4; have K4:=Lib.hid k4
 have H0:=Lib.hid h0; clear h0
 have ZT:=Lib.hid hzT; have ZC:=Lib.hid hzC
 clear t4 k4 hzT hzC
 have fin:∀ c,chkS ts cs=c -> c ≠ 0 -> ∀ W,Below w.heap.size w W -> ∃ m1 m2,Ending.returned (.tuple #[.agg #[.map none, .map none], .int .i64 c]) = .returned (.tuple #[.agg #[.map m1, .map m2], .int .i64 (chkS ts cs)]) /\ TMap W m1 (soundT ts cs) /\ CMap w0 W m2 (soundC ts cs) /\ MFresh w.heap.size m1 /\ MFresh w.heap.size m2 /\ Below w.heap.size w W:=
  fun c h1 h2 W h3=>⟨none,none,by rw [h1],by rw [(sound_bad (by rw [h1]; exact h2)).1]; exact tmap_nil _,by rw [(sound_bad (by rw [h1]; exact h2)).2]; exact cmap_nil _ _,(fun b e=>by cases e),(fun b e=>by cases e),h3⟩
 have FIN:=Lib.hid fin
 clear fin
 by_cases hlim:64 < ts.length ∨ 32 < cs.length
 ·have HL:=Lib.hid (chkS_limit hlim)
  have HB:=Lib.hid (show Below w.heap.size w ((w.alloc (.cells #[.slice ao ts.length cap, .slice bo cs.length dap] 25)).alloc (.cells #[.map none, .map none] 130)) from ((Below.refl _ _).alloc (Nat.le_refl _) _).alloc (by simp) _)
  by_cases h1:64 < ts.length
  ·have d1:decide ((64:Int) < (ts.length:Int))=true:=decide_eq_true (by omega)
   go_enter Tryz.func109,Tryz.ntmps109
   go_wp2_with fail
   refine bodyPost_ret (v := .tuple #[.agg #[.map none, .map none], .int .i64 3]) (by simp only [results,Tryz.results109]; go_simp) rfl ?_
   exact FIN.out 3 HL.out (by decide) _ HB.out
  ·have d1:decide ((64:Int) < (ts.length:Int))=false:=decide_eq_false (by omega)
   have d2:decide ((32:Int) < (cs.length:Int))=true:=decide_eq_true (by omega)
   go_enter Tryz.func109,Tryz.ntmps109
   go_wp2_with fail
   refine bodyPost_ret (v := .tuple #[.agg #[.map none, .map none], .int .i64 3]) (by simp only [results,Tryz.results109]; go_simp) rfl ?_
   exact FIN.out 3 HL.out (by decide) _ HB.out
 ·have d1:decide ((64:Int) < (ts.length:Int))=false:=decide_eq_false (by omega)
  have d2:decide ((32:Int) < (cs.length:Int))=false:=decide_eq_false (by omega)
  have hmm := @run_makeMap Tryz.prog
  go_enter Tryz.func109,Tryz.ntmps109
  go_wp2
  clear hmm d1 d2
  have hf:w.heap.size <= w.heap.size + 1:=Nat.le_succ _
  have WS:∃ W0:World,W0=(((w.alloc (.cells #[.slice ao ts.length cap, .slice bo cs.length dap] 25)).alloc (.cells #[.map none, .map none] 130)).alloc (.map #[] 0)).alloc (.map #[] 0):=⟨_,rfl⟩
  have O1:=topen_made ((w.alloc (.cells #[.slice ao ts.length cap, .slice bo cs.length dap] 25)).alloc (.cells #[.map none, .map none] 130))
  have O2:=copen_made w0 (((w.alloc (.cells #[.slice ao ts.length cap, .slice bo cs.length dap] 25)).alloc (.cells #[.map none, .map none] 130)).alloc (.map #[] 0))
  clear WS
  have O1b:=(O1.kept (World.grownBy_alloc _ (.map #[] 0) none) (by simp)).kept (World.grownBy_alloc _ (.cells #[.map (some (w.heap.size + 1 + 1)), .map (some (w.heap.size + 1 + 1 + 1))] 130) none) (by simp)
  have O2b:=O2.kept (World.grownBy_alloc _ (.cells #[.map (some (w.heap.size + 1 + 1)), .map (some (w.heap.size + 1 + 1 + 1))] 130) none) (by simp)
  have N0:NT w ((((((w.alloc (.cells #[.slice ao ts.length cap, .slice bo cs.length dap] 25)).alloc (.cells #[.map none, .map none] 130)).alloc (.map #[] 0)).alloc (.map #[] 0))).alloc (.cells #[.map (some (w.heap.size + 1 + 1)), .map (some (w.heap.size + 1 + 1 + 1))] 130)) ao ts.length cap bo cs.length dap:=by
   refine ⟨?_, ?_, ?_, ?_,by simp⟩
   ·exact (heap_old (by simp; omega)).trans ((heap_old (by simp; omega)).trans ((heap_old (by simp; omega)).trans ((heap_old (by simp)).trans (heap_alloc_new w _))))
   ·exact (heap_old (by simp)).trans ((heap_old (by simp)).trans ((heap_old (by simp)).trans (by have:=heap_alloc_new (w.alloc (.cells #[.slice ao ts.length cap, .slice bo cs.length dap] 25)) (.cells #[.map none, .map none] 130); simpa using this)))
   ·have:=heap_alloc_new ((((w.alloc (.cells #[.slice ao ts.length cap, .slice bo cs.length dap] 25)).alloc (.cells #[.map none, .map none] 130)).alloc (.map #[] 0)).alloc (.map #[] 0)) (.cells #[.map (some (w.heap.size + 1 + 1)), .map (some (w.heap.size + 1 + 1 + 1))] 130)
    simpa using this
   ·exact (((((Below.refl _ _).alloc (Nat.le_refl _) _).alloc (by simp) _).alloc (by simp; omega) _).alloc (by simp; omega) _).alloc (by simp; omega) _
  go_loopw [6,7,30] (fun s6 s7 i wr=>∃ k:Nat,k <= ts.length /\ i = .int .i64 k /\ Hid (∀ q,q < k -> errT ts q=0) /\ Hid (TOpen wr (w.heap.size + 1 + 1) k (ts.take k)) /\ Hid (COpen w0 wr (w.heap.size + 1 + 1 + 1) 0 []) /\ Hid (NT w wr ao ts.length cap bo cs.length dap)) (fun _ _ i _=>ts.length - (intOf i).toNat)
  case atStart=>exact ⟨0,Nat.zero_le _,rfl,Lib.hid (fun q hq=>absurd hq (Nat.not_lt_zero _)),Lib.hid (by simpa using O1b),Lib.hid (by simpa using O2b),Lib.hid N0⟩
  case round =>
   obtain ⟨k,hk,rfl,HA,HO1,HO2,HN⟩:=hrel
   have r0:wr.cell? ⟨w.heap.size + 1,0,none⟩=some (.map none):=heap_cell HN.out.res rfl
   have r1:wr.cell? ⟨w.heap.size + 1,1,none⟩=some (.map none):=heap_cell HN.out.res rfl
   have f0:wr.frozen? ⟨w.heap.size + 1,0,none⟩=false:=heap_frozen HN.out.res
   have f1:wr.frozen? ⟨w.heap.size + 1,1,none⟩=false:=heap_frozen HN.out.res
   have b0:wr.cell? ⟨w.heap.size + 1 + 1 + 1 + 1,0,none⟩=some (.map (some (w.heap.size + 1 + 1))):=heap_cell HN.out.tab rfl
   have b1:wr.cell? ⟨w.heap.size + 1 + 1 + 1 + 1,1,none⟩=some (.map (some (w.heap.size + 1 + 1 + 1))):=heap_cell HN.out.tab rfl
   have q0:wr.cell? ⟨w.heap.size,0,none⟩=some (.slice ao ts.length cap):=heap_cell HN.out.box rfl
   have q1:wr.cell? ⟨w.heap.size,1,none⟩=some (.slice bo cs.length dap):=heap_cell HN.out.box rfl
   have hs:w.heap.size + 1 + 1 + 1 + 1 < wr.heap.size:=HN.out.big
   have hs1:w.heap.size + 1 < wr.heap.size:=by omega
   have hs0:w.heap.size < wr.heap.size:=by omega
   by_cases hlt:k < ts.length
   ·obtain ⟨b,off,rfl,hb,hat⟩:=T4.out (by omega)
    obtain ⟨x0,x1,x2⟩:=(hat k hlt)
    replace x0:=cell_later HN.out.low x0
    replace x1:=cell_later HN.out.low x1
    replace x2:=cell_later HN.out.low x2
    clear hat
    have hz:=ZT.out _ (ty_mem ts k hlt)
    have HE0:=Lib.hid (errT_take ts k)
    have HTK:=Lib.hid (ty_take ts k hlt)
    obtain ⟨p,hp⟩:∃ p,tyAt ts k=p:=⟨_,rfl⟩
    rw [hp] at x0 x1 x2 hz HE0 HTK
    clear hp
    have HC:=Lib.hid (addType_s (w.heap.size + 1 + 1) (some (w.heap.size + 1 + 1 + 1)) k (ts.take k) p _ (HO1.out.kept (World.grownBy_alloc wr (.cells #[.string p.name, .int .i64 p.syn, .bool p.single] 62) none) (by simp)) (by omega) hz)
    have d1:(k:Int) < (ts.length:Int):=by omega
    go_wp2_with fail
    refine HC.out.mono ?_
    rintro e w1 ⟨rfl,hg,hok⟩
    have HN1:=Lib.hid ((HN.out.alloc _).grown hg (.inl rfl))
    have HO3:=Lib.hid ((HO2.out.kept (World.grownBy_alloc wr _ none) (by simp)).kept hg (by simp))
    clear hg r0 r1 f0 f1 b0 b1 q0 q1 hs hs1 hs0 x0 x1 x2 HC
    by_cases he:errTy (ts.take k) p=0
    ·have HO4:=Lib.hid (hok he)
     rw [he]
     clear hok
     go_wp2_with fail
     go_roundw
     case rel =>
      refine ⟨k + 1,by omega,by go_num,Lib.hid fun q hq => ?_,Lib.hid (by rw [HTK.out]; exact HO4.out),HO3,HN1⟩
      rcases Nat.lt_or_ge q k with h | h
      ·exact HA.out q h
      ·obtain rfl:q=k:=by omega
       rw [HE0.out]; exact he
     case measure=>simp [intOf]; omega
    ·have HE5:=Lib.hid (show chkS ts cs=errTy (ts.take k) p from (chkS_type hlim hlt HA.out (by rw [HE0.out]; exact he)).trans HE0.out)
     clear hok
     obtain ⟨c,hc⟩:∃ c,errTy (ts.take k) p=c:=⟨_,rfl⟩
     rw [hc] at he HE5 ⊢
     clear hc
     have r0:w1.cell? ⟨w.heap.size + 1,0,none⟩=some (.map none):=heap_cell HN1.out.res rfl
     have r1:w1.cell? ⟨w.heap.size + 1,1,none⟩=some (.map none):=heap_cell HN1.out.res rfl
     have f0:w1.frozen? ⟨w.heap.size + 1,0,none⟩=false:=heap_frozen HN1.out.res
     have f1:w1.frozen? ⟨w.heap.size + 1,1,none⟩=false:=heap_frozen HN1.out.res
     have b0:w1.cell? ⟨w.heap.size + 1 + 1 + 1 + 1,0,none⟩=some (.map (some (w.heap.size + 1 + 1))):=heap_cell HN1.out.tab rfl
     have b1:w1.cell? ⟨w.heap.size + 1 + 1 + 1 + 1,1,none⟩=some (.map (some (w.heap.size + 1 + 1 + 1))):=heap_cell HN1.out.tab rfl
     have hs:w.heap.size + 1 + 1 + 1 + 1 < w1.heap.size:=HN1.out.big
     have hs1:w.heap.size + 1 < w1.heap.size:=by omega
     have hs0:w.heap.size < w1.heap.size:=by omega
     go_wp2_with fail
     refine bodyPost_ret (v := .tuple #[.agg #[.map none, .map none], .int .i64 c]) (by simp only [results,Tryz.results109]; go_simp) rfl ?_
     exact FIN.out c HE5.out he _ (below_set1 (below_set1 HN1.out.low (w.heap.size + 1) 0 hf _) (w.heap.size + 1) 1 hf _)
   ·obtain rfl:k=ts.length:=by omega
    have d1:¬ (ts.length:Int) < (ts.length:Int):=by omega
    rw [List.take_length] at HO1
    go_wp2_with fail
    clear r0 r1 f0 f1 b0 b1 q0 q1 hs hs1 hs0 d1 hk hlt
    have HAT:=HA
    clear HA
    go_loopw [9,10,45] (fun s9 s10 i wr=>∃ k:Nat,k <= cs.length /\ i = .int .i64 k /\ Hid (∀ q,q < k -> errC ts cs q=0) /\ Hid (TOpen wr (w.heap.size + 1 + 1) ts.length ts) /\ Hid (COpen w0 wr (w.heap.size + 1 + 1 + 1) k (cs.take k)) /\ Hid (NT w wr ao ts.length cap bo cs.length dap)) (fun _ _ i _=>cs.length - (intOf i).toNat)
    case atStart=>exact ⟨0,Nat.zero_le _,rfl,Lib.hid (fun q hq=>absurd hq (Nat.not_lt_zero _)),HO1,HO2,HN⟩
    case round =>
     clear HO1 HO2 HN
     obtain ⟨k,hk,rfl,HA,HO1,HO2,HN⟩:=hrel
     have r0:wr.cell? ⟨w.heap.size + 1,0,none⟩=some (.map none):=heap_cell HN.out.res rfl
     have r1:wr.cell? ⟨w.heap.size + 1,1,none⟩=some (.map none):=heap_cell HN.out.res rfl
     have f0:wr.frozen? ⟨w.heap.size + 1,0,none⟩=false:=heap_frozen HN.out.res
     have f1:wr.frozen? ⟨w.heap.size + 1,1,none⟩=false:=heap_frozen HN.out.res
     have b0:wr.cell? ⟨w.heap.size + 1 + 1 + 1 + 1,0,none⟩=some (.map (some (w.heap.size + 1 + 1))):=heap_cell HN.out.tab rfl
     have b1:wr.cell? ⟨w.heap.size + 1 + 1 + 1 + 1,1,none⟩=some (.map (some (w.heap.size + 1 + 1 + 1))):=heap_cell HN.out.tab rfl
     have q0:wr.cell? ⟨w.heap.size,0,none⟩=some (.slice ao ts.length cap):=heap_cell HN.out.box rfl
     have q1:wr.cell? ⟨w.heap.size,1,none⟩=some (.slice bo cs.length dap):=heap_cell HN.out.box rfl
     have hs:w.heap.size + 1 + 1 + 1 + 1 < wr.heap.size:=HN.out.big
     have hs1:w.heap.size + 1 < wr.heap.size:=by omega
     have hs0:w.heap.size < wr.heap.size:=by omega
     by_cases hlt:k < cs.length
     ·obtain ⟨b,off,rfl,hb,hat⟩:=K4.out (by omega)
      obtain ⟨x0,x1,⟨a1,p1,q1',x2,s1⟩,a2,p2,q2',x3,s2⟩:=(hat k hlt)
      replace x0:=cell_later HN.out.low (cell_later H0.out x0)
      replace x1:=cell_later HN.out.low (cell_later H0.out x1)
      replace x2:=cell_later HN.out.low (cell_later H0.out x2)
      replace x3:=cell_later HN.out.low (cell_later H0.out x3)
      clear hat
      have hz:=ZC.out _ (cl_mem cs k hlt)
      have HE0:=Lib.hid (errC_take ts cs k)
      have HTK:=Lib.hid (cl_take cs k hlt)
      obtain ⟨p,hp⟩:∃ p,clAt cs k=p:=⟨_,rfl⟩
      rw [hp] at x0 x1 hz HE0 HTK s1 s2
      clear hp
      have HB2:=H0.out.trans ((HN.out.low.alloc (Nat.le_of_lt hs0) (.cells #[.string p.name, .string p.super, .slice a1 p1 q1', .slice a2 p2 q2'] 64)).mono H0.out.size)
      have HC:=Lib.hid (addClass_s (some (w.heap.size + 1 + 1)) (w.heap.size + 1 + 1 + 1) k w0 ts (cs.take k) p a1 a2 p1 q1' p2 q2' _ (HO1.out.kept (World.grownBy_alloc wr (.cells #[.string p.name, .string p.super, .slice a1 p1 q1', .slice a2 p2 q2'] 64) none) (by simp)).map (HO2.out.kept (World.grownBy_alloc wr _ none) (by simp)) (by omega) (s1.below HB2) (s2.below HB2) ⟨⟨a1,p1,q1',rfl,s1⟩,a2,p2,q2',rfl,s2⟩ hz.1 hz.2.1 hz.2.2.1 hz.2.2.2)
      clear hz s1 s2 HB2
      have d1:(k:Int) < (cs.length:Int):=by omega
      go_wp2_with fail
      refine HC.out.mono ?_
      rintro e w1 ⟨rfl,hg,hok⟩
      have HN1:=Lib.hid ((HN.out.alloc _).grown hg (.inr rfl))
      have HO3:=Lib.hid ((HO1.out.kept (World.grownBy_alloc wr _ none) (by simp)).kept hg (by simp))
      clear hg r0 r1 f0 f1 b0 b1 q0 q1 hs hs1 hs0 x0 x1 x2 x3 HC
      by_cases he:errCl ts (cs.take k) p=0
      ·have HO4:=Lib.hid (hok he)
       rw [he]
       clear hok
       go_wp2_with fail
       go_roundw
       case rel =>
        refine ⟨k + 1,by omega,by go_num,Lib.hid fun q hq => ?_,HO3,Lib.hid (by rw [HTK.out]; exact HO4.out),HN1⟩
        rcases Nat.lt_or_ge q k with h | h
        ·exact HA.out q h
        ·obtain rfl:q=k:=by omega
         rw [HE0.out]; exact he
       case measure=>simp [intOf]; omega
      ·have HE5:=Lib.hid (show chkS ts cs=errCl ts (cs.take k) p from (chkS_class hlim HAT.out hlt HA.out (by rw [HE0.out]; exact he)).trans HE0.out)
       clear hok
       obtain ⟨c,hc⟩:∃ c,errCl ts (cs.take k) p=c:=⟨_,rfl⟩
       rw [hc] at he HE5 ⊢
       clear hc
       have r0:w1.cell? ⟨w.heap.size + 1,0,none⟩=some (.map none):=heap_cell HN1.out.res rfl
       have r1:w1.cell? ⟨w.heap.size + 1,1,none⟩=some (.map none):=heap_cell HN1.out.res rfl
       have f0:w1.frozen? ⟨w.heap.size + 1,0,none⟩=false:=heap_frozen HN1.out.res
       have f1:w1.frozen? ⟨w.heap.size + 1,1,none⟩=false:=heap_frozen HN1.out.res
       have b0:w1.cell? ⟨w.heap.size + 1 + 1 + 1 + 1,0,none⟩=some (.map (some (w.heap.size + 1 + 1))):=heap_cell HN1.out.tab rfl
       have b1:w1.cell? ⟨w.heap.size + 1 + 1 + 1 + 1,1,none⟩=some (.map (some (w.heap.size + 1 + 1 + 1))):=heap_cell HN1.out.tab rfl
       have hs:w.heap.size + 1 + 1 + 1 + 1 < w1.heap.size:=HN1.out.big
       have hs1:w.heap.size + 1 < w1.heap.size:=by omega
       have hs0:w.heap.size < w1.heap.size:=by omega
       go_wp2_with fail
       refine bodyPost_ret (v := .tuple #[.agg #[.map none, .map none], .int .i64 c]) (by simp only [results,Tryz.results109]; go_simp) rfl ?_
       exact FIN.out c HE5.out he _ (below_set1 (below_set1 HN1.out.low (w.heap.size + 1) 0 hf _) (w.heap.size + 1) 1 hf _)
     ·obtain rfl:k=cs.length:=by omega
      have d1:¬ (cs.length:Int) < (cs.length:Int):=by omega
      rw [List.take_length] at HO2
      have HL:=Lib.hid (chkS_last hlim HAT.out HA.out)
      have HC:=Lib.hid (typeOf_s (some (w.heap.size + 1 + 1)) (some (w.heap.size + 1 + 1 + 1)) ts classN wr HO1.out.map (by decide))
      obtain ⟨u,hu⟩:∃ u,(tyOf ts classN).getD zeroTy=u:=⟨_,rfl⟩
      obtain ⟨ok,hok⟩:∃ b,(tyOf ts classN).isSome=b:=⟨_,rfl⟩
      unfold tyV at HC
      rw [hu,hok] at HC HL
      clear hu hok
      go_wp2_with fail
      refine HC.out.mono ?_
      rintro e w3 ⟨rfl,hb⟩
      have HN3:=Lib.hid (HN.out.below hb)
      have HO3:=Lib.hid (HO1.out.kept (grown_of_below hb (row:=none)) (by simp))
      have HO4:=Lib.hid (HO2.out.kept (grown_of_below hb (row:=none)) (by simp))
      clear hb r0 r1 f0 f1 b0 b1 q0 q1 hs hs1 hs0 HC HO1 HO2 HN
      have r0:w3.cell? ⟨w.heap.size + 1,0,none⟩=some (.map none):=heap_cell HN3.out.res rfl
      have r1:w3.cell? ⟨w.heap.size + 1,1,none⟩=some (.map none):=heap_cell HN3.out.res rfl
      have f0:w3.frozen? ⟨w.heap.size + 1,0,none⟩=false:=heap_frozen HN3.out.res
      have f1:w3.frozen? ⟨w.heap.size + 1,1,none⟩=false:=heap_frozen HN3.out.res
      have b0:w3.cell? ⟨w.heap.size + 1 + 1 + 1 + 1,0,none⟩=some (.map (some (w.heap.size + 1 + 1))):=heap_cell HN3.out.tab rfl
      have b1:w3.cell? ⟨w.heap.size + 1 + 1 + 1 + 1,1,none⟩=some (.map (some (w.heap.size + 1 + 1 + 1))):=heap_cell HN3.out.tab rfl
      have hs:w.heap.size + 1 + 1 + 1 + 1 < w3.heap.size:=HN3.out.big
      have hs1:w.heap.size + 1 < w3.heap.size:=by omega
      have hs0:w.heap.size < w3.heap.size:=by omega
      cases ok
      ·have HE5:=Lib.hid (show chkS ts cs=6 from HL.out.trans rfl)
       go_wp2_with fail
       refine bodyPost_ret (v := .tuple #[.agg #[.map none, .map none], .int .i64 6]) (by simp only [results,Tryz.results109]; go_simp) rfl ?_
       exact FIN.out 6 HE5.out (by decide) _ ((below_set1 (below_set1 HN3.out.low (w.heap.size + 1) 0 hf _) (w.heap.size + 1) 1 hf _).alloc (by simp only [set_size]; omega) _)
      ·by_cases h1:u.syn=1
       ·have HE5:=Lib.hid (show chkS ts cs=0 from HL.out.trans (by rw [h1]; rfl))
        go_wp2_with fail
        refine bodyPost_ret (v := .tuple #[.agg #[.map (some (w.heap.size + 1 + 1)), .map (some (w.heap.size + 1 + 1 + 1))], .int .i64 0]) (by simp only [results,Tryz.results109]; go_simp) rfl ?_
        have hts:soundT ts cs=ts:=if_pos HE5.out
        have hcs:soundC ts cs=cs:=if_pos HE5.out
        have g1:=grown_setN w3 (w.heap.size + 1) 0 (.map (some (w.heap.size + 1 + 1)))
        have g2:=grown_setN (w3.setCell ⟨w.heap.size + 1,0,none⟩ (.map (some (w.heap.size + 1 + 1)))) (w.heap.size + 1) 1 (.map (some (w.heap.size + 1 + 1 + 1)))
        refine ⟨some (w.heap.size + 1 + 1),some (w.heap.size + 1 + 1 + 1),by rw [HE5.out], ?_, ?_,(fun b e=>by have:=Option.some.inj e; omega),(fun b e=>by have:=Option.some.inj e; omega),(below_set1 (below_set1 HN3.out.low (w.heap.size + 1) 0 hf _) (w.heap.size + 1) 1 hf _).alloc (by simp only [set_size]; omega) _⟩
        ·rw [hts]
         exact (((HO3.out.kept g1 (by simp)).kept g2 (by simp)).kept (World.grownBy_alloc _ _ none) (by simp)).map
        ·rw [hcs]
         exact (((HO4.out.kept g1 (by simp; omega)).kept g2 (by simp; omega)).kept (World.grownBy_alloc _ _ none) (by simp)).map
       ·have HE5:=Lib.hid (show chkS ts cs=8 from HL.out.trans (by rw [if_neg h1]; rfl))
        go_wp2_with fail
        refine bodyPost_ret (v := .tuple #[.agg #[.map none, .map none], .int .i64 8]) (by simp only [results,Tryz.results109]; go_simp) rfl ?_
        exact FIN.out 8 HE5.out (by decide) _ ((below_set1 (below_set1 HN3.out.low (w.heap.size + 1) 0 hf _) (w.heap.size + 1) 1 hf _).alloc (by simp only [set_size]; omega) _)
def SchV (w:World) (v:Value) (ts:List Ty) (cs:List Cl):Prop:=
 ∃ ao n cap bo m dap,v = .agg #[.slice ao n cap, .slice bo m dap] /\ TysAt w ao n cap ts /\ ClsAt w bo m dap cs /\ SmT ts /\ SmC cs
theorem SchV.below {w w':World} {v:Value} {ts:List Ty} {cs:List Cl} (h:SchV w v ts cs) (hb:Below w.heap.size w w'):SchV w' v ts cs:=by
 obtain ⟨ao,n,cap,bo,m,dap,e,h1,h2,h3,h4⟩:=h
 exact ⟨ao,n,cap,bo,m,dap,e,h1.below hb,h2.below hb,h3,h4⟩
def TabV (w:World) (v:Value) (ts:List Ty) (cs:List Cl):Prop := ∃ m1 m2,v = .agg #[.map m1, .map m2] /\ TMap w m1 ts /\ CMap w w m2 cs
theorem TabV.below {w w':World} {v:Value} {ts:List Ty} {cs:List Cl} (h:TabV w v ts cs) (hb:Below w.heap.size w w'):TabV w' v ts cs:=by
 obtain ⟨m1,m2,e,h1,h2⟩:=h
 exact ⟨m1,m2,e,h1.below hb,(h2.below hb).base hb⟩
set_option maxHeartbeats 4000000 in
theorem accepted_s (v:Value) (ts:List Ty) (cs:List Cl) (w:World) (h:SchV w v ts cs) :
  Calls Tryz.prog 105 #[v] w fun e w'=>∃ u,e = .returned u /\ TabV w' u (soundT ts cs) (soundC ts cs) /\ Below w.heap.size w w':=by
 obtain ⟨ao,n,cap,bo,m,dap,rfl,h1,h2,h3,h4⟩:=h
 have hb0:Below w.heap.size w ((w.alloc (.cells #[.slice ao n cap, .slice bo m dap] 25)).alloc (.cells #[.map none, .map none] 130)):=((Below.refl _ _).alloc (Nat.le_refl _) _).alloc (by simp) _
 have HB0:=Lib.hid hb0
 have HC:=Lib.hid (newTable_s ao bo n cap m dap ts cs w _ hb0 (h1.below hb0) h2 h3 h4)
 clear h1 h2 h3 h4 hb0
 go_enter Tryz.func105,Tryz.ntmps105
 go_wp2_with fail
 refine HC.out.mono ?_
 rintro e w1 ⟨m1,m2,rfl,hT,hC,hf1,hf2,hb⟩
 have r0:w1.cell? ⟨w.heap.size + 1,0,none⟩=some (.map none):=cell_later hb (by go_simp)
 have r1:w1.cell? ⟨w.heap.size + 1,1,none⟩=some (.map none):=cell_later hb (by go_simp)
 have f0:=frozen_later (i:=0) hb (b:=w.heap.size + 1) (by simp) (by go_simp)
 have f1:=frozen_later (i:=1) hb (b:=w.heap.size + 1) (by simp) (by go_simp)
 have hs1:w.heap.size + 1 < w1.heap.size:=by have:=hb.size; simp at this; omega
 have hs0:w.heap.size <= w.heap.size + 1:=Nat.le_succ _
 have HB1:=Lib.hid (HB0.out.trans (hb.mono (by simp; omega)))
 have HT:=Lib.hid hT
 have HC2:=Lib.hid hC
 have HF:=Lib.hid (And.intro (show ∀ b,m1=some b -> some b ≠ some (w.heap.size + 1) from fun b e h=>by have:=hf1 b e; have:=Option.some.inj h; simp at *; omega) (show ∀ b,m2=some b -> some b ≠ some (w.heap.size + 1) from fun b e h=>by have:=hf2 b e; have:=Option.some.inj h; simp at *; omega))
 clear hb hT hC HC hf1 hf2
 go_wp2_with fail
 refine bodyPost_ret (v := .agg #[.map m1, .map m2]) (by simp only [results,Tryz.results105]; go_simp) rfl ?_
 have g1:=grown_setN w1 (w.heap.size + 1) 0 (.map m1)
 have g2:=grown_setN (w1.setCell ⟨w.heap.size + 1,0,none⟩ (.map m1)) (w.heap.size + 1) 1 (.map m2)
 have HBe:=(below_set1 (below_set1 HB1.out (w.heap.size + 1) 0 hs0 (.map m1)) (w.heap.size + 1) 1 hs0 (.map m2)).alloc (by simp only [set_size]; omega) (.cells #[.map m1, .map m2] 130)
 refine ⟨_,rfl,⟨m1,m2,rfl, ?_, ?_⟩,HBe⟩
 ·exact ((HT.out.kept g1 HF.out.1).kept g2 HF.out.1).kept (World.grownBy_alloc _ _ none) (by simp)
 ·exact (((HC2.out.kept g1 HF.out.2).kept g2 HF.out.2).kept (World.grownBy_alloc _ _ none) (by simp)).base HBe
def CB (W:World) (g:Nat) (a b c d:Value):Prop:=
 (W.cell? ⟨g,0,none⟩=some a /\ W.cell? ⟨g,1,none⟩=some b /\ W.cell? ⟨g,2,none⟩=some c /\ W.cell? ⟨g,3,none⟩=some d) /\ W.frozen? ⟨g,0,none⟩=false /\ W.frozen? ⟨g,1,none⟩=false /\ W.frozen? ⟨g,2,none⟩=false /\ W.frozen? ⟨g,3,none⟩=false
theorem cb_new (W:World) (a b c d:Value) (t:TypeId):CB (W.alloc (.cells #[a,b,c,d] t)) W.heap.size a b c d:=by
 have h:(W.alloc (.cells #[a,b,c,d] t)).heap[W.heap.size]? = some (.cells #[a,b,c,d] t (0,0)):=heap_alloc_new W _
 exact ⟨⟨heap_cell h rfl,heap_cell h rfl,heap_cell h rfl,heap_cell h rfl⟩,heap_frozen h,heap_frozen h,heap_frozen h,heap_frozen h⟩
theorem CB.keep {W V:World} {g:Nat} {a b c d:Value} (h:CB W g a b c d) (e:V.heap[g]? = W.heap[g]?):CB V g a b c d:=by
 have k1:∀ i,V.cell? ⟨g,i,none⟩=W.cell? ⟨g,i,none⟩:=fun i=>World.cell?_of_block (a:=⟨g,i,none⟩) e
 have k2:∀ i,V.frozen? ⟨g,i,none⟩=W.frozen? ⟨g,i,none⟩:=fun i=>by unfold World.frozen?; rw [show V.heap[(⟨g,i,none⟩:Addr).block]? = W.heap[(⟨g,i,none⟩:Addr).block]? from e]
 unfold CB
 rw [k1,k1,k1,k1,k2,k2,k2,k2]; exact h
theorem CB.set {W:World} {g:Nat} {a b c d:Value} (h:CB W g a b c d) (x y z u:Value):CB ((((W.setCell ⟨g,0,none⟩ x).setCell ⟨g,1,none⟩ y).setCell ⟨g,2,none⟩ z).setCell ⟨g,3,none⟩ u) g x y z u:=by
 obtain ⟨⟨h0,h1,h2,h3⟩,f0,f1,f2,f3⟩:=h
 have ne:∀ i j:Nat,i ≠ j -> (⟨g,i,none⟩:Addr) ≠ ⟨g,j,none⟩:=fun i j hij e=>hij (by injection e)
 refine ⟨⟨?_, ?_, ?_, ?_⟩, ?_, ?_, ?_, ?_⟩
 ·rw [World.cell?_setCell_other _ _ _ _ (ne 3 0 (by decide)),World.cell?_setCell_other _ _ _ _ (ne 2 0 (by decide)),World.cell?_setCell_other _ _ _ _ (ne 1 0 (by decide))]
  exact World.cell?_setCell_same _ _ _ h0
 ·rw [World.cell?_setCell_other _ _ _ _ (ne 3 1 (by decide)),World.cell?_setCell_other _ _ _ _ (ne 2 1 (by decide))]
  exact World.cell?_setCell_same _ _ _ ((World.cell?_setCell_other _ _ _ _ (ne 0 1 (by decide))).trans h1)
 ·rw [World.cell?_setCell_other _ _ _ _ (ne 3 2 (by decide))]
  exact World.cell?_setCell_same _ _ _ (((World.cell?_setCell_other _ _ _ _ (ne 1 2 (by decide))).trans (World.cell?_setCell_other _ _ _ _ (ne 0 2 (by decide)))).trans h2)
 ·exact World.cell?_setCell_same _ _ _ ((((World.cell?_setCell_other _ _ _ _ (ne 2 3 (by decide))).trans (World.cell?_setCell_other _ _ _ _ (ne 1 3 (by decide)))).trans (World.cell?_setCell_other _ _ _ _ (ne 0 3 (by decide)))).trans h3)
 all_goals simp only [World.frozen?_setCell]; assumption
theorem grown_set4 (W:World) (g:Nat) (x y z u:Value):W.grownBy ((((W.setCell ⟨g,0,none⟩ x).setCell ⟨g,1,none⟩ y).setCell ⟨g,2,none⟩ z).setCell ⟨g,3,none⟩ u) (some g):=
 grown_two (grown_setN W g 0 x) (grown_two (grown_setN _ g 1 y) (grown_two (grown_setN _ g 2 z) (grown_setN _ g 3 u)))
def lenOf:Value -> Nat | .slice _ n _=>n | _=>0
structure LAt (w0 w W:World) (mt mc:Option Nat) (cs:List Cl) (n:ByteArray) (l:List Cv) (u:Value) (cur:ByteArray) (g:Nat) (c:Cl) (a1:Option Addr) (p1 q1:Nat) (a2:Option Addr) (p2 q2:Nat) (b:Bool):Prop where
 own:W.ownsRow (w.heap.size + 1) 64 4 u l.length (ccells l)
 ok:∀ d ∈ l,CvOk w0 d
 all:ccls l ++ lineS cs cur=lineS cs n
 got:ClGot w0 cs cur ⟨c, .slice a1 p1 q1, .slice a2 p2 q2⟩
 is:(clOf cs cur).isSome=b
 box:CB W g (.string c.name) (.string c.super) (.slice a1 p1 q1) (.slice a2 p2 q2)
 far:u.ownBlock ≠ some g
 high:w.heap.size + 1 <= g
 lt:g < W.heap.size
 m0:W.cell? ⟨w.heap.size,0,none⟩=some (.map mt)
 m1:W.cell? ⟨w.heap.size,1,none⟩=some (.map mc)
 low:Below w.heap.size w W
 big:w.heap.size < W.heap.size
theorem own_slc {w:World} {base n size:Nat} {e:TypeId} {v:Value} {xs:List Value} (h:w.ownsRow base e size v n xs):∃ ao cap,v = .slice ao n cap:=by
 rcases h.2 with ⟨rfl,h0⟩ | ⟨g,cap,cur,rfl,_⟩
 ·exact ⟨none,0,by rw [h0]⟩
 ·exact ⟨_,cap,rfl⟩
theorem ClGot.small {w0:World} {cs:List Cl} {n:ByteArray} {d:Cv} (h:ClGot w0 cs n d) (hz:SmC cs):d.cl.super.size <= 1000000000:=by
 cases e:clOf cs n with
 | none=>rw [h.1 e]; exact Nat.zero_le _
 | some c=>rw [(h.2 c e).1]; exact (hz c (clOf_mem e)).2.1
theorem lat_box {w0 w W V:World} {mt mc:Option Nat} {cs:List Cl} {n cur:ByteArray} {l:List Cv} {u:Value} {g:Nat} {c:Cl} {a1 a2:Option Addr} {p1 q1 p2 q2:Nat} {b:Bool} {o:Obj} (h:LAt w0 w W mt mc cs n l u cur g c a1 p1 q1 a2 p2 q2 b) (hg:(W.alloc o).grownBy V u.ownBlock) :
  CB V g (.string c.name) (.string c.super) (.slice a1 p1 q1) (.slice a2 p2 q2) /\ V.cell? ⟨w.heap.size,0,none⟩=some (.map mt) /\ V.cell? ⟨w.heap.size,1,none⟩=some (.map mc) /\ Below w.heap.size w V /\ W.heap.size < V.heap.size:=by
 have hal:=(Below.refl W.heap.size W).alloc (Nat.le_refl _) o
 have hne:∀ k,k <= w.heap.size -> some k ≠ u.ownBlock:=fun k hk e=>by have:=(h.own.lt k e.symm).1; omega
 refine ⟨h.box.keep ((hg.block g (by have:=h.lt; simp; omega) (fun e=>h.far e.symm)).trans (heap_old h.lt)), ?_, ?_,(h.low.trans (hal.mono (Nat.le_of_lt h.big))).grown hg (by have:=h.big; simp; omega) (fun k e=>by have:=(h.own.lt k e).1; omega),by have:=hg.size; simp at this; omega⟩
 ·exact (hg.cell (cell_later hal h.m0) (fun e=>hne _ (Nat.le_refl _) e))
 ·exact (hg.cell (cell_later hal h.m1) (fun e=>hne _ (Nat.le_refl _) e))
set_option maxHeartbeats 8000000 in
theorem lineage_s (mt mc:Option Nat) (w0:World) (cs:List Cl) (n:ByteArray) (w:World) (h:CMap w0 w mc cs) (hS:SoundC cs) (hL:cs.length <= 1000) (hZ:SmC cs) (hn:n.size <= 1000000000) :
  Calls Tryz.prog 112 #[.agg #[.map mt, .map mc], .string n] w fun e w'=>∃ (u:Value) (l:List Cv),e = .returned u /\ ccls l=lineS cs n /\ (∀ d ∈ l,CvOk w0 d) /\ w'.ownsRow (w.heap.size + 1) 64 4 u l.length (ccells l) /\ Below w.heap.size w w':=by
 have HS:=Lib.hid hS; have HZ:=Lib.hid hZ
 have HC:=Lib.hid (fun (n:ByteArray) (W:World) (hn:n.size <= 1000000000) (hW:Below w.heap.size w W)=>class_s mt mc w0 cs n W (h.below hW) hn)
 clear h hS hZ
 have HB0:Hid (Below w.heap.size w (w.alloc (.cells #[.map mt, .map mc] 130))):=Lib.hid ((Below.refl _ _).alloc (Nat.le_refl _) _)
 go_enter Tryz.func112,Tryz.ntmps112
 go_wp2_with fail
 refine (HC.out n _ hn HB0.out).mono ?_
 rintro e w1 ⟨⟨c,_,_⟩,a1,p1,q1,a2,p2,q2,rfl,rfl,hg,rfl,hb⟩
 dsimp only
 obtain ⟨ok,hok⟩:∃ b,(clOf cs n).isSome=b:=⟨_,rfl⟩
 rw [hok]
 have hs:w.heap.size < w1.heap.size:=by have:=hb.size; simp at this; omega
 have hal:=(Below.refl w1.heap.size w1).alloc (Nat.le_refl _) (.cells #[.string c.name, .string c.super, .slice a1 p1 q1, .slice a2 p2 q2] 64)
 have L0:Hid (LAt w0 w (w1.alloc (.cells #[.string c.name, .string c.super, .slice a1 p1 q1, .slice a2 p2 q2] 64)) mt mc cs n [] (.slice none 0 0) n w1.heap.size c a1 p1 q1 a2 p2 q2 ok):=
  Lib.hid ⟨World.ownsRow_nil _ _ _ _,(fun d hd=>by cases hd),rfl,hg,hok,cb_new w1 _ _ _ _ _,(by simp [Value.ownBlock]),hs,by simp,cell_later hal (cell_later hb (by go_simp)),cell_later hal (cell_later hb (by go_simp)),HB0.out.trans ((hb.trans (hal.mono hb.size)).mono (by simp)),by simp; omega⟩
 clear hb hg hok HB0 hal
 go_wp2_with fail
 go_loopw [5,6,7] (fun s5 s6 s7 wr=>∃ (l:List Cv) (ao:Option Addr) (cap:Nat) (cur:ByteArray) (g:Nat) (c:Cl) (a1:Option Addr) (p1 q1:Nat) (a2:Option Addr) (p2 q2:Nat) (b:Bool),s5 = .slice ao l.length cap /\ s6 = .pointer (some ⟨g,0,none⟩) /\ s7 = .bool b /\ Hid (LAt w0 w wr mt mc cs n l (.slice ao l.length cap) cur g c a1 p1 q1 a2 p2 q2 b)) (fun s5 _ _ _=>cs.length + 1 - lenOf s5)
 case atStart=>exact ⟨[],none,0,n,w1.heap.size,c,a1,p1,q1,a2,p2,q2,ok,rfl,rfl,rfl,L0⟩
 case round =>
  clear L0 hs
  obtain ⟨l,ao,cap,cur,g,c,a1,p1,q1,a2,p2,q2,b,rfl,rfl,rfl,HL⟩:=hrel
  cases b
  ·go_wp2_with fail
   go_ret
   have hz:clOf cs cur=none:=by
    have:=HL.out.is
    cases e:clOf cs cur with
    | none=>rfl
    | some x=>rw [e] at this; cases this
   have hall:=HL.out.all
   rw [lineS_none hz,List.append_nil] at hall
   exact ⟨_,l,rfl,hall,HL.out.ok,HL.out.own,HL.out.low⟩
  ·obtain ⟨cc,hcc⟩:∃ cc,clOf cs cur=some cc:=by
    have:=HL.out.is
    cases e:clOf cs cur with
    | none=>rw [e] at this; cases this
    | some x=>exact ⟨x,rfl⟩
   obtain ⟨hcl,hok⟩:=HL.out.got.2 cc hcc
   simp only at hcl
   subst hcl
   have hstep:=lineS_step HS.out hcc
   have hlen:l.length + 1 <= cs.length:=by
    have h1:=lineS_small HS.out n
    rw [<- HL.out.all,List.length_append,ccls_len,hstep,List.length_cons] at h1
    omega
   have hall:ccls (l ++ [⟨c, .slice a1 p1 q1, .slice a2 p2 q2⟩]) ++ lineS cs c.super=lineS cs n:=by
    rw [ccls_snoc,List.append_assoc, <- HL.out.all,hstep]; rfl
   have hsz:=(HZ.out c (clOf_mem hcc)).2.1
   have HOK:=Lib.hid hok
   have HA:=Lib.hid hall
   obtain ⟨⟨c0,c1,c2,c3⟩,f0,f1,f2,f3⟩:=HL.out.box
   have hown:=HL.out.own
   have hglt:=HL.out.lt
   have hbig:=HL.out.big
   have m0:=HL.out.m0
   have m1:=HL.out.m1
   clear hok hall hstep f0 f1 f2 f3
   have HM:=Lib.hid (And.intro m0 m1)
   clear m0 m1
   go_wp2_with (at_builtin; go_must (refine push_class wr hown (.tmp 22) (.tmp 24) ⟨c, .slice a1 p1 q1, .slice a2 p2 q2⟩ HOK.out ?_ ?_ ?_ ?_ ?_ ?_ ?_; exact rfl; exact rfl; exact rfl; exact rfl; omega; exact hbig; intro v3 w3 hown3 hg3 hl3; obtain ⟨⟨⟨k0,k1,k2,k3⟩,_⟩,m0,m1,hb3,hs3⟩:=lat_box HL.out hg3; have hs3b:w.heap.size < w3.heap.size:=(by omega); have hs3c:g < w3.heap.size:=(by omega); have HB3:=Lib.hid hb3; have HX3:=Lib.hid (And.intro hown3 (And.intro hg3 hl3)); clear hb3 hown3 hg3 hl3 c0 c1 c2 c3))
   have hX:=(Below.refl w3.heap.size w3).alloc (Nat.le_refl _) (.cells #[.string c.name, .string c.super, .slice a1 p1 q1, .slice a2 p2 q2] 64)
   have HX:=Lib.hid hX; clear hX
   have HM3:=Lib.hid (And.intro m0 m1)
   obtain ⟨ao3,cap3,rfl⟩:=own_slc HX3.out.1
   refine (HC.out c.super _ hsz (HB3.out.trans (HX.out.mono (Nat.le_of_lt hs3b)))).mono ?_
   rintro e w4 ⟨⟨c',_,_⟩,a1',p1',q1',a2',p2',q2',rfl,rfl,hg',rfl,hb⟩
   dsimp only
   obtain ⟨ok',hok'⟩:∃ b,(clOf cs c.super).isSome=b:=⟨_,rfl⟩
   rw [hok']
   have HCB:=Lib.hid (show CB w4 w3.heap.size (.string c.name) (.string c.super) (.slice a1 p1 q1) (.slice a2 p2 q2) from (cb_new w3 _ _ _ _ _).keep (hb.block _ (by simp)))
   have HG:=Lib.hid (And.intro hg' hok')
   have HX4:=Lib.hid (And.intro (own_below (own_below HX3.out.1 HX.out) hb) (And.intro (cell_later hb (cell_later HX.out HM3.out.1)) (And.intro (cell_later hb (cell_later HX.out HM3.out.2)) (HB3.out.trans ((HX.out.trans (hb.mono (by simp))).mono (Nat.le_of_lt hs3b))))))
   have hs4:w3.heap.size < w4.heap.size:=by have:=hb.size; simp at this; omega
   clear hb hg' hok' m0 m1 k0 k1 k2 k3
   obtain ⟨⟨e0,e1,e2,e3⟩,f0,f1,f2,f3⟩:=HCB.out
   go_wp2_with fail
   go_roundw
   case rel =>
    have hfar:∀ q,(Value.slice ao3 (l.length + 1) cap3).ownBlock=some q -> q < w3.heap.size:=fun q e=>(HX3.out.1.lt q e).2
    have hG4:=grown_set4 w4 w3.heap.size (.string c'.name) (.string c'.super) (.slice a1' p1' q1') (.slice a2' p2' q2')
    have hne:(Value.slice ao3 (l.length + 1) cap3).ownBlock ≠ some w3.heap.size:=fun e=>by have:=hfar _ e; omega
    have hlen2:(l ++ [(⟨c, .slice a1 p1 q1, .slice a2 p2 q2⟩:Cv)]).length=l.length + 1:=by rw [List.length_append]; rfl
    refine ⟨l ++ [⟨c, .slice a1 p1 q1, .slice a2 p2 q2⟩],ao3,cap3,c.super,w3.heap.size,c',a1',p1',q1',a2',p2',q2',ok',by rw [hlen2],rfl,rfl,Lib.hid ?_⟩
    rw [hlen2]
    refine ⟨?_, ?_,HA.out,HG.out.1,HG.out.2,HCB.out.set _ _ _ _,hne,by omega,by simp only [set_size]; omega, ?_, ?_, ?_,by simp only [set_size]; omega⟩
    ·rw [hlen2,ccells_snoc]
     exact HX4.out.1.kept hG4 (by
      cases h:(Value.slice ao3 (l.length + 1) cap3).ownBlock with
      | none=>exact .inl rfl
      | some q=>exact .inr (fun e=>by rw [h] at hne; exact hne e))
    ·intro d hd
     rcases List.mem_append.1 hd with h | h
     ·exact HL.out.ok d h
     ·rw [List.mem_singleton.1 h]; exact HOK.out
    ·exact cell_turned HX4.out.2.1 hG4 (by show w.heap.size ≠ w3.heap.size; omega)
    ·exact cell_turned HX4.out.2.2.1 hG4 (by show w.heap.size ≠ w3.heap.size; omega)
    ·exact HX4.out.2.2.2.grown hG4 (by omega) (fun k e=>by have:=Option.some.inj e; omega)
   case measure=>simp [lenOf]; omega
end Go.Proofs.YtmmdaegdkikkpaaGreatDoor
end

section
set_option maxRecDepth 100000
namespace Go.Proofs.YtmmdaegdkikkpaaGreatDoor
open Go.RowKit Go.PlainAid Go.Sort Go.Lib
theorem map_set (l:List ByteArray) (k:Nat) (h:k < l.length):(scells ((l.take k).map lowS ++ l.drop k)).set k (.string (lowS (partAt l k)))=scells ((l.take (k + 1)).map lowS ++ l.drop (k + 1)):=by
 apply List.ext_getElem?
 intro j
 unfold scells
 have hlen:(l.take k).length=k:=by rw [List.length_take]; omega
 have hlen2:(l.take (k + 1)).length=k + 1:=by rw [List.length_take]; omega
 rw [List.getElem?_set]
 by_cases hj:k=j
 ·subst hj
  rw [if_pos rfl,if_pos (by simp; omega),List.getElem?_map,List.getElem?_append_left (by rw [List.length_map]; omega),List.getElem?_map,List.getElem?_take,if_pos (by omega),List.getElem?_eq_getElem h]
  unfold partAt
  rw [List.getD_eq_getElem?_getD,List.getElem?_eq_getElem h]; rfl
 ·rw [if_neg hj,List.getElem?_map,List.getElem?_map]
  congr 1
  rcases Nat.lt_or_ge j k with h1 | h1
  ·rw [List.getElem?_append_left (by rw [List.length_map]; omega),List.getElem?_append_left (by rw [List.length_map]; omega),List.getElem?_map,List.getElem?_map,List.getElem?_take,List.getElem?_take,if_pos h1,if_pos (by omega)]
  ·rw [List.getElem?_append_right (by rw [List.length_map]; omega),List.getElem?_append_right (by rw [List.length_map]; omega),List.length_map,List.length_map,hlen,hlen2,List.getElem?_drop,List.getElem?_drop]
   congr 1; omega
set_option maxHeartbeats 1000000 in
theorem sortc {base g cap:Nat} {l:List ByteArray} {w:World} (hown:w.ownsRow base 9 1 (.slice (some ⟨g,0,none⟩) l.length cap) l.length (scells l)) (hn:l.length <= 1100000) :
  ∃ ts:List (List UInt8),(Calls Tryz.prog 78 #[.slice (some ⟨g,0,none⟩) l.length cap] w fun e w'=>e = .returned (.tuple #[]) /\ ∃ m os,w'=grow (putRow encStr (Sort.ahead w m) g 0 ts.toArray) os) /\
   ∀ (m:Nat) (os:Array Obj),Calls Tryz.prog 164 #[.slice (some ⟨g,0,none⟩) l.length cap] (grow (putRow encStr (Sort.ahead w m) g 0 ts.toArray) os) fun e w' =>
    e = .returned (.slice (some ⟨g,0,none⟩) (sortU l).length cap) /\ w'.ownsRow base 9 1 (.slice (some ⟨g,0,none⟩) (sortU l).length cap) (sortU l).length (scells (sortU l)) /\ w.grownBy w' (some g):=by
 rcases hown.2 with ⟨h2,_⟩ | ⟨g',cap',cur,h2,hg,hb,hc,hm,hcs,ht⟩
 ·cases h2
 ·simp only [Value.slice.injEq,Option.some.injEq,Addr.mk.injEq,and_true] at h2
  obtain ⟨rfl,_,rfl⟩:=h2
  obtain ⟨ss,hss⟩:∃ ss,(l.map fun s=>s.data.toList)=ss:=⟨_,rfl⟩
  have hsl:ss.length=l.length:=by rw [<- hss,List.length_map]
  have hgl:g < w.heap.size:=by
   rcases Nat.lt_or_ge g w.heap.size with h' | h'
   ·exact h'
   ·simp [Array.getElem?_eq_none h'] at hb
  have hH:Holds encStr w g 0 ss.toArray:=holds_of_block hb (by rw [hsl, <- hss, <- cells_enc]; simpa using ht)
  obtain ⟨ts,hts⟩:∃ ts,(ss.mergeSort fun x y=>decide (x <= y))=ts:=⟨_,rfl⟩
  have htl:ts.length=ss.length:=by rw [<- hts]; exact sort_len ss
  obtain ⟨cs,hcs'⟩:∃ cs,compact ts=cs:=⟨_,rfl⟩
  have hcl:cs.length <= ts.length:=by rw [<- hcs']; exact comp_le ts
  have HE:cs.map toB=sortU l:=(by rw [<- hcs', <- hts, <- hss]; exact compact_sorted l)
  have hS:=AnyM.slices_Sort_string Tryz.sort g 0 cap ss w hH hgl (by omega)
  rw [hsl,hts] at hS
  have hC:∀ (m:Nat) (os:Array Obj),Calls Tryz.prog 164 #[.slice (some ⟨g,0,none⟩) l.length cap] (grow (putRow encStr (Sort.ahead w m) g 0 ts.toArray) os) fun e w' =>
    e = .returned (.slice (some ⟨g,0,none⟩) cs.length cap) /\ w'.ownsRow base 9 1 (.slice (some ⟨g,0,none⟩) cs.length cap) cs.length (scells (cs.map toB)) /\ w.grownBy w' (some g):=by
   intro m os
   have ho1:=ownsRow_sorted (w:=w) (n:=m) (os:=os) (ss:=ss) (ts:=ts) htl hg hb (by omega) hm (by omega)
   obtain ⟨_,h2⟩:=ho1
   rcases h2 with ⟨h2,_⟩ | ⟨g',cap',cur',h2,_,hb',_,_,hcs2,ht'⟩
   ·cases h2
   ·simp only [Value.slice.injEq,Option.some.injEq,Addr.mk.injEq,and_true] at h2
    obtain ⟨rfl,_,rfl⟩:=h2
    have hH2:=holds_of_block (ss:=ts) hb' (by rw [htl]; simpa using ht')
    have h:=AnyG.slices_Compact_string Tryz.compact g 0 cap ts _ hH2 (by omega) (by omega)
    rw [hcs',show ts.length=l.length by omega] at h
    refine h.mono ?_
    rintro e w' ⟨rfl,q,rfl⟩
    refine ⟨rfl, ?_, ?_⟩
    ·obtain ⟨W1,hW1⟩:∃ W1,grow (putRow encStr (Sort.ahead w m) g 0 ts.toArray) os=W1:=⟨_,rfl⟩
     rw [hW1] at hb' ⊢
     have ho2:=ownsRow_sorted (n:=q) (os := #[]) (ss:=ts) (ts:=cs ++ List.replicate (l.length - cs.length) []) (by rw [List.length_append,List.length_replicate]; omega) hg hb' (by omega) hm (by omega)
     rw [grow_none] at ho2
     rcases ho2.2 with ⟨h2,_⟩ | ⟨g',cap',cur'',h2,_,hb'',_,_,hcs3,ht''⟩
     ·cases h2
     ·simp only [Value.slice.injEq,Option.some.injEq,Addr.mk.injEq,and_true] at h2
      obtain ⟨rfl,_,rfl⟩:=h2
      refine ⟨by simp [scells], .inr ⟨g,cap,cur'',rfl,hg,hb'',by omega,hm,hcs3, ?_⟩⟩
      rw [<- enc_cells,Nat.mul_one]
      rw [Nat.mul_one] at ht''
      have h3:=congrArg (List.take cs.length) ht''
      rw [List.take_take,Nat.min_eq_left (by omega),List.map_append,List.take_append_of_le_length (by simp), <- List.map_take,List.take_length] at h3
      exact h3
    ·have h1:=grownBy_sorted (w:=w) (g:=g) (n:=m) (os:=os) ts.toArray
     have h2:=grownBy_sorted (w:=grow (putRow encStr (Sort.ahead w m) g 0 ts.toArray) os) (g:=g) (n:=q) (os := #[]) (cs ++ List.replicate (l.length - cs.length) []).toArray
     rw [grow_none] at h2
     exact grown_two h1 h2
  refine ⟨ts,hS,fun m os=>(hC m os).mono ?_⟩
  rintro e w' ⟨rfl,h1,h3⟩
  have hcl2:(sortU l).length=cs.length:=by rw [<- HE,List.length_map]
  rw [hcl2, <- HE]
  exact ⟨rfl,h1,h3⟩
set_option maxHeartbeats 4000000 in
theorem ascendingF_s (base n:Nat) (v:Value) (l:List ByteArray) (w:World) (hown:w.ownsRow base 9 1 v n (scells l)) (hl:l.length=n) (hn:n <= 1100000) (hz:∀ s ∈ l,s.size <= 1000000000) (hbase:base <= w.heap.size) :
  Calls Tryz.prog 179 #[v] w fun e w'=>∃ u,e = .returned u /\ w'.ownsRow base 9 1 u (sortU (l.map lowS)).length (scells (sortU (l.map lowS))) /\ Below base w w':=by
 rcases hown.2 with ⟨rfl,h0⟩ | ⟨g,cap,cur,rfl,hg,hb,hc,hm,hcs,ht⟩
 ·subst h0
  have hl0:l = []:=List.length_eq_zero_iff.1 hl
  subst hl0
  go_enter Tryz.func179,Tryz.ntmps179
  go_wp2_with fail
  refine wp_loop_rounds 1 ?_
  rw [rounds_succ]
  go_wp2_with fail
  refine (AnyM.slices_Sort_string_none Tryz.sort none 0 _).mono ?_
  rintro e w1 ⟨rfl,rfl⟩
  go_wp2_with fail
  refine (AnyG.slices_Compact_string_empty Tryz.compact none 0 _).mono ?_
  rintro e w1 ⟨rfl,rfl⟩
  go_wp2_with fail
  go_ret
  exact ⟨_,rfl,World.ownsRow_nil _ _ _ _,Below.refl _ _⟩
 ·subst hl
  have HZ:=Lib.hid hz; clear hz
  have HO:=Lib.hid hown
  clear hown hb hc hcs ht
  go_enter Tryz.func179,Tryz.ntmps179
  go_wp2
  go_loopw [3,4,7] (fun s3 s4 i wr=>∃ k:Nat,k <= l.length /\ i = .int .i64 k /\ Hid (wr.ownsRow base 9 1 (.slice (some ⟨g,0,none⟩) l.length cap) l.length (scells ((l.take k).map lowS ++ l.drop k))) /\ Hid (Below base w wr /\ base <= wr.heap.size)) (fun _ _ i _=>l.length - (intOf i).toNat)
  case atStart=>exact ⟨0,Nat.zero_le _,rfl,HO,Lib.hid ⟨Below.refl _ _,hbase⟩⟩
  case round =>
   obtain ⟨k,hk,rfl,HR,HB⟩:=hrel
   by_cases hlt:k < l.length
   ·have d1:(k:Int) < (l.length:Int):=by omega
    have c0:wr.cell? ⟨g,k,none⟩=some (.string (partAt l k)):=by
     have:=HR.out.cells (g:=g) rfl k (.string (partAt l k)) (by
      unfold scells
      have hlen:(l.take k).length=k:=by rw [List.length_take]; omega
      rw [List.getElem?_map,List.getElem?_append_right (by rw [List.length_map]; omega),List.length_map,hlen,List.getElem?_drop,Nat.sub_self,Nat.add_zero,List.getElem?_eq_getElem hlt]
      unfold partAt
      rw [List.getD_eq_getElem?_getD,List.getElem?_eq_getElem hlt]; rfl)
     rwa [Go.WideShapes.add_plain,Nat.zero_add] at this
    have hps:=HZ.out _ (part_mem l k hlt)
    have HM:=Lib.hid (map_set l k hlt)
    obtain ⟨p,hp⟩:∃ p,partAt l k=p:=⟨_,rfl⟩
    rw [hp] at c0 hps HM
    clear hp
    go_wp2_with fail
    refine (lower_s p _ hps).mono ?_
    rintro e w1 ⟨rfl,hb⟩
    have c1:=cell_later hb c0
    have HR1:=Lib.hid (own_below HR.out hb)
    have f1:w1.frozen? ⟨g,k,none⟩=false:=HR1.out.frozenAt _
    have HB1:=Lib.hid (show Below base w w1 /\ base <= w1.heap.size from ⟨HB.out.1.trans (hb.mono HB.out.2),Nat.le_trans HB.out.2 hb.size⟩)
    clear hb c0
    go_wp2_with fail
    go_roundw
    case rel =>
     refine ⟨k + 1,by omega,by go_num,Lib.hid ?_,Lib.hid ⟨below_set1 HB1.out.1 g k hg _,by rw [set_size]; exact HB1.out.2⟩⟩
     rw [<- HM.out]
     exact (HR1.out.stored k _).1
    case measure=>simp [intOf]; omega
   ·obtain rfl:k=l.length:=by omega
    have d1:¬ (l.length:Int) < (l.length:Int):=by omega
    rw [List.take_length,List.drop_length,List.append_nil] at HR
    have hll:(l.map lowS).length=l.length:=List.length_map _
    have hown2:=HR.out
    rw [<- hll] at hown2
    obtain ⟨ts,hS,hC⟩:=sortc hown2 (by rw [hll]; omega)
    rw [hll] at hS hC
    have HS:=Lib.hid hS
    have HC:=Lib.hid hC
    clear hS hC hown2
    go_wp2_with fail
    refine HS.out.mono ?_
    rintro e w1 ⟨rfl,m,os,rfl⟩
    go_wp2_with fail
    refine (HC.out m os).mono ?_
    rintro e w1 ⟨rfl,ho,hg2⟩
    go_wp2_with fail
    go_ret
    exact ⟨_,rfl,ho,HB.out.1.grown hg2 HB.out.2 (fun q e=>by have:=Option.some.inj e; omega)⟩
end Go.Proofs.YtmmdaegdkikkpaaGreatDoor
end

section
set_option maxRecDepth 100000
namespace Go.Proofs.YtmmdaegdkikkpaaGreatDoor
open Go.RowKit Go.PlainAid
def FewC (cs:List Cl):Prop := ∀ c ∈ cs,c.must.length <= 64 /\ c.may.length <= 64
theorem fewC_sound (ts:List Ty) (cs:List Cl):FewC (soundC ts cs):=by
 intro c hc
 have hs:chkS ts cs=0:=by
  unfold soundC at hc
  split at hc
  ·assumption
  ·cases hc
 have he:soundC ts cs=cs:=if_pos hs
 rw [he] at hc
 obtain ⟨k,hk,rfl⟩:=mem_cl hc
 have h:=hs
 unfold chkS at h
 split at h
 ·cases h
 ·split at h
  ·exact absurd h ‹_›
  ·split at h
   ·exact absurd h ‹_›
   ·rename_i h3
    have h0:=firstE_none (Classical.not_not.1 h3) k hk
    unfold errC at h0
    split at h0
    ·cases h0
    ·split at h0
     ·cases h0
     ·split at h0
      ·cases h0
      ·split at h0
       ·cases h0
       ·rename_i h4; omega
theorem smC_sound {ts:List Ty} {cs:List Cl} (h:SmC cs):SmC (soundC ts cs):=by
 unfold soundC
 split
 ·exact h
 ·intro c hc; cases hc
def mustL (l:List Cl):List ByteArray:=l.flatMap fun c=>c.must
def mayL (l:List Cl):List ByteArray:=l.flatMap fun c=>c.may
theorem mustL_snoc (l:List Cl) (c:Cl):mustL (l ++ [c])=mustL l ++ c.must:=by simp [mustL]
theorem mayL_snoc (l:List Cl) (c:Cl):mayL (l ++ [c])=mayL l ++ c.may:=by simp [mayL]
theorem flat_few {f:Cl -> List ByteArray}:∀ {l:List Cl},(∀ c ∈ l,(f c).length <= 64) -> (l.flatMap f).length <= l.length * 64
 | [],_=>Nat.zero_le _
 | c :: l,h=>by
  rw [List.flatMap_cons,List.length_append,List.length_cons]
  have h1:=h c (List.mem_cons_self ..)
  have h2:=flat_few (f:=f) (l:=l) (fun d hd=>h d (List.mem_cons_of_mem _ hd))
  omega
theorem cls_at {w:World} {base n:Nat} {g cap:Nat} {l:List Cv} (h:w.ownsRow base 64 4 (.slice (some ⟨g,0,none⟩) n cap) n (ccells l)) (j:Nat) (hj:j < l.length) :
  w.cell? ⟨g,j * 4,none⟩=some (.string (l.getD j default).cl.name) /\ w.cell? ⟨g,j * 4 + 1,none⟩=some (.string (l.getD j default).cl.super) /\ w.cell? ⟨g,j * 4 + 2,none⟩=some (l.getD j default).hm /\ w.cell? ⟨g,j * 4 + 3,none⟩=some (l.getD j default).hy:=by
 have key:∀ i u,i < 4 -> (cvC (l.getD j default))[i]? = some u -> w.cell? ⟨g,j * 4 + i,none⟩=some u:=fun i u hi hu=>by
  have:=h.cells (g:=g) rfl (j * 4 + i) u ((flat_at cvC 4 (fun _=>rfl) default l j i hj hi).trans hu)
  rwa [Go.WideShapes.add_plain,Nat.zero_add] at this
 exact ⟨key 0 _ (by omega) rfl,key 1 _ (by omega) rfl,key 2 _ (by omega) rfl,key 3 _ (by omega) rfl⟩
theorem cv_take (l:List Cv) (k:Nat) (h:k < l.length):l.take (k + 1)=l.take k ++ [l.getD k default]:=by
 rw [List.getD_eq_getElem?_getD,List.getElem?_eq_getElem h]; exact List.take_succ_eq_append_getElem h
theorem cv_mem (l:List Cv) (k:Nat) (h:k < l.length):l.getD k default ∈ l:=by
 rw [List.getD_eq_getElem?_getD,List.getElem?_eq_getElem h]; exact List.getElem_mem h
theorem own_loc {w:World} {base n size:Nat} {e:TypeId} {v:Value} {xs:List Value} (h:w.ownsRow base e size v n xs) (hn:0 < n):∃ g cap,v = .slice (some ⟨g,0,none⟩) n cap /\ base <= g /\ g < w.heap.size:=by
 rcases h.2 with ⟨rfl,h0⟩ | ⟨g,cap,cur,rfl,_⟩
 ·omega
 ·exact ⟨g,cap,rfl,h.lt g rfl⟩
theorem scells_app (a b:List ByteArray):scells (a ++ b)=scells a ++ scells b:=List.map_append
set_option maxHeartbeats 8000000 in
theorem must_s (mt mc:Option Nat) (w0:World) (cs:List Cl) (n:ByteArray) (w:World) (h0:Below w0.heap.size w0 w) (h:CMap w0 w mc cs) (hS:SoundC cs) (hL:cs.length <= 1000) (hZ:SmC cs) (hF:FewC cs) (hn:n.size <= 1000000000) :
  Calls Tryz.prog 113 #[.agg #[.map mt, .map mc], .string n] w fun e w'=>∃ u:Value,e = .returned u /\ w'.ownsRow (w.heap.size + 1) 9 1 u (mustS cs n).length (scells (mustS cs n)) /\ Below w.heap.size w w':=by
 have HZ:=Lib.hid hZ; have HF:=Lib.hid hF; have H0:=Lib.hid h0
 have hB0:Below w.heap.size w (w.alloc (.cells #[.map mt, .map mc] 130)):=(Below.refl _ _).alloc (Nat.le_refl _) _
 have HB0:=Lib.hid hB0
 have HC:=Lib.hid (lineage_s mt mc w0 cs n _ (h.below hB0) hS hL hZ hn)
 have hlen:=lineS_small hS n
 have HS:=Lib.hid hS
 clear h hS hZ hF h0 hB0
 go_enter Tryz.func113,Tryz.ntmps113
 go_wp2_with fail
 refine HC.out.mono ?_
 rintro e w1 ⟨u,l,rfl,hl,hok,hown,hb⟩
 have HM:=Lib.hid (show ∀ c ∈ l,c.cl ∈ cs from fun c hc=>lineS_mem (n:=n) (by rw [<- hl]; exact List.mem_map_of_mem hc))
 have hll:l.length <= 1000:=by rw [<- ccls_len,hl]; omega
 have HE:=Lib.hid (show mustS cs n=sortU ((mustL (ccls l)).map lowS) by rw [mustS_eq,hl]; rfl)
 have HOK:=Lib.hid hok
 have HB1:=Lib.hid (show Below w.heap.size w w1 /\ w.heap.size + 1 <= w1.heap.size from ⟨HB0.out.trans (hb.mono (by simp)),by have:=hb.size; simpa using this⟩)
 have HOW:=Lib.hid hown
 obtain ⟨ao,cap,rfl⟩:=own_slc hown
 clear hb hok hl hown HB0 HC hlen HS
 go_wp2_with fail
 go_loopw [5,7,12] (fun s5 s7 i wr=>∃ (k:Nat),k <= l.length /\ i = .int .i64 k /\ Hid (wr.ownsRow w1.heap.size 9 1 s5 (mustL (ccls (l.take k))).length (scells (mustL (ccls (l.take k))))) /\ Hid (Below w1.heap.size w1 wr)) (fun _ _ i _=>l.length - (intOf i).toNat)
 case atStart=>exact ⟨0,Nat.zero_le _,rfl,Lib.hid (World.ownsRow_nil _ _ _ _),Lib.hid (Below.refl _ _)⟩
 case round =>
  obtain ⟨k,hk,rfl,HO,HB⟩:=hrel
  by_cases hlt:k < l.length
  ·have d1:(k:Int) < (l.length:Int):=by omega
   obtain ⟨g,cap',e,hg1,hg2⟩:=own_loc HOW.out (by omega)
   simp only [Value.slice.injEq] at e
   obtain ⟨rfl,_,rfl⟩:=e
   obtain ⟨c0,c1,c2,c3⟩:=cls_at HOW.out k hlt
   have hmem:=cv_mem l k hlt
   have HT:=Lib.hid (show mustL (ccls (l.take (k + 1)))=mustL (ccls (l.take k)) ++ (l.getD k default).cl.must by rw [cv_take l k hlt,ccls_snoc,mustL_snoc])
   have hcm:=HM.out _ hmem
   have hfw:=(HF.out _ hcm).1
   obtain ⟨hHm,hHy⟩:=HOK.out _ hmem
   have hlen:(mustL (ccls (l.take k))).length <= 64000:=by
    have h1:=flat_few (f:=fun c=>c.must) (l:=ccls (l.take k)) (fun c hc=>by
     obtain ⟨d,hd,rfl⟩:=List.mem_map.1 hc
     exact (HF.out _ (HM.out d (List.mem_of_mem_take hd))).1)
    have h2:(ccls (l.take k)).length <= 1000:=by rw [ccls_len,List.length_take]; omega
    show ((ccls (l.take k)).flatMap fun c=>c.must).length <= 64000
    omega
   obtain ⟨d,hd⟩:∃ d,l.getD k default=d:=⟨_,rfl⟩
   rw [hd] at c0 c1 c2 c3 HT hfw hHm hHy
   clear hd hmem hcm
   obtain ⟨vo,vn,vc,e1,hv⟩:=hHm
   obtain ⟨uo,un,uc,e2,hu⟩:=hHy
   rw [e1] at c2
   rw [e2] at c3
   clear e1 e2 hu
   have c0:=cell_later HB.out c0
   have c1:=cell_later HB.out c1
   have c2:=cell_later HB.out c2
   have c3:=cell_later HB.out c3
   have hvn:=hv.1
   have hal:=(Below.refl wr.heap.size wr).alloc (Nat.le_refl _) (.cells #[.string d.cl.name, .string d.cl.super, .slice vo vn vc, .slice uo un uc] 64)
   have HV:=Lib.hid (show StrsAt (wr.alloc (.cells #[.string d.cl.name, .string d.cl.super, .slice vo vn vc, .slice uo un uc] 64)) vo vn vc d.cl.must from ((hv.below (H0.out.trans (HB1.out.1.mono H0.out.size))).below (HB.out.trans (hal.mono HB.out.size))))
   have hown1:=HO.out.alloc (.cells #[.string d.cl.name, .string d.cl.super, .slice vo vn vc, .slice uo un uc] 64)
   have hsz1:w1.heap.size <= (wr.alloc (.cells #[.string d.cl.name, .string d.cl.super, .slice vo vn vc, .slice uo un uc] 64)).heap.size:=by have:=HB.out.size; simp; omega
   have HAL:=Lib.hid (HB.out.trans (hal.mono HB.out.size))
   clear hv hal
   go_wp2_with (at_builtin; go_must (refine push_strs (wr.alloc (.cells #[.string d.cl.name, .string d.cl.super, .slice vo vn vc, .slice uo un uc] 64)) hown1 (.tmp 16) (.tmp 18) HV.out ?_ ?_ ?_ ?_ ?_ ?_ ?_; exact rfl; exact rfl; exact rfl; exact rfl; omega; exact hsz1; intro v3 w3 hown3 hg3 hl3))
   have HO3:=Lib.hid hown3
   have HB3:=Lib.hid (HAL.out.grown hg3 hsz1 (fun q e=>(hown1.lt q e).1))
   clear hown3 hg3 hl3 hown1
   go_roundw
   case rel =>
    refine ⟨k + 1,by omega,by go_num,Lib.hid ?_,HB3⟩
    rw [HT.out,List.length_append,hvn,scells_app]
    exact HO3.out
   case measure=>simp [intOf]; omega
  ·obtain rfl:k=l.length:=by omega
   have d1:¬ (l.length:Int) < (l.length:Int):=by omega
   rw [List.take_length] at HO
   have hlen:(mustL (ccls l)).length <= 64000:=by
    have h1:=flat_few (f:=fun c=>c.must) (l:=ccls l) (fun c hc=>by
     obtain ⟨d,hd,rfl⟩:=List.mem_map.1 hc
     exact (HF.out _ (HM.out d hd)).1)
    have h2:(ccls l).length <= 1000:=by rw [ccls_len]; omega
    show ((ccls l).flatMap fun c=>c.must).length <= 64000
    omega
   have HC:=Lib.hid (ascendingF_s w1.heap.size _ _ (mustL (ccls l)) wr HO.out rfl (by omega) (fun s hs=>by
    obtain ⟨c,hc,hsc⟩:=List.mem_flatMap.1 hs
    obtain ⟨d,hd,rfl⟩:=List.mem_map.1 hc
    exact (HZ.out _ (HM.out d hd)).2.2.1 s hsc) HB.out.size)
   go_wp2_with fail
   refine HC.out.mono ?_
   rintro e w3 ⟨u,rfl,ho,hb⟩
   have HO3:=Lib.hid ho
   have HB3:=Lib.hid (HB.out.trans hb)
   clear ho hb
   go_wp2_with fail
   go_ret
   exact ⟨_,rfl,by rw [HE.out]; exact HO3.out.mono HB1.out.2,HB1.out.1.trans (HB3.out.mono (by have:=HB1.out.2; omega))⟩
set_option maxHeartbeats 4000000 in
theorem typeF_s (v:Value) (ts:List Ty) (cs:List Cl) (n:ByteArray) (w:World) (h:SchV w v ts cs) (hn:n.size <= 1000000000) :
  Calls Tryz.prog 46 #[v, .string n] w fun e w'=>e = .returned (.tuple #[tyV ((tyOf (soundT ts cs) n).getD zeroTy), .bool (tyOf (soundT ts cs) n).isSome]) /\ Below w.heap.size w w':=by
 have h':=h
 obtain ⟨ao,k,cap,bo,m,dap,rfl,_⟩:=h'
 have hb0:Below w.heap.size w ((w.alloc (.cells #[.slice ao k cap, .slice bo m dap] 25)).alloc (.cells #[.string ⟨#[]⟩, .int .i64 0, .bool false] 62)):=((Below.refl _ _).alloc (Nat.le_refl _) _).alloc (by simp) _
 have HB0:=Lib.hid hb0
 have HC:=Lib.hid (accepted_s _ ts cs _ (h.below hb0))
 clear h hb0
 obtain ⟨u,hu⟩:∃ u,(tyOf (soundT ts cs) n).getD zeroTy=u:=⟨_,rfl⟩
 obtain ⟨ok,hok⟩:∃ b,(tyOf (soundT ts cs) n).isSome=b:=⟨_,rfl⟩
 have HU:=Lib.hid (And.intro hu hok)
 rw [hu,hok]
 unfold tyV
 clear hu hok
 go_enter Tryz.func46,Tryz.ntmps46
 go_wp2_with fail
 refine HC.out.mono ?_
 rintro e w1 ⟨tv,rfl,⟨m1,m2,rfl,hT,_⟩,hb⟩
 have HB1:=Lib.hid (HB0.out.trans (hb.mono (by simp; omega)))
 have HC2:=typeOf_s m1 m2 (soundT ts cs) n w1 hT hn
 rw [HU.out.1,HU.out.2] at HC2
 unfold tyV at HC2
 have HC3:=Lib.hid HC2
 have r0:w1.cell? ⟨w.heap.size + 1,0,none⟩=some (.string ⟨#[]⟩):=cell_later hb (by go_simp)
 have r1:w1.cell? ⟨w.heap.size + 1,1,none⟩=some (.int .i64 0):=cell_later hb (by go_simp)
 have r2:w1.cell? ⟨w.heap.size + 1,2,none⟩=some (.bool false):=cell_later hb (by go_simp)
 have f0:=frozen_later (i:=0) hb (b:=w.heap.size + 1) (by simp) (by go_simp)
 have f1:=frozen_later (i:=1) hb (b:=w.heap.size + 1) (by simp) (by go_simp)
 have f2:=frozen_later (i:=2) hb (b:=w.heap.size + 1) (by simp) (by go_simp)
 have hs1:w.heap.size + 1 < w1.heap.size:=by have:=hb.size; simp at this; omega
 have HR:=Lib.hid (And.intro r0 (And.intro r1 (And.intro r2 (And.intro f0 (And.intro f1 f2)))))
 clear hb hT HC HB0 HC2 r0 r1 r2 f0 f1 f2
 go_wp2_with fail
 refine HC3.out.mono ?_
 rintro e w2 ⟨rfl,hb⟩
 have r0:=cell_later hb HR.out.1
 have r1:=cell_later hb HR.out.2.1
 have r2:=cell_later hb HR.out.2.2.1
 have f0:=frozen_later hb hs1 HR.out.2.2.2.1
 have f1:=frozen_later hb hs1 HR.out.2.2.2.2.1
 have f2:=frozen_later hb hs1 HR.out.2.2.2.2.2
 have HB2:=Lib.hid (HB1.out.trans (hb.mono HB1.out.size))
 have hs0:w.heap.size <= w.heap.size + 1:=Nat.le_succ _
 clear hb HC3 HR
 go_wp2_with fail
 refine bodyPost_ret (v := .tuple #[.agg #[.string u.name, .int .i64 u.syn, .bool u.single], .bool ok]) (by simp only [results,Tryz.results46]; go_simp) rfl ?_
 exact ⟨rfl,below_set1 (below_set1 (below_set1 HB2.out (w.heap.size + 1) 0 hs0 _) (w.heap.size + 1) 1 hs0 _) (w.heap.size + 1) 2 hs0 _⟩
theorem mustL_few {cs:List Cl} (hF:FewC cs) {l:List Cl} (hl:∀ c ∈ l,c ∈ cs) (hn:l.length <= 1000):(mustL l).length <= 64000:=by
 have:=flat_few (f:=fun c=>c.must) (l:=l) (fun c hc=>(hF c (hl c hc)).1)
 show (l.flatMap fun c=>c.must).length <= 64000
 omega
theorem mayL_few {cs:List Cl} (hF:FewC cs) {l:List Cl} (hl:∀ c ∈ l,c ∈ cs) (hn:l.length <= 1000):(mayL l).length <= 64000:=by
 have:=flat_few (f:=fun c=>c.may) (l:=l) (fun c hc=>(hF c (hl c hc)).2)
 show (l.flatMap fun c=>c.may).length <= 64000
 omega
theorem mustS_few {cs:List Cl} (hS:SoundC cs) (hL:cs.length <= 1000) (hF:FewC cs) (n:ByteArray):(mustS cs n).length <= 64000:=by
 rw [mustS_eq]
 refine Nat.le_trans (sortU_len _) ?_
 rw [List.length_map]
 exact mustL_few hF (fun c hc=>lineS_mem hc) (Nat.le_trans (lineS_small hS n) hL)
theorem mustS_small {cs:List Cl} (hZ:SmC cs) {n s:ByteArray} (h:s ∈ mustS cs n):s.size <= 1000000000:=by
 rw [mustS_eq,sortU_mem] at h
 obtain ⟨t,ht,rfl⟩:=List.mem_map.1 h
 obtain ⟨c,hc,hs⟩:=List.mem_flatMap.1 ht
 rw [lowS_size]
 exact (hZ c (lineS_mem hc)).2.2.1 t hs
set_option maxHeartbeats 8000000 in
theorem may_s (mt mc:Option Nat) (w0:World) (cs:List Cl) (n:ByteArray) (w:World) (h0:Below w0.heap.size w0 w) (h:CMap w0 w mc cs) (hS:SoundC cs) (hL:cs.length <= 1000) (hZ:SmC cs) (hF:FewC cs) (hn:n.size <= 1000000000) :
  Calls Tryz.prog 114 #[.agg #[.map mt, .map mc], .string n] w fun e w'=>∃ u:Value,e = .returned u /\ w'.ownsRow (w.heap.size + 1) 9 1 u (mayS cs n).length (scells (mayS cs n)) /\ Below w.heap.size w w':=by
 have HZ:=Lib.hid hZ; have HF:=Lib.hid hF; have H0:=Lib.hid h0
 have hB0:Below w.heap.size w (w.alloc (.cells #[.map mt, .map mc] 130)):=(Below.refl _ _).alloc (Nat.le_refl _) _
 have HB0:=Lib.hid hB0
 have HC0:=Lib.hid (must_s mt mc w0 cs n _ (h0.trans (hB0.mono h0.size)) (h.below hB0) hS hL hZ hF hn)
 have HC:=Lib.hid (fun (W:World) (hW:Below w.heap.size w W)=>lineage_s mt mc w0 cs n W (h.below hW) hS hL hZ hn)
 have hlen:=lineS_small hS n
 have hms:=mustS_few hS hL hF n
 have HS:=Lib.hid (fun s (hs:s ∈ mustS cs n)=>mustS_small hZ hs)
 clear h hS hZ hF h0 hB0
 go_enter Tryz.func114,Tryz.ntmps114
 go_wp2_with fail
 refine HC0.out.mono ?_
 rintro e w1 ⟨u0,rfl,hown0,hb⟩
 have m0:w1.cell? ⟨w.heap.size,0,none⟩=some (.map mt):=cell_later hb (by go_simp)
 have m1:w1.cell? ⟨w.heap.size,1,none⟩=some (.map mc):=cell_later hb (by go_simp)
 have HB1:=Lib.hid (show Below w.heap.size w w1 /\ w.heap.size + 1 <= w1.heap.size from ⟨HB0.out.trans (hb.mono (by simp)),by have:=hb.size; simpa using this⟩)
 have HO0:=Lib.hid (hown0.mono (base':=w.heap.size + 1) (by simp))
 clear hb HC0 HB0 hown0
 go_wp2_with fail
 refine (HC.out w1 HB1.out.1).mono ?_
 rintro e w2 ⟨u,l,rfl,hl,hok,hown,hb⟩
 have HM:=Lib.hid (show ∀ c ∈ l,c.cl ∈ cs from fun c hc=>lineS_mem (n:=n) (by rw [<- hl]; exact List.mem_map_of_mem hc))
 have hll:l.length <= 1000:=by rw [<- ccls_len,hl]; omega
 have HE:=Lib.hid (show mayS cs n=sortU ((mustS cs n ++ mayL (ccls l)).map lowS) by rw [mayS_eq,hl]; rfl)
 have HOK:=Lib.hid hok
 obtain ⟨ao,cap,rfl⟩:=own_slc hown
 have HN:=Lib.hid (show (Value.slice ao l.length cap).ownBlock=none ∨ (Value.slice ao l.length cap).ownBlock ≠ u0.ownBlock by
  cases e:(Value.slice ao l.length cap).ownBlock with
  | none=>exact .inl rfl
  | some q =>
   refine .inr fun e2 => ?_
   have h1:=(hown.lt q e).1
   have h2:=(HO0.out.lt q e2.symm).2
   omega)
 have HOW:=Lib.hid (hown.mono (base':=w.heap.size + 1) (by have:=HB1.out.2; omega))
 have HO2:=Lib.hid (own_below HO0.out hb)
 have HB2:=Lib.hid (show Below w.heap.size w w2 /\ w.heap.size + 1 <= w2.heap.size from ⟨HB1.out.1.trans (hb.mono HB1.out.1.size),Nat.le_trans HB1.out.2 hb.size⟩)
 clear hb hok hl hown HC HO0 HB1 hlen m0 m1
 obtain ⟨ms,hmse⟩:∃ ms,mustS cs n=ms:=⟨_,rfl⟩
 rw [hmse] at HE HS HO2 hms
 clear hmse
 go_wp2_with fail
 go_loopw [5,7,15] (fun s5 s7 i wr=>∃ (k:Nat),k <= l.length /\ i = .int .i64 k /\ Hid (wr.ownsRow (w.heap.size + 1) 9 1 s5 (ms ++ mayL (ccls (l.take k))).length (scells (ms ++ mayL (ccls (l.take k))))) /\ Hid (wr.ownsRow (w.heap.size + 1) 64 4 (.slice ao l.length cap) l.length (ccells l)) /\ Hid ((Value.slice ao l.length cap).ownBlock=none ∨ (Value.slice ao l.length cap).ownBlock ≠ s5.ownBlock) /\ Hid (Below w.heap.size w wr /\ w.heap.size + 1 <= wr.heap.size)) (fun _ _ i _=>l.length - (intOf i).toNat)
 case atStart=>exact ⟨0,Nat.zero_le _,rfl,Lib.hid (by simpa [mayL,ccls] using HO2.out),HOW,HN,HB2⟩
 case round =>
  clear HO2 HOW HN HB2
  obtain ⟨k,hk,rfl,HO,HOW,HN,HB⟩:=hrel
  have hlen:(mayL (ccls (l.take k))).length <= 64000:=mayL_few HF.out (fun c hc=>by
   obtain ⟨d,hd,rfl⟩:=List.mem_map.1 hc
   exact HM.out d (List.mem_of_mem_take hd)) (by rw [ccls_len,List.length_take]; omega)
  have hlen2:(ms ++ mayL (ccls (l.take k))).length <= 128000:=by rw [List.length_append]; omega
  by_cases hlt:k < l.length
  ·have d1:(k:Int) < (l.length:Int):=by omega
   obtain ⟨g,cap',e,hg1,hg2⟩:=own_loc HOW.out (by omega)
   simp only [Value.slice.injEq] at e
   obtain ⟨rfl,_,rfl⟩:=e
   obtain ⟨c0,c1,c2,c3⟩:=cls_at HOW.out k hlt
   have hmem:=cv_mem l k hlt
   have HT:=Lib.hid (show ms ++ mayL (ccls (l.take (k + 1)))=(ms ++ mayL (ccls (l.take k))) ++ (l.getD k default).cl.may by rw [cv_take l k hlt,ccls_snoc,mayL_snoc,List.append_assoc])
   have hcm:=HM.out _ hmem
   have hfw:=(HF.out _ hcm).2
   obtain ⟨hHm,hHy⟩:=HOK.out _ hmem
   obtain ⟨d,hd⟩:∃ d,l.getD k default=d:=⟨_,rfl⟩
   rw [hd] at c0 c1 c2 c3 HT hfw hHm hHy
   clear hd hmem hcm
   obtain ⟨vo,vn,vc,e1,hv⟩:=hHy
   obtain ⟨uo,un,uc,e2,hu⟩:=hHm
   rw [e1] at c3
   rw [e2] at c2
   clear e1 e2 hu
   have hvn:=hv.1
   have hal:=(Below.refl wr.heap.size wr).alloc (Nat.le_refl _) (.cells #[.string d.cl.name, .string d.cl.super, .slice uo un uc, .slice vo vn vc] 64)
   have HV:=Lib.hid (show StrsAt (wr.alloc (.cells #[.string d.cl.name, .string d.cl.super, .slice uo un uc, .slice vo vn vc] 64)) vo vn vc d.cl.may from ((hv.below (H0.out.trans (HB.out.1.mono H0.out.size))).below hal))
   have hown1:=HO.out.alloc (.cells #[.string d.cl.name, .string d.cl.super, .slice uo un uc, .slice vo vn vc] 64)
   have HW1:=Lib.hid (HOW.out.alloc (.cells #[.string d.cl.name, .string d.cl.super, .slice uo un uc, .slice vo vn vc] 64))
   have hsz1:w.heap.size + 1 <= (wr.alloc (.cells #[.string d.cl.name, .string d.cl.super, .slice uo un uc, .slice vo vn vc] 64)).heap.size:=by have:=HB.out.2; simp; omega
   have HAL:=Lib.hid (HB.out.1.trans (hal.mono (by have:=HB.out.2; omega)))
   clear hv hal
   go_wp2_with (at_builtin; go_must (refine push_strs (wr.alloc (.cells #[.string d.cl.name, .string d.cl.super, .slice uo un uc, .slice vo vn vc] 64)) hown1 (.tmp 19) (.tmp 21) HV.out ?_ ?_ ?_ ?_ ?_ ?_ ?_; exact rfl; exact rfl; exact rfl; exact rfl; omega; exact hsz1; intro v3 w3 hown3 hg3 hl3))
   have HO3:=Lib.hid hown3
   have HB3:=Lib.hid (show Below w.heap.size w w3 /\ w.heap.size + 1 <= w3.heap.size from ⟨HAL.out.grown hg3 (by omega) (fun q e=>by have:=(hown1.lt q e).1; omega),Nat.le_trans hsz1 hg3.size⟩)
   have HW3:=Lib.hid (HW1.out.kept hg3 HN.out)
   have HN3:=Lib.hid (show (Value.slice (some ⟨g,0,none⟩) l.length cap).ownBlock=none ∨ (Value.slice (some ⟨g,0,none⟩) l.length cap).ownBlock ≠ v3.ownBlock by
    rcases hl3 with h1 | h1
    ·rw [h1]; exact HN.out
    ·refine .inr fun e2 => ?_
     rw [h1] at e2
     have:=(HOW.out.lt _ e2).2
     simp at this
     omega)
   clear hown3 hg3 hl3 hown1
   go_roundw
   case rel =>
    refine ⟨k + 1,by omega,by go_num,Lib.hid ?_,HW3,HN3,HB3⟩
    rw [HT.out,List.length_append,hvn,scells_app]
    exact HO3.out
   case measure=>simp [intOf]; omega
  ·obtain rfl:k=l.length:=by omega
   have d1:¬ (l.length:Int) < (l.length:Int):=by omega
   rw [List.take_length] at HO hlen hlen2
   have HC:=Lib.hid (ascendingF_s (w.heap.size + 1) _ _ (ms ++ mayL (ccls l)) wr HO.out rfl (by omega) (fun s hs=>by
    rcases List.mem_append.1 hs with h | h
    ·exact HS.out s h
    ·obtain ⟨c,hc,hsc⟩:=List.mem_flatMap.1 h
     obtain ⟨d,hd,rfl⟩:=List.mem_map.1 hc
     exact (HZ.out _ (HM.out d hd)).2.2.2 s hsc) HB.out.2)
   go_wp2_with fail
   refine HC.out.mono ?_
   rintro e w3 ⟨u,rfl,ho,hb⟩
   have HO3:=Lib.hid ho
   have HB3:=Lib.hid (HB.out.1.trans (hb.mono (Nat.le_succ _)))
   clear ho hb
   go_wp2_with fail
   go_ret
   exact ⟨_,rfl,by rw [HE.out]; exact HO3.out,HB3.out⟩
end Go.Proofs.YtmmdaegdkikkpaaGreatDoor
end
