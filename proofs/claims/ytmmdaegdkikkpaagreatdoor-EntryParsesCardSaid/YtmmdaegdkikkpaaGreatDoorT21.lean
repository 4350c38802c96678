/-
  Texts of the schema layer and of those beneath it, joined: EntEx0. Conditions stand at each contract.
-/
import Derived.Test.YtmmdaegdkikkpaaGreatDoorT20
set_option linter.unusedVariables false
set_option linter.unusedSimpArgs false
set_option linter.unnecessarySimpa false

section
set_option maxRecDepth 100000
namespace Go.Proofs.YtmmdaegdkikkpaaGreatDoor
open Go.RowKit Go.PlainAid
theorem mcells_at {T:List Mv} {i:Nat} (hi:i < T.length):(mcells T)[i * 3]? = some (.int .i64 (T.getD i default).md.op) /\ (mcells T)[i * 3 + 1]? = some (.string (T.getD i default).md.name) /\ (mcells T)[i * 3 + 2]? = some (T.getD i default).hd:=by
 induction T generalizing i with
 | nil=>exact absurd hi (Nat.not_lt_zero _)
 | cons t T ih =>
  cases i with
  | zero=>exact ⟨rfl,rfl,rfl⟩
  | succ i =>
   have:=ih (i:=i) (by simpa using hi)
   rw [show (i + 1) * 3=i * 3 + 1 + 1 + 1 by omega]
   exact this
theorem mmds_at {T:List Mv} {i:Nat} (hi:i < T.length):mdD (mmds T) i=(T.getD i default).md:=by
 unfold mdD mmds
 rw [List.getD_eq_getElem?_getD,List.getElem?_map,List.getD_eq_getElem?_getD,List.getElem?_eq_getElem hi]; rfl
theorem DvI.mds {w W:World} {v:Value} {T:List Mv} (h:DvI w v T W):∃ ao cap,v = .slice ao T.length cap /\ MdsAt W ao T.length cap (mmds T):=by
 have h0:=h.row
 have hl:(mmds T).length=T.length:=by unfold mmds; rw [List.length_map]
 rcases h0.2 with ⟨e,hn⟩ | ⟨g,cap,cur,e,hb,hg,hc,hm,hcs,ht⟩
 ·refine ⟨none,0,by rw [e,hn],hl,by omega,by unfold maxLen; omega,fun k=>by omega⟩
 ·refine ⟨_,cap,e,hl,hc,hm,fun h1=>⟨g,0,rfl, ?_,fun j hj => ?_⟩⟩
  ·rcases Nat.lt_or_ge g W.heap.size with h' | h'
   ·exact h'
   ·simp [Array.getElem?_eq_none h'] at hg
  ·rw [e] at h0
   obtain ⟨c0,c1,c2⟩:=mcells_at hj
   have x0:=h0.cells (g:=g) rfl _ _ c0
   have x1:=h0.cells (g:=g) rfl _ _ c1
   have x2:=h0.cells (g:=g) rfl _ _ c2
   rw [Go.WideShapes.add_plain] at x0 x1 x2
   have hmem:T.getD j default ∈ T:=by
    rw [List.getD_eq_getElem?_getD,List.getElem?_eq_getElem hj]; exact List.getElem_mem _
   obtain ⟨vo,vc,ev,hs⟩:=strs_own (h.own _ hmem).1 rfl
   rw [mmds_at hj]
   refine ⟨x0,by rw [<- Nat.add_assoc] at x1; exact x1,vo,_,vc, ?_,hs⟩
   rw [<- ev]
   rw [<- Nat.add_assoc] at x2; exact x2
theorem sizes (W:World) (o:Obj):(W.alloc o).heap.size=W.heap.size + 1:=by simp
theorem ats1 (w:World) (nm:ByteArray) (vs:List ByteArray) (hl:vs.length <= 100) :
  AttrsAt ((w.alloc (.cells (scells vs).toArray 9)).alloc (.cells #[.string nm, .slice (some ⟨w.heap.size,0,none⟩) vs.length vs.length] 58)) (some ⟨w.heap.size + 1,0,none⟩) 1 1 [(nm,vs)]:=by
 have k1:=(kbl_new w (.cells (scells vs).toArray 9)).step (below_al _ (.cells #[.string nm, .slice (some ⟨w.heap.size,0,none⟩) vs.length vs.length] 58))
 have k2:=kb_at (W:=w.alloc (.cells (scells vs).toArray 9)) (.cells #[.string nm, .slice (some ⟨w.heap.size,0,none⟩) vs.length vs.length] 58) (sizes _ _)
 refine ts_ats (T:=[(nm, .slice (some ⟨w.heap.size,0,none⟩) vs.length vs.length,vs)]) (ts_kb k2 (by show 1 <= maxLen; unfold maxLen; omega)) fun t ht => ?_
 rw [List.mem_singleton.1 ht]
 exact ⟨_,_,_,rfl,strs_kb k1 rfl (by unfold maxLen; omega)⟩
theorem ats3 (w:World) (n1 n2 n3 v1 v2 v3:ByteArray) :
  AttrsAt ((((w.alloc (.cells #[.string v1] 9)).alloc (.cells #[.string v2] 9)).alloc (.cells #[.string v3] 9)).alloc
   (.cells #[.string n1, .slice (some ⟨w.heap.size,0,none⟩) 1 1, .string n2, .slice (some ⟨w.heap.size + 1,0,none⟩) 1 1, .string n3, .slice (some ⟨w.heap.size + 1 + 1,0,none⟩) 1 1] 58)) (some ⟨w.heap.size + 1 + 1 + 1,0,none⟩) 3 3 [(n1,[v1]),(n2,[v2]),(n3,[v3])]:=by
 have k1:=(((kbl_new w (.cells #[.string v1] 9)).step (below_al _ (.cells #[.string v2] 9))).step (below_al _ (.cells #[.string v3] 9))).step (below_al _ (.cells #[.string n1, .slice (some ⟨w.heap.size,0,none⟩) 1 1, .string n2, .slice (some ⟨w.heap.size + 1,0,none⟩) 1 1, .string n3, .slice (some ⟨w.heap.size + 1 + 1,0,none⟩) 1 1] 58))
 have k2:=((kb_at (W:=w.alloc (.cells #[.string v1] 9)) (.cells #[.string v2] 9) (sizes _ _)).step (below_al _ (.cells #[.string v3] 9))).step (below_al _ (.cells #[.string n1, .slice (some ⟨w.heap.size,0,none⟩) 1 1, .string n2, .slice (some ⟨w.heap.size + 1,0,none⟩) 1 1, .string n3, .slice (some ⟨w.heap.size + 1 + 1,0,none⟩) 1 1] 58))
 have k3:=(kb_at (W:=(w.alloc (.cells #[.string v1] 9)).alloc (.cells #[.string v2] 9)) (.cells #[.string v3] 9) (by rw [sizes,sizes])).step (below_al _ (.cells #[.string n1, .slice (some ⟨w.heap.size,0,none⟩) 1 1, .string n2, .slice (some ⟨w.heap.size + 1,0,none⟩) 1 1, .string n3, .slice (some ⟨w.heap.size + 1 + 1,0,none⟩) 1 1] 58))
 have k4:=kb_at (W:=((w.alloc (.cells #[.string v1] 9)).alloc (.cells #[.string v2] 9)).alloc (.cells #[.string v3] 9)) (.cells #[.string n1, .slice (some ⟨w.heap.size,0,none⟩) 1 1, .string n2, .slice (some ⟨w.heap.size + 1,0,none⟩) 1 1, .string n3, .slice (some ⟨w.heap.size + 1 + 1,0,none⟩) 1 1] 58) (by rw [sizes,sizes,sizes])
 refine ts_ats (T:=[(n1, .slice (some ⟨w.heap.size,0,none⟩) 1 1,[v1]),(n2, .slice (some ⟨w.heap.size + 1,0,none⟩) 1 1,[v2]),(n3, .slice (some ⟨w.heap.size + 1 + 1,0,none⟩) 1 1,[v3])]) (ts_kb k4 (by show 3 <= maxLen; unfold maxLen; omega)) fun t ht => ?_
 simp only [List.mem_cons,List.not_mem_nil,or_false] at ht
 rcases ht with rfl | rfl | rfl
 ·exact ⟨_,_,_,rfl,strs_kb k1 rfl (by unfold maxLen; omega)⟩
 ·exact ⟨_,_,_,rfl,strs_kb k2 rfl (by unfold maxLen; omega)⟩
 ·exact ⟨_,_,_,rfl,strs_kb k3 rfl (by unfold maxLen; omega)⟩
theorem mds2 (w:World) (o1 o2:Int) (n1 n2 v1 v2:ByteArray) :
  MdsAt (((w.alloc (.cells #[.string v1] 9)).alloc (.cells #[.string v2] 9)).alloc (.cells #[.int .i64 o1, .string n1, .slice (some ⟨w.heap.size,0,none⟩) 1 1, .int .i64 o2, .string n2, .slice (some ⟨w.heap.size + 1,0,none⟩) 1 1] 102)) (some ⟨w.heap.size + 1 + 1,0,none⟩) 2 2 [⟨o1,n1,[v1]⟩,⟨o2,n2,[v2]⟩]:=by
 have k1:=((kbl_new w (.cells #[.string v1] 9)).step (below_al _ (.cells #[.string v2] 9))).step (below_al _ (.cells #[.int .i64 o1, .string n1, .slice (some ⟨w.heap.size,0,none⟩) 1 1, .int .i64 o2, .string n2, .slice (some ⟨w.heap.size + 1,0,none⟩) 1 1] 102))
 have k2:=(kb_at (W:=w.alloc (.cells #[.string v1] 9)) (.cells #[.string v2] 9) (sizes _ _)).step (below_al _ (.cells #[.int .i64 o1, .string n1, .slice (some ⟨w.heap.size,0,none⟩) 1 1, .int .i64 o2, .string n2, .slice (some ⟨w.heap.size + 1,0,none⟩) 1 1] 102))
 have k3:=kb_at (W:=(w.alloc (.cells #[.string v1] 9)).alloc (.cells #[.string v2] 9)) (.cells #[.int .i64 o1, .string n1, .slice (some ⟨w.heap.size,0,none⟩) 1 1, .int .i64 o2, .string n2, .slice (some ⟨w.heap.size + 1,0,none⟩) 1 1] 102) (by rw [sizes,sizes])
 refine ⟨rfl,Nat.le_refl _,by unfold maxLen; omega,fun _=>⟨_,0,rfl,k3.big,fun j hj => ?_⟩⟩
 match j,hj with
 | 0,_=>exact ⟨k3.cell rfl,k3.cell rfl,_,_,_,k3.cell rfl,strs_kb (l:=[v1]) k1 rfl (by unfold maxLen; omega)⟩
 | 1,_=>exact ⟨k3.cell rfl,k3.cell rfl,_,_,_,k3.cell rfl,strs_kb (l:=[v2]) k2 rfl (by unfold maxLen; omega)⟩
theorem mds1 {W:World} {b1 b2:Nat} {o:Int} {n v:ByteArray} (k1:Kb W b1 (.cells #[.string v] 9)) (k2:Kb W b2 (.cells #[.int .i64 o, .string n, .slice (some ⟨b1,0,none⟩) 1 1] 102)):MdsAt W (some ⟨b2,0,none⟩) 1 1 [⟨o,n,[v]⟩]:=by
 refine ⟨rfl,Nat.le_refl _,by unfold maxLen; omega,fun _=>⟨_,0,rfl,k2.big,fun j hj => ?_⟩⟩
 match j,hj with
 | 0,_=>exact ⟨k2.cell rfl,k2.cell rfl,_,_,_,k2.cell rfl,strs_kb (l:=[v]) k1 rfl (by unfold maxLen; omega)⟩
theorem fewV_dec {l:List At} (h:l.all (fun a=>decide (a.2.length <= 1000))=true):FewV l:=fun a ha=>by
 have:=of_decide_eq_true (List.all_eq_true.1 h a ha); omega
end Go.Proofs.YtmmdaegdkikkpaaGreatDoor
end
