/-
  Texts of the schema layer and of those beneath it, joined: SchTab, SchAdd, SchTac, SchTyp, SchAdc, SchLn. Conditions stand at each contract.
-/
import Derived.Test.YtmmdaegdkikkpaaGreatDoorU05
set_option linter.unusedVariables false
set_option linter.unusedSimpArgs false
set_option linter.unnecessarySimpa false

section
set_option maxRecDepth 100000
namespace Go.Proofs.YtmmdaegdkikkpaaGreatDoor
open Go.RowKit Go.PlainAid
theorem frozen_later {w w':World} {b i:Nat} (hb:Below w.heap.size w w') (hl:b < w.heap.size) (h:w.frozen? ⟨b,i,none⟩=false):w'.frozen? ⟨b,i,none⟩=false:=by
 unfold World.frozen? at *
 rw [show w'.heap[(⟨b,i,none⟩:Addr).block]? = w.heap[(⟨b,i,none⟩:Addr).block]? from hb.block b hl]
 exact h
theorem below_set1 {B:Nat} {a w:World} (h:Below B a w) (g i:Nat) (hg:B <= g) (u:Value):Below B a (w.setCell ⟨g,i,none⟩ u):=h.setCell (p:=⟨g,i,none⟩) hg u
theorem set_size (w:World) (a:Addr) (u:Value):(w.setCell a u).heap.size=w.heap.size:=by simp [World.setCell]
theorem lsees {w W:World} {mv:Option Nat} {i:Nat} {t:TypeId} {k:ByteArray} {v:Value} {s:Nat} (h:∀ W,Below w.heap.size w W -> (Instr.lookup t (.map mv) (.string k) true).run Tryz.prog W = .ok v W) (c:W.cell? ⟨w.heap.size,i,none⟩=some (.map mv)) (hb:Below w.heap.size w W) (hs:w.heap.size + s <= W.heap.size) :
  W.cell? ⟨w.heap.size,i,none⟩=some (.map mv) /\ (Instr.lookup t (.map mv) (.string k) true).run Tryz.prog W = .ok v W /\ Hid (Below w.heap.size w W /\ w.heap.size + s <= W.heap.size):=⟨c,h W hb,Lib.hid ⟨hb,hs⟩⟩
theorem lsees_below {w W V:World} {mv:Option Nat} {i:Nat} {t:TypeId} {k:ByteArray} {v:Value} {s:Nat} (h:∀ W,Below w.heap.size w W -> (Instr.lookup t (.map mv) (.string k) true).run Tryz.prog W = .ok v W)
  (c:W.cell? ⟨w.heap.size,i,none⟩=some (.map mv) /\ (Instr.lookup t (.map mv) (.string k) true).run Tryz.prog W = .ok v W /\ Hid (Below w.heap.size w W /\ w.heap.size + s <= W.heap.size)) (hb:Below W.heap.size W V) :
  V.cell? ⟨w.heap.size,i,none⟩=some (.map mv) /\ (Instr.lookup t (.map mv) (.string k) true).run Tryz.prog V = .ok v V /\ Hid (Below w.heap.size w V /\ w.heap.size + s <= V.heap.size):=
 lsees h (cell_later hb c.1) (c.2.2.out.1.trans (hb.mono (by have:=c.2.2.out.2; omega))) (Nat.le_trans c.2.2.out.2 hb.size)
theorem lsees_set {w W:World} {mv:Option Nat} {i:Nat} {t:TypeId} {k:ByteArray} {v:Value} {s:Nat} (h:∀ W,Below w.heap.size w W -> (Instr.lookup t (.map mv) (.string k) true).run Tryz.prog W = .ok v W) (g j:Nat) (u:Value) (hg:w.heap.size < g)
  (c:W.cell? ⟨w.heap.size,i,none⟩=some (.map mv) /\ (Instr.lookup t (.map mv) (.string k) true).run Tryz.prog W = .ok v W /\ Hid (Below w.heap.size w W /\ w.heap.size + s <= W.heap.size)) :
  (W.setCell ⟨g,j,none⟩ u).cell? ⟨w.heap.size,i,none⟩=some (.map mv) /\ (Instr.lookup t (.map mv) (.string k) true).run Tryz.prog (W.setCell ⟨g,j,none⟩ u) = .ok v (W.setCell ⟨g,j,none⟩ u) /\ Hid (Below w.heap.size w (W.setCell ⟨g,j,none⟩ u) /\ w.heap.size + s <= (W.setCell ⟨g,j,none⟩ u).heap.size):=
 lsees h ((World.cell?_of_block (heap_setCell_other W ⟨g,j,none⟩ w.heap.size u (by show w.heap.size ≠ g; omega))).trans c.1) (below_set1 c.2.2.out.1 g j (by omega) u) (by rw [set_size]; exact c.2.2.out.2)
def ClGot (w0:World) (cs:List Cl) (n:ByteArray) (d:Cv):Prop:=(clOf cs n=none -> d=zeroCv) /\ ∀ c,clOf cs n=some c -> d.cl=c /\ CvOk w0 d
theorem TMap.looks {w:World} {mv:Option Nat} {ts:List Ty} (h:TMap w mv ts) (n:ByteArray) (hn:n.size <= 1000000000) :
  ∃ t:Ty,(tyOf ts n).getD zeroTy=t /\ ∀ W,Below w.heap.size w W -> (Instr.lookup 127 (.map mv) (.string (lowS n)) true).run Tryz.prog W = .ok (.tuple #[.agg #[.string t.name, .int .i64 t.syn, .bool t.single], .bool (tyOf ts n).isSome]) W:=by
 refine ⟨_,rfl,fun W hb => ?_⟩
 rw [(h.below hb).look n hn]
 cases tyOf ts n <;> rfl
theorem CMap.looks {w0 w:World} {mv:Option Nat} {cs:List Cl} (h:CMap w0 w mv cs) (n:ByteArray) (hn:n.size <= 1000000000) :
  ∃ (d:Cv) (a1:Option Addr) (p1 q1:Nat) (a2:Option Addr) (p2 q2:Nat),d.hm = .slice a1 p1 q1 /\ d.hy = .slice a2 p2 q2 /\ ClGot w0 cs n d /\
   ∀ W,Below w.heap.size w W -> (Instr.lookup 128 (.map mv) (.string (lowS n)) true).run Tryz.prog W = .ok (.tuple #[.agg #[.string d.cl.name, .string d.cl.super, .slice a1 p1 q1, .slice a2 p2 q2], .bool (clOf cs n).isSome]) W:=by
 obtain ⟨f,h,k⟩:=h
 have key:∀ (z:Value) W,Below w.heap.size w W -> (f (lowS n)).getD zeroClV=z -> (f (lowS n)).isSome=(clOf cs n).isSome -> (Instr.lookup 128 (.map mv) (.string (lowS n)) true).run Tryz.prog W = .ok (.tuple #[z, .bool (clOf cs n).isSome]) W:=fun z W hb hz hs=>by
  rw [(h.below hb).look_ok Tryz.underlying128 (Tryz.zeroValue64 _) (lowS n) (by rw [lowS_size]; unfold maxLen; omega), <- hz, <- hs]; rfl
 cases hc:clOf cs n with
 | none =>
  have hf:=(k n).1 hc
  exact ⟨zeroCv,none,0,0,none,0,0,rfl,rfl,⟨fun _=>rfl,fun c e=>absurd (hc.symm.trans e) (by simp)⟩,fun W hb=>by
   have:=key zeroClV W hb (by rw [hf]; rfl) (by rw [hf,hc]; rfl)
   rw [hc] at this; exact this⟩
 | some c =>
  obtain ⟨d,e,ho,hf⟩:=(k n).2 c hc
  obtain ⟨⟨a1,p1,q1,e1,s1⟩,a2,p2,q2,e2,s2⟩:=ho
  refine ⟨d,a1,p1,q1,a2,p2,q2,e1,e2,⟨(fun e=>by rw [e] at hc; cases hc),fun c' e'=>⟨by rw [e]; rw [hc] at e'; exact Option.some.inj e',⟨a1,p1,q1,e1,s1⟩,a2,p2,q2,e2,s2⟩⟩,fun W hb => ?_⟩
  have:=key (cvV d) W hb (by rw [hf]; rfl) (by rw [hf,hc]; rfl)
  rw [hc] at this
  unfold cvV at this
  rw [e1,e2] at this
  exact this
set_option maxHeartbeats 4000000 in
theorem typeOf_s (mt mc:Option Nat) (ts:List Ty) (n:ByteArray) (w:World) (h:TMap w mt ts) (hn:n.size <= 1000000000) :
  Calls Tryz.prog 106 #[.agg #[.map mt, .map mc], .string n] w fun e w'=>e = .returned (.tuple #[tyV ((tyOf ts n).getD zeroTy), .bool (tyOf ts n).isSome]) /\ Below w.heap.size w w':=by
 obtain ⟨t,ht,hl⟩:=h.looks n hn
 unfold tyV
 rw [ht]
 obtain ⟨ok,hok⟩:∃ b,(tyOf ts n).isSome=b:=⟨_,rfl⟩
 rw [hok] at hl ⊢
 have HL:=Lib.hid hl
 clear hl h hok ht
 have hb0:Below w.heap.size w ((w.alloc (.cells #[.map mt, .map mc] 130)).alloc (.cells #[.string ⟨#[]⟩, .int .i64 0, .bool false] 62)):=((Below.refl _ _).alloc (Nat.le_refl _) _).alloc (by simp) _
 have S0:=lsees (s:=2) (i:=0) (W:=((w.alloc (.cells #[.map mt, .map mc] 130)).alloc (.cells #[.string ⟨#[]⟩, .int .i64 0, .bool false] 62)).drew) HL.out (by go_simp) hb0.drew (by simp)
 clear hb0
 go_enter Tryz.func106,Tryz.ntmps106
 go_wp2_with fail
 refine wp_region_held_drew (S:=fun W=>W.cell? ⟨w.heap.size,0,none⟩=some (.map mt) /\ (Instr.lookup 127 (.map mt) (.string (lowS n)) true).run Tryz.prog W = .ok (.tuple #[.agg #[.string t.name, .int .i64 t.syn, .bool t.single], .bool ok]) W /\ Hid (Below w.heap.size w W /\ w.heap.size + 2 <= W.heap.size)) (by kernel_rfl) (S0) (fun hS => ?_)
 refine rgT 0 (some 9) ?_
 refine rgT 1 (some 10) ?_
 refine rgT 2 (some 11) ?_
 refine wpAnyH_ready (rs:=[3,8]) (by kernel_rfl) (by simp) ?_
 refine AllReadyH.cons rfl (fun K hK => ?_) (AllReadyH.cons rfl (fun K hK => ?_) AllReadyH.nil)
 ·go_simp
  refine (lower_s n _ hn).mono ?_
  rintro e w5 ⟨rfl,hb⟩
  go_wp2_with fail
  refine hK.out _ _ ?_ (fun hHeld => ?_)
  ·exact lsees_below HL.out (by assumption) hb
  clear hK K
  try simp only [Act.put,lsA,lsZ,lsS]
  refine rgT 4 (some 13) ?_
  refine rgT 5 (some 8) ?_
  refine rgT 6 (some 14) ?_
  refine rgT 7 (some 15) ?_
  refine rgC 8 (fun K hK => ?_)
  go_simp
  refine hK.out _ _ ?_ (fun hHeld => ?_)
  ·exact lsees_below HL.out (by assumption) ((Below.refl _ _).alloc (Nat.le_refl _) _)
  clear hK K
  try simp only [Act.put,lsA,lsZ,lsS]
  refine rgC 9 (fun K hK => ?_)
  go_simp
  refine hK.out _ _ ?_ (fun hHeld => ?_)
  ·exact lsees_below HL.out (by assumption) ((Below.refl _ w5).alloc (Nat.le_refl _) _)
  clear hK K
  try simp only [Act.put,lsA,lsZ,lsS]
  refine rgT 10 (some 7) ?_
  refine wpAnyH_done (by kernel_rfl) ?_ _
  have hS5:(fun W=>W.cell? ⟨w.heap.size,0,none⟩=some (.map mt) /\ (Instr.lookup 127 (.map mt) (.string (lowS n)) true).run Tryz.prog W = .ok (.tuple #[.agg #[.string t.name, .int .i64 t.syn, .bool t.single], .bool ok]) W /\ Hid (Below w.heap.size w W /\ w.heap.size + 2 <= W.heap.size)) w5:=by assumption
  have hB5:=hS5.2.2
  have e0:w5.cell? ⟨w.heap.size + 1,0,none⟩=some (.string ⟨#[]⟩):=cell_later hb (by go_simp)
  have e1:w5.cell? ⟨w.heap.size + 1,1,none⟩=some (.int .i64 0):=cell_later hb (by go_simp)
  have e2:w5.cell? ⟨w.heap.size + 1,2,none⟩=some (.bool false):=cell_later hb (by go_simp)
  have fe0:=frozen_later (i:=0) hb (b:=w.heap.size + 1) (by simp) (by go_simp)
  have fe1:=frozen_later (i:=1) hb (b:=w.heap.size + 1) (by simp) (by go_simp)
  have fe2:=frozen_later (i:=2) hb (b:=w.heap.size + 1) (by simp) (by go_simp)
  have hlt:w.heap.size + 1 < w5.heap.size:=hB5.out.2
  clear hS5
  go_wp2_with fail
  refine bodyPost_ret (v := .tuple #[.agg #[.string t.name, .int .i64 t.syn, .bool t.single], .bool ok]) (by simp only [results,Tryz.results106]; go_simp) rfl ?_
  refine ⟨rfl, ?_⟩
  have hf:w.heap.size <= w.heap.size + 1:=Nat.le_succ _
  have hg:w.heap.size <= w.heap.size + 1 + 1:=Nat.le_succ_of_le (Nat.le_succ _)
  exact (below_set1 (below_set1 (below_set1 (hB5.out.1) (w.heap.size + 1) 0 hf _) (w.heap.size + 1) 1 hf _) (w.heap.size + 1) 2 hf _).alloc (by simp only [set_size]; omega) _
 ·go_simp
  refine hK.out _ _ ?_ (fun hHeld => ?_)
  ·exact lsees_below HL.out (by assumption) ((Below.refl _ _).alloc (Nat.le_refl _) _)
  clear hK K
  try simp only [Act.put,lsA,lsZ,lsS]
  refine rgC 3 (fun K hK => ?_)
  go_simp
  refine (lower_s n _ hn).mono ?_
  rintro e w5 ⟨rfl,hb⟩
  have c0:w5.cell? ⟨w.heap.size + 1 + 1,0,none⟩=some (.string ⟨#[]⟩):=cell_later hb (by go_simp)
  have c1:w5.cell? ⟨w.heap.size + 1 + 1,1,none⟩=some (.int .i64 0):=cell_later hb (by go_simp)
  have c2:w5.cell? ⟨w.heap.size + 1 + 1,2,none⟩=some (.bool false):=cell_later hb (by go_simp)
  have fc0:=frozen_later (i:=0) hb (b:=w.heap.size + 1 + 1) (by simp) (by go_simp)
  have fc1:=frozen_later (i:=1) hb (b:=w.heap.size + 1 + 1) (by simp) (by go_simp)
  have fc2:=frozen_later (i:=2) hb (b:=w.heap.size + 1 + 1) (by simp) (by go_simp)
  go_wp2_with fail
  refine hK.out _ _ ?_ (fun hHeld => ?_)
  ·exact lsees_below HL.out (by assumption) hb
  clear hK K
  try simp only [Act.put,lsA,lsZ,lsS]
  refine rgT 4 (some 13) ?_
  refine rgT 5 (some 8) ?_
  refine rgT 6 (some 14) ?_
  refine rgT 7 (some 15) ?_
  refine rgC 9 (fun K hK => ?_)
  go_simp
  refine hK.out _ _ ?_ (fun hHeld => ?_)
  ·exact (lsees_set HL.out (w.heap.size + 1 + 1) 2 _ (Nat.lt_succ_of_le (Nat.le_succ _)) (lsees_set HL.out (w.heap.size + 1 + 1) 1 _ (Nat.lt_succ_of_le (Nat.le_succ _)) (lsees_set HL.out (w.heap.size + 1 + 1) 0 _ (Nat.lt_succ_of_le (Nat.le_succ _)) (by assumption))))
  clear hK K
  try simp only [Act.put,lsA,lsZ,lsS]
  refine rgT 10 (some 7) ?_
  refine wpAnyH_done (by kernel_rfl) ?_ _
  have hS5:(fun W=>W.cell? ⟨w.heap.size,0,none⟩=some (.map mt) /\ (Instr.lookup 127 (.map mt) (.string (lowS n)) true).run Tryz.prog W = .ok (.tuple #[.agg #[.string t.name, .int .i64 t.syn, .bool t.single], .bool ok]) W /\ Hid (Below w.heap.size w W /\ w.heap.size + 2 <= W.heap.size)) w5:=by assumption
  have hB5:=hS5.2.2
  have e0:w5.cell? ⟨w.heap.size + 1,0,none⟩=some (.string ⟨#[]⟩):=cell_later hb (by go_simp)
  have e1:w5.cell? ⟨w.heap.size + 1,1,none⟩=some (.int .i64 0):=cell_later hb (by go_simp)
  have e2:w5.cell? ⟨w.heap.size + 1,2,none⟩=some (.bool false):=cell_later hb (by go_simp)
  have fe0:=frozen_later (i:=0) hb (b:=w.heap.size + 1) (by simp) (by go_simp)
  have fe1:=frozen_later (i:=1) hb (b:=w.heap.size + 1) (by simp) (by go_simp)
  have fe2:=frozen_later (i:=2) hb (b:=w.heap.size + 1) (by simp) (by go_simp)
  have hlt:w.heap.size + 1 < w5.heap.size:=hB5.out.2
  clear hS5
  go_wp2_with fail
  refine bodyPost_ret (v := .tuple #[.agg #[.string t.name, .int .i64 t.syn, .bool t.single], .bool ok]) (by simp only [results,Tryz.results106]; go_simp) rfl ?_
  refine ⟨rfl, ?_⟩
  have hf:w.heap.size <= w.heap.size + 1:=Nat.le_succ _
  have hg:w.heap.size <= w.heap.size + 1 + 1:=Nat.le_succ_of_le (Nat.le_succ _)
  exact below_set1 (below_set1 (below_set1 (below_set1 (below_set1 (below_set1 (hB5.out.1) (w.heap.size + 1 + 1) 0 hg _) (w.heap.size + 1 + 1) 1 hg _) (w.heap.size + 1 + 1) 2 hg _) (w.heap.size + 1) 0 hf _) (w.heap.size + 1) 1 hf _) (w.heap.size + 1) 2 hf _
def errTy (ts:List Ty) (t:Ty):Int:=
 if nameB t.name=false then 5 else if (tyOf ts t.name).isSome=true then 7 else if t.syn < 1 ∨ 5 < t.syn then 8 else 0
theorem errT_take (ts:List Ty) (j:Nat):errT ts j=errTy (ts.take j) (tyAt ts j):=rfl
theorem grown_of_below {w w':World} {row:Option Nat} (h:Below w.heap.size w w'):w.grownBy w' row:=⟨h.os,h.tape,h.output,h.size,fun k hk _=>h.block k hk⟩
theorem keepG {w w1 w2:World} {row:Option Nat} {f:Nat} (h:Hid (w.grownBy w1 row /\ f <= w1.heap.size)) (hb:Below w1.heap.size w1 w2):Hid (w.grownBy w2 row /\ f <= w2.heap.size):=
 Lib.hid ⟨grown_two h.out.1 (grown_of_below hb),Nat.le_trans h.out.2 hb.size⟩
theorem keepGG {w w1 w2:World} {row:Option Nat} {f:Nat} (h:Hid (w.grownBy w1 row /\ f <= w1.heap.size)) (hb:w1.grownBy w2 row):Hid (w.grownBy w2 row /\ f <= w2.heap.size):=
 Lib.hid ⟨grown_two h.out.1 hb,Nat.le_trans h.out.2 hb.size⟩
theorem keepG5 {w w1 w2:World} {row:Option Nat} {f:Nat} {A B C D:Addr} {x y z u:Value} (h:w1.cell? A=some x /\ w1.cell? B=some y /\ w1.cell? C=some z /\ w1.cell? D=some u /\ Hid (w.grownBy w1 row /\ f <= w1.heap.size)) (hb:Below w1.heap.size w1 w2) :
  w2.cell? A=some x /\ w2.cell? B=some y /\ w2.cell? C=some z /\ w2.cell? D=some u /\ Hid (w.grownBy w2 row /\ f <= w2.heap.size):=
 ⟨cell_later hb h.1,cell_later hb h.2.1,cell_later hb h.2.2.1,cell_later hb h.2.2.2.1,keepG h.2.2.2.2 hb⟩
theorem cell_turned {w w':World} {g:Nat} {A:Addr} {x:Value} (h:w.cell? A=some x) (hg:w.grownBy w' (some g)) (hA:A.block ≠ g):w'.cell? A=some x:=hg.cell h (fun e=>hA (Option.some.inj e))
theorem keepGG5 {w w1 w2:World} {g:Nat} {f:Nat} {A B C D:Addr} {x y z u:Value} (h:w1.cell? A=some x /\ w1.cell? B=some y /\ w1.cell? C=some z /\ w1.cell? D=some u /\ Hid (w.grownBy w1 (some g) /\ f <= w1.heap.size)) (hb:w1.grownBy w2 (some g))
  (hA:A.block ≠ g) (hB:B.block ≠ g) (hC:C.block ≠ g) (hD:D.block ≠ g) :
  w2.cell? A=some x /\ w2.cell? B=some y /\ w2.cell? C=some z /\ w2.cell? D=some u /\ Hid (w.grownBy w2 (some g) /\ f <= w2.heap.size):=
 ⟨cell_turned h.1 hb hA,cell_turned h.2.1 hb hB,cell_turned h.2.2.1 hb hC,cell_turned h.2.2.2.1 hb hD,keepGG h.2.2.2.2 hb⟩
set_option maxHeartbeats 4000000 in
theorem addType_s (bt:Nat) (mc:Option Nat) (k:Nat) (ts:List Ty) (t:Ty) (w:World) (h:TOpen w bt k ts) (hk:k < 1100000) (hz:t.name.size <= 1000000000) :
  Calls Tryz.prog 172 #[.agg #[.map (some bt), .map mc], .agg #[.string t.name, .int .i64 t.syn, .bool t.single]] w fun e w' =>
   e = .returned (.int .i64 (errTy ts t)) /\ w.grownBy w' (some bt) /\ (errTy ts t=0 -> TOpen w' bt (k + 1) (ts ++ [t])):=by
 obtain ⟨nm,syn,sg⟩:=t
 simp only at hz ⊢
 have hbl:bt < w.heap.size:=h.lt
 have hb0:Below w.heap.size w ((w.alloc (.cells #[.map (some bt), .map mc] 130)).alloc (.cells #[.string nm, .int .i64 syn, .bool sg] 62)):=((Below.refl _ _).alloc (Nat.le_refl _) _).alloc (by simp) _
 have HB0:=Lib.hid hb0
 have HO:=Lib.hid h
 have HC:=Lib.hid (typeOf_s (some bt) mc ts nm _ (h.map.below hb0) hz)
 obtain ⟨u,hu⟩:∃ u,(tyOf ts nm).getD zeroTy=u:=⟨_,rfl⟩
 obtain ⟨tw,htw⟩:∃ b,(tyOf ts nm).isSome=b:=⟨_,rfl⟩
 unfold tyV at HC
 rw [hu,htw] at HC
 have HW:=Lib.hid htw
 clear h hu htw hb0
 obtain ⟨nb,hnb⟩:∃ b,nameB nm=b:=⟨_,rfl⟩
 have HNB:=Lib.hid hnb; clear hnb
 obtain ⟨d1,hd1⟩:∃ b,decide (syn < 1)=b:=⟨_,rfl⟩
 obtain ⟨d2,hd2⟩:∃ b,decide (5 < syn)=b:=⟨_,rfl⟩
 have HE:=Lib.hid (show errTy ts ⟨nm,syn,sg⟩=if nb=false then 5 else if tw=true then 7 else if d1=true ∨ d2=true then 8 else 0 by
  unfold errTy; simp only; rw [HNB.out,HW.out, <- hd1, <- hd2]; simp)
 go_enter Tryz.func172,Tryz.ntmps172
 go_wp2_with fail
 refine HC.out.mono ?_
 rintro e w1 ⟨rfl,hb⟩
 have a0:w1.cell? ⟨w.heap.size + 1,0,none⟩=some (.string nm):=cell_later hb (by go_simp)
 have a1:w1.cell? ⟨w.heap.size + 1,1,none⟩=some (.int .i64 syn):=cell_later hb (by go_simp)
 have a2:w1.cell? ⟨w.heap.size + 1,2,none⟩=some (.bool sg):=cell_later hb (by go_simp)
 have a3:w1.cell? ⟨w.heap.size,0,none⟩=some (.map (some bt)):=cell_later hb (by go_simp)
 have hs1:w.heap.size + 1 < w1.heap.size:=by have:=hb.size; simp at this; omega
 have HB1:=Lib.hid (HB0.out.trans (hb.mono (by simp; omega)))
 clear hb HB0 HC
 go_wp2_with fail
 refine (name_s nm _ hz).mono ?_
 rintro e w2 ⟨rfl,rfl⟩
 rw [HNB.out]
 have HG:=Lib.hid (grown_of_below (row:=some bt) (HB1.out.alloc (by omega) (.cells #[.string u.name, .int .i64 u.syn, .bool u.single] 62)))
 have fin:∀ c,errTy ts ⟨nm,syn,sg⟩=c -> c ≠ 0 -> ∀ W,w.grownBy W (some bt) -> (Ending.returned (.int .i64 c) = .returned (.int .i64 (errTy ts ⟨nm,syn,sg⟩)) /\ w.grownBy W (some bt) /\ (errTy ts ⟨nm,syn,sg⟩=0 -> TOpen W bt (k + 1) (ts ++ [⟨nm,syn,sg⟩]))):=
  fun c h1 h2 W h3=>⟨by rw [h1],h3,fun h=>absurd (h1.symm.trans h) h2⟩
 have FIN:=Lib.hid fin; clear fin
 cases nb
 ·have HE5:=Lib.hid (HE.out.trans rfl)
  go_wp2_with fail
  go_ret
  exact FIN.out 5 HE5.out (by decide) _ HG.out
 ·cases tw
  ·cases d1
   ·cases d2
    ·have HE5:=Lib.hid (show errTy ts ⟨nm,syn,sg⟩=0 from HE.out.trans (by simp))
     have hnone:tyOf ts nm=none:=by
      have:=HW.out
      cases e:tyOf ts nm with
      | none=>rfl
      | some x=>rw [e] at this; cases this
     have HN:=Lib.hid hnone; clear hnone
     have HX:Hid (Below w1.heap.size w1 (w1.alloc (.cells #[.string u.name, .int .i64 u.syn, .bool u.single] 62)).drew):=Lib.hid ((Below.refl _ _).alloc (Nat.le_refl _) _).drew
     have S0:=keepG5 (f:=w.heap.size + 2) ⟨a3,a0,a1,a2,Lib.hid ⟨grown_of_below (row:=some bt) HB1.out,by omega⟩⟩ HX.out
     go_wp2_with fail
     refine wp_region_held_drew (S:=fun W=>W.cell? ⟨w.heap.size,0,none⟩=some (.map (some bt)) /\ W.cell? ⟨w.heap.size + 1,0,none⟩=some (.string nm) /\ W.cell? ⟨w.heap.size + 1,1,none⟩=some (.int .i64 syn) /\ W.cell? ⟨w.heap.size + 1,2,none⟩=some (.bool sg) /\ Hid (w.grownBy W (some bt) /\ w.heap.size + 2 <= W.heap.size)) (by kernel_rfl) (S0) (fun hS => ?_)
     refine rgT 0 (some 30) ?_
     refine rgT 1 (some 31) ?_
     refine rgT 2 (some 32) ?_
     refine rgT 3 (some 33) ?_
     refine rgT 5 (some 35) ?_
     refine rgC 4 (fun K hK => ?_)
     go_simp
     refine (lower_s nm _ hz).mono ?_
     rintro e w5 ⟨rfl,hb⟩
     have hT5:=(HO.out.below HB1.out hbl).below (HX.out.trans (hb.mono (by simp))) (by omega)
     obtain ⟨w6,hrun6,hT6,hg6⟩:=hT5.store ⟨nm,syn,sg⟩ hk hz HN.out
     clear hT5
     unfold tyV at hrun6
     dsimp only at hrun6
     go_wp2_with fail
     refine hK.out _ _ ?_ (fun hHeld => ?_)
     ·exact keepG5 (by assumption) hb
     clear hK K
     try simp only [Act.put,lsA,lsZ,lsS]
     refine rgC 6 (fun K hK => ?_)
     go_simp
     refine hK.out _ _ ?_ (fun hHeld => ?_)
     ·exact keepGG5 (by assumption) hg6 (by show w.heap.size ≠ bt; omega) (by show w.heap.size + 1 ≠ bt; omega) (by show w.heap.size + 1 ≠ bt; omega) (by show w.heap.size + 1 ≠ bt; omega)
     clear hK K
     try simp only [Act.put,lsA,lsZ,lsS]
     refine wpAnyH_done (by kernel_rfl) ?_ _
     have hS6:w6.cell? ⟨w.heap.size,0,none⟩=some (.map (some bt)) /\ w6.cell? ⟨w.heap.size + 1,0,none⟩=some (.string nm) /\ w6.cell? ⟨w.heap.size + 1,1,none⟩=some (.int .i64 syn) /\ w6.cell? ⟨w.heap.size + 1,2,none⟩=some (.bool sg) /\ Hid (w.grownBy w6 (some bt) /\ w.heap.size + 2 <= w6.heap.size):=by assumption
     have HG6:=hS6.2.2.2.2
     have HT6:=Lib.hid hT6
     clear hS6 hT6 hg6 hrun6 hb
     go_wp2_with fail
     go_ret
     exact ⟨by rw [HE5.out]; rfl,HG6.out.1,fun _=>HT6.out⟩
    ·have HE5:=Lib.hid (HE.out.trans rfl)
     go_wp2_with fail
     go_ret
     exact FIN.out 8 HE5.out (by decide) _ HG.out
   ·have HE5:=Lib.hid (HE.out.trans rfl)
    go_wp2_with fail
    go_ret
    exact FIN.out 8 HE5.out (by decide) _ HG.out
  ·have HE5:=Lib.hid (HE.out.trans rfl)
   go_wp2_with fail
   go_ret
   exact FIN.out 7 HE5.out (by decide) _ HG.out
set_option maxHeartbeats 4000000 in
theorem class_s (mt mc:Option Nat) (w0:World) (cs:List Cl) (n:ByteArray) (w:World) (h:CMap w0 w mc cs) (hn:n.size <= 1000000000) :
  Calls Tryz.prog 177 #[.agg #[.map mt, .map mc], .string n] w fun e w'=>∃ (d:Cv) (a1:Option Addr) (p1 q1:Nat) (a2:Option Addr) (p2 q2:Nat),d.hm = .slice a1 p1 q1 /\ d.hy = .slice a2 p2 q2 /\ ClGot w0 cs n d /\
   e = .returned (.tuple #[.agg #[.string d.cl.name, .string d.cl.super, .slice a1 p1 q1, .slice a2 p2 q2], .bool (clOf cs n).isSome]) /\ Below w.heap.size w w':=by
 obtain ⟨d,a1,p1,q1,a2,p2,q2,h1,h2,hg,hl⟩:=h.looks n hn
 obtain ⟨ok,hok⟩:∃ b,(clOf cs n).isSome=b:=⟨_,rfl⟩
 rw [hok] at hl ⊢
 obtain ⟨nm,hnm⟩:∃ x,d.cl.name=x:=⟨_,rfl⟩
 obtain ⟨su,hsu⟩:∃ x,d.cl.super=x:=⟨_,rfl⟩
 rw [hnm,hsu] at hl
 have HL:=Lib.hid hl
 have HG:=Lib.hid (And.intro h1 (And.intro h2 (And.intro hg (And.intro hnm hsu))))
 clear hl h hok h1 h2 hg hnm hsu
 have hb0:Below w.heap.size w ((w.alloc (.cells #[.map mt, .map mc] 130)).alloc (.cells #[.string ⟨#[]⟩, .string ⟨#[]⟩, .slice none 0 0, .slice none 0 0] 64)):=((Below.refl _ _).alloc (Nat.le_refl _) _).alloc (by simp) _
 have S0:=lsees (s:=2) (i:=1) (W:=((w.alloc (.cells #[.map mt, .map mc] 130)).alloc (.cells #[.string ⟨#[]⟩, .string ⟨#[]⟩, .slice none 0 0, .slice none 0 0] 64)).drew) HL.out (by go_simp) hb0.drew (by simp)
 clear hb0
 go_enter Tryz.func177,Tryz.ntmps177
 go_wp2_with fail
 refine wp_region_held_drew (S:=fun W=>W.cell? ⟨w.heap.size,1,none⟩=some (.map mc) /\ (Instr.lookup 128 (.map mc) (.string (lowS n)) true).run Tryz.prog W = .ok (.tuple #[.agg #[.string nm, .string su, .slice a1 p1 q1, .slice a2 p2 q2], .bool ok]) W /\ Hid (Below w.heap.size w W /\ w.heap.size + 2 <= W.heap.size)) (by kernel_rfl) (S0) (fun hS => ?_)
 refine rgT 0 (some 9) ?_
 refine rgT 1 (some 10) ?_
 refine rgT 2 (some 11) ?_
 refine wpAnyH_ready (rs:=[3,8]) (by kernel_rfl) (by simp) ?_
 refine AllReadyH.cons rfl (fun K hK => ?_) (AllReadyH.cons rfl (fun K hK => ?_) AllReadyH.nil)
 ·go_simp
  refine (lower_s n _ hn).mono ?_
  rintro e w5 ⟨rfl,hb⟩
  go_wp2_with fail
  refine hK.out _ _ ?_ (fun hHeld => ?_)
  ·exact lsees_below HL.out (by assumption) hb
  clear hK K
  try simp only [Act.put,lsA,lsZ,lsS]
  refine rgT 4 (some 13) ?_
  refine rgT 5 (some 8) ?_
  refine rgT 6 (some 14) ?_
  refine rgT 7 (some 15) ?_
  refine rgC 8 (fun K hK => ?_)
  go_simp
  refine hK.out _ _ ?_ (fun hHeld => ?_)
  ·exact lsees_below HL.out (by assumption) ((Below.refl _ _).alloc (Nat.le_refl _) _)
  clear hK K
  try simp only [Act.put,lsA,lsZ,lsS]
  refine rgC 9 (fun K hK => ?_)
  go_simp
  refine hK.out _ _ ?_ (fun hHeld => ?_)
  ·exact lsees_below HL.out (by assumption) ((Below.refl _ w5).alloc (Nat.le_refl _) _)
  clear hK K
  try simp only [Act.put,lsA,lsZ,lsS]
  refine rgT 10 (some 7) ?_
  refine wpAnyH_done (by kernel_rfl) ?_ _
  have hS5:(fun W=>W.cell? ⟨w.heap.size,1,none⟩=some (.map mc) /\ (Instr.lookup 128 (.map mc) (.string (lowS n)) true).run Tryz.prog W = .ok (.tuple #[.agg #[.string nm, .string su, .slice a1 p1 q1, .slice a2 p2 q2], .bool ok]) W /\ Hid (Below w.heap.size w W /\ w.heap.size + 2 <= W.heap.size)) w5:=by assumption
  have hB5:=hS5.2.2
  have e0:w5.cell? ⟨w.heap.size + 1,0,none⟩=some (.string ⟨#[]⟩):=cell_later hb (by go_simp)
  have e1:w5.cell? ⟨w.heap.size + 1,1,none⟩=some (.string ⟨#[]⟩):=cell_later hb (by go_simp)
  have e2:w5.cell? ⟨w.heap.size + 1,2,none⟩=some (.slice none 0 0):=cell_later hb (by go_simp)
  have e3:w5.cell? ⟨w.heap.size + 1,3,none⟩=some (.slice none 0 0):=cell_later hb (by go_simp)
  have fe0:=frozen_later (i:=0) hb (b:=w.heap.size + 1) (by simp) (by go_simp)
  have fe1:=frozen_later (i:=1) hb (b:=w.heap.size + 1) (by simp) (by go_simp)
  have fe2:=frozen_later (i:=2) hb (b:=w.heap.size + 1) (by simp) (by go_simp)
  have fe3:=frozen_later (i:=3) hb (b:=w.heap.size + 1) (by simp) (by go_simp)
  have hlt:w.heap.size + 1 < w5.heap.size:=hB5.out.2
  clear hS5
  go_wp2_with fail
  refine bodyPost_ret (v := .tuple #[.agg #[.string nm, .string su, .slice a1 p1 q1, .slice a2 p2 q2], .bool ok]) (by simp only [results,Tryz.results177]; go_simp) rfl ?_
  obtain ⟨h1,h2,hg,hnm,hsu⟩:=HG.out
  refine ⟨d,a1,p1,q1,a2,p2,q2,h1,h2,hg,by rw [hnm,hsu], ?_⟩
  have hf:w.heap.size <= w.heap.size + 1:=Nat.le_succ _
  have hg:w.heap.size <= w.heap.size + 1 + 1:=Nat.le_succ_of_le (Nat.le_succ _)
  exact (below_set1 (below_set1 (below_set1 (below_set1 (hB5.out.1) (w.heap.size + 1) 0 hf _) (w.heap.size + 1) 1 hf _) (w.heap.size + 1) 2 hf _) (w.heap.size + 1) 3 hf _).alloc (by simp only [set_size]; omega) _
 ·go_simp
  refine hK.out _ _ ?_ (fun hHeld => ?_)
  ·exact lsees_below HL.out (by assumption) ((Below.refl _ _).alloc (Nat.le_refl _) _)
  clear hK K
  try simp only [Act.put,lsA,lsZ,lsS]
  refine rgC 3 (fun K hK => ?_)
  go_simp
  refine (lower_s n _ hn).mono ?_
  rintro e w5 ⟨rfl,hb⟩
  have c0:w5.cell? ⟨w.heap.size + 1 + 1,0,none⟩=some (.string ⟨#[]⟩):=cell_later hb (by go_simp)
  have c1:w5.cell? ⟨w.heap.size + 1 + 1,1,none⟩=some (.string ⟨#[]⟩):=cell_later hb (by go_simp)
  have c2:w5.cell? ⟨w.heap.size + 1 + 1,2,none⟩=some (.slice none 0 0):=cell_later hb (by go_simp)
  have c3:w5.cell? ⟨w.heap.size + 1 + 1,3,none⟩=some (.slice none 0 0):=cell_later hb (by go_simp)
  have fc0:=frozen_later (i:=0) hb (b:=w.heap.size + 1 + 1) (by simp) (by go_simp)
  have fc1:=frozen_later (i:=1) hb (b:=w.heap.size + 1 + 1) (by simp) (by go_simp)
  have fc2:=frozen_later (i:=2) hb (b:=w.heap.size + 1 + 1) (by simp) (by go_simp)
  have fc3:=frozen_later (i:=3) hb (b:=w.heap.size + 1 + 1) (by simp) (by go_simp)
  go_wp2_with fail
  refine hK.out _ _ ?_ (fun hHeld => ?_)
  ·exact lsees_below HL.out (by assumption) hb
  clear hK K
  try simp only [Act.put,lsA,lsZ,lsS]
  refine rgT 4 (some 13) ?_
  refine rgT 5 (some 8) ?_
  refine rgT 6 (some 14) ?_
  refine rgT 7 (some 15) ?_
  refine rgC 9 (fun K hK => ?_)
  go_simp
  refine hK.out _ _ ?_ (fun hHeld => ?_)
  ·exact (lsees_set HL.out (w.heap.size + 1 + 1) 3 _ (Nat.lt_succ_of_le (Nat.le_succ _)) (lsees_set HL.out (w.heap.size + 1 + 1) 2 _ (Nat.lt_succ_of_le (Nat.le_succ _)) (lsees_set HL.out (w.heap.size + 1 + 1) 1 _ (Nat.lt_succ_of_le (Nat.le_succ _)) (lsees_set HL.out (w.heap.size + 1 + 1) 0 _ (Nat.lt_succ_of_le (Nat.le_succ _)) (by assumption)))))
  clear hK K
  try simp only [Act.put,lsA,lsZ,lsS]
  refine rgT 10 (some 7) ?_
  refine wpAnyH_done (by kernel_rfl) ?_ _
  have hS5:(fun W=>W.cell? ⟨w.heap.size,1,none⟩=some (.map mc) /\ (Instr.lookup 128 (.map mc) (.string (lowS n)) true).run Tryz.prog W = .ok (.tuple #[.agg #[.string nm, .string su, .slice a1 p1 q1, .slice a2 p2 q2], .bool ok]) W /\ Hid (Below w.heap.size w W /\ w.heap.size + 2 <= W.heap.size)) w5:=by assumption
  have hB5:=hS5.2.2
  have e0:w5.cell? ⟨w.heap.size + 1,0,none⟩=some (.string ⟨#[]⟩):=cell_later hb (by go_simp)
  have e1:w5.cell? ⟨w.heap.size + 1,1,none⟩=some (.string ⟨#[]⟩):=cell_later hb (by go_simp)
  have e2:w5.cell? ⟨w.heap.size + 1,2,none⟩=some (.slice none 0 0):=cell_later hb (by go_simp)
  have e3:w5.cell? ⟨w.heap.size + 1,3,none⟩=some (.slice none 0 0):=cell_later hb (by go_simp)
  have fe0:=frozen_later (i:=0) hb (b:=w.heap.size + 1) (by simp) (by go_simp)
  have fe1:=frozen_later (i:=1) hb (b:=w.heap.size + 1) (by simp) (by go_simp)
  have fe2:=frozen_later (i:=2) hb (b:=w.heap.size + 1) (by simp) (by go_simp)
  have fe3:=frozen_later (i:=3) hb (b:=w.heap.size + 1) (by simp) (by go_simp)
  have hlt:w.heap.size + 1 < w5.heap.size:=hB5.out.2
  clear hS5
  go_wp2_with fail
  refine bodyPost_ret (v := .tuple #[.agg #[.string nm, .string su, .slice a1 p1 q1, .slice a2 p2 q2], .bool ok]) (by simp only [results,Tryz.results177]; go_simp) rfl ?_
  obtain ⟨h1,h2,hg,hnm,hsu⟩:=HG.out
  refine ⟨d,a1,p1,q1,a2,p2,q2,h1,h2,hg,by rw [hnm,hsu], ?_⟩
  have hf:w.heap.size <= w.heap.size + 1:=Nat.le_succ _
  have hg:w.heap.size <= w.heap.size + 1 + 1:=Nat.le_succ_of_le (Nat.le_succ _)
  exact below_set1 (below_set1 (below_set1 (below_set1 (below_set1 (below_set1 (below_set1 (below_set1 (hB5.out.1) (w.heap.size + 1 + 1) 0 hg _) (w.heap.size + 1 + 1) 1 hg _) (w.heap.size + 1 + 1) 2 hg _) (w.heap.size + 1 + 1) 3 hg _) (w.heap.size + 1) 0 hf _) (w.heap.size + 1) 1 hf _) (w.heap.size + 1) 2 hf _) (w.heap.size + 1) 3 hf _
theorem typedB_take {ts:List Ty} {ns:List ByteArray} {k:Nat} (h:typedB ts (ns.take k)=true) (hk:k < ns.length) (h1:(tyOf ts (partAt ns k)).isSome=true):typedB ts (ns.take (k + 1))=true:=by
 unfold typedB at *
 rw [take_snoc ns k hk,List.all_append,h]
 simpa using h1
theorem typedB_false {ts:List Ty} {ns:List ByteArray} {k:Nat} (hk:k < ns.length) (h1:(tyOf ts (partAt ns k)).isSome=false):typedB ts ns=false:=by
 unfold typedB
 cases e:ns.all (fun n=>(tyOf ts n).isSome)
 ·rfl
 ·have:=(List.all_eq_true.1 e) _ (part_mem ns k hk)
  rw [h1] at this; cases this
set_option maxHeartbeats 4000000 in
theorem typed_s (mt mc:Option Nat) (ts:List Ty) (ao:Option Addr) (n cap:Nat) (ns:List ByteArray) (w:World) (h:TMap w mt ts) (hs:StrsAt w ao n cap ns) (hz:∀ s ∈ ns,s.size <= 1000000000) :
  Calls Tryz.prog 241 #[.agg #[.map mt, .map mc], .slice ao n cap] w fun e w'=>e = .returned (.bool (typedB ts ns)) /\ Below w.heap.size w w':=by
 obtain ⟨h1,h2,h3,h4⟩:=hs
 subst h1
 unfold maxLen at h3
 have H4:=Lib.hid h4; clear h4
 have HZ:=Lib.hid hz; clear hz
 have HT:=Lib.hid h; clear h
 have HB0:Hid (Below w.heap.size w (w.alloc (.cells #[.map mt, .map mc] 130))):=Lib.hid ((Below.refl _ _).alloc (Nat.le_refl _) _)
 have c0:(w.alloc (.cells #[.map mt, .map mc] 130)).cell? ⟨w.heap.size,0,none⟩=some (.map mt):=by go_simp
 have c1:(w.alloc (.cells #[.map mt, .map mc] 130)).cell? ⟨w.heap.size,1,none⟩=some (.map mc):=by go_simp
 have HC0:=Lib.hid (And.intro c0 c1)
 clear c0 c1
 go_enter Tryz.func241,Tryz.ntmps241
 go_wp2
 go_loopw [6,7,8,11] (fun s6 s7 s8 i wr=>∃ k:Nat,k <= ns.length /\ i = .int .i64 k /\ Hid (typedB ts (ns.take k)=true) /\ Hid (wr.cell? ⟨w.heap.size,0,none⟩=some (.map mt) /\ wr.cell? ⟨w.heap.size,1,none⟩=some (.map mc)) /\ Hid (Below w.heap.size w wr /\ w.heap.size < wr.heap.size)) (fun _ _ _ i _=>ns.length - (intOf i).toNat)
 case atStart=>exact ⟨0,Nat.zero_le _,rfl,Lib.hid rfl,HC0,Lib.hid ⟨HB0.out,by simp⟩⟩
 case round =>
  obtain ⟨k,hk,rfl,HA,HC,HB⟩:=hrel
  by_cases hlt:k < ns.length
  ·obtain ⟨b,off,rfl,hs⟩:=H4.out (by omega)
   have hcell:=(hs.below HB.out.1 hs.1).2 k hlt
   clear hs
   obtain ⟨p,hp⟩:∃ x,partAt ns k=x:=⟨_,rfl⟩
   have hps:p.size <= 1000000000:=by rw [<- hp]; exact HZ.out _ (part_mem ns k hlt)
   obtain ⟨u,hu⟩:∃ u,(tyOf ts p).getD zeroTy=u:=⟨_,rfl⟩
   have HCall:=Lib.hid (fun W hW=>typeOf_s mt mc ts p W (HT.out.below hW) hps)
   unfold tyV at HCall
   rw [hu] at HCall
   have c0:=HC.out.1
   have c1:=HC.out.2
   have d1:(k:Int) < (ns.length:Int):=by omega
   rw [hp] at hcell
   cases ht:(tyOf ts p).isSome
   ·have HE:=Lib.hid (show typedB ts ns=false from typedB_false hlt (by rw [hp]; exact ht))
    rw [ht] at HCall
    clear ht hu hp
    go_wp2_with fail
    refine (HCall.out _ HB.out.1).mono ?_
    rintro e w1 ⟨rfl,hb⟩
    have HB1:=Lib.hid (HB.out.1.trans (hb.mono (Nat.le_of_lt HB.out.2)))
    have hs1:w.heap.size < w1.heap.size:=Nat.lt_of_lt_of_le HB.out.2 hb.size
    clear hb
    go_wp2_with fail
    go_ret
    exact ⟨by rw [HE.out]; rfl,HB1.out.alloc (by omega) _⟩
   ·have HA2:=Lib.hid (typedB_take HA.out hlt (by rw [hp]; exact ht))
    rw [ht] at HCall
    clear ht hu hp
    go_wp2_with fail
    refine (HCall.out _ HB.out.1).mono ?_
    rintro e w1 ⟨rfl,hb⟩
    have HB1:=Lib.hid (HB.out.1.trans (hb.mono (Nat.le_of_lt HB.out.2)))
    have hs1:w.heap.size < w1.heap.size:=Nat.lt_of_lt_of_le HB.out.2 hb.size
    have HC1:=Lib.hid (And.intro (cell_later hb c0) (cell_later hb c1))
    clear hb
    go_wp2_with fail
    go_roundw
    case rel =>
     have hal:∀ o,Below w1.heap.size w1 (w1.alloc o):=fun o=>(Below.refl _ _).alloc (Nat.le_refl _) o
     exact ⟨k + 1,by omega,by go_num,HA2,Lib.hid ⟨cell_later (hal _) HC1.out.1,cell_later (hal _) HC1.out.2⟩,Lib.hid ⟨HB1.out.trans ((hal _).mono (by omega)),by simp; omega⟩⟩
    case measure=>simp [intOf]; omega
  ·have hk2:k=ns.length:=by omega
   have HE:=Lib.hid (show typedB ts ns=true by have:=HA.out; rw [hk2,List.take_length] at this; exact this)
   have HB1:=Lib.hid HB.out.1
   have d1:¬ (k:Int) < (ns.length:Int):=by omega
   go_wp2_with fail
   go_ret
   exact ⟨by rw [HE.out]; rfl,HB1.out⟩
def errCl (ts:List Ty) (cs:List Cl) (c:Cl):Int:=
 if nameB c.name=false then 5
 else if (clOf cs c.name).isSome=true then 7
 else if c.super.size ≠ 0 /\ (clOf cs c.super).isSome=false then 6
 else if 64 < c.must.length ∨ 64 < c.may.length then 3
 else if typedB ts c.must=false ∨ typedB ts c.may=false then 6 else 0
theorem errC_take (ts:List Ty) (cs:List Cl) (j:Nat):errC ts cs j=errCl ts (cs.take j) (clAt cs j):=rfl
theorem str_none (s:ByteArray):s.toList.isEmpty=decide (s.size=0):=by
 rw [Lib.toList_data]
 have:s.data.toList.length=s.size:=by rw [Array.length_toList]; rfl
 cases e:s.data.toList with
 | nil=>rw [e] at this; simp at this; simp [<- this]
 | cons a l=>rw [e] at this; simp at this; simp [<- this]
structure AB (w W:World) (mt mc:Option Nat) (nm su:ByteArray) (a1:Option Addr) (p1 q1:Nat) (a2:Option Addr) (p2 q2:Nat):Prop where
 m0:W.cell? ⟨w.heap.size,0,none⟩=some (.map mt)
 m1:W.cell? ⟨w.heap.size,1,none⟩=some (.map mc)
 n0:W.cell? ⟨w.heap.size + 1,0,none⟩=some (.string nm)
 n1:W.cell? ⟨w.heap.size + 1,1,none⟩=some (.string su)
 n2:W.cell? ⟨w.heap.size + 1,2,none⟩=some (.slice a1 p1 q1)
 n3:W.cell? ⟨w.heap.size + 1,3,none⟩=some (.slice a2 p2 q2)
 low:Below w.heap.size w W
 big:w.heap.size + 2 <= W.heap.size
theorem AB.step {w W V:World} {mt mc:Option Nat} {nm su:ByteArray} {a1 a2:Option Addr} {p1 q1 p2 q2:Nat} (h:AB w W mt mc nm su a1 p1 q1 a2 p2 q2) (hb:Below W.heap.size W V):AB w V mt mc nm su a1 p1 q1 a2 p2 q2:=
 ⟨cell_later hb h.m0,cell_later hb h.m1,cell_later hb h.n0,cell_later hb h.n1,cell_later hb h.n2,cell_later hb h.n3,h.low.trans (hb.mono (by have:=h.big; omega)),Nat.le_trans h.big hb.size⟩
theorem AB.alloc {w W:World} {mt mc:Option Nat} {nm su:ByteArray} {a1 a2:Option Addr} {p1 q1 p2 q2:Nat} (h:AB w W mt mc nm su a1 p1 q1 a2 p2 q2) (o:Obj):AB w (W.alloc o) mt mc nm su a1 p1 q1 a2 p2 q2:=h.step ((Below.refl _ _).alloc (Nat.le_refl _) o)
theorem AB.drew {w W:World} {mt mc:Option Nat} {nm su:ByteArray} {a1 a2:Option Addr} {p1 q1 p2 q2:Nat} (h:AB w W mt mc nm su a1 p1 q1 a2 p2 q2):AB w W.drew mt mc nm su a1 p1 q1 a2 p2 q2:=h.step (Below.refl _ _).drew
theorem keepG7 {w w1 w2:World} {row:Option Nat} {f:Nat} {A B C D E F:Addr} {x y z u v t:Value} (h:w1.cell? A=some x /\ w1.cell? B=some y /\ w1.cell? C=some z /\ w1.cell? D=some u /\ w1.cell? E=some v /\ w1.cell? F=some t /\ Hid (w.grownBy w1 row /\ f <= w1.heap.size)) (hb:Below w1.heap.size w1 w2) :
  w2.cell? A=some x /\ w2.cell? B=some y /\ w2.cell? C=some z /\ w2.cell? D=some u /\ w2.cell? E=some v /\ w2.cell? F=some t /\ Hid (w.grownBy w2 row /\ f <= w2.heap.size):=
 ⟨cell_later hb h.1,cell_later hb h.2.1,cell_later hb h.2.2.1,cell_later hb h.2.2.2.1,cell_later hb h.2.2.2.2.1,cell_later hb h.2.2.2.2.2.1,keepG h.2.2.2.2.2.2 hb⟩
theorem keepGG7 {w w1 w2:World} {g:Nat} {f:Nat} {A B C D E F:Addr} {x y z u v t:Value} (h:w1.cell? A=some x /\ w1.cell? B=some y /\ w1.cell? C=some z /\ w1.cell? D=some u /\ w1.cell? E=some v /\ w1.cell? F=some t /\ Hid (w.grownBy w1 (some g) /\ f <= w1.heap.size)) (hb:w1.grownBy w2 (some g))
  (hA:A.block ≠ g) (hB:B.block ≠ g) (hC:C.block ≠ g) (hD:D.block ≠ g) (hE:E.block ≠ g) (hF:F.block ≠ g) :
  w2.cell? A=some x /\ w2.cell? B=some y /\ w2.cell? C=some z /\ w2.cell? D=some u /\ w2.cell? E=some v /\ w2.cell? F=some t /\ Hid (w.grownBy w2 (some g) /\ f <= w2.heap.size):=
 ⟨cell_turned h.1 hb hA,cell_turned h.2.1 hb hB,cell_turned h.2.2.1 hb hC,cell_turned h.2.2.2.1 hb hD,cell_turned h.2.2.2.2.1 hb hE,cell_turned h.2.2.2.2.2.1 hb hF,keepGG h.2.2.2.2.2.2 hb⟩
set_option maxHeartbeats 16000000 in
theorem addClass_s (mt:Option Nat) (bc:Nat) (k:Nat) (w0:World) (ts:List Ty) (cs:List Cl) (c:Cl) (a1 a2:Option Addr) (p1 q1 p2 q2:Nat) (w:World) (hT:TMap w mt ts) (h:COpen w0 w bc k cs) (hk:k < 1100000)
  (hm:StrsAt w a1 p1 q1 c.must) (hy:StrsAt w a2 p2 q2 c.may) (h0:CvOk w0 ⟨c, .slice a1 p1 q1, .slice a2 p2 q2⟩) (hz:c.name.size <= 1000000000) (hz2:c.super.size <= 1000000000) (hz3:∀ s ∈ c.must,s.size <= 1000000000) (hz4:∀ s ∈ c.may,s.size <= 1000000000) :
  Calls Tryz.prog 173 #[.agg #[.map mt, .map (some bc)], .agg #[.string c.name, .string c.super, .slice a1 p1 q1, .slice a2 p2 q2]] w fun e w' =>
   e = .returned (.int .i64 (errCl ts cs c)) /\ w.grownBy w' (some bc) /\ (errCl ts cs c=0 -> COpen w0 w' bc (k + 1) (cs ++ [c])):=by
 obtain ⟨nm,su,ms,ys⟩:=c
 simp only at hm hy hz hz2 hz3 hz4 ⊢
 have hl1:=hm.1
 have hl2:=hy.1
 have hbl:bc < w.heap.size:=h.lt
 have HO:=Lib.hid h
 have HI:=Lib.hid h0
 have HC:=Lib.hid (fun (n:ByteArray) (W:World) (hn:n.size <= 1000000000) (hW:Below w.heap.size w W)=>class_s mt (some bc) w0 cs n W (h.map.below hW) hn)
 have HTy1:=Lib.hid (fun (W:World) (hW:Below w.heap.size w W)=>typed_s mt (some bc) ts a1 p1 q1 ms W (hT.below hW) (hm.below hW) hz3)
 have HTy2:=Lib.hid (fun (W:World) (hW:Below w.heap.size w W)=>typed_s mt (some bc) ts a2 p2 q2 ys W (hT.below hW) (hy.below hW) hz4)
 obtain ⟨tw,htw⟩:∃ b,(clOf cs nm).isSome=b:=⟨_,rfl⟩
 obtain ⟨tk,htk⟩:∃ b,(clOf cs su).isSome=b:=⟨_,rfl⟩
 obtain ⟨nb,hnb⟩:∃ b,nameB nm=b:=⟨_,rfl⟩
 obtain ⟨y1,hy1⟩:∃ b,typedB ts ms=b:=⟨_,rfl⟩
 obtain ⟨y2,hy2⟩:∃ b,typedB ts ys=b:=⟨_,rfl⟩
 rw [hy1] at HTy1
 rw [hy2] at HTy2
 obtain ⟨d1,hd1⟩:∃ b,decide ((64:Int) < (p1:Int))=b:=⟨_,rfl⟩
 obtain ⟨d2,hd2⟩:∃ b,decide ((64:Int) < (p2:Int))=b:=⟨_,rfl⟩
 obtain ⟨sb,hsb⟩:∃ b,su.toList.isEmpty=b:=⟨_,rfl⟩
 have HNB:=Lib.hid hnb
 have HW:=Lib.hid htw
 have HK:=Lib.hid htk
 have HE:=Lib.hid (show errCl ts cs ⟨nm,su,ms,ys⟩=if nb=false then 5 else if tw=true then 7 else if sb=false /\ tk=false then 6 else if d1=true ∨ d2=true then 3 else if y1=false ∨ y2=false then 6 else 0 by
  have e1:(64 < ms.length) ↔ d1=true:=by rw [<- hd1,hl1,decide_eq_true_iff]; omega
  have e2:(64 < ys.length) ↔ d2=true:=by rw [<- hd2,hl2,decide_eq_true_iff]; omega
  have e3:(su.size ≠ 0) ↔ sb=false:=by rw [<- hsb,str_none]; simp
  unfold errCl; simp only; rw [hnb,htw,htk,hy1,hy2]
  simp only [e1,e2,e3])
 have fin:∀ c,errCl ts cs ⟨nm,su,ms,ys⟩=c -> c ≠ 0 -> ∀ W,Below w.heap.size w W -> (Ending.returned (.int .i64 c) = .returned (.int .i64 (errCl ts cs ⟨nm,su,ms,ys⟩)) /\ w.grownBy W (some bc) /\ (errCl ts cs ⟨nm,su,ms,ys⟩=0 -> COpen w0 W bc (k + 1) (cs ++ [⟨nm,su,ms,ys⟩]))):=
  fun c h1 h2 W h3=>⟨by rw [h1],grown_of_below h3,fun h=>absurd (h1.symm.trans h) h2⟩
 have FIN:=Lib.hid fin
 clear fin htw htk hnb hy1 hy2 hT h h0 hm hy hz3 hz4 hl1 hl2
 have A0:Hid (AB w ((w.alloc (.cells #[.map mt, .map (some bc)] 130)).alloc (.cells #[.string nm, .string su, .slice a1 p1 q1, .slice a2 p2 q2] 64)) mt (some bc) nm su a1 p1 q1 a2 p2 q2):=
  Lib.hid ⟨by go_simp,by go_simp,by go_simp,by go_simp,by go_simp,by go_simp,((Below.refl _ _).alloc (Nat.le_refl _) _).alloc (by simp) _,by simp⟩
 go_enter Tryz.func173,Tryz.ntmps173
 go_wp2_with fail
 refine (HC.out nm _ hz A0.out.low).mono ?_
 rintro e w1 ⟨x,b1,i1,j1,b2,i2,j2,_,_,_,rfl,hb⟩
 rw [HW.out]
 have A1:=Lib.hid (A0.out.step hb)
 clear hb A0
 generalize x.cl.name=xn
 generalize x.cl.super=xs
 obtain ⟨m0,m1,n0,n1,n2,n3,_,hs1⟩:=A1.out
 have hs1b:w.heap.size + 1 < w1.heap.size:=hs1
 have hs1c:w.heap.size < w1.heap.size:=by omega
 go_wp2_with fail
 have A2:=Lib.hid (A1.out.alloc (.cells #[.string xn, .string xs, .slice b1 i1 j1, .slice b2 i2 j2] 64))
 clear m0 m1 n0 n1 n2 n3
 refine (HC.out su _ hz2 A2.out.low).mono ?_
 rintro e w2 ⟨y,c1,i3,j3,c2,i4,j4,_,_,_,rfl,hb⟩
 rw [HK.out]
 have A3:=Lib.hid (A2.out.step hb)
 have hs2:w1.heap.size < w2.heap.size:=by have:=hb.size; simp at this; omega
 clear hb A2 A1
 generalize y.cl.name=yn
 generalize y.cl.super=ys'
 obtain ⟨m0,m1,n0,n1,n2,n3,_,hs3⟩:=A3.out
 have hs3b:w.heap.size + 1 < w2.heap.size:=hs3
 have hs3c:w.heap.size < w2.heap.size:=by omega
 go_wp2_with fail
 have A4:=Lib.hid (A3.out.alloc (.cells #[.string yn, .string ys', .slice c1 i3 j3, .slice c2 i4 j4] 64))
 refine (name_s nm _ hz).mono ?_
 rintro e w3 ⟨rfl,rfl⟩
 rw [HNB.out]
 cases nb
 ·have HE5:=Lib.hid (show errCl ts cs ⟨nm,su,ms,ys⟩=5 from HE.out.trans (rfl))
  go_wp2_with fail
  go_ret
  exact FIN.out 5 HE5.out (by decide) _ A4.out.low
 ·cases htw0:tw
  ·by_cases hsk:sb=false /\ tk=false
   ·obtain ⟨rfl,rfl⟩:=hsk
    have HE5:=Lib.hid (show errCl ts cs ⟨nm,su,ms,ys⟩=6 from HE.out.trans (by rw [htw0]; simp))
    go_wp2_with fail
    go_ret
    exact FIN.out 6 HE5.out (by decide) _ A4.out.low
   ·have hq:sb=true ∨ (sb=false /\ tk=true):=by
     cases sb
     ·cases tk
      ·exact absurd ⟨rfl,rfl⟩ hsk
      ·exact .inr ⟨rfl,rfl⟩
     ·exact .inl rfl
    have HE2:=Lib.hid (show errCl ts cs ⟨nm,su,ms,ys⟩=(if d1=true ∨ d2=true then 3 else if y1=false ∨ y2=false then 6 else 0) from HE.out.trans (by rw [htw0]; simp only [hsk,if_false]; rfl))
    clear hsk
    rcases hq with rfl | ⟨rfl,rfl⟩
    all_goals
     cases d1
     ·cases d2
      ·go_wp2_with fail
       refine (HTy1.out _ A4.out.low).mono ?_
       rintro e w3 ⟨rfl,hb⟩
       have A5:=Lib.hid (A4.out.step hb)
       clear hb m0 m1 n0 n1 n2 n3
       obtain ⟨m0,m1,n0,n1,n2,n3,_,hs5⟩:=A5.out
       cases y1
       ·have HE5:=Lib.hid (show errCl ts cs ⟨nm,su,ms,ys⟩=6 from HE2.out.trans (by simp))
        go_wp2_with fail
        go_ret
        exact FIN.out 6 HE5.out (by decide) _ A5.out.low
       ·go_wp2_with fail
        refine (HTy2.out _ A5.out.low).mono ?_
        rintro e w4 ⟨rfl,hb⟩
        have A6:=Lib.hid (A5.out.step hb)
        clear hb m0 m1 n0 n1 n2 n3
        obtain ⟨m0,m1,n0,n1,n2,n3,_,hs6⟩:=A6.out
        cases y2
        ·have HE5:=Lib.hid (show errCl ts cs ⟨nm,su,ms,ys⟩=6 from HE2.out.trans (by simp))
         go_wp2_with fail
         go_ret
         exact FIN.out 6 HE5.out (by decide) _ A6.out.low
        ·have HE5:=Lib.hid (show errCl ts cs ⟨nm,su,ms,ys⟩=0 from HE2.out.trans (by simp))
         have hnone:clOf cs nm=none:=by
          have:=HW.out
          rw [htw0] at this
          cases e:clOf cs nm with
          | none=>rfl
          | some x=>rw [e] at this; cases this
         have HN:=Lib.hid hnone; clear hnone
         have S0:=keepG7 (f:=w.heap.size + 2) ⟨m1,n0,n1,n2,n3,m0,Lib.hid ⟨grown_of_below (row:=some bc) A6.out.low,hs6⟩⟩ (Below.refl _ w4).drew
         go_wp2_with fail
         refine wp_region_held_drew (S:=fun W=>W.cell? ⟨w.heap.size,1,none⟩=some (.map (some bc)) /\ W.cell? ⟨w.heap.size + 1,0,none⟩=some (.string nm) /\ W.cell? ⟨w.heap.size + 1,1,none⟩=some (.string su) /\ W.cell? ⟨w.heap.size + 1,2,none⟩=some (.slice a1 p1 q1) /\ W.cell? ⟨w.heap.size + 1,3,none⟩=some (.slice a2 p2 q2) /\ W.cell? ⟨w.heap.size,0,none⟩=some (.map mt) /\ Hid (w.grownBy W (some bc) /\ w.heap.size + 2 <= W.heap.size)) (by kernel_rfl) (S0) (fun hS => ?_)
         refine rgT 0 (some 62) ?_
         refine rgT 1 (some 63) ?_
         refine rgT 2 (some 64) ?_
         refine rgT 3 (some 65) ?_
         refine rgT 5 (some 67) ?_
         refine rgC 4 (fun K hK => ?_)
         go_simp
         refine (lower_s nm _ hz).mono ?_
         rintro e w5 ⟨rfl,hb⟩
         have hT5:=(HO.out.below A6.out.low hbl).below ((Below.refl _ w4).drew.trans hb) (Nat.lt_of_lt_of_le hbl A6.out.low.size)
         obtain ⟨w6,hrun6,hT6,hg6⟩:=hT5.store ⟨⟨nm,su,ms,ys⟩, .slice a1 p1 q1, .slice a2 p2 q2⟩ HI.out hk hz HN.out
         clear hT5
         unfold cvV at hrun6
         dsimp only at hrun6
         go_wp2_with fail
         refine hK.out _ _ ?_ (fun hHeld => ?_)
         ·exact keepG7 (by assumption) hb
         clear hK K
         try simp only [Act.put,lsA,lsZ,lsS]
         refine rgC 6 (fun K hK => ?_)
         go_simp
         refine hK.out _ _ ?_ (fun hHeld => ?_)
         ·exact keepGG7 (by assumption) hg6 (by show w.heap.size ≠ bc; omega) (by show w.heap.size + 1 ≠ bc; omega) (by show w.heap.size + 1 ≠ bc; omega) (by show w.heap.size + 1 ≠ bc; omega) (by show w.heap.size + 1 ≠ bc; omega) (by show w.heap.size ≠ bc; omega)
         clear hK K
         try simp only [Act.put,lsA,lsZ,lsS]
         refine wpAnyH_done (by kernel_rfl) ?_ _
         have hS6:w6.cell? ⟨w.heap.size,1,none⟩=some (.map (some bc)) /\ w6.cell? ⟨w.heap.size + 1,0,none⟩=some (.string nm) /\ w6.cell? ⟨w.heap.size + 1,1,none⟩=some (.string su) /\ w6.cell? ⟨w.heap.size + 1,2,none⟩=some (.slice a1 p1 q1) /\ w6.cell? ⟨w.heap.size + 1,3,none⟩=some (.slice a2 p2 q2) /\ w6.cell? ⟨w.heap.size,0,none⟩=some (.map mt) /\ Hid (w.grownBy w6 (some bc) /\ w.heap.size + 2 <= w6.heap.size):=by assumption
         have HG6:=hS6.2.2.2.2.2.2
         have HT6:=Lib.hid hT6
         clear hS6 hT6 hg6 hrun6 hb
         go_wp2_with fail
         go_ret
         exact ⟨by rw [HE5.out]; rfl,HG6.out.1,fun _=>HT6.out⟩
      ·have HE5:=Lib.hid (show errCl ts cs ⟨nm,su,ms,ys⟩=3 from HE2.out.trans (by simp))
       go_wp2_with fail
       go_ret
       exact FIN.out 3 HE5.out (by decide) _ A4.out.low
     ·have HE5:=Lib.hid (show errCl ts cs ⟨nm,su,ms,ys⟩=3 from HE2.out.trans (by simp))
      go_wp2_with fail
      go_ret
      exact FIN.out 3 HE5.out (by decide) _ A4.out.low
  ·have HE5:=Lib.hid (show errCl ts cs ⟨nm,su,ms,ys⟩=7 from HE.out.trans (by rw [htw0]; rfl))
   go_wp2_with fail
   go_ret
   exact FIN.out 7 HE5.out (by decide) _ A4.out.low
def SoundC (cs:List Cl):Prop := ∀ k,k < cs.length -> nameB (clAt cs k).name=true /\ clOf (cs.take k) (clAt cs k).name=none /\ ((clAt cs k).super.size ≠ 0 -> (clOf (cs.take k) (clAt cs k).super).isSome=true)
theorem soundC_of {ts:List Ty} {cs:List Cl} (h:∀ k,k < cs.length -> errC ts cs k=0):SoundC cs:=by
 intro k hk
 have h:=h k hk
 unfold errC at h
 split at h
 ·cases h
 ·rename_i h1
  split at h
  ·cases h
  ·rename_i h2
   split at h
   ·cases h
   ·rename_i h3
    refine ⟨by simpa using h1,by simpa using h2,fun h0 => ?_⟩
    cases e:(clOf (cs.take k) (clAt cs k).super).isSome
    ·exact absurd ⟨h0,e⟩ h3
    ·rfl
theorem soundC_nil:SoundC []:=fun k hk=>absurd hk (Nat.not_lt_zero _)
theorem firstE_none {f:Nat -> Int}:∀ {n:Nat},firstE f n=0 -> ∀ j,j < n -> f j=0
 | 0,_,j,hj=>absurd hj (Nat.not_lt_zero _)
 | n + 1,h,j,hj=>by
  by_cases hz:∀ i,i < n -> f i=0
  ·rcases Nat.lt_or_ge j n with k | k
   ·exact hz j k
   ·have e:j=n:=by omega
    subst e
    by_cases h0:f j=0
    ·exact h0
    ·rw [firstE_hit hz h0 (Nat.lt_succ_self j)] at h; exact absurd h h0
  ·have hx:∃ m,m < n /\ f m ≠ 0 /\ ∀ i,i < m -> f i=0:=by
    have:∀ m,(∃ i,i < m /\ f i ≠ 0) -> ∃ i,i < m /\ f i ≠ 0 /\ ∀ j,j < i -> f j=0:=by
     intro m
     induction m with
     | zero=>rintro ⟨i,hi,_⟩; exact absurd hi (Nat.not_lt_zero _)
     | succ m ih =>
      rintro ⟨i,hi,hf⟩
      by_cases hm:∃ i,i < m /\ f i ≠ 0
      ·obtain ⟨i,a,b,c⟩:=ih hm; exact ⟨i,by omega,b,c⟩
      ·have hi2:i=m:=by
        rcases Nat.lt_or_ge i m with k | k
        ·exact absurd ⟨i,k,hf⟩ hm
        ·omega
       subst hi2
       exact ⟨i,hi,hf,fun j hj=>Classical.byContradiction fun h=>hm ⟨j,hj,h⟩⟩
    refine this n ?_
    exact Classical.byContradiction fun hc=>hz fun i hi=>Classical.byContradiction fun hf=>hc ⟨i,hi,hf⟩
   obtain ⟨m,hm,hf,hl⟩:=hx
   rw [firstE_hit hl hf (by omega)] at h
   exact absurd h hf
theorem sound_soundC (ts:List Ty) (cs:List Cl):SoundC (soundC ts cs):=by
 unfold soundC
 split
 ·rename_i h
  unfold chkS at h
  split at h
  ·cases h
  ·split at h
   ·exact absurd h ‹_›
   ·split at h
    ·exact absurd h ‹_›
    ·rename_i h3
     exact soundC_of (firstE_none (Classical.not_not.1 h3))
 ·exact soundC_nil
theorem soundC_len (ts:List Ty) (cs:List Cl):(soundC ts cs).length <= 32:=by
 unfold soundC
 split
 ·rename_i h
  unfold chkS at h
  split at h
  ·cases h
  ·omega
 ·exact Nat.zero_le _
theorem clOf_mem {cs:List Cl} {n:ByteArray} {c:Cl} (h:clOf cs n=some c):c ∈ cs:=List.mem_of_find?_eq_some h
theorem clOf_name {cs:List Cl} {n:ByteArray} {c:Cl} (h:clOf cs n=some c):lowS c.name=lowS n:=by
 have:=List.find?_some h; simpa using this
def rk:List Cl -> ByteArray -> Nat
 | [],_=>0
 | c :: l,n=>if lowS c.name=lowS n then 1 else if rk l n=0 then 0 else rk l n + 1
theorem rk_le:∀ (l:List Cl) (n:ByteArray),rk l n <= l.length
 | [],_=>Nat.le_refl _
 | c :: l,n=>by
  have:=rk_le l n
  unfold rk
  split
  ·simp
  ·split
   ·simp
   ·simp; omega
theorem clOf_cons (c:Cl) (l:List Cl) (n:ByteArray):clOf (c :: l) n=if lowS c.name=lowS n then some c else clOf l n:=by
 unfold clOf
 by_cases h:lowS c.name=lowS n
 ·rw [if_pos h,List.find?_cons_of_pos (by simpa using h)]
 ·rw [if_neg h,List.find?_cons_of_neg (by simpa using h)]
theorem rk_zero:∀ (l:List Cl) (n:ByteArray),rk l n=0 ↔ clOf l n=none
 | [],_=>⟨fun _=>rfl,fun _=>rfl⟩
 | c :: l,n=>by
  have:=rk_zero l n
  rw [clOf_cons]
  unfold rk
  by_cases h:lowS c.name=lowS n
  ·rw [if_pos h,if_pos h]; simp
  ·rw [if_neg h,if_neg h]
   by_cases h2:rk l n=0
   ·rw [if_pos h2]; simp [this.1 h2]
   ·rw [if_neg h2]
    constructor
    ·intro h3; omega
    ·intro h3; exact absurd (this.2 h3) h2
theorem rk_at:∀ (l:List Cl) (n:ByteArray) (c:Cl),clOf l n=some c -> clAt l (rk l n - 1)=c /\ rk l n - 1 < l.length /\ 0 < rk l n
 | [],n,c,h=>by cases h
 | d :: l,n,c,h=>by
  rw [clOf_cons] at h
  unfold rk
  by_cases e:lowS d.name=lowS n
  ·rw [if_pos e] at h ⊢
   exact ⟨Option.some.inj h,by simp,by omega⟩
  ·rw [if_neg e] at h ⊢
   obtain ⟨h1,h2,h3⟩:=rk_at l n c h
   rw [if_neg (by omega)]
   refine ⟨?_,by simp; omega,by omega⟩
   rw [<- h1]
   unfold clAt
   rw [show rk l n + 1 - 1=(rk l n - 1) + 1 by omega]; rfl
theorem rk_take:∀ (l:List Cl) (n:ByteArray) (k:Nat),clOf (l.take k) n ≠ none -> rk l n <= k
 | [],n,k,h=>Nat.zero_le _
 | d :: l,n,0,h=>absurd rfl h
 | d :: l,n,k + 1,h=>by
  rw [List.take_succ_cons,clOf_cons] at h
  unfold rk
  by_cases e:lowS d.name=lowS n
  ·rw [if_pos e]; omega
  ·rw [if_neg e] at h ⊢
   have:=rk_take l n k h
   split <;> omega
theorem nameB_ne {s:ByteArray} (h:nameB s=true):s.size ≠ 0:=by
 intro e
 unfold nameB at h
 rw [e] at h
 simp at h
theorem clOf_empty {cs:List Cl} (hs:SoundC cs) {n:ByteArray} (hn:n.size=0):clOf cs n=none:=by
 cases h:clOf cs n with
 | none=>rfl
 | some c =>
  obtain ⟨j,hj,rfl⟩:=mem_cl (clOf_mem h)
  have h1:=congrArg ByteArray.size (clOf_name h)
  rw [lowS_size,lowS_size,hn] at h1
  exact absurd h1 (nameB_ne (hs j hj).1)
theorem rk_super {cs:List Cl} (hs:SoundC cs) {n:ByteArray} {c:Cl} (h:clOf cs n=some c):rk cs c.super < rk cs n:=by
 obtain ⟨h1,h2,h3⟩:=rk_at cs n c h
 have hk:=hs _ h2
 rw [h1] at hk
 by_cases h0:c.super.size=0
 ·rw [(rk_zero cs c.super).2 (clOf_empty hs h0)]; exact h3
 ·have:=rk_take cs c.super (rk cs n - 1) (fun e=>by have:=hk.2.2 h0; rw [e] at this; cases this)
  omega
theorem lineG_enough {cs:List Cl} (hs:SoundC cs):∀ r n,rk cs n <= r -> ∀ f g,r <= f -> r <= g -> lineG cs f n=lineG cs g n
 | 0,n,hr,f,g,_,_=>by
  have hz:=(rk_zero cs n).1 (by omega)
  cases f <;> cases g <;> simp [lineG,hz]
 | r + 1,n,hr,f + 1,g + 1,hf,hg=>by
  unfold lineG
  cases h:clOf cs n with
  | none=>rfl
  | some c =>
   have:=rk_super hs h
   simp only
   rw [lineG_enough hs r c.super (by omega) f g (by omega) (by omega)]
theorem lineS_step {cs:List Cl} (hs:SoundC cs) {n:ByteArray} {c:Cl} (h:clOf cs n=some c):lineS cs n=c :: lineS cs c.super:=by
 have h1:=rk_super hs h
 have h2:=rk_le cs n
 show lineG cs (cs.length + 1) n=c :: lineG cs (cs.length + 1) c.super
 rw [lineG_enough hs (rk cs c.super) c.super (Nat.le_refl _) (cs.length + 1) cs.length (by omega) (by omega)]
 show (match clOf cs n with | none=>[] | some c=>c :: lineG cs cs.length c.super)=_
 rw [h]
theorem lineS_none {cs:List Cl} {n:ByteArray} (h:clOf cs n=none):lineS cs n = []:=by
 show lineG cs (cs.length + 1) n = []
 unfold lineG; rw [h]
theorem lineS_len {cs:List Cl} (hs:SoundC cs):∀ r n,rk cs n <= r -> (lineS cs n).length <= r
 | r,n,hr=>by
  cases h:clOf cs n with
  | none=>rw [lineS_none h]; exact Nat.zero_le _
  | some c =>
   rw [lineS_step hs h,List.length_cons]
   have:=rk_super hs h
   match r,hr with
   | 0,hr=>omega
   | r + 1,hr=>exact Nat.succ_le_succ (lineS_len hs r c.super (by omega))
theorem lineS_small {cs:List Cl} (hs:SoundC cs) (n:ByteArray):(lineS cs n).length <= cs.length:=lineS_len hs _ n (rk_le cs n)
theorem lineG_mem {cs:List Cl}:∀ f n c,c ∈ lineG cs f n -> c ∈ cs
 | 0,n,c,h=>by cases h
 | f + 1,n,c,h=>by
  unfold lineG at h
  cases e:clOf cs n with
  | none=>rw [e] at h; cases h
  | some d =>
   rw [e] at h
   rcases List.mem_cons.1 h with k | k
   ·rw [k]; exact clOf_mem e
   ·exact lineG_mem f _ _ k
theorem lineS_mem {cs:List Cl} {n:ByteArray} {c:Cl} (h:c ∈ lineS cs n):c ∈ cs:=lineG_mem _ _ _ h
theorem mustS_eq (cs:List Cl) (n:ByteArray):mustS cs n=sortU (((lineS cs n).flatMap fun c=>c.must).map lowS):=by
 unfold mustS; rw [List.map_flatMap]
theorem sortU_ext {a b:List ByteArray} (h:∀ x,x ∈ a ↔ x ∈ b):sortU a=sortU b:=asc_ext (sortU_asc a) (sortU_asc b) fun x=>by rw [sortU_mem,sortU_mem,h]
theorem mayS_eq (cs:List Cl) (n:ByteArray):mayS cs n=sortU ((mustS cs n ++ (lineS cs n).flatMap fun c=>c.may).map lowS):=by
 unfold mayS
 refine sortU_ext fun x => ?_
 rw [mustS_eq,List.map_append,List.mem_append]
 simp only [List.mem_flatMap,List.mem_map,sortU_mem,List.mem_append]
 constructor
 ·rintro ⟨c,hc,s,hs | hs,rfl⟩
  ·exact .inl ⟨lowS s,⟨s,⟨c,hc,hs⟩,rfl⟩,lowS_low s⟩
  ·exact .inr ⟨s,⟨c,hc,hs⟩,rfl⟩
 ·rintro (⟨t,⟨s,⟨c,hc,hs⟩,rfl⟩,rfl⟩ | ⟨s,⟨c,hc,hs⟩,rfl⟩)
  ·exact ⟨c,hc,s, .inl hs,(lowS_low s).symm⟩
  ·exact ⟨c,hc,s, .inr hs,rfl⟩
end Go.Proofs.YtmmdaegdkikkpaaGreatDoor
end
