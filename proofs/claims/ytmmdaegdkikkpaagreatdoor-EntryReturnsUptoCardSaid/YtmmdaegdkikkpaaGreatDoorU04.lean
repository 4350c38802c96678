/-
  Texts of the schema layer and of those beneath it, joined: NamL, NamP, NamC, NamM, NamV, NamK, NamS, NamR, NamB. Conditions stand at each contract.
-/
import Derived.Test.YtmmdaegdkikkpaaGreatDoorU03
set_option linter.unusedVariables false
set_option linter.unusedSimpArgs false
set_option linter.unnecessarySimpa false

section
set_option maxRecDepth 100000
namespace Go.Proofs.YtmmdaegdkikkpaaGreatDoor
namespace Nam
open Go.PlainAid
def spec4 (c:UInt8):Bool:=c == 44 || c == 61 || c == 43 || c == 92
def nextP (c:UInt8):List UInt8 -> Nat
 | []=>0
 | x :: r=>if x=c then 0 else if x=92 then (match r with
   | []=>1
   | _ :: r'=>nextP c r' + 2) else nextP c r + 1
def valP:List UInt8 -> Option (List UInt8)
 | []=>some []
 | x :: r=>if x=92 then (match r with
   | []=>none
   | y :: r'=>if spec4 y then (valP r').map (y :: ·) else none) else if x=61 ∨ x=43 then none else (valP r).map (x :: ·)
def valQ:List UInt8 -> Option (List UInt8)
 | []=>some []
 | x :: r=>if x=92 then (match r with
   | []=>none
   | y :: r'=>if spec4 y then (valQ r').map (y :: ·) else none) else if spec4 x then none else (valQ r).map (x :: ·)
def escB (c:UInt8):List UInt8:=if spec4 c then [92,c] else [c]
def escV (l:List UInt8):List UInt8:=l.flatMap escB
def nocut (c:UInt8) (l:List UInt8):Prop:=nextP c l=l.length
theorem nextP_le (c:UInt8):∀ l,nextP c l <= l.length
 | []=>Nat.le_refl _
 | [x]=>by
  unfold nextP
  by_cases h:x=c
  ·rw [if_pos h]; exact Nat.zero_le _
  ·rw [if_neg h]
   by_cases h2:x=92
   ·rw [if_pos h2]; exact Nat.le_refl _
   ·rw [if_neg h2]; simp [nextP]
 | x :: y :: r=>by
  unfold nextP
  by_cases h:x=c
  ·rw [if_pos h]; exact Nat.zero_le _
  ·rw [if_neg h]
   by_cases h2:x=92
   ·rw [if_pos h2]; have:=nextP_le c r; simp; exact this
   ·rw [if_neg h2]; have:=nextP_le c (y :: r); simp at this ⊢; exact this
theorem spec4_iff (c:UInt8):spec4 c=true ↔ c=44 ∨ c=61 ∨ c=43 ∨ c=92:=by
 unfold spec4; simp [or_assoc]
theorem valQ_valP:∀ l,nocut 44 l -> valQ l=valP l
 | [],_=>rfl
 | [x],h=>by
  unfold nocut nextP at h
  by_cases h1:x=44
  ·rw [if_pos h1] at h; simp at h
  ·unfold valQ valP
   by_cases h2:x=92
   ·rw [if_pos h2,if_pos h2]
   ·rw [if_neg h2,if_neg h2]
    by_cases h3:x=61 ∨ x=43
    ·rw [if_pos h3,if_pos (by rw [spec4_iff]; rcases h3 with h3 | h3 <;> simp [h3])]
    ·rw [if_neg h3,if_neg (by rw [spec4_iff]; simp at h3; simp [h1,h2,h3])]; rfl
 | x :: y :: r,h=>by
  unfold nocut nextP at h
  by_cases h1:x=44
  ·rw [if_pos h1] at h; simp at h
  ·rw [if_neg h1] at h
   unfold valQ valP
   by_cases h2:x=92
   ·rw [if_pos h2] at h
    rw [if_pos h2,if_pos h2]
    show (if spec4 y=true then (valQ r).map (y :: ·) else none)=(if spec4 y=true then (valP r).map (y :: ·) else none)
    rw [valQ_valP r (by unfold nocut; simp at h; exact h)]
   ·rw [if_neg h2] at h
    rw [if_neg h2,if_neg h2,valQ_valP (y :: r) (by unfold nocut; simp at h ⊢; exact h)]
    by_cases h3:x=61 ∨ x=43
    ·rw [if_pos h3,if_pos (by rw [spec4_iff]; rcases h3 with h3 | h3 <;> simp [h3])]
    ·rw [if_neg h3,if_neg (by rw [spec4_iff]; simp at h3; simp [h1,h2,h3])]
theorem nocut_take (c:UInt8) (hc:c ≠ 92):∀ l:List UInt8,nocut c (l.take (nextP c l))
 | []=>by unfold nocut; simp [nextP]
 | [x]=>by
  unfold nocut
  conv=>lhs; arg 2; arg 1; unfold nextP
  conv=>rhs; arg 1; arg 1; unfold nextP
  by_cases h1:x=c
  ·rw [if_pos h1]; simp [nextP]
  ·rw [if_neg h1]
   by_cases h2:x=92
   ·rw [if_pos h2]; simp [nextP,h1,h2]; exact fun e=>absurd e.symm hc
   ·rw [if_neg h2]; simp [nextP,h1,h2]
 | x :: y :: r=>by
  unfold nocut
  conv=>lhs; arg 2; arg 1; unfold nextP
  conv=>rhs; arg 1; arg 1; unfold nextP
  by_cases h1:x=c
  ·rw [if_pos h1]; simp [nextP]
  ·rw [if_neg h1]
   by_cases h2:x=92
   ·have ih:=nocut_take c hc r
    unfold nocut at ih
    rw [if_pos h2]
    show nextP c (x :: y :: r.take (nextP c r))=(x :: y :: r.take (nextP c r)).length
    rw [show nextP c (x :: y :: r.take (nextP c r))=nextP c (r.take (nextP c r)) + 2 by conv=>lhs; unfold nextP; rw [if_neg h1,if_pos h2],ih]
    simp
   ·have ih:=nocut_take c hc (y :: r)
    unfold nocut at ih
    rw [if_neg h2]
    show nextP c (x :: (y :: r).take (nextP c (y :: r)))=(x :: (y :: r).take (nextP c (y :: r))).length
    rw [show nextP c (x :: (y :: r).take (nextP c (y :: r)))=nextP c ((y :: r).take (nextP c (y :: r))) + 1 by conv=>lhs; unfold nextP; rw [if_neg h1,if_neg h2],ih]
    simp
theorem nocut_drop (c d:UInt8) (hd:d ≠ 92) (hcd:c ≠ d):∀ l:List UInt8,nocut c l -> nextP d l < l.length -> nocut c (l.drop (nextP d l + 1))
 | [],_,h=>by simp [nextP] at h
 | [x],h,h0=>by
  have:nextP d [x]=0:=by simp at h0; exact h0
  rw [this]; unfold nocut; simp [nextP]
 | x :: y :: r,h,h0=>by
  have e0:nextP d (x :: y :: r)=if x=d then 0 else if x=92 then nextP d r + 2 else nextP d (y :: r) + 1:=by conv=>lhs; unfold nextP
  have e1:nextP c (x :: y :: r)=if x=c then 0 else if x=92 then nextP c r + 2 else nextP c (y :: r) + 1:=by conv=>lhs; unfold nextP
  unfold nocut at h
  rw [e1] at h
  have hxc:x ≠ c:=fun e=>by rw [if_pos e] at h; simp at h
  rw [if_neg hxc] at h
  rw [e0] at h0 ⊢
  by_cases h1:x=d
  ·rw [if_pos h1]
   have h2:x ≠ 92:=fun e=>hd (h1.symm.trans e)
   rw [if_neg h2] at h
   unfold nocut; simp at h ⊢; exact h
  ·rw [if_neg h1] at h0 ⊢
   by_cases h2:x=92
   ·rw [if_pos h2] at h h0 ⊢
    have:=nocut_drop c d hd hcd r (by unfold nocut; simp at h; exact h) (by simp at h0; exact h0)
    simpa using this
   ·rw [if_neg h2] at h h0 ⊢
    have:=nocut_drop c d hd hcd (y :: r) (by unfold nocut; simp at h ⊢; exact h) (by simp at h0 ⊢; exact h0)
    simpa using this
theorem nocut_pre (c:UInt8):∀ a b:List UInt8,nocut c (a ++ b) -> nocut c a
 | [],_,_=>by unfold nocut; simp [nextP]
 | [x],b,h=>by
  unfold nocut at *
  have e1:nextP c ([x] ++ b)=nextP c (x :: b):=rfl
  by_cases h1:x=c
  ·rw [e1] at h
   unfold nextP at h
   rw [if_pos h1] at h; simp at h
  ·have e:nextP c [x]=if x=c then 0 else if x=92 then 1 else nextP c [] + 1:=by conv=>lhs; unfold nextP
   rw [e,if_neg h1]
   split <;> simp [nextP]
 | x :: y :: r,b,h=>by
  have e0:∀ m,nextP c (x :: y :: m)=if x=c then 0 else if x=92 then nextP c m + 2 else nextP c (y :: m) + 1:=fun m=>by conv=>lhs; unfold nextP
  unfold nocut at h ⊢
  rw [List.cons_append,List.cons_append,e0] at h
  rw [e0]
  by_cases h1:x=c
  ·rw [if_pos h1] at h; simp at h
  ·rw [if_neg h1] at h ⊢
   by_cases h2:x=92
   ·rw [if_pos h2] at h ⊢
    have:=nocut_pre c r b (by unfold nocut; simp at h ⊢; omega)
    unfold nocut at this; rw [this]; rfl
   ·rw [if_neg h2] at h ⊢
    have:=nocut_pre c (y :: r) b (by unfold nocut; simp at h ⊢; omega)
    unfold nocut at this; rw [this]; rfl
theorem nocut_32 (c:UInt8) (hc:c ≠ 32) (l:List UInt8) (h:nocut c (32 :: l)):nocut c l:=by
 unfold nocut at *
 have e:nextP c (32 :: l)=nextP c l + 1:=by conv=>lhs; unfold nextP; rw [if_neg (fun e=>hc e.symm),if_neg (by decide)]
 rw [e] at h
 simpa using h
theorem nocut_left (c:UInt8) (hc:c ≠ 32):∀ l:List UInt8,nocut c l -> nocut c (Lib.trimLeftB l 32)
 | [],h=>h
 | x :: l,h=>by
  unfold Lib.trimLeftB
  rw [List.dropWhile_cons]
  by_cases hx:(x == 32)=true
  ·rw [if_pos hx]
   have e:x=32:=by simpa using hx
   rw [e] at h
   exact nocut_left c hc l (nocut_32 c hc l h)
  ·rw [if_neg hx]; exact h
theorem nocut_right (c:UInt8) (l:List UInt8) (h:nocut c l):nocut c (Lib.trimRightB l 32):=by
 refine nocut_pre c _ (l.reverse.takeWhile (· == 32)).reverse ?_
 have e:Lib.trimRightB l 32 ++ (l.reverse.takeWhile (· == 32)).reverse=l:=by
  unfold Lib.trimRightB
  rw [<- List.reverse_append,List.takeWhile_append_dropWhile,List.reverse_reverse]
 rw [e]; exact h
theorem nocut_trim (c:UInt8) (hc:c ≠ 32) (l:List UInt8) (h:nocut c l):nocut c (trimR l):=by
 unfold trimR; exact nocut_right c _ (nocut_left c hc l h)
def headOn (a:List UInt8):List (List UInt8) -> List (List UInt8)
 | []=>[a]
 | p :: ps=>(a ++ p) :: ps
def pieces (c:UInt8):List UInt8 -> List (List UInt8)
 | []=>[[]]
 | x :: r=>if x=c then [] :: pieces c r else if x=92 then (match r with
   | []=>[[x]]
   | y :: r'=>headOn [x,y] (pieces c r')) else headOn [x] (pieces c r)
theorem pieces_cut (c:UInt8):∀ l,pieces c l=l.take (nextP c l) :: (if nextP c l < l.length then pieces c (l.drop (nextP c l + 1)) else [])
 | []=>by simp [pieces,nextP]
 | [x]=>by
  unfold pieces
  conv=>rhs; unfold nextP
  by_cases h1:x=c
  ·rw [if_pos h1,if_pos h1]; simp [pieces]
  ·rw [if_neg h1,if_neg h1]
   by_cases h2:x=92
   ·rw [if_pos h2,if_pos h2]; simp
   ·rw [if_neg h2,if_neg h2]; simp [pieces,nextP,headOn]
 | x :: y :: r=>by
  have e1:nextP c (x :: y :: r)=if x=c then 0 else if x=92 then nextP c r + 2 else nextP c (y :: r) + 1:=by conv=>lhs; unfold nextP
  have e2:pieces c (x :: y :: r)=if x=c then [] :: pieces c (y :: r) else if x=92 then headOn [x,y] (pieces c r) else headOn [x] (pieces c (y :: r)):=by conv=>lhs; unfold pieces
  rw [e1,e2]
  by_cases h1:x=c
  ·rw [if_pos h1,if_pos h1]; simp
  ·rw [if_neg h1,if_neg h1]
   by_cases h2:x=92
   ·rw [if_pos h2,if_pos h2,pieces_cut c r]; simp [headOn]
   ·rw [if_neg h2,if_neg h2,pieces_cut c (y :: r)]; simp [headOn]
abbrev Pr:=ByteArray × ByteArray
def ofB (l:List UInt8):ByteArray:=⟨l.toArray⟩
theorem ofB_data (l:List UInt8):(ofB l).data.toList=l:=rfl
theorem ofB_size (l:List UInt8):(ofB l).size=l.length:=by rw [Lib.size_eq]; rfl
/-! ### a component -/
def rawK (p:ByteArray):ByteArray:=trimS (tk p (nextP 61 p.data.toList))
def rawV (p:ByteArray):ByteArray:=trimS (dr p (nextP 61 p.data.toList + 1))
def prE (p:Pr):Int:=if nameB p.1=false then 5 else if cleanB p.2=false then 8 else 0
def compE (p:ByteArray):Int:=if nextP 61 p.data.toList < p.size then (match valP (rawV p).data.toList with
 | some v=>prE (rawK p,ofB v)
 | none=>4) else 4
def compV (p:ByteArray):Pr:=(rawK p,ofB ((valP (rawV p).data.toList).getD []))
def nilPr:Pr:=(ByteArray.empty,ByteArray.empty)
def compR (p:ByteArray):Pr:=if compE p=0 then compV p else nilPr
theorem compE_ok {p:ByteArray} (h:compE p=0):nextP 61 p.data.toList < p.size /\ valP (rawV p).data.toList=some (compV p).2.data.toList /\ prE (compV p)=0:=by
 unfold compE at h
 by_cases h1:nextP 61 p.data.toList < p.size
 ·rw [if_pos h1] at h
  cases e:valP (rawV p).data.toList with
  | none=>rw [e] at h; simp at h
  | some v =>
   rw [e] at h
   unfold compV
   rw [e]
   exact ⟨h1,rfl,h⟩
 ·rw [if_neg h1] at h; simp at h
/-! ### Parse -/
def firstE:List ByteArray -> Int
 | []=>0
 | p :: r=>if compE p=0 then firstE r else compE p
def piecesS (s:ByteArray):List ByteArray:=if s.size=0 then [] else (pieces 44 s.data.toList).map ofB
def parseE (s:ByteArray):Int:=if firstE (piecesS s)=0 then (if 8 < (piecesS s).length then 3 else 0) else firstE (piecesS s)
def parseV (s:ByteArray):List Pr:=if parseE s=0 then (piecesS s).map compV else []
theorem firstE_app (a b:List ByteArray) (h:firstE a=0):firstE (a ++ b)=firstE b:=by
 induction a with
 | nil=>rfl
 | cons p r ih =>
  unfold firstE at h
  by_cases hp:compE p=0
  ·rw [if_pos hp] at h
   show (if compE p=0 then firstE (r ++ b) else compE p)=_
   rw [if_pos hp,ih h]
  ·rw [if_neg hp] at h; exact absurd h hp
theorem firstE_all {l:List ByteArray} (h:firstE l=0):∀ p ∈ l,compE p=0:=by
 induction l with
 | nil=>intro p hp; cases hp
 | cons q r ih =>
  unfold firstE at h
  by_cases hq:compE q=0
  ·rw [if_pos hq] at h
   intro p hp
   rcases List.mem_cons.1 hp with rfl | hp
   ·exact hq
   ·exact ih h p hp
  ·rw [if_neg hq] at h; exact absurd h hq
theorem firstE_zero {l:List ByteArray} (h:∀ p ∈ l,compE p=0):firstE l=0:=by
 induction l with
 | nil=>rfl
 | cons q r ih=>unfold firstE; rw [if_pos (h q (by simp)),ih (fun p hp=>h p (by simp [hp]))]
/-! ### Format -/
def fmtC (p:Pr):List UInt8:=(lowS p.1).data.toList ++ 61 :: escV (foldS p.2).data.toList
def barC:List (List UInt8) -> List UInt8
 | []=>[]
 | [p]=>p
 | p :: q :: r=>p ++ 44 :: barC (q :: r)
def fmtFirst:List Pr -> Int
 | []=>0
 | p :: r=>if prE p=0 then fmtFirst r else prE p
def fmtE (l:List Pr):Int:=if fmtFirst l=0 then (if 8 < l.length then 3 else 0) else fmtFirst l
def fmtV (l:List Pr):ByteArray:=if fmtE l=0 then ofB (barC (l.map fmtC)) else ByteArray.empty
theorem barC_snoc (p:List UInt8):∀ l:List (List UInt8),l ≠ [] -> barC (l ++ [p])=barC l ++ 44 :: p
 | [],h=>absurd rfl h
 | [q],_=>rfl
 | q :: r :: t,_=>by
  have ih:=barC_snoc p (r :: t) (by simp)
  show q ++ 44 :: barC (r :: t ++ [p])=(q ++ 44 :: barC (r :: t)) ++ 44 :: p
  rw [ih]; simp
theorem fmtFirst_all {l:List Pr} (h:fmtFirst l=0):∀ p ∈ l,prE p=0:=by
 induction l with
 | nil=>intro p hp; cases hp
 | cons q r ih =>
  unfold fmtFirst at h
  by_cases hq:prE q=0
  ·rw [if_pos hq] at h
   intro p hp
   rcases List.mem_cons.1 hp with rfl | hp
   ·exact hq
   ·exact ih h p hp
  ·rw [if_neg hq] at h; exact absurd h hq
theorem fmtFirst_zero {l:List Pr} (h:∀ p ∈ l,prE p=0):fmtFirst l=0:=by
 induction l with
 | nil=>rfl
 | cons q r ih=>unfold fmtFirst; rw [if_pos (h q (by simp)),ih (fun p hp=>h p (by simp [hp]))]
theorem fmtE_ok {l:List Pr} (h:fmtE l=0):(∀ p ∈ l,prE p=0) /\ l.length <= 8:=by
 unfold fmtE at h
 by_cases h1:fmtFirst l=0
 ·rw [if_pos h1] at h
  by_cases h2:8 < l.length
  ·rw [if_pos h2] at h; cases h
  ·exact ⟨fmtFirst_all h1,by omega⟩
 ·rw [if_neg h1] at h; exact absurd h h1
theorem fmtE_zero {l:List Pr} (h1:∀ p ∈ l,prE p=0) (h2:l.length <= 8):fmtE l=0:=by
 unfold fmtE; rw [if_pos (fmtFirst_zero h1),if_neg (by omega)]
theorem parseE_ok {s:ByteArray} (h:parseE s=0):(∀ p ∈ piecesS s,compE p=0) /\ (piecesS s).length <= 8:=by
 unfold parseE at h
 by_cases h1:firstE (piecesS s)=0
 ·rw [if_pos h1] at h
  by_cases h2:8 < (piecesS s).length
  ·rw [if_pos h2] at h; cases h
  ·exact ⟨firstE_all h1,by omega⟩
 ·rw [if_neg h1] at h; exact absurd h h1
theorem parseV_ok {s:ByteArray} (h:parseE s=0):(∀ p ∈ parseV s,prE p=0) /\ (parseV s).length <= 8:=by
 obtain ⟨h1,h2⟩:=parseE_ok h
 unfold parseV
 rw [if_pos h]
 refine ⟨fun p hp => ?_,by simpa using h2⟩
 obtain ⟨q,hq,rfl⟩:=List.mem_map.1 hp
 exact (compE_ok (h1 q hq)).2.2
theorem fmt_parse_ok {s:ByteArray} (h:parseE s=0):fmtE (parseV s)=0:=fmtE_zero (parseV_ok h).1 (parseV_ok h).2
/-! ### Clean,Valid,the components of a normal form -/
def cleanE (s:ByteArray):Int:=if parseE s=0 then fmtE (parseV s) else parseE s
def cleanV (s:ByteArray):ByteArray:=if parseE s=0 then fmtV (parseV s) else ByteArray.empty
def normB (s:ByteArray):Bool:=decide (parseE s=0) && decide (fmtV (parseV s)=s)
def compsV (s:ByteArray):List Pr:=if normB s then parseV s else []
theorem prE_zero (p:Pr):prE p=0 ↔ nameB p.1=true /\ cleanB p.2=true:=by
 unfold prE
 cases h1:nameB p.1 <;> cases h2:cleanB p.2 <;> simp
theorem mem_bt {s:ByteArray} {c:UInt8} (h:c ∈ s.data.toList):∃ j,j < s.size /\ bt s j=(c.toNat:Int):=by
 obtain ⟨j,hj,rfl⟩:=List.getElem_of_mem h
 exact ⟨j,by rw [Lib.size_eq]; exact hj,bt_list s j _ (List.getElem?_eq_getElem hj)⟩
theorem bt_mem {s:ByteArray} {j:Nat} (h:j < s.size):∃ c,c ∈ s.data.toList /\ bt s j=(c.toNat:Int):=by
 have hj:j < s.data.toList.length:=by rw [<- Lib.size_eq]; exact h
 exact ⟨_,List.getElem_mem hj,bt_list s j _ (List.getElem?_eq_getElem hj)⟩
theorem allB_list (p:Int -> Bool) (s:ByteArray):allB p s=s.data.toList.all fun c=>p (c.toNat:Int):=by
 rw [Bool.eq_iff_iff,allB_iff,List.all_eq_true]
 constructor
 ·intro h c hc
  obtain ⟨j,hj,e⟩:=mem_bt hc
  rw [<- e]; exact h j hj
 ·intro h j hj
  obtain ⟨c,hc,e⟩:=bt_mem hj
  rw [e]; exact h c hc
theorem ltrI_low (x:Int):ltrI (if 65 <= x /\ x <= 90 then x + 32 else x)=ltrI x:=by
 rw [Bool.eq_iff_iff]; unfold ltrI; simp only [Bool.or_eq_true,Bool.and_eq_true,decide_eq_true_eq]
 split <;> omega
theorem nameP_low (x:Int):nameP (if 65 <= x /\ x <= 90 then x + 32 else x)=nameP x:=by
 unfold nameP
 rw [ltrI_low]
 by_cases h:65 <= x /\ x <= 90
 ·rw [if_pos h]
  have:ltrI x=true:=by unfold ltrI; simp; omega
  rw [this]; rfl
 ·rw [if_neg h]
theorem name_bytes {s:ByteArray} (h:nameB s=true):∀ c ∈ s.data.toList,c ≠ 44 /\ c ≠ 61 /\ c ≠ 92 /\ c ≠ 32:=by
 intro c hc
 unfold nameB at h
 simp only [Bool.and_eq_true] at h
 obtain ⟨j,hj,e⟩:=mem_bt hc
 have:=allB_iff.1 h.2 j hj
 rw [e] at this
 refine ⟨?_, ?_, ?_, ?_⟩ <;> (intro e2; subst e2; exact absurd this (by decide))
theorem norm_iff (s:ByteArray):normB s=true ↔ parseE s=0 /\ fmtV (parseV s)=s:=by
 unfold normB; simp
theorem cleanE_eq (s:ByteArray):cleanE s=parseE s:=by
 unfold cleanE
 by_cases h:parseE s=0
 ·rw [if_pos h,fmt_parse_ok h,h]
 ·rw [if_neg h]
theorem comps_none {s:ByteArray} (h:normB s=false):compsV s = []:=by unfold compsV; rw [h]; rfl
/-! ### case -/
theorem norm_clean (s:ByteArray):normB s=(decide (cleanE s=0) && decide (cleanV s=s)):=by
 rw [cleanE_eq]
 unfold normB cleanV
 by_cases h:parseE s=0
 ·rw [if_pos h]
 ·simp [h]
/-! ### the family -/
/-! ### the order -/
structure Ord3 {α:Type} (f:α -> α -> Int):Prop where
 range:∀ a b,f a b = -1 ∨ f a b=0 ∨ f a b=1
 anti:∀ a b,f b a = - f a b
 zero:∀ a b,f a b=0 ↔ a=b
 trans:∀ a b c,f a b <= 0 -> f b c <= 0 -> f a c <= 0
theorem cmpS_ord:Ord3 cmpS:=
 ⟨fun a b=>cb_range _ _,fun a b=>cb_anti _ _,fun a b=>by unfold cmpS; rw [cb_zero]; exact ⟨ba_ext,fun e=>by rw [e]⟩,fun a b c h1 h2=>cb_trans _ _ _ h1 h2⟩
end Nam
end Go.Proofs.YtmmdaegdkikkpaaGreatDoor
end

section
set_option maxRecDepth 100000
namespace Go.Proofs.YtmmdaegdkikkpaaGreatDoor
namespace Nam
open Go.RowKit Go.PlainAid
theorem mark_table:∀ n:Nat,n < 256 -> decide (0 <= Lib.indexByte [44,61,43,92] (UInt8.ofNat n))=spec4 (UInt8.ofNat n):=by decide +kernel
theorem mark_lib (c:UInt8):decide (0 <= Lib.indexByte [44,61,43,92] c)=spec4 c:=by
 have:=mark_table c.toNat c.toNat_lt
 rwa [UInt8.ofNat_toNat] at this
set_option maxRecDepth 100000 in
set_option maxHeartbeats 1000000 in
theorem mark_s (x:Int) (c:UInt8) (w:World) (hx:x=(c.toNat:Int)) :
  Calls Tryz.prog 253 #[.int .u8 x] w fun e w'=>e = .returned (.bool (spec4 c)) /\ w=w':=by
 have HX:=Lib.hid (show x.toNat.toUInt8=c by subst hx; simp)
 have HM:=Lib.hid (mark_lib c)
 clear hx
 go_enter Tryz.func253,Tryz.ntmps253
 go_wp2_with fail
 refine (Tryz.strings_IndexByte ⟨#[44,61,43,92]⟩ x _).mono ?_
 rintro e w' ⟨rfl,rfl⟩
 rw [HX.out]
 generalize hv:Lib.indexByte (⟨#[44,61,43,92]⟩:ByteArray).data.toList c=v
 have HV:=Lib.hid hv; clear hv
 go_wp2_with fail
 go_ret
 exact ⟨by rw [<- HM.out, <- HV.out]; rfl,rfl⟩
/-! ### where the separator stands -/
theorem next_here (c:UInt8) (s:ByteArray) (i:Nat) (h:i < s.size) (hc:chr s i=c):nextP c (s.data.toList.drop i)=0:=by
 rw [drop_chr s i h]; unfold nextP; rw [if_pos hc]
theorem next_esc (c:UInt8) (s:ByteArray) (i:Nat) (h:i < s.size) (hc:chr s i ≠ c) (h92:chr s i=92) :
  nextP c (s.data.toList.drop i)=if i + 1 < s.size then nextP c (s.data.toList.drop (i + 2)) + 2 else 1:=by
 rw [drop_chr s i h]
 conv=>lhs; unfold nextP
 rw [if_neg hc,if_pos h92]
 by_cases h1:i + 1 < s.size
 ·rw [drop_chr s (i + 1) h1,if_pos h1]
 ·rw [List.drop_eq_nil_of_le (by rw [<- Lib.size_eq]; omega),if_neg h1]
theorem next_other (c:UInt8) (s:ByteArray) (i:Nat) (h:i < s.size) (hc:chr s i ≠ c) (h92:chr s i ≠ 92) :
  nextP c (s.data.toList.drop i)=nextP c (s.data.toList.drop (i + 1)) + 1:=by
 rw [drop_chr s i h]
 conv=>lhs; unfold nextP
 rw [if_neg hc,if_neg h92]
def NextAt (c:UInt8) (s:ByteArray) (i:Nat):Prop:=i <= s.size + 1 /\ nextP c s.data.toList=min (i + nextP c (s.data.toList.drop i)) s.size
theorem nextAt_zero (c:UInt8) (s:ByteArray):NextAt c s 0:=by
 refine ⟨by omega, ?_⟩
 have:=nextP_le c s.data.toList
 rw [<- Lib.size_eq] at this
 rw [List.drop_zero]; omega
theorem nextAt_here {c:UInt8} {s:ByteArray} {i:Nat} (h:NextAt c s i) (hi:i < s.size) (hc:chr s i=c):nextP c s.data.toList=i:=by
 rw [h.2,next_here c s i hi hc]; omega
theorem nextAt_esc {c:UInt8} {s:ByteArray} {i:Nat} (h:NextAt c s i) (hi:i < s.size) (hc:chr s i ≠ c) (h92:chr s i=92):NextAt c s (i + 2):=by
 refine ⟨by omega, ?_⟩
 rw [h.2,next_esc c s i hi hc h92]
 by_cases h1:i + 1 < s.size
 ·rw [if_pos h1]; omega
 ·rw [if_neg h1,List.drop_eq_nil_of_le (by rw [<- Lib.size_eq]; omega)]; simp [nextP]; omega
theorem nextAt_other {c:UInt8} {s:ByteArray} {i:Nat} (h:NextAt c s i) (hi:i < s.size) (hc:chr s i ≠ c) (h92:chr s i ≠ 92):NextAt c s (i + 1):=by
 refine ⟨by omega, ?_⟩
 rw [h.2,next_other c s i hi hc h92]; omega
theorem nextAt_end {c:UInt8} {s:ByteArray} {i:Nat} (h:NextAt c s i) (hi:¬ i < s.size):nextP c s.data.toList=s.size:=by
 rw [h.2]; omega
theorem bt_ne (s:ByteArray) (i:Nat) (c:UInt8):(bt s i == (c.toNat:Int))=decide (chr s i=c):=by
 rw [bt_chr,Bool.eq_iff_iff,beq_iff_eq,decide_eq_true_eq]
 exact ⟨fun h=>UInt8.toNat_inj.1 (by omega),fun h=>by rw [h]⟩
def cutA (c:UInt8) (s:ByteArray):ByteArray:=tk s (nextP c s.data.toList)
def cutZ (c:UInt8) (s:ByteArray):ByteArray:=if nextP c s.data.toList < s.size then dr s (nextP c s.data.toList + 1) else ByteArray.empty
def cutF (c:UInt8) (s:ByteArray):Bool:=decide (nextP c s.data.toList < s.size)
theorem extract_tk (s:ByteArray) (k:Nat):s.extract 0 k=tk s k:=by
 have:s=⟨s.data.toList.toArray⟩:=(Lib.mk_data s).symm
 rw [this,Lib.extract_mk,List.drop_zero]; rfl
theorem cut_hit {c:UInt8} {s:ByteArray} {i:Nat} (h:nextP c s.data.toList=i) (hi:i < s.size):cutA c s=s.extract 0 i /\ cutZ c s=s.extract (i + 1) s.size /\ cutF c s=true:=by
 unfold cutA cutZ cutF
 rw [h,if_pos hi]
 exact ⟨(extract_tk s i).symm,(Lib.extract_from s (i + 1)).symm,decide_eq_true hi⟩
theorem cut_miss {c:UInt8} {s:ByteArray} (h:nextP c s.data.toList=s.size):cutA c s=s /\ cutZ c s=ByteArray.empty /\ cutF c s=false:=by
 unfold cutA cutZ cutF
 rw [h,if_neg (Nat.lt_irrefl _),tk_all]
 exact ⟨rfl,rfl,decide_eq_false (Nat.lt_irrefl _)⟩
set_option maxRecDepth 100000 in
set_option maxHeartbeats 2000000 in
theorem cut_s (s:ByteArray) (x:Int) (c:UInt8) (w:World) (hs:s.size <= 1000000000) (hx:x=(c.toNat:Int)) :
  Calls Tryz.prog 196 #[.string s, .int .u8 x] w fun e w'=>e = .returned (.tuple #[.string (cutA c s), .string (cutZ c s), .bool (cutF c s)]) /\ Below w.heap.size w w':=by
 have hb:=get_bt s
 have HQ:=Lib.hid (fun i=>show (bt s i == x)=decide (chr s i=c) by rw [hx]; exact bt_ne s i c)
 clear hx
 go_enter Tryz.func196,Tryz.ntmps196
 go_wp2
 go_loop [7] (fun iv=>∃ i:Nat,iv = .int .i64 i /\ i <= s.size + 1 /\ Hid (NextAt c s i)) (fun iv=>s.size + 1 - (intOf iv).toNat)
 case atStart=>exact ⟨0,rfl,by omega,Lib.hid (nextAt_zero c s)⟩
 case round =>
  obtain ⟨i,rfl,hi,HA⟩:=hrel
  by_cases hlt:i < s.size
  ·have i0:(0:Int) <= (i:Int):=by omega
   cases c1:(bt s i == x)
   ·have HN:=Lib.hid (show chr s i ≠ c by have:=HQ.out i; rw [c1] at this; exact of_decide_eq_false this.symm)
    cases c2:(bt s i == 92)
    ·have HM:=Lib.hid (show chr s i ≠ 92 by have:=bt_ne s i 92; rw [show ((92:UInt8).toNat:Int)=92 from rfl,c2] at this; exact of_decide_eq_false this.symm)
     have HT:=Lib.hid (nextAt_other HA.out hlt HN.out HM.out)
     go_wp2
     go_round
     case rel=>exact ⟨i + 1,by go_num,by omega,HT⟩
     case measure=>simp [intOf]; omega
    ·have HM:=Lib.hid (show chr s i=92 by have:=bt_ne s i 92; rw [show ((92:UInt8).toNat:Int)=92 from rfl,c2] at this; exact of_decide_eq_true this.symm)
     have HT:=Lib.hid (nextAt_esc HA.out hlt HN.out HM.out)
     go_wp2
     go_round
     case rel=>exact ⟨i + 2,by go_num,by omega,HT⟩
     case measure=>simp [intOf]; omega
   ·have HN:=Lib.hid (show chr s i=c by have:=HQ.out i; rw [c1] at this; exact of_decide_eq_true this.symm)
    have HC:=Lib.hid (cut_hit (nextAt_here HA.out hlt HN.out) hlt)
    have m5:IntKind.i64.wrap ((i:Int) + 1)=(i:Int) + 1:=IntWalk.i64_in _ (by omega)
    have k1:(i:Int) <= (s.size:Int):=by omega
    have k2:(0:Int) <= (i:Int) + 1:=by omega
    have k3:(i:Int) + 1 <= (s.size:Int):=by omega
    have k4:((i:Int) + 1).toNat=i + 1:=by omega
    go_wp2
    go_region_held3 (fun _=>True) (trivial) ((fail))
    go_wp2
    go_ret3
    exact ⟨by rw [HC.out.1,HC.out.2.1,HC.out.2.2]; rfl,(Below.refl _ _).drew⟩
  ·have HC:=Lib.hid (cut_miss (nextAt_end HA.out hlt))
   go_wp2
   go_ret3
   exact ⟨by rw [HC.out.1,HC.out.2.1,HC.out.2.2]; rfl,Below.refl _ _⟩
theorem valQ_end (s:ByteArray) (i:Nat) (h:i < s.size) (h92:chr s i=92) (h1:¬ i + 1 < s.size):valQ (s.data.toList.drop i)=none:=by
 rw [drop_chr s i h,List.drop_eq_nil_of_le (by rw [<- Lib.size_eq]; omega)]
 unfold valQ; rw [if_pos h92]
theorem valQ_esc (s:ByteArray) (i:Nat) (h:i + 1 < s.size) (h92:chr s i=92) :
  valQ (s.data.toList.drop i)=if spec4 (chr s (i + 1)) then (valQ (s.data.toList.drop (i + 2))).map (chr s (i + 1) :: ·) else none:=by
 rw [drop_chr s i (by omega),drop_chr s (i + 1) h]
 conv=>lhs; unfold valQ
 rw [if_pos h92]
theorem valQ_other (s:ByteArray) (i:Nat) (h:i < s.size) (h92:chr s i ≠ 92) :
  valQ (s.data.toList.drop i)=if spec4 (chr s i) then none else (valQ (s.data.toList.drop (i + 1))).map (chr s i :: ·):=by
 rw [drop_chr s i h]
 conv=>lhs; unfold valQ
 rw [if_neg h92]
def ValAt (f:List UInt8 -> Option (List UInt8)) (s:ByteArray) (i:Nat) (out:List UInt8):Prop:=f s.data.toList=(f (s.data.toList.drop i)).map (out ++ ·)
theorem valAt_step {f:List UInt8 -> Option (List UInt8)} {s:ByteArray} {i j:Nat} {out:List UInt8} {c:UInt8} (h:ValAt f s i out) (e:f (s.data.toList.drop i)=(f (s.data.toList.drop j)).map (c :: ·)):ValAt f s j (out ++ [c]):=by
 unfold ValAt at *
 rw [h,e,Option.map_map]; congr 1; funext l; simp
theorem valAt_none {f:List UInt8 -> Option (List UInt8)} {s:ByteArray} {i:Nat} {out:List UInt8} (h:ValAt f s i out) (e:f (s.data.toList.drop i)=none):f s.data.toList=none:=by
 unfold ValAt at *
 rw [h,e]; rfl
theorem valAt_end {f:List UInt8 -> Option (List UInt8)} {s:ByteArray} {i:Nat} {out:List UInt8} (h:ValAt f s i out) (hf:f []=some []) (hi:¬ i < s.size):f s.data.toList=some out:=by
 unfold ValAt at *
 rw [h,List.drop_eq_nil_of_le (by rw [<- Lib.size_eq]; omega),hf]; simp
def optB (o:Option (List UInt8)):ByteArray:=ofB (o.getD [])
theorem chr_92 (s:ByteArray) (i:Nat) {b:Bool} (h:(bt s i == 92)=b):decide (chr s i=92)=b:=by
 rw [<- h]; exact (bt_ne s i 92).symm
set_option maxRecDepth 100000 in
set_option maxHeartbeats 4000000 in
theorem unescaped_s (s:ByteArray) (w:World) (hs:s.size <= 1000000000) :
  Calls Tryz.prog 252 #[.string s] w fun e w'=>e = .returned (.tuple #[.string (optB (valQ s.data.toList)), .bool (valQ s.data.toList).isSome]) /\ Below w.heap.size w w':=by
 have hb:=get_bt s
 have HN:=Lib.hid (bld_new w)
 go_enter Tryz.func252,Tryz.ntmps252
 go_wp2
 go_loopw [5] (fun iv wr=>∃ (i:Nat) (out:List UInt8),i <= s.size /\ iv = .int .i64 i /\ out.length <= i /\ Hid (ValAt valQ s i out) /\ Bld w.heap.size w.heap.size out wr /\ Below w.heap.size w wr)
  (fun iv _=>s.size - (intOf iv).toNat)
 case atStart=>exact ⟨0,[],Nat.zero_le _,rfl,by simp,Lib.hid (by unfold ValAt; simp),HN.out,(Below.refl _ _).alloc (Nat.le_refl _) _⟩
 case round =>
  obtain ⟨i,out,hi,rfl,hol,HU,HB,hbel⟩:=hrel
  by_cases hlt:i < s.size
  ·have HC:=Lib.hid (bt_chr s i)
   cases c0:(bt s i == 92)
   ·have HM:=Lib.hid (of_decide_eq_false (chr_92 s i c0))
    have HE:=Lib.hid (valQ_other s i hlt HM.out)
    cases c1:spec4 (chr s i)
    ·rw [c1] at HE
     have HT:=Lib.hid (valAt_step (j:=i + 1) (c:=chr s i) HU.out HE.out)
     go_wp2_with (go_at_call 253; refine (mark_s _ (chr s i) _ HC.out).mono ?_; rintro e w' ⟨rfl,rfl⟩; rw [c1])
     refine (writeByte_s w.heap.size w.heap.size _ (chr s i) _ _ HB HC.out (by omega) hbel.size).mono ?_
     rintro e w1 ⟨rfl,HB1,hb1⟩
     go_wp2
     go_roundw
     case rel=>exact ⟨i + 1,_,by omega,by go_num,by simp; omega,HT,HB1,hbel.trans hb1⟩
     case measure=>simp [intOf]; omega
    ·rw [c1] at HE
     have HF:=Lib.hid (valAt_none HU.out HE.out)
     go_wp2_with (go_at_call 253; refine (mark_s _ (chr s i) _ HC.out).mono ?_; rintro e w' ⟨rfl,rfl⟩; rw [c1])
     go_ret2
     exact ⟨by rw [HF.out]; rfl,hbel⟩
   ·have HM:=Lib.hid (of_decide_eq_true (chr_92 s i c0))
    by_cases h1:i + 1 < s.size
    ·have HE:=Lib.hid (valQ_esc s i h1 HM.out)
     have HC1:=Lib.hid (bt_chr s (i + 1))
     have q1:((i:Int) + 1 == (s.size:Int))=false:=beq_eq_false_iff_ne.2 (by omega)
     have q2:((i:Int) + 1).toNat=i + 1:=by omega
     cases c1:spec4 (chr s (i + 1))
     ·rw [c1] at HE
      have HF:=Lib.hid (valAt_none HU.out HE.out)
      go_wp2_with (go_at_call 253; refine (mark_s _ (chr s (i + 1)) _ HC1.out).mono ?_; rintro e w' ⟨rfl,rfl⟩; rw [c1])
      go_ret2
      exact ⟨by rw [HF.out]; rfl,hbel⟩
     ·rw [c1] at HE
      have HT:=Lib.hid (valAt_step (j:=i + 2) (c:=chr s (i + 1)) HU.out HE.out)
      go_wp2_with (go_at_call 253; refine (mark_s _ (chr s (i + 1)) _ HC1.out).mono ?_; rintro e w' ⟨rfl,rfl⟩; rw [c1])
      refine (writeByte_s w.heap.size w.heap.size _ (chr s (i + 1)) _ _ HB HC1.out (by omega) hbel.size).mono ?_
      rintro e w1 ⟨rfl,HB1,hb1⟩
      go_wp2
      go_roundw
      case rel=>exact ⟨i + 2,_,by omega,by go_num,by simp; omega,HT,HB1,hbel.trans hb1⟩
      case measure=>simp [intOf]; omega
    ·have HF:=Lib.hid (valAt_none HU.out (valQ_end s i hlt HM.out h1))
     have q1:((i:Int) + 1 == (s.size:Int))=true:=beq_iff_eq.2 (by omega)
     go_wp2
     go_ret2
     exact ⟨by rw [HF.out]; rfl,hbel⟩
  ·have HF:=Lib.hid (valAt_end HU.out rfl hlt)
   go_wp2_with (go_at_call 59; refine (string_s w.heap.size w.heap.size _ _ HB hbel.size).mono ?_; rintro e w1 ⟨rfl,hb1⟩)
   go_ret2
   exact ⟨by rw [HF.out]; rfl,hbel.trans hb1⟩
theorem escV_snoc (l:List UInt8) (c:UInt8):escV (l ++ [c])=escV l ++ escB c:=by unfold escV; simp
theorem escV_len:∀ l:List UInt8,(escV l).length <= 2 * l.length
 | []=>by simp [escV]
 | c :: l=>by
  have e:escV (c :: l)=escB c ++ escV l:=rfl
  have:=escV_len l
  rw [e,List.length_append,List.length_cons]
  unfold escB; split <;> simp <;> omega
theorem escV_step (s:ByteArray) (k:Nat) (h:k < s.size):escV (s.data.toList.take (k + 1))=escV (s.data.toList.take k) ++ escB (chr s k):=by rw [take_chr s k h,escV_snoc]
def escS (s:ByteArray):ByteArray:=ofB (escV s.data.toList)
theorem escS_size (s:ByteArray):(escS s).size <= 2 * s.size:=by unfold escS; rw [ofB_size,Lib.size_eq]; exact escV_len _
set_option maxRecDepth 100000 in
set_option maxHeartbeats 2000000 in
theorem escaped_s (s:ByteArray) (w:World) (hs:s.size <= 1000000000) :
  Calls Tryz.prog 200 #[.string s] w fun e w'=>e = .returned (.string (escS s)) /\ Below w.heap.size w w':=by
 have hb:=get_bt s
 have HN:=Lib.hid (bld_new w)
 go_enter Tryz.func200,Tryz.ntmps200
 go_wp2
 go_loopw [7] (fun i wr=>∃ k:Nat,k <= s.size /\ i = .int .i64 k /\ Bld w.heap.size w.heap.size (escV (s.data.toList.take k)) wr /\ Below w.heap.size w wr)
  (fun i _=>s.size - (intOf i).toNat)
 case atStart=>exact ⟨0,Nat.zero_le _,rfl,HN.out,(Below.refl _ _).alloc (Nat.le_refl _) _⟩
 case round =>
  obtain ⟨k,hk,rfl,HB,hbel⟩:=hrel
  have hl3:=escV_len (s.data.toList.take k)
  have hl4:(s.data.toList.take k).length <= k:=List.length_take_le _ _
  have HC:=Lib.hid (bt_chr s k)
  by_cases hlt:k < s.size
  ·have HST:=Lib.hid (escV_step s k hlt)
   cases c1:spec4 (chr s k)
   ·have HST2:=Lib.hid (show escV (s.data.toList.take (k + 1))=escV (s.data.toList.take k) ++ [chr s k] by rw [HST.out]; unfold escB; rw [c1]; rfl)
    go_wp2_with (go_at_call 253; refine (mark_s _ (chr s k) _ HC.out).mono ?_; rintro e w' ⟨rfl,rfl⟩; rw [c1])
    refine (writeByte_s w.heap.size w.heap.size _ (chr s k) _ _ HB HC.out (by omega) hbel.size).mono ?_
    rintro e w1 ⟨rfl,HB1,hb1⟩
    go_wp2
    go_roundw
    case rel=>exact ⟨k + 1,by omega,by go_num,by rw [HST2.out]; exact HB1,hbel.trans hb1⟩
    case measure=>simp [intOf]; omega
   ·have HST2:=Lib.hid (show escV (s.data.toList.take (k + 1))=(escV (s.data.toList.take k) ++ [92]) ++ [chr s k] by rw [HST.out]; unfold escB; rw [c1]; simp)
    go_wp2_with (go_at_call 253; refine (mark_s _ (chr s k) _ HC.out).mono ?_; rintro e w' ⟨rfl,rfl⟩; rw [c1])
    refine (writeByte_s w.heap.size w.heap.size _ 92 92 _ HB rfl (by omega) hbel.size).mono ?_
    rintro e w1 ⟨rfl,HB1,hb1⟩
    go_wp2_with fail
    refine (writeByte_s w.heap.size w.heap.size _ (chr s k) _ _ HB1 HC.out (by simp; omega) (Nat.le_trans hbel.size hb1.size)).mono ?_
    rintro e w2 ⟨rfl,HB2,hb2⟩
    go_wp2
    go_roundw
    case rel=>exact ⟨k + 1,by omega,by go_num,by rw [HST2.out]; exact HB2,hbel.trans (hb1.trans hb2)⟩
    case measure=>simp [intOf]; omega
  ·have HT:=Lib.hid (show s.data.toList.take k=s.data.toList by rw [List.take_of_length_le]; simp; omega)
   rw [HT.out] at HB
   go_wp2_with (go_at_call 59; refine (string_s w.heap.size w.heap.size _ _ HB hbel.size).mono ?_; rintro e w1 ⟨rfl,hb1⟩)
   go_ret
   exact ⟨rfl,hbel.trans hb1⟩
set_option maxRecDepth 100000 in
set_option maxHeartbeats 2000000 in
theorem check_s (p:Pr) (w:World) (h1:p.1.size <= 1000000000) (h2:p.2.size <= 1000000000) :
  Calls Tryz.prog 198 #[.agg #[.string p.1, .string p.2]] w fun e w'=>e = .returned (.int .i64 (prE p)) /\ Below w.heap.size w w':=by
 obtain ⟨a,b⟩:=p
 simp only at h1 h2
 cases c1:nameB a
 ·have HE:=Lib.hid (show prE (a,b)=5 by unfold prE; rw [if_pos c1])
  go_enter Tryz.func198,Tryz.ntmps198
  go_wp2_with (go_at_call 127; refine (name_s a _ h1).mono ?_; rintro e w' ⟨rfl,rfl⟩; rw [c1])
  go_ret
  exact ⟨by rw [HE.out]; rfl,(Below.refl _ _).alloc (Nat.le_refl _) _⟩
 ·cases c2:cleanB b
  ·have HE:=Lib.hid (show prE (a,b)=8 by unfold prE; simp only []; rw [if_neg (by rw [c1]; decide),if_pos c2])
   go_enter Tryz.func198,Tryz.ntmps198
   go_wp2_with (first
    | (go_at_call 127; refine (name_s a _ h1).mono ?_; rintro e w' ⟨rfl,rfl⟩; rw [c1])
    | (go_at_call 167; refine (clean_s b _ h2).mono ?_; rintro e w' ⟨rfl,rfl⟩; rw [c2]))
   go_ret
   exact ⟨by rw [HE.out]; rfl,(Below.refl _ _).alloc (Nat.le_refl _) _⟩
  ·have HE:=Lib.hid (show prE (a,b)=0 by unfold prE; simp only []; rw [if_neg (by rw [c1]; decide),if_neg (by rw [c2]; decide)])
   go_enter Tryz.func198,Tryz.ntmps198
   go_wp2_with (first
    | (go_at_call 127; refine (name_s a _ h1).mono ?_; rintro e w' ⟨rfl,rfl⟩; rw [c1])
    | (go_at_call 167; refine (clean_s b _ h2).mono ?_; rintro e w' ⟨rfl,rfl⟩; rw [c2]))
   go_ret
   exact ⟨by rw [HE.out]; rfl,(Below.refl _ _).alloc (Nat.le_refl _) _⟩
def PBox (w:World) (b:Nat) (p:Pr):Prop:=w.heap[b]? = some (.cells #[.string p.1, .string p.2] 192)
theorem PBox.cells {w:World} {b:Nat} {p:Pr} (h:PBox w b p):w.cell? ⟨b,0,none⟩=some (.string p.1) /\ w.cell? ⟨b,1,none⟩=some (.string p.2):=by
 unfold PBox at h
 exact ⟨by rw [Lib.cell_of_heap h]; rfl,by rw [Lib.cell_of_heap h]; rfl⟩
theorem PBox.loose {w:World} {b:Nat} {p:Pr} (h:PBox w b p):w.frozen? ⟨b,0,none⟩=false /\ w.frozen? ⟨b,1,none⟩=false:=by
 unfold PBox at h
 exact ⟨Lib.frozen_of_heap h 0,Lib.frozen_of_heap h 1⟩
theorem PBox.lt {w:World} {b:Nat} {p:Pr} (h:PBox w b p):b < w.heap.size:=by
 unfold PBox at h
 rcases Nat.lt_or_ge b w.heap.size with h' | h'
 ·exact h'
 ·simp [Array.getElem?_eq_none h'] at h
theorem PBox.below {w w':World} {b:Nat} {p:Pr} (h:PBox w b p) (hb:Below w.heap.size w w'):PBox w' b p:=by
 unfold PBox
 rw [hb.block b h.lt]; exact h
theorem pbox_new (w:World) (p:Pr):PBox (w.alloc (.cells #[.string p.1, .string p.2] 192)) w.heap.size p:=heap_alloc_new w _
theorem rawV_cut {p:ByteArray} (h:nextP 61 p.data.toList < p.size):trimS (cutZ 61 p)=rawV p:=by unfold rawV cutZ; rw [if_pos h]
theorem rawV_nocut {p:ByteArray} (h:nocut 44 p.data.toList) (hf:nextP 61 p.data.toList < p.size):nocut 44 (rawV p).data.toList:=by
 have h2:=nocut_drop 44 61 (by decide) (by decide) p.data.toList h (by rw [<- Lib.size_eq]; exact hf)
 exact nocut_trim 44 (by decide) _ h2
theorem compE_none {p:ByteArray} (hf:nextP 61 p.data.toList < p.size) (hv:valP (rawV p).data.toList=none):compE p=4 /\ compR p=nilPr:=by
 have:compE p=4:=by unfold compE; rw [if_pos hf,hv]
 exact ⟨this,by unfold compR; rw [this]; rfl⟩
theorem compE_far {p:ByteArray} (hf:¬ nextP 61 p.data.toList < p.size):compE p=4 /\ compR p=nilPr:=by
 have:compE p=4:=by unfold compE; rw [if_neg hf]
 exact ⟨this,by unfold compR; rw [this]; rfl⟩
theorem compE_some {p:ByteArray} {v:List UInt8} (hf:nextP 61 p.data.toList < p.size) (hv:valP (rawV p).data.toList=some v) :
  compE p=prE (rawK p,ofB v) /\ compR p=if prE (rawK p,ofB v)=0 then (rawK p,ofB v) else nilPr:=by
 have h1:compE p=prE (rawK p,ofB v):=by unfold compE; rw [if_pos hf,hv]
 have h2:compV p=(rawK p,ofB v):=by unfold compV; rw [hv]; rfl
 exact ⟨h1,by unfold compR; rw [h1,h2]⟩
theorem cutZ_size (c:UInt8) (s:ByteArray):(cutZ c s).size <= s.size:=by
 unfold cutZ; split
 ·rw [dr_size]; omega
 ·show 0 <= _; omega
theorem cutA_size (c:UInt8) (s:ByteArray):(cutA c s).size <= s.size:=by
 unfold cutA tk; rw [Lib.size_mk,List.length_take,Lib.size_eq]; omega
theorem valP_len:∀ (l v:List UInt8),valP l=some v -> v.length <= l.length
 | [],v,h=>by unfold valP at h; cases h; simp
 | [x],v,h=>by
  unfold valP at h
  by_cases h1:x=92
  ·rw [if_pos h1] at h; cases h
  ·rw [if_neg h1] at h
   split at h
   ·cases h
   ·cases h; simp
 | x :: y :: r,v,h=>by
  unfold valP at h
  by_cases h1:x=92
  ·rw [if_pos h1] at h
   simp only [] at h
   split at h
   ·obtain ⟨u,hu,rfl⟩:=Option.map_eq_some_iff.1 h
    have:=valP_len r u hu
    simp; omega
   ·cases h
  ·rw [if_neg h1] at h
   split at h
   ·cases h
   ·obtain ⟨u,hu,rfl⟩:=Option.map_eq_some_iff.1 h
    have:=valP_len (y :: r) u hu
    simp at this ⊢; omega
theorem PBox.alloc {w:World} {b:Nat} {p:Pr} (h:PBox w b p) (o:Obj):PBox (w.alloc o) b p:=h.below ((Below.refl _ w).alloc (Nat.le_refl _) o)
theorem below_next {w wx w':World} (h:Below w.heap.size w wx) (hb:Below wx.heap.size wx w'):Below w.heap.size w w':=h.trans (hb.mono h.size)
theorem below_set2 {w wx:World} (h:Below w.heap.size w wx) (a b:Value):Below w.heap.size w ((wx.setCell ⟨w.heap.size,0,none⟩ a).setCell ⟨w.heap.size,1,none⟩ b):=
 (h.setCell (p:=⟨w.heap.size,0,none⟩) (Nat.le_refl _) a).setCell (p:=⟨w.heap.size,1,none⟩) (Nat.le_refl _) b
theorem below_new {w:World} (o:Obj):Below w.heap.size w (w.alloc o):=(Below.refl _ w).alloc (Nat.le_refl _) o
set_option maxRecDepth 100000 in
set_option maxHeartbeats 4000000 in
theorem component_s (p:ByteArray) (w:World) (hp:p.size <= 1000000000) (hn:nocut 44 p.data.toList) :
  Calls Tryz.prog 197 #[.string p] w fun e w'=>e = .returned (.tuple #[.agg #[.string (compR p).1, .string (compR p).2], .int .i64 (compE p)]) /\ Below w.heap.size w w':=by
 have hz0:=cutA_size 61 p
 have hz1:=trimS_size (cutA 61 p)
 have hz2:=cutZ_size 61 p
 have hz3:=trimS_size (cutZ 61 p)
 by_cases hf:nextP 61 p.data.toList < p.size
 ·have HF:=Lib.hid (show cutF 61 p=true by unfold cutF; exact decide_eq_true hf)
  have HQ:=Lib.hid (show valQ (trimS (cutZ 61 p)).data.toList=valP (rawV p).data.toList by rw [rawV_cut hf]; exact valQ_valP _ (rawV_nocut hn hf))
  cases hv:valP (rawV p).data.toList with
  | none =>
   have HE:=Lib.hid (compE_none hf hv)
   rw [hv] at HQ
   clear hv hf hn
   go_enter Tryz.func197,Tryz.ntmps197
   go_wp2_with fail
   refine (cut_s p 61 61 _ hp rfl).mono ?_
   rintro e w1 ⟨rfl,hb1⟩
   rw [HF.out]
   have B1:=(pbox_new w nilPr).below hb1
   have L1:=below_next (below_new _) hb1
   go_wp2_with fail
   refine (trim_s (cutZ 61 p) _ (by omega)).mono ?_
   rintro e w2 ⟨rfl,hb2⟩
   have B2:=B1.below hb2
   have L2:=below_next L1 hb2
   go_wp2_with fail
   refine (unescaped_s (trimS (cutZ 61 p)) _ (by omega)).mono ?_
   rintro e w3 ⟨rfl,hb3⟩
   rw [HQ.out]
   have B3:=B2.below hb3
   have L3:=below_next L2 hb3
   obtain ⟨c0,c1⟩:=B3.cells
   obtain ⟨f0,f1⟩:=B3.loose
   go_wp2
   refine bodyPost_ret (v := .tuple #[.agg #[.string ⟨#[]⟩, .string ⟨#[]⟩], .int .i64 4]) (by simp [results,Tryz.results197,go_sem,c0,c1,f0,f1]) rfl ⟨by rw [HE.out.1,HE.out.2]; rfl, ?_⟩
   exact below_set2 L3 _ _
  | some v =>
   obtain ⟨he,hr⟩:=compE_some hf hv
   have hvl:=valP_len _ _ hv
   have hvs:(ofB v).size <= 1000000000:=by
    rw [ofB_size]
    rw [<- Lib.size_eq] at hvl
    have h2:(rawV p).size <= p.size:=by unfold rawV; refine Nat.le_trans (trimS_size _) ?_; rw [dr_size]; omega
    omega
   have HE:=Lib.hid (show compE p=prE (trimS (cutA 61 p),ofB v) from he)
   have HR:=Lib.hid (show compR p=if prE (trimS (cutA 61 p),ofB v)=0 then (trimS (cutA 61 p),ofB v) else nilPr from hr)
   rw [hv] at HQ
   clear hv hf hn he hr hvl
   go_enter Tryz.func197,Tryz.ntmps197
   go_wp2_with fail
   refine (cut_s p 61 61 _ hp rfl).mono ?_
   rintro e w1 ⟨rfl,hb1⟩
   rw [HF.out]
   have B1:=(pbox_new w nilPr).below hb1
   have L1:=below_next (below_new _) hb1
   go_wp2_with fail
   refine (trim_s (cutZ 61 p) _ (by omega)).mono ?_
   rintro e w2 ⟨rfl,hb2⟩
   have B2:=B1.below hb2
   have L2:=below_next L1 hb2
   go_wp2_with fail
   refine (unescaped_s (trimS (cutZ 61 p)) _ (by omega)).mono ?_
   rintro e w3 ⟨rfl,hb3⟩
   rw [HQ.out]
   have B3:=B2.below hb3
   have L3:=below_next L2 hb3
   go_wp2_with fail
   refine (trim_s (cutA 61 p) _ (by omega)).mono ?_
   rintro e w4 ⟨rfl,hb4⟩
   have B4:=B3.below hb4
   have L4:=below_next L3 hb4
   go_wp2_with fail
   refine (check_s (trimS (cutA 61 p),ofB v) _ (by simp only []; omega) hvs).mono ?_
   rintro e w5 ⟨rfl,hb5⟩
   have B5:=(B4.alloc _).below hb5
   have L5:=below_next (below_next L4 (below_new _)) hb5
   have D5:=(pbox_new w4 (trimS (cutA 61 p),ofB v)).below hb5
   obtain ⟨c0,c1⟩:=B5.cells
   obtain ⟨f0,f1⟩:=B5.loose
   obtain ⟨d0,d1⟩:=D5.cells
   generalize hk:prE (trimS (cutA 61 p),ofB v)=k at HE HR ⊢
   by_cases h0:k=0
   ·have q0:(k != 0)=false:=by rw [h0]; rfl
    rw [if_pos h0] at HR
    have HE2:=Lib.hid (show compE p=0 by rw [HE.out,h0])
    clear h0 hk
    go_wp2
    refine bodyPost_ret (v := .tuple #[.agg #[.string (trimS (cutA 61 p)), .string (ofB v)], .int .i64 0]) (by simp [results,Tryz.results197,go_sem,c0,c1,f0,f1]) rfl ⟨by rw [HE2.out,HR.out], ?_⟩
    exact below_set2 L5 _ _
   ·have q0:(k != 0)=true:=by simpa using h0
    rw [if_neg h0] at HR
    clear h0 hk
    go_wp2
    refine bodyPost_ret (v := .tuple #[.agg #[.string ⟨#[]⟩, .string ⟨#[]⟩], .int .i64 k]) (by simp [results,Tryz.results197,go_sem,c0,c1,f0,f1]) rfl ⟨by rw [HE.out,HR.out]; rfl, ?_⟩
    exact below_set2 L5 _ _
 ·have HF:=Lib.hid (show cutF 61 p=false by unfold cutF; exact decide_eq_false hf)
  have HE:=Lib.hid (compE_far hf)
  go_enter Tryz.func197,Tryz.ntmps197
  go_wp2_with fail
  refine (cut_s p 61 61 _ hp rfl).mono ?_
  rintro e w1 ⟨rfl,hb1⟩
  rw [HF.out]
  have B1:=(pbox_new w nilPr).below hb1
  have L1:=below_next (below_new _) hb1
  obtain ⟨c0,c1⟩:=B1.cells
  obtain ⟨f0,f1⟩:=B1.loose
  go_wp2
  refine bodyPost_ret (v := .tuple #[.agg #[.string ⟨#[]⟩, .string ⟨#[]⟩], .int .i64 4]) (by simp [results,Tryz.results197,go_sem,c0,c1,f0,f1]) rfl ⟨by rw [HE.out.1,HE.out.2]; rfl, ?_⟩
  exact below_set2 L1 _ _
def prAt (ps:List Pr) (j:Nat):Pr:=ps.getD j (ByteArray.empty,ByteArray.empty)
theorem pr_take (ps:List Pr) (k:Nat) (h:k < ps.length):ps.take (k + 1)=ps.take k ++ [prAt ps k]:=by
 unfold prAt
 rw [List.take_succ_eq_append_getElem h,List.getD_eq_getElem?_getD,List.getElem?_eq_getElem h]; rfl
def IsPairs (w:World) (b off:Nat) (ps:List Pr):Prop:=
 b < w.heap.size /\ ∀ j,j < ps.length -> w.cell? ⟨b,off + j * 2,none⟩=some (.string (prAt ps j).1) /\ w.cell? ⟨b,off + j * 2 + 1,none⟩=some (.string (prAt ps j).2)
theorem IsPairs.below {w w':World} {b off:Nat} {ps:List Pr} (h:IsPairs w b off ps) {B:Nat} (hb:Below B w w') (hB:b < B):IsPairs w' b off ps:=
 ⟨Nat.lt_of_lt_of_le h.1 hb.size,fun j hj=>by
  rw [hb.cell (p:=⟨b,off + j * 2,none⟩) hB,hb.cell (p:=⟨b,off + j * 2 + 1,none⟩) hB]; exact h.2 j hj⟩
def PairsAt (w:World) (ao:Option Addr) (n cap:Nat) (ps:List Pr):Prop:=
 ps.length=n /\ n <= cap /\ cap <= maxLen /\ (0 < n -> ∃ b off,ao=some ⟨b,off,none⟩ /\ IsPairs w b off ps)
theorem PairsAt.below {w w':World} {ao:Option Addr} {n cap:Nat} {ps:List Pr} (h:PairsAt w ao n cap ps) (hb:Below w.heap.size w w'):PairsAt w' ao n cap ps:=
 ⟨h.1,h.2.1,h.2.2.1,fun hn=>by
  obtain ⟨b,off,e,hi⟩:=h.2.2.2 hn
  exact ⟨b,off,e,hi.below hb hi.1⟩⟩
def pcells (l:List Pr):List Value:=l.flatMap fun p=>[.string p.1, .string p.2]
theorem pcells_append (l m:List Pr):pcells (l ++ m)=pcells l ++ pcells m:=by simp [pcells]
theorem info_pair:(Tryz.prog.info? 192).map (fun i=>(i.zero,i.size,i.bytes))=some (some (.agg #[.string ⟨#[]⟩, .string ⟨#[]⟩]),2,32):=by kernel_rfl
theorem cells_two_new (w:World) (x y:Value) (t:TypeId):∀ j u,[x,y][j]? = some u -> (w.alloc (.cells #[x,y] t)).cell? ((⟨w.heap.size,0,none⟩:Addr).add j)=some u:=by
 intro j u hj
 have h:(w.alloc (.cells #[x,y] t)).heap[w.heap.size]? = some (.cells #[x,y] t (0,0)):=heap_alloc_new w _
 rw [show (⟨w.heap.size,0,none⟩:Addr).add j=⟨w.heap.size,j,none⟩ by rw [Go.WideShapes.add_plain,Nat.zero_add],Lib.cell_of_heap h]
 match j,hj with
 | 0,hj=>simpa using hj
 | 1,hj=>simpa using hj
 | j + 2,hj=>simp at hj
theorem push_pair {ops:Array Oper} {rest:List Oper} {o:Oper} {a:Act} {Q:Exit -> Act -> World -> Prop} (wr:World) {base:Nat} {v:Value} {n:Nat} {xs:List Value} (hown:wr.ownsRow base 192 2 v n xs) (s x:Operand)
  (p q:ByteArray) (hgd:o.guard=none)
  (ho:o.op = .call { callee := .builtin .append,args := #[s,x],argTypes := #[147,147] })
  (hs:a.eval s=v) (hx:a.eval x = .slice (some ⟨wr.heap.size,0,none⟩) 1 1) (hn:n + 1 <= 1000000000) (hbase:base <= wr.heap.size)
  (h:∀ v' w',w'.ownsRow base 192 2 v' (n + 1) (xs ++ [.string p, .string q]) -> Below base wr w' -> wpList Tryz.prog ops Q rest (a.put o.dst v') w') :
  wpList Tryz.prog ops Q (o :: rest) a (wr.alloc (.cells #[.string p, .string q] 192)):=by
 obtain ⟨i0,hi,hz0,hz1,hz2⟩:=info_parts info_pair
 refine wpList_append_own _ hgd s x 147 ho base 192 i0 (.agg #[.string ⟨#[]⟩, .string ⟨#[]⟩]) 2 32 Tryz.underlying147 hi hz0 hz1 hz2 rfl (by decide) v n xs hs (hown.alloc _) ⟨wr.heap.size,0,none⟩ 1 1 [.string p, .string q] hx rfl
  (cells_two_new _ _ _ _) (by intro u hu; simp at hu; rcases hu with rfl | rfl <;> rfl) (by unfold maxLen; omega) (by omega) (by simp; omega) ?_
 intro v' w' h1 h2 _
 refine h v' w' h1 ?_
 exact ((Below.refl base wr).alloc hbase _).grown h2 (by simp; omega) (fun k hk=>(hown.lt k hk).1)
theorem own_below {w w':World} {base:Nat} {e:TypeId} {size:Nat} {v:Value} {n:Nat} {xs:List Value} (h:w.ownsRow base e size v n xs) (hb:Below w.heap.size w w'):w'.ownsRow base e size v n xs:=
 h.kept (row:=none) ⟨hb.os,hb.tape,hb.output,hb.size,fun k hk _=>hb.block k hk⟩ (by
  cases h:v.ownBlock
  ·exact .inl rfl
  ·exact .inr (by simp))
theorem pcells_at:∀ (l:List Pr) (j:Nat),j < l.length -> (pcells l)[j * 2]? = some (.string (prAt l j).1) /\ (pcells l)[j * 2 + 1]? = some (.string (prAt l j).2)
 | [],j,h=>by simp at h
 | p :: r,0,h=>⟨rfl,rfl⟩
 | p :: r,j + 1,h=>by
  have ih:=pcells_at r j (by simp at h; omega)
  have e1:(j + 1) * 2=j * 2 + 2:=by omega
  rw [e1]
  exact ih
theorem pairs_own {w:World} {base n:Nat} {v:Value} {l:List Pr} (h:w.ownsRow base 192 2 v n (pcells l)) (hn:l.length=n):∃ ao cap,v = .slice ao n cap /\ PairsAt w ao n cap l:=by
 have h0:=h
 rcases h.2 with ⟨rfl,rfl⟩ | ⟨g,cap,cur,rfl,hb,hg,hc,hm,hcs,ht⟩
 ·exact ⟨none,0,rfl,hn,Nat.le_refl _,by unfold maxLen; omega,fun h=>absurd h (Nat.lt_irrefl _)⟩
 ·refine ⟨_,cap,rfl,hn,hc,hm,fun h1=>⟨g,0,rfl, ?_,fun j hj => ?_⟩⟩
  ·rcases Nat.lt_or_ge g w.heap.size with h' | h'
   ·exact h'
   ·simp [Array.getElem?_eq_none h'] at hg
  ·obtain ⟨p1,p2⟩:=pcells_at l j hj
   have h1:=h0.cells (g:=g) rfl _ _ p1
   have h2:=h0.cells (g:=g) rfl _ _ p2
   rw [Go.WideShapes.add_plain] at h1 h2
   exact ⟨h1,by rw [Nat.add_assoc]; exact h2⟩
def boolN:Value -> Nat
 | .bool true=>1
 | _=>0
theorem PairsAt.tail {w:World} {g off n cap:Nat} {l:List Pr} (h:PairsAt w (some ⟨g,off,none⟩) n cap l) (k:Nat) (hk:k <= n):PairsAt w (some ⟨g,off + k * 2,none⟩) (n - k) (cap - k) (l.drop k):=by
 obtain ⟨h1,h2,h3,h4⟩:=h
 refine ⟨by rw [List.length_drop,h1],by omega,by omega,fun hn=>⟨g,off + k * 2,rfl, ?_⟩⟩
 obtain ⟨b,o,e,hp⟩:=h4 (by omega)
 cases e
 refine ⟨hp.1,fun j hj => ?_⟩
 rw [List.length_drop] at hj
 have:=hp.2 (k + j) (by omega)
 have e1:prAt (l.drop k) j=prAt l (k + j):=by unfold prAt; rw [List.getD_eq_getElem?_getD,List.getD_eq_getElem?_getD,List.getElem?_drop]
 rw [e1,show off + k * 2 + j * 2=off + (k + j) * 2 by omega]
 exact this
theorem PairsAt.head {w:World} {ao:Option Addr} {n cap:Nat} {l:List Pr} (h:PairsAt w ao n cap l) (k:Nat) (hk:k <= n) (c:Nat) (hc:k <= c) (hc2:c <= cap):PairsAt w ao k c (l.take k):=by
 obtain ⟨h1,h2,h3,h4⟩:=h
 refine ⟨by rw [List.length_take]; omega,hc,by omega,fun hn => ?_⟩
 obtain ⟨b,o,e,hp⟩:=h4 (by omega)
 refine ⟨b,o,e,hp.1,fun j hj => ?_⟩
 rw [List.length_take] at hj
 have e1:prAt (l.take k) j=prAt l j:=by unfold prAt; rw [List.getD_eq_getElem?_getD,List.getD_eq_getElem?_getD,List.getElem?_take,if_pos (by omega)]
 rw [e1]
 exact hp.2 j (by omega)
theorem own_slice {w:World} {base n size:Nat} {e:TypeId} {v:Value} {xs:List Value} (h:w.ownsRow base e size v n xs):∃ ao cap,v = .slice ao n cap:=by
 rcases h.2 with ⟨rfl,rfl⟩ | ⟨g,cap,cur,rfl,_⟩
 ·exact ⟨none,0,rfl⟩
 ·exact ⟨_,cap,rfl⟩
def PAt (s u:ByteArray) (done:List ByteArray) (more:Bool):Prop:=firstE done=0 /\ piecesS s=done ++ (if more then (pieces 44 u.data.toList).map ofB else [])
theorem pAt_start (s:ByteArray) {m:Bool} (h:m = !(s.toList.isEmpty)):PAt s s [] m:=by
 refine ⟨rfl, ?_⟩
 rw [Lib.toList_data] at h
 unfold piecesS
 cases e:s.data.toList with
 | nil=>rw [e] at h; rw [if_pos (by rw [Lib.size_eq,e]; rfl),h]; rfl
 | cons a l=>rw [e] at h; rw [if_neg (by rw [Lib.size_eq,e]; simp),h]; rfl
theorem pieces_u (u:ByteArray):(pieces 44 u.data.toList).map ofB=cutA 44 u :: (if cutF 44 u then (pieces 44 (cutZ 44 u).data.toList).map ofB else []):=by
 rw [pieces_cut,List.map_cons, <- Lib.size_eq]
 unfold cutF cutZ
 by_cases h:nextP 44 u.data.toList < u.size
 ·rw [if_pos h,decide_eq_true h,if_pos rfl,if_pos h]; rfl
 ·rw [if_neg h,decide_eq_false h,if_neg (by decide)]; rfl
theorem pAt_err {s u:ByteArray} {done:List ByteArray} (h:PAt s u done true) (he:compE (cutA 44 u) ≠ 0):parseE s=compE (cutA 44 u) /\ parseV s = []:=by
 obtain ⟨h1,h2⟩:=h
 rw [if_pos rfl,pieces_u] at h2
 have h3:firstE (piecesS s)=compE (cutA 44 u):=by
  rw [h2,firstE_app _ _ h1]; unfold firstE; rw [if_neg he]
 have h4:parseE s=compE (cutA 44 u):=by unfold parseE; rw [h3,if_neg he]
 exact ⟨h4,by unfold parseV; rw [h4,if_neg he]⟩
theorem pAt_next {s u:ByteArray} {done:List ByteArray} (h:PAt s u done true) (he:compE (cutA 44 u)=0):PAt s (cutZ 44 u) (done ++ [cutA 44 u]) (cutF 44 u):=by
 obtain ⟨h1,h2⟩:=h
 refine ⟨?_, ?_⟩
 ·rw [firstE_app _ _ h1]; unfold firstE; rw [if_pos he]; rfl
 ·rw [h2,if_pos rfl,pieces_u]; simp
theorem pAt_end {s u:ByteArray} {done:List ByteArray} (h:PAt s u done false):(done.length <= 8 -> parseE s=0 /\ parseV s=done.map compV) /\ (8 < done.length -> parseE s=3 /\ parseV s = []):=by
 obtain ⟨h1,h2⟩:=h
 rw [if_neg (by decide),List.append_nil] at h2
 refine ⟨fun hl => ?_,fun hl => ?_⟩
 ·have h3:parseE s=0:=by unfold parseE; rw [h2,if_pos h1,if_neg (by omega)]
  exact ⟨h3,by unfold parseV; rw [if_pos h3,h2]⟩
 ·have h3:parseE s=3:=by unfold parseE; rw [h2,if_pos h1,if_pos hl]
  exact ⟨h3,by unfold parseV; rw [h3]; rfl⟩
theorem cutZ_less {u:ByteArray} (h:cutF 44 u=true):(cutZ 44 u).size + 1 <= u.size:=by
 have h1:=of_decide_eq_true h
 unfold cutZ; rw [if_pos h1,dr_size]; omega
theorem compR_ok {p:ByteArray} (h:compE p=0):compR p=compV p:=by unfold compR; rw [if_pos h]
theorem cutA_nocut (u:ByteArray):nocut 44 (cutA 44 u).data.toList:=nocut_take 44 (by decide) u.data.toList
def ParsePost (s:ByteArray) (w:World) (e:Ending) (w':World):Prop:=
 ∃ v,e = .returned (.tuple #[v, .int .i64 (parseE s)]) /\ w'.ownsRow w.heap.size 192 2 v (parseV s).length (pcells (parseV s)) /\ Below w.heap.size w w'
set_option maxRecDepth 100000 in
set_option maxHeartbeats 4000000 in
theorem parse_s (s:ByteArray) (w:World) (hs:s.size <= 1100000) :
  Calls Tryz.prog 131 #[.string s] w (ParsePost s w):=by
 obtain ⟨m0,hm0⟩:∃ m:Bool,m = !(s.toList.isEmpty):=⟨_,rfl⟩
 have HM:=Lib.hid (pAt_start s hm0)
 have hm1:(!(s.toList.isEmpty))=m0:=hm0.symm
 clear hm0
 go_enter Tryz.func131,Tryz.ntmps131
 go_wp2
 go_loopw [0,4,5] (fun sv lv mv wr=>∃ (u:ByteArray) (done:List ByteArray) (more:Bool),sv = .string u /\ mv = .bool more /\ u.size <= s.size /\
   wr.ownsRow w.heap.size 192 2 lv ((done.map compV).take 9).length (pcells ((done.map compV).take 9)) /\ Below w.heap.size w wr /\ Hid (PAt s u done more))
  (fun sv _ mv _=>Lib.strSize sv + boolN mv)
 case atStart=>exact ⟨s,[],m0,rfl,rfl,Nat.le_refl _,World.ownsRow_nil _ _ _ _,Below.refl _ _,HM⟩
 case round =>
  obtain ⟨u,done,more,rfl,rfl,hu,hown,hbel,HP⟩:=hrel
  obtain ⟨out,hout⟩:∃ out,out=(done.map compV).take 9:=⟨_,rfl⟩
  rw [<- hout] at hown
  have hol:min 9 done.length=out.length:=by rw [hout,List.length_take,List.length_map]
  have HO:=Lib.hid hout; clear hout
  obtain ⟨ao,cap,rfl⟩:=own_slice hown
  cases more
  ·by_cases h8:done.length <= 8
   ·have HF:=Lib.hid ((pAt_end HP.out).1 h8)
    have hd:decide ((8:Int) < (out.length:Int))=false:=decide_eq_false (by omega)
    have HO2:=Lib.hid (show parseV s=out by rw [HF.out.2,HO.out,List.take_of_length_le (by rw [List.length_map]; omega)])
    go_wp2
    go_ret2
    exact ⟨_,by rw [HF.out.1]; rfl,by rw [HO2.out]; exact hown,hbel⟩
   ·have HF:=Lib.hid ((pAt_end HP.out).2 (by omega))
    have hd:decide ((8:Int) < (out.length:Int))=true:=decide_eq_true (by omega)
    go_wp2
    go_ret2
    exact ⟨_,by rw [HF.out.1]; rfl,by rw [HF.out.2]; exact World.ownsRow_nil _ _ _ _,hbel⟩
  ·have hz1:=cutA_size 44 u
   have hz2:=cutZ_size 44 u
   have HN:=Lib.hid (cutA_nocut u)
   go_wp2_with fail
   refine (cut_s u 44 44 _ (by omega) rfl).mono ?_
   rintro e w1 ⟨rfl,hb1⟩
   have L1:=hbel.trans (hb1.mono hbel.size)
   have O1:=own_below hown hb1
   go_wp2_with fail
   refine (component_s (cutA 44 u) _ (by omega) HN.out).mono ?_
   rintro e w2 ⟨rfl,hb2⟩
   have L2:=L1.trans (hb2.mono L1.size)
   have O2:=own_below O1 hb2
   by_cases hE:compE (cutA 44 u)=0
   ·have HNX:=Lib.hid (pAt_next HP.out hE)
    have hR:=compR_ok hE
    rw [hE,hR]
    obtain ⟨⟨x,y⟩,hxy⟩:∃ p,p=compV (cutA 44 u):=⟨_,rfl⟩
    rw [<- hxy]
    have HXY:=Lib.hid hxy
    have HLZ:=Lib.hid (fun h=>cutZ_less (u:=u) h)
    clear hxy hR hE
    have hbx:=pbox_new w2 (x,y)
    have hbl:=below_new (w:=w2) (.cells #[.string x, .string y] 192)
    have O3:=own_below O2 hbl
    have L3:=L2.trans (hbl.mono L2.size)
    obtain ⟨c0,c1⟩:=hbx.cells
    by_cases h9:done.length <= 8
    ·have hd:decide ((out.length:Int) <= 8)=true:=decide_eq_true (by omega)
     have hcells:pcells (out ++ [(x,y)])=pcells out ++ [.string x, .string y]:=pcells_append _ _
     have HON:=Lib.hid (show ((done ++ [cutA 44 u]).map compV).take 9=out ++ [(x,y)] by
      rw [HO.out,HXY.out,List.map_append,List.take_of_length_le (by simp; omega),List.take_of_length_le (by simp; omega)]; rfl)
     go_wp2_with (at_builtin; go_must (refine push_pair _ O3 (.tmp 29) (.tmp 31) _ _ ?_ ?_ ?_ ?_ ?_ ?_ ?_; exact rfl; exact rfl; exact rfl; (rw [World.size_alloc]; exact rfl); omega; exact L3.size; intro v3 w3 hown3 hb3))
     go_roundw
     case rel=>exact ⟨cutZ 44 u,done ++ [cutA 44 u],cutF 44 u,rfl,rfl,by omega,by rw [HON.out,hcells,List.length_append]; exact hown3,L3.trans hb3,HNX⟩
     case measure =>
      rw [Lib.strSize_string,Lib.strSize_string]
      cases hc:cutF 44 u
      ·simp [boolN]; omega
      ·have:=HLZ.out hc; simp [boolN]; omega
    ·have hd:decide ((out.length:Int) <= 8)=false:=decide_eq_false (by omega)
     have HON:=Lib.hid (show ((done ++ [cutA 44 u]).map compV).take 9=out by
      rw [HO.out,List.map_append,List.take_append_of_le_length (by simp; omega)])
     go_wp2
     go_roundw
     case rel=>exact ⟨cutZ 44 u,done ++ [cutA 44 u],cutF 44 u,rfl,rfl,by omega,by rw [HON.out]; exact O3,L3,HNX⟩
     case measure =>
      rw [Lib.strSize_string,Lib.strSize_string]
      cases hc:cutF 44 u
      ·simp [boolN]; omega
      ·have:=HLZ.out hc; simp [boolN]; omega
   ·have HF:=Lib.hid (pAt_err HP.out hE)
    have q0:(compE (cutA 44 u) != 0)=true:=by simpa using hE
    clear hE
    generalize compE (cutA 44 u)=k at q0 HF ⊢
    generalize compR (cutA 44 u)=r
    go_wp2
    go_ret2
    exact ⟨_,by rw [HF.out.1]; rfl,by rw [HF.out.2]; exact World.ownsRow_nil _ _ _ _,L2.trans ((below_new _).mono L2.size)⟩
def TKeep (w w':World):Prop := ∀ (X:Nat) (cs:Array Value) (m:Nat × Nat),w.heap[X]? = some (.cells cs 192 m) -> w'.heap[X]? = w.heap[X]?
theorem TKeep.refl (w:World):TKeep w w:=fun _ _ _ _=>rfl
theorem TKeep.trans {a b c:World} (h:TKeep a b) (k:TKeep b c):TKeep a c:=fun X cs m e=>by
 have h1:=h X cs m e
 rw [k X cs m (by rw [h1]; exact e),h1]
theorem TKeep.below {w w':World} (h:Below w.heap.size w w'):TKeep w w':=fun X cs m e=>by
 refine h.block X ?_
 rcases Nat.lt_or_ge X w.heap.size with h' | h'
 ·exact h'
 ·simp [Array.getElem?_eq_none h'] at e
theorem TKeep.box {w w':World} {b:Nat} {p:Pr} (h:TKeep w w') (hb:PBox w b p):PBox w' b p:=by
 unfold PBox at *
 rw [h _ _ _ hb]; exact hb
theorem TKeep.setCell {w wx:World} (h:TKeep w wx) {b:Nat} {cs:Array Value} {m:Nat × Nat} (hb:wx.heap[b]? = some (.cells cs 79 m)) (j:Nat) (v:Value):TKeep w (wx.setCell ⟨b,j,none⟩ v):=fun X cs2 m2 e=>by
 have h1:=h X cs2 m2 e
 have hne:X ≠ b:=fun e2=>by
  rw [e2] at h1 e
  rw [h1,e] at hb
  have:=Option.some.inj hb
  have h3:192=79:=by injection this
  exact absurd h3 (by decide)
 rw [Below.heap_setCell _ _ _ _ hne,h1]
theorem TKeep.grown {w wx w':World} (h:TKeep w wx) {v:Value} {B n:Nat} {xs:List Value} (hown:wx.ownsRow B 5 1 v n xs) (hg:wx.grownBy w' v.ownBlock):TKeep w w':=fun X cs m e=>by
 have h1:=h X cs m e
 have h2:wx.heap[X]? = some (.cells cs 192 m):=by rw [h1]; exact e
 have hlt:X < wx.heap.size:=by
  rcases Nat.lt_or_ge X wx.heap.size with h' | h'
  ·exact h'
  ·simp [Array.getElem?_eq_none h'] at h2
 rw [hg.block X hlt (fun e2=>Lib.ownBlock_ne hown h2 (by decide) e2.symm),h1]
theorem check_any_k (B b:Nat) (bs:List Value) (w:World) (h:Lib.IsBuilder 79 5 B b bs w) :
  Calls Tryz.prog 115 #[.pointer (some ⟨b,0,none⟩)] w fun e w'=>e = .returned (.tuple #[]) /\ (Lib.BuilderAt 79 5 B b (.pointer (some ⟨b,0,none⟩)) bs w' /\ Below B w w') /\ TKeep w w':=by
 rcases h with h | h
 ·refine (check_fresh b w h.cell0 h.shape h.frozen0).mono ?_
  rintro e w' ⟨rfl,rfl⟩
  refine ⟨rfl,⟨h.used _,(Below.refl B w).setCell (p:=⟨b,0,none⟩) h.1 _⟩, ?_⟩
  obtain ⟨hB,v,hbk,_⟩:=h
  exact (TKeep.refl w).setCell hbk 0 _
 ·refine (check_used b w h.cell0).mono ?_
  rintro e w' ⟨rfl,rfl⟩
  exact ⟨rfl,⟨h,Below.refl B _⟩,TKeep.refl _⟩
set_option maxHeartbeats 2000000 in
set_option maxRecDepth 100000 in
theorem writeByte_k (B b:Nat) (bs:List Value) (c:Int) (w:World) (h:Lib.IsBuilder 79 5 B b bs w) (hlen:bs.length + 1 <= 140737488355328) (hBw:B <= w.heap.size) :
  Calls Tryz.prog 199 #[.pointer (some ⟨b,0,none⟩), .int .u8 c] w fun e w'=>e = .returned .nilIface /\ (Lib.BuilderAt 79 5 B b (.pointer (some ⟨b,0,none⟩)) (bs ++ [.int .u8 c]) w' /\ Below B w w') /\ TKeep w w':=by
 go_enter Tryz.func199,Tryz.ntmps199
 go_wp2_with (go_at_call 115; refine (check_any_k B b bs _ h).mono ?_)
 rintro e w1 ⟨rfl,⟨h1,hb1⟩,hk1⟩
 obtain ⟨hB,v,hbk,hown,hne⟩:=h1
 have c1:w1.cell? ⟨b,1,none⟩=some v:=by rw [Lib.cell_of_heap hbk]; rfl
 have HZ:=hb1.size
 go_wp2_with (at_builtin; refine push_byte_g w1 hown (.tmp 11) (.tmp 13) _ ?_ ?_ ?_ ?_ ?_ ?_ ?_; exact rfl; exact rfl; exact rfl; exact rfl; omega; omega)
 intro v' w2 hown' hgrow
 have hk2:TKeep w w2:=(hk1.trans (TKeep.below (below_new _))).grown (hown.alloc _) hgrow
 have hlt:b < w1.heap.size:=by
  rcases Nat.lt_or_ge b w1.heap.size with h' | h'
  ·exact h'
  ·simp [Array.getElem?_eq_none h'] at hbk
 have hb2:w2.heap[b]? = some (.cells #[.pointer (some ⟨b,0,none⟩),v] 79 (0,0)):=by
  rw [hgrow.block b (by simp; omega) (fun e=>hne e.symm),Lib.alloc_old w1 _ b hlt]
  exact hbk
 have d1:w2.cell? ⟨b,1,none⟩=some v:=by rw [Lib.cell_of_heap hb2]; rfl
 have f1:w2.frozen? ⟨b,1,none⟩=false:=Lib.frozen_of_heap hb2 1
 obtain ⟨g,cap,rfl⟩:∃ g cap,v' = .slice (some ⟨g,0,none⟩) (bs.length + 1) cap:=by
  rcases hown'.2 with ⟨_,h0⟩ | ⟨g,cap,cur,hv,_⟩
  ·omega
  ·exact ⟨g,cap,hv⟩
 go_wp2
 go_ret
 refine ⟨rfl,⟨?_, ?_⟩,hk2.setCell hb2 1 _⟩
 ·exact Lib.BuilderAt.put (T:=79) (e:=5) hB hb2 (bs':=bs ++ [.int .u8 c]) (by simpa using hown') (by decide)
 ·exact ((hb1.alloc (by omega) _).grown hgrow (by simp; omega) (fun k hk=>(hown.lt k hk).1)).setCell (p:=⟨b,1,none⟩) hB _
theorem writeByte_t (B b:Nat) (l:List UInt8) (c:UInt8) (x:Int) (w:World) (h:Bld B b l w) (hx:x=(c.toNat:Int)) (hlen:l.length <= 100000000000) (hBw:B <= w.heap.size) :
  Calls Tryz.prog 199 #[.pointer (some ⟨b,0,none⟩), .int .u8 x] w fun e w'=>e = .returned .nilIface /\ Bld B b (l ++ [c]) w' /\ Below B w w' /\ TKeep w w':=by
 subst hx
 refine (writeByte_k B b (bcells l) c.toNat w h (by rw [bcells_length]; omega) hBw).mono fun e w' h=>⟨h.1, ?_,h.2.1.2,h.2.2⟩
 unfold Bld
 rw [bcells_append]
 exact .inr h.2.1.1
set_option maxHeartbeats 2000000 in
set_option maxRecDepth 100000 in
theorem writeString_k (B b:Nat) (bs:List Value) (s:ByteArray) (w:World) (h:Lib.IsBuilder 79 5 B b bs w) (hlen:bs.length + s.size <= 140737488355328) (hBw:B <= w.heap.size) :
  Calls Tryz.prog 55 #[.pointer (some ⟨b,0,none⟩), .string s] w fun e w'=>e = .returned (.tuple #[.int .i64 s.size, .nilIface]) /\ (Lib.BuilderAt 79 5 B b (.pointer (some ⟨b,0,none⟩)) (bs ++ Lib.strCells s) w' /\ Below B w w') /\ TKeep w w':=by
 obtain ⟨i0,hi,hz0,hz1,hz2⟩:=info_parts info5
 go_enter Tryz.func55,Tryz.ntmps55
 go_wp2_with (go_at_call 115; refine (check_any_k B b bs _ h).mono ?_)
 rintro e w1 ⟨rfl,⟨h1,hb1⟩,hk1⟩
 obtain ⟨hB,v,hbk,hown,hne⟩:=h1
 have c1:w1.cell? ⟨b,1,none⟩=some v:=by rw [Lib.cell_of_heap hbk]; rfl
 have HZ:=hb1.size
 have hlt:b < w1.heap.size:=by
  rcases Nat.lt_or_ge b w1.heap.size with h' | h'
  ·exact h'
  ·simp [Array.getElem?_eq_none h'] at hbk
 go_wp2_with (at_builtin; refine Lib.wpList_append_own_string w1 ?_ (.tmp 12) (.tmp 13) 77 9 ?_ B 5 i0 Tryz.underlying77 Tryz.underlying9 hi hz0 hz1 hz2 v bs.length bs ?_ hown s ?_ ?_ ?_ ?_ ?_; exact rfl; exact rfl; exact rfl; exact rfl; (unfold maxLen; omega); omega; omega)
 intro v' w2 hown' hgrow hnil
 have hk2:TKeep w w2:=hk1.grown hown hgrow
 have hb2:w2.heap[b]? = some (.cells #[.pointer (some ⟨b,0,none⟩),v] 79 (0,0)):=by
  rw [hgrow.block b hlt (fun e=>hne e.symm)]
  exact hbk
 have d1:w2.cell? ⟨b,1,none⟩=some v:=by rw [Lib.cell_of_heap hb2]; rfl
 have f1:w2.frozen? ⟨b,1,none⟩=false:=Lib.frozen_of_heap hb2 1
 have hlen':(bs ++ Lib.strCells s).length=bs.length + s.size:=by simp [Lib.strCells_length]
 have hbel:Below B w w2:=hb1.grown hgrow (by omega) (fun k hk=>(hown.lt k hk).1)
 have hcase:v' = .slice none 0 0 ∨ ∃ g n cap,v' = .slice (some ⟨g,0,none⟩) n cap:=by
  rcases hown'.2 with ⟨h,h0⟩ | ⟨g,cap,cur,hv,_⟩
  ·exact .inl h
  ·exact .inr ⟨g,_,cap,hv⟩
 rcases hcase with rfl | ⟨g,n,cap,rfl⟩
 ·go_wp2
  go_ret2
  refine ⟨rfl,⟨?_,hbel.setCell (p:=⟨b,1,none⟩) hB _⟩,hk2.setCell hb2 1 _⟩
  exact Lib.BuilderAt.put (T:=79) (e:=5) hB hb2 (bs':=bs ++ Lib.strCells s) (by rw [hlen']; exact hown') (by decide)
 ·go_wp2
  go_ret2
  refine ⟨rfl,⟨?_,hbel.setCell (p:=⟨b,1,none⟩) hB _⟩,hk2.setCell hb2 1 _⟩
  exact Lib.BuilderAt.put (T:=79) (e:=5) hB hb2 (bs':=bs ++ Lib.strCells s) (by rw [hlen']; exact hown') (by decide)
theorem writeString_t (B b:Nat) (l:List UInt8) (s:ByteArray) (w:World) (h:Bld B b l w) (hlen:l.length + s.size <= 100000000000) (hBw:B <= w.heap.size) :
  Calls Tryz.prog 55 #[.pointer (some ⟨b,0,none⟩), .string s] w fun e w'=>e = .returned (.tuple #[.int .i64 s.size, .nilIface]) /\ Bld B b (l ++ s.data.toList) w' /\ Below B w w' /\ TKeep w w':=by
 refine (writeString_k B b (bcells l) s w h (by rw [bcells_length]; omega) hBw).mono fun e w' h=>⟨h.1, ?_,h.2.1.2,h.2.2⟩
 unfold Bld
 rw [bcells_append, <- strCells_b]
 exact .inr h.2.1.1
end Nam
end Go.Proofs.YtmmdaegdkikkpaaGreatDoor
end
