/-
  Plain functions for distinguished names: what Parse, Format, Clean and the pieces of them return; that a normal form is read back; that upper and lower case does not matter. No condition.
-/
import Derived.Test.YtdjhhofmlefaaaaDoorNamL
import Derived.Test.YtdjhhofmlefaaaaDoorCodecA
import Derived.Test.YtdjhhofmlefaaaaDoorFoldG
set_option linter.unusedVariables false
set_option linter.unusedSimpArgs false
set_option linter.unnecessarySimpa false
namespace Go.Proofs.YtdjhhofmlefaaaaDoor
open Go.PlainAid

abbrev Pr := ByteArray × ByteArray
def ofB (l : List UInt8) : ByteArray := ⟨l.toArray⟩
theorem ofB_data (l : List UInt8) : (ofB l).data.toList = l := rfl
theorem data_ofB (s : ByteArray) : ofB s.data.toList = s := Lib.mk_data s
theorem ofB_size (l : List UInt8) : (ofB l).size = l.length := by rw [Lib.size_eq]; rfl

/-! ### a component -/
def rawK (p : ByteArray) : ByteArray := trimS (tk p (nextP 61 p.data.toList))
def rawV (p : ByteArray) : ByteArray := trimS (dr p (nextP 61 p.data.toList + 1))
def prE (p : Pr) : Int := if nameB p.1 = false then 5 else if cleanB p.2 = false then 8 else 0
def compE (p : ByteArray) : Int := if nextP 61 p.data.toList < p.size then (match valP (rawV p).data.toList with
  | some v => prE (rawK p, ofB v)
  | none => 4) else 4
def compV (p : ByteArray) : Pr := (rawK p, ofB ((valP (rawV p).data.toList).getD []))
def nilPr : Pr := (ByteArray.empty, ByteArray.empty)
/-- what 'component' returns -/
def compR (p : ByteArray) : Pr := if compE p = 0 then compV p else nilPr
theorem compE_ok {p : ByteArray} (h : compE p = 0) : nextP 61 p.data.toList < p.size ∧ valP (rawV p).data.toList = some (compV p).2.data.toList ∧ prE (compV p) = 0 := by
  unfold compE at h
  by_cases h1 : nextP 61 p.data.toList < p.size
  · rw [if_pos h1] at h
    cases e : valP (rawV p).data.toList with
    | none => rw [e] at h; simp at h
    | some v =>
      rw [e] at h
      unfold compV
      rw [e]
      exact ⟨h1, rfl, h⟩
  · rw [if_neg h1] at h; simp at h

/-! ### Parse -/
def firstE : List ByteArray → Int
  | [] => 0
  | p :: r => if compE p = 0 then firstE r else compE p
def piecesS (s : ByteArray) : List ByteArray := if s.size = 0 then [] else (pieces 44 s.data.toList).map ofB
def parseE (s : ByteArray) : Int := if firstE (piecesS s) = 0 then (if 8 < (piecesS s).length then 3 else 0) else firstE (piecesS s)
def parseV (s : ByteArray) : List Pr := if parseE s = 0 then (piecesS s).map compV else []
theorem firstE_app (a b : List ByteArray) (h : firstE a = 0) : firstE (a ++ b) = firstE b := by
  induction a with
  | nil => rfl
  | cons p r ih =>
    unfold firstE at h
    by_cases hp : compE p = 0
    · rw [if_pos hp] at h
      show (if compE p = 0 then firstE (r ++ b) else compE p) = _
      rw [if_pos hp, ih h]
    · rw [if_neg hp] at h; exact absurd h hp
theorem firstE_all {l : List ByteArray} (h : firstE l = 0) : ∀ p ∈ l, compE p = 0 := by
  induction l with
  | nil => intro p hp; cases hp
  | cons q r ih =>
    unfold firstE at h
    by_cases hq : compE q = 0
    · rw [if_pos hq] at h
      intro p hp
      rcases List.mem_cons.1 hp with rfl | hp
      · exact hq
      · exact ih h p hp
    · rw [if_neg hq] at h; exact absurd h hq
theorem firstE_zero {l : List ByteArray} (h : ∀ p ∈ l, compE p = 0) : firstE l = 0 := by
  induction l with
  | nil => rfl
  | cons q r ih => unfold firstE; rw [if_pos (h q (by simp)), ih (fun p hp => h p (by simp [hp]))]
theorem piecesS_cut (s : ByteArray) (h : s.size ≠ 0) :
    piecesS s = tk s (nextP 44 s.data.toList) :: (if nextP 44 s.data.toList < s.size then (pieces 44 (dr s (nextP 44 s.data.toList + 1)).data.toList).map ofB else []) := by
  unfold piecesS
  rw [if_neg h, pieces_cut, List.map_cons, ← Lib.size_eq]
  congr 1
  split <;> rfl

/-! ### Format -/
def fmtC (p : Pr) : List UInt8 := (lowS p.1).data.toList ++ 61 :: escV (foldS p.2).data.toList
def barC : List (List UInt8) → List UInt8
  | [] => []
  | [p] => p
  | p :: q :: r => p ++ 44 :: barC (q :: r)
def fmtFirst : List Pr → Int
  | [] => 0
  | p :: r => if prE p = 0 then fmtFirst r else prE p
def fmtE (l : List Pr) : Int := if fmtFirst l = 0 then (if 8 < l.length then 3 else 0) else fmtFirst l
def fmtV (l : List Pr) : ByteArray := if fmtE l = 0 then ofB (barC (l.map fmtC)) else ByteArray.empty
theorem barC_snoc (p : List UInt8) : ∀ l : List (List UInt8), l ≠ [] → barC (l ++ [p]) = barC l ++ 44 :: p
  | [], h => absurd rfl h
  | [q], _ => rfl
  | q :: r :: t, _ => by
    have ih := barC_snoc p (r :: t) (by simp)
    show q ++ 44 :: barC (r :: t ++ [p]) = (q ++ 44 :: barC (r :: t)) ++ 44 :: p
    rw [ih]; simp
theorem fmtFirst_all {l : List Pr} (h : fmtFirst l = 0) : ∀ p ∈ l, prE p = 0 := by
  induction l with
  | nil => intro p hp; cases hp
  | cons q r ih =>
    unfold fmtFirst at h
    by_cases hq : prE q = 0
    · rw [if_pos hq] at h
      intro p hp
      rcases List.mem_cons.1 hp with rfl | hp
      · exact hq
      · exact ih h p hp
    · rw [if_neg hq] at h; exact absurd h hq
theorem fmtFirst_zero {l : List Pr} (h : ∀ p ∈ l, prE p = 0) : fmtFirst l = 0 := by
  induction l with
  | nil => rfl
  | cons q r ih => unfold fmtFirst; rw [if_pos (h q (by simp)), ih (fun p hp => h p (by simp [hp]))]
theorem fmtE_ok {l : List Pr} (h : fmtE l = 0) : (∀ p ∈ l, prE p = 0) ∧ l.length ≤ 8 := by
  unfold fmtE at h
  by_cases h1 : fmtFirst l = 0
  · rw [if_pos h1] at h
    by_cases h2 : 8 < l.length
    · rw [if_pos h2] at h; cases h
    · exact ⟨fmtFirst_all h1, by omega⟩
  · rw [if_neg h1] at h; exact absurd h h1
theorem fmtE_zero {l : List Pr} (h1 : ∀ p ∈ l, prE p = 0) (h2 : l.length ≤ 8) : fmtE l = 0 := by
  unfold fmtE; rw [if_pos (fmtFirst_zero h1), if_neg (by omega)]
theorem parseE_ok {s : ByteArray} (h : parseE s = 0) : (∀ p ∈ piecesS s, compE p = 0) ∧ (piecesS s).length ≤ 8 := by
  unfold parseE at h
  by_cases h1 : firstE (piecesS s) = 0
  · rw [if_pos h1] at h
    by_cases h2 : 8 < (piecesS s).length
    · rw [if_pos h2] at h; cases h
    · exact ⟨firstE_all h1, by omega⟩
  · rw [if_neg h1] at h; exact absurd h h1
theorem parseV_ok {s : ByteArray} (h : parseE s = 0) : (∀ p ∈ parseV s, prE p = 0) ∧ (parseV s).length ≤ 8 := by
  obtain ⟨h1, h2⟩ := parseE_ok h
  unfold parseV
  rw [if_pos h]
  refine ⟨fun p hp => ?_, by simpa using h2⟩
  obtain ⟨q, hq, rfl⟩ := List.mem_map.1 hp
  exact (compE_ok (h1 q hq)).2.2
theorem fmt_parse_ok {s : ByteArray} (h : parseE s = 0) : fmtE (parseV s) = 0 := fmtE_zero (parseV_ok h).1 (parseV_ok h).2

/-! ### Clean, Valid, the components of a normal form -/
def cleanE (s : ByteArray) : Int := if parseE s = 0 then fmtE (parseV s) else parseE s
def cleanV (s : ByteArray) : ByteArray := if parseE s = 0 then fmtV (parseV s) else ByteArray.empty
def normB (s : ByteArray) : Bool := decide (parseE s = 0) && decide (fmtV (parseV s) = s)
def compsV (s : ByteArray) : List Pr := if normB s then parseV s else []
/-- the pair in normal form -/
def canP (p : Pr) : Pr := (lowS p.1, foldS p.2)

theorem prE_zero (p : Pr) : prE p = 0 ↔ nameB p.1 = true ∧ cleanB p.2 = true := by
  unfold prE
  cases h1 : nameB p.1 <;> cases h2 : cleanB p.2 <;> simp
theorem mem_bt {s : ByteArray} {c : UInt8} (h : c ∈ s.data.toList) : ∃ j, j < s.size ∧ bt s j = (c.toNat : Int) := by
  obtain ⟨j, hj, rfl⟩ := List.getElem_of_mem h
  exact ⟨j, by rw [Lib.size_eq]; exact hj, bt_list s j _ (List.getElem?_eq_getElem hj)⟩
theorem bt_mem {s : ByteArray} {j : Nat} (h : j < s.size) : ∃ c, c ∈ s.data.toList ∧ bt s j = (c.toNat : Int) := by
  have hj : j < s.data.toList.length := by rw [← Lib.size_eq]; exact h
  exact ⟨_, List.getElem_mem hj, bt_list s j _ (List.getElem?_eq_getElem hj)⟩
theorem allB_list (p : Int → Bool) (s : ByteArray) : allB p s = s.data.toList.all fun c => p (c.toNat : Int) := by
  rw [Bool.eq_iff_iff, allB_iff, List.all_eq_true]
  constructor
  · intro h c hc
    obtain ⟨j, hj, e⟩ := mem_bt hc
    rw [← e]; exact h j hj
  · intro h j hj
    obtain ⟨c, hc, e⟩ := bt_mem hj
    rw [e]; exact h c hc
theorem bt_low (s : ByteArray) (j : Nat) : bt (lowS s) j = (if 65 ≤ bt s j ∧ bt s j ≤ 90 then bt s j + 32 else bt s j) := by
  by_cases h : j < s.size
  · obtain ⟨c, hc⟩ : ∃ c, s.data.toList[j]? = some c := ⟨_, List.getElem?_eq_getElem (by rw [← Lib.size_eq]; exact h)⟩
    have h2 : (lowS s).data.toList[j]? = some (lowB c) := by unfold lowS lowL; simp [hc]
    rw [bt_list _ _ _ h2, bt_list _ _ _ hc]
    by_cases hA : 65 ≤ (c.toNat : Int) ∧ (c.toNat : Int) ≤ 90
    · rw [if_pos hA, lowB_hit _ hA.1 hA.2]
    · rw [if_neg hA, lowB_miss _ hA]
  · rw [bt_end s (by omega), bt_end (lowS s) (by rw [lowS_size]; omega)]; rfl
theorem ltrI_low (x : Int) : ltrI (if 65 ≤ x ∧ x ≤ 90 then x + 32 else x) = ltrI x := by
  rw [Bool.eq_iff_iff]; unfold ltrI; simp only [Bool.or_eq_true, Bool.and_eq_true, decide_eq_true_eq]
  split <;> omega
theorem nameP_low (x : Int) : nameP (if 65 ≤ x ∧ x ≤ 90 then x + 32 else x) = nameP x := by
  unfold nameP
  rw [ltrI_low]
  by_cases h : 65 ≤ x ∧ x ≤ 90
  · rw [if_pos h]
    have : ltrI x = true := by unfold ltrI; simp; omega
    rw [this]; rfl
  · rw [if_neg h]
theorem cleanP_low (x : Int) : cleanP (if 65 ≤ x ∧ x ≤ 90 then x + 32 else x) = cleanP x := by
  rw [Bool.eq_iff_iff]; unfold cleanP; simp only [Bool.and_eq_true, decide_eq_true_eq]
  split <;> omega
theorem is32_low (x : Int) : ((if 65 ≤ x ∧ x ≤ 90 then x + 32 else x) == 32) = (x == 32) := by
  rw [Bool.eq_iff_iff]; simp only [beq_iff_eq]
  split <;> omega
theorem nameB_low (s : ByteArray) : nameB (lowS s) = nameB s := by
  unfold nameB
  rw [lowS_size, bt_low, ltrI_low]
  congr 1
  rw [Bool.eq_iff_iff, allB_iff, allB_iff, lowS_size]
  constructor <;> (intro h j hj; have := h j hj; rw [bt_low, nameP_low] at *; exact this)
theorem cleanB_low (s : ByteArray) : cleanB (lowS s) = cleanB s := by
  unfold cleanB
  rw [lowS_size, bt_low, is32_low, bt_low, is32_low]
  congr 1
  rw [Bool.eq_iff_iff, allB_iff, allB_iff, lowS_size]
  constructor <;> (intro h j hj; have := h j hj; rw [bt_low, cleanP_low] at *; exact this)
theorem prE_can {p : Pr} (h : prE p = 0) : prE (canP p) = 0 := by
  rw [prE_zero] at h ⊢
  exact ⟨by unfold canP; rw [nameB_low]; exact h.1, clean_fold _ h.2⟩
theorem canP_can (p : Pr) : canP (canP p) = canP p := by
  unfold canP; rw [lowS_low, foldS_fold]
theorem fmtC_can (p : Pr) : fmtC (canP p) = fmtC p := by
  unfold fmtC canP; rw [lowS_low, foldS_fold]
/-- a name's bytes -/
theorem name_bytes {s : ByteArray} (h : nameB s = true) : ∀ c ∈ s.data.toList, c ≠ 44 ∧ c ≠ 61 ∧ c ≠ 92 ∧ c ≠ 32 := by
  intro c hc
  unfold nameB at h
  simp only [Bool.and_eq_true] at h
  obtain ⟨j, hj, e⟩ := mem_bt hc
  have := allB_iff.1 h.2 j hj
  rw [e] at this
  refine ⟨?_, ?_, ?_, ?_⟩ <;> (intro e2; subst e2; exact absurd this (by decide))
theorem name_noSp {s : ByteArray} (h : nameB s = true) : noSp s.data.toList :=
  ⟨fun c hc => (name_bytes h c (List.mem_of_mem_head? hc)).2.2.2, fun c hc => (name_bytes h c (List.mem_of_mem_getLast? hc)).2.2.2⟩
theorem escV_ne {l : List UInt8} (h : l ≠ []) : escV l ≠ [] := by
  cases l with
  | nil => exact absurd rfl h
  | cons c r => show escB c ++ _ ≠ []; unfold escB; split <;> simp
theorem escV_last : ∀ (l : List UInt8) (c : UInt8), (escV l).getLast? = some c → l.getLast? = some c
  | [], c, h => by cases h
  | [x], c, h => by
    have e : escV [x] = escB x := by unfold escV; simp
    rw [e] at h
    unfold escB at h
    split at h <;> simpa using h
  | x :: y :: r, c, h => by
    have e : escV (x :: y :: r) = escB x ++ escV (y :: r) := rfl
    rw [e] at h
    have ih := escV_last (y :: r) c
    have hne := escV_ne (l := y :: r) (by simp)
    rw [List.getLast?_append] at h
    cases e2 : (escV (y :: r)).getLast? with
    | none => exact absurd (List.getLast?_eq_none_iff.1 e2) hne
    | some d =>
      rw [e2] at h ih
      rw [List.getLast?_cons_cons]
      exact ih (by simpa using h)
theorem escV_noSp {l : List UInt8} (h : noSp l) : noSp (escV l) := by
  refine ⟨fun c hc => ?_, fun c hc => h.2 c (escV_last l c hc)⟩
  cases l with
  | nil => cases hc
  | cons x r =>
    have e : escV (x :: r) = escB x ++ escV r := rfl
    rw [e] at hc
    unfold escB at hc
    split at hc
    · simp at hc; subst hc; decide
    · simp at hc; subst hc; exact h.1 x rfl
theorem clos_fmtC {p : Pr} (h : prE p = 0) : clos 44 (fmtC p) = true := by
  have hn := name_bytes (by rw [nameB_low]; exact ((prE_zero p).1 h).1 : nameB (lowS p.1) = true)
  unfold fmtC
  refine clos_app 44 _ ?_ _ (clos_plain 44 _ fun x hx => ⟨(hn x hx).1, (hn x hx).2.2.1⟩)
  show clos 44 (61 :: escV (foldS p.2).data.toList) = true
  unfold clos; rw [if_neg (by decide), if_neg (by decide)]
  exact clos_escV 44 (by decide) (by decide) _
theorem next_fmtC {p : Pr} (h : prE p = 0) : nextP 61 (fmtC p) = (lowS p.1).data.toList.length := by
  have hn := name_bytes (by rw [nameB_low]; exact ((prE_zero p).1 h).1 : nameB (lowS p.1) = true)
  unfold fmtC
  rw [nextP_clos 61 _ _ (clos_plain 61 _ fun x hx => ⟨(hn x hx).2.1, (hn x hx).2.2.1⟩)]
  show _ + nextP 61 (61 :: escV (foldS p.2).data.toList) = _
  unfold nextP; rw [if_pos rfl]; rfl
/-- a component in normal form is read back -/
theorem comp_fmt {p : Pr} (h : prE p = 0) : compE (ofB (fmtC p)) = 0 ∧ compV (ofB (fmtC p)) = canP p := by
  have h0 := (prE_zero p).1 h
  have hk : rawK (ofB (fmtC p)) = lowS p.1 := by
    unfold rawK
    rw [ofB_data, next_fmtC h]
    unfold trimS tk
    rw [ofB_data, data_mk]
    unfold fmtC
    rw [List.take_left, trimR_id (name_noSp (by rw [nameB_low]; exact h0.1)), Lib.mk_data]
  have hv : (rawV (ofB (fmtC p))).data.toList = escV (foldS p.2).data.toList := by
    unfold rawV
    rw [ofB_data, next_fmtC h]
    unfold trimS dr
    rw [ofB_data, data_mk, data_mk]
    unfold fmtC
    rw [← List.drop_drop, List.drop_left]
    show trimR (escV (foldS p.2).data.toList) = _
    rw [foldS_data]
    exact trimR_id (escV_noSp (foldL_noSp _))
  have hc : compV (ofB (fmtC p)) = canP p := by
    unfold compV canP
    rw [hk, hv, valP_escV, Option.getD_some, data_ofB]
  refine ⟨?_, hc⟩
  unfold compE
  rw [if_pos (by rw [ofB_data, next_fmtC h, ofB_size]; unfold fmtC; simp), hv, valP_escV]
  show prE (rawK (ofB (fmtC p)), ofB (foldS p.2).data.toList) = 0
  rw [hk, data_ofB]
  exact prE_can h
theorem barC_pieces : ∀ l : List (List UInt8), l ≠ [] → (∀ p ∈ l, clos 44 p = true) → pieces 44 (barC l) = l
  | [], h, _ => absurd rfl h
  | [p], _, h => by
    have hn := nocut_of_clos 44 p (h p (by simp))
    show pieces 44 p = [p]
    rw [pieces_cut, hn, List.take_length, if_neg (Nat.lt_irrefl _)]
  | p :: q :: r, _, h => by
    have ih := barC_pieces (q :: r) (by simp) (fun x hx => h x (by simp at hx ⊢; exact .inr hx))
    have hp := h p (by simp)
    show pieces 44 (p ++ 44 :: barC (q :: r)) = _
    have hk : nextP 44 (p ++ 44 :: barC (q :: r)) = p.length := by
      rw [nextP_clos 44 _ p hp]
      show _ + nextP 44 (44 :: barC (q :: r)) = _
      unfold nextP; rw [if_pos rfl]; rfl
    rw [pieces_cut, hk, List.take_left, if_pos (by simp), ← List.drop_drop, List.drop_left]
    show p :: pieces 44 (barC (q :: r)) = _
    rw [ih]
theorem fmtC_ne (p : Pr) : fmtC p ≠ [] := by unfold fmtC; simp
theorem barC_ne : ∀ l : List (List UInt8), l ≠ [] → (∀ p ∈ l, p ≠ []) → barC l ≠ []
  | [], h, _ => absurd rfl h
  | [p], _, h => h p (by simp)
  | p :: q :: r, _, h => by show p ++ 44 :: _ ≠ []; simp
theorem pieces_fmt {l : List Pr} (h : ∀ p ∈ l, prE p = 0) : piecesS (ofB (barC (l.map fmtC))) = l.map fun p => ofB (fmtC p) := by
  unfold piecesS
  by_cases hl : l = []
  · subst hl; rfl
  · have h1 : l.map fmtC ≠ [] := by simpa using hl
    have h2 := barC_ne _ h1 (fun p hp => by obtain ⟨q, _, rfl⟩ := List.mem_map.1 hp; exact fmtC_ne q)
    rw [if_neg (by rw [ofB_size]; intro e; exact h2 (List.length_eq_zero_iff.1 e)), ofB_data, barC_pieces _ h1 (fun p hp => by
      obtain ⟨q, hq, rfl⟩ := List.mem_map.1 hp; exact clos_fmtC (h q hq)), List.map_map]
    rfl
/-- the normal form of components is read back -/
theorem parse_fmt {l : List Pr} (h : fmtE l = 0) : parseE (fmtV l) = 0 ∧ parseV (fmtV l) = l.map canP := by
  obtain ⟨h1, h2⟩ := fmtE_ok h
  have hp := pieces_fmt h1
  have hv : fmtV l = ofB (barC (l.map fmtC)) := by unfold fmtV; rw [if_pos h]
  have hE : parseE (fmtV l) = 0 := by
    unfold parseE
    rw [hv, hp, firstE_zero (fun p hq => by obtain ⟨q, hq2, rfl⟩ := List.mem_map.1 hq; exact (comp_fmt (h1 q hq2)).1), if_pos rfl, if_neg (by rw [List.length_map]; omega)]
  refine ⟨hE, ?_⟩
  unfold parseV
  rw [if_pos hE, hv, hp, List.map_map]
  apply List.map_congr_left
  intro q hq
  exact (comp_fmt (h1 q hq)).2
theorem fmt_can {l : List Pr} (h : fmtE l = 0) : fmtE (l.map canP) = 0 ∧ fmtV (l.map canP) = fmtV l := by
  obtain ⟨h1, h2⟩ := fmtE_ok h
  have hE : fmtE (l.map canP) = 0 := fmtE_zero (fun p hp => by obtain ⟨q, hq, rfl⟩ := List.mem_map.1 hp; exact prE_can (h1 q hq)) (by rw [List.length_map]; exact h2)
  refine ⟨hE, ?_⟩
  unfold fmtV
  rw [if_pos hE, if_pos h, List.map_map]
  congr 2
  apply List.map_congr_left
  intro q hq
  exact fmtC_can q
theorem norm_fmt {l : List Pr} (h : fmtE l = 0) : normB (fmtV l) = true := by
  unfold normB
  rw [(parse_fmt h).1, (parse_fmt h).2, (fmt_can h).2]
  simp
theorem norm_iff (s : ByteArray) : normB s = true ↔ parseE s = 0 ∧ fmtV (parseV s) = s := by
  unfold normB; simp
theorem comps_fmt {l : List Pr} (h : fmtE l = 0) : compsV (fmtV l) = l.map canP := by
  unfold compsV; rw [norm_fmt h, if_pos rfl, (parse_fmt h).2]
theorem cleanE_eq (s : ByteArray) : cleanE s = parseE s := by
  unfold cleanE
  by_cases h : parseE s = 0
  · rw [if_pos h, fmt_parse_ok h, h]
  · rw [if_neg h]
/-- the components of a normal form -/
structure Comps (l : List Pr) : Prop where
  fine : ∀ p ∈ l, prE p = 0
  few : l.length ≤ 8
  can : l.map canP = l
theorem Comps.fmt {l : List Pr} (h : Comps l) : fmtE l = 0 := fmtE_zero h.fine h.few
theorem comps_norm {s : ByteArray} (h : normB s = true) : Comps (compsV s) ∧ fmtV (compsV s) = s := by
  obtain ⟨h1, h2⟩ := (norm_iff s).1 h
  have h3 := parse_fmt (fmt_parse_ok h1)
  rw [h2] at h3
  unfold compsV
  rw [h, if_pos rfl]
  exact ⟨⟨(parseV_ok h1).1, (parseV_ok h1).2, h3.2.symm⟩, h2⟩
theorem Comps.back {l : List Pr} (h : Comps l) : normB (fmtV l) = true ∧ compsV (fmtV l) = l := ⟨norm_fmt h.fmt, by rw [comps_fmt h.fmt, h.can]⟩
theorem comps_none {s : ByteArray} (h : normB s = false) : compsV s = [] := by unfold compsV; rw [h]; rfl
theorem Comps.drop {l : List Pr} (h : Comps l) (k : Nat) : Comps (l.drop k) :=
  ⟨fun p hp => h.fine p (List.mem_of_mem_drop hp), by rw [List.length_drop]; have := h.few; omega, by rw [List.map_drop, h.can]⟩
theorem Comps.take {l : List Pr} (h : Comps l) (k : Nat) : Comps (l.take k) :=
  ⟨fun p hp => h.fine p (List.mem_of_mem_take hp), by rw [List.length_take]; have := h.few; omega, by rw [List.map_take, h.can]⟩
theorem Comps.app {l m : List Pr} (h : Comps l) (h2 : Comps m) (hn : l.length + m.length ≤ 8) : Comps (l ++ m) :=
  ⟨fun p hp => by rcases List.mem_append.1 hp with hp | hp; exact h.fine p hp; exact h2.fine p hp, by rw [List.length_append]; exact hn, by rw [List.map_append, h.can, h2.can]⟩
theorem fmt_inj {l m : List Pr} (h : Comps l) (h2 : Comps m) (e : fmtV l = fmtV m) : l = m := by
  rw [← h.back.2, ← h2.back.2, e]
theorem compsV_few (s : ByteArray) : (compsV s).length ≤ 8 := by
  cases h : normB s
  · rw [comps_none h]; simp
  · exact (comps_norm h).1.few

end Go.Proofs.YtdjhhofmlefaaaaDoor
