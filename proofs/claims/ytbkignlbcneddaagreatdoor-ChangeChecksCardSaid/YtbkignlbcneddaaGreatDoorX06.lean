/-
  Texts of the schema layer and of those beneath it, joined: NamP, NamC, NamM, NamV. Conditions stand at each contract.
-/
import Derived.Deep.RegionHeld3
import Derived.Test.YtbkignlbcneddaaGreatDoorX02
import Derived.Test.YtbkignlbcneddaaGreatDoorX04
import Derived.Test.YtbkignlbcneddaaGreatDoorX05
set_option linter.unusedVariables false
set_option linter.unusedSimpArgs false
set_option linter.unnecessarySimpa false

section
/-
  Plain functions for distinguished names: what Parse, Format, Clean and the pieces of them return; that a normal form is read back; that upper and lower case does not matter. No condition.
-/
set_option maxRecDepth 100000
namespace Go.Proofs.YtbkignlbcneddaaGreatDoor
namespace Nam
open Go.PlainAid
abbrev Pr := ByteArray × ByteArray
def ofB (l : List UInt8) : ByteArray := ⟨l.toArray⟩
theorem ofB_data (l : List UInt8) : (ofB l).data.toList = l := rfl
theorem data_ofB (s : ByteArray) : ofB s.data.toList = s := Lib.mk_data s
theorem ofB_size (l : List UInt8) : (ofB l).size = l.length := by rw [Lib.size_eq]; rfl
/-! ### a component -/
def rawK (p : ByteArray) : ByteArray := trimS (tk p (nextP 61 p.data.toList))
def rawV (p : ByteArray) : ByteArray := trimS (dr p (nextP 61 p.data.toList + 1))
def prE (p : Pr) : Int := if nameB p.1 = false then 5 else if cleanB p.2 = false then 8 else 0
def compE (p : ByteArray) : Int := if nextP 61 p.data.toList < p.size then (match valP (rawV p).data.toList with
  | some v => prE (rawK p, ofB v)
  | none => 4) else 4
def compV (p : ByteArray) : Pr := (rawK p, ofB ((valP (rawV p).data.toList).getD []))
def nilPr : Pr := (ByteArray.empty, ByteArray.empty)
/-- what 'component' returns -/
def compR (p : ByteArray) : Pr := if compE p = 0 then compV p else nilPr
theorem compE_ok {p : ByteArray} (h : compE p = 0) : nextP 61 p.data.toList < p.size ∧ valP (rawV p).data.toList = some (compV p).2.data.toList ∧ prE (compV p) = 0 := by
  unfold compE at h
  by_cases h1 : nextP 61 p.data.toList < p.size
  · rw [if_pos h1] at h
    cases e : valP (rawV p).data.toList with
    | none => rw [e] at h; simp at h
    | some v =>
      rw [e] at h
      unfold compV
      rw [e]
      exact ⟨h1, rfl, h⟩
  · rw [if_neg h1] at h; simp at h
/-! ### Parse -/
def firstE : List ByteArray → Int
  | [] => 0
  | p :: r => if compE p = 0 then firstE r else compE p
def piecesS (s : ByteArray) : List ByteArray := if s.size = 0 then [] else (pieces 44 s.data.toList).map ofB
def parseE (s : ByteArray) : Int := if firstE (piecesS s) = 0 then (if 8 < (piecesS s).length then 3 else 0) else firstE (piecesS s)
def parseV (s : ByteArray) : List Pr := if parseE s = 0 then (piecesS s).map compV else []
theorem firstE_app (a b : List ByteArray) (h : firstE a = 0) : firstE (a ++ b) = firstE b := by
  induction a with
  | nil => rfl
  | cons p r ih =>
    unfold firstE at h
    by_cases hp : compE p = 0
    · rw [if_pos hp] at h
      show (if compE p = 0 then firstE (r ++ b) else compE p) = _
      rw [if_pos hp, ih h]
    · rw [if_neg hp] at h; exact absurd h hp
theorem firstE_all {l : List ByteArray} (h : firstE l = 0) : ∀ p ∈ l, compE p = 0 := by
  induction l with
  | nil => intro p hp; cases hp
  | cons q r ih =>
    unfold firstE at h
    by_cases hq : compE q = 0
    · rw [if_pos hq] at h
      intro p hp
      rcases List.mem_cons.1 hp with rfl | hp
      · exact hq
      · exact ih h p hp
    · rw [if_neg hq] at h; exact absurd h hq
theorem firstE_zero {l : List ByteArray} (h : ∀ p ∈ l, compE p = 0) : firstE l = 0 := by
  induction l with
  | nil => rfl
  | cons q r ih => unfold firstE; rw [if_pos (h q (by simp)), ih (fun p hp => h p (by simp [hp]))]
/-! ### Format -/
def fmtC (p : Pr) : List UInt8 := (lowS p.1).data.toList ++ 61 :: escV (foldS p.2).data.toList
def barC : List (List UInt8) → List UInt8
  | [] => []
  | [p] => p
  | p :: q :: r => p ++ 44 :: barC (q :: r)
def fmtFirst : List Pr → Int
  | [] => 0
  | p :: r => if prE p = 0 then fmtFirst r else prE p
def fmtE (l : List Pr) : Int := if fmtFirst l = 0 then (if 8 < l.length then 3 else 0) else fmtFirst l
def fmtV (l : List Pr) : ByteArray := if fmtE l = 0 then ofB (barC (l.map fmtC)) else ByteArray.empty
theorem barC_snoc (p : List UInt8) : ∀ l : List (List UInt8), l ≠ [] → barC (l ++ [p]) = barC l ++ 44 :: p
  | [], h => absurd rfl h
  | [q], _ => rfl
  | q :: r :: t, _ => by
    have ih := barC_snoc p (r :: t) (by simp)
    show q ++ 44 :: barC (r :: t ++ [p]) = (q ++ 44 :: barC (r :: t)) ++ 44 :: p
    rw [ih]; simp
theorem fmtFirst_all {l : List Pr} (h : fmtFirst l = 0) : ∀ p ∈ l, prE p = 0 := by
  induction l with
  | nil => intro p hp; cases hp
  | cons q r ih =>
    unfold fmtFirst at h
    by_cases hq : prE q = 0
    · rw [if_pos hq] at h
      intro p hp
      rcases List.mem_cons.1 hp with rfl | hp
      · exact hq
      · exact ih h p hp
    · rw [if_neg hq] at h; exact absurd h hq
theorem fmtFirst_zero {l : List Pr} (h : ∀ p ∈ l, prE p = 0) : fmtFirst l = 0 := by
  induction l with
  | nil => rfl
  | cons q r ih => unfold fmtFirst; rw [if_pos (h q (by simp)), ih (fun p hp => h p (by simp [hp]))]
theorem fmtE_ok {l : List Pr} (h : fmtE l = 0) : (∀ p ∈ l, prE p = 0) ∧ l.length ≤ 8 := by
  unfold fmtE at h
  by_cases h1 : fmtFirst l = 0
  · rw [if_pos h1] at h
    by_cases h2 : 8 < l.length
    · rw [if_pos h2] at h; cases h
    · exact ⟨fmtFirst_all h1, by omega⟩
  · rw [if_neg h1] at h; exact absurd h h1
theorem fmtE_zero {l : List Pr} (h1 : ∀ p ∈ l, prE p = 0) (h2 : l.length ≤ 8) : fmtE l = 0 := by
  unfold fmtE; rw [if_pos (fmtFirst_zero h1), if_neg (by omega)]
theorem parseE_ok {s : ByteArray} (h : parseE s = 0) : (∀ p ∈ piecesS s, compE p = 0) ∧ (piecesS s).length ≤ 8 := by
  unfold parseE at h
  by_cases h1 : firstE (piecesS s) = 0
  · rw [if_pos h1] at h
    by_cases h2 : 8 < (piecesS s).length
    · rw [if_pos h2] at h; cases h
    · exact ⟨firstE_all h1, by omega⟩
  · rw [if_neg h1] at h; exact absurd h h1
theorem parseV_ok {s : ByteArray} (h : parseE s = 0) : (∀ p ∈ parseV s, prE p = 0) ∧ (parseV s).length ≤ 8 := by
  obtain ⟨h1, h2⟩ := parseE_ok h
  unfold parseV
  rw [if_pos h]
  refine ⟨fun p hp => ?_, by simpa using h2⟩
  obtain ⟨q, hq, rfl⟩ := List.mem_map.1 hp
  exact (compE_ok (h1 q hq)).2.2
theorem fmt_parse_ok {s : ByteArray} (h : parseE s = 0) : fmtE (parseV s) = 0 := fmtE_zero (parseV_ok h).1 (parseV_ok h).2
/-! ### Clean, Valid, the components of a normal form -/
def cleanE (s : ByteArray) : Int := if parseE s = 0 then fmtE (parseV s) else parseE s
def cleanV (s : ByteArray) : ByteArray := if parseE s = 0 then fmtV (parseV s) else ByteArray.empty
def normB (s : ByteArray) : Bool := decide (parseE s = 0) && decide (fmtV (parseV s) = s)
def compsV (s : ByteArray) : List Pr := if normB s then parseV s else []
/-- the pair in normal form -/
def canP (p : Pr) : Pr := (lowS p.1, foldS p.2)
theorem prE_zero (p : Pr) : prE p = 0 ↔ nameB p.1 = true ∧ cleanB p.2 = true := by
  unfold prE
  cases h1 : nameB p.1 <;> cases h2 : cleanB p.2 <;> simp
theorem mem_bt {s : ByteArray} {c : UInt8} (h : c ∈ s.data.toList) : ∃ j, j < s.size ∧ bt s j = (c.toNat : Int) := by
  obtain ⟨j, hj, rfl⟩ := List.getElem_of_mem h
  exact ⟨j, by rw [Lib.size_eq]; exact hj, bt_list s j _ (List.getElem?_eq_getElem hj)⟩
theorem bt_low (s : ByteArray) (j : Nat) : bt (lowS s) j = (if 65 ≤ bt s j ∧ bt s j ≤ 90 then bt s j + 32 else bt s j) := by
  by_cases h : j < s.size
  · obtain ⟨c, hc⟩ : ∃ c, s.data.toList[j]? = some c := ⟨_, List.getElem?_eq_getElem (by rw [← Lib.size_eq]; exact h)⟩
    have h2 : (lowS s).data.toList[j]? = some (lowB c) := by unfold lowS lowL; simp [hc]
    rw [bt_list _ _ _ h2, bt_list _ _ _ hc]
    by_cases hA : 65 ≤ (c.toNat : Int) ∧ (c.toNat : Int) ≤ 90
    · rw [if_pos hA, lowB_hit _ hA.1 hA.2]
    · rw [if_neg hA, lowB_miss _ hA]
  · rw [bt_end s (by omega), bt_end (lowS s) (by rw [lowS_size]; omega)]; rfl
theorem ltrI_low (x : Int) : ltrI (if 65 ≤ x ∧ x ≤ 90 then x + 32 else x) = ltrI x := by
  rw [Bool.eq_iff_iff]; unfold ltrI; simp only [Bool.or_eq_true, Bool.and_eq_true, decide_eq_true_eq]
  split <;> omega
theorem nameP_low (x : Int) : nameP (if 65 ≤ x ∧ x ≤ 90 then x + 32 else x) = nameP x := by
  unfold nameP
  rw [ltrI_low]
  by_cases h : 65 ≤ x ∧ x ≤ 90
  · rw [if_pos h]
    have : ltrI x = true := by unfold ltrI; simp; omega
    rw [this]; rfl
  · rw [if_neg h]
theorem nameB_low (s : ByteArray) : nameB (lowS s) = nameB s := by
  unfold nameB
  rw [lowS_size, bt_low, ltrI_low]
  congr 1
  rw [Bool.eq_iff_iff, allB_iff, allB_iff, lowS_size]
  constructor <;> (intro h j hj; have := h j hj; rw [bt_low, nameP_low] at *; exact this)
theorem prE_can {p : Pr} (h : prE p = 0) : prE (canP p) = 0 := by
  rw [prE_zero] at h ⊢
  exact ⟨by unfold canP; rw [nameB_low]; exact h.1, clean_fold _ h.2⟩
theorem fmtC_can (p : Pr) : fmtC (canP p) = fmtC p := by
  unfold fmtC canP; rw [lowS_low, foldS_fold]
/-- a name's bytes -/
theorem name_bytes {s : ByteArray} (h : nameB s = true) : ∀ c ∈ s.data.toList, c ≠ 44 ∧ c ≠ 61 ∧ c ≠ 92 ∧ c ≠ 32 := by
  intro c hc
  unfold nameB at h
  simp only [Bool.and_eq_true] at h
  obtain ⟨j, hj, e⟩ := mem_bt hc
  have := allB_iff.1 h.2 j hj
  rw [e] at this
  refine ⟨?_, ?_, ?_, ?_⟩ <;> (intro e2; subst e2; exact absurd this (by decide))
theorem name_noSp {s : ByteArray} (h : nameB s = true) : noSp s.data.toList :=
  ⟨fun c hc => (name_bytes h c (List.mem_of_mem_head? hc)).2.2.2, fun c hc => (name_bytes h c (List.mem_of_mem_getLast? hc)).2.2.2⟩
theorem escV_ne {l : List UInt8} (h : l ≠ []) : escV l ≠ [] := by
  cases l with
  | nil => exact absurd rfl h
  | cons c r => show escB c ++ _ ≠ []; unfold escB; split <;> simp
theorem escV_last : ∀ (l : List UInt8) (c : UInt8), (escV l).getLast? = some c → l.getLast? = some c
  | [], c, h => by cases h
  | [x], c, h => by
    have e : escV [x] = escB x := by unfold escV; simp
    rw [e] at h
    unfold escB at h
    split at h <;> simpa using h
  | x :: y :: r, c, h => by
    have e : escV (x :: y :: r) = escB x ++ escV (y :: r) := rfl
    rw [e] at h
    have ih := escV_last (y :: r) c
    have hne := escV_ne (l := y :: r) (by simp)
    rw [List.getLast?_append] at h
    cases e2 : (escV (y :: r)).getLast? with
    | none => exact absurd (List.getLast?_eq_none_iff.1 e2) hne
    | some d =>
      rw [e2] at h ih
      rw [List.getLast?_cons_cons]
      exact ih (by simpa using h)
theorem escV_noSp {l : List UInt8} (h : noSp l) : noSp (escV l) := by
  refine ⟨fun c hc => ?_, fun c hc => h.2 c (escV_last l c hc)⟩
  cases l with
  | nil => cases hc
  | cons x r =>
    have e : escV (x :: r) = escB x ++ escV r := rfl
    rw [e] at hc
    unfold escB at hc
    split at hc
    · simp at hc; subst hc; decide
    · simp at hc; subst hc; exact h.1 x rfl
theorem clos_fmtC {p : Pr} (h : prE p = 0) : clos 44 (fmtC p) = true := by
  have hn := name_bytes (by rw [nameB_low]; exact ((prE_zero p).1 h).1 : nameB (lowS p.1) = true)
  unfold fmtC
  refine clos_app 44 _ ?_ _ (clos_plain 44 _ fun x hx => ⟨(hn x hx).1, (hn x hx).2.2.1⟩)
  show clos 44 (61 :: escV (foldS p.2).data.toList) = true
  unfold clos; rw [if_neg (by decide), if_neg (by decide)]
  exact clos_escV 44 (by decide) (by decide) _
theorem next_fmtC {p : Pr} (h : prE p = 0) : nextP 61 (fmtC p) = (lowS p.1).data.toList.length := by
  have hn := name_bytes (by rw [nameB_low]; exact ((prE_zero p).1 h).1 : nameB (lowS p.1) = true)
  unfold fmtC
  rw [nextP_clos 61 _ _ (clos_plain 61 _ fun x hx => ⟨(hn x hx).2.1, (hn x hx).2.2.1⟩)]
  show _ + nextP 61 (61 :: escV (foldS p.2).data.toList) = _
  unfold nextP; rw [if_pos rfl]; rfl
/-- a component in normal form is read back -/
theorem comp_fmt {p : Pr} (h : prE p = 0) : compE (ofB (fmtC p)) = 0 ∧ compV (ofB (fmtC p)) = canP p := by
  have h0 := (prE_zero p).1 h
  have hk : rawK (ofB (fmtC p)) = lowS p.1 := by
    unfold rawK
    rw [ofB_data, next_fmtC h]
    unfold trimS tk
    rw [ofB_data, data_mk]
    unfold fmtC
    rw [List.take_left, trimR_id (name_noSp (by rw [nameB_low]; exact h0.1)), Lib.mk_data]
  have hv : (rawV (ofB (fmtC p))).data.toList = escV (foldS p.2).data.toList := by
    unfold rawV
    rw [ofB_data, next_fmtC h]
    unfold trimS dr
    rw [ofB_data, data_mk, data_mk]
    unfold fmtC
    rw [← List.drop_drop, List.drop_left]
    show trimR (escV (foldS p.2).data.toList) = _
    rw [foldS_data]
    exact trimR_id (escV_noSp (foldL_noSp _))
  have hc : compV (ofB (fmtC p)) = canP p := by
    unfold compV canP
    rw [hk, hv, valP_escV, Option.getD_some, data_ofB]
  refine ⟨?_, hc⟩
  unfold compE
  rw [if_pos (by rw [ofB_data, next_fmtC h, ofB_size]; unfold fmtC; simp), hv, valP_escV]
  show prE (rawK (ofB (fmtC p)), ofB (foldS p.2).data.toList) = 0
  rw [hk, data_ofB]
  exact prE_can h
theorem barC_pieces : ∀ l : List (List UInt8), l ≠ [] → (∀ p ∈ l, clos 44 p = true) → pieces 44 (barC l) = l
  | [], h, _ => absurd rfl h
  | [p], _, h => by
    have hn := nocut_of_clos 44 p (h p (by simp))
    show pieces 44 p = [p]
    rw [pieces_cut, hn, List.take_length, if_neg (Nat.lt_irrefl _)]
  | p :: q :: r, _, h => by
    have ih := barC_pieces (q :: r) (by simp) (fun x hx => h x (by simp at hx ⊢; exact .inr hx))
    have hp := h p (by simp)
    show pieces 44 (p ++ 44 :: barC (q :: r)) = _
    have hk : nextP 44 (p ++ 44 :: barC (q :: r)) = p.length := by
      rw [nextP_clos 44 _ p hp]
      show _ + nextP 44 (44 :: barC (q :: r)) = _
      unfold nextP; rw [if_pos rfl]; rfl
    rw [pieces_cut, hk, List.take_left, if_pos (by simp), ← List.drop_drop, List.drop_left]
    show p :: pieces 44 (barC (q :: r)) = _
    rw [ih]
theorem fmtC_ne (p : Pr) : fmtC p ≠ [] := by unfold fmtC; simp
theorem barC_ne : ∀ l : List (List UInt8), l ≠ [] → (∀ p ∈ l, p ≠ []) → barC l ≠ []
  | [], h, _ => absurd rfl h
  | [p], _, h => h p (by simp)
  | p :: q :: r, _, h => by show p ++ 44 :: _ ≠ []; simp
theorem pieces_fmt {l : List Pr} (h : ∀ p ∈ l, prE p = 0) : piecesS (ofB (barC (l.map fmtC))) = l.map fun p => ofB (fmtC p) := by
  unfold piecesS
  by_cases hl : l = []
  · subst hl; rfl
  · have h1 : l.map fmtC ≠ [] := by simpa using hl
    have h2 := barC_ne _ h1 (fun p hp => by obtain ⟨q, _, rfl⟩ := List.mem_map.1 hp; exact fmtC_ne q)
    rw [if_neg (by rw [ofB_size]; intro e; exact h2 (List.length_eq_zero_iff.1 e)), ofB_data, barC_pieces _ h1 (fun p hp => by
      obtain ⟨q, hq, rfl⟩ := List.mem_map.1 hp; exact clos_fmtC (h q hq)), List.map_map]
    rfl
/-- the normal form of components is read back -/
theorem parse_fmt {l : List Pr} (h : fmtE l = 0) : parseE (fmtV l) = 0 ∧ parseV (fmtV l) = l.map canP := by
  obtain ⟨h1, h2⟩ := fmtE_ok h
  have hp := pieces_fmt h1
  have hv : fmtV l = ofB (barC (l.map fmtC)) := by unfold fmtV; rw [if_pos h]
  have hE : parseE (fmtV l) = 0 := by
    unfold parseE
    rw [hv, hp, firstE_zero (fun p hq => by obtain ⟨q, hq2, rfl⟩ := List.mem_map.1 hq; exact (comp_fmt (h1 q hq2)).1), if_pos rfl, if_neg (by rw [List.length_map]; omega)]
  refine ⟨hE, ?_⟩
  unfold parseV
  rw [if_pos hE, hv, hp, List.map_map]
  apply List.map_congr_left
  intro q hq
  exact (comp_fmt (h1 q hq)).2
theorem fmt_can {l : List Pr} (h : fmtE l = 0) : fmtE (l.map canP) = 0 ∧ fmtV (l.map canP) = fmtV l := by
  obtain ⟨h1, h2⟩ := fmtE_ok h
  have hE : fmtE (l.map canP) = 0 := fmtE_zero (fun p hp => by obtain ⟨q, hq, rfl⟩ := List.mem_map.1 hp; exact prE_can (h1 q hq)) (by rw [List.length_map]; exact h2)
  refine ⟨hE, ?_⟩
  unfold fmtV
  rw [if_pos hE, if_pos h, List.map_map]
  congr 2
  apply List.map_congr_left
  intro q hq
  exact fmtC_can q
theorem norm_fmt {l : List Pr} (h : fmtE l = 0) : normB (fmtV l) = true := by
  unfold normB
  rw [(parse_fmt h).1, (parse_fmt h).2, (fmt_can h).2]
  simp
theorem norm_iff (s : ByteArray) : normB s = true ↔ parseE s = 0 ∧ fmtV (parseV s) = s := by
  unfold normB; simp
theorem comps_fmt {l : List Pr} (h : fmtE l = 0) : compsV (fmtV l) = l.map canP := by
  unfold compsV; rw [norm_fmt h, if_pos rfl, (parse_fmt h).2]
theorem cleanE_eq (s : ByteArray) : cleanE s = parseE s := by
  unfold cleanE
  by_cases h : parseE s = 0
  · rw [if_pos h, fmt_parse_ok h, h]
  · rw [if_neg h]
/-- the components of a normal form -/
structure Comps (l : List Pr) : Prop where
  fine : ∀ p ∈ l, prE p = 0
  few : l.length ≤ 8
  can : l.map canP = l
theorem Comps.fmt {l : List Pr} (h : Comps l) : fmtE l = 0 := fmtE_zero h.fine h.few
theorem Comps.back {l : List Pr} (h : Comps l) : normB (fmtV l) = true ∧ compsV (fmtV l) = l := ⟨norm_fmt h.fmt, by rw [comps_fmt h.fmt, h.can]⟩
theorem comps_none {s : ByteArray} (h : normB s = false) : compsV s = [] := by unfold compsV; rw [h]; rfl
theorem Comps.drop {l : List Pr} (h : Comps l) (k : Nat) : Comps (l.drop k) :=
  ⟨fun p hp => h.fine p (List.mem_of_mem_drop hp), by rw [List.length_drop]; have := h.few; omega, by rw [List.map_drop, h.can]⟩
theorem Comps.take {l : List Pr} (h : Comps l) (k : Nat) : Comps (l.take k) :=
  ⟨fun p hp => h.fine p (List.mem_of_mem_take hp), by rw [List.length_take]; have := h.few; omega, by rw [List.map_take, h.can]⟩
end Nam
end Go.Proofs.YtbkignlbcneddaaGreatDoor
end

section
/-
  Plain facts on distinguished names: the case of a text does not matter for its normal form; parents, children, renaming; the order. No condition.
-/
set_option maxRecDepth 100000
namespace Go.Proofs.YtbkignlbcneddaaGreatDoor
namespace Nam
open Go.PlainAid
/-! ### case -/
theorem norm_clean (s : ByteArray) : normB s = (decide (cleanE s = 0) && decide (cleanV s = s)) := by
  rw [cleanE_eq]
  unfold normB cleanV
  by_cases h : parseE s = 0
  · rw [if_pos h]
  · simp [h]
/-! ### the family -/
/-! ### the order -/
structure Ord3 {α : Type} (f : α → α → Int) : Prop where
  range : ∀ a b, f a b = -1 ∨ f a b = 0 ∨ f a b = 1
  anti : ∀ a b, f b a = - f a b
  zero : ∀ a b, f a b = 0 ↔ a = b
  trans : ∀ a b c, f a b ≤ 0 → f b c ≤ 0 → f a c ≤ 0
def cmpP (p q : Pr) : Int := if cmpS p.1 q.1 = 0 then cmpS p.2 q.2 else cmpS p.1 q.1
def cmpL : List Pr → List Pr → Int
  | [], [] => 0
  | [], _ :: _ => -1
  | _ :: _, [] => 1
  | p :: a, q :: b => if cmpP p q = 0 then cmpL a b else cmpP p q
def cmpN (a b : ByteArray) : Int := if normB a then (if normB b then cmpL (compsV a).reverse (compsV b).reverse else -1) else (if normB b then 1 else cmpS a b)
theorem cmpS_ord : Ord3 cmpS :=
  ⟨fun a b => cb_range _ _, fun a b => cb_anti _ _, fun a b => by unfold cmpS; rw [cb_zero]; exact ⟨ba_ext, fun e => by rw [e]⟩, fun a b c h1 h2 => cb_trans _ _ _ h1 h2⟩
end Nam
end Go.Proofs.YtbkignlbcneddaaGreatDoor
end

section
/-
  Plain facts for the loops that look for a separator and read a value; contracts of name.mark, name.cut and the specification's special and next. Condition: at most 1000000000 bytes.
-/
set_option maxRecDepth 100000
namespace Go.Proofs.YtbkignlbcneddaaGreatDoor
namespace Nam
open Go.RowKit Go.PlainAid
theorem mark_table : ∀ n : Nat, n < 256 → decide (0 ≤ Lib.indexByte [44, 61, 43, 92] (UInt8.ofNat n)) = spec4 (UInt8.ofNat n) := by decide +kernel
theorem mark_lib (c : UInt8) : decide (0 ≤ Lib.indexByte [44, 61, 43, 92] c) = spec4 c := by
  have := mark_table c.toNat c.toNat_lt
  rwa [UInt8.ofNat_toNat] at this
set_option maxRecDepth 100000 in
set_option maxHeartbeats 1000000 in
theorem mark_s (x : Int) (c : UInt8) (w : World) (hx : x = (c.toNat : Int)) :
    Calls Tryz.prog 222 #[.int .u8 x] w fun e w' => e = .returned (.bool (spec4 c)) ∧ w = w' := by
  have HX := Lib.hid (show x.toNat.toUInt8 = c by subst hx; simp)
  have HM := Lib.hid (mark_lib c)
  clear hx
  go_enter Tryz.func222, Tryz.ntmps222
  go_wp2_with fail
  refine (Tryz.strings_IndexByte ⟨#[44, 61, 43, 92]⟩ x _).mono ?_
  rintro e w' ⟨rfl, rfl⟩
  rw [HX.out]
  generalize hv : Lib.indexByte (⟨#[44, 61, 43, 92]⟩ : ByteArray).data.toList c = v
  have HV := Lib.hid hv; clear hv
  go_wp2_with fail
  go_ret
  exact ⟨by rw [← HM.out, ← HV.out]; rfl, rfl⟩
set_option maxHeartbeats 1000000 in
theorem special_s (x : Int) (c : UInt8) (w : World) (hx : x = (c.toNat : Int)) :
    Calls Tryz.prog 184 #[.int .u8 x] w fun e w' => e = .returned (.bool (spec4 c)) ∧ w = w' := by
  have key : ∀ d : UInt8, (x == (d.toNat : Int)) = (c == d) := fun d => by
    rw [Bool.eq_iff_iff, beq_iff_eq, beq_iff_eq, hx]
    exact ⟨fun h => UInt8.toNat_inj.1 (by omega), fun h => by rw [h]⟩
  have k1 : (x == 44) = (c == 44) := key 44
  have k2 : (x == 61) = (c == 61) := key 61
  have k3 : (x == 43) = (c == 43) := key 43
  have k4 : (x == 92) = (c == 92) := key 92
  have HS : Hid (spec4 c = ((x == 44) || (x == 61) || (x == 43) || (x == 92))) := Lib.hid (by unfold spec4; rw [k1, k2, k3, k4])
  clear k1 k2 k3 k4 key hx
  cases a1 : (x == 44) <;> cases a2 : (x == 61) <;> cases a3 : (x == 43) <;> cases a4 : (x == 92)
  all_goals
    rw [a1, a2, a3, a4] at HS
    go_enter Tryz.func184, Tryz.ntmps184
    go_wp2
    go_ret
    exact ⟨by rw [HS.out]; rfl, rfl⟩
/-! ### where the separator stands -/
theorem next_here (c : UInt8) (s : ByteArray) (i : Nat) (h : i < s.size) (hc : chr s i = c) : nextP c (s.data.toList.drop i) = 0 := by
  rw [drop_chr s i h]; unfold nextP; rw [if_pos hc]
theorem next_esc (c : UInt8) (s : ByteArray) (i : Nat) (h : i < s.size) (hc : chr s i ≠ c) (h92 : chr s i = 92) :
    nextP c (s.data.toList.drop i) = if i + 1 < s.size then nextP c (s.data.toList.drop (i + 2)) + 2 else 1 := by
  rw [drop_chr s i h]
  conv => lhs; unfold nextP
  rw [if_neg hc, if_pos h92]
  by_cases h1 : i + 1 < s.size
  · rw [drop_chr s (i + 1) h1, if_pos h1]
  · rw [List.drop_eq_nil_of_le (by rw [← Lib.size_eq]; omega), if_neg h1]
theorem next_other (c : UInt8) (s : ByteArray) (i : Nat) (h : i < s.size) (hc : chr s i ≠ c) (h92 : chr s i ≠ 92) :
    nextP c (s.data.toList.drop i) = nextP c (s.data.toList.drop (i + 1)) + 1 := by
  rw [drop_chr s i h]
  conv => lhs; unfold nextP
  rw [if_neg hc, if_neg h92]
/-- what the loop knows at place i -/
def NextAt (c : UInt8) (s : ByteArray) (i : Nat) : Prop := i ≤ s.size + 1 ∧ nextP c s.data.toList = min (i + nextP c (s.data.toList.drop i)) s.size
theorem nextAt_zero (c : UInt8) (s : ByteArray) : NextAt c s 0 := by
  refine ⟨by omega, ?_⟩
  have := nextP_le c s.data.toList
  rw [← Lib.size_eq] at this
  rw [List.drop_zero]; omega
theorem nextAt_here {c : UInt8} {s : ByteArray} {i : Nat} (h : NextAt c s i) (hi : i < s.size) (hc : chr s i = c) : nextP c s.data.toList = i := by
  rw [h.2, next_here c s i hi hc]; omega
theorem nextAt_esc {c : UInt8} {s : ByteArray} {i : Nat} (h : NextAt c s i) (hi : i < s.size) (hc : chr s i ≠ c) (h92 : chr s i = 92) : NextAt c s (i + 2) := by
  refine ⟨by omega, ?_⟩
  rw [h.2, next_esc c s i hi hc h92]
  by_cases h1 : i + 1 < s.size
  · rw [if_pos h1]; omega
  · rw [if_neg h1, List.drop_eq_nil_of_le (by rw [← Lib.size_eq]; omega)]; simp [nextP]; omega
theorem nextAt_other {c : UInt8} {s : ByteArray} {i : Nat} (h : NextAt c s i) (hi : i < s.size) (hc : chr s i ≠ c) (h92 : chr s i ≠ 92) : NextAt c s (i + 1) := by
  refine ⟨by omega, ?_⟩
  rw [h.2, next_other c s i hi hc h92]; omega
theorem nextAt_end {c : UInt8} {s : ByteArray} {i : Nat} (h : NextAt c s i) (hi : ¬ i < s.size) : nextP c s.data.toList = s.size := by
  rw [h.2]; omega
theorem bt_ne (s : ByteArray) (i : Nat) (c : UInt8) : (bt s i == (c.toNat : Int)) = decide (chr s i = c) := by
  rw [bt_chr, Bool.eq_iff_iff, beq_iff_eq, decide_eq_true_eq]
  exact ⟨fun h => UInt8.toNat_inj.1 (by omega), fun h => by rw [h]⟩
def cutA (c : UInt8) (s : ByteArray) : ByteArray := tk s (nextP c s.data.toList)
def cutZ (c : UInt8) (s : ByteArray) : ByteArray := if nextP c s.data.toList < s.size then dr s (nextP c s.data.toList + 1) else ByteArray.empty
def cutF (c : UInt8) (s : ByteArray) : Bool := decide (nextP c s.data.toList < s.size)
theorem extract_tk (s : ByteArray) (k : Nat) : s.extract 0 k = tk s k := by
  have : s = ⟨s.data.toList.toArray⟩ := (Lib.mk_data s).symm
  rw [this, Lib.extract_mk, List.drop_zero]; rfl
theorem cut_hit {c : UInt8} {s : ByteArray} {i : Nat} (h : nextP c s.data.toList = i) (hi : i < s.size) : cutA c s = s.extract 0 i ∧ cutZ c s = s.extract (i + 1) s.size ∧ cutF c s = true := by
  unfold cutA cutZ cutF
  rw [h, if_pos hi]
  exact ⟨(extract_tk s i).symm, (Lib.extract_from s (i + 1)).symm, decide_eq_true hi⟩
theorem cut_miss {c : UInt8} {s : ByteArray} (h : nextP c s.data.toList = s.size) : cutA c s = s ∧ cutZ c s = ByteArray.empty ∧ cutF c s = false := by
  unfold cutA cutZ cutF
  rw [h, if_neg (Nat.lt_irrefl _), tk_all]
  exact ⟨rfl, rfl, decide_eq_false (Nat.lt_irrefl _)⟩
set_option maxRecDepth 100000 in
set_option maxHeartbeats 2000000 in
theorem cut_s (s : ByteArray) (x : Int) (c : UInt8) (w : World) (hs : s.size ≤ 1000000000) (hx : x = (c.toNat : Int)) :
    Calls Tryz.prog 171 #[.string s, .int .u8 x] w fun e w' => e = .returned (.tuple #[.string (cutA c s), .string (cutZ c s), .bool (cutF c s)]) ∧ Below w.heap.size w w' := by
  have hb := get_bt s
  have HQ := Lib.hid (fun i => show (bt s i == x) = decide (chr s i = c) by rw [hx]; exact bt_ne s i c)
  clear hx
  go_enter Tryz.func171, Tryz.ntmps171
  go_wp2
  go_loop [7] (fun iv => ∃ i : Nat, iv = .int .i64 i ∧ i ≤ s.size + 1 ∧ Hid (NextAt c s i)) (fun iv => s.size + 1 - (intOf iv).toNat)
  case atStart => exact ⟨0, rfl, by omega, Lib.hid (nextAt_zero c s)⟩
  case round =>
    obtain ⟨i, rfl, hi, HA⟩ := hrel
    by_cases hlt : i < s.size
    · have i0 : (0 : Int) ≤ (i : Int) := by omega
      cases c1 : (bt s i == x)
      · have HN := Lib.hid (show chr s i ≠ c by have := HQ.out i; rw [c1] at this; exact of_decide_eq_false this.symm)
        cases c2 : (bt s i == 92)
        · have HM := Lib.hid (show chr s i ≠ 92 by have := bt_ne s i 92; rw [show ((92 : UInt8).toNat : Int) = 92 from rfl, c2] at this; exact of_decide_eq_false this.symm)
          have HT := Lib.hid (nextAt_other HA.out hlt HN.out HM.out)
          go_wp2
          go_round
          case rel => exact ⟨i + 1, by go_num, by omega, HT⟩
          case measure => simp [intOf]; omega
        · have HM := Lib.hid (show chr s i = 92 by have := bt_ne s i 92; rw [show ((92 : UInt8).toNat : Int) = 92 from rfl, c2] at this; exact of_decide_eq_true this.symm)
          have HT := Lib.hid (nextAt_esc HA.out hlt HN.out HM.out)
          go_wp2
          go_round
          case rel => exact ⟨i + 2, by go_num, by omega, HT⟩
          case measure => simp [intOf]; omega
      · have HN := Lib.hid (show chr s i = c by have := HQ.out i; rw [c1] at this; exact of_decide_eq_true this.symm)
        have HC := Lib.hid (cut_hit (nextAt_here HA.out hlt HN.out) hlt)
        have m5 : IntKind.i64.wrap ((i : Int) + 1) = (i : Int) + 1 := IntWalk.i64_in _ (by omega)
        have k1 : (i : Int) ≤ (s.size : Int) := by omega
        have k2 : (0 : Int) ≤ (i : Int) + 1 := by omega
        have k3 : (i : Int) + 1 ≤ (s.size : Int) := by omega
        have k4 : ((i : Int) + 1).toNat = i + 1 := by omega
        go_wp2
        go_region_held3 (fun _ => True) (trivial) ((fail))
        go_wp2
        go_ret3
        exact ⟨by rw [HC.out.1, HC.out.2.1, HC.out.2.2]; rfl, (Below.refl _ _).drew⟩
    · have HC := Lib.hid (cut_miss (nextAt_end HA.out hlt))
      go_wp2
      go_ret3
      exact ⟨by rw [HC.out.1, HC.out.2.1, HC.out.2.2]; rfl, Below.refl _ _⟩
set_option maxRecDepth 100000 in
set_option maxHeartbeats 2000000 in
theorem next_s (s : ByteArray) (x : Int) (c : UInt8) (w : World) (hs : s.size ≤ 1000000000) (hx : x = (c.toNat : Int)) :
    Calls Tryz.prog 181 #[.string s, .int .u8 x] w fun e w' => e = .returned (.int .i64 (nextP c s.data.toList : Nat)) ∧ w = w' := by
  have hb := get_bt s
  have HQ := Lib.hid (fun i => show (bt s i == x) = decide (chr s i = c) by rw [hx]; exact bt_ne s i c)
  clear hx
  go_enter Tryz.func181, Tryz.ntmps181
  go_wp2
  go_loop [5] (fun iv => ∃ i : Nat, iv = .int .i64 i ∧ i ≤ s.size + 1 ∧ Hid (NextAt c s i)) (fun iv => s.size + 1 - (intOf iv).toNat)
  case atStart => exact ⟨0, rfl, by omega, Lib.hid (nextAt_zero c s)⟩
  case round =>
    obtain ⟨i, rfl, hi, HA⟩ := hrel
    by_cases hlt : i < s.size
    · have i0 : (0 : Int) ≤ (i : Int) := by omega
      cases c1 : (bt s i == x)
      · have HN := Lib.hid (show chr s i ≠ c by have := HQ.out i; rw [c1] at this; exact of_decide_eq_false this.symm)
        cases c2 : (bt s i == 92)
        · have HM := Lib.hid (show chr s i ≠ 92 by have := bt_ne s i 92; rw [show ((92 : UInt8).toNat : Int) = 92 from rfl, c2] at this; exact of_decide_eq_false this.symm)
          have HT := Lib.hid (nextAt_other HA.out hlt HN.out HM.out)
          go_wp2
          go_round
          case rel => exact ⟨i + 1, by go_num, by omega, HT⟩
          case measure => simp [intOf]; omega
        · have HM := Lib.hid (show chr s i = 92 by have := bt_ne s i 92; rw [show ((92 : UInt8).toNat : Int) = 92 from rfl, c2] at this; exact of_decide_eq_true this.symm)
          have HT := Lib.hid (nextAt_esc HA.out hlt HN.out HM.out)
          go_wp2
          go_round
          case rel => exact ⟨i + 2, by go_num, by omega, HT⟩
          case measure => simp [intOf]; omega
      · have HN := Lib.hid (show chr s i = c by have := HQ.out i; rw [c1] at this; exact of_decide_eq_true this.symm)
        have HC := Lib.hid (nextAt_here HA.out hlt HN.out)
        go_wp2
        go_ret
        exact ⟨by rw [HC.out]; rfl, rfl⟩
    · have HC := Lib.hid (nextAt_end HA.out hlt)
      go_wp2
      go_ret
      exact ⟨by rw [HC.out]; rfl, rfl⟩
end Nam
end Go.Proofs.YtbkignlbcneddaaGreatDoor
end

section
/-
  Contracts of name.unescaped, name.escaped, name.check and of the specification's value. Condition: at most 1000000000 bytes.
-/
set_option maxRecDepth 100000
namespace Go.Proofs.YtbkignlbcneddaaGreatDoor
namespace Nam
open Go.RowKit Go.PlainAid
theorem valQ_end (s : ByteArray) (i : Nat) (h : i < s.size) (h92 : chr s i = 92) (h1 : ¬ i + 1 < s.size) : valQ (s.data.toList.drop i) = none := by
  rw [drop_chr s i h, List.drop_eq_nil_of_le (by rw [← Lib.size_eq]; omega)]
  unfold valQ; rw [if_pos h92]
theorem valQ_esc (s : ByteArray) (i : Nat) (h : i + 1 < s.size) (h92 : chr s i = 92) :
    valQ (s.data.toList.drop i) = if spec4 (chr s (i + 1)) then (valQ (s.data.toList.drop (i + 2))).map (chr s (i + 1) :: ·) else none := by
  rw [drop_chr s i (by omega), drop_chr s (i + 1) h]
  conv => lhs; unfold valQ
  rw [if_pos h92]
theorem valQ_other (s : ByteArray) (i : Nat) (h : i < s.size) (h92 : chr s i ≠ 92) :
    valQ (s.data.toList.drop i) = if spec4 (chr s i) then none else (valQ (s.data.toList.drop (i + 1))).map (chr s i :: ·) := by
  rw [drop_chr s i h]
  conv => lhs; unfold valQ
  rw [if_neg h92]
theorem valP_end (s : ByteArray) (i : Nat) (h : i < s.size) (h92 : chr s i = 92) (h1 : ¬ i + 1 < s.size) : valP (s.data.toList.drop i) = none := by
  rw [drop_chr s i h, List.drop_eq_nil_of_le (by rw [← Lib.size_eq]; omega)]
  unfold valP; rw [if_pos h92]
theorem valP_esc (s : ByteArray) (i : Nat) (h : i + 1 < s.size) (h92 : chr s i = 92) :
    valP (s.data.toList.drop i) = if spec4 (chr s (i + 1)) then (valP (s.data.toList.drop (i + 2))).map (chr s (i + 1) :: ·) else none := by
  rw [drop_chr s i (by omega), drop_chr s (i + 1) h]
  conv => lhs; unfold valP
  rw [if_pos h92]
theorem valP_other (s : ByteArray) (i : Nat) (h : i < s.size) (h92 : chr s i ≠ 92) :
    valP (s.data.toList.drop i) = if chr s i = 61 ∨ chr s i = 43 then none else (valP (s.data.toList.drop (i + 1))).map (chr s i :: ·) := by
  rw [drop_chr s i h]
  conv => lhs; unfold valP
  rw [if_neg h92]
/-- what is known at place i: what has been read, and what is left -/
def ValAt (f : List UInt8 → Option (List UInt8)) (s : ByteArray) (i : Nat) (out : List UInt8) : Prop := f s.data.toList = (f (s.data.toList.drop i)).map (out ++ ·)
theorem valAt_step {f : List UInt8 → Option (List UInt8)} {s : ByteArray} {i j : Nat} {out : List UInt8} {c : UInt8} (h : ValAt f s i out) (e : f (s.data.toList.drop i) = (f (s.data.toList.drop j)).map (c :: ·)) : ValAt f s j (out ++ [c]) := by
  unfold ValAt at *
  rw [h, e, Option.map_map]; congr 1; funext l; simp
theorem valAt_none {f : List UInt8 → Option (List UInt8)} {s : ByteArray} {i : Nat} {out : List UInt8} (h : ValAt f s i out) (e : f (s.data.toList.drop i) = none) : f s.data.toList = none := by
  unfold ValAt at *
  rw [h, e]; rfl
theorem valAt_end {f : List UInt8 → Option (List UInt8)} {s : ByteArray} {i : Nat} {out : List UInt8} (h : ValAt f s i out) (hf : f [] = some []) (hi : ¬ i < s.size) : f s.data.toList = some out := by
  unfold ValAt at *
  rw [h, List.drop_eq_nil_of_le (by rw [← Lib.size_eq]; omega), hf]; simp
def optB (o : Option (List UInt8)) : ByteArray := ofB (o.getD [])
theorem chr_92 (s : ByteArray) (i : Nat) {b : Bool} (h : (bt s i == 92) = b) : decide (chr s i = 92) = b := by
  rw [← h]; exact (bt_ne s i 92).symm
set_option maxRecDepth 100000 in
set_option maxHeartbeats 4000000 in
theorem unescaped_s (s : ByteArray) (w : World) (hs : s.size ≤ 1000000000) :
    Calls Tryz.prog 220 #[.string s] w fun e w' => e = .returned (.tuple #[.string (optB (valQ s.data.toList)), .bool (valQ s.data.toList).isSome]) ∧ Below w.heap.size w w' := by
  have hb := get_bt s
  have HN := Lib.hid (bld_new w)
  go_enter Tryz.func220, Tryz.ntmps220
  go_wp2
  go_loopw [5] (fun iv wr => ∃ (i : Nat) (out : List UInt8), i ≤ s.size ∧ iv = .int .i64 i ∧ out.length ≤ i ∧ Hid (ValAt valQ s i out) ∧ Bld w.heap.size w.heap.size out wr ∧ Below w.heap.size w wr)
    (fun iv _ => s.size - (intOf iv).toNat)
  case atStart => exact ⟨0, [], Nat.zero_le _, rfl, by simp, Lib.hid (by unfold ValAt; simp), HN.out, (Below.refl _ _).alloc (Nat.le_refl _) _⟩
  case round =>
    obtain ⟨i, out, hi, rfl, hol, HU, HB, hbel⟩ := hrel
    by_cases hlt : i < s.size
    · have HC := Lib.hid (bt_chr s i)
      cases c0 : (bt s i == 92)
      · have HM := Lib.hid (of_decide_eq_false (chr_92 s i c0))
        have HE := Lib.hid (valQ_other s i hlt HM.out)
        cases c1 : spec4 (chr s i)
        · rw [c1] at HE
          have HT := Lib.hid (valAt_step (j := i + 1) (c := chr s i) HU.out HE.out)
          go_wp2_with (go_at_call 222; refine (mark_s _ (chr s i) _ HC.out).mono ?_; rintro e w' ⟨rfl, rfl⟩; rw [c1])
          refine (writeByte_s w.heap.size w.heap.size _ (chr s i) _ _ HB HC.out (by omega) hbel.size).mono ?_
          rintro e w1 ⟨rfl, HB1, hb1⟩
          go_wp2
          go_roundw
          case rel => exact ⟨i + 1, _, by omega, by go_num, by simp; omega, HT, HB1, hbel.trans hb1⟩
          case measure => simp [intOf]; omega
        · rw [c1] at HE
          have HF := Lib.hid (valAt_none HU.out HE.out)
          go_wp2_with (go_at_call 222; refine (mark_s _ (chr s i) _ HC.out).mono ?_; rintro e w' ⟨rfl, rfl⟩; rw [c1])
          go_ret2
          exact ⟨by rw [HF.out]; rfl, hbel⟩
      · have HM := Lib.hid (of_decide_eq_true (chr_92 s i c0))
        by_cases h1 : i + 1 < s.size
        · have HE := Lib.hid (valQ_esc s i h1 HM.out)
          have HC1 := Lib.hid (bt_chr s (i + 1))
          have q1 : ((i : Int) + 1 == (s.size : Int)) = false := beq_eq_false_iff_ne.2 (by omega)
          have q2 : ((i : Int) + 1).toNat = i + 1 := by omega
          cases c1 : spec4 (chr s (i + 1))
          · rw [c1] at HE
            have HF := Lib.hid (valAt_none HU.out HE.out)
            go_wp2_with (go_at_call 222; refine (mark_s _ (chr s (i + 1)) _ HC1.out).mono ?_; rintro e w' ⟨rfl, rfl⟩; rw [c1])
            go_ret2
            exact ⟨by rw [HF.out]; rfl, hbel⟩
          · rw [c1] at HE
            have HT := Lib.hid (valAt_step (j := i + 2) (c := chr s (i + 1)) HU.out HE.out)
            go_wp2_with (go_at_call 222; refine (mark_s _ (chr s (i + 1)) _ HC1.out).mono ?_; rintro e w' ⟨rfl, rfl⟩; rw [c1])
            refine (writeByte_s w.heap.size w.heap.size _ (chr s (i + 1)) _ _ HB HC1.out (by omega) hbel.size).mono ?_
            rintro e w1 ⟨rfl, HB1, hb1⟩
            go_wp2
            go_roundw
            case rel => exact ⟨i + 2, _, by omega, by go_num, by simp; omega, HT, HB1, hbel.trans hb1⟩
            case measure => simp [intOf]; omega
        · have HF := Lib.hid (valAt_none HU.out (valQ_end s i hlt HM.out h1))
          have q1 : ((i : Int) + 1 == (s.size : Int)) = true := beq_iff_eq.2 (by omega)
          go_wp2
          go_ret2
          exact ⟨by rw [HF.out]; rfl, hbel⟩
    · have HF := Lib.hid (valAt_end HU.out rfl hlt)
      go_wp2_with (go_at_call 63; refine (string_s w.heap.size w.heap.size _ _ HB hbel.size).mono ?_; rintro e w1 ⟨rfl, hb1⟩)
      go_ret2
      exact ⟨by rw [HF.out]; rfl, hbel.trans hb1⟩
set_option maxRecDepth 100000 in
set_option maxHeartbeats 4000000 in
theorem value_s (s : ByteArray) (w : World) (hs : s.size ≤ 1000000000) :
    Calls Tryz.prog 224 #[.string s] w fun e w' => e = .returned (.tuple #[.string (optB (valP s.data.toList)), .bool (valP s.data.toList).isSome]) ∧ Below w.heap.size w w' := by
  have hb := get_bt s
  go_enter Tryz.func224, Tryz.ntmps224
  go_wp2
  go_loopw [4, 5] (fun bv iv wr => ∃ (i : Nat) (out : List UInt8), i ≤ s.size ∧ iv = .int .i64 i ∧ out.length ≤ i ∧ Hid (ValAt valP s i out) ∧ wr.ownsRow w.heap.size 5 1 bv out.length (bcells out) ∧ Below w.heap.size w wr)
    (fun _ iv _ => s.size - (intOf iv).toNat)
  case atStart => exact ⟨0, [], Nat.zero_le _, rfl, by simp, Lib.hid (by unfold ValAt; simp), World.ownsRow_nil _ _ _ _, Below.refl _ _⟩
  case round =>
    obtain ⟨i, out, hi, rfl, hol, HU, hown, hbel⟩ := hrel
    have i0 : (0 : Int) ≤ (i : Int) := by omega
    by_cases hlt : i < s.size
    · have HC := Lib.hid (bt_chr s i)
      cases c0 : (bt s i == 92)
      · have HM := Lib.hid (of_decide_eq_false (chr_92 s i c0))
        have HE := Lib.hid (valP_other s i hlt HM.out)
        have e61 : (bt s i == 61) = decide (chr s i = 61) := bt_ne s i 61
        have e43 : (bt s i == 43) = decide (chr s i = 43) := bt_ne s i 43
        by_cases d1 : chr s i = 61
        · have HF := Lib.hid (valAt_none HU.out (by rw [HE.out, if_pos (.inl d1)]))
          rw [decide_eq_true d1] at e61
          clear e43 d1
          go_wp2
          go_ret2
          exact ⟨by rw [HF.out]; rfl, hbel⟩
        · by_cases d2 : chr s i = 43
          · have HF := Lib.hid (valAt_none HU.out (by rw [HE.out, if_pos (.inr d2)]))
            rw [decide_eq_false d1] at e61
            rw [decide_eq_true d2] at e43
            clear d1 d2
            go_wp2
            go_ret2
            exact ⟨by rw [HF.out]; rfl, hbel⟩
          · have HT := Lib.hid (valAt_step (j := i + 1) (c := chr s i) HU.out (by rw [HE.out, if_neg (by rintro (h | h); exact d1 h; exact d2 h)]))
            rw [decide_eq_false d1] at e61
            rw [decide_eq_false d2] at e43
            clear d1 d2
            go_wp2_with (at_builtin; go_must (refine push_byte _ hown (.tmp 41) (.tmp 45) _ ?_ ?_ ?_ ?_ ?_ ?_ ?_; exact rfl; exact rfl; exact rfl; exact rfl; omega; exact hbel.size; intro v' w1 hown1 hb1))
            go_roundw
            case rel => exact ⟨i + 1, out ++ [chr s i], by omega, by go_num, by simp; omega, HT, by rw [List.length_append, bcells_append]; rw [HC.out] at hown1; exact hown1, hbel.trans hb1⟩
            case measure => simp [intOf]; omega
      · have HM := Lib.hid (of_decide_eq_true (chr_92 s i c0))
        by_cases h1 : i + 1 < s.size
        · have HE := Lib.hid (valP_esc s i h1 HM.out)
          have HC1 := Lib.hid (bt_chr s (i + 1))
          have q1 : decide ((s.size : Int) ≤ (i : Int) + 1) = false := decide_eq_false (by omega)
          have q2 : ((i : Int) + 1).toNat = i + 1 := by omega
          cases c1 : spec4 (chr s (i + 1))
          · rw [c1] at HE
            have HF := Lib.hid (valAt_none HU.out HE.out)
            go_wp2_with (go_at_call 184; refine (special_s _ (chr s (i + 1)) _ HC1.out).mono ?_; rintro e w' ⟨rfl, rfl⟩; rw [c1])
            go_ret2
            exact ⟨by rw [HF.out]; rfl, hbel⟩
          · rw [c1] at HE
            have HT := Lib.hid (valAt_step (j := i + 2) (c := chr s (i + 1)) HU.out HE.out)
            go_wp2_with (first
              | (go_at_call 184; refine (special_s _ (chr s (i + 1)) _ HC1.out).mono ?_; rintro e w' ⟨rfl, rfl⟩; rw [c1])
              | (at_builtin; go_must (refine push_byte _ hown (.tmp 41) (.tmp 45) _ ?_ ?_ ?_ ?_ ?_ ?_ ?_; exact rfl; exact rfl; exact rfl; exact rfl; omega; exact hbel.size; intro v' w1 hown1 hb1)))
            go_roundw
            case rel => exact ⟨i + 2, out ++ [chr s (i + 1)], by omega, by go_num, by simp; omega, HT, by rw [List.length_append, bcells_append]; rw [HC1.out] at hown1; exact hown1, hbel.trans hb1⟩
            case measure => simp [intOf]; omega
        · have HF := Lib.hid (valAt_none HU.out (valP_end s i hlt HM.out h1))
          have q1 : decide ((s.size : Int) ≤ (i : Int) + 1) = true := decide_eq_true (by omega)
          go_wp2
          go_ret2
          exact ⟨by rw [HF.out]; rfl, hbel⟩
    · have HF := Lib.hid (valAt_end HU.out rfl hlt)
      have hbk := back hown
      go_wp2
      go_ret2
      exact ⟨by rw [HF.out]; rfl, hbel⟩
theorem escV_snoc (l : List UInt8) (c : UInt8) : escV (l ++ [c]) = escV l ++ escB c := by unfold escV; simp
theorem escV_len : ∀ l : List UInt8, (escV l).length ≤ 2 * l.length
  | [] => by simp [escV]
  | c :: l => by
    have e : escV (c :: l) = escB c ++ escV l := rfl
    have := escV_len l
    rw [e, List.length_append, List.length_cons]
    unfold escB; split <;> simp <;> omega
theorem escV_step (s : ByteArray) (k : Nat) (h : k < s.size) : escV (s.data.toList.take (k + 1)) = escV (s.data.toList.take k) ++ escB (chr s k) := by rw [take_chr s k h, escV_snoc]
def escS (s : ByteArray) : ByteArray := ofB (escV s.data.toList)
theorem escS_size (s : ByteArray) : (escS s).size ≤ 2 * s.size := by unfold escS; rw [ofB_size, Lib.size_eq]; exact escV_len _
set_option maxRecDepth 100000 in
set_option maxHeartbeats 2000000 in
theorem escaped_s (s : ByteArray) (w : World) (hs : s.size ≤ 1000000000) :
    Calls Tryz.prog 174 #[.string s] w fun e w' => e = .returned (.string (escS s)) ∧ Below w.heap.size w w' := by
  have hb := get_bt s
  have HN := Lib.hid (bld_new w)
  go_enter Tryz.func174, Tryz.ntmps174
  go_wp2
  go_loopw [7] (fun i wr => ∃ k : Nat, k ≤ s.size ∧ i = .int .i64 k ∧ Bld w.heap.size w.heap.size (escV (s.data.toList.take k)) wr ∧ Below w.heap.size w wr)
    (fun i _ => s.size - (intOf i).toNat)
  case atStart => exact ⟨0, Nat.zero_le _, rfl, HN.out, (Below.refl _ _).alloc (Nat.le_refl _) _⟩
  case round =>
    obtain ⟨k, hk, rfl, HB, hbel⟩ := hrel
    have hl3 := escV_len (s.data.toList.take k)
    have hl4 : (s.data.toList.take k).length ≤ k := List.length_take_le _ _
    have HC := Lib.hid (bt_chr s k)
    by_cases hlt : k < s.size
    · have HST := Lib.hid (escV_step s k hlt)
      cases c1 : spec4 (chr s k)
      · have HST2 := Lib.hid (show escV (s.data.toList.take (k + 1)) = escV (s.data.toList.take k) ++ [chr s k] by rw [HST.out]; unfold escB; rw [c1]; rfl)
        go_wp2_with (go_at_call 222; refine (mark_s _ (chr s k) _ HC.out).mono ?_; rintro e w' ⟨rfl, rfl⟩; rw [c1])
        refine (writeByte_s w.heap.size w.heap.size _ (chr s k) _ _ HB HC.out (by omega) hbel.size).mono ?_
        rintro e w1 ⟨rfl, HB1, hb1⟩
        go_wp2
        go_roundw
        case rel => exact ⟨k + 1, by omega, by go_num, by rw [HST2.out]; exact HB1, hbel.trans hb1⟩
        case measure => simp [intOf]; omega
      · have HST2 := Lib.hid (show escV (s.data.toList.take (k + 1)) = (escV (s.data.toList.take k) ++ [92]) ++ [chr s k] by rw [HST.out]; unfold escB; rw [c1]; simp)
        go_wp2_with (go_at_call 222; refine (mark_s _ (chr s k) _ HC.out).mono ?_; rintro e w' ⟨rfl, rfl⟩; rw [c1])
        refine (writeByte_s w.heap.size w.heap.size _ 92 92 _ HB rfl (by omega) hbel.size).mono ?_
        rintro e w1 ⟨rfl, HB1, hb1⟩
        go_wp2_with fail
        refine (writeByte_s w.heap.size w.heap.size _ (chr s k) _ _ HB1 HC.out (by simp; omega) (Nat.le_trans hbel.size hb1.size)).mono ?_
        rintro e w2 ⟨rfl, HB2, hb2⟩
        go_wp2
        go_roundw
        case rel => exact ⟨k + 1, by omega, by go_num, by rw [HST2.out]; exact HB2, hbel.trans (hb1.trans hb2)⟩
        case measure => simp [intOf]; omega
    · have HT := Lib.hid (show s.data.toList.take k = s.data.toList by rw [List.take_of_length_le]; simp; omega)
      rw [HT.out] at HB
      go_wp2_with (go_at_call 63; refine (string_s w.heap.size w.heap.size _ _ HB hbel.size).mono ?_; rintro e w1 ⟨rfl, hb1⟩)
      go_ret
      exact ⟨rfl, hbel.trans hb1⟩
set_option maxRecDepth 100000 in
set_option maxHeartbeats 2000000 in
theorem check_s (p : Pr) (w : World) (h1 : p.1.size ≤ 1000000000) (h2 : p.2.size ≤ 1000000000) :
    Calls Tryz.prog 173 #[.agg #[.string p.1, .string p.2]] w fun e w' => e = .returned (.int .i64 (prE p)) ∧ Below w.heap.size w w' := by
  obtain ⟨a, b⟩ := p
  simp only at h1 h2
  cases c1 : nameB a
  · have HE := Lib.hid (show prE (a, b) = 5 by unfold prE; rw [if_pos c1])
    go_enter Tryz.func173, Tryz.ntmps173
    go_wp2_with (go_at_call 138; refine (name_s a _ h1).mono ?_; rintro e w' ⟨rfl, rfl⟩; rw [c1])
    go_ret
    exact ⟨by rw [HE.out]; rfl, (Below.refl _ _).alloc (Nat.le_refl _) _⟩
  · cases c2 : cleanB b
    · have HE := Lib.hid (show prE (a, b) = 8 by unfold prE; simp only []; rw [if_neg (by rw [c1]; decide), if_pos c2])
      go_enter Tryz.func173, Tryz.ntmps173
      go_wp2_with (first
        | (go_at_call 138; refine (name_s a _ h1).mono ?_; rintro e w' ⟨rfl, rfl⟩; rw [c1])
        | (go_at_call 179; refine (clean_s b _ h2).mono ?_; rintro e w' ⟨rfl, rfl⟩; rw [c2]))
      go_ret
      exact ⟨by rw [HE.out]; rfl, (Below.refl _ _).alloc (Nat.le_refl _) _⟩
    · have HE := Lib.hid (show prE (a, b) = 0 by unfold prE; simp only []; rw [if_neg (by rw [c1]; decide), if_neg (by rw [c2]; decide)])
      go_enter Tryz.func173, Tryz.ntmps173
      go_wp2_with (first
        | (go_at_call 138; refine (name_s a _ h1).mono ?_; rintro e w' ⟨rfl, rfl⟩; rw [c1])
        | (go_at_call 179; refine (clean_s b _ h2).mono ?_; rintro e w' ⟨rfl, rfl⟩; rw [c2]))
      go_ret
      exact ⟨by rw [HE.out]; rfl, (Below.refl _ _).alloc (Nat.le_refl _) _⟩
end Nam
end Go.Proofs.YtbkignlbcneddaaGreatDoor
end
