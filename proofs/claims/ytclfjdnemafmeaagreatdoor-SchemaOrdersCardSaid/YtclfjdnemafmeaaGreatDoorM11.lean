/-
  Texts of the schema layer and of those beneath it, joined: NamC, NamM, NamV. Conditions stand at each contract.
-/
import Derived.Deep.RegionHeld3
import Derived.Test.YtclfjdnemafmeaaGreatDoorM02
import Derived.Test.YtclfjdnemafmeaaGreatDoorM08
import Derived.Test.YtclfjdnemafmeaaGreatDoorM09
import Derived.Test.YtclfjdnemafmeaaGreatDoorM10

section
/-
  Plain facts on distinguished names: the case of a text does not matter for its normal form; parents, children, renaming; the order. No condition.
-/
set_option maxRecDepth 100000
set_option linter.unusedVariables false
set_option linter.unusedSimpArgs false
set_option linter.unnecessarySimpa false
namespace Go.Proofs.YtclfjdnemafmeaaGreatDoor
namespace Nam
open Go.PlainAid

/-! ### case -/
theorem lowB_mark (x c : UInt8) (h1 : ¬ (65 ≤ c.toNat ∧ c.toNat ≤ 90)) (h2 : ¬ (97 ≤ c.toNat ∧ c.toNat ≤ 122)) : lowB x = c ↔ x = c := by
  by_cases h : 65 ≤ x.toNat ∧ x.toNat ≤ 90
  · have e : (lowB x).toNat = x.toNat + 32 := by
      have h3 : (32 : UInt8).toNat = 32 := rfl
      unfold lowB; rw [if_pos h, UInt8.toNat_add]; omega
    constructor
    · intro e2; rw [e2] at e; omega
    · intro e2; subst e2; exact absurd h h1
  · have e : lowB x = x := by unfold lowB; rw [if_neg h]
    rw [e]
theorem low_92 (x : UInt8) : lowB x = 92 ↔ x = 92 := lowB_mark x 92 (by decide) (by decide)
theorem pieces_low (c : UInt8) (h1 : ¬ (65 ≤ c.toNat ∧ c.toNat ≤ 90)) (h2 : ¬ (97 ≤ c.toNat ∧ c.toNat ≤ 122)) : ∀ l, pieces c (lowL l) = (pieces c l).map lowL
  | [] => rfl
  | [x] => by
    show pieces c [lowB x] = _
    have e1 : pieces c [lowB x] = if lowB x = c then [] :: pieces c [] else if lowB x = 92 then [[lowB x]] else headOn [lowB x] (pieces c []) := by conv => lhs; unfold pieces
    have e2 : pieces c [x] = if x = c then [] :: pieces c [] else if x = 92 then [[x]] else headOn [x] (pieces c []) := by conv => lhs; unfold pieces
    rw [e1, e2]
    by_cases h : x = c
    · rw [if_pos h, if_pos ((lowB_mark x c h1 h2).2 h)]; rfl
    · rw [if_neg h, if_neg (fun e => h ((lowB_mark x c h1 h2).1 e))]
      by_cases h3 : x = 92
      · rw [if_pos h3, if_pos ((low_92 x).2 h3)]; rfl
      · rw [if_neg h3, if_neg (fun e => h3 ((low_92 x).1 e))]; rfl
  | x :: y :: r => by
    show pieces c (lowB x :: lowB y :: lowL r) = _
    have e1 : pieces c (lowB x :: lowB y :: lowL r) = if lowB x = c then [] :: pieces c (lowL (y :: r)) else if lowB x = 92 then headOn [lowB x, lowB y] (pieces c (lowL r)) else headOn [lowB x] (pieces c (lowL (y :: r))) := by
      conv => lhs; unfold pieces
      rfl
    have e2 : pieces c (x :: y :: r) = if x = c then [] :: pieces c (y :: r) else if x = 92 then headOn [x, y] (pieces c r) else headOn [x] (pieces c (y :: r)) := by conv => lhs; unfold pieces
    have hh : ∀ (a : List UInt8) (ps : List (List UInt8)), headOn (lowL a) (ps.map lowL) = (headOn a ps).map lowL := fun a ps => by
      cases ps with
      | nil => rfl
      | cons p ps => simp [headOn, lowL]
    rw [e1, e2]
    by_cases h : x = c
    · rw [if_pos h, if_pos ((lowB_mark x c h1 h2).2 h), pieces_low c h1 h2 (y :: r)]; rfl
    · rw [if_neg h, if_neg (fun e => h ((lowB_mark x c h1 h2).1 e))]
      by_cases h3 : x = 92
      · rw [if_pos h3, if_pos ((low_92 x).2 h3), pieces_low c h1 h2 r, ← hh]; rfl
      · rw [if_neg h3, if_neg (fun e => h3 ((low_92 x).1 e)), pieces_low c h1 h2 (y :: r), ← hh]; rfl
theorem nextP_low (c : UInt8) (h1 : ¬ (65 ≤ c.toNat ∧ c.toNat ≤ 90)) (h2 : ¬ (97 ≤ c.toNat ∧ c.toNat ≤ 122)) : ∀ l, nextP c (lowL l) = nextP c l
  | [] => rfl
  | [x] => by
    show nextP c [lowB x] = _
    have e : ∀ z, nextP c [z] = if z = c then 0 else if z = 92 then 1 else nextP c [] + 1 := fun z => by conv => lhs; unfold nextP
    rw [e, e]
    by_cases h : x = c
    · rw [if_pos h, if_pos ((lowB_mark x c h1 h2).2 h)]
    · rw [if_neg h, if_neg (fun e => h ((lowB_mark x c h1 h2).1 e))]
      by_cases h3 : x = 92
      · rw [if_pos h3, if_pos ((low_92 x).2 h3)]
      · rw [if_neg h3, if_neg (fun e => h3 ((low_92 x).1 e))]
  | x :: y :: r => by
    show nextP c (lowB x :: lowB y :: lowL r) = _
    have e1 : nextP c (lowB x :: lowB y :: lowL r) = if lowB x = c then 0 else if lowB x = 92 then nextP c (lowL r) + 2 else nextP c (lowL (y :: r)) + 1 := by
      conv => lhs; unfold nextP
      rfl
    have e2 : nextP c (x :: y :: r) = if x = c then 0 else if x = 92 then nextP c r + 2 else nextP c (y :: r) + 1 := by conv => lhs; unfold nextP
    rw [e1, e2, nextP_low c h1 h2 r, nextP_low c h1 h2 (y :: r)]
    by_cases h : x = c
    · rw [if_pos h, if_pos ((lowB_mark x c h1 h2).2 h)]
    · rw [if_neg h, if_neg (fun e => h ((lowB_mark x c h1 h2).1 e))]
      by_cases h3 : x = 92
      · rw [if_pos h3, if_pos ((low_92 x).2 h3)]
      · rw [if_neg h3, if_neg (fun e => h3 ((low_92 x).1 e))]
theorem spec4_low (x : UInt8) : spec4 (lowB x) = spec4 x := by
  rw [Bool.eq_iff_iff, spec4_iff, spec4_iff, lowB_mark x 44 (by decide) (by decide), lowB_mark x 61 (by decide) (by decide), lowB_mark x 43 (by decide) (by decide), low_92]
theorem valP_low : ∀ l, valP (lowL l) = (valP l).map lowL
  | [] => rfl
  | [x] => by
    show valP [lowB x] = _
    have e : ∀ z, valP [z] = if z = 92 then none else if z = 61 ∨ z = 43 then none else (valP []).map (z :: ·) := fun z => by conv => lhs; unfold valP
    have m2 : (lowB x = 61 ∨ lowB x = 43) ↔ (x = 61 ∨ x = 43) := by rw [lowB_mark x 61 (by decide) (by decide), lowB_mark x 43 (by decide) (by decide)]
    rw [e, e]
    by_cases h : x = 92
    · rw [if_pos h, if_pos ((low_92 x).2 h)]; rfl
    · rw [if_neg h, if_neg (fun e => h ((low_92 x).1 e))]
      by_cases h3 : x = 61 ∨ x = 43
      · rw [if_pos h3, if_pos (m2.2 h3)]; rfl
      · rw [if_neg h3, if_neg (fun e => h3 (m2.1 e))]; rfl
  | x :: y :: r => by
    show valP (lowB x :: lowB y :: lowL r) = _
    have e1 : valP (lowB x :: lowB y :: lowL r) = if lowB x = 92 then (if spec4 (lowB y) then (valP (lowL r)).map (lowB y :: ·) else none) else if lowB x = 61 ∨ lowB x = 43 then none else (valP (lowL (y :: r))).map (lowB x :: ·) := by
      conv => lhs; unfold valP
      rfl
    have e2 : valP (x :: y :: r) = if x = 92 then (if spec4 y then (valP r).map (y :: ·) else none) else if x = 61 ∨ x = 43 then none else (valP (y :: r)).map (x :: ·) := by conv => lhs; unfold valP
    have m2 : (lowB x = 61 ∨ lowB x = 43) ↔ (x = 61 ∨ x = 43) := by rw [lowB_mark x 61 (by decide) (by decide), lowB_mark x 43 (by decide) (by decide)]
    rw [e1, e2, valP_low r, valP_low (y :: r)]
    by_cases h : x = 92
    · rw [if_pos h, if_pos ((low_92 x).2 h)]
      by_cases h4 : spec4 y = true
      · rw [if_pos h4, if_pos (by rw [spec4_low]; exact h4)]; cases valP r <;> rfl
      · rw [if_neg h4, if_neg (by rw [spec4_low]; exact h4)]; rfl
    · rw [if_neg h, if_neg (fun e => h ((low_92 x).1 e))]
      by_cases h3 : x = 61 ∨ x = 43
      · rw [if_pos h3, if_pos (m2.2 h3)]; rfl
      · rw [if_neg h3, if_neg (fun e => h3 (m2.1 e))]; cases valP (y :: r) <;> rfl
def lowP (p : Pr) : Pr := (lowS p.1, lowS p.2)
theorem prE_low (p : Pr) : prE (lowP p) = prE p := by unfold prE lowP; rw [nameB_low, cleanB_low]
theorem rawK_low (p : ByteArray) : rawK (lowS p) = lowS (rawK p) := by
  unfold rawK trimS tk lowS
  simp only [data_mk]
  rw [nextP_low 61 (by decide) (by decide), ← trimR_low]
  unfold lowL; rw [List.map_take]
theorem rawV_low (p : ByteArray) : rawV (lowS p) = lowS (rawV p) := by
  unfold rawV trimS dr lowS
  simp only [data_mk]
  rw [nextP_low 61 (by decide) (by decide), ← trimR_low]
  unfold lowL; rw [List.map_drop]
theorem lowS_data (s : ByteArray) : (lowS s).data.toList = lowL s.data.toList := rfl
theorem ofB_low (l : List UInt8) : ofB (lowL l) = lowS (ofB l) := rfl
theorem compE_low (p : ByteArray) : compE (lowS p) = compE p := by
  unfold compE
  rw [lowS_size, lowS_data, nextP_low 61 (by decide) (by decide), rawV_low, lowS_data, valP_low, rawK_low]
  split
  · cases valP (rawV p).data.toList with
    | none => rfl
    | some v => show prE (lowS (rawK p), ofB (lowL v)) = _; exact prE_low (rawK p, ofB v)
  · rfl
theorem compV_low (p : ByteArray) : compV (lowS p) = lowP (compV p) := by
  unfold compV
  rw [rawV_low, lowS_data, valP_low, rawK_low]
  cases valP (rawV p).data.toList with
  | none => rfl
  | some v => rfl
theorem piecesS_low (s : ByteArray) : piecesS (lowS s) = (piecesS s).map lowS := by
  unfold piecesS
  rw [lowS_size, lowS_data, pieces_low 44 (by decide) (by decide)]
  split
  · rfl
  · rw [List.map_map, List.map_map]; rfl
theorem firstE_low : ∀ l, firstE (l.map lowS) = firstE l
  | [] => rfl
  | p :: r => by
    show (if compE (lowS p) = 0 then firstE (r.map lowS) else compE (lowS p)) = _
    rw [compE_low, firstE_low r]; rfl
theorem parseE_low (s : ByteArray) : parseE (lowS s) = parseE s := by
  unfold parseE; rw [piecesS_low, firstE_low, List.length_map]
theorem parseV_low (s : ByteArray) : parseV (lowS s) = (parseV s).map lowP := by
  unfold parseV
  rw [parseE_low]
  split
  · rw [piecesS_low, List.map_map, List.map_map]
    apply List.map_congr_left
    intro p _
    exact compV_low p
  · rfl
theorem fmtC_low (p : Pr) : fmtC (lowP p) = fmtC p := by unfold fmtC lowP; rw [lowS_low, foldS_low]
theorem fmtFirst_low : ∀ l, fmtFirst (l.map lowP) = fmtFirst l
  | [] => rfl
  | p :: r => by
    show (if prE (lowP p) = 0 then fmtFirst (r.map lowP) else prE (lowP p)) = _
    rw [prE_low, fmtFirst_low r]; rfl
theorem fmtE_low (l : List Pr) : fmtE (l.map lowP) = fmtE l := by unfold fmtE; rw [fmtFirst_low, List.length_map]
theorem fmtV_low (l : List Pr) : fmtV (l.map lowP) = fmtV l := by
  unfold fmtV
  rw [fmtE_low, List.map_map]
  split
  · congr 2
    apply List.map_congr_left
    intro p _
    exact fmtC_low p
  · rfl
theorem clean_low (s : ByteArray) : cleanE (lowS s) = cleanE s ∧ cleanV (lowS s) = cleanV s := by
  unfold cleanE cleanV
  rw [parseE_low, parseV_low, fmtE_low, fmtV_low]
  exact ⟨rfl, rfl⟩
theorem clean_again {s : ByteArray} (h : cleanE s = 0) : normB (cleanV s) = true ∧ cleanV (cleanV s) = cleanV s ∧ cleanE (cleanV s) = 0 := by
  rw [cleanE_eq] at h
  have h0 := fmt_parse_ok h
  have hv : cleanV s = fmtV (parseV s) := by unfold cleanV; rw [if_pos h]
  have hn := norm_fmt h0
  rw [hv]
  refine ⟨hn, ?_, ?_⟩
  · unfold cleanV; rw [if_pos (parse_fmt h0).1, (parse_fmt h0).2, (fmt_can h0).2]
  · rw [cleanE_eq]; exact (parse_fmt h0).1
theorem norm_clean (s : ByteArray) : normB s = (decide (cleanE s = 0) && decide (cleanV s = s)) := by
  rw [cleanE_eq]
  unfold normB cleanV
  by_cases h : parseE s = 0
  · rw [if_pos h]
  · simp [h]

/-! ### the family -/
def sufB (m l : List Pr) : Bool := decide (m.length ≤ l.length) && decide (l.drop (l.length - m.length) = m)
def parentB (s : ByteArray) : Bool := !(compsV s).isEmpty
def parentV (s : ByteArray) : ByteArray := if (compsV s).isEmpty then ByteArray.empty else fmtV ((compsV s).drop 1)
def underB (s base : ByteArray) : Bool := normB s && normB base && sufB (compsV base) (compsV s)
def childE (s : ByteArray) (p : Pr) : Int := if normB s then fmtE (p :: compsV s) else 4
def childV (s : ByteArray) (p : Pr) : ByteArray := if normB s then fmtV (p :: compsV s) else ByteArray.empty
def keptV (s base : ByteArray) : List Pr := (compsV s).take ((compsV s).length - (compsV base).length)
def rebE (s a b : ByteArray) : Int := if normB s && normB a && normB b then (if underB s a then fmtE (keptV s a ++ compsV b) else 6) else 4
def rebV (s a b : ByteArray) : ByteArray := if normB s && normB a && normB b then (if underB s a then fmtV (keptV s a ++ compsV b) else ByteArray.empty) else ByteArray.empty

theorem sufB_iff (m l : List Pr) : sufB m l = true ↔ ∃ k, l = k ++ m := by
  unfold sufB
  rw [Bool.and_eq_true, decide_eq_true_eq, decide_eq_true_eq]
  constructor
  · rintro ⟨h1, h2⟩
    exact ⟨l.take (l.length - m.length), by conv => lhs; rw [← List.take_append_drop (l.length - m.length) l, h2]⟩
  · rintro ⟨k, rfl⟩
    refine ⟨by simp, ?_⟩
    rw [List.length_append, Nat.add_sub_cancel, List.drop_left]
theorem norm_empty : normB ByteArray.empty = true ∧ compsV ByteArray.empty = [] := by
  have h : Comps [] := ⟨fun p hp => (by cases hp), by simp, rfl⟩
  have e : fmtV [] = ByteArray.empty := rfl
  rw [← e]; exact h.back
theorem under_iff (s base : ByteArray) : underB s base = true ↔ normB s = true ∧ normB base = true ∧ ∃ k, compsV s = k ++ compsV base := by
  unfold underB; rw [Bool.and_eq_true, Bool.and_eq_true, sufB_iff, and_assoc]
theorem under_refl (a : ByteArray) : underB a a = normB a := by
  rw [Bool.eq_iff_iff, under_iff]
  exact ⟨fun h => h.1, fun h => ⟨h, h, [], rfl⟩⟩
theorem under_root (a : ByteArray) : underB a ByteArray.empty = normB a := by
  rw [Bool.eq_iff_iff, under_iff]
  exact ⟨fun h => h.1, fun h => ⟨h, norm_empty.1, compsV a, by rw [norm_empty.2, List.append_nil]⟩⟩
theorem under_trans {a b c : ByteArray} (h1 : underB a b = true) (h2 : underB b c = true) : underB a c = true := by
  rw [under_iff] at *
  obtain ⟨ha, hb, k, hk⟩ := h1
  obtain ⟨_, hc, m, hm⟩ := h2
  exact ⟨ha, hc, k ++ m, by rw [hk, hm, List.append_assoc]⟩
theorem under_anti {a b : ByteArray} (h1 : underB a b = true) (h2 : underB b a = true) : a = b := by
  rw [under_iff] at *
  obtain ⟨ha, hb, k, hk⟩ := h1
  obtain ⟨_, _, m, hm⟩ := h2
  have hl := congrArg List.length hk
  have hl2 := congrArg List.length hm
  rw [List.length_append] at hl hl2
  have : k = [] := List.length_eq_zero_iff.1 (by omega)
  rw [this, List.nil_append] at hk
  rw [← (comps_norm ha).2, ← (comps_norm hb).2, hk]
theorem parent_norm {s : ByteArray} (h : parentB s = true) : normB s = true ∧ 0 < (compsV s).length := by
  unfold parentB at h
  have h1 : compsV s ≠ [] := by intro e; rw [e] at h; simp at h
  refine ⟨?_, List.length_pos_iff.2 h1⟩
  cases hn : normB s
  · exact absurd (comps_none hn) h1
  · rfl
theorem under_parent {s : ByteArray} (h : parentB s = true) : underB s (parentV s) = true := by
  obtain ⟨hn, hp⟩ := parent_norm h
  have hc := (comps_norm hn).1.drop 1
  have hv : parentV s = fmtV ((compsV s).drop 1) := by unfold parentV; unfold parentB at h; rw [if_neg (by simpa using h)]
  rw [hv, under_iff]
  exact ⟨hn, hc.back.1, (compsV s).take 1, by rw [hc.back.2, List.take_append_drop]⟩
theorem child_ok {s : ByteArray} {p : Pr} (h : childE s p = 0) : normB s = true ∧ normB (childV s p) = true ∧ compsV (childV s p) = canP p :: compsV s := by
  unfold childE at h
  cases hn : normB s
  · rw [hn] at h; simp at h
  · rw [hn, if_pos rfl] at h
    have hv : childV s p = fmtV (p :: compsV s) := by unfold childV; rw [hn]; rfl
    rw [hv]
    refine ⟨rfl, norm_fmt h, ?_⟩
    rw [comps_fmt h, List.map_cons, (comps_norm hn).1.can]
theorem child_back {s : ByteArray} {p : Pr} (h : childE s p = 0) :
    parentB (childV s p) = true ∧ parentV (childV s p) = s ∧ (compsV (childV s p)).length = (compsV s).length + 1 ∧ underB (childV s p) s = true ∧ underB s (childV s p) = false := by
  obtain ⟨hn, hc, hv⟩ := child_ok h
  refine ⟨by unfold parentB; rw [hv]; rfl, ?_, by rw [hv]; rfl, ?_, ?_⟩
  · unfold parentV; rw [hv]
    show fmtV (compsV s) = s
    exact (comps_norm hn).2
  · rw [under_iff]; exact ⟨hc, hn, [canP p], by rw [hv]; rfl⟩
  · rw [Bool.eq_false_iff]
    intro e
    rw [under_iff] at e
    obtain ⟨_, _, k, hk⟩ := e
    have := congrArg List.length hk
    rw [hv, List.length_append, List.length_cons] at this
    omega
theorem reb_ok {s a b : ByteArray} (h : rebE s a b = 0) : normB s = true ∧ normB a = true ∧ normB b = true ∧ compsV s = keptV s a ++ compsV a ∧ normB (rebV s a b) = true ∧ compsV (rebV s a b) = keptV s a ++ compsV b := by
  unfold rebE at h
  by_cases hn : (normB s && normB a && normB b) = true
  · rw [if_pos hn] at h
    by_cases hu : underB s a = true
    · rw [if_pos hu] at h
      have hv : rebV s a b = fmtV (keptV s a ++ compsV b) := by unfold rebV; rw [if_pos hn, if_pos hu]
      simp only [Bool.and_eq_true] at hn
      obtain ⟨_, _, k, hk⟩ := (under_iff _ _).1 hu
      have hkept : keptV s a = k := by unfold keptV; rw [hk, List.length_append, Nat.add_sub_cancel, List.take_left]
      refine ⟨hn.1.1, hn.1.2, hn.2, by rw [hkept]; exact hk, by rw [hv]; exact norm_fmt h, ?_⟩
      have hcan : (keptV s a).map canP = keptV s a := ((comps_norm hn.1.1).1.take _).can
      rw [hv, comps_fmt h, List.map_append, (comps_norm hn.2).1.can, hcan]
    · rw [if_neg hu] at h; simp at h
  · rw [if_neg hn] at h; simp at h
theorem reb_back {s a b : ByteArray} (h : rebE s a b = 0) : rebE (rebV s a b) b a = 0 ∧ rebV (rebV s a b) b a = s ∧ underB (rebV s a b) b = true := by
  obtain ⟨hs, ha, hb, hk, ht, hv⟩ := reb_ok h
  have hu : underB (rebV s a b) b = true := by rw [under_iff]; exact ⟨ht, hb, _, hv⟩
  have hkept : ∀ t, compsV t = keptV s a ++ compsV b → keptV t b = keptV s a := fun t hv => by
    conv => lhs; unfold keptV
    rw [hv, List.length_append, Nat.add_sub_cancel, List.take_left]
  have hkept := hkept _ hv
  have hn : (normB (rebV s a b) && normB b && normB a) = true := by rw [ht, hb, ha]; rfl
  generalize rebV s a b = t at hu hkept hn hv ht ⊢
  refine ⟨?_, ?_, hu⟩
  · unfold rebE; rw [if_pos hn, if_pos hu, hkept, ← hk]; exact (comps_norm hs).1.fmt
  · unfold rebV; rw [if_pos hn, if_pos hu, hkept, ← hk]
    exact (comps_norm hs).2

/-! ### the order -/
structure Ord3 {α : Type} (f : α → α → Int) : Prop where
  range : ∀ a b, f a b = -1 ∨ f a b = 0 ∨ f a b = 1
  anti : ∀ a b, f b a = - f a b
  zero : ∀ a b, f a b = 0 ↔ a = b
  trans : ∀ a b c, f a b ≤ 0 → f b c ≤ 0 → f a c ≤ 0
def cmpP (p q : Pr) : Int := if cmpS p.1 q.1 = 0 then cmpS p.2 q.2 else cmpS p.1 q.1
def cmpL : List Pr → List Pr → Int
  | [], [] => 0
  | [], _ :: _ => -1
  | _ :: _, [] => 1
  | p :: a, q :: b => if cmpP p q = 0 then cmpL a b else cmpP p q
def cmpN (a b : ByteArray) : Int := if normB a then (if normB b then cmpL (compsV a).reverse (compsV b).reverse else -1) else (if normB b then 1 else cmpS a b)
theorem cmpS_ord : Ord3 cmpS :=
  ⟨fun a b => cb_range _ _, fun a b => cb_anti _ _, fun a b => by unfold cmpS; rw [cb_zero]; exact ⟨ba_ext, fun e => by rw [e]⟩, fun a b c h1 h2 => cb_trans _ _ _ h1 h2⟩
theorem cmpP_ord : Ord3 cmpP := by
  have S := cmpS_ord
  refine ⟨fun a b => ?_, fun a b => ?_, fun a b => ?_, fun a b c h1 h2 => ?_⟩
  · unfold cmpP; split
    · exact S.range _ _
    · exact S.range _ _
  · unfold cmpP
    rw [S.anti a.1 b.1, S.anti a.2 b.2]
    by_cases h : cmpS a.1 b.1 = 0
    · rw [if_pos h, if_pos (by omega)]
    · rw [if_neg h, if_neg (by omega)]
  · unfold cmpP
    by_cases h : cmpS a.1 b.1 = 0
    · rw [if_pos h, S.zero]; rw [S.zero] at h
      exact ⟨fun e => Prod.ext h e, fun e => by rw [e]⟩
    · rw [if_neg h]
      exact ⟨fun e => absurd e h, fun e => absurd (by rw [e]; exact (S.zero _ _).2 rfl) h⟩
  · unfold cmpP at *
    by_cases h : cmpS a.1 b.1 = 0
    · rw [if_pos h] at h1
      have e := (S.zero _ _).1 h
      rw [e]
      by_cases g : cmpS b.1 c.1 = 0
      · rw [if_pos g] at h2 ⊢; exact S.trans _ _ _ h1 h2
      · rw [if_neg g] at h2 ⊢; exact h2
    · rw [if_neg h] at h1
      by_cases g : cmpS b.1 c.1 = 0
      · rw [if_pos g] at h2
        have e := (S.zero _ _).1 g
        rw [← e, if_neg h]; exact h1
      · rw [if_neg g] at h2
        have h3 := S.trans _ _ _ h1 h2
        rw [if_neg (fun e => ?_)]
        · exact h3
        · have e2 := (S.zero _ _).1 e
          rw [← e2] at h2 g
          have := S.anti a.1 b.1
          omega
theorem cmpL_range : ∀ a b, cmpL a b = -1 ∨ cmpL a b = 0 ∨ cmpL a b = 1
  | [], [] => by simp [cmpL]
  | [], _ :: _ => by simp [cmpL]
  | _ :: _, [] => by simp [cmpL]
  | p :: a, q :: b => by
    unfold cmpL; split
    · exact cmpL_range a b
    · exact cmpP_ord.range _ _
theorem cmpL_anti : ∀ a b, cmpL b a = - cmpL a b
  | [], [] => by simp [cmpL]
  | [], _ :: _ => by simp [cmpL]
  | _ :: _, [] => by simp [cmpL]
  | p :: a, q :: b => by
    unfold cmpL
    have h := cmpP_ord.anti p q
    by_cases e : cmpP p q = 0
    · rw [if_pos e, if_pos (by omega)]; exact cmpL_anti a b
    · rw [if_neg e, if_neg (by omega)]; exact h
theorem cmpL_zero : ∀ a b, cmpL a b = 0 ↔ a = b
  | [], [] => by simp [cmpL]
  | [], _ :: _ => by simp [cmpL]
  | _ :: _, [] => by simp [cmpL]
  | p :: a, q :: b => by
    unfold cmpL
    by_cases e : cmpP p q = 0
    · rw [if_pos e, cmpL_zero a b]
      have := (cmpP_ord.zero p q).1 e
      rw [this]; simp
    · rw [if_neg e]
      refine ⟨fun h => absurd h e, fun h => ?_⟩
      rw [List.cons.injEq] at h
      exact absurd ((cmpP_ord.zero p q).2 h.1) e
theorem cmpL_trans : ∀ a b c, cmpL a b ≤ 0 → cmpL b c ≤ 0 → cmpL a c ≤ 0
  | [], _, [] => by simp [cmpL]
  | [], _, _ :: _ => by simp [cmpL]
  | _ :: _, [], _ => by simp [cmpL]
  | _ :: _, _ :: _, [] => by simp [cmpL]
  | p :: a, q :: b, r :: c => by
    unfold cmpL
    intro h1 h2
    by_cases e : cmpP p q = 0
    · rw [if_pos e] at h1
      have e1 := (cmpP_ord.zero p q).1 e
      rw [e1]
      by_cases g : cmpP q r = 0
      · rw [if_pos g] at h2 ⊢; exact cmpL_trans a b c h1 h2
      · rw [if_neg g] at h2 ⊢; exact h2
    · rw [if_neg e] at h1
      by_cases g : cmpP q r = 0
      · have e1 := (cmpP_ord.zero q r).1 g
        rw [← e1, if_neg e]; exact h1
      · rw [if_neg g] at h2
        have h3 := cmpP_ord.trans _ _ _ h1 h2
        rw [if_neg (fun e2 => ?_)]
        · exact h3
        · have e3 := (cmpP_ord.zero _ _).1 e2
          rw [← e3] at h2 g
          have := cmpP_ord.anti p q
          omega
/-- what lies between two lists with one beginning has it, too -/
theorem cmpL_between : ∀ (m a b c : List Pr), cmpL (m ++ a) b ≤ 0 → cmpL b (m ++ c) ≤ 0 → ∃ k, b = m ++ k
  | [], _, b, _, _, _ => ⟨b, rfl⟩
  | p :: m, a, [], c, h1, h2 => by simp [cmpL] at h1
  | p :: m, a, q :: b, c, h1, h2 => by
    rw [List.cons_append] at h1 h2
    unfold cmpL at h1 h2
    have han := cmpP_ord.anti p q
    by_cases e : cmpP p q = 0
    · have e1 := (cmpP_ord.zero p q).1 e
      rw [if_pos e] at h1
      rw [if_pos (by omega)] at h2
      obtain ⟨k, hk⟩ := cmpL_between m a b c h1 h2
      exact ⟨k, by rw [e1, hk]; rfl⟩
    · rw [if_neg e] at h1
      rw [if_neg (by omega)] at h2
      omega
theorem cmpL_pre : ∀ (m k : List Pr), k ≠ [] → cmpL m (m ++ k) = -1
  | [], [], h => absurd rfl h
  | [], _ :: _, _ => by simp [cmpL]
  | p :: m, k, h => by
    rw [List.cons_append]
    unfold cmpL
    rw [if_pos ((cmpP_ord.zero p p).2 rfl)]; exact cmpL_pre m k h
theorem comps_inj {a b : ByteArray} (ha : normB a = true) (hb : normB b = true) (h : compsV a = compsV b) : a = b := by
  rw [← (comps_norm ha).2, ← (comps_norm hb).2, h]
theorem cmpN_ord : Ord3 cmpN := by
  have S := cmpS_ord
  refine ⟨fun a b => ?_, fun a b => ?_, fun a b => ?_, fun a b c => ?_⟩
  · unfold cmpN
    cases normB a <;> cases normB b <;> simp
    · exact S.range _ _
    · exact cmpL_range _ _
  · unfold cmpN
    cases normB a <;> cases normB b <;> simp
    · exact S.anti _ _
    · exact cmpL_anti _ _
  · unfold cmpN
    cases ha : normB a <;> cases hb : normB b <;> simp
    · exact S.zero _ _
    · intro e; rw [e, hb] at ha; cases ha
    · intro e; rw [e, hb] at ha; cases ha
    · rw [cmpL_zero]
      exact ⟨fun h => comps_inj ha hb (List.reverse_inj.1 h), fun h => by rw [h]⟩
  · unfold cmpN
    cases normB a <;> cases normB b <;> cases normB c <;> simp
    · exact S.trans _ _ _
    · exact cmpL_trans _ _ _
theorem cmpN_under {a b : ByteArray} (h : a ≠ b) (hu : underB b a = true) : cmpN a b = -1 := by
  obtain ⟨hb, ha, k, hk⟩ := (under_iff _ _).1 hu
  unfold cmpN
  rw [ha, hb, if_pos rfl, if_pos rfl, hk, List.reverse_append]
  refine cmpL_pre _ _ fun e => h ?_
  have : k = [] := by simpa using e
  rw [this, List.nil_append] at hk
  exact comps_inj ha hb hk.symm
theorem cmpN_between {a b c base : ByteArray} (ha : underB a base = true) (hc : underB c base = true) (hb : normB b = true) (h1 : cmpN a b ≤ 0) (h2 : cmpN b c ≤ 0) : underB b base = true := by
  obtain ⟨na, nb, k, hk⟩ := (under_iff _ _).1 ha
  obtain ⟨nc, _, m, hm⟩ := (under_iff _ _).1 hc
  unfold cmpN at h1 h2
  rw [na, hb, if_pos rfl, if_pos rfl, hk, List.reverse_append] at h1
  rw [hb, nc, if_pos rfl, if_pos rfl, hm, List.reverse_append] at h2
  obtain ⟨j, hj⟩ := cmpL_between _ _ _ _ h1 h2
  rw [under_iff]
  refine ⟨hb, nb, j.reverse, ?_⟩
  have := congrArg List.reverse hj
  rw [List.reverse_reverse, List.reverse_append, List.reverse_reverse] at this
  exact this

end Nam
end Go.Proofs.YtclfjdnemafmeaaGreatDoor
end

section
/-
  Plain facts for the loops that look for a separator and read a value; contracts of name.mark, name.cut and the specification's special and next. Condition: at most 1000000000 bytes.
-/
set_option maxRecDepth 100000
set_option linter.unusedVariables false
set_option linter.unusedSimpArgs false
set_option linter.unnecessarySimpa false
namespace Go.Proofs.YtclfjdnemafmeaaGreatDoor
namespace Nam
open Go.RowKit Go.PlainAid

theorem mark_table : ∀ n : Nat, n < 256 → decide (0 ≤ Lib.indexByte [44, 61, 43, 92] (UInt8.ofNat n)) = spec4 (UInt8.ofNat n) := by decide +kernel
theorem mark_lib (c : UInt8) : decide (0 ≤ Lib.indexByte [44, 61, 43, 92] c) = spec4 c := by
  have := mark_table c.toNat c.toNat_lt
  rwa [UInt8.ofNat_toNat] at this
set_option maxRecDepth 100000 in
set_option maxHeartbeats 1000000 in
theorem mark_s (x : Int) (c : UInt8) (w : World) (hx : x = (c.toNat : Int)) :
    Calls Tryz.prog 229 #[.int .u8 x] w fun e w' => e = .returned (.bool (spec4 c)) ∧ w = w' := by
  have HX := Lib.hid (show x.toNat.toUInt8 = c by subst hx; simp)
  have HM := Lib.hid (mark_lib c)
  clear hx
  go_enter Tryz.func229, Tryz.ntmps229
  go_wp2_with fail
  refine (Tryz.strings_IndexByte ⟨#[44, 61, 43, 92]⟩ x _).mono ?_
  rintro e w' ⟨rfl, rfl⟩
  rw [HX.out]
  generalize hv : Lib.indexByte (⟨#[44, 61, 43, 92]⟩ : ByteArray).data.toList c = v
  have HV := Lib.hid hv; clear hv
  go_wp2_with fail
  go_ret
  exact ⟨by rw [← HM.out, ← HV.out]; rfl, rfl⟩
set_option maxHeartbeats 1000000 in
theorem special_s (x : Int) (c : UInt8) (w : World) (hx : x = (c.toNat : Int)) :
    Calls Tryz.prog 162 #[.int .u8 x] w fun e w' => e = .returned (.bool (spec4 c)) ∧ w = w' := by
  have key : ∀ d : UInt8, (x == (d.toNat : Int)) = (c == d) := fun d => by
    rw [Bool.eq_iff_iff, beq_iff_eq, beq_iff_eq, hx]
    exact ⟨fun h => UInt8.toNat_inj.1 (by omega), fun h => by rw [h]⟩
  have k1 : (x == 44) = (c == 44) := key 44
  have k2 : (x == 61) = (c == 61) := key 61
  have k3 : (x == 43) = (c == 43) := key 43
  have k4 : (x == 92) = (c == 92) := key 92
  have HS : Hid (spec4 c = ((x == 44) || (x == 61) || (x == 43) || (x == 92))) := Lib.hid (by unfold spec4; rw [k1, k2, k3, k4])
  clear k1 k2 k3 k4 key hx
  cases a1 : (x == 44) <;> cases a2 : (x == 61) <;> cases a3 : (x == 43) <;> cases a4 : (x == 92)
  all_goals
    rw [a1, a2, a3, a4] at HS
    go_enter Tryz.func162, Tryz.ntmps162
    go_wp2
    go_ret
    exact ⟨by rw [HS.out]; rfl, rfl⟩

/-! ### where the separator stands -/
theorem next_here (c : UInt8) (s : ByteArray) (i : Nat) (h : i < s.size) (hc : chr s i = c) : nextP c (s.data.toList.drop i) = 0 := by
  rw [drop_chr s i h]; unfold nextP; rw [if_pos hc]
theorem next_esc (c : UInt8) (s : ByteArray) (i : Nat) (h : i < s.size) (hc : chr s i ≠ c) (h92 : chr s i = 92) :
    nextP c (s.data.toList.drop i) = if i + 1 < s.size then nextP c (s.data.toList.drop (i + 2)) + 2 else 1 := by
  rw [drop_chr s i h]
  conv => lhs; unfold nextP
  rw [if_neg hc, if_pos h92]
  by_cases h1 : i + 1 < s.size
  · rw [drop_chr s (i + 1) h1, if_pos h1]
  · rw [List.drop_eq_nil_of_le (by rw [← Lib.size_eq]; omega), if_neg h1]
theorem next_other (c : UInt8) (s : ByteArray) (i : Nat) (h : i < s.size) (hc : chr s i ≠ c) (h92 : chr s i ≠ 92) :
    nextP c (s.data.toList.drop i) = nextP c (s.data.toList.drop (i + 1)) + 1 := by
  rw [drop_chr s i h]
  conv => lhs; unfold nextP
  rw [if_neg hc, if_neg h92]
/-- what the loop knows at place i -/
def NextAt (c : UInt8) (s : ByteArray) (i : Nat) : Prop := i ≤ s.size + 1 ∧ nextP c s.data.toList = min (i + nextP c (s.data.toList.drop i)) s.size
theorem nextAt_zero (c : UInt8) (s : ByteArray) : NextAt c s 0 := by
  refine ⟨by omega, ?_⟩
  have := nextP_le c s.data.toList
  rw [← Lib.size_eq] at this
  rw [List.drop_zero]; omega
theorem nextAt_here {c : UInt8} {s : ByteArray} {i : Nat} (h : NextAt c s i) (hi : i < s.size) (hc : chr s i = c) : nextP c s.data.toList = i := by
  rw [h.2, next_here c s i hi hc]; omega
theorem nextAt_esc {c : UInt8} {s : ByteArray} {i : Nat} (h : NextAt c s i) (hi : i < s.size) (hc : chr s i ≠ c) (h92 : chr s i = 92) : NextAt c s (i + 2) := by
  refine ⟨by omega, ?_⟩
  rw [h.2, next_esc c s i hi hc h92]
  by_cases h1 : i + 1 < s.size
  · rw [if_pos h1]; omega
  · rw [if_neg h1, List.drop_eq_nil_of_le (by rw [← Lib.size_eq]; omega)]; simp [nextP]; omega
theorem nextAt_other {c : UInt8} {s : ByteArray} {i : Nat} (h : NextAt c s i) (hi : i < s.size) (hc : chr s i ≠ c) (h92 : chr s i ≠ 92) : NextAt c s (i + 1) := by
  refine ⟨by omega, ?_⟩
  rw [h.2, next_other c s i hi hc h92]; omega
theorem nextAt_end {c : UInt8} {s : ByteArray} {i : Nat} (h : NextAt c s i) (hi : ¬ i < s.size) : nextP c s.data.toList = s.size := by
  rw [h.2]; omega
theorem bt_ne (s : ByteArray) (i : Nat) (c : UInt8) : (bt s i == (c.toNat : Int)) = decide (chr s i = c) := by
  rw [bt_chr, Bool.eq_iff_iff, beq_iff_eq, decide_eq_true_eq]
  exact ⟨fun h => UInt8.toNat_inj.1 (by omega), fun h => by rw [h]⟩

def cutA (c : UInt8) (s : ByteArray) : ByteArray := tk s (nextP c s.data.toList)
def cutZ (c : UInt8) (s : ByteArray) : ByteArray := if nextP c s.data.toList < s.size then dr s (nextP c s.data.toList + 1) else ByteArray.empty
def cutF (c : UInt8) (s : ByteArray) : Bool := decide (nextP c s.data.toList < s.size)
theorem extract_tk (s : ByteArray) (k : Nat) : s.extract 0 k = tk s k := by
  have : s = ⟨s.data.toList.toArray⟩ := (Lib.mk_data s).symm
  rw [this, Lib.extract_mk, List.drop_zero]; rfl
theorem cut_hit {c : UInt8} {s : ByteArray} {i : Nat} (h : nextP c s.data.toList = i) (hi : i < s.size) : cutA c s = s.extract 0 i ∧ cutZ c s = s.extract (i + 1) s.size ∧ cutF c s = true := by
  unfold cutA cutZ cutF
  rw [h, if_pos hi]
  exact ⟨(extract_tk s i).symm, (Lib.extract_from s (i + 1)).symm, decide_eq_true hi⟩
theorem cut_miss {c : UInt8} {s : ByteArray} (h : nextP c s.data.toList = s.size) : cutA c s = s ∧ cutZ c s = ByteArray.empty ∧ cutF c s = false := by
  unfold cutA cutZ cutF
  rw [h, if_neg (Nat.lt_irrefl _), tk_all]
  exact ⟨rfl, rfl, decide_eq_false (Nat.lt_irrefl _)⟩

set_option maxRecDepth 100000 in
set_option maxHeartbeats 2000000 in
theorem cut_s (s : ByteArray) (x : Int) (c : UInt8) (w : World) (hs : s.size ≤ 1000000000) (hx : x = (c.toNat : Int)) :
    Calls Tryz.prog 194 #[.string s, .int .u8 x] w fun e w' => e = .returned (.tuple #[.string (cutA c s), .string (cutZ c s), .bool (cutF c s)]) ∧ Below w.heap.size w w' := by
  have hb := get_bt s
  have HQ := Lib.hid (fun i => show (bt s i == x) = decide (chr s i = c) by rw [hx]; exact bt_ne s i c)
  clear hx
  go_enter Tryz.func194, Tryz.ntmps194
  go_wp2
  go_loop [7] (fun iv => ∃ i : Nat, iv = .int .i64 i ∧ i ≤ s.size + 1 ∧ Hid (NextAt c s i)) (fun iv => s.size + 1 - (intOf iv).toNat)
  case atStart => exact ⟨0, rfl, by omega, Lib.hid (nextAt_zero c s)⟩
  case round =>
    obtain ⟨i, rfl, hi, HA⟩ := hrel
    by_cases hlt : i < s.size
    · have i0 : (0 : Int) ≤ (i : Int) := by omega
      cases c1 : (bt s i == x)
      · have HN := Lib.hid (show chr s i ≠ c by have := HQ.out i; rw [c1] at this; exact of_decide_eq_false this.symm)
        cases c2 : (bt s i == 92)
        · have HM := Lib.hid (show chr s i ≠ 92 by have := bt_ne s i 92; rw [show ((92 : UInt8).toNat : Int) = 92 from rfl, c2] at this; exact of_decide_eq_false this.symm)
          have HT := Lib.hid (nextAt_other HA.out hlt HN.out HM.out)
          go_wp2
          go_round
          case rel => exact ⟨i + 1, by go_num, by omega, HT⟩
          case measure => simp [intOf]; omega
        · have HM := Lib.hid (show chr s i = 92 by have := bt_ne s i 92; rw [show ((92 : UInt8).toNat : Int) = 92 from rfl, c2] at this; exact of_decide_eq_true this.symm)
          have HT := Lib.hid (nextAt_esc HA.out hlt HN.out HM.out)
          go_wp2
          go_round
          case rel => exact ⟨i + 2, by go_num, by omega, HT⟩
          case measure => simp [intOf]; omega
      · have HN := Lib.hid (show chr s i = c by have := HQ.out i; rw [c1] at this; exact of_decide_eq_true this.symm)
        have HC := Lib.hid (cut_hit (nextAt_here HA.out hlt HN.out) hlt)
        have m5 : IntKind.i64.wrap ((i : Int) + 1) = (i : Int) + 1 := IntWalk.i64_in _ (by omega)
        have k1 : (i : Int) ≤ (s.size : Int) := by omega
        have k2 : (0 : Int) ≤ (i : Int) + 1 := by omega
        have k3 : (i : Int) + 1 ≤ (s.size : Int) := by omega
        have k4 : ((i : Int) + 1).toNat = i + 1 := by omega
        go_wp2
        go_region_held3 (fun _ => True) (trivial) ((fail))
        go_wp2
        go_ret3
        exact ⟨by rw [HC.out.1, HC.out.2.1, HC.out.2.2]; rfl, (Below.refl _ _).drew⟩
    · have HC := Lib.hid (cut_miss (nextAt_end HA.out hlt))
      go_wp2
      go_ret3
      exact ⟨by rw [HC.out.1, HC.out.2.1, HC.out.2.2]; rfl, Below.refl _ _⟩

set_option maxRecDepth 100000 in
set_option maxHeartbeats 2000000 in
theorem next_s (s : ByteArray) (x : Int) (c : UInt8) (w : World) (hs : s.size ≤ 1000000000) (hx : x = (c.toNat : Int)) :
    Calls Tryz.prog 160 #[.string s, .int .u8 x] w fun e w' => e = .returned (.int .i64 (nextP c s.data.toList : Nat)) ∧ w = w' := by
  have hb := get_bt s
  have HQ := Lib.hid (fun i => show (bt s i == x) = decide (chr s i = c) by rw [hx]; exact bt_ne s i c)
  clear hx
  go_enter Tryz.func160, Tryz.ntmps160
  go_wp2
  go_loop [5] (fun iv => ∃ i : Nat, iv = .int .i64 i ∧ i ≤ s.size + 1 ∧ Hid (NextAt c s i)) (fun iv => s.size + 1 - (intOf iv).toNat)
  case atStart => exact ⟨0, rfl, by omega, Lib.hid (nextAt_zero c s)⟩
  case round =>
    obtain ⟨i, rfl, hi, HA⟩ := hrel
    by_cases hlt : i < s.size
    · have i0 : (0 : Int) ≤ (i : Int) := by omega
      cases c1 : (bt s i == x)
      · have HN := Lib.hid (show chr s i ≠ c by have := HQ.out i; rw [c1] at this; exact of_decide_eq_false this.symm)
        cases c2 : (bt s i == 92)
        · have HM := Lib.hid (show chr s i ≠ 92 by have := bt_ne s i 92; rw [show ((92 : UInt8).toNat : Int) = 92 from rfl, c2] at this; exact of_decide_eq_false this.symm)
          have HT := Lib.hid (nextAt_other HA.out hlt HN.out HM.out)
          go_wp2
          go_round
          case rel => exact ⟨i + 1, by go_num, by omega, HT⟩
          case measure => simp [intOf]; omega
        · have HM := Lib.hid (show chr s i = 92 by have := bt_ne s i 92; rw [show ((92 : UInt8).toNat : Int) = 92 from rfl, c2] at this; exact of_decide_eq_true this.symm)
          have HT := Lib.hid (nextAt_esc HA.out hlt HN.out HM.out)
          go_wp2
          go_round
          case rel => exact ⟨i + 2, by go_num, by omega, HT⟩
          case measure => simp [intOf]; omega
      · have HN := Lib.hid (show chr s i = c by have := HQ.out i; rw [c1] at this; exact of_decide_eq_true this.symm)
        have HC := Lib.hid (nextAt_here HA.out hlt HN.out)
        go_wp2
        go_ret
        exact ⟨by rw [HC.out]; rfl, rfl⟩
    · have HC := Lib.hid (nextAt_end HA.out hlt)
      go_wp2
      go_ret
      exact ⟨by rw [HC.out]; rfl, rfl⟩

end Nam
end Go.Proofs.YtclfjdnemafmeaaGreatDoor
end

section
/-
  Contracts of name.unescaped, name.escaped, name.check and of the specification's value. Condition: at most 1000000000 bytes.
-/
set_option maxRecDepth 100000
set_option linter.unusedVariables false
set_option linter.unusedSimpArgs false
set_option linter.unnecessarySimpa false
namespace Go.Proofs.YtclfjdnemafmeaaGreatDoor
namespace Nam
open Go.RowKit Go.PlainAid

theorem valQ_end (s : ByteArray) (i : Nat) (h : i < s.size) (h92 : chr s i = 92) (h1 : ¬ i + 1 < s.size) : valQ (s.data.toList.drop i) = none := by
  rw [drop_chr s i h, List.drop_eq_nil_of_le (by rw [← Lib.size_eq]; omega)]
  unfold valQ; rw [if_pos h92]
theorem valQ_esc (s : ByteArray) (i : Nat) (h : i + 1 < s.size) (h92 : chr s i = 92) :
    valQ (s.data.toList.drop i) = if spec4 (chr s (i + 1)) then (valQ (s.data.toList.drop (i + 2))).map (chr s (i + 1) :: ·) else none := by
  rw [drop_chr s i (by omega), drop_chr s (i + 1) h]
  conv => lhs; unfold valQ
  rw [if_pos h92]
theorem valQ_other (s : ByteArray) (i : Nat) (h : i < s.size) (h92 : chr s i ≠ 92) :
    valQ (s.data.toList.drop i) = if spec4 (chr s i) then none else (valQ (s.data.toList.drop (i + 1))).map (chr s i :: ·) := by
  rw [drop_chr s i h]
  conv => lhs; unfold valQ
  rw [if_neg h92]
theorem valP_end (s : ByteArray) (i : Nat) (h : i < s.size) (h92 : chr s i = 92) (h1 : ¬ i + 1 < s.size) : valP (s.data.toList.drop i) = none := by
  rw [drop_chr s i h, List.drop_eq_nil_of_le (by rw [← Lib.size_eq]; omega)]
  unfold valP; rw [if_pos h92]
theorem valP_esc (s : ByteArray) (i : Nat) (h : i + 1 < s.size) (h92 : chr s i = 92) :
    valP (s.data.toList.drop i) = if spec4 (chr s (i + 1)) then (valP (s.data.toList.drop (i + 2))).map (chr s (i + 1) :: ·) else none := by
  rw [drop_chr s i (by omega), drop_chr s (i + 1) h]
  conv => lhs; unfold valP
  rw [if_pos h92]
theorem valP_other (s : ByteArray) (i : Nat) (h : i < s.size) (h92 : chr s i ≠ 92) :
    valP (s.data.toList.drop i) = if chr s i = 61 ∨ chr s i = 43 then none else (valP (s.data.toList.drop (i + 1))).map (chr s i :: ·) := by
  rw [drop_chr s i h]
  conv => lhs; unfold valP
  rw [if_neg h92]
/-- what is known at place i: what has been read, and what is left -/
def ValAt (f : List UInt8 → Option (List UInt8)) (s : ByteArray) (i : Nat) (out : List UInt8) : Prop := f s.data.toList = (f (s.data.toList.drop i)).map (out ++ ·)
theorem valAt_step {f : List UInt8 → Option (List UInt8)} {s : ByteArray} {i j : Nat} {out : List UInt8} {c : UInt8} (h : ValAt f s i out) (e : f (s.data.toList.drop i) = (f (s.data.toList.drop j)).map (c :: ·)) : ValAt f s j (out ++ [c]) := by
  unfold ValAt at *
  rw [h, e, Option.map_map]; congr 1; funext l; simp
theorem valAt_none {f : List UInt8 → Option (List UInt8)} {s : ByteArray} {i : Nat} {out : List UInt8} (h : ValAt f s i out) (e : f (s.data.toList.drop i) = none) : f s.data.toList = none := by
  unfold ValAt at *
  rw [h, e]; rfl
theorem valAt_end {f : List UInt8 → Option (List UInt8)} {s : ByteArray} {i : Nat} {out : List UInt8} (h : ValAt f s i out) (hf : f [] = some []) (hi : ¬ i < s.size) : f s.data.toList = some out := by
  unfold ValAt at *
  rw [h, List.drop_eq_nil_of_le (by rw [← Lib.size_eq]; omega), hf]; simp
def optB (o : Option (List UInt8)) : ByteArray := ofB (o.getD [])
theorem chr_92 (s : ByteArray) (i : Nat) {b : Bool} (h : (bt s i == 92) = b) : decide (chr s i = 92) = b := by
  rw [← h]; exact (bt_ne s i 92).symm

set_option maxRecDepth 100000 in
set_option maxHeartbeats 4000000 in
theorem unescaped_s (s : ByteArray) (w : World) (hs : s.size ≤ 1000000000) :
    Calls Tryz.prog 228 #[.string s] w fun e w' => e = .returned (.tuple #[.string (optB (valQ s.data.toList)), .bool (valQ s.data.toList).isSome]) ∧ Below w.heap.size w w' := by
  have hb := get_bt s
  have HN := Lib.hid (bld_new w)
  go_enter Tryz.func228, Tryz.ntmps228
  go_wp2
  go_loopw [5] (fun iv wr => ∃ (i : Nat) (out : List UInt8), i ≤ s.size ∧ iv = .int .i64 i ∧ out.length ≤ i ∧ Hid (ValAt valQ s i out) ∧ Bld w.heap.size w.heap.size out wr ∧ Below w.heap.size w wr)
    (fun iv _ => s.size - (intOf iv).toNat)
  case atStart => exact ⟨0, [], Nat.zero_le _, rfl, by simp, Lib.hid (by unfold ValAt; simp), HN.out, (Below.refl _ _).alloc (Nat.le_refl _) _⟩
  case round =>
    obtain ⟨i, out, hi, rfl, hol, HU, HB, hbel⟩ := hrel
    by_cases hlt : i < s.size
    · have HC := Lib.hid (bt_chr s i)
      cases c0 : (bt s i == 92)
      · have HM := Lib.hid (of_decide_eq_false (chr_92 s i c0))
        have HE := Lib.hid (valQ_other s i hlt HM.out)
        cases c1 : spec4 (chr s i)
        · rw [c1] at HE
          have HT := Lib.hid (valAt_step (j := i + 1) (c := chr s i) HU.out HE.out)
          go_wp2_with (go_at_call 229; refine (mark_s _ (chr s i) _ HC.out).mono ?_; rintro e w' ⟨rfl, rfl⟩; rw [c1])
          refine (writeByte_s w.heap.size w.heap.size _ (chr s i) _ _ HB HC.out (by omega) hbel.size).mono ?_
          rintro e w1 ⟨rfl, HB1, hb1⟩
          go_wp2
          go_roundw
          case rel => exact ⟨i + 1, _, by omega, by go_num, by simp; omega, HT, HB1, hbel.trans hb1⟩
          case measure => simp [intOf]; omega
        · rw [c1] at HE
          have HF := Lib.hid (valAt_none HU.out HE.out)
          go_wp2_with (go_at_call 229; refine (mark_s _ (chr s i) _ HC.out).mono ?_; rintro e w' ⟨rfl, rfl⟩; rw [c1])
          go_ret2
          exact ⟨by rw [HF.out]; rfl, hbel⟩
      · have HM := Lib.hid (of_decide_eq_true (chr_92 s i c0))
        by_cases h1 : i + 1 < s.size
        · have HE := Lib.hid (valQ_esc s i h1 HM.out)
          have HC1 := Lib.hid (bt_chr s (i + 1))
          have q1 : ((i : Int) + 1 == (s.size : Int)) = false := beq_eq_false_iff_ne.2 (by omega)
          have q2 : ((i : Int) + 1).toNat = i + 1 := by omega
          cases c1 : spec4 (chr s (i + 1))
          · rw [c1] at HE
            have HF := Lib.hid (valAt_none HU.out HE.out)
            go_wp2_with (go_at_call 229; refine (mark_s _ (chr s (i + 1)) _ HC1.out).mono ?_; rintro e w' ⟨rfl, rfl⟩; rw [c1])
            go_ret2
            exact ⟨by rw [HF.out]; rfl, hbel⟩
          · rw [c1] at HE
            have HT := Lib.hid (valAt_step (j := i + 2) (c := chr s (i + 1)) HU.out HE.out)
            go_wp2_with (go_at_call 229; refine (mark_s _ (chr s (i + 1)) _ HC1.out).mono ?_; rintro e w' ⟨rfl, rfl⟩; rw [c1])
            refine (writeByte_s w.heap.size w.heap.size _ (chr s (i + 1)) _ _ HB HC1.out (by omega) hbel.size).mono ?_
            rintro e w1 ⟨rfl, HB1, hb1⟩
            go_wp2
            go_roundw
            case rel => exact ⟨i + 2, _, by omega, by go_num, by simp; omega, HT, HB1, hbel.trans hb1⟩
            case measure => simp [intOf]; omega
        · have HF := Lib.hid (valAt_none HU.out (valQ_end s i hlt HM.out h1))
          have q1 : ((i : Int) + 1 == (s.size : Int)) = true := beq_iff_eq.2 (by omega)
          go_wp2
          go_ret2
          exact ⟨by rw [HF.out]; rfl, hbel⟩
    · have HF := Lib.hid (valAt_end HU.out rfl hlt)
      go_wp2_with (go_at_call 71; refine (string_s w.heap.size w.heap.size _ _ HB hbel.size).mono ?_; rintro e w1 ⟨rfl, hb1⟩)
      go_ret2
      exact ⟨by rw [HF.out]; rfl, hbel.trans hb1⟩

set_option maxRecDepth 100000 in
set_option maxHeartbeats 4000000 in
theorem value_s (s : ByteArray) (w : World) (hs : s.size ≤ 1000000000) :
    Calls Tryz.prog 199 #[.string s] w fun e w' => e = .returned (.tuple #[.string (optB (valP s.data.toList)), .bool (valP s.data.toList).isSome]) ∧ Below w.heap.size w w' := by
  have hb := get_bt s
  go_enter Tryz.func199, Tryz.ntmps199
  go_wp2
  go_loopw [4, 5] (fun bv iv wr => ∃ (i : Nat) (out : List UInt8), i ≤ s.size ∧ iv = .int .i64 i ∧ out.length ≤ i ∧ Hid (ValAt valP s i out) ∧ wr.ownsRow w.heap.size 5 1 bv out.length (bcells out) ∧ Below w.heap.size w wr)
    (fun _ iv _ => s.size - (intOf iv).toNat)
  case atStart => exact ⟨0, [], Nat.zero_le _, rfl, by simp, Lib.hid (by unfold ValAt; simp), World.ownsRow_nil _ _ _ _, Below.refl _ _⟩
  case round =>
    obtain ⟨i, out, hi, rfl, hol, HU, hown, hbel⟩ := hrel
    have i0 : (0 : Int) ≤ (i : Int) := by omega
    by_cases hlt : i < s.size
    · have HC := Lib.hid (bt_chr s i)
      cases c0 : (bt s i == 92)
      · have HM := Lib.hid (of_decide_eq_false (chr_92 s i c0))
        have HE := Lib.hid (valP_other s i hlt HM.out)
        have e61 : (bt s i == 61) = decide (chr s i = 61) := bt_ne s i 61
        have e43 : (bt s i == 43) = decide (chr s i = 43) := bt_ne s i 43
        by_cases d1 : chr s i = 61
        · have HF := Lib.hid (valAt_none HU.out (by rw [HE.out, if_pos (.inl d1)]))
          rw [decide_eq_true d1] at e61
          clear e43 d1
          go_wp2
          go_ret2
          exact ⟨by rw [HF.out]; rfl, hbel⟩
        · by_cases d2 : chr s i = 43
          · have HF := Lib.hid (valAt_none HU.out (by rw [HE.out, if_pos (.inr d2)]))
            rw [decide_eq_false d1] at e61
            rw [decide_eq_true d2] at e43
            clear d1 d2
            go_wp2
            go_ret2
            exact ⟨by rw [HF.out]; rfl, hbel⟩
          · have HT := Lib.hid (valAt_step (j := i + 1) (c := chr s i) HU.out (by rw [HE.out, if_neg (by rintro (h | h); exact d1 h; exact d2 h)]))
            rw [decide_eq_false d1] at e61
            rw [decide_eq_false d2] at e43
            clear d1 d2
            go_wp2_with (at_builtin; go_must (refine push_byte _ hown (.tmp 41) (.tmp 45) _ ?_ ?_ ?_ ?_ ?_ ?_ ?_; exact rfl; exact rfl; exact rfl; exact rfl; omega; exact hbel.size; intro v' w1 hown1 hb1))
            go_roundw
            case rel => exact ⟨i + 1, out ++ [chr s i], by omega, by go_num, by simp; omega, HT, by rw [List.length_append, bcells_append]; rw [HC.out] at hown1; exact hown1, hbel.trans hb1⟩
            case measure => simp [intOf]; omega
      · have HM := Lib.hid (of_decide_eq_true (chr_92 s i c0))
        by_cases h1 : i + 1 < s.size
        · have HE := Lib.hid (valP_esc s i h1 HM.out)
          have HC1 := Lib.hid (bt_chr s (i + 1))
          have q1 : decide ((s.size : Int) ≤ (i : Int) + 1) = false := decide_eq_false (by omega)
          have q2 : ((i : Int) + 1).toNat = i + 1 := by omega
          cases c1 : spec4 (chr s (i + 1))
          · rw [c1] at HE
            have HF := Lib.hid (valAt_none HU.out HE.out)
            go_wp2_with (go_at_call 162; refine (special_s _ (chr s (i + 1)) _ HC1.out).mono ?_; rintro e w' ⟨rfl, rfl⟩; rw [c1])
            go_ret2
            exact ⟨by rw [HF.out]; rfl, hbel⟩
          · rw [c1] at HE
            have HT := Lib.hid (valAt_step (j := i + 2) (c := chr s (i + 1)) HU.out HE.out)
            go_wp2_with (first
              | (go_at_call 162; refine (special_s _ (chr s (i + 1)) _ HC1.out).mono ?_; rintro e w' ⟨rfl, rfl⟩; rw [c1])
              | (at_builtin; go_must (refine push_byte _ hown (.tmp 41) (.tmp 45) _ ?_ ?_ ?_ ?_ ?_ ?_ ?_; exact rfl; exact rfl; exact rfl; exact rfl; omega; exact hbel.size; intro v' w1 hown1 hb1)))
            go_roundw
            case rel => exact ⟨i + 2, out ++ [chr s (i + 1)], by omega, by go_num, by simp; omega, HT, by rw [List.length_append, bcells_append]; rw [HC1.out] at hown1; exact hown1, hbel.trans hb1⟩
            case measure => simp [intOf]; omega
        · have HF := Lib.hid (valAt_none HU.out (valP_end s i hlt HM.out h1))
          have q1 : decide ((s.size : Int) ≤ (i : Int) + 1) = true := decide_eq_true (by omega)
          go_wp2
          go_ret2
          exact ⟨by rw [HF.out]; rfl, hbel⟩
    · have HF := Lib.hid (valAt_end HU.out rfl hlt)
      have hbk := back hown
      go_wp2
      go_ret2
      exact ⟨by rw [HF.out]; rfl, hbel⟩

theorem escV_snoc (l : List UInt8) (c : UInt8) : escV (l ++ [c]) = escV l ++ escB c := by unfold escV; simp
theorem escV_len : ∀ l : List UInt8, (escV l).length ≤ 2 * l.length
  | [] => by simp [escV]
  | c :: l => by
    have e : escV (c :: l) = escB c ++ escV l := rfl
    have := escV_len l
    rw [e, List.length_append, List.length_cons]
    unfold escB; split <;> simp <;> omega
theorem escV_step (s : ByteArray) (k : Nat) (h : k < s.size) : escV (s.data.toList.take (k + 1)) = escV (s.data.toList.take k) ++ escB (chr s k) := by rw [take_chr s k h, escV_snoc]
def escS (s : ByteArray) : ByteArray := ofB (escV s.data.toList)
theorem escS_size (s : ByteArray) : (escS s).size ≤ 2 * s.size := by unfold escS; rw [ofB_size, Lib.size_eq]; exact escV_len _

set_option maxRecDepth 100000 in
set_option maxHeartbeats 2000000 in
theorem escaped_s (s : ByteArray) (w : World) (hs : s.size ≤ 1000000000) :
    Calls Tryz.prog 198 #[.string s] w fun e w' => e = .returned (.string (escS s)) ∧ Below w.heap.size w w' := by
  have hb := get_bt s
  have HN := Lib.hid (bld_new w)
  go_enter Tryz.func198, Tryz.ntmps198
  go_wp2
  go_loopw [7] (fun i wr => ∃ k : Nat, k ≤ s.size ∧ i = .int .i64 k ∧ Bld w.heap.size w.heap.size (escV (s.data.toList.take k)) wr ∧ Below w.heap.size w wr)
    (fun i _ => s.size - (intOf i).toNat)
  case atStart => exact ⟨0, Nat.zero_le _, rfl, HN.out, (Below.refl _ _).alloc (Nat.le_refl _) _⟩
  case round =>
    obtain ⟨k, hk, rfl, HB, hbel⟩ := hrel
    have hl3 := escV_len (s.data.toList.take k)
    have hl4 : (s.data.toList.take k).length ≤ k := List.length_take_le _ _
    have HC := Lib.hid (bt_chr s k)
    by_cases hlt : k < s.size
    · have HST := Lib.hid (escV_step s k hlt)
      cases c1 : spec4 (chr s k)
      · have HST2 := Lib.hid (show escV (s.data.toList.take (k + 1)) = escV (s.data.toList.take k) ++ [chr s k] by rw [HST.out]; unfold escB; rw [c1]; rfl)
        go_wp2_with (go_at_call 229; refine (mark_s _ (chr s k) _ HC.out).mono ?_; rintro e w' ⟨rfl, rfl⟩; rw [c1])
        refine (writeByte_s w.heap.size w.heap.size _ (chr s k) _ _ HB HC.out (by omega) hbel.size).mono ?_
        rintro e w1 ⟨rfl, HB1, hb1⟩
        go_wp2
        go_roundw
        case rel => exact ⟨k + 1, by omega, by go_num, by rw [HST2.out]; exact HB1, hbel.trans hb1⟩
        case measure => simp [intOf]; omega
      · have HST2 := Lib.hid (show escV (s.data.toList.take (k + 1)) = (escV (s.data.toList.take k) ++ [92]) ++ [chr s k] by rw [HST.out]; unfold escB; rw [c1]; simp)
        go_wp2_with (go_at_call 229; refine (mark_s _ (chr s k) _ HC.out).mono ?_; rintro e w' ⟨rfl, rfl⟩; rw [c1])
        refine (writeByte_s w.heap.size w.heap.size _ 92 92 _ HB rfl (by omega) hbel.size).mono ?_
        rintro e w1 ⟨rfl, HB1, hb1⟩
        go_wp2_with fail
        refine (writeByte_s w.heap.size w.heap.size _ (chr s k) _ _ HB1 HC.out (by simp; omega) (Nat.le_trans hbel.size hb1.size)).mono ?_
        rintro e w2 ⟨rfl, HB2, hb2⟩
        go_wp2
        go_roundw
        case rel => exact ⟨k + 1, by omega, by go_num, by rw [HST2.out]; exact HB2, hbel.trans (hb1.trans hb2)⟩
        case measure => simp [intOf]; omega
    · have HT := Lib.hid (show s.data.toList.take k = s.data.toList by rw [List.take_of_length_le]; simp; omega)
      rw [HT.out] at HB
      go_wp2_with (go_at_call 71; refine (string_s w.heap.size w.heap.size _ _ HB hbel.size).mono ?_; rintro e w1 ⟨rfl, hb1⟩)
      go_ret
      exact ⟨rfl, hbel.trans hb1⟩

set_option maxRecDepth 100000 in
set_option maxHeartbeats 2000000 in
theorem check_s (p : Pr) (w : World) (h1 : p.1.size ≤ 1000000000) (h2 : p.2.size ≤ 1000000000) :
    Calls Tryz.prog 196 #[.agg #[.string p.1, .string p.2]] w fun e w' => e = .returned (.int .i64 (prE p)) ∧ Below w.heap.size w w' := by
  obtain ⟨a, b⟩ := p
  simp only at h1 h2
  cases c1 : nameB a
  · have HE := Lib.hid (show prE (a, b) = 5 by unfold prE; rw [if_pos c1])
    go_enter Tryz.func196, Tryz.ntmps196
    go_wp2_with (go_at_call 101; refine (name_s a _ h1).mono ?_; rintro e w' ⟨rfl, rfl⟩; rw [c1])
    go_ret
    exact ⟨by rw [HE.out]; rfl, (Below.refl _ _).alloc (Nat.le_refl _) _⟩
  · cases c2 : cleanB b
    · have HE := Lib.hid (show prE (a, b) = 8 by unfold prE; simp only []; rw [if_neg (by rw [c1]; decide), if_pos c2])
      go_enter Tryz.func196, Tryz.ntmps196
      go_wp2_with (first
        | (go_at_call 101; refine (name_s a _ h1).mono ?_; rintro e w' ⟨rfl, rfl⟩; rw [c1])
        | (go_at_call 91; refine (clean_s b _ h2).mono ?_; rintro e w' ⟨rfl, rfl⟩; rw [c2]))
      go_ret
      exact ⟨by rw [HE.out]; rfl, (Below.refl _ _).alloc (Nat.le_refl _) _⟩
    · have HE := Lib.hid (show prE (a, b) = 0 by unfold prE; simp only []; rw [if_neg (by rw [c1]; decide), if_neg (by rw [c2]; decide)])
      go_enter Tryz.func196, Tryz.ntmps196
      go_wp2_with (first
        | (go_at_call 101; refine (name_s a _ h1).mono ?_; rintro e w' ⟨rfl, rfl⟩; rw [c1])
        | (go_at_call 91; refine (clean_s b _ h2).mono ?_; rintro e w' ⟨rfl, rfl⟩; rw [c2]))
      go_ret
      exact ⟨by rw [HE.out]; rfl, (Below.refl _ _).alloc (Nat.le_refl _) _⟩

end Nam
end Go.Proofs.YtclfjdnemafmeaaGreatDoor
end
